/- Joined texts. -/
import Derived.Test.YtiimhhjkgeepjaaGreatDoorSccB
import Derived.Test.YtiimhhjkgeepjaaGreatDoorSccC
import Derived.Test.YtiimhhjkgeepjaaGreatDoorLateG
namespace Go.Proofs.YtiimhhjkgeepjaaGreatDoor
open Go.ChangeShapes Go.WideShapes Go.ChangeAt Go.RowKit Go.Deep Go.Maps
open Terms Tm
set_option maxHeartbeats 6400000
set_option maxRecDepth 20000
noncomputable def zBC (m:Mo) (ps:List (List (Int × Int))) (l:List (Int × Int)) (K:Nat):Gr:=⟨xpP m ps l K,((zAX m ps l).length:Nat),xpN m ps l K,xpT m ps l K,((zAA l).length:Nat)⟩
section
variable {m : Mo} {ps : List (List (Int × Int))} {l : List (Int × Int)} {K : Nat}
theorem zIW (h:zBB m ps l K) {i:Nat} (hi:i < K):zCc m ps l i=(xpP m ps l K).getD i (0,0):=
 (zOH (zAX m ps l) (zB2 m ps l) (Nat.le_of_lt hi) (h.2.2.1 i hi)).symm
theorem zR3 {K:Nat}:∀ {j:Nat},j < K->(xpN m ps l K).getD j []=zDj (xpP m ps l j) (zB2 m ps l (zCc m ps l j)):=by
 induction K with
 | zero=>intro j h;omega
 | succ K ih=>
  intro j h;rw [xpN,List.getD_eq_getElem?_getD]
  by_cases hj:j < K
  ·rw [List.getElem?_append_left (by rw [zC8];exact hj),<- List.getD_eq_getElem?_getD]
   exact ih hj
  ·obtain rfl:j=K:=by omega
   rw [List.getElem?_append_right (by rw [zC8];exact Nat.le_refl _),zC8]
   simp
theorem zGl {K:Nat}:∀ {j:Nat},j < K->(xpT m ps l K).getD j 0=zCW l (zAG m ps (zCc m ps l j).1) (zCc m ps l j).2:=by
 induction K with
 | zero=>intro j h;omega
 | succ K ih=>
  intro j h;rw [xpT,List.getD_eq_getElem?_getD]
  by_cases hj:j < K
  ·rw [List.getElem?_append_left (by rw [zDC];exact hj),<- List.getD_eq_getElem?_getD]
   exact ih hj
  ·obtain rfl:j=K:=by omega
   rw [List.getElem?_append_right (by rw [zDC];exact Nat.le_refl _),zDC]
   simp
theorem zIK (m:Mo) (ps:List (List (Int × Int))) (l:List (Int × Int)):(zAX m ps l).Nodup:=by
 have key:∀ k,(zB8 m ps l k).Nodup:=fun k=>by
  induction k with
  | zero=>simp [zB8]
  | succ k ih=>
   rw [zB8]
   split
   ·exact ih
   ·refine List.nodup_append.2 ⟨ih,by simp,fun a ha b hb e=>?_⟩
    rw [List.mem_singleton] at hb;subst hb;subst e;obtain ⟨_,d,h2,h3,_⟩:=zFN _ ha;simp only at h3
    omega
 exact key _
theorem zGo (h:zBB m ps l K) {i:Nat} (hi:i < K):((xpN m ps l K).getD i []).length=(zB2 m ps l ((xpP m ps l K).getD i (0,0))).length/\∀ q,q < (zB2 m ps l ((xpP m ps l K).getD i (0,0))).length->((xpN m ps l K).getD i []).getD q 0=(((xpP m ps l K).idxOf ((zB2 m ps l ((xpP m ps l K).getD i (0,0))).getD q (0,0)):Nat):Int)/\(zB2 m ps l ((xpP m ps l K).getD i (0,0))).getD q (0,0)∈xpP m ps l K:=by
 rw [zR3 hi,<- zIW h hi];refine ⟨zFZ _ _,fun q hq=>?_⟩
 have hmem:(zB2 m ps l (zCc m ps l i)).getD q (0,0)∈xpP m ps l (i+1):=by
  rw [zHT,zDU];refine .inr ?_
  rw [List.getD_eq_getElem?_getD,List.getElem?_eq_getElem hq]
  exact List.getElem_mem _
 have hpre:xpP m ps l (i+1) <+: xpP m ps l K:=zGR _ _ hi;refine ⟨?_,hpre.subset hmem⟩
 rw [zL8 hq,<- zHT,zG0 hpre hmem]
theorem zIS (l:List (Int × Int)) (letter:List Bool) (c:Int):0 <= zCW l letter c/\zCW l letter c < (2:Int) ^ (zAA l).length:=by
 unfold zCW
 split
 ·exact zGG _ _ _
 ·exact ⟨by omega,Int.pow_pos (by decide)⟩
theorem zR2 (hk:zAK m ps l=0) (h:zBB m ps l K):GOk (zBC m ps l K):=by
 have h6:=(zAv (zA3 hk).2).2.2.2.2
 have hbl:(zAX m ps l).length <= (xpP m ps l K).length:=by
  have h1:=(zGR (zAX m ps l) (zB2 m ps l) (Nat.zero_le K)).length_le
  have h2:(zAX m ps l).length <= (exS (zAX m ps l) (zB2 m ps l) 0).length:=by
   show _ <= (zAb [] (zAX m ps l)).length
   have hnd:=zFv (zAX m ps l) [] List.nodup_nil;have hsub:zAX m ps l ⊆ zAb [] (zAX m ps l):=fun x hx=>(zDU _ _ _).2 (.inr hx)
   exact (zIK m ps l).length_le_of_subset hsub
  exact Nat.le_trans h2 h1
 refine ⟨⟨by show (xpP m ps l K).length <= _;rw [h.1];exact h.2.1,by show (xpN m ps l K).length=(xpP m ps l K).length;rw [zC8,h.1],by show (xpT m ps l K).length=(xpP m ps l K).length;rw [zDC,h.1],by show (0:Int) <= ((zAX m ps l).length:Nat);omega,by show (((zAX m ps l).length:Nat):Int) <= ((xpP m ps l K).length:Nat);omega,by show (0:Int) <= ((zAA l).length:Nat);omega,by show (((zAA l).length:Nat):Int) <= 6;omega⟩,fun i hi=>?_⟩
 have hiK:i < K:=by have:i < (xpP m ps l K).length:=hi;rw [h.1] at this;exact this
 refine ⟨?_,fun q hq=>?_⟩
 ·unfold zIc top
  show 0 <= (xpT m ps l K).getD i 0/\(xpT m ps l K).getD i 0 <= 2 ^ (((zAA l).length:Nat):Int).toNat - 1
  rw [zGl hiK];have:=zIS l (zAG m ps (zCc m ps l i).1) (zCc m ps l i).2;rw [Int.toNat_natCast];omega
 ·obtain ⟨r1,r2⟩:=zGo h hiK
  have hq':q < (zB2 m ps l ((xpP m ps l K).getD i (0,0))).length:=by rw [<- r1];exact hq
  obtain ⟨r3,r4⟩:=r2 q hq'
  show 0 <= ((xpN m ps l K).getD i []).getD q 0/\((xpN m ps l K).getD i []).getD q 0 < ((xpP m ps l K).length:Nat)
  rw [r3];have:=List.idxOf_lt_length_of_mem r4;omega
theorem zJD (h:zBB m ps l K) {s x:Int × Int} (hs:s∈xpP m ps l K) (hx:x∈zB2 m ps l s):x∈xpP m ps l K/\(xpP m ps l K).idxOf x∈nxt (zBC m ps l K) ((xpP m ps l K).idxOf s):=by
 have hi:=List.idxOf_lt_length_of_mem hs;have hiK:(xpP m ps l K).idxOf s < K:=by rw [h.1] at hi;exact hi
 have he:(xpP m ps l K).getD ((xpP m ps l K).idxOf s) (0,0)=s:=by
  rw [List.getD_eq_getElem?_getD,List.getElem?_eq_getElem hi]
  exact List.getElem_idxOf hi
 obtain ⟨r1,r2⟩:=zGo h hiK;rw [he] at r1 r2;obtain ⟨q,hq,rfl⟩:=List.getElem_of_mem hx;have hg:(zB2 m ps l s).getD q (0,0)=(zB2 m ps l s)[q]:=by rw [List.getD_eq_getElem?_getD,List.getElem?_eq_getElem hq];rfl
 obtain ⟨r3,r4⟩:=r2 q hq;rw [hg] at r3 r4;refine ⟨r4,?_⟩
 unfold nxt;rw [List.mem_map];refine ⟨((xpN m ps l K).getD ((xpP m ps l K).idxOf s) []).getD q 0,?_,by rw [r3];rfl⟩
 show ((xpN m ps l K).getD ((xpP m ps l K).idxOf s) []).getD q 0∈(xpN m ps l K).getD ((xpP m ps l K).idxOf s) []
 generalize (xpN m ps l K).getD ((xpP m ps l K).idxOf s) []=row at *;rw [List.getD_eq_getElem?_getD,List.getElem?_eq_getElem (by rw [r1];exact hq)]
 exact List.getElem_mem _
end
theorem SpO.ops {w:World} {base:Nat} {v:Value} {x:List (Int × Int)} (h:SpO w base v x):zAR w v x:=by
 rcases h.2 with ⟨rfl,h0⟩ | ⟨g,cap,cur,rfl,hb,hg,hnc,hcm,hcs,htake⟩
 ·have:x=[]:=by simpa using h0
  subst this;exact ⟨none,0,rfl,⟨by simp,fun _=>⟨rfl,rfl⟩⟩,fun h=>absurd rfl h⟩
 ·refine ⟨_,cap,rfl,⟨hnc,fun h=>by simp at h⟩,fun _=>⟨g,0,rfl,(Array.getElem?_eq_some_iff.1 hg).1,fun i hi=>?_⟩⟩
  obtain ⟨f0,f1⟩:=zFi x i hi;rw [World.ownsRow.cellAt h _ (by omega),World.ownsRow.cellAt h _ (by omega)]
  simpa using ⟨f0,f1⟩
theorem GrX.graph {w:World} {base K:Nat} {m:Mo} {ps:List (List (Int × Int))} {l:List (Int × Int)} {sv nv tv:Value} (h:GrX w base m ps l K sv nv tv):GraphV w sv nv tv (zBC m ps l K):=by
 obtain ⟨h1,⟨us,n1,n2,n3⟩,h3⟩:=h;refine ⟨h1.ops,?_,zBH h3⟩
 have n1':w.ownsRow base 37 1 nv us.length us:=by rw [n2];exact n1
 refine zIm n1' ⟨n2,fun i hi=>?_⟩
 obtain ⟨ao,c,e1,e2,_,_⟩:=n3 i hi;have e1':us.getD i zQs=.slice ao ((xpN m ps l K).getD i []).length c:=e1;rw [e1'];exact e2
end Go.Proofs.YtiimhhjkgeepjaaGreatDoor
namespace Go.Proofs.YtiimhhjkgeepjaaGreatDoor
open Go.ChangeShapes Go.WideShapes Go.ChangeAt Go.RowKit Go.Deep
open Terms Tm
set_option maxHeartbeats 6400000
set_option maxRecDepth 20000
structure PRun (m:Mo) (path:List Int) (s:Nat):Prop where
 lt:s < path.length
 first:path.getD 0 0=zB9 m
 step:∀ i,i < path.length->path.getD (zAY s path.length (i+1)) 0∈zAB m (path.getD i 0)
structure PWay (m:Mo) (ps:List (List (Int × Int))) (l:List (Int × Int)) (K:Nat) (x:List Nat) (s:Nat):Prop where
 lt:s < x.length
 all:∀ i,i < x.length->x.getD i 0 < K
 first:x.getD 0 0 < (zAX m ps l).length
 step:∀ i,i < x.length->x.getD (zAY s x.length (i+1)) 0∈nxt (zBC m ps l K) (x.getD i 0)
 met:∀ k,k < (zAA l).length->∃ i,s <= i/\i < x.length/\zCH ((xpT m ps l K).getD (x.getD i 0) 0) k=true
section
variable {m : Mo} {ps : List (List (Int × Int))} {l : List (Int × Int)} {K : Nat}
noncomputable def spA (m:Mo) (ps:List (List (Int × Int))) (l:List (Int × Int)) (K i:Nat):Int × Int:=(xpP m ps l K).getD i (0,0)
theorem zRp (h:zBB m ps l K) {i:Nat} (hi:i < K):spA m ps l K i∈xpP m ps l K:=by
 have hl:i < (xpP m ps l K).length:=by rw [h.1];exact hi
 unfold spA;rw [List.getD_eq_getElem?_getD,List.getElem?_eq_getElem hl]
 exact List.getElem_mem _
theorem zN3 (h:zBB m ps l K) {i:Nat} (hi:i < K):zDI m l (spA m ps l K i):=h.2.2.2 _ (zRp h hi)
theorem zIy {s:Int × Int} (hs:s∈xpP m ps l K):spA m ps l K ((xpP m ps l K).idxOf s)=s:=by
 have hi:=List.idxOf_lt_length_of_mem hs;unfold spA;rw [List.getD_eq_getElem?_getD,List.getElem?_eq_getElem hi]
 exact List.getElem_idxOf hi
theorem zSL (h:zBB m ps l K) {i j:Nat} (hi:i < K) (hj:j∈nxt (zBC m ps l K) i):spA m ps l K j∈zB2 m ps l (spA m ps l K i):=by
 obtain ⟨r1,r2⟩:=zGo h hi;unfold nxt at hj;obtain ⟨z,hz,rfl⟩:=List.mem_map.1 hj;have hz':z∈(xpN m ps l K).getD i []:=hz;obtain ⟨q,hq,e⟩:=List.getElem_of_mem hz';have hq':q < (zB2 m ps l ((xpP m ps l K).getD i (0,0))).length:=by rw [<- r1];exact hq
 obtain ⟨r3,r4⟩:=r2 q hq'
 have e2:((xpN m ps l K).getD i []).getD q 0=z:=by
  generalize (xpN m ps l K).getD i []=row at *;rw [List.getD_eq_getElem?_getD,List.getElem?_eq_getElem hq]
  exact e
 rw [<- e2,r3,Int.toNat_natCast,zIy r4];rw [List.getD_eq_getElem?_getD (l:=zB2 m ps l ((xpP m ps l K).getD i (0,0))),List.getElem?_eq_getElem hq']
 exact List.getElem_mem _
theorem zMI {x:List Bool} {c:Int} {y:List Bool} {st:Int} {d:Nat} (hf:zBM l x c y (d:Int)=true):∀ k,d < k->(st,(d:Int))∈zC1 l x c y st k
 | 0,h=>by omega
 | k+1,h=>by
  rw [zC1]
  by_cases e:d=k
  ·subst e
   rw [if_pos hf];exact List.mem_append_right _ (List.mem_singleton.2 rfl)
  ·have:=zMI hf (st:=st) k (by omega)
   split
   ·exact List.mem_append_left _ this
   ·exact this
theorem zTF {code c y:Int} {d:Nat} (hy:y∈zAB m code) (hd:d < 2 ^ (zAA l).length) (hf:zBM l (zAG m ps code) c (zAG m ps y) (d:Int)=true):(y,(d:Int))∈zAl m ps l code c:=by
 obtain ⟨q,hq,rfl⟩:=List.getElem_of_mem hy;have hg:(zAB m code).getD q 0=(zAB m code)[q]:=by rw [List.getD_eq_getElem?_getD,List.getElem?_eq_getElem hq];rfl
 have key:∀ i,q < i->i <= (zAB m code).length->((zAB m code)[q],(d:Int))∈zCu m ps l code c i:=fun i=>by
  induction i with
  | zero=>intro h;omega
  | succ i ih=>
   intro h1 h2;rw [zCu,List.mem_append]
   by_cases e:q=i
   ·subst e
    refine .inr ?_
    rw [hg];exact zMI hf _ hd
   ·exact .inl (ih (by omega) (by omega))
 exact key _ hq (Nat.le_refl _)
theorem zSj {d:Nat} (hd:d < 2 ^ (zAA l).length) (hf:tru l (zAG m ps (zB9 m)) (d:Int) 0≠true):(zB9 m,(d:Int))∈zAX m ps l:=by
 have key:∀ k,d < k->(zB9 m,(d:Int))∈zB8 m ps l k:=fun k=>by
  induction k with
  | zero=>intro h;omega
  | succ k ih=>
   intro h;rw [zB8]
   by_cases e:d=k
   ·subst e
    rw [if_neg hf];exact List.mem_append_right _ (List.mem_singleton.2 rfl)
   ·have:=ih (by omega)
    split
    ·exact this
    ·exact List.mem_append_left _ this
 exact key _ hd
theorem zS5 (hk:zAK m ps l=0) {x y:Int} {c d:Nat} (hx:0 <= x/\x < zAC m.vars m.vars.length) (hy:0 <= y/\y < zAC m.vars m.vars.length) (hc:c < 2 ^ (zAA l).length) (hd:d < 2 ^ (zAA l).length):zBn l (zAG m ps x) (c:Int) (zAG m ps y) (d:Int)=0:=by
 unfold zBn;rw [if_neg (by rw [(zEE hk hx).2,(zEE hk hy).2];simp),if_neg (by rw [(zFI hk hx hc).1];simp)]
 exact (zFI hk hy hd).1
end
section
variable {m : Mo} {ps : List (List (Int × Int))} {l : List (Int × Int)} {K : Nat}
theorem zQS:(zAX m ps l).length <= (xpP m ps l 0).length:=by
 show _ <= (zAb [] (zAX m ps l)).length
 have hsub:zAX m ps l ⊆ zAb [] (zAX m ps l):=fun x hx=>(zDU _ _ _).2 (.inr hx)
 exact (zIK m ps l).length_le_of_subset hsub
theorem zSM {i:Nat} (hi:i < (zAX m ps l).length):spA m ps l K i∈zAX m ps l:=by
 have h0:i < (xpP m ps l 0).length:=Nat.lt_of_lt_of_le hi zQS;have e:spA m ps l K i=(xpP m ps l 0).getD i (0,0):=zOH (zAX m ps l) (zB2 m ps l) (Nat.zero_le K) h0;rw [e]
 have hm:(xpP m ps l 0).getD i (0,0)∈xpP m ps l 0:=by
  rw [List.getD_eq_getElem?_getD,List.getElem?_eq_getElem h0]
  exact List.getElem_mem _
 rcases (zDU _ _ _).1 hm with h | h
 ·exact absurd h List.not_mem_nil
 ·exact h
theorem zMF {s:Int × Int} (hs:s∈zAX m ps l):(xpP m ps l K).idxOf s < (zAX m ps l).length/\s∈xpP m ps l K:=by
 have h0:s∈xpP m ps l 0:=(zDU _ _ _).2 (.inr hs);have hpre:xpP m ps l 0 <+: xpP m ps l K:=zGR _ _ (Nat.zero_le K);refine ⟨?_,hpre.subset h0⟩
 rw [zG0 hpre h0];have h1:=List.idxOf_lt_length_of_mem h0
 have h2:(xpP m ps l 0).length <= (zAX m ps l).length:=by
  have:=(zD3 (zAX m ps l) []).2
  show (zAb [] (zAX m ps l)).length <= _
  simpa using this
 omega
theorem zHn {α β:Type} (f:α->β) (x:List α) (d:α) (e:β) {i:Nat} (hi:i < x.length):(x.map f).getD i e=f (x.getD i d):=by
 simp [List.getD_eq_getElem?_getD,hi]
theorem sub_zero (T:Tm):T.sub 0=T:=by cases T <;> rfl
theorem zRY {T:Tm} (hw:T.Wf) (ho:T.ops=l) (hz:zAE (l.map Prod.fst)=0) (hv:∀ q,q < l.length->(l.getD q (0,0)).1=13->0 <= (l.getD q (0,0)).2) (h8:∀ q,q < l.length->8 <= (l.getD q (0,0)).1) (hk:zAK m ps l=0) (h:zBB m ps l K) {x:List Nat} {s:Nat} (hx:PWay m ps l K x s) :
  PRun m (x.map fun i=>(spA m ps l K i).1) s/\T.hb (sig ((x.map fun i=>(spA m ps l K i).1).map (zAG m ps)) s) 0=false:=by
 have hn:(x.map fun i=>(spA m ps l K i).1).length=x.length:=List.length_map _
 have hln:((x.map fun i=>(spA m ps l K i).1).map (zAG m ps)).length=x.length:=by simp
 have hp:∀ i,i < x.length->(x.map fun i=>(spA m ps l K i).1).getD i 0=(spA m ps l K (x.getD i 0)).1:=fun i hi=>zHn _ x 0 0 hi
 have hls:∀ i,i < x.length->((x.map fun i=>(spA m ps l K i).1).map (zAG m ps)).getD i []=zAG m ps (spA m ps l K (x.getD i 0)).1:=fun i hi=>by rw [zHn _ _ 0 [] (by rw [hn];exact hi),hp i hi]
 have hmo:∀ i,zAY s x.length i < x.length:=fun i=>zDY hx.lt
 have hbh:∀ i,i < x.length->spA m ps l K (x.getD (zAY s x.length (i+1)) 0)∈zB2 m ps l (spA m ps l K (x.getD i 0)):=fun i hi=>zSL h (hx.all i hi) (hx.step i hi)
 have h0:0 < x.length:=Nat.lt_of_le_of_lt (Nat.zero_le _) hx.lt;obtain ⟨b1,d0,b2,b3,b4⟩:=zFN _ (zSM (K:=K) hx.first);refine ⟨⟨by rw [hn];exact hx.lt,by rw [hp 0 h0];exact b1,fun i hi=>?_⟩,?_⟩
 ·rw [hn] at hi ⊢
  rw [hp i hi,hp _ (hmo _)];exact (zGu _ (Nat.le_refl _) (hbh i hi)).1
 ·have hcl:=zLZ hw ho hz hv h8 (ls:=(x.map fun i=>(spA m ps l K i).1).map (zAG m ps)) (s:=s) (by rw [hln];exact hx.lt) (fun i=>(spA m ps l K (x.getD i 0)).2) (fun i hi=>?_) (fun i hi p hp1 hb=>?_) (fun p hp1 hb=>?_)
  ·have hc0:=hcl 0 (by rw [hln];exact h0)
   have htr:=zBs hw ho hz hv h8 (ls:=(x.map fun i=>(spA m ps l K i).1).map (zAG m ps)) (s:=s) (i:=0) (by rw [hln];exact h0) (p:=0) (zJo hk)
   rw [<- hc0,hls 0 h0,sub_zero,b1,b3] at htr;rw [<- htr]
   cases hb:tru l (zAG m ps (zB9 m)) (d0:Int) 0 with
   | false=>rfl
   | true=>exact absurd hb b4
  ·rw [hln] at hi
   obtain ⟨_,d,g1,g2⟩:=zN3 h (hx.all i hi);rw [g2];have:((2 ^ (zAA l).length:Nat):Int)=(2:Int) ^ (zAA l).length:=by push_cast;rfl
   rw [<- this];omega
  ·rw [hln] at hi ⊢
   obtain ⟨_,d,_,e2,e3⟩:=zGu _ (Nat.le_refl _) (hbh i hi);rw [<- e2] at e3;rw [hls i hi,hls _ (hmo _)]
   have hF:Fol l (tru l (zAG m ps (spA m ps l K (x.getD i 0)).1) (spA m ps l K (x.getD i 0)).2) (tru l (zAG m ps (spA m ps l K (x.getD (zAY s x.length (i+1)) 0)).1) (spA m ps l K (x.getD (zAY s x.length (i+1)) 0)).2):=by
    by_cases hno:Fol l (tru l (zAG m ps (spA m ps l K (x.getD i 0)).1) (spA m ps l K (x.getD i 0)).2) (tru l (zAG m ps (spA m ps l K (x.getD (zAY s x.length (i+1)) 0)).1) (spA m ps l K (x.getD (zAY s x.length (i+1)) 0)).2)
    ·exact hno
    ·rw [zMQ hno] at e3;cases e3
   exact hF p hp1 hb
  ·obtain ⟨k1,k2⟩:=zQl hp1 hb
   obtain ⟨i,i1,i2,i3⟩:=hx.met _ k1;refine ⟨i,i1,by rw [hln];exact i2,?_⟩
   rw [hls i i2];obtain ⟨g0,d,g1,g2⟩:=zN3 h (hx.all i i2);rw [zGl (hx.all i i2),zIW h (hx.all i i2)] at i3;have i4:zCH (zCW l (zAG m ps (spA m ps l K (x.getD i 0)).1) (spA m ps l K (x.getD i 0)).2) (zAF l p).length=true:=i3;rw [g2] at i4 ⊢;unfold zCW at i4;rw [if_pos (zFI hk g0 g1).1,zL4 _ _ k1,k2] at i4;unfold zDk at i4
   simp only [Int.toNat_natCast] at i4;simpa using i4
theorem zSU {T:Tm} (hw:T.Wf) (ho:T.ops=l) (hz:zAE (l.map Prod.fst)=0) (hv:∀ q,q < l.length->(l.getD q (0,0)).1=13->0 <= (l.getD q (0,0)).2) (h8:∀ q,q < l.length->8 <= (l.getD q (0,0)).1) (hk:zAK m ps l=0) (h:zBB m ps l K) {path:List Int} {s:Nat} (hr:PRun m path s) (hno:T.hb (sig (path.map (zAG m ps)) s) 0=false) :
  ∃ x:List Nat,x.length=path.length/\PWay m ps l K x s/\∀ i,i < path.length->spA m ps l K (x.getD i 0)=(path.getD i 0,zBN (zAA l) (fun q=>(T.sub q).hb (sig (path.map (zAG m ps)) s)) i (zAA l).length):=by
 obtain ⟨hm0,_⟩:=zBJ (zA3 hk).1;have hln:(path.map (zAG m ps)).length=path.length:=List.length_map _;have hls:∀ i,i < path.length->(path.map (zAG m ps)).getD i []=zAG m ps (path.getD i 0):=fun i hi=>zHn _ _ 0 [] hi
 have h0:0 < path.length:=Nat.lt_of_le_of_lt (Nat.zero_le _) hr.lt;have hmo:∀ i,zAY s path.length i < path.length:=fun i=>zDY hr.lt
 obtain ⟨mine,hmine⟩:∃ mine:Nat->Int,mine=fun i=>zBN (zAA l) (fun q=>(T.sub q).hb (sig (path.map (zAG m ps)) s)) i (zAA l).length:=⟨_,rfl⟩
 obtain ⟨f1,f2⟩:=zNk hw ho hz hv h8 (ls:=path.map (zAG m ps)) (s:=s) (by rw [hln];exact hr.lt) mine (fun i _=>by rw [hmine])
 rw [hln] at f1 f2;have hpw:((2 ^ (zAA l).length:Nat):Int)=(2:Int) ^ (zAA l).length:=by push_cast;rfl
 have hmd:∀ i,∃ d:Nat,d < 2 ^ (zAA l).length/\mine i=(d:Int):=fun i=>by
  obtain ⟨c0,c1⟩:=zES (zAA l) (fun q=>(T.sub q).hb (sig (path.map (zAG m ps)) s)) i (zAA l).length
  have e:mine i=zBN (zAA l) (fun q=>(T.sub q).hb (sig (path.map (zAG m ps)) s)) i (zAA l).length:=by rw [hmine]
  rw [<- e] at c0 c1;exact ⟨(mine i).toNat,by rw [<- hpw] at c1;omega,by omega⟩
 have hst:∀ i,i < path.length->0 <= path.getD i 0/\path.getD i 0 < zAC m.vars m.vars.length:=fun i=>by
  induction i with
  | zero=>intro _;rw [hr.first];exact zFP hk
  | succ i ih=>
   intro hi;have h1:=hr.step i (by omega)
   rw [zBe hi] at h1;exact zEl hm0 (ih (by omega)) h1
 have hbh:∀ i,i < path.length->(path.getD (zAY s path.length (i+1)) 0,mine (zAY s path.length (i+1)))∈zB2 m ps l (path.getD i 0,mine i):=fun i hi=>by
  obtain ⟨c,c1,c2⟩:=hmd i;obtain ⟨d,d1,d2⟩:=hmd (zAY s path.length (i+1));rw [d2];refine zTF (hr.step i hi) d1 ?_
  show zBM l (zAG m ps (path.getD i 0)) (mine i) (zAG m ps (path.getD (zAY s path.length (i+1)) 0)) (d:Int)=true
  rw [<- d2];refine zKp ?_ ?_
  ·rw [c2,d2]
   exact zS5 hk (hst i hi) (hst _ (hmo _)) c1 d1
  ·intro p hp hb
   have:=f1 i hi p hp hb;rw [hls i hi,hls _ (hmo _)] at this;exact this
 have hbeg:(path.getD 0 0,mine 0)∈zAX m ps l:=by
  obtain ⟨d,d1,d2⟩:=hmd 0;rw [hr.first,d2];refine zSj d1 ?_
  have htr:=zBs hw ho hz hv h8 (ls:=path.map (zAG m ps)) (s:=s) (i:=0) (by rw [hln];exact h0) (p:=0) (zJo hk)
  have e:mine 0=zBN (zAA l) (fun q=>(T.sub q).hb (sig (path.map (zAG m ps)) s)) 0 (zAA l).length:=by rw [hmine]
  rw [<- e,hls 0 h0,sub_zero,hno,hr.first,d2] at htr;rw [htr]
  simp
 have hmem:∀ i,i < path.length->(path.getD i 0,mine i)∈xpP m ps l K:=fun i=>by
  induction i with
  | zero=>intro _;exact (zMF hbeg).2
  | succ i ih=>
   intro hi;have h1:=hbh i (by omega)
   rw [zBe hi] at h1;exact (zJD h (ih (by omega)) h1).1
 have hxl:((List.range path.length).map fun i=>(xpP m ps l K).idxOf (path.getD i 0,mine i)).length=path.length:=by simp
 have hx:∀ i,i < path.length->((List.range path.length).map fun i=>(xpP m ps l K).idxOf (path.getD i 0,mine i)).getD i 0=(xpP m ps l K).idxOf (path.getD i 0,mine i):=fun i hi=>by simp [List.getD_eq_getElem?_getD,hi]
 refine ⟨(List.range path.length).map fun i=>(xpP m ps l K).idxOf (path.getD i 0,mine i),hxl,⟨by rw [hxl];exact hr.lt,fun i hi=>?_,?_,fun i hi=>?_,fun k hkk=>?_⟩,fun i hi=>by rw [hx i hi,zIy (hmem i hi),hmine]⟩
 ·rw [hxl] at hi
  rw [hx i hi];have:=List.idxOf_lt_length_of_mem (hmem i hi);rw [h.1] at this;exact this
 ·rw [hx 0 h0]
  exact (zMF hbeg).1
 ·rw [hxl] at hi ⊢
  rw [hx i hi,hx _ (hmo _)];exact (zJD h (hmem i hi) (hbh i hi)).2
 ·obtain ⟨p,e1,e2,e3,e4⟩:=zCV l l.length k hkk
  have e1':(zAA l).getD k 0=(p:Int):=e1;obtain ⟨i,i1,i2,i3⟩:=f2 p e2 e3;refine ⟨i,i1,by rw [hxl];exact i2,?_⟩
  have hiK:(xpP m ps l K).idxOf (path.getD i 0,mine i) < K:=by
   have:=List.idxOf_lt_length_of_mem (hmem i i2);rw [h.1] at this;exact this
  have hsp:spA m ps l K ((xpP m ps l K).idxOf (path.getD i 0,mine i))=(path.getD i 0,mine i):=zIy (hmem i i2);have hsp':(xpP m ps l K).getD ((xpP m ps l K).idxOf (path.getD i 0,mine i)) (0,0)=(path.getD i 0,mine i):=hsp;rw [hx i i2,zGl hiK,zIW h hiK,hsp'];simp only
  obtain ⟨d,d1,d2⟩:=hmd i;rw [hls i i2] at i3;unfold zCW;rw [d2] at i3 ⊢;rw [if_pos (zFI hk (hst i i2) d1).1,zL4 _ _ hkk,e1'];unfold zDk;simp only [Int.toNat_natCast];rw [i3];rfl
end
theorem zQE (n i:Nat):zCH (n:Int) i=n.testBit i:=by
 unfold zCH;rw [Nat.testBit_eq_decide_div_mod_eq];have e:((n / 2 ^ i % 2:Nat):Int)=(n:Int) / 2 ^ i % 2:=by push_cast;rfl
 rw [<- e]
 apply decide_eq_decide.2
 omega
theorem zBS.at {nx:Nat->List Nat}:∀ {L:List Nat},zBS nx L->∀ i,i+1 < L.length->L.getD (i+1) 0∈nx (L.getD i 0)
 | [],_,i,h=>by simp at h
 | [_],_,i,h=>by simp at h
 | a:: b:: L,h,0,_=>by simpa using h.1
 | a:: b:: L,h,i+1,hi=>by
  have:=zBS.at (L:=b:: L) h.2 i (by simpa using hi)
  simpa using this
section
variable {m : Mo} {ps : List (List (Int × Int))} {l : List (Int × Int)} {K : Nat}
theorem zKV {i k:Nat}:(sN (zBC m ps l K) i).testBit k=zCH ((xpT m ps l K).getD i 0) k\/(xpT m ps l K).getD i 0 < 0:=by
 by_cases h:(xpT m ps l K).getD i 0 < 0
 ·exact .inr h
 ·refine .inl ?_
  obtain ⟨n,hn⟩:∃ n:Nat,(xpT m ps l K).getD i 0=(n:Int):=⟨((xpT m ps l K).getD i 0).toNat,by omega⟩
  show ((xpT m ps l K).getD i 0).toNat.testBit k=_
  rw [hn,zQE,Int.toNat_natCast]
theorem zMN {i:Nat} (hi:i < K):¬ (xpT m ps l K).getD i 0 < 0:=by
 rw [zGl hi];have:=(zIS l (zAG m ps (zCc m ps l i).1) (zCc m ps l i).2).1;omega
theorem zO1 (h:zBB m ps l K) {st lp:List Nat} (hL:LassoOk (zBC m ps l K) st lp):PWay m ps l K (st++lp) st.length:=by
 have hK:(zBC m ps l K).spots.length=K:=h.1;have hlp:0 < lp.length:=List.length_pos_iff.2 hL.ne;have hn:(st++lp).length=st.length+lp.length:=List.length_append
 have hall:∀ i,i < (st++lp).length->(st++lp).getD i 0 < K:=fun i hi=>by
  have:=hL.lt ((st++lp).getD i 0) (by rw [List.getD_eq_getElem?_getD,List.getElem?_eq_getElem hi];exact List.getElem_mem _)
  rw [hK] at this;exact this
 have hg:∀ i,i < (st++lp).length->(st++lp++[lp.getD 0 0]).getD i 0=(st++lp).getD i 0:=fun i hi=>by
  simp only [List.getD_eq_getElem?_getD]
  rw [List.getElem?_append_left hi]
 have hlast:(st++lp++[lp.getD 0 0]).getD (st++lp).length 0=(st++lp).getD st.length 0:=by
  simp only [List.getD_eq_getElem?_getD]
  rw [List.getElem?_append_right (Nat.le_refl _),Nat.sub_self,List.getElem?_append_right (Nat.le_refl _),Nat.sub_self]
  rfl
 refine ⟨by omega,hall,?_,fun i hi=>?_,fun k hk=>?_⟩
 ·have:=hL.head
  have e:(zBC m ps l K).init=((zAX m ps l).length:Nat):=rfl;rw [e] at this;omega
 ·have htr:=hL.trail.at i (by simp at hi ⊢;omega)
  rw [hg i hi] at htr
  by_cases hi2:i+1 < (st++lp).length
  ·rw [zBe hi2]
   rw [hg _ hi2] at htr;exact htr
  ·have e:i+1=(st++lp).length:=by omega
   have hm:zAY st.length (st++lp).length (i+1)=st.length:=by
    rw [e];unfold zAY;rw [if_neg (Nat.lt_irrefl _),Nat.mod_self];rfl
   rw [hm];rw [e,hlast] at htr;exact htr
 ·have hk':k < mN (zBC m ps l K):=by
   show k < (((zAA l).length:Nat):Int).toNat
   rw [Int.toNat_natCast];exact hk
  obtain ⟨x,hx,hb⟩:=hL.bits k hk';obtain ⟨q,hq,rfl⟩:=List.getElem_of_mem hx;have hi:st.length+q < (st++lp).length:=by omega
  have hge:(st++lp).getD (st.length+q) 0=lp[q]:=by
   simp only [List.getD_eq_getElem?_getD]
   rw [List.getElem?_append_right (by omega),show st.length+q - st.length=q by omega,List.getElem?_eq_getElem hq]
   rfl
  refine ⟨st.length+q,by omega,hi,?_⟩
  rw [hge];have hlt:lp[q] < K:=by rw [<- hge];exact hall _ hi
  rcases zKV (m:=m) (ps:=ps) (l:=l) (K:=K) (i:=lp[q]) (k:=k) with e | e
  ·rw [<- e];exact hb
  ·exact absurd e (zMN hlt)
theorem zRB (h:zBB m ps l K) {x:List Nat} {s:Nat} (hx:PWay m ps l K x s):zCY (zBC m ps l K)=0:=by
 have hK:(zBC m ps l K).spots.length=K:=h.1
 have hfw:∀ i j,i <= j->j < x.length->Way (nxt (zBC m ps l K)) (x.getD i 0) (x.getD j 0):=fun i j hij=>by
  induction hij with
  | refl=>intro _;exact .stay
  | @step j hj ih=>
   intro hlt;have h1:=ih (by omega)
   have h2:=hx.step j (by omega)
   rw [zBe hlt] at h2;exact h1.step h2
 have hback:x.getD s 0∈nxt (zBC m ps l K) (x.getD (x.length - 1) 0):=by
  have h1:=hx.step (x.length - 1) (by have:=hx.lt;omega)
  have e:x.length - 1+1=x.length:=by have:=hx.lt;omega
  have hm:zAY s x.length x.length=s:=by
   unfold zAY;rw [if_neg (Nat.lt_irrefl _),Nat.mod_self];rfl
  rw [e,hm] at h1;exact h1
 have hlt:=hx.lt;have hmut:∀ i,s <= i->i < x.length->Mut (zBC m ps l K) (x.getD s 0) (x.getD i 0):=fun i h1 h2=>⟨hfw s i h1 h2,(hfw i (x.length - 1) (by omega) (by omega)).step hback⟩
 refine zJJ (x:=x.getD s 0) (by rw [hK];exact hx.all s hlt) ⟨⟨x.getD 0 0,?_,hfw 0 s (Nat.zero_le _) hlt⟩,⟨x.getD (x.length - 1) 0,x.getD s 0,hmut _ (by omega) (by omega),⟨.stay,.stay⟩,hback⟩,fun k hk=>?_⟩
 ·rw [List.mem_range]
  show x.getD 0 0 < (((zAX m ps l).length:Nat):Int).toNat
  rw [Int.toNat_natCast];exact hx.first
 ·have hk':k < (zAA l).length:=by
   have:k < (((zAA l).length:Nat):Int).toNat:=hk;rw [Int.toNat_natCast] at this;exact this
  obtain ⟨i,i1,i2,i3⟩:=hx.met k hk';refine ⟨x.getD i 0,hmut i i1 i2,?_⟩
  rcases zKV (m:=m) (ps:=ps) (l:=l) (K:=K) (i:=x.getD i 0) (k:=k) with e | e
  ·rw [e];exact i3
  ·exact absurd e (zMN (hx.all i i2))
end
def zGk (m:Mo) (ps:List (List (Int × Int))) (T:Tm):Prop:=∀ (path:List Int) (s:Nat),PRun m path s->T.hb (sig (path.map (zAG m ps)) s) 0=true
section
variable {m : Mo} {ps : List (List (Int × Int))} {l : List (Int × Int)} {K : Nat}
noncomputable def zDH (m:Mo):Nat->Int
 | 0=>zB9 m
 | i+1=>(zAB m (zDH m i)).getD 0 0
theorem zPG (x:Int):zAB m x≠[]:=fun h=>by
 have hs:=(zDq (zEH m x)).2
 have hr:zEH m x=[]:=by
  apply List.eq_nil_iff_forall_not_mem.2
  intro y hy;have:=(hs y).2 hy;have h':upL (zEH m x)=[]:=h;rw [h'] at this;exact absurd this List.not_mem_nil
 unfold zEH at hr
 split at hr
 ·simp at hr
 ·next h2=>exact h2 (by simpa using hr)
theorem zEq (i:Nat):zDH m (i+1)∈zAB m (zDH m i):=by
 show (zAB m (zDH m i)).getD 0 0∈zAB m (zDH m i)
 have hl:0 < (zAB m (zDH m i)).length:=List.length_pos_iff.2 (zPG _);rw [List.getD_eq_getElem?_getD,List.getElem?_eq_getElem hl]
 exact List.getElem_mem _
theorem zMJ (hk:zAK m ps l=0):∀ i,0 <= zDH m i/\zDH m i < zAC m.vars m.vars.length
 | 0=>zFP hk
 | i+1=>zEl (zBJ (zA3 hk).1).1 (zMJ hk i) (zEq i)
theorem zSe {f:Nat->Int} {P:Nat} (hf:∀ i,0 <= f i/\f i < (P:Int)):∃ i j,i < j/\f i=f j:=by
 apply Classical.byContradiction
 intro hno
 have hnd:((List.range (P+1)).map f).Nodup:=by
  refine List.Pairwise.map _ (fun a b hab=>hab) ?_
  refine List.Pairwise.imp ?_ (List.pairwise_lt_range (n:=P+1))
  intro a b hab e;exact hno ⟨a,b,hab,e⟩
 have:=zDo (N:=P) hnd (fun y hy=>by
  obtain ⟨i,_,rfl⟩:=List.mem_map.1 hy
  exact hf i)
 simp at this
 omega
theorem zQw (hk:zAK m ps l=0):∃ path s,PRun m path s:=by
 have hpos:(zAC m.vars m.vars.length).toNat=zAC m.vars m.vars.length:=by have:=zFP hk;omega
 obtain ⟨i,j,hij,e⟩:=zSe (f:=zDH m) (P:=(zAC m.vars m.vars.length).toNat) (fun i=>by rw [hpos];exact zMJ hk i)
 have hl:((List.range j).map (zDH m)).length=j:=by simp
 have hg:∀ q,q < j->((List.range j).map (zDH m)).getD q 0=zDH m q:=fun q hq=>by simp [List.getD_eq_getElem?_getD,hq]
 refine ⟨(List.range j).map (zDH m),i,by rw [hl];exact hij,by rw [hg 0 (by omega)];rfl,fun q hq=>?_⟩
 rw [hl] at hq ⊢;rw [hg q hq]
 by_cases hq2:q+1 < j
 ·rw [zBe hq2,hg _ hq2]
  exact zEq q
 ·have eq:q+1=j:=by omega
  have hm:zAY i j (q+1)=i:=by
   rw [eq];unfold zAY;rw [if_neg (Nat.lt_irrefl _),Nat.mod_self];rfl
  rw [hm,hg i hij,e,<- eq];exact zEq q
theorem zKn {T:Tm} (hw:T.Wf) (ho:T.ops=l) (hz:zAE (l.map Prod.fst)=0) (hv:∀ q,q < l.length->(l.getD q (0,0)).1=13->0 <= (l.getD q (0,0)).2) (h8:∀ q,q < l.length->8 <= (l.getD q (0,0)).1) (hk:zAK m ps l=0) (h:zBB m ps l K) (hf:zCY (zBC m ps l K)≠0):zGk m ps T:=fun path s hr=>by
 cases hb:T.hb (sig (path.map (zAG m ps)) s) 0 with
 | true=>rfl
 | false=>
  obtain ⟨x,_,hx,_⟩:=zSU hw ho hz hv h8 hk h hr hb;exact absurd (zRB h hx) hf
theorem zQ9 {T:Tm} (hw:T.Wf) (ho:T.ops=l) (hz:zAE (l.map Prod.fst)=0) (hv:∀ q,q < l.length->(l.getD q (0,0)).1=13->0 <= (l.getD q (0,0)).2) (h8:∀ q,q < l.length->8 <= (l.getD q (0,0)).1) (hk:zAK m ps l=0) (h:zBB m ps l K) {st lp:List Nat} (hL:LassoOk (zBC m ps l K) st lp):¬ zGk m ps T:=fun ha=>by
 obtain ⟨h1,h2⟩:=zRY hw ho hz hv h8 hk h (zO1 h hL);rw [ha _ _ h1] at h2
 cases h2
end
end Go.Proofs.YtiimhhjkgeepjaaGreatDoor
namespace Go.Proofs.YtiimhhjkgeepjaaGreatDoor
open Go.ChangeShapes Go.WideShapes Go.ChangeAt Go.RowKit Go.Deep Go.Maps
open Terms Tm
set_option maxHeartbeats 6400000
set_option maxRecDepth 20000
section
variable {m : Mo} {ps : List (List (Int × Int))} {l : List (Int × Int)} {K : Nat}
theorem zRg (hk:zAK m ps l=0) (h:zBB m ps l K):GrLe (zBC m ps l K):=by
 have e1:(zBC m ps l K).spots.length=K:=h.1;have e2:(zBC m ps l K).next.length=K:=zC8 K;have e3:(zBC m ps l K).sets.length=K:=zDC K;have hm0:=(zBJ (zA3 hk).1).1;have h6:=(zAv (zA3 hk).2).2.2.2.2;refine ⟨by rw [e1];have:=h.2.1;omega,by rw [e2];have:=h.2.1;omega,by rw [e3];have:=h.2.1;omega,fun i hi=>?_⟩
 rw [e2] at hi
 show ((xpN m ps l K).getD i []).length <= _
 rw [(zGo h hi).1]
 have hin:(xpP m ps l K).getD i (0,0)∈xpP m ps l K:=by
  have hl:i < (xpP m ps l K).length:=by rw [h.1];exact hi
  rw [List.getD_eq_getElem?_getD,List.getElem?_eq_getElem hl]
  exact List.getElem_mem _
 have:=zJy (ps:=ps) (l:=l) (c:=((xpP m ps l K).getD i (0,0)).2) hm0 (h.2.2.2 _ hin).1 h6
 show (zAl _ _ _ _ _).length <= _
 omega
noncomputable def stL (m:Mo) (ps:List (List (Int × Int))) (l:List (Int × Int)) (K:Nat) (x:List Nat):List Int:=(List.range x.length).map fun (j:Nat)=>((xpP m ps l K).getD (x.getD j 0) (0,0)).1
def zNE (w:World) (m:Mo) (ps:List (List (Int × Int))) (l:List (Int × Int)) (e:Ending) (w':World):Prop:=
 (zAK m ps l=0/\(∃ K,zBB m ps l K/\zCY (zBC m ps l K)=11)/\e=.returned (.tuple #[.agg #[.bool true,.slice none 0 0,.slice none 0 0],.int .i64 0])/\Below w.heap.size w w')\/
 (zAK m ps l=0/\∃ K st lp A B,zBB m ps l K/\LassoOk (zBC m ps l K) st lp/\st.length <= 20000/\lp.length <= 2000000/\e=.returned (.tuple #[.agg #[.bool false,.slice (some ⟨A,0,none⟩) st.length st.length,.slice (some ⟨B,0,none⟩) lp.length lp.length],.int .i64 0])/\Below w.heap.size w w'/\Hid (zAD w' (.slice (some ⟨A,0,none⟩) st.length st.length) (stL m ps l K st)/\zAD w' (.slice (some ⟨B,0,none⟩) lp.length lp.length) (stL m ps l K lp)))\/
 (zAK m ps l=0/\zD6 m ps l/\e=.returned (.tuple #[.agg #[.bool false,.slice none 0 0,.slice none 0 0],.int .i64 12])/\Below w.heap.size w w')\/
 (zAK m ps l≠0/\e=.returned (.tuple #[.agg #[.bool false,.slice none 0 0,.slice none 0 0],.int .i64 (zAK m ps l)])/\Below w.heap.size w w')
end
def vcP (g f0 f1:Value) (G:Nat) (st lp:List Int) (ns np:Nat):Nat->Value->World->Prop
 | 0,v,_=>v=g
 | 1,v,_=>v=.pointer (some ⟨G,0,none⟩)
 | 2,v,_=>v=f0
 | 3,v,w=>∃ R,v=.slice (some ⟨R,0,none⟩) ns ns/\zAD w v st
 | 4,v,_=>v=g
 | 5,v,_=>v=.pointer (some ⟨G,1,none⟩)
 | 6,v,_=>v=f1
 | 7,v,w=>∃ R,v=.slice (some ⟨R,0,none⟩) np np/\zAD w v lp
 | 8,v,w=>∃ A B,v=.agg #[.slice (some ⟨A,0,none⟩) ns ns,.slice (some ⟨B,0,none⟩) np np]/\zAD w (.slice (some ⟨A,0,none⟩) ns ns) st/\zAD w (.slice (some ⟨B,0,none⟩) np np) lp
 | 9,v,w=>∃ A B,v=.agg #[.bool false,.slice (some ⟨A,0,none⟩) ns ns,.slice (some ⟨B,0,none⟩) np np]/\zAD w (.slice (some ⟨A,0,none⟩) ns ns) st/\zAD w (.slice (some ⟨B,0,none⟩) np np) lp
 | _,_,_=>True
theorem zRF:∀ i,i < 10->i=0\/i=1\/i=2\/i=3\/i=4\/i=5\/i=6\/i=7\/i=8\/i=9:=by intro i hi;omega
theorem zMh (g f0 f1:Value) (G:Nat) (st lp:List Int) (ns np:Nat) (i:Nat) (v:Value) (w w':World) (hi:i < 10) (h:vcP g f0 f1 G st lp ns np i v w) (hb:Below w.heap.size w w'):vcP g f0 f1 G st lp ns np i v w':=by
 rcases zRF i hi with rfl | rfl | rfl | rfl | rfl | rfl | rfl | rfl | rfl | rfl
 ·exact h
 ·exact h
 ·exact h
 ·obtain ⟨R,h1,h2⟩:=h;exact ⟨R,h1,h2.below hb⟩
 ·exact h
 ·exact h
 ·exact h
 ·obtain ⟨R,h1,h2⟩:=h;exact ⟨R,h1,h2.below hb⟩
 ·obtain ⟨A,B,h1,h2,h3⟩:=h;exact ⟨A,B,h1,h2.below hb,h3.below hb⟩
 ·obtain ⟨A,B,h1,h2,h3⟩:=h;exact ⟨A,B,h1,h2.below hb,h3.below hb⟩
theorem zAD.setBool {w:World} {v:Value} {l:List Int} {p:Addr} {b:Bool} (h:zAD w v l) (hc:w.cell? p=some (.bool b)) (u:Value):zAD (w.setCell p u) v l:=by
 obtain ⟨ao,cap,rfl,h⟩:=h;refine ⟨ao,cap,rfl,fun hne=>?_⟩
 obtain ⟨c,off,rfl,hlt,hat⟩:=h hne;refine ⟨c,off,rfl,by simpa using hlt,fun j hj=>?_⟩
 have h1:=hat j hj
 have hne2:(⟨c,off+j,none⟩:Addr)≠p:=by
  intro e;rw [e,hc] at h1;simp at h1
 rw [World.cell?_setCell_other _ _ _ _ hne2.symm]
 exact h1
theorem zRK {w:World} {v:Value} {x:List Int} {R:Nat} {b:Bool} {a1 a2:Option Addr} {n1 n2 c1 c2:Nat} (h:zAD w v x) (k0:w.cell? ⟨R,0,none⟩=some (.bool b)) (k1:w.cell? ⟨R,1,none⟩=some (.slice a1 n1 c1)) (k2:w.cell? ⟨R,2,none⟩=some (.slice a2 n2 c2)) (u0 u1 u2:Value):zAD (((w.setCell ⟨R,0,none⟩ u0).setCell ⟨R,1,none⟩ u1).setCell ⟨R,2,none⟩ u2) v x:=by
 have h0:=h.setBool k0 u0;have h1:=h0.setBox (p:=⟨R,1,none⟩) ((World.cell?_setCell_other _ _ _ _ (by simp)).trans k1) u1
 exact h1.setBox (p:=⟨R,2,none⟩) ((World.cell?_setCell_other _ _ _ _ (by simp)).trans ((World.cell?_setCell_other _ _ _ _ (by simp)).trans k2)) u2
def laB (sv lv:Value):Obj:=.cells #[sv,lv] 48 (0,0)
theorem zOs {w:World} {X:Nat} {sv lv:Value} (hb:w.heap[X]? = some (laB sv lv)):w.cell? ⟨X,0,none⟩=some sv/\w.cell? ⟨X,1,none⟩=some lv:=by
 unfold laB at hb;refine ⟨?_,?_⟩ <;> simp [World.cell?,hb]
theorem zIC (va vr pv fv:Value) (m:Mo) (ps:List (List (Int × Int))) (l:List (Int × Int)) (w:World) (hV:TaskV w va vr pv fv m ps l) (c:Int) (hc:c≠0) (hex:∀ w',Below w.heap.size w w'->Calls Tryz.prog 33 #[.agg #[va,vr,pv,fv]] w' fun e w2=>e=.returned (.tuple #[.agg #[.slice none 0 0,.int .i64 0,.slice none 0 0,.slice none 0 0,.int .i64 0],.int .i64 c])/\Below w'.heap.size w' w2) :
    Calls Tryz.prog 18 #[.agg #[va,vr,pv,fv]] w fun e w'=>e=.returned (.tuple #[.agg #[.bool false,.slice none 0 0,.slice none 0 0],.int .i64 c])/\Below w.heap.size w w':=by
  obtain ⟨ao,ac,rfl⟩:=hV.mo.1.shape;obtain ⟨ro,rc,rfl⟩:=hV.mo.2.shape;obtain ⟨po,pc,rfl⟩:=hV.ps.shape;obtain ⟨fo,fc,rfl,_⟩:=id hV.fo;clear hV;generalize m.vars.length=vn at *;generalize m.rules.length=rn at *;generalize ps.length=pn at *;generalize l.length=fn at *
  obtain ⟨W1,hW1⟩:∃ W1,W1=(w.alloc (.cells #[.slice ao vn ac,.slice ro rn rc,.slice po pn pc,.slice fo fn fc] 45)).alloc (.cells #[.bool false,.slice none 0 0,.slice none 0 0] 73):=⟨_,rfl⟩
  have hb1:Below w.heap.size w W1:=by rw [hW1];exact ((Below.refl _ _).alloc (Nat.le_refl _) _).alloc (by simp) _
  have hz1:W1.heap.size=w.heap.size+2:=by rw [hW1];simp
  have he:=hex W1 hb1
  have HBx:Hid (∀ w',Below W1.heap.size W1 w'->(w'.cell? ⟨w.heap.size+1,0,none⟩=some (.bool false)/\w'.cell? ⟨w.heap.size+1,1,none⟩=some (.slice none 0 0)/\w'.cell? ⟨w.heap.size+1,2,none⟩=some (.slice none 0 0))/\(w'.frozen? ⟨w.heap.size+1,0,none⟩=false/\w'.frozen? ⟨w.heap.size+1,1,none⟩=false/\w'.frozen? ⟨w.heap.size+1,2,none⟩=false)):=fun w' h=>by
    have hlt:w.heap.size+1 < W1.heap.size:=by omega
    refine ⟨⟨?_,?_,?_⟩,?_,?_,?_⟩
    · exact (h.cell (p:=⟨w.heap.size+1,0,none⟩) hlt).trans (by rw [hW1];simp [go_sem])
    · exact (h.cell (p:=⟨w.heap.size+1,1,none⟩) hlt).trans (by rw [hW1];simp [go_sem])
    · exact (h.cell (p:=⟨w.heap.size+1,2,none⟩) hlt).trans (by rw [hW1];simp [go_sem])
    · exact (h.frozen (p:=⟨w.heap.size+1,0,none⟩) hlt).trans (by rw [hW1];simp [go_sem])
    · exact (h.frozen (p:=⟨w.heap.size+1,1,none⟩) hlt).trans (by rw [hW1];simp [go_sem])
    · exact (h.frozen (p:=⟨w.heap.size+1,2,none⟩) hlt).trans (by rw [hW1];simp [go_sem])
  have HW1:=(show Hid (W1=_) from hW1)
  clear hW1 hex
  go_enter Tryz.func18,Tryz.ntmps18
  go_upto_region 2 with (go_at_call 33;rw [<- HW1.out];refine he.mono ?_;rintro e w2 ⟨rfl,hb2⟩)
  have hbA:Below w2.heap.size w2 (w2.alloc (.cells #[.slice none 0 0,.int .i64 0,.slice none 0 0,.slice none 0 0,.int .i64 0] 94)):=(Below.refl _ _).alloc (Nat.le_refl _) _;have hb3:=hb2.trans (hbA.mono hb2.size);generalize w2.alloc (.cells #[.slice none 0 0,.int .i64 0,.slice none 0 0,.slice none 0 0,.int .i64 0] 94)=W3 at *;obtain ⟨⟨r0,r1,r2⟩,f0,f1,f2⟩:=HBx.out W3 hb3
  have hbw3:=hb1.trans (hb3.mono hb1.size);have hcb:¬ c=0:=hc;clear HBx HW1 he
  go_wp2_with fail
  refine bodyPost_ret (v:=.tuple #[.agg #[.bool false,.slice none 0 0,.slice none 0 0],.int .i64 c]) ?_ rfl ⟨rfl,?_⟩
  · simp only [results,Tryz.results18]
    simp [go_sem,r0,r1,r2]
  · exact ((hbw3.setCell (p:=⟨w.heap.size+1,0,none⟩) (by show w.heap.size <= w.heap.size+1;omega) _).setCell (p:=⟨w.heap.size+1,1,none⟩) (by show w.heap.size <= w.heap.size+1;omega) _).setCell (p:=⟨w.heap.size+1,2,none⟩) (by show w.heap.size <= w.heap.size+1;omega) _
theorem zOw (va vr pv fv:Value) (m:Mo) (ps:List (List (Int × Int))) (l:List (Int × Int)) (w:World) (hB:0 < w.heap.size) (hT:zAJ w) (hV:TaskV w va vr pv fv m ps l) (hk:zAK m ps l=0) (hnf:¬ zD6 m ps l) :
  Calls Tryz.prog 18 #[.agg #[va,vr,pv,fv]] w (zNE w m ps l):=by
 obtain ⟨ao,ac,rfl⟩:=hV.mo.1.shape;obtain ⟨ro,rc,rfl⟩:=hV.mo.2.shape;obtain ⟨po,pc,rfl⟩:=hV.ps.shape;obtain ⟨fo,fc,rfl,_⟩:=id hV.fo;obtain ⟨W1,hW1⟩:∃ W1,W1=(w.alloc (.cells #[.slice ao m.vars.length ac,.slice ro m.rules.length rc,.slice po ps.length pc,.slice fo l.length fc] 45)).alloc (.cells #[.bool false,.slice none 0 0,.slice none 0 0] 73):=⟨_,rfl⟩
 have hb1:Below w.heap.size w W1:=by rw [hW1];exact ((Below.refl _ _).alloc (Nat.le_refl _) _).alloc (by simp) _
 have hz1:W1.heap.size=w.heap.size+2:=by rw [hW1];simp
 have hex:Calls Tryz.prog 33 #[.agg #[.slice ao m.vars.length ac,.slice ro m.rules.length rc,.slice po ps.length pc,.slice fo l.length fc]] W1 fun e w2=>∃ K so sc no nc xo xc,e=.returned (.tuple #[.agg #[.slice so K sc,.int .i64 ((zAX m ps l).length:Nat),.slice no K nc,.slice xo K xc,.int .i64 ((zAA l).length:Nat)],.int .i64 0])/\Below W1.heap.size W1 w2/\K <= 20000/\Hid (zBB m ps l K/\GraphV w2 (.slice so K sc) (.slice no K nc) (.slice xo K xc) (zBC m ps l K)):=by
  refine (zE0 _ _ _ _ m ps l W1 (Nat.lt_of_lt_of_le hB hb1.size) (hT.below hb1 hB) (hV.below hb1)).mono fun e w2 hx=>?_
  rcases hx with ⟨_,K,hD,sv,nv,tv,e1,h2,HG⟩ | ⟨_,hf,_,_⟩ | ⟨h1,_,_⟩
  ·have hGr:=HG.out.graph
   obtain ⟨so,sc,rfl⟩:=HG.out.1.shape;obtain ⟨us,n1,_⟩:=HG.out.2.1;obtain ⟨no,nc,rfl⟩:=zAU n1;obtain ⟨xo,xc,rfl⟩:=zAU HG.out.2.2;rw [hD.1,zC8,zDC] at e1 hGr;exact ⟨K,so,sc,no,nc,xo,xc,e1,h2,hD.2.1,hD,hGr⟩
  ·exact absurd hf hnf
  ·exact absurd hk h1
 have HBx:Hid (∀ w',Below W1.heap.size W1 w'->(w'.cell? ⟨w.heap.size+1,0,none⟩=some (.bool false)/\w'.cell? ⟨w.heap.size+1,1,none⟩=some (.slice none 0 0)/\w'.cell? ⟨w.heap.size+1,2,none⟩=some (.slice none 0 0))/\(w'.frozen? ⟨w.heap.size+1,0,none⟩=false/\w'.frozen? ⟨w.heap.size+1,1,none⟩=false/\w'.frozen? ⟨w.heap.size+1,2,none⟩=false)):=fun w' h=>by
  have hlt:w.heap.size+1 < W1.heap.size:=by omega
  refine ⟨⟨?_,?_,?_⟩,?_,?_,?_⟩
  ·exact (h.cell (p:=⟨w.heap.size+1,0,none⟩) hlt).trans (by rw [hW1];simp [go_sem])
  ·exact (h.cell (p:=⟨w.heap.size+1,1,none⟩) hlt).trans (by rw [hW1];simp [go_sem])
  ·exact (h.cell (p:=⟨w.heap.size+1,2,none⟩) hlt).trans (by rw [hW1];simp [go_sem])
  ·exact (h.frozen (p:=⟨w.heap.size+1,0,none⟩) hlt).trans (by rw [hW1];simp [go_sem])
  ·exact (h.frozen (p:=⟨w.heap.size+1,1,none⟩) hlt).trans (by rw [hW1];simp [go_sem])
  ·exact (h.frozen (p:=⟨w.heap.size+1,2,none⟩) hlt).trans (by rw [hW1];simp [go_sem])
 have HLa:Hid (∀ (w':World) (so no xo:Option Addr) (sc nc xc K:Nat),zBB m ps l K->GraphV w' (.slice so K sc) (.slice no K nc) (.slice xo K xc) (zBC m ps l K)->Calls Tryz.prog 34 #[.agg #[.slice so K sc,.int .i64 ((zAX m ps l).length:Nat),.slice no K nc,.slice xo K xc,.int .i64 ((zAA l).length:Nat)]] w' fun e w2=>∃ t0 tn tc uo un uc c,e=.returned (.tuple #[.agg #[.slice t0 tn tc,.slice uo un uc],.int .i64 c])/\Below w'.heap.size w' w2/\Hid (zPV (zBC m ps l K) w2 (.agg #[.slice t0 tn tc,.slice uo un uc]) c)):=fun w' so no xo sc nc xc K hD hGr=>by
  have hok:=zR2 hk hD;have hc0:zDA (zBC m ps l K)=0:=zKU hok.head hok.row;have e1:(zBC m ps l K).spots.length=K:=hD.1;have e2:(zBC m ps l K).next.length=K:=zC8 K;have e3:(zBC m ps l K).sets.length=K:=zDC K;have h:=zOh so no xo sc nc xc (zBC m ps l K) w' (zRg hk hD) (by rw [e1,e2,e3];exact hGr) hc0
  rw [e1,e2,e3] at h;refine h.mono fun e w2 ⟨v,c,g1,g2,g3⟩=>?_
  rcases id g3.out with ⟨_,_,rfl⟩ | ⟨_,_,t0,tc,uo,uc,st,lp,rfl,_⟩
  ·exact ⟨_,_,_,_,_,_,c,g1,g2,g3⟩
  ·exact ⟨_,_,_,_,_,_,c,g1,g2,g3⟩
 have HSt:Hid (∀ (w':World) (so no xo po:Option Addr) (sc nc xc pc K:Nat) (x:List Nat),zBB m ps l K->zAR w' (.slice so K sc) (xpP m ps l K)->zAz w' (.slice po x.length pc) x->(∀ y∈x,y < K)->x.length <= 2000000->Calls Tryz.prog 35 #[.agg #[.slice so K sc,.int .i64 ((zAX m ps l).length:Nat),.slice no K nc,.slice xo K xc,.int .i64 ((zAA l).length:Nat)],.slice po x.length pc] w' fun e w2=>∃ R,e=.returned (.slice (some ⟨R,0,none⟩) x.length x.length)/\Below w'.heap.size w' w2/\Hid (zAD w2 (.slice (some ⟨R,0,none⟩) x.length x.length) (stL m ps l K x))):=fun w' so no xo po sc nc xc pc K x hD hO hN hlt hz=>by
  have h:=zJ2 so no xo po sc K nc K xc pc ((zAX m ps l).length:Nat) ((zAA l).length:Nat) (xpP m ps l K) x w' (by rw [hD.1];exact hO) hN (fun i hi=>by
   rw [hD.1];refine hlt _ ?_
   rw [List.getD_eq_getElem?_getD,List.getElem?_eq_getElem hi]
   exact List.getElem_mem _) hz (by rw [hD.1];exact hD.2.1)
  rw [hD.1] at h;exact h
 have HTk:Hid (zAK m ps l=0):=hk;have HW1:=(show Hid (W1=_) from hW1)
 clear hW1 hV hT hk hnf;unfold zNE;generalize hbl:(zAX m ps l).length=bn at *;generalize hal:(zAA l).length=an at *;generalize m.vars.length=vn at *;generalize m.rules.length=rn at *;generalize ps.length=pn at *;generalize l.length=fn at *;clear hbl hal
 go_enter Tryz.func18,Tryz.ntmps18
 go_upto_region 2 with (go_at_call 33;rw [<- HW1.out];refine hex.mono ?_;rintro e w2 ⟨K,so,sc,no,nc,xo,xc,rfl,hb2,hK,HD⟩)
 have hbA:Below w2.heap.size w2 (w2.alloc (.cells #[.slice so K sc,.int .i64 (bn:Nat),.slice no K nc,.slice xo K xc,.int .i64 (an:Nat)] 94)):=(Below.refl _ _).alloc (Nat.le_refl _) _
 have hbg:(w2.alloc (.cells #[.slice so K sc,.int .i64 (bn:Nat),.slice no K nc,.slice xo K xc,.int .i64 (an:Nat)] 94)).heap[w2.heap.size]? = some (grB (.slice so K sc) (.slice no K nc) (.slice xo K xc) (bn:Nat) (an:Nat)):=(MapKept.heap_alloc w2 _).1;have hb3:=hb2.trans (hbA.mono hb2.size)
 have HG3:Hid (GraphV (w2.alloc (.cells #[.slice so K sc,.int .i64 (bn:Nat),.slice no K nc,.slice xo K xc,.int .i64 (an:Nat)] 94)) (.slice so K sc) (.slice no K nc) (.slice xo K xc) (zBC m ps l K)):=HD.out.2.below hbA;have HDn:Hid (zBB m ps l K):=HD.out.1;have hXw:W1.heap.size <= w2.heap.size:=hb2.size
 generalize w2.alloc (.cells #[.slice so K sc,.int .i64 (bn:Nat),.slice no K nc,.slice xo K xc,.int .i64 (an:Nat)] 94)=W3 at *;generalize w2.heap.size=X at *;have hla:=HLa.out W3 so no xo sc nc xc K HDn.out HG3.out;obtain ⟨g0,g1,g2,g3,g4⟩:=zEt hbg
 have HGb:Hid (W3.heap[X]? = some (grB (.slice so K sc) (.slice no K nc) (.slice xo K xc) (bn:Nat) (an:Nat))):=hbg;clear HD hex HLa hbA hbg HW1
 go_upto_region 5 with (go_at_call 34;refine hla.mono ?_;rintro e w4 ⟨t0,tn,tc,uo,un,uc,c,rfl,hb4,HL⟩)
 have hbB:Below w4.heap.size w4 (w4.alloc (.cells #[.slice t0 tn tc,.slice uo un uc] 48)):=(Below.refl _ _).alloc (Nat.le_refl _) _;have hbl5:(w4.alloc (.cells #[.slice t0 tn tc,.slice uo un uc] 48)).heap[w4.heap.size]? = some (laB (.slice t0 tn tc) (.slice uo un uc)):=(MapKept.heap_alloc w4 _).1;have hb35:=hb4.trans (hbB.mono hb4.size);have hb5:=hb3.trans (hb35.mono hb3.size)
 have hbw5:=hb1.trans (hb5.mono hb1.size);obtain ⟨⟨r0,r1,r2⟩,f0,f1,f2⟩:=HBx.out _ hb5;clear hla g0 g1 g2 g3 g4
 rcases HL.out with ⟨rfl,hfc,hv⟩ | ⟨rfl,hfc,t0',tc',uo',uc',st,lp,hv,hst,hlp,hLo,hN1,hN2⟩
 ·generalize w4.alloc (.cells #[.slice t0 tn tc,.slice uo un uc] 48)=W5 at *
  have HR:Hid (∃ K,zBB m ps l K/\zCY (zBC m ps l K)=11):=⟨K,HDn.out,hfc⟩
  clear hfc hv HL HBx HSt HDn HG3 HGb hbl5
  go_wp2_with fail
  refine bodyPost_ret (v:=.tuple #[.agg #[.bool true,.slice none 0 0,.slice none 0 0],.int .i64 0]) ?_ rfl (.inl ⟨HTk.out,HR.out,rfl,?_⟩)
  ·simp only [results,Tryz.results18]
   simp [go_sem,r0,r1,r2]
  ·exact ((hbw5.setCell (p:=⟨w.heap.size+1,0,none⟩) (by show w.heap.size <= w.heap.size+1;omega) _).setCell (p:=⟨w.heap.size+1,1,none⟩) (by show w.heap.size <= w.heap.size+1;omega) _).setCell (p:=⟨w.heap.size+1,2,none⟩) (by show w.heap.size <= w.heap.size+1;omega) _
 ·simp only [Value.agg.injEq,Array.mk.injEq,List.cons.injEq,Value.slice.injEq,and_true] at hv
  obtain ⟨⟨rfl,rfl,rfl⟩,rfl,rfl,rfl⟩:=hv
  have hlo1:∀ y∈st,y < K:=fun y hy=>by
   have:=hLo.lt y (List.mem_append.2 (.inl hy));rw [show (zBC m ps l K).spots.length=K from HDn.out.1] at this
   exact this
  have hlo2:∀ y∈lp,y < K:=fun y hy=>by
   have:=hLo.lt y (List.mem_append.2 (.inr hy));rw [show (zBC m ps l K).spots.length=K from HDn.out.1] at this
   exact this
  have hN1b:=hN1.below hbB;have hN2b:=hN2.below hbB
  have HRw:Hid (∀ w',Below (w4.alloc (.cells #[.slice t0 st.length tc,.slice uo lp.length uc] 48)).heap.size (w4.alloc (.cells #[.slice t0 st.length tc,.slice uo lp.length uc] 48)) w'->((w'.cell? ⟨X,0,none⟩=some (.slice so K sc)/\w'.cell? ⟨X,1,none⟩=some (.int .i64 (bn:Nat))/\w'.cell? ⟨X,2,none⟩=some (.slice no K nc)/\w'.cell? ⟨X,3,none⟩=some (.slice xo K xc)/\w'.cell? ⟨X,4,none⟩=some (.int .i64 (an:Nat)))/\(w'.cell? ⟨w4.heap.size,0,none⟩=some (.slice t0 st.length tc)/\w'.cell? ⟨w4.heap.size,1,none⟩=some (.slice uo lp.length uc)))/\(Calls Tryz.prog 35 #[.agg #[.slice so K sc,.int .i64 (bn:Nat),.slice no K nc,.slice xo K xc,.int .i64 (an:Nat)],.slice t0 st.length tc] w' fun e w2=>∃ R,e=.returned (.slice (some ⟨R,0,none⟩) st.length st.length)/\Below w'.heap.size w' w2/\Hid (zAD w2 (.slice (some ⟨R,0,none⟩) st.length st.length) (stL m ps l K st)))/\(Calls Tryz.prog 35 #[.agg #[.slice so K sc,.int .i64 (bn:Nat),.slice no K nc,.slice xo K xc,.int .i64 (an:Nat)],.slice uo lp.length uc] w' fun e w2=>∃ R,e=.returned (.slice (some ⟨R,0,none⟩) lp.length lp.length)/\Below w'.heap.size w' w2/\Hid (zAD w2 (.slice (some ⟨R,0,none⟩) lp.length lp.length) (stL m ps l K lp)))/\Below W1.heap.size W1 w'):=fun w' h=>by
   have h3:=hb35.trans (h.mono hb35.size);have hbx:=(h3.block X (Array.getElem?_eq_some_iff.1 HGb.out).1).trans HGb.out
   have hbl:=(h.block w4.heap.size (Array.getElem?_eq_some_iff.1 hbl5).1).trans hbl5
   have hsp:=HG3.out.spots.below h3;exact ⟨⟨zEt hbx,zOs hbl⟩,HSt.out w' so no xo t0 sc nc xc tc K st HDn.out hsp (hN1b.below h) hlo1 (by omega),HSt.out w' so no xo uo sc nc xc uc K lp HDn.out hsp (hN2b.below h) hlo2 (by omega),hb5.trans (h.mono hb5.size)⟩
  have HLo:Hid (LassoOk (zBC m ps l K) st lp):=hLo;have HSz:Hid (st.length <= 20000/\lp.length <= 2000000):=⟨hst,hlp⟩;clear hN1 hN2 hN1b hN2b hlo1 hlo2 HL hbl5 HG3 HGb HSt hb35 hbB hLo hfc hst hlp;generalize w4.alloc (.cells #[.slice t0 st.length tc,.slice uo lp.length uc] 48)=W5 at *;generalize w4.heap.size=L5 at *;obtain ⟨ns,hns⟩:∃ n,st.length=n:=⟨_,rfl⟩
  obtain ⟨np,hnp⟩:∃ n,lp.length=n:=⟨_,rfl⟩
  obtain ⟨xs,hxs⟩:∃ x,stL m ps l K st=x:=⟨_,rfl⟩
  obtain ⟨xp,hxp⟩:∃ x,stL m ps l K lp=x:=⟨_,rfl⟩
  have HN:Hid ((st.length=ns/\lp.length=np)/\stL m ps l K st=xs/\stL m ps l K lp=xp):=⟨⟨hns,hnp⟩,hxs,hxp⟩;rw [hns,hnp,hxs,hxp] at HRw;rw [hns,hnp];clear hns hnp hxs hxp
  go_upto_region 9 with fail
  go_cut [3] (fun u wx=>u=.int .i64 0/\∃ A B,Hid (zAD wx (.slice (some ⟨A,0,none⟩) ns ns) xs/\zAD wx (.slice (some ⟨B,0,none⟩) np np) xp/\Below w.heap.size w wx)/\wx.cell? ⟨w.heap.size+1,0,none⟩=some (.bool false)/\wx.cell? ⟨w.heap.size+1,1,none⟩=some (.slice (some ⟨A,0,none⟩) ns ns)/\wx.cell? ⟨w.heap.size+1,2,none⟩=some (.slice (some ⟨B,0,none⟩) np np))
  case first=>
   rename_i J K' hJ hK';generalize ha0:Act.mk _ _=a0;have hsz:a0.tmps.size=38:=by rw [<- ha0];rfl
   have a4:a0.eval (.tmp 4)=.pointer (some ⟨X,0,none⟩):=by rw [<- ha0];rfl
   have a6:a0.eval (.tmp 6)=.pointer (some ⟨L5,0,none⟩):=by rw [<- ha0];rfl
   have a2:a0.eval (.tmp 2)=.pointer (some ⟨w.heap.size+1,0,none⟩):=by rw [<- ha0];rfl
   refine zGf (by rfl) [28,29,30,31,32,33,34,35,36,37,3] 10 (vcP (.agg #[.slice so K sc,.int .i64 (bn:Nat),.slice no K nc,.slice xo K xc,.int .i64 (an:Nat)]) (.slice t0 ns tc) (.slice uo np uc) L5 xs xp ns np) (by rw [hsz];rfl) (zMh _ _ _ _ _ _ _ _) ?_ ?_
   ·intro i o hi ho q w' hb hq
    have f:∀ t,[28,29,30,31,32,33,34,35,36,37,3].contains t=true->t < 38->(frm a0 [28,29,30,31,32,33,34,35,36,37,3] q).eval (.tmp t)=q t:=fun t h1 h2=>zDK h1 (by rw [hsz];exact h2)
    have e4:(frm a0 [28,29,30,31,32,33,34,35,36,37,3] q).eval (.tmp 4)=.pointer (some ⟨X,0,none⟩):=(zBr rfl).trans a4;have e6:(frm a0 [28,29,30,31,32,33,34,35,36,37,3] q).eval (.tmp 6)=.pointer (some ⟨L5,0,none⟩):=(zBr rfl).trans a6;obtain ⟨⟨⟨x0,x1,x2,x3,x4⟩,y0,y1⟩,hs1,hs2,_⟩:=HRw.out w' hb
    obtain ⟨ev,hev⟩:∃ ev,ev=(frm a0 [28,29,30,31,32,33,34,35,36,37,3] q).eval:=⟨_,rfl⟩
    have evf:∀ n,ev (.func n)=.func (.func n) #[] #[]:=fun n=>by rw [hev];rfl
    rw [<- hev] at f e4 e6
    rcases zRF i hi with rfl | rfl | rfl | rfl | rfl | rfl | rfl | rfl | rfl | rfl
    all_goals obtain rfl:=Option.some.inj ho
    ·refine zAT (w':=w') ?_ (Below.refl _ _) rfl
     rw [<- hev];simp [execOp,e4,go_sem,x0,x1,x2,x3,x4]
    ·refine zAT (w':=w') ?_ (Below.refl _ _) rfl
     rw [<- hev];simp [execOp,e6,go_sem]
    ·have e29:=(f 29 rfl (by decide)).trans (hq 1 29 rfl rfl)
     refine zAT (w':=w') ?_ (Below.refl _ _) rfl
     rw [<- hev];simp [execOp,e29,go_sem,y0]
    ·have e28:=(f 28 rfl (by decide)).trans (hq 0 28 rfl rfl)
     have e30:=(f 30 rfl (by decide)).trans (hq 2 30 rfl rfl)
     refine zDy (f:=35) (args:=#[.agg #[.slice so K sc,.int .i64 (bn:Nat),.slice no K nc,.slice xo K xc,.int .i64 (an:Nat)],.slice t0 ns tc]) ?_ (hs1.mono ?_)
     ·rw [<- hev];simp [execOp,e28,e30,evf,go_sem]
     ·rintro e w2 ⟨R,rfl,h2,h3⟩
      exact ⟨_,rfl,h2,R,rfl,h3.out⟩
    ·refine zAT (w':=w') ?_ (Below.refl _ _) rfl
     rw [<- hev];simp [execOp,e4,go_sem,x0,x1,x2,x3,x4]
    ·refine zAT (w':=w') ?_ (Below.refl _ _) rfl
     rw [<- hev];simp [execOp,e6,go_sem]
    ·have e33:=(f 33 rfl (by decide)).trans (hq 5 33 rfl rfl)
     refine zAT (w':=w') ?_ (Below.refl _ _) rfl
     rw [<- hev];simp [execOp,e33,go_sem,y1]
    ·have e32:=(f 32 rfl (by decide)).trans (hq 4 32 rfl rfl)
     have e34:=(f 34 rfl (by decide)).trans (hq 6 34 rfl rfl)
     refine zDy (f:=35) (args:=#[.agg #[.slice so K sc,.int .i64 (bn:Nat),.slice no K nc,.slice xo K xc,.int .i64 (an:Nat)],.slice uo np uc]) ?_ (hs2.mono ?_)
     ·rw [<- hev];simp [execOp,e32,e34,evf,go_sem]
     ·rintro e w2 ⟨R,rfl,h2,h3⟩
      exact ⟨_,rfl,h2,R,rfl,h3.out⟩
    ·obtain ⟨A,hA,hA2⟩:=hq 3 31 rfl rfl
     obtain ⟨B,hB',hB2⟩:=hq 7 35 rfl rfl;have e31:=(f 31 rfl (by decide)).trans hA
     have e35:=(f 35 rfl (by decide)).trans hB'
     refine zAT (w':=w') (v:=.agg #[.slice (some ⟨A,0,none⟩) ns ns,.slice (some ⟨B,0,none⟩) np np]) ?_ (Below.refl _ _) ⟨A,B,rfl,by rw [<- hA];exact hA2,by rw [<- hB'];exact hB2⟩
     rw [<- hev];simp [execOp,e31,e35,go_sem]
    ·obtain ⟨A,B,hA,hA2,hB2⟩:=hq 8 36 rfl rfl
     have e36:=(f 36 rfl (by decide)).trans hA
     refine zAT (w':=w') (v:=.agg #[.bool false,.slice (some ⟨A,0,none⟩) ns ns,.slice (some ⟨B,0,none⟩) np np]) ?_ (Below.refl _ _) ⟨A,B,rfl,hA2,hB2⟩
     rw [<- hev];simp [execOp,e36,go_sem]
   ·intro q w' hb hq
    have f:∀ q t,[28,29,30,31,32,33,34,35,36,37,3].contains t=true->t < 38->(frm a0 [28,29,30,31,32,33,34,35,36,37,3] q).eval (.tmp t)=q t:=fun q t h1 h2=>zDK h1 (by rw [hsz];exact h2)
    obtain ⟨A,B,h37,hA2,hB2⟩:=hq 9 37 (by decide) rfl
    have e37:=(f q 37 rfl (by decide)).trans h37
    have e2:(frm a0 [28,29,30,31,32,33,34,35,36,37,3] q).eval (.tmp 2)=.pointer (some ⟨w.heap.size+1,0,none⟩):=(zBr rfl).trans a2;obtain ⟨_,_,_,hbW⟩:=HRw.out w' hb;obtain ⟨⟨k0,k1,k2⟩,l0,l1,l2⟩:=HBx.out w' hbW
    show wpOps Tryz.prog _ _ [10,11] _ _
    rw [wpOps_cons];refine zFJ rfl rfl ?_
    refine zIb (w':=((w'.setCell ⟨w.heap.size+1,0,none⟩ (.bool false)).setCell ⟨w.heap.size+1,1,none⟩ (.slice (some ⟨A,0,none⟩) ns ns)).setCell ⟨w.heap.size+1,2,none⟩ (.slice (some ⟨B,0,none⟩) np np)) rfl ?_ ?_
    ·generalize (frm a0 [28,29,30,31,32,33,34,35,36,37,3] q).eval=ev at e37 e2 ⊢
     simp [execOp,e2,e37,go_sem,k0,k1,k2,l0,l1,l2]
    rw [wpOps_cons];refine zFJ rfl rfl ?_
    refine zJ7 (w':=((w'.setCell ⟨w.heap.size+1,0,none⟩ (.bool false)).setCell ⟨w.heap.size+1,1,none⟩ (.slice (some ⟨A,0,none⟩) ns ns)).setCell ⟨w.heap.size+1,2,none⟩ (.slice (some ⟨B,0,none⟩) np np)) (v:=.int .i64 0) ?_ ?_
    ·have evc:∀ v,(frm a0 [28,29,30,31,32,33,34,35,36,37,3] q).eval (.const v)=v:=fun v=>rfl
     generalize (frm a0 [28,29,30,31,32,33,34,35,36,37,3] q).eval=ev at evc ⊢;simp [execOp,evc,go_sem]
    rw [zHi 3 rfl rfl]
    show K' _ _
    refine hK' _ _ ?_
    rw [<- ha0]
    go_meet
    have hbF:=hb1.trans (hbW.mono hb1.size);have n0:∀ A',zAD w' A' xs->zAD (((w'.setCell ⟨w.heap.size+1,0,none⟩ (.bool false)).setCell ⟨w.heap.size+1,1,none⟩ (.slice (some ⟨A,0,none⟩) ns ns)).setCell ⟨w.heap.size+1,2,none⟩ (.slice (some ⟨B,0,none⟩) np np)) A' xs:=fun A' h=>zRK h k0 k1 k2 _ _ _
    have n1:∀ A',zAD w' A' xp->zAD (((w'.setCell ⟨w.heap.size+1,0,none⟩ (.bool false)).setCell ⟨w.heap.size+1,1,none⟩ (.slice (some ⟨A,0,none⟩) ns ns)).setCell ⟨w.heap.size+1,2,none⟩ (.slice (some ⟨B,0,none⟩) np np)) A' xp:=fun A' h=>zRK h k0 k1 k2 _ _ _
    refine ⟨zCf q 3 _,A,B,⟨n0 _ hA2,n1 _ hB2,((hbF.setCell (p:=⟨w.heap.size+1,0,none⟩) (by show w.heap.size <= w.heap.size+1;omega) _).setCell (p:=⟨w.heap.size+1,1,none⟩) (by show w.heap.size <= w.heap.size+1;omega) _).setCell (p:=⟨w.heap.size+1,2,none⟩) (by show w.heap.size <= w.heap.size+1;omega) _⟩,?_,?_,?_⟩
    ·rw [World.cell?_setCell_other _ _ _ _ (by simp),World.cell?_setCell_other _ _ _ _ (by simp)]
     exact World.cell?_setCell_same _ _ _ k0
    ·rw [World.cell?_setCell_other _ _ _ _ (by simp)]
     refine World.cell?_setCell_same _ _ _ (u:=.slice none 0 0) ?_
     rw [World.cell?_setCell_other _ _ _ _ (by simp)]
     exact k1
    ·refine World.cell?_setCell_same _ _ _ (u:=.slice none 0 0) ?_
     rw [World.cell?_setCell_other _ _ _ _ (by simp),World.cell?_setCell_other _ _ _ _ (by simp)]
     exact k2
  case rest=>
   obtain ⟨rfl,A,B,HE,z0,z1,z2⟩:=hcut
   go_wp2_with fail
   obtain ⟨⟨hn1,hn2⟩,hx1,hx2⟩:=HN.out;refine bodyPost_ret (v:=.tuple #[.agg #[.bool false,.slice (some ⟨A,0,none⟩) ns ns,.slice (some ⟨B,0,none⟩) np np],.int .i64 0]) ?_ rfl (.inr (.inl ⟨HTk.out,K,st,lp,A,B,HDn.out,HLo.out,HSz.out.1,HSz.out.2,by rw [hn1,hn2],HE.out.2.2,by rw [hn1,hn2,hx1,hx2];exact ⟨HE.out.1,HE.out.2.1⟩⟩))
   simp only [results,Tryz.results18];simp [go_sem,z0,z1,z2]
theorem zMg (va vr pv fv:Value) (m:Mo) (ps:List (List (Int × Int))) (l:List (Int × Int)) (w:World) (hB:0 < w.heap.size) (hT:zAJ w) (hV:TaskV w va vr pv fv m ps l) :
  Calls Tryz.prog 18 #[.agg #[va,vr,pv,fv]] w (zNE w m ps l):=by
 by_cases hk:zAK m ps l=0
 ·by_cases hf:zD6 m ps l
  ·refine (zIC va vr pv fv m ps l w hV 12 (by decide) fun w' h=>(zE0 va vr pv fv m ps l w' (Nat.lt_of_lt_of_le hB h.size) (hT.below h hB) (hV.below h)).mono fun e w2 hx=>?_).mono fun e w2 ⟨h1,h2⟩=>.inr (.inr (.inl ⟨hk,hf,h1,h2⟩))
   rcases hx with ⟨_,K,hD,_⟩ | ⟨_,_,h1,h2⟩ | ⟨h1,_,_⟩
   ·exact absurd hf (zLO hD)
   ·exact ⟨h1,h2⟩
   ·exact absurd hk h1
  ·exact zOw va vr pv fv m ps l w hB hT hV hk hf
 ·refine (zIC va vr pv fv m ps l w hV (zAK m ps l) hk fun w' h=>(zE0 va vr pv fv m ps l w' (Nat.lt_of_lt_of_le hB h.size) (hT.below h hB) (hV.below h)).mono fun e w2 hx=>?_).mono fun e w2 ⟨h1,h2⟩=>.inr (.inr (.inr ⟨hk,h1,h2⟩))
  rcases hx with ⟨h0,_⟩ | ⟨h0,_⟩ | ⟨_,h1,h2⟩
  ·exact absurd h0 hk
  ·exact absurd h0 hk
  ·exact ⟨h1,h2⟩
end Go.Proofs.YtiimhhjkgeepjaaGreatDoor
namespace Go.Proofs.YtiimhhjkgeepjaaGreatDoor
open Go.ChangeShapes Go.WideShapes Go.ChangeAt Go.RowKit Go.Deep
open Terms Tm
set_option maxHeartbeats 6400000
set_option maxRecDepth 20000
section
variable {m : Mo} {ss ll : List Int}
theorem zD7 {x y:List Int} {i:Nat} (h:i < x.length):(x++y).getD i 0=x.getD i 0:=by
 simp [List.getD_eq_getElem?_getD,List.getElem?_append_left,h]
theorem zEO {x y:List Int} (i:Nat):(x++y).getD (x.length+i) 0=y.getD i 0:=by
 simp [List.getD_eq_getElem?_getD,List.getElem?_append_right]
theorem zMT {i:Nat} (h:i < (ss++ll).length):(rvd ss ll).getD i 0=(ss++ll).getD i 0:=zD7 h
theorem zQv:(rvd ss ll).getD (ss++ll).length 0=ll.getD 0 0:=by
 have h:=zEO (x:=ss++ll) (y:=[ll.getD 0 0]) 0;rw [Nat.add_zero] at h;exact h
theorem zPv (s n:Nat):zAY s n n=s:=by
 unfold zAY;rw [if_neg (by omega),Nat.mod_self,Nat.add_zero]
theorem zPN (h:ll≠[]) {i:Nat} (hi:i < (ss++ll).length):(rvd ss ll).getD (i+1) 0=(ss++ll).getD (zAY ss.length (ss++ll).length (i+1)) 0:=by
 have hl:=List.length_pos_iff.2 h;have hn:ss.length < (ss++ll).length:=by rw [List.length_append];omega
 by_cases h1:i+1 < (ss++ll).length
 ·rw [zMT h1,zBe h1]
 ·have h2:i+1=(ss++ll).length:=by omega
  rw [h2,zQv,zPv];have h3:=zEO (x:=ss) (y:=ll) 0;rw [Nat.add_zero] at h3;exact h3.symm
open Classical in
theorem zQb (h:zCa m ss ll=true):PRun m (ss++ll) ss.length:=by
 obtain ⟨hm,hll,h0,hl⟩:=of_decide_eq_true h;have hl1:=List.length_pos_iff.2 hll;have hlen:(rvd ss ll).length - 1=(ss++ll).length:=by rw [zDt,List.length_append];omega
 rw [hlen] at hl;refine ⟨by rw [List.length_append];omega,by rw [<- zPs hll,h0];rfl,fun i hi=>?_⟩
 have h1:=hl i hi;have hr:=(show zAk m (rvd ss ll) i from fun j hj=>hl j (by omega)).range hm (by rw [h0];exact zDg hm)
 rw [zCz hm hr,zPN hll hi,zMT hi] at h1;exact h1
end
section
variable {m : Mo} {xs : List Int}
structure WayX (m:Mo) (xs:List Int) (k:Nat):Prop where
 len:xs.length=k+1
 first:xs.getD 0 0=zCD m
 lead:zAk m xs k
theorem WayX.one (m:Mo):WayX m [zCD m] 0:=⟨rfl,rfl,zAk.zero _ _⟩
theorem WayX.range (hm:mcode m=0) {k:Nat} (h:WayX m xs k):∀ {i:Nat},i <= k->0 <= xs.getD i 0/\xs.getD i 0 < zAC m.vars m.vars.length:=fun {i} hi=>
 zAk.range hm (by rw [h.first];exact zDg hm) (fun j hj=>h.lead j (by omega))
theorem zQB {xs:List Int} {k:Nat} (hlen:xs.length=k+1) {c:Int} (h:zAk m xs k) (hm:mcode m=0) (hr:0 <= xs.getD k 0/\xs.getD k 0 < zAC m.vars m.vars.length) (hc:c∈zAB m (xs.getD k 0)):zAk m (xs++[c]) (k+1):=fun i hi=>by
 have e0:(xs++[c]).getD i 0=xs.getD i 0:=zD7 (by omega)
 rw [e0]
 by_cases h1:i=k
 ·subst h1
  have e1:(xs++[c]).getD (i+1) 0=c:=by
   rw [<- hlen];have h2:=zEO (x:=xs) (y:=[c]) 0;rw [Nat.add_zero] at h2;exact h2
  rw [e1,zCz hm hr];exact hc
 ·rw [zD7 (by omega)]
  exact h i (by omega)
theorem WayX.more (hm:mcode m=0) {k:Nat} (h:WayX m xs k) {c:Int} (hc:c∈zAB m (xs.getD k 0)):WayX m (xs++[c]) (k+1):=
 ⟨by rw [List.length_append,h.len];rfl,by rw [zD7 (by rw [h.len];omega)];exact h.first,zQB h.len h.lead hm (h.range hm (Nat.le_refl _)) hc⟩
end
section
theorem zBp.take {w:World} {b off:Nat} {l:List Int} (h:zBp w b off l) (q:Nat):zBp w b off (l.take q):=fun i hi=>by
 have h1:i < l.length/\i < q:=by rw [List.length_take] at hi;omega
 rw [h i h1.1]
 congr 2
 simp [List.getD_eq_getElem?_getD,h1.2]
theorem zBp.drop {w:World} {b off:Nat} {l:List Int} (h:zBp w b off l) (q:Nat):zBp w b (off+q) (l.drop q):=fun i hi=>by
 rw [List.length_drop] at hi;have h1:=h (q+i) (by omega)
 rw [show off+q+i=off+(q+i) by omega,h1]
 congr 2
 simp [List.getD_eq_getElem?_getD,List.getElem?_drop]
theorem zPU {w:World} {g n cap:Nat} {xs:List Int} (hn:xs.length=n) (hcap:n <= cap) (hg:g < w.heap.size) (hat:zBp w g 0 xs) {q:Nat} (hq:q < n) :
  zB1 w (.slice (some ⟨g,0,none⟩) q q) (xs.take q)/\zB1 w (.slice (some ⟨g,q,none⟩) (n - q) (cap - q)) (xs.drop q):=by
 have e1:(xs.take q).length=q:=by rw [List.length_take];omega
 have e2:(xs.drop q).length=n - q:=by rw [List.length_drop,hn]
 refine ⟨⟨some ⟨g,0,none⟩,q,by rw [e1],by rw [e1];exact Nat.le_refl _,(fun h=>nomatch h),fun _=>⟨g,0,rfl,hg,hat.take q⟩⟩,⟨some ⟨g,q,none⟩,cap - q,by rw [e2],by rw [e2];omega,(fun h=>nomatch h),fun _=>⟨g,q,rfl,hg,?_⟩⟩⟩
 have:=hat.drop q;rw [Nat.zero_add] at this;exact this
end
section
variable {σ : Nat -> Nat -> Bool} {v : Int} {a b : Tm} {i : Nat}
end
theorem zLb (w:World):Calls Tryz.prog 24 #[] w fun e w2=>∃ pb,e=.returned (.slice (some ⟨pb,0,none⟩) 3 3)/\Below w.heap.size w w2/\Hid (zBP w2 (.slice (some ⟨pb,0,none⟩) 3 3) zBG):=by
 have hp:=zLd w
 go_enter Tryz.func24,Tryz.ntmps24
 go_wp2_with (go_at_call 42;refine hp.mono ?_;rintro e w2 ⟨pb,rfl,hb,hP⟩)
 go_ret
 exact ⟨pb,rfl,hb,hP⟩
theorem zRj (kind:Int) (g:Nat) (lv:Value) (l:List (Int × Int)) (w:World) (hc:w.cell? ⟨g,0,none⟩=some lv) (hl:l.length <= 60) (hne:l≠[]) (hV:zAR w lv l) :
  Calls Tryz.prog 8 #[.int .i64 kind,.slice (some ⟨g,0,none⟩) 1 1] w fun e w'=>∃ a c,e=.returned (.slice a ((kind,0):: l).length c)/\Below w.heap.size w w'/\zAR w' (.slice a ((kind,0):: l).length c) ((kind,0):: l):=by
 have hp:=zSJ kind g lv l w hc hl hne hV;generalize hn:((kind,0):: l:List (Int × Int)).length=n at *;clear hn hV hl
 go_enter Tryz.func8,Tryz.ntmps8
 go_wp2_with (go_at_call 19;refine hp.mono ?_;rintro e w2 ⟨a,c,rfl,hb,hP⟩)
 go_ret
 exact ⟨a,c,rfl,hb,hP⟩
def zM4 (w:World) (c0 c1 c2 c3 c4 c5 c6:Value) (m:Mo):Prop:=∀ w',Below w.heap.size w w'->Calls Tryz.prog 5 #[.agg #[c0,c1,c2,c3,c4,c5,c6]] w' fun e w2=>∃ ao ac ro rn rc,e=.returned (.agg #[.slice ao 2 ac,.slice ro rn rc])/\Below w'.heap.size w' w2/\Hid (zAa w2 (.slice ao 2 ac) (.slice ro rn rc) m/\mcode m=0/\∀ j,j < m.rules.length->(m.rules.getD j ru0).guard≠[])
theorem zSm {w:World} {c0 c1 c2 c3 c4 c5 c6:Value} {a b:Vr} {rules:List Ru} (hG:GV a b) (h:∀ w',Below w.heap.size w w'->Calls Tryz.prog 5 #[.agg #[c0,c1,c2,c3,c4,c5,c6]] w' fun e w2=>∃ va vr,e=.returned (.agg #[va,vr])/\Below w'.heap.size w' w2/\zDG w2 va vr [a,b] rules):zM4 w c0 c1 c2 c3 c4 c5 c6 ⟨[a,b],rules⟩:=fun w' hb=>(h w' hb).mono fun e w2 ⟨va,vr,h1,h2,h3⟩=>by
 obtain ⟨ao,ac,ro,rn,rc,rfl,rfl,_⟩:=h3.gm.shape;obtain ⟨g1,g2,g3⟩:=h3;exact ⟨ao,ac,ro,rn,rc,h1,h2,g1,hG.mcode (by omega) g3,fun j hj=>zLI (g3 j hj)⟩
theorem zJG (c0 c1 c2 c3 c4 c5 c6:Value) (m:Mo) (fo:Option Addr) (fn fc:Nat) (l:List (Int × Int)) (w:World) (hM:zM4 w c0 c1 c2 c3 c4 c5 c6 m) (hO:zAR w (.slice fo fn fc) l) :
  Calls Tryz.prog 10 #[.agg #[c0,c1,c2,c3,c4,c5,c6],.slice fo fn fc] w fun e w'=>∃ ao ac ro rn rc pb,e=.returned (.agg #[.slice ao 2 ac,.slice ro rn rc,.slice (some ⟨pb,0,none⟩) 3 3,.slice fo fn fc])/\Below w.heap.size w w'/\Hid (TaskV w' (.slice ao 2 ac) (.slice ro rn rc) (.slice (some ⟨pb,0,none⟩) 3 3) (.slice fo fn fc) m zBG l/\mcode m=0):=by
 obtain ⟨W1,hW1⟩:∃ W1,W1=(w.alloc (.cells #[c0,c1,c2,c3,c4,c5,c6] 25)).alloc (.cells #[.slice none 0 0,.slice none 0 0,.slice none 0 0,.slice none 0 0] 45):=⟨_,rfl⟩
 have hb1:Below w.heap.size w W1:=by rw [hW1];exact ((Below.refl _ _).alloc (Nat.le_refl _) _).alloc (by simp) _
 have HBx:Hid (∀ w',Below (w.heap.size+2) W1 w'->(w'.cell? ⟨w.heap.size+1,0,none⟩=some (.slice none 0 0)/\w'.cell? ⟨w.heap.size+1,1,none⟩=some (.slice none 0 0)/\w'.cell? ⟨w.heap.size+1,2,none⟩=some (.slice none 0 0)/\w'.cell? ⟨w.heap.size+1,3,none⟩=some (.slice none 0 0))/\(w'.frozen? ⟨w.heap.size+1,0,none⟩=false/\w'.frozen? ⟨w.heap.size+1,1,none⟩=false/\w'.frozen? ⟨w.heap.size+1,2,none⟩=false/\w'.frozen? ⟨w.heap.size+1,3,none⟩=false)):=fun w' h=>by
  have hlt:w.heap.size+1 < w.heap.size+2:=by omega
  refine ⟨⟨?_,?_,?_,?_⟩,?_,?_,?_,?_⟩
  ·exact (h.cell (p:=⟨w.heap.size+1,0,none⟩) hlt).trans (by rw [hW1];simp [go_sem])
  ·exact (h.cell (p:=⟨w.heap.size+1,1,none⟩) hlt).trans (by rw [hW1];simp [go_sem])
  ·exact (h.cell (p:=⟨w.heap.size+1,2,none⟩) hlt).trans (by rw [hW1];simp [go_sem])
  ·exact (h.cell (p:=⟨w.heap.size+1,3,none⟩) hlt).trans (by rw [hW1];simp [go_sem])
  ·exact (h.frozen (p:=⟨w.heap.size+1,0,none⟩) hlt).trans (by rw [hW1];simp [go_sem])
  ·exact (h.frozen (p:=⟨w.heap.size+1,1,none⟩) hlt).trans (by rw [hW1];simp [go_sem])
  ·exact (h.frozen (p:=⟨w.heap.size+1,2,none⟩) hlt).trans (by rw [hW1];simp [go_sem])
  ·exact (h.frozen (p:=⟨w.heap.size+1,3,none⟩) hlt).trans (by rw [hW1];simp [go_sem])
 have hz1:W1.heap.size=w.heap.size+2:=by rw [hW1];simp
 have hmo:=hM W1 hb1;have HO:Hid (zAR w (.slice fo fn fc) l):=hO;clear hM hO;subst hW1
 go_enter Tryz.func10,Tryz.ntmps10
 go_wp2_with (first
  | (go_at_call 5;refine hmo.mono ?_;rintro e w2 ⟨ao,ac,ro,rn,rc,rfl,hb2,HM⟩;have hbw2:=hb1.trans (hb2.mono hb1.size);have hpr:=zLb w2)
  | (go_at_call 24;refine hpr.mono ?_;rintro e w3 ⟨pb,rfl,hb3,HP⟩;have hbw3:=hbw2.trans (hb3.mono hbw2.size);have hb24:=hb2.trans (hb3.mono hb2.size);obtain ⟨⟨k0,k1,k2,k3⟩,g0,g1,g2,g3⟩:=HBx.out w3 (hb24.mono (by omega))))
 have hn:NilTo (w.heap.size+1) w3 ((((w3.setCell ⟨w.heap.size+1,0,none⟩ (.slice ao 2 ac)).setCell ⟨w.heap.size+1,1,none⟩ (.slice ro rn rc)).setCell ⟨w.heap.size+1,2,none⟩ (.slice (some ⟨pb,0,none⟩) 3 3)).setCell ⟨w.heap.size+1,3,none⟩ (.slice fo fn fc)):=by
  refine ⟨by simp,fun i v hv=>?_,fun b hb=>?_⟩
  ·have hblk:=(hb24.mono (show w.heap.size+2 <= _ by omega)).block (w.heap.size+1) (by omega)
   have hx:((w.alloc (.cells #[c0,c1,c2,c3,c4,c5,c6] 25)).alloc (.cells #[.slice none 0 0,.slice none 0 0,.slice none 0 0,.slice none 0 0] 45)).cell? ⟨w.heap.size+1,i,none⟩=some v:=by rw [<- hv];exact (World.cell?_of_block hblk).symm
   have hy:=(MapKept.heap_alloc (w.alloc (.cells #[c0,c1,c2,c3,c4,c5,c6] 25)) (.cells #[.slice none 0 0,.slice none 0 0,.slice none 0 0,.slice none 0 0] 45)).1;rw [World.size_alloc] at hy;simp only [World.cell?,hy] at hx
   have hi:i < 4:=by
    rcases Nat.lt_or_ge i 4 with h | h
    ·exact h
    ·simp [Array.getElem?_eq_none (show (#[Value.slice none 0 0,.slice none 0 0,.slice none 0 0,.slice none 0 0]:Array Value).size <= i from h)] at hx
   rcases (show i=0\/i=1\/i=2\/i=3 by omega) with rfl | rfl | rfl | rfl <;> simpa using hx.symm
  ·rw [RowKit.Below.heap_setCell _ _ _ _ hb,RowKit.Below.heap_setCell _ _ _ _ hb,RowKit.Below.heap_setCell _ _ _ _ hb,RowKit.Below.heap_setCell _ _ _ _ hb]
 obtain ⟨m1,m2,m4⟩:=HM.out
 refine bodyPost_ret (v:=.agg #[.slice ao 2 ac,.slice ro rn rc,.slice (some ⟨pb,0,none⟩) 3 3,.slice fo fn fc]) ?_ rfl ⟨ao,ac,ro,rn,rc,pb,rfl,(((hbw3.setCell (p:=⟨w.heap.size+1,0,none⟩) (by simp) _).setCell (p:=⟨w.heap.size+1,1,none⟩) (by simp) _).setCell (p:=⟨w.heap.size+1,2,none⟩) (by simp) _).setCell (p:=⟨w.heap.size+1,3,none⟩) (by simp) _,⟨⟨(m1.1.below hb3).nilTo hn,(m1.2.below hb3).nilTo m4 hn⟩,HP.out.nilTo (fun j hj=>?_) hn,(HO.out.below hbw3).nilTo hn⟩,m2⟩
 ·simp [results,Tryz.results10,go_sem,k0,k1,k2,k3]
 ·have hj3:j < 3:=hj
  rcases (show j=0\/j=1\/j=2 by omega) with rfl | rfl | rfl <;> simp [zBG]
def Kp (m:Mo) (T:Tm) (b:Bool):Prop:=(b=true↔zGk m zBG T)/\zAK m zBG [(11,0)]=0
theorem zOu {m:Mo} {a b:Vr} {l:List (Int × Int)} {mm:Nat} (hG:GV a b) (hk:KTaskOk m l mm) (hvars:m.vars=[a,b]):¬ zD6 m zBG l:=by
 have hspan:1 <= zAH a*zAH b/\zAH a*zAH b <= 16:=by
  have h1:1 <= zAH a/\zAH a <= 4:=by have:=hG.a2;have:=hG.a3;unfold zAH;omega
  have h2:1 <= zAH b/\zAH b <= 4:=by have:=hG.b2;have:=hG.b3;unfold zAH;omega
  obtain ⟨x1,x2⟩:=h1;obtain ⟨y1,y2⟩:=h2;generalize zAH a=x at *;generalize zAH b=y at *
  rcases (show x=1\/x=2\/x=3\/x=4 by omega) with rfl | rfl | rfl | rfl <;> omega
 have hah:(zAA l).length=mm:=by obtain ⟨T,hT⟩:=hk.fo;exact hT.ahead
 refine zSi (P:=(zAH a*zAH b).toNat) hk.code ?_ ?_
 ·rw [hvars]
  show zAC [a,b] 2=_
  rw [zKs];omega
 ·rw [hah]
  have:2 ^ mm <= 2 ^ 6:=Nat.pow_le_pow_right (by decide) hk.many
  have h3:(zAH a*zAH b).toNat * 2 ^ mm <= 16*64:=Nat.mul_le_mul (by omega) (by omega)
  omega
theorem zLA (va vr pv fv:Value) (m:Mo) (a b:Vr) (l:List (Int × Int)) (T:Tm) (mm:Nat) (w:World) (hB:0 < w.heap.size) (hT:zAJ w) (hV:TaskV w va vr pv fv m zBG l) (hG:GV a b) (hvars:m.vars=[a,b]) (hmc:mcode m=0) (hF:FOk mm l T) (hl:l.length <= 59) (hmm:mm <= 6) :
  Calls Tryz.prog 18 #[.agg #[va,vr,pv,fv]] w fun e w'=>∃ bb so sn sc lo ln lc,e=.returned (.tuple #[.agg #[.bool bb,.slice so sn sc,.slice lo ln lc],.int .i64 0])/\Below w.heap.size w w'/\Hid (Kp m T bb):=by
 have hv2:m.vars.length=2:=by rw [hvars];rfl
 have hK:KTaskOk m l mm:=⟨hmc,hv2,⟨T,hF⟩,hl,hmm⟩;have hk0:zAK m zBG [(11,0)]=0:=(KTaskOk.mk hmc hv2 ⟨_,FOk.yes⟩ (by decide) (by decide):KTaskOk m [(11,0)] 0).code
 have hgv:=zN4 hF;have hz:=hF.ends (by omega)
 refine (zMg va vr pv fv m zBG l w hB hT hV).mono fun e w' hx=>?_
 rcases hx with ⟨hk,⟨K,hD,hfc⟩,h1,h2⟩ | ⟨hk,K,st,lp,A,B,hD,hL,_,_,h1,h2,_⟩ | ⟨hk,hf,_,_⟩ | ⟨hk,_,_⟩
 ·exact ⟨true,_,_,_,_,_,_,h1,h2,⟨fun _=>zKn hF.wf hF.ops hz hgv.1 hgv.2 hk hD (by rw [hfc];decide),fun _=>rfl⟩,hk0⟩
 ·exact ⟨false,_,_,_,_,_,_,h1,h2,⟨fun h=>(by cases h),fun h=>absurd h (zQ9 hF.wf hF.ops hz hgv.1 hgv.2 hk hD hL)⟩,hk0⟩
 ·exact absurd hf (zOu hG hK hvars)
 ·exact absurd hK.code hk
theorem zMz (c0 c1 c2 c3 c4 c5 c6:Value) (m:Mo) (a b:Vr) (fv:Value) (l:List (Int × Int)) (T:Tm) (mm:Nat) (w:World) (hB:0 < w.heap.size) (hT:zAJ w) (hG:GV a b) (hvars:m.vars=[a,b]) (hM:zM4 w c0 c1 c2 c3 c4 c5 c6 m) (hO:zAR w fv l) (hF:FOk mm l T) (hl:l.length <= 59) (hmm:mm <= 6) :
  Calls Tryz.prog 7 #[.agg #[c0,c1,c2,c3,c4,c5,c6],fv] w fun e w'=>∃ bb,e=.returned (.tuple #[.bool bb,.bool true])/\Below w.heap.size w w'/\Hid (Kp m T bb):=by
 obtain ⟨fo,fc,rfl,_⟩:=id hO;have hA1:Below w.heap.size w (w.alloc (.cells #[c0,c1,c2,c3,c4,c5,c6] 25)):=(Below.refl _ _).alloc (Nat.le_refl _) _;have htk:=zJG c0 c1 c2 c3 c4 c5 c6 m fo l.length fc l _ (fun w' h=>hM w' (hA1.trans (h.mono hA1.size))) (hO.below hA1)
 have HVc:Hid (∀ (w':World) (va vr pv fv:Value),Below w.heap.size w w'->TaskV w' va vr pv fv m zBG l->mcode m=0->Calls Tryz.prog 18 #[.agg #[va,vr,pv,fv]] w' fun e w2=>∃ bb so sn sc lo ln lc,e=.returned (.tuple #[.agg #[.bool bb,.slice so sn sc,.slice lo ln lc],.int .i64 0])/\Below w'.heap.size w' w2/\Hid (Kp m T bb)):=fun w' va vr pv fv h hv hmc=>zLA va vr pv fv m a b l T mm w' (Nat.lt_of_lt_of_le hB h.size) (hT.below h hB) hv hG hvars hmc hF hl hmm
 clear hM hO hF hT;generalize l.length=fn at *
 go_enter Tryz.func7,Tryz.ntmps7
 go_wp2_with (first
  | (go_at_call 10;refine htk.mono ?_;rintro e w1 ⟨ao,ac,ro,rn,rc,pb,rfl,hb1,HV⟩;have hbw1:=hA1.trans (hb1.mono hA1.size);have hvc:=HVc.out w1 _ _ _ _ hbw1 HV.out.1 HV.out.2)
  | (go_at_call 18;refine hvc.mono ?_;rintro e w2 ⟨bb,so,sn,sc,lo,ln,lc,rfl,hb2,HK⟩))
 refine bodyPost_ret (v:=.tuple #[.bool bb,.bool true]) ?_ rfl ⟨bb,rfl,(hbw1.trans (hb2.mono hbw1.size)).alloc (Nat.le_trans hbw1.size hb2.size) _,HK⟩
 simp [results,Tryz.results7,go_sem]
def zIe (w:World) (c0 c1 c2 c3 c4 c5 c6:Value) (m:Mo):Prop:=∀ (w':World) (fv:Value) (l:List (Int × Int)) (T:Tm) (mm:Nat),Below w.heap.size w w'->zAR w' fv l->FOk mm l T->l.length <= 59->mm <= 6->Calls Tryz.prog 7 #[.agg #[c0,c1,c2,c3,c4,c5,c6],fv] w' fun e w2=>∃ bb,e=.returned (.tuple #[.bool bb,.bool true])/\Below w'.heap.size w' w2/\Hid (Kp m T bb)
theorem zSO {w:World} {c0 c1 c2 c3 c4 c5 c6:Value} {a b:Vr} {rules:List Ru} (hB:0 < w.heap.size) (hT:zAJ w) (hG:GV a b) (h:∀ w',Below w.heap.size w w'->Calls Tryz.prog 5 #[.agg #[c0,c1,c2,c3,c4,c5,c6]] w' fun e w2=>∃ va vr,e=.returned (.agg #[va,vr])/\Below w'.heap.size w' w2/\zDG w2 va vr [a,b] rules):zIe w c0 c1 c2 c3 c4 c5 c6 ⟨[a,b],rules⟩:=fun w' fv l T mm hb hO hF hl hmm=>
 zMz c0 c1 c2 c3 c4 c5 c6 ⟨[a,b],rules⟩ a b fv l T mm w' (Nat.lt_of_lt_of_le hB hb.size) (hT.below hb hB) hG rfl (fun w2 h2=>zSm hG h w2 (hb.trans (h2.mono hb.size))) hO hF hl hmm
inductive Fd
 | same (u:Value)
 | one (l:List (Int × Int))
 | two (l k:List (Int × Int))
 | ops (l:List (Int × Int))
 | held (T:Tm)
 | bit (T:Tm)
 | yes
def Fd.At (m:Mo):Fd->Value->World->Prop
 | .same u,v,_=>v=u
 | .one l,v,w=>One w v l
 | .two l k,v,w=>Two w v l k
 | .ops l,v,w=>zAR w v l
 | .held T,v,_=>∃ b:Bool,v=.tuple #[.bool b,.bool true]/\Kp m T b
 | .bit T,v,_=>∃ b:Bool,v=.bool b/\Kp m T b
 | .yes,v,_=>v=.bool true
theorem Fd.below {m:Mo} {f:Fd} {v:Value} {w w':World} (h:f.At m v w) (hb:Below w.heap.size w w'):f.At m v w':=by
 cases f with
 | same u=>exact h
 | one l=>exact One.below (w:=w) h hb
 | two l k=>exact Two.below (w:=w) h hb
 | ops l=>exact zAR.below (w:=w) h hb
 | held T=>exact h
 | bit T=>exact h
 | yes=>exact h
def FdP (m:Mo) (fs:List Fd) (i:Nat) (v:Value) (w:World):Prop:=(fs.getD i .yes).At m v w
theorem zMd (m:Mo) (fs:List Fd) (n i:Nat) (v:Value) (w w':World) (_:i < n) (h:FdP m fs i v w) (hb:Below w.heap.size w w'):FdP m fs i v w':=Fd.below (w:=w) h hb
section
variable {o : Oper} {a : Act} {w : World} {Q : Exit -> Act -> World -> Prop} {m : Mo}
theorem zRD {s D:Nat} {c0 c1 c2 c3 c4 c5 c6:Value} (hop:o.op=.load 25 (.tmp s)) (he:a.eval (.tmp s)=.pointer (some ⟨D,0,none⟩)) (hc:w.cell? ⟨D,0,none⟩=some c0/\w.cell? ⟨D,1,none⟩=some c1/\w.cell? ⟨D,2,none⟩=some c2/\w.cell? ⟨D,3,none⟩=some c3/\w.cell? ⟨D,4,none⟩=some c4/\w.cell? ⟨D,5,none⟩=some c5/\w.cell? ⟨D,6,none⟩=some c6):Oper.wp Tryz.prog o a w (fun a' w'=>∃ v',a'=a.put o.dst v'/\Below w.heap.size w w'/\v'=.agg #[c0,c1,c2,c3,c4,c5,c6]) Q:=by
 obtain ⟨h0,h1,h2,h3,h4,h5,h6⟩:=hc;refine zAT (w':=w) (v:=.agg #[c0,c1,c2,c3,c4,c5,c6]) (post:=fun v' _=>v'=.agg #[c0,c1,c2,c3,c4,c5,c6]) ?_ (Below.refl _ _) rfl
 generalize a.eval=ev at he ⊢;simp [execOp,hop,he,go_sem,h0,h1,h2,h3,h4,h5,h6]
theorem zTJ {s:Nat} {k:Int} {l:List (Int × Int)} (hop:o.op=.call { callee:=.value (.func 8),args:=#[.const (.int .i64 k),.tmp s],argTypes:=#[3,43]}) (he:One w (a.eval (.tmp s)) l) (hl:l.length <= 60) (hne:l≠[]):Oper.wp Tryz.prog o a w (fun a' w'=>∃ v',a'=a.put o.dst v'/\Below w.heap.size w w'/\zAR w' v' ((k,0):: l)) Q:=by
 obtain ⟨g,lv,hv,hc,hV⟩:=he;refine zDy (f:=8) (args:=#[.int .i64 k,.slice (some ⟨g,0,none⟩) 1 1]) (post:=fun v' w'=>zAR w' v' ((k,0):: l)) ?_ ((zRj k g lv l w hc hl hne hV).mono ?_)
 ·have evc:∀ v,a.eval (.const v)=v:=fun v=>rfl
  have evf:∀ n,a.eval (.func n)=.func (.func n) #[] #[]:=fun n=>rfl
  generalize a.eval=ev at hv evc evf ⊢;simp [execOp,hop,hv,evc,evf,go_sem]
 ·rintro e w' ⟨a',c,rfl,hb,hO⟩
  exact ⟨_,rfl,hb,hO⟩
theorem zQR {s t mm:Nat} {c0 c1 c2 c3 c4 c5 c6:Value} {l:List (Int × Int)} {T:Tm} {w0:World} (hop:o.op=.call { callee:=.value (.func 7),args:=#[.tmp s,.tmp t],argTypes:=#[25,27]}) (hH:zIe w0 c0 c1 c2 c3 c4 c5 c6 m) (hb:Below w0.heap.size w0 w) (he:a.eval (.tmp s)=.agg #[c0,c1,c2,c3,c4,c5,c6]) (hO:zAR w (a.eval (.tmp t)) l) (hF:FOk mm l T) (hl:l.length <= 59) (hmm:mm <= 6):Oper.wp Tryz.prog o a w (fun a' w'=>∃ v',a'=a.put o.dst v'/\Below w.heap.size w w'/\∃ b:Bool,v'=.tuple #[.bool b,.bool true]/\Kp m T b) Q:=by
 refine zDy (f:=7) (args:=#[.agg #[c0,c1,c2,c3,c4,c5,c6],a.eval (.tmp t)]) (post:=fun v' _=>∃ b:Bool,v'=.tuple #[.bool b,.bool true]/\Kp m T b) ?_ ((hH w _ l T mm hb hO hF hl hmm).mono ?_)
 ·have evf:∀ n,a.eval (.func n)=.func (.func n) #[] #[]:=fun n=>rfl
  generalize a.eval=ev at he evf ⊢;simp [execOp,hop,he,evf,go_sem]
 ·rintro e w' ⟨b,rfl,hb,hK⟩
  exact ⟨_,rfl,hb,b,rfl,hK.out⟩
theorem zTA {s:Nat} {T:Tm} (hop:o.op=.move (.tmp s)) (h:∃ b:Bool,a.eval (.tmp s)=.tuple #[.bool b,.bool true]/\Kp m T b):Oper.wp Tryz.prog o a w (fun a' w'=>∃ v',a'=a.put o.dst v'/\Below w.heap.size w w'/\∃ b:Bool,v'=.tuple #[.bool b,.bool true]/\Kp m T b) Q:=by
 obtain ⟨b,he,hK⟩:=h;refine zAT (w':=w) (v:=.tuple #[.bool b,.bool true]) (post:=fun v' _=>∃ b:Bool,v'=.tuple #[.bool b,.bool true]/\Kp m T b) ?_ (Below.refl _ _) ⟨b,rfl,hK⟩
 generalize a.eval=ev at he ⊢;simp [execOp,hop,he,go_sem]
theorem zSs {s:Nat} {T:Tm} (hop:o.op=.extract (.tmp s) 0) (h:∃ b:Bool,a.eval (.tmp s)=.tuple #[.bool b,.bool true]/\Kp m T b):Oper.wp Tryz.prog o a w (fun a' w'=>∃ v',a'=a.put o.dst v'/\Below w.heap.size w w'/\∃ b:Bool,v'=.bool b/\Kp m T b) Q:=by
 obtain ⟨b,he,hK⟩:=h;refine zAT (w':=w) (v:=.bool b) (post:=fun v' _=>∃ b:Bool,v'=.bool b/\Kp m T b) ?_ (Below.refl _ _) ⟨b,rfl,hK⟩
 generalize a.eval=ev at he ⊢;simp [execOp,hop,he,go_sem]
theorem zSl {s:Nat} {T:Tm} (hop:o.op=.extract (.tmp s) 1) (h:∃ b:Bool,a.eval (.tmp s)=.tuple #[.bool b,.bool true]/\Kp m T b):Oper.wp Tryz.prog o a w (fun a' w'=>∃ v',a'=a.put o.dst v'/\Below w.heap.size w w'/\v'=.bool true) Q:=by
 obtain ⟨b,he,hK⟩:=h;refine zAT (w':=w) (v:=.bool true) (post:=fun v' _=>v'=.bool true) ?_ (Below.refl _ _) rfl
 generalize a.eval=ev at he ⊢;simp [execOp,hop,he,go_sem]
theorem zSn {s:Nat} {T:Tm} (hop:o.op=.assign (.tmp s)) (h:∃ b:Bool,a.eval (.tmp s)=.bool b/\Kp m T b):Oper.wp Tryz.prog o a w (fun a' w'=>∃ v',a'=a.put o.dst v'/\Below w.heap.size w w'/\∃ b:Bool,v'=.bool b/\Kp m T b) Q:=by
 obtain ⟨b,he,hK⟩:=h;refine zAT (w':=w) (v:=.bool b) (post:=fun v' _=>∃ b:Bool,v'=.bool b/\Kp m T b) ?_ (Below.refl _ _) ⟨b,rfl,hK⟩
 generalize a.eval=ev at he ⊢;simp [execOp,hop,he,go_sem]
end
def zGh (w:World) (D:Nat) (c0 c1 c2 c3 c4 c5 c6:Value):Prop:=w.cell? ⟨D,0,none⟩=some c0/\w.cell? ⟨D,1,none⟩=some c1/\w.cell? ⟨D,2,none⟩=some c2/\w.cell? ⟨D,3,none⟩=some c3/\w.cell? ⟨D,4,none⟩=some c4/\w.cell? ⟨D,5,none⟩=some c5/\w.cell? ⟨D,6,none⟩=some c6
theorem zGh.below {w w':World} {D:Nat} {c0 c1 c2 c3 c4 c5 c6:Value} (h:zGh w D c0 c1 c2 c3 c4 c5 c6) (hb:Below w.heap.size w w'):zGh w' D c0 c1 c2 c3 c4 c5 c6:=by
 obtain ⟨h0,h1,h2,h3,h4,h5,h6⟩:=h;exact ⟨zBt hb h0,zBt hb h1,zBt hb h2,zBt hb h3,zBt hb h4,zBt hb h5,zBt hb h6⟩
structure TFor (w:World) (v:Value) (tempo:Nat) (x:List (Int × Int)) (T:Tm) (k:Nat):Prop where
 v:zAR w v x
 ok:FOk k x T
 len:x.length <= 17
 ne:x≠[]
 many:k <= tempo
theorem TFor.below {w w':World} {v:Value} {tempo k:Nat} {x:List (Int × Int)} {T:Tm} (h:TFor w v tempo x T k) (hb:Below w.heap.size w w'):TFor w' v tempo x T k:=⟨h.v.below hb,h.ok,h.len,h.ne,h.many⟩
theorem zPj (rawv:Value) (rs:List (Int × Int)) (tempo:Nat) (w:World) (ht:tempo <= 6) (hR:Raws w w.heap.size rawv rs) :
  Calls Tryz.prog 4 #[rawv,.int .i64 3,.int .i64 (tempo:Int)] w fun e w'=>∃ fo fn fc x T k,e=.returned (.slice fo fn fc)/\Below w.heap.size w w'/\Hid (TFor w' (.slice fo fn fc) tempo x T k):=
 (zJf rawv rs 3 tempo w (by decide) (by decide) (by omega) hR).mono fun e w2 ⟨fo,fc,l,mm,h1,h2,h3,h4,h5,h6⟩=>by
  obtain ⟨T,hT⟩:=h2.ok;exact ⟨fo,_,fc,l,T,mm,h1,h6,h5,hT,h4,h2.ne,h3⟩
section
variable {m : Mo} {A B : Tm} {a b c d : Bool}
end
section
variable {m : Mo} {ps : List (List (Int × Int))} {l : List (Int × Int)}
def zGE (path:List Int) (s t:Nat):Int:=path.getD (zAY s path.length t) 0
theorem zPm {path:List Int} {s:Nat} (h:PRun m path s):zGE path s 0=zB9 m:=by
 unfold zGE;rw [zBe (Nat.lt_of_le_of_lt (Nat.zero_le _) h.lt),h.first]
theorem zOd {s n t:Nat} (hs:s < n):zAY s n (t+1)=zAY s n (zAY s n t+1):=by
 unfold zAY
 by_cases h1:t < n
 ·rw [if_pos h1]
 ·rw [if_neg h1,if_neg (by omega:¬ t+1 < n)]
  have hp:0 < n - s:=by omega
  have hlt:=Nat.mod_lt (t - s) hp;have e:t+1 - s=(t - s)+1:=by omega
  by_cases h2:s+(t - s) % (n - s)+1 < n
  ·rw [if_pos h2,e,Nat.add_mod]
   by_cases h3:n - s=1
   ·omega
   ·rw [Nat.mod_eq_of_lt (by omega:1 < n - s),Nat.mod_eq_of_lt (by omega:(t - s) % (n - s)+1 < n - s)]
    omega
  ·rw [if_neg h2]
   have h4:(t - s) % (n - s)+1=n - s:=by omega
   have h5:s+(t - s) % (n - s)+1 - s=n - s:=by omega
   rw [h5,e,Nat.mod_self]
   have h6:((t - s)+1) % (n - s)=0:=by
    rw [Nat.add_mod]
    by_cases h3:n - s=1
    ·rw [h3];exact Nat.mod_one _
    ·rw [Nat.mod_eq_of_lt (by omega:1 < n - s),h4,Nat.mod_self]
   rw [h6]
theorem zPM {path:List Int} {s:Nat} (h:PRun m path s) (t:Nat):zGE path s (t+1)∈zAB m (zGE path s t):=by
 unfold zGE;rw [zOd h.lt];exact h.step _ (zDY h.lt)
theorem zSk {path:List Int} {s:Nat} (h:PRun m path s) (t v:Nat):sig (path.map (zAG m ps)) s t v=(zAG m ps (zGE path s t)).getD v false:=by
 unfold sig zGE;rw [List.length_map];have hl:=zDY (i:=t) h.lt
 congr 1
 simp [List.getD_eq_getElem?_getD,hl]
end
section
variable {m : Mo} {ps : List (List (Int × Int))} {l : List (Int × Int)}
theorem zNx (vars:List Vr) (env:List Int) (rules:List Ru) (k:Nat):(zA5 vars env rules k).length <= k:=by
 unfold zA5;refine Nat.le_trans (List.length_filterMap_le _ _) ?_
 rw [List.length_take];exact Nat.min_le_left _ _
theorem zRx (hr:m.rules.length <= 1) (x:Int):∃ y,zEH m x=[y]:=by
 unfold zEH
 split
 ·exact ⟨_,rfl⟩
 ·rename_i h
  have h1:=zNx m.vars (zA0 m.vars x) m.rules m.rules.length;have h2:=List.length_pos_iff.2 h;exact List.length_eq_one_iff.1 (by omega)
theorem zSu (y:Int):upL [y]=[y]:=by
 have h0:∀ x,x∈upL [y]↔x=y:=fun x=>by rw [(zDq [y]).2,List.mem_singleton]
 have hy:y∈upL [y]:=(h0 y).2 rfl;have hr:=(zDq [y]).1
 rcases hu:upL [y] with _ | ⟨a,_ | ⟨b,t⟩⟩
 ·rw [hu] at hy;exact absurd hy List.not_mem_nil
 ·have ha:=(h0 a).1 (by rw [hu];exact List.mem_cons_self)
  rw [ha]
 ·have ha:=(h0 a).1 (by rw [hu];exact List.mem_cons_self)
  have hb:=(h0 b).1 (by rw [hu];exact List.mem_cons_of_mem _ List.mem_cons_self)
  rw [hu] at hr;have h1:=List.rel_of_pairwise_cons hr (List.mem_cons_self (a:=b) (l:=t));omega
theorem zKM (hr:m.rules.length <= 1) (x:Int):∃ y,zAB m x=[y]:=by
 obtain ⟨y,hy⟩:=zRx hr x;exact ⟨y,by unfold zAB;rw [hy,zSu]⟩
theorem zN8 (hr:m.rules.length <= 1) {path:List Int} {s:Nat} (h:PRun m path s):∀ t,zGE path s t=zDH m t
 | 0=>zPm h
 | t+1=>by
  have h1:=zPM h t;rw [zN8 hr h t] at h1;have h2:=zEq (m:=m) t;obtain ⟨y,hy⟩:=zKM hr (zDH m t);rw [hy,List.mem_singleton] at h1 h2;rw [h1,h2]
noncomputable def zGD (m:Mo) (ps:List (List (Int × Int))) (t v:Nat):Bool:=(zAG m ps (zDH m t)).getD v false
theorem zIp (hr:m.rules.length <= 1) {path:List Int} {s:Nat} (h:PRun m path s):sig (path.map (zAG m ps)) s=zGD m ps:=by
 funext t v
 rw [zSk h,zN8 hr h];rfl
theorem zKJ (hk:zAK m ps l=0) (hr:m.rules.length <= 1) (T:Tm):zGk m ps T↔T.hb (zGD m ps) 0=true:=by
 constructor
 ·intro ha
  obtain ⟨p,s,h⟩:=zQw hk;have h1:=ha p s h;rw [zIp hr h] at h1;exact h1
 ·intro h p s hp
  rw [zIp hr hp];exact h
theorem zSW (hr:m.rules.length <= 1) {ss ll:List Int} (h:zCa m ss ll=true) (T:Tm):T.hb (sig (lets m ps ss++lets m ps ll) ss.length) 0=T.hb (zGD m ps) 0:=by
 unfold lets;rw [<- List.map_append,zIp hr (zQb h)]
end
section
variable {m : Mo} {ps : List (List (Int × Int))} {l : List (Int × Int)} {n : Int}
end
section
variable {t te : TypeId} {w w' w'' : World}
end
section
variable {t : TypeId} {w0 wr w2 w3 : World} {vo vo' v : Value} {k : Nat} {Pz : Nat -> Value -> World -> Prop}
end
def nSt (a b:Vr):Nat:=(zAH a*zAH b).toNat
theorem zS0 {a b:Vr} (hG:GV a b):(nSt a b:Int)=zAH a*zAH b/\1 <= nSt a b/\nSt a b <= 16:=by
 have hspan:1 <= zAH a*zAH b/\zAH a*zAH b <= 16:=by
  have h1:1 <= zAH a/\zAH a <= 4:=by have:=hG.a2;have:=hG.a3;unfold zAH;omega
  have h2:1 <= zAH b/\zAH b <= 4:=by have:=hG.b2;have:=hG.b3;unfold zAH;omega
  obtain ⟨x1,x2⟩:=h1;obtain ⟨y1,y2⟩:=h2;generalize zAH a=x at *;generalize zAH b=y at *
  rcases (show x=1\/x=2\/x=3\/x=4 by omega) with rfl | rfl | rfl | rfl <;> omega
 unfold nSt;omega
section
variable {m : Mo} {ps : List (List (Int × Int))} {l : List (Int × Int)} {K : Nat}
end
section
variable {m : Mo} {ps : List (List (Int × Int))} {l : List (Int × Int)} {K : Nat}
end
section
variable {o : Oper} {a : Act} {w : World} {Q : Exit -> Act -> World -> Prop} {m : Mo}
end
section
variable {m : Mo} {b : Bool} {x y u z : Int}
end
theorem zMu {w:World} {v:Value} {vars:List Vr} (h:zMM w v vars):∃ c0 c1 c2 c3 c4 c5 ko kn kc a b rules,v=.agg #[c0,c1,c2,c3,c4,c5,.slice ko kn kc]/\kn <= kc/\(ko=none->kc=0/\kn=0)/\GV a b/\rules.length <= 1/\
  ∀ w',Below w.heap.size w w'->Calls Tryz.prog 5 #[.agg #[c0,c1,c2,c3,c4,c5,.slice ko (min kn 1) kc]] w' fun e w2=>∃ va vr,e=.returned (.agg #[va,vr])/\Below w'.heap.size w' w2/\zDG w2 va vr [a,b] rules:=by
 obtain ⟨sp0,sp1,lw0,lw1,iv0,iv1,pv,ps,rfl,hI,hP,rfl⟩:=h;obtain ⟨a,b,he,hG⟩:=zQz sp0 sp1 lw0 lw1 iv0 iv1;obtain ⟨ko,kc,rfl,⟨h1,h2⟩,h3⟩:=hP;have hlen:(ps.take 1).length=min ps.length 1:=by rw [List.length_take,Nat.min_comm]
 refine ⟨_,_,_,_,_,_,ko,ps.length,kc,a,b,((ps.take 1).take 5).map zEK,rfl,h1,h2,hG,?_,fun w' hb=>?_⟩
 ·rw [List.length_map,List.length_take,hlen];omega
 ·rw [<- he]
  refine zLY sp0 sp1 lw0 lw1 iv0 iv1 (.slice ko (min ps.length 1) kc) (ps.take 1) w' hI (zD8.below (w:=w) ?_ hb)
  refine ⟨ko,kc,by rw [hlen],⟨by rw [hlen];omega,fun h=>⟨(h2 h).1,by rw [hlen,(h2 h).2];rfl⟩⟩,fun h0=>?_⟩
  rw [hlen] at h0;obtain ⟨b',off,e1,e2,e3⟩:=h3 (by omega)
  refine ⟨b',off,e1,e2,fun i hi=>?_⟩
  rw [hlen] at hi;have h4:=e3 i (by omega)
  rw [show (ps.take 1).getD i pl0=ps.getD i pl0 by simp [List.getD_eq_getElem?_getD,show i < 1 by omega]]
  exact h4
section
variable {m : Mo} {xs : List Int} {c : Int} {k : Nat}
open Classical in
theorem WayX.round (hm:mcode m=0) (h:WayX m (xs++[c]) k) (hlen:xs.length=k) {q:Nat} (hq:q < k) (he:xs.getD q 0=c):zCa m (xs.take q) (xs.drop q)=true:=by
 have hne:xs.drop q≠[]:=by
  intro e;have:=congrArg List.length e;rw [List.length_drop] at this;simp at this
  omega
 have hd:(xs.drop q).getD 0 0=c:=by
  rw [<- he];simp [List.getD_eq_getElem?_getD]
 have hrv:rvd (xs.take q) (xs.drop q)=xs++[c]:=by
  unfold rvd;rw [List.take_append_drop,hd]
 have h0:(rvd (xs.take q) (xs.drop q)).getD 0 0=zCD m:=by
  rw [hrv];exact h.first
 rw [zJL hm hne h0,hrv];refine decide_eq_true ?_
 rw [List.length_append,hlen];exact h.lead
theorem WayX.last (hlen:xs.length=k):(xs++[c]).getD k 0=c:=by
 rw [<- hlen];have h2:=zEO (x:=xs) (y:=[c]) 0;rw [Nat.add_zero] at h2;exact h2
theorem WayX.few {N:Nat} (hm:mcode m=0) (h:WayX m (xs++[c]) k) (hlen:xs.length=k) (hN:zAC m.vars m.vars.length=(N:Int)) (hnd:xs.Nodup):k <= N:=by
 rw [<- hlen];refine zDo hnd fun x hx=>?_
 obtain ⟨i,hi,e⟩:=List.getElem_of_mem hx;have h1:=h.range hm (i:=i) (by omega)
 rw [zD7 hi,List.getD_eq_getElem?_getD,List.getElem?_eq_getElem hi,Option.getD_some,e,hN] at h1
 exact h1
theorem zNH (h:xs.Nodup) (hc:c∉xs):(xs++[c]).Nodup:=by
 rw [List.nodup_append];refine ⟨h,by simp,fun a ha b hb e=>hc ?_⟩
 rw [List.mem_singleton] at hb;rw [<- hb,<- e];exact ha
end
theorem zNR {w:World} {g n cap:Nat} {xs:List Int} (hn:xs.length=n) (hcap:n <= cap) (hg:g < w.heap.size) (hat:zBp w g 0 xs) {q:Nat} (hq:q < n) :
  zB1 w (.slice (some ⟨g,0,none⟩) q cap) (xs.take q)/\zB1 w (.slice (some ⟨g,q,none⟩) (n - q) (cap - q)) (xs.drop q):=by
 obtain ⟨_,h2⟩:=zPU hn hcap hg hat hq;have e1:(xs.take q).length=q:=by rw [List.length_take];omega
 exact ⟨⟨some ⟨g,0,none⟩,cap,by rw [e1],by rw [e1];omega,(fun h=>nomatch h),fun _=>⟨g,0,rfl,hg,hat.take q⟩⟩,h2⟩
def onP (m:Mo) (l:List (Int × Int)) (cs:List Value):Nat->Value->World->Prop
 | 2,v,w=>∃ ao ac ro rn rc pb fo fn fc,v=.agg #[.slice ao 2 ac,.slice ro rn rc,.slice (some ⟨pb,0,none⟩) 3 3,.slice fo fn fc]/\TaskV w (.slice ao 2 ac) (.slice ro rn rc) (.slice (some ⟨pb,0,none⟩) 3 3) (.slice fo fn fc) m zBG l
 | i,v,_=>v=cs.getD i undef
theorem zNI {m:Mo} {l:List (Int × Int)} {cs:List Value} {i:Nat} {v:Value} {w w':World} (hi:i < 15) (h:onP m l cs i v w) (hb:Below w.heap.size w w'):onP m l cs i v w':=by
 have hcs:i=0\/i=1\/i=2\/i=3\/i=4\/i=5\/i=6\/i=7\/i=8\/i=9\/i=10\/i=11\/i=12\/i=13\/i=14:=by omega
 rcases hcs with rfl | rfl | rfl | rfl | rfl | rfl | rfl | rfl | rfl | rfl | rfl | rfl | rfl | rfl | rfl
 case inr.inr.inl=>
  obtain ⟨ao,ac,ro,rn,rc,pb,fo,fn,fc,e,hV⟩:=h;exact ⟨ao,ac,ro,rn,rc,pb,fo,fn,fc,e,hV.below hb⟩
 all_goals exact h
theorem zJ0 {w:World} {base xb n xc:Nat} {xs:List Int} (h:w.ownsRow base 3 1 (.slice (some ⟨xb,0,none⟩) n xc) n (zAL xs)) (hn:xs.length=n) (h0:0 < n):n <= xc/\xb < w.heap.size/\zBp w xb 0 xs:=by
 subst hn;have h1:=zF2 h;obtain ⟨ao,cap,e,hc,_,h2⟩:=h1
 cases e
 obtain ⟨b,off,e2,hb,hat⟩:=h2 (List.length_pos_iff.1 h0)
 cases e2
 exact ⟨hc,hb,hat⟩
theorem zIa (c0 c1 c2 c3 c4 c5:Value) (ko:Option Addr) (kn kc:Nat) (a b:Vr) (rules:List Ru) (rawv:Value) (rs:List (Int × Int)) (w:World) (hB:0 < w.heap.size) (hT:zAJ w) (hkc:kn <= kc) (hko:ko=none->kc=0/\kn=0) (hG:GV a b) (hr1:rules.length <= 1) (hR:Raws w w.heap.size rawv rs)
  (hmd:∀ w',Below w.heap.size w w'->Calls Tryz.prog 5 #[.agg #[c0,c1,c2,c3,c4,c5,.slice ko (min kn 1) kc]] w' fun e w2=>∃ va vr,e=.returned (.agg #[va,vr])/\Below w'.heap.size w' w2/\zDG w2 va vr [a,b] rules) :
  Calls Tryz.prog 3 #[.agg #[c0,c1,c2,c3,c4,c5,.slice ko kn kc],rawv] w fun e w'=>e=.returned (.bool true)/\Below w.heap.size w w':=by
 obtain ⟨i0,hi,hz0,hz1,hz2⟩:=info_parts zA8;obtain ⟨W1,hW1⟩:∃ W1,W1=w.alloc (.cells #[c0,c1,c2,c3,c4,c5,.slice ko (min kn 1) kc] 25):=⟨_,rfl⟩
 have hA1:Below w.heap.size w W1:=by rw [hW1];exact (Below.refl _ _).alloc (Nat.le_refl _) _
 have HD0:Hid (zGh W1 w.heap.size c0 c1 c2 c3 c4 c5 (.slice ko (min kn 1) kc)):=by
  show zGh _ _ _ _ _ _ _ _ _
  rw [hW1];refine ⟨?_,?_,?_,?_,?_,?_,?_⟩ <;> simp [go_sem]
 have HM:Hid (zM4 w c0 c1 c2 c3 c4 c5 (.slice ko (min kn 1) kc) ⟨[a,b],rules⟩):=zSm hG hmd;have HH:Hid (zIe w c0 c1 c2 c3 c4 c5 (.slice ko (min kn 1) kc) ⟨[a,b],rules⟩):=zSO hB hT hG hmd;have hfo:=zPj rawv rs 3 W1 (by decide) (hR.up hA1)
 obtain ⟨hN,hN1,hN16⟩:=zS0 hG;have HN:Hid (zAC [a,b] 2=(nSt a b:Int)):=by show _=_;rw [zKs,hN]
 have HFi:Hid (∀ (w':World) (va vr:Value),Below w.heap.size w w'->zAa w' va vr ⟨[a,b],rules⟩->mcode ⟨[a,b],rules⟩=0->Calls Tryz.prog 6 #[.agg #[va,vr]] w' fun e w2=>e=.returned (.tuple #[.int .i64 (zCD ⟨[a,b],rules⟩),.int .i64 0])/\Below w'.heap.size w' w2):=fun w' va vr h hV hm=>by
  have h1:=zEN va vr ⟨[a,b],rules⟩ w' (Nat.lt_of_lt_of_le hB h.size) (hT.below h hB) hV;rw [if_pos hm,hm] at h1;exact h1
 have HNe:Hid (∀ (w':World) (va vr:Value) (code:Int),Below w.heap.size w w'->zAa w' va vr ⟨[a,b],rules⟩->mcode ⟨[a,b],rules⟩=0->0 <= code/\code < zAC [a,b] 2->∃ y,y∈zAB ⟨[a,b],rules⟩ code/\Calls Tryz.prog 11 #[.agg #[va,vr],.int .i64 code] w' fun e w2=>∃ nb nf nc,e=.returned (.tuple #[.slice (some ⟨nb,nf,none⟩) 1 nc,.int .i64 0])/\Below w'.heap.size w' w2/\w2.cell? ⟨nb,nf,none⟩=some (.int .i64 y)):=fun w' va vr code h hV hm hcr=>by
  obtain ⟨y,hy⟩:=zKM (m:=⟨[a,b],rules⟩) hr1 code;refine ⟨y,by rw [hy];exact List.mem_singleton.2 rfl,?_⟩
  refine (zHk va vr ⟨[a,b],rules⟩ code w' (Nat.lt_of_lt_of_le hB h.size) (hT.below h hB) hV hm).mono fun e w2 ⟨v,q1,q2,q3⟩=>?_
  have q4:=zBH q3;rw [zCz hm hcr,hy] at q4;obtain ⟨no,nc,rfl,hx⟩:=q4;obtain ⟨nb,nf,rfl,hlt,hat⟩:=hx (by simp)
  have:=hat 0 (by simp)
  rw [Nat.add_zero] at this;exact ⟨nb,nf,nc,by rw [q1,zBk hm hcr];rfl,q2,this⟩
 have HKe:Hid (∀ (w':World) (va vr pv fv sv lv:Value) (l:List (Int × Int)) (T:Tm) (mm:Nat) (ss ll:List Int),Below w.heap.size w w'->TaskV w' va vr pv fv ⟨[a,b],rules⟩ zBG l->mcode ⟨[a,b],rules⟩=0->FOk mm l T->l.length <= 59->mm <= 6->zB1 w' sv ss->zB1 w' lv ll->ss.length <= 12->ll.length <= 12->zCa ⟨[a,b],rules⟩ ss ll=true->Calls Tryz.prog 9 #[.agg #[va,vr,pv,fv],.agg #[sv,lv]] w' fun e w2=>e=.returned (.tuple #[.bool (T.hb (zGD ⟨[a,b],rules⟩ zBG) 0),.int .i64 0])/\Below w'.heap.size w' w2):=fun w' va vr pv fv sv lv l T mm ss ll h hV hm hF hl hmm hS hL h1 h2 hr=>by
  have hk:=(KTaskOk.mk hm rfl ⟨T,hF⟩ hl hmm:KTaskOk ⟨[a,b],rules⟩ l mm).code;have h9:=zRA va vr pv fv sv lv ⟨[a,b],rules⟩ zBG l ss ll T w' (Nat.lt_of_lt_of_le hB h.size) (hT.below h hB) hV hk hS hL h1 h2 hr hF.wf hF.ops;rw [zSW (m:=⟨[a,b],rules⟩) hr1 hr T] at h9;exact h9
 have HTa:Hid (∀ (w':World) (fo:Option Addr) (fn fc:Nat) (l:List (Int × Int)),Below w.heap.size w w'->zAR w' (.slice fo fn fc) l->_):=fun w' fo fn fc l h hO=>zJG c0 c1 c2 c3 c4 c5 (.slice ko (min kn 1) kc) ⟨[a,b],rules⟩ fo fn fc l w' (fun w2 h2=>HM.out w2 (h.trans (h2.mono h.size))) hO
 have HFew:Hid (∀ (xs:List Int) (x:Int) (k:Nat),mcode ⟨[a,b],rules⟩=0->WayX ⟨[a,b],rules⟩ (xs++[x]) k->xs.length=k->xs.Nodup->k <= nSt a b):=fun xs x k hm h hl hnd=>WayX.few hm h hl HN.out hnd
 have HR1:Hid (rules.length <= 1):=hr1;obtain ⟨ra,rn0,rc0,hra⟩:∃ a n c,rawv=.slice a n c:=by obtain ⟨⟨a,c,h,_⟩,_,_⟩:=hR;exact ⟨_,_,_,h⟩
 subst hra;have HW1:=(show Hid (W1=_) from hW1)
 clear hmd hT hG hR hN hr1 hW1;generalize nSt a b=N at *
 go_enter Tryz.func3,Tryz.ntmps3
 go_upto_region 1 with fail
 go_cut [] (fun wx=>wx=w.alloc (.cells #[c0,c1,c2,c3,c4,c5,.slice ko (min kn 1) kc] 25))
 case first=>
  by_cases h0:kn=0
  ·subst h0
   go_wp2_with fail
   all_goals go_meet
   all_goals simp [show (min (0:Int) 1).toNat=0 by omega]
  ·have h1:min kn 1=1:=by omega
   have h1i:¬ (kn:Int) < 1:=by omega
   have h1j:(1:Int) <= (kn:Int):=by omega
   have h1k:¬ kc < 1:=by omega
   go_wp2_with fail
   all_goals go_meet
   all_goals simp [h1,show (min (kn:Int) 1).toNat=1 by omega]
 case rest=>
  subst hcut;rw [<- HW1.out]
  go_upto_region 3 with (first | (go_at_call 4;refine hfo.mono ?_;rintro e w2 ⟨fo,fn,fc,l,T,kf,rfl,hb2,HT⟩))
  have hbw2:=hA1.trans (hb2.mono hA1.size);have hmo:=HM.out w2 hbw2;obtain ⟨q0,q1,q2,q3,q4,q5,q6⟩:=HD0.out.below hb2;clear hfo
  go_upto_region 4 with (first | (go_at_call 5;refine hmo.mono ?_;rintro e w3 ⟨ao,ac,ro,rn,rc,rfl,hb3,HMv⟩))
  have hbA:Below w3.heap.size w3 (w3.alloc (.cells #[.slice ao 2 ac,.slice ro rn rc] 32)):=(Below.refl _ _).alloc (Nat.le_refl _) _;have hbw3:=hbw2.trans (hb3.mono hbw2.size);have hbw4:=hbw3.trans (hbA.mono hbw3.size);have hb24:=hb3.trans (hbA.mono hb3.size)
  have hx0:(w3.alloc (.cells #[.slice ao 2 ac,.slice ro rn rc] 32)).cell? ⟨w3.heap.size,0,none⟩=some (.slice ao 2 ac):=by simp [go_sem]
  have hx1:(w3.alloc (.cells #[.slice ao 2 ac,.slice ro rn rc] 32)).cell? ⟨w3.heap.size,1,none⟩=some (.slice ro rn rc):=by simp [go_sem]
  have Hmc:Hid (mcode ⟨[a,b],rules⟩=0):=HMv.out.2.1;have hfi:=HFi.out _ _ _ hbw4 (HMv.out.1.below hbA) Hmc.out;have HMV:Hid (zAa (w3.alloc (.cells #[.slice ao 2 ac,.slice ro rn rc] 32)) (.slice ao 2 ac) (.slice ro rn rc) ⟨[a,b],rules⟩):=HMv.out.1.below hbA;generalize w3.alloc (.cells #[.slice ao 2 ac,.slice ro rn rc] 32)=W4 at *;generalize w3.heap.size=X at *
  clear q0 q1 q2 q3 q4 q5 q6 hmo HMv;have H1:Hid (WayX ⟨[a,b],rules⟩ [zCD ⟨[a,b],rules⟩] 0):=WayX.one _;generalize zCD ⟨[a,b],rules⟩=z0 at *
  go_upto_region 7 with (first | (go_at_call 6;refine hfi.mono ?_;rintro e W5 ⟨rfl,hb5⟩))
  have hbw5:=hbw4.trans (hb5.mono hbw4.size)
  have HMb:Hid (∀ w',Below W5.heap.size W5 w'->Below w.heap.size w w'/\(w'.cell? ⟨X,0,none⟩=some (.slice ao 2 ac)/\w'.cell? ⟨X,1,none⟩=some (.slice ro rn rc))/\zAa w' (.slice ao 2 ac) (.slice ro rn rc) ⟨[a,b],rules⟩/\zGh w' w.heap.size c0 c1 c2 c3 c4 c5 (.slice ko (min kn 1) kc)/\TFor w' (.slice fo fn fc) 3 l T kf):=fun w' h=>by
   have h4:=hb5.trans (h.mono hb5.size);have h2:=hb24.trans (h4.mono hb24.size);exact ⟨hbw5.trans (h.mono hbw5.size),⟨zJq h4 hx0,zJq h4 hx1⟩,HMV.out.below h4,HD0.out.below (hb2.trans (h2.mono hb2.size)),HT.out.below h2⟩
  have HKf:Hid (FOk kf l T/\l.length <= 17/\kf <= 3):=⟨HT.out.ok,HT.out.len,HT.out.many⟩;have HB0:Hid (Below W5.heap.size W5 W5):=Below.refl _ _;clear hfi hb5 hx0 hx1 hb24 hb2 hb3 hbA HMV HT HD0
  go_loopw [7,9,10] (fun cv pv iv wr=>∃ (k:Nat) (xs:List Int) (x:Int) (po:Option Addr) (pc:Nat),k <= 40/\cv=.int .i64 x/\pv=.slice po k pc/\iv=.int .i64 (k:Int)/\Hid (xs.length=k/\xs.Nodup/\WayX ⟨[a,b],rules⟩ (xs++[x]) k/\wr.ownsRow W5.heap.size 3 1 (.slice po k pc) k (zAL xs)/\Below W5.heap.size W5 wr)) (fun _ _ iv _=>40 - (intOf iv).toNat)
  case atStart=>exact ⟨0,[],z0,none,0,by omega,rfl,rfl,rfl,rfl,List.nodup_nil,H1.out,World.ownsRow_nil _ _ _ _,HB0.out⟩
  case round=>
   obtain ⟨k,xs,x,po,pc,hk,rfl,rfl,rfl,HI⟩:=hrel
   have hk16:k <= 16:=by
    have:=HFew.out xs x k Hmc.out HI.out.2.2.1 HI.out.1 HI.out.2.1;omega
   have hki:(k:Int) < (40:Int):=by omega
   generalize wr=wo at *
   go_upto_region 10 with fail
   go_loopw [11] (fun av wr=>∃ q:Nat,q <= k/\av=.int .i64 (q:Int)/\Hid (x∉xs.take q)/\wr=wo) (fun av _=>k - (intOf av).toNat)
   case atStart=>exact ⟨0,Nat.zero_le _,rfl,by show ¬ _;simp,rfl⟩
   case round=>
    obtain ⟨q,hq,rfl,HX,hwr⟩:=hrel;subst hwr
    by_cases hqk:q < k
    ·have hqi:(q:Int) < (k:Int):=by omega
     obtain ⟨xb,cap,e,_,_⟩:=HI.out.2.2.2.1.form (by omega)
     injection e with e1 e2 e3
     subst e1;clear e2 e3;obtain ⟨hcap,hxb,hat⟩:=zJ0 HI.out.2.2.2.1 HI.out.1 (by omega)
     have d0:=hat q (by rw [HI.out.1];exact hqk)
     rw [Nat.zero_add] at d0;have HAt:Hid (zBp wr xb 0 xs):=hat;clear hat
     by_cases hyx:xs.getD q 0=x
     ·have HRn:Hid (zCa ⟨[a,b],rules⟩ (xs.take q) (xs.drop q)=true):=HI.out.2.2.1.round Hmc.out HI.out.1 hqk hyx
      have HLn:Hid (xs.length=k):=HI.out.1;have HBw:Hid (Below W5.heap.size W5 wr):=HI.out.2.2.2.2;rw [hyx] at d0;obtain ⟨hbwr,_,_,⟨q0,q1,q2,q3,q4,q5,q6⟩,hTF⟩:=HMb.out wr HBw.out;have hho:=HH.out wr _ l T kf hbwr hTF.v hTF.ok (by have:=hTF.len;omega) (by have:=hTF.many;omega)
      clear hyx HI HX hTF
      go_upto_region 14 with (first | (go_at_call 7;refine hho.mono ?_;rintro e w6 ⟨ba,rfl,hb6,HKp⟩))
      have HB6:Hid (Below W5.heap.size W5 w6):=HBw.out.trans (hb6.mono HBw.out.size);have hbwX:Below w.heap.size w w6:=hbwr.trans (hb6.mono hbwr.size);have Kx:Hid (TFor w6 (.slice fo fn fc) 3 l T kf):=(HMb.out w6 HB6.out).2.2.2.2
      have hDx:∀ w',Below w6.heap.size w6 w'->zGh w' w.heap.size c0 c1 c2 c3 c4 c5 (.slice ko (min kn 1) kc):=fun w' hb=>(HMb.out w6 HB6.out).2.2.2.1.below hb
      have hVx:∀ w',Below w6.heap.size w6 w'->zAR w' (.slice fo fn fc) l:=fun w' hb=>Kx.out.v.below hb
      clear q0 q1 q2 q3 q4 q5 q6 hho d0
      go_cut [14,15] (fun u v wx=>∃ b1:Bool,u=.bool b1/\v=.bool true/\Hid (Kp ⟨[a,b],rules⟩ (Tm.un 10 0 T) b1/\Below w6.heap.size w6 wx))
      case first=>
       rename_i J K' hJ hK';generalize ha0:Act.mk _ _=a0;have hsz:a0.tmps.size=141:=by rw [<- ha0];rfl
       have aD:a0.eval (.tmp 2)=.pointer (some ⟨w.heap.size,0,none⟩):=by rw [<- ha0];rfl
       have aF:a0.eval (.tmp 5)=.slice fo fn fc:=by rw [<- ha0];rfl
       refine zGf (by rfl) [60,61,62,63,64,59,65,66,14,15] 9 (FdP ⟨[a,b],rules⟩ [.same (.agg #[c0,c1,c2,c3,c4,c5,.slice ko (min kn 1) kc]),.same (.slice fo fn fc),.one l,.ops (((10:Int),(0:Int)):: l),.held (Tm.un 10 0 T),.held (Tm.un 10 0 T),.bit (Tm.un 10 0 T),.yes,.bit (Tm.un 10 0 T)]) (by rw [hsz];rfl) (zMd _ _ _) ?_ ?_
       ·intro i o hi ho q w' hb hq
        have f:∀ t,[60,61,62,63,64,59,65,66,14,15].contains t=true->t < 141->(frm a0 [60,61,62,63,64,59,65,66,14,15] q).eval (.tmp t)=q t:=fun t h1 h2=>zDK h1 (by rw [hsz];exact h2)
        have hc:i=0\/i=1\/i=2\/i=3\/i=4\/i=5\/i=6\/i=7\/i=8:=by omega
        rcases hc with rfl | rfl | rfl | rfl | rfl | rfl | rfl | rfl | rfl
        all_goals obtain rfl:=Option.some.inj ho
        ·exact zRD rfl ((zBr rfl).trans aD) (hDx w' hb)
        ·exact zRk rfl ((zBr rfl).trans aF)
        ·exact zSZ rfl ((f 61 rfl (by decide)).trans (hq 1 61 rfl rfl)) (hVx w' hb)
        ·exact zTJ rfl (by rw [(f 62 rfl (by decide))];exact (hq 2 62 rfl rfl)) (by have:=Kx.out.len;omega) Kx.out.ne
        ·exact zQR rfl HH.out (hbwX.trans (hb.mono hbwX.size)) ((f 60 rfl (by decide)).trans (hq 0 60 rfl rfl)) (by rw [(f 63 rfl (by decide))];exact (hq 3 63 rfl rfl)) (FOk.not Kx.out.ok) (by have:=Kx.out.len;simp;omega) (by have:=Kx.out.many;omega)
        ·exact zTA rfl (by rw [(f 64 rfl (by decide))];exact (hq 4 64 rfl rfl))
        ·exact zSs rfl (by rw [(f 59 rfl (by decide))];exact (hq 5 59 rfl rfl))
        ·exact zSl rfl (by rw [(f 59 rfl (by decide))];exact (hq 5 59 rfl rfl))
        ·exact zSn rfl (by rw [(f 65 rfl (by decide))];exact (hq 6 65 rfl rfl))
       ·intro q w' hb hq
        have f:∀ t,[60,61,62,63,64,59,65,66,14,15].contains t=true->t < 141->(frm a0 [60,61,62,63,64,59,65,66,14,15] q).eval (.tmp t)=q t:=fun t h1 h2=>zDK h1 (by rw [hsz];exact h2)
        have eX:=(f 66 rfl (by decide)).trans (hq 7 66 (by decide) rfl)
        obtain ⟨b9,h8,hK8⟩:=hq 8 14 (by decide) rfl
        show wpOps Tryz.prog _ _ [9] _ _
        rw [wpOps_cons];refine zFJ rfl rfl ?_
        refine zJ7 (w':=w') (v:=.bool true) ?_ ?_
        ·generalize (frm a0 [60,61,62,63,64,59,65,66,14,15] q).eval=ev at eX ⊢
         simp [execOp,eX,go_sem]
        rw [zHi 15 rfl rfl]
        show K' _ _
        refine hK' _ _ ?_
        rw [<- ha0]
        go_meet
        exact ⟨b9,(show zFB q 15 (.bool true) 14=.bool b9 from (zBf (by decide)).trans h8),zCf q 15 _,hK8,hb⟩
      case rest=>
       obtain ⟨bb,rfl,rfl,HK7⟩:=hcut;obtain ⟨w7,rfl⟩:∃ w7,w7=wc:=⟨_,rfl⟩
       have hb67:Below w6.heap.size w6 w7:=HK7.out.2;have HB7:Hid (Below W5.heap.size W5 w7):=HB6.out.trans (hb67.mono HB6.out.size);have hbw7:=hbwX.trans (hb67.mono hbwX.size);have HA:Hid (ba=T.hb (zGD ⟨[a,b],rules⟩ zBG) 0):=bool_eq (HKp.out.1.trans (zKJ HKp.out.2 HR1.out T))
       have HBn:Hid (bb=!T.hb (zGD ⟨[a,b],rules⟩ zBG) 0):=bool_eq (HK7.out.1.1.trans (by rw [zKJ HK7.out.1.2 HR1.out,hb_not]))
       have Kx7:Hid (zAR w7 (.slice fo fn fc) l):=Kx.out.v.below hb67;have HAt7:Hid (zBp w7 xb 0 xs/\xb < w7.heap.size):=⟨fun i hi=>zJq (hb6.trans (hb67.mono hb6.size)) (HAt.out i hi),by have:=hb6.size;have:=hb67.size;omega⟩
       have hDx7:zGh w7 w.heap.size c0 c1 c2 c3 c4 c5 (.slice ko (min kn 1) kc):=hDx w7 hb67;generalize hkk:T.hb (zGD ⟨[a,b],rules⟩ zBG) 0=kk at *;have HKK:Hid (T.hb (zGD ⟨[a,b],rules⟩ zBG) 0=kk):=hkk;clear HKp HK7 HH Kx hVx hDx HAt hb6 hkk HNe HFew HFi HM;obtain rfl:=HA.out;obtain rfl:=HBn.out;clear HA HBn
       by_cases h1:12 < q
       ·have h1i:(12:Int) < (q:Int):=by omega
        clear HKe HTa HMb
        cases ba with
        | true=>(go_wp2_with fail;go_ret;exact ⟨by first | rfl | simp,hbw7⟩)
        | false=>(go_wp2_with fail;go_ret;exact ⟨by first | rfl | simp,hbw7⟩)
       ·have h1i:¬ (12:Int) < (q:Int):=by omega
        by_cases h2:12 < k - q
        ·have h2i:(12:Int) < (k:Int) - (q:Int):=by omega
         clear HKe HTa HMb
         cases ba with
         | true=>(go_wp2_with fail;go_ret;exact ⟨by first | rfl | simp,hbw7⟩)
         | false=>(go_wp2_with fail;go_ret;exact ⟨by first | rfl | simp,hbw7⟩)
        ·have h2i:¬ (12:Int) < (k:Int) - (q:Int):=by omega
         have hs1:¬ pc < q:=by omega
         have hs2:¬ k < q:=by omega
         have hs3:¬ pc=q:=by omega
         go_upto_region 17 with fail
         go_cut [16,17] (fun u v wx=>u=.bool ba/\v=.int .i64 0/\Below w7.heap.size w7 wx)
         case first=>
          rename_i J K' hJ hK';generalize ha0:Act.mk _ _=a0;have hsz:a0.tmps.size=141:=by rw [<- ha0];rfl
          have aD:a0.eval (.tmp 2)=.pointer (some ⟨w.heap.size,0,none⟩):=by rw [<- ha0];rfl
          have aF:a0.eval (.tmp 5)=.slice fo fn fc:=by rw [<- ha0];rfl
          have aP:a0.eval (.tmp 9)=.slice (some ⟨xb,0,none⟩) k pc:=by rw [<- ha0];rfl
          have aQ:a0.eval (.tmp 11)=.int .i64 (q:Int):=by rw [<- ha0];rfl
          refine zGf (by rfl) [86,87,88,89,90,91,92,93,94,95,96,85,97,98,16,17] 15 (onP ⟨[a,b],rules⟩ l [.agg #[c0,c1,c2,c3,c4,c5,.slice ko (min kn 1) kc],.slice fo fn fc,undef,.slice (some ⟨xb,0,none⟩) k pc,.int .i64 (q:Int),.slice (some ⟨xb,0,none⟩) q pc,.slice (some ⟨xb,0,none⟩) k pc,.int .i64 (q:Int),.slice (some ⟨xb,q,none⟩) (k - q) (pc - q),.agg #[.slice (some ⟨xb,0,none⟩) q pc,.slice (some ⟨xb,q,none⟩) (k - q) (pc - q)],.tuple #[.bool ba,.int .i64 0],.tuple #[.bool ba,.int .i64 0],.bool ba,.int .i64 0,.bool ba]) (by rw [hsz];rfl) (fun i v w w' hi h hb=>zNI hi h hb) ?_ ?_
          ·intro i o hi ho q' w' hb hq'
           have hbw:Below w'.heap.size w' w':=Below.refl _ _;have f:∀ t,[86,87,88,89,90,91,92,93,94,95,96,85,97,98,16,17].contains t=true->t < 141->(frm a0 [86,87,88,89,90,91,92,93,94,95,96,85,97,98,16,17] q').eval (.tmp t)=q' t:=fun t h1 h2=>zDK h1 (by rw [hsz];exact h2)
           have eD:=(zBr (a:=a0) (ds:=[86,87,88,89,90,91,92,93,94,95,96,85,97,98,16,17]) (q:=q') (t:=2) rfl).trans aD;have eF:=(zBr (a:=a0) (ds:=[86,87,88,89,90,91,92,93,94,95,96,85,97,98,16,17]) (q:=q') (t:=5) rfl).trans aF
           have eP:=(zBr (a:=a0) (ds:=[86,87,88,89,90,91,92,93,94,95,96,85,97,98,16,17]) (q:=q') (t:=9) rfl).trans aP;have eQ:=(zBr (a:=a0) (ds:=[86,87,88,89,90,91,92,93,94,95,96,85,97,98,16,17]) (q:=q') (t:=11) rfl).trans aQ;obtain ⟨q0,q1,q2,q3,q4,q5,q6⟩:=hDx7.below hb
           have hcs:i=0\/i=1\/i=2\/i=3\/i=4\/i=5\/i=6\/i=7\/i=8\/i=9\/i=10\/i=11\/i=12\/i=13\/i=14:=by omega
           rcases hcs with rfl | rfl | rfl | rfl | rfl | rfl | rfl | rfl | rfl | rfl | rfl | rfl | rfl | rfl | rfl
           all_goals obtain rfl:=Option.some.inj ho
           ·refine zAT (w':=w') (v:=.agg #[c0,c1,c2,c3,c4,c5,.slice ko (min kn 1) kc]) (post:=onP ⟨[a,b],rules⟩ l _ _) ?_ hbw rfl
            generalize (frm a0 [86,87,88,89,90,91,92,93,94,95,96,85,97,98,16,17] q').eval=ev at *;simp [execOp,eD,go_sem,q0,q1,q2,q3,q4,q5,q6]
           ·refine zAT (w':=w') (v:=.slice fo fn fc) (post:=onP ⟨[a,b],rules⟩ l _ _) ?_ hbw rfl
            generalize (frm a0 [86,87,88,89,90,91,92,93,94,95,96,85,97,98,16,17] q').eval=ev at *;simp [execOp,eF,go_sem]
           ·have x0:=(f 86 rfl (by decide)).trans (hq' 0 86 (by rfl) (by rfl))
            have x1:=(f 87 rfl (by decide)).trans (hq' 1 87 (by rfl) (by rfl))
            refine zDy (f:=10) (args:=#[.agg #[c0,c1,c2,c3,c4,c5,.slice ko (min kn 1) kc],.slice fo fn fc]) ?_ ((HTa.out w' fo fn fc l (hbw7.trans (hb.mono hbw7.size)) (Kx7.out.below hb)).mono fun e w2 ⟨ao,ac,ro,rn,rc,pb,e1,hb2,hX⟩=>⟨_,e1,hb2,ao,ac,ro,rn,rc,pb,fo,fn,fc,rfl,hX.out.1⟩)
            have evf:∀ n,(frm a0 [86,87,88,89,90,91,92,93,94,95,96,85,97,98,16,17] q').eval (.func n)=.func (.func n) #[] #[]:=fun n=>rfl
            generalize (frm a0 [86,87,88,89,90,91,92,93,94,95,96,85,97,98,16,17] q').eval=ev at *;simp [execOp,x0,x1,evf,go_sem]
           ·refine zAT (w':=w') (v:=.slice (some ⟨xb,0,none⟩) k pc) (post:=onP ⟨[a,b],rules⟩ l _ _) ?_ hbw rfl
            generalize (frm a0 [86,87,88,89,90,91,92,93,94,95,96,85,97,98,16,17] q').eval=ev at *;simp [execOp,eP,go_sem]
           ·refine zAT (w':=w') (v:=.int .i64 (q:Int)) (post:=onP ⟨[a,b],rules⟩ l _ _) ?_ hbw rfl
            generalize (frm a0 [86,87,88,89,90,91,92,93,94,95,96,85,97,98,16,17] q').eval=ev at *;simp [execOp,eQ,go_sem]
           ·refine zAT (w':=w') (v:=.slice (some ⟨xb,0,none⟩) q pc) (post:=onP ⟨[a,b],rules⟩ l _ _) ?_ hbw rfl
            have x0:=(f 89 rfl (by decide)).trans (hq' 3 89 (by rfl) (by rfl))
            have x1:=(f 90 rfl (by decide)).trans (hq' 4 90 (by rfl) (by rfl))
            generalize (frm a0 [86,87,88,89,90,91,92,93,94,95,96,85,97,98,16,17] q').eval=ev at *;simp [execOp,x0,x1,go_sem,hs1]
           ·refine zAT (w':=w') (v:=.slice (some ⟨xb,0,none⟩) k pc) (post:=onP ⟨[a,b],rules⟩ l _ _) ?_ hbw rfl
            generalize (frm a0 [86,87,88,89,90,91,92,93,94,95,96,85,97,98,16,17] q').eval=ev at *;simp [execOp,eP,go_sem]
           ·refine zAT (w':=w') (v:=.int .i64 (q:Int)) (post:=onP ⟨[a,b],rules⟩ l _ _) ?_ hbw rfl
            generalize (frm a0 [86,87,88,89,90,91,92,93,94,95,96,85,97,98,16,17] q').eval=ev at *;simp [execOp,eQ,go_sem]
           ·refine zAT (w':=w') (v:=.slice (some ⟨xb,q,none⟩) (k - q) (pc - q)) (post:=onP ⟨[a,b],rules⟩ l _ _) ?_ hbw rfl
            have x0:=(f 92 rfl (by decide)).trans (hq' 6 92 (by rfl) (by rfl))
            have x1:=(f 93 rfl (by decide)).trans (hq' 7 93 (by rfl) (by rfl))
            generalize (frm a0 [86,87,88,89,90,91,92,93,94,95,96,85,97,98,16,17] q').eval=ev at *;simp [execOp,x0,x1,go_sem,hs2,hs3]
           ·refine zAT (w':=w') (v:=.agg #[.slice (some ⟨xb,0,none⟩) q pc,.slice (some ⟨xb,q,none⟩) (k - q) (pc - q)]) (post:=onP ⟨[a,b],rules⟩ l _ _) ?_ hbw rfl
            have x0:=(f 91 rfl (by decide)).trans (hq' 5 91 (by rfl) (by rfl))
            have x1:=(f 94 rfl (by decide)).trans (hq' 8 94 (by rfl) (by rfl))
            generalize (frm a0 [86,87,88,89,90,91,92,93,94,95,96,85,97,98,16,17] q').eval=ev at *;simp [execOp,x0,x1,go_sem]
           ·obtain ⟨ao,ac,ro,rn,rc,pb,fo2,fn2,fc2,e0,hTV⟩:=hq' 2 88 (by rfl) (by rfl)
            have x0:=(f 88 rfl (by decide)).trans e0
            have x1:=(f 95 rfl (by decide)).trans (hq' 9 95 (by rfl) (by rfl))
            obtain ⟨j1,j2⟩:=zNR (w:=w') HLn.out hcap (Nat.lt_of_lt_of_le HAt7.out.2 hb.size) (fun i hi=>zJq hb (HAt7.out.1 i hi)) hqk
            have hke:=HKe.out w' _ _ _ _ _ _ l T kf _ _ (hbw7.trans (hb.mono hbw7.size)) hTV Hmc.out HKf.out.1 (by have:=HKf.out.2.1;omega) (by have:=HKf.out.2.2;omega) j1 j2 (by rw [List.length_take,HLn.out];omega) (by rw [List.length_drop,HLn.out];omega) HRn.out
            rw [HKK.out] at hke;refine zDy (f:=9) (args:=#[.agg #[.slice ao 2 ac,.slice ro rn rc,.slice (some ⟨pb,0,none⟩) 3 3,.slice fo2 fn2 fc2],.agg #[.slice (some ⟨xb,0,none⟩) q pc,.slice (some ⟨xb,q,none⟩) (k - q) (pc - q)]]) ?_ (hke.mono fun e w2 ⟨e1,hb2⟩=>⟨_,e1,hb2,rfl⟩)
            have evf:∀ n,(frm a0 [86,87,88,89,90,91,92,93,94,95,96,85,97,98,16,17] q').eval (.func n)=.func (.func n) #[] #[]:=fun n=>rfl
            generalize (frm a0 [86,87,88,89,90,91,92,93,94,95,96,85,97,98,16,17] q').eval=ev at *;simp [execOp,x0,x1,evf,go_sem]
           ·refine zAT (w':=w') (v:=.tuple #[.bool ba,.int .i64 0]) (post:=onP ⟨[a,b],rules⟩ l _ _) ?_ hbw rfl
            have x0:=(f 96 rfl (by decide)).trans (hq' 10 96 (by rfl) (by rfl))
            generalize (frm a0 [86,87,88,89,90,91,92,93,94,95,96,85,97,98,16,17] q').eval=ev at *;simp [execOp,x0,go_sem]
           ·refine zAT (w':=w') (v:=.bool ba) (post:=onP ⟨[a,b],rules⟩ l _ _) ?_ hbw rfl
            have x0:=(f 85 rfl (by decide)).trans (hq' 11 85 (by rfl) (by rfl))
            generalize (frm a0 [86,87,88,89,90,91,92,93,94,95,96,85,97,98,16,17] q').eval=ev at *;simp [execOp,x0,go_sem]
           ·refine zAT (w':=w') (v:=.int .i64 0) (post:=onP ⟨[a,b],rules⟩ l _ _) ?_ hbw rfl
            have x0:=(f 85 rfl (by decide)).trans (hq' 11 85 (by rfl) (by rfl))
            generalize (frm a0 [86,87,88,89,90,91,92,93,94,95,96,85,97,98,16,17] q').eval=ev at *;simp [execOp,x0,go_sem]
           ·refine zAT (w':=w') (v:=.bool ba) (post:=onP ⟨[a,b],rules⟩ l _ _) ?_ hbw rfl
            have x0:=(f 97 rfl (by decide)).trans (hq' 12 97 (by rfl) (by rfl))
            generalize (frm a0 [86,87,88,89,90,91,92,93,94,95,96,85,97,98,16,17] q').eval=ev at *;simp [execOp,x0,go_sem]
          ·intro q' w' hb hq'
           have f:∀ t,[86,87,88,89,90,91,92,93,94,95,96,85,97,98,16,17].contains t=true->t < 141->(frm a0 [86,87,88,89,90,91,92,93,94,95,96,85,97,98,16,17] q').eval (.tmp t)=q' t:=fun t h1 h2=>zDK h1 (by rw [hsz];exact h2)
           have x0:=(f 98 rfl (by decide)).trans (hq' 13 98 (by decide) (by rfl))
           have y0:q' 16=.bool ba:=hq' 14 16 (by decide) (by rfl)
           show wpOps Tryz.prog _ _ [15] _ _
           rw [wpOps_cons];refine zFJ rfl rfl ?_
           refine zJ7 (w':=w') (v:=.int .i64 0) ?_ ?_
           ·generalize (frm a0 [86,87,88,89,90,91,92,93,94,95,96,85,97,98,16,17] q').eval=ev at x0 ⊢
            simp [execOp,x0,go_sem]
           rw [zHi 17 rfl rfl]
           show K' _ _
           refine hK' _ _ ?_
           rw [<- ha0]
           go_meet
           exact ⟨(show zFB q' 17 (.int .i64 0) 16=.bool ba from (zBf (by decide)).trans y0),zCf q' 17 _,hb⟩
         case rest=>
          obtain ⟨rfl,rfl,hb8⟩:=hcut;have hbw8:=hbw7.trans (hb8.mono hbw7.size);clear HKe HTa HMb
          cases ba with
          | true=>(go_wp2_with fail;go_ret;exact ⟨by first | rfl | simp,hbw8⟩)
          | false=>(go_wp2_with fail;go_ret;exact ⟨by first | rfl | simp,hbw8⟩)
     ·have HX2:Hid (x∉xs.take (q+1)):=by
       show ¬ _
       rw [List.take_succ_eq_append_getElem (by rw [HI.out.1];exact hqk),List.mem_append,List.mem_singleton]
       rintro (h | h)
       ·exact HX.out h
       ·refine hyx ?_
        rw [List.getD_eq_getElem?_getD,List.getElem?_eq_getElem (by rw [HI.out.1];exact hqk),Option.getD_some]
        exact h.symm
      clear HX HI HAt;generalize xs.getD q 0=y at *
      go_wp2_with fail
      go_roundw
      case rel=>exact ⟨q+1,by omega,by go_num,HX2,by trivial⟩
      case measure=>simp [intOf];omega
    ·obtain rfl:q=k:=by omega
     have HNin:Hid (x∉xs):=by have h:=HX.out;rw [List.take_of_length_le (by rw [HI.out.1];exact Nat.le_refl _)] at h;exact h
     have hrow:=HI.out.2.2.2.1.alloc (.cells #[.int .i64 x] 3);have hbA:Below W5.heap.size W5 (wr.alloc (.cells #[.int .i64 x] 3)):=HI.out.2.2.2.2.alloc HI.out.2.2.2.2.size _;have hbs:W5.heap.size <= wr.heap.size+1:=by have:=HI.out.2.2.2.2.size;omega
     clear HX
     go_upto_region 20 with (at_builtin;refine wpList_append_lies _ rfl (.tmp 121) (.tmp 123) 37 rfl W5.heap.size 3 i0 _ 1 8 Tryz.underlying37 hi hz0 hz1 hz2 rfl (by decide) (.slice po q pc) q _ rfl hrow ⟨wr.heap.size,0,none⟩ 1 1 [.int .i64 x] rfl rfl (zQH _ _ _) (by intro u hu;simp at hu;subst hu;rfl) (by decide) (by unfold maxLen;omega) (by omega) (by simpa using hbs) (wr.heap.size+1) (by simp) ?_;intro g6 cp6 w6 ho6 hg6 hat6 hgl6)
     have HO6:Hid (w6.ownsRow W5.heap.size 3 1 (.slice (some ⟨g6,0,none⟩) (q+1) cp6) (q+1) (zAL (xs++[x]))/\Below W5.heap.size W5 w6):=⟨by rw [show zAL (xs++[x])=zAL xs++[.int .i64 x] by simp [zAL]];exact ho6,hbA.grown hg6 hbA.size (fun z hz=>(hrow.lt z hz).1)⟩
     obtain ⟨hbw6,⟨b0,b1⟩,hmv6,_,_⟩:=HMb.out w6 HO6.out.2;obtain ⟨y,hy,hne⟩:=HNe.out w6 _ _ x hbw6 hmv6 Hmc.out (by have h:=HI.out.2.2.1.range Hmc.out (Nat.le_refl _);rw [WayX.last HI.out.1] at h;exact h)
     have HI2:Hid ((xs++[x]).length=q+1/\(xs++[x]).Nodup/\WayX ⟨[a,b],rules⟩ ((xs++[x])++[y]) (q+1)):=⟨by rw [List.length_append,HI.out.1];rfl,zNH HI.out.2.1 HNin.out,HI.out.2.2.1.more Hmc.out (by rw [WayX.last HI.out.1];exact hy)⟩
     clear hrow hg6 hat6 hgl6 ho6 hbA HI hy hmv6
     go_upto_region 21 with (first | (go_at_call 11;refine hne.mono ?_;rintro e w7 ⟨nb,nf,nc,rfl,hb7,hc7⟩))
     have HO7:Hid (w7.ownsRow W5.heap.size 3 1 (.slice (some ⟨g6,0,none⟩) (q+1) cp6) (q+1) (zAL (xs++[x]))/\Below W5.heap.size W5 w7):=⟨zAW HO6.out.1 hb7 (Nat.le_refl _),HO6.out.2.trans (hb7.mono HO6.out.2.size)⟩;clear hne b0 b1 HO6 hb7
     go_wp2_with fail
     go_roundw
     case rel=>exact ⟨q+1,xs++[x],y,_,_,by omega,rfl,by go_num,by go_num,HI2.out.1,HI2.out.2.1,HI2.out.2.2,HO7.out.1,HO7.out.2⟩
     case measure=>simp [intOf];omega
