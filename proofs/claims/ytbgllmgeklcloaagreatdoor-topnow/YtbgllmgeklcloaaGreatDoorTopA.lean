/- Joined texts. -/
import Derived.Test.YtbgllmgeklcloaaGreatDoorLateF
import Derived.Test.YtbgllmgeklcloaaGreatDoorSccB
import Derived.Test.YtbgllmgeklcloaaGreatDoorSccC
namespace Go.Proofs.YtbgllmgeklcloaaGreatDoor
open Go.ChangeShapes Go.WideShapes Go.ChangeAt Go.RowKit Go.Deep Go.Maps
open Terms Tm
set_option maxHeartbeats 6400000
set_option maxRecDepth 20000
noncomputable def exGr (m:Mo) (ps:List (List (Int × Int))) (l:List (Int × Int)) (K:Nat):Gr:=⟨xpP m ps l K,((begL m ps l).length:Nat),xpN m ps l K,xpT m ps l K,((aheadL l).length:Nat)⟩
section
variable {m : Mo} {ps : List (List (Int × Int))} {l : List (Int × Int)} {K : Nat}
theorem xpAt_eq (h:ExDone m ps l K) {i:Nat} (hi:i < K):xpAt m ps l i=(xpP m ps l K).getD i (0,0):=
 (exS_at (begL m ps l) (xpBh m ps l) (Nat.le_of_lt hi) (h.2.2.1 i hi)).symm
theorem xpN_get {K:Nat}:∀ {j:Nat},j < K->(xpN m ps l K).getD j []=plIx (xpP m ps l j) (xpBh m ps l (xpAt m ps l j)):=by
 induction K with
 | zero=>intro j h;omega
 | succ K ih=>
  intro j h;rw [xpN,List.getD_eq_getElem?_getD]
  by_cases hj:j < K
  ·rw [List.getElem?_append_left (by rw [xpN_len];exact hj),<- List.getD_eq_getElem?_getD]
   exact ih hj
  ·obtain rfl:j=K:=by omega
   rw [List.getElem?_append_right (by rw [xpN_len];exact Nat.le_refl _),xpN_len]
   simp
theorem xpT_get {K:Nat}:∀ {j:Nat},j < K->(xpT m ps l K).getD j 0=metN l (letL m ps (xpAt m ps l j).1) (xpAt m ps l j).2:=by
 induction K with
 | zero=>intro j h;omega
 | succ K ih=>
  intro j h;rw [xpT,List.getD_eq_getElem?_getD]
  by_cases hj:j < K
  ·rw [List.getElem?_append_left (by rw [xpT_len];exact hj),<- List.getD_eq_getElem?_getD]
   exact ih hj
  ·obtain rfl:j=K:=by omega
   rw [List.getElem?_append_right (by rw [xpT_len];exact Nat.le_refl _),xpT_len]
   simp
theorem xbeg_nodup (m:Mo) (ps:List (List (Int × Int))) (l:List (Int × Int)):(begL m ps l).Nodup:=by
 have key:∀ k,(begTo m ps l k).Nodup:=fun k=>by
  induction k with
  | zero=>simp [begTo]
  | succ k ih=>
   rw [begTo]
   split
   ·exact ih
   ·refine List.nodup_append.2 ⟨ih,by simp,fun a ha b hb e=>?_⟩
    rw [List.mem_singleton] at hb;subst hb;subst e;obtain ⟨_,d,h2,h3,_⟩:=xbg_mem _ ha;simp only at h3
    omega
 exact key _
theorem xpN_row (h:ExDone m ps l K) {i:Nat} (hi:i < K):((xpN m ps l K).getD i []).length=(xpBh m ps l ((xpP m ps l K).getD i (0,0))).length/\∀ q,q < (xpBh m ps l ((xpP m ps l K).getD i (0,0))).length->((xpN m ps l K).getD i []).getD q 0=(((xpP m ps l K).idxOf ((xpBh m ps l ((xpP m ps l K).getD i (0,0))).getD q (0,0)):Nat):Int)/\(xpBh m ps l ((xpP m ps l K).getD i (0,0))).getD q (0,0)∈xpP m ps l K:=by
 rw [xpN_get hi,<- xpAt_eq h hi];refine ⟨plIx_len _ _,fun q hq=>?_⟩
 have hmem:(xpBh m ps l (xpAt m ps l i)).getD q (0,0)∈xpP m ps l (i+1):=by
  rw [xpP_succ,plTo_iff];refine .inr ?_
  rw [List.getD_eq_getElem?_getD,List.getElem?_eq_getElem hq]
  exact List.getElem_mem _
 have hpre:xpP m ps l (i+1) <+: xpP m ps l K:=exS_le _ _ hi;refine ⟨?_,hpre.subset hmem⟩
 rw [plIx_at hq,<- xpP_succ,idx_pre hpre hmem]
theorem metN_range (l:List (Int × Int)) (letter:List Bool) (c:Int):0 <= metN l letter c/\metN l letter c < (2:Int) ^ (aheadL l).length:=by
 unfold metN
 split
 ·exact metTo_bounds _ _ _
 ·exact ⟨by omega,Int.pow_pos (by decide)⟩
theorem exGr_ok (hk:tkcode m ps l=0) (h:ExDone m ps l K):GOk (exGr m ps l K):=by
 have h6:=(lcode_zero (tk_zero hk).2).2.2.2.2
 have hbl:(begL m ps l).length <= (xpP m ps l K).length:=by
  have h1:=(exS_le (begL m ps l) (xpBh m ps l) (Nat.zero_le K)).length_le
  have h2:(begL m ps l).length <= (exS (begL m ps l) (xpBh m ps l) 0).length:=by
   show _ <= (plTo [] (begL m ps l)).length
   have hnd:=plTo_nodup (begL m ps l) [] List.nodup_nil;have hsub:begL m ps l ⊆ plTo [] (begL m ps l):=fun x hx=>(plTo_iff _ _ _).2 (.inr hx)
   exact (xbeg_nodup m ps l).length_le_of_subset hsub
  exact Nat.le_trans h2 h1
 refine ⟨⟨by show (xpP m ps l K).length <= _;rw [h.1];exact h.2.1,by show (xpN m ps l K).length=(xpP m ps l K).length;rw [xpN_len,h.1],by show (xpT m ps l K).length=(xpP m ps l K).length;rw [xpT_len,h.1],by show (0:Int) <= ((begL m ps l).length:Nat);omega,by show (((begL m ps l).length:Nat):Int) <= ((xpP m ps l K).length:Nat);omega,by show (0:Int) <= ((aheadL l).length:Nat);omega,by show (((aheadL l).length:Nat):Int) <= 6;omega⟩,fun i hi=>?_⟩
 have hiK:i < K:=by have:i < (xpP m ps l K).length:=hi;rw [h.1] at this;exact this
 refine ⟨?_,fun q hq=>?_⟩
 ·unfold GSet top
  show 0 <= (xpT m ps l K).getD i 0/\(xpT m ps l K).getD i 0 <= 2 ^ (((aheadL l).length:Nat):Int).toNat - 1
  rw [xpT_get hiK];have:=metN_range l (letL m ps (xpAt m ps l i).1) (xpAt m ps l i).2;rw [Int.toNat_natCast];omega
 ·obtain ⟨r1,r2⟩:=xpN_row h hiK
  have hq':q < (xpBh m ps l ((xpP m ps l K).getD i (0,0))).length:=by rw [<- r1];exact hq
  obtain ⟨r3,r4⟩:=r2 q hq'
  show 0 <= ((xpN m ps l K).getD i []).getD q 0/\((xpN m ps l K).getD i []).getD q 0 < ((xpP m ps l K).length:Nat)
  rw [r3];have:=List.idxOf_lt_length_of_mem r4;omega
theorem exGr_step (h:ExDone m ps l K) {s x:Int × Int} (hs:s∈xpP m ps l K) (hx:x∈xpBh m ps l s):x∈xpP m ps l K/\(xpP m ps l K).idxOf x∈nxt (exGr m ps l K) ((xpP m ps l K).idxOf s):=by
 have hi:=List.idxOf_lt_length_of_mem hs;have hiK:(xpP m ps l K).idxOf s < K:=by rw [h.1] at hi;exact hi
 have he:(xpP m ps l K).getD ((xpP m ps l K).idxOf s) (0,0)=s:=by
  rw [List.getD_eq_getElem?_getD,List.getElem?_eq_getElem hi]
  exact List.getElem_idxOf hi
 obtain ⟨r1,r2⟩:=xpN_row h hiK;rw [he] at r1 r2;obtain ⟨q,hq,rfl⟩:=List.getElem_of_mem hx;have hg:(xpBh m ps l s).getD q (0,0)=(xpBh m ps l s)[q]:=by rw [List.getD_eq_getElem?_getD,List.getElem?_eq_getElem hq];rfl
 obtain ⟨r3,r4⟩:=r2 q hq;rw [hg] at r3 r4;refine ⟨r4,?_⟩
 unfold nxt;rw [List.mem_map];refine ⟨((xpN m ps l K).getD ((xpP m ps l K).idxOf s) []).getD q 0,?_,by rw [r3];rfl⟩
 show ((xpN m ps l K).getD ((xpP m ps l K).idxOf s) []).getD q 0∈(xpN m ps l K).getD ((xpP m ps l K).idxOf s) []
 generalize (xpN m ps l K).getD ((xpP m ps l K).idxOf s) []=row at *;rw [List.getD_eq_getElem?_getD,List.getElem?_eq_getElem (by rw [r1];exact hq)]
 exact List.getElem_mem _
end
theorem SpO.ops {w:World} {base:Nat} {v:Value} {x:List (Int × Int)} (h:SpO w base v x):OpsV w v x:=by
 rcases h.2 with ⟨rfl,h0⟩ | ⟨g,cap,cur,rfl,hb,hg,hnc,hcm,hcs,htake⟩
 ·have:x=[]:=by simpa using h0
  subst this;exact ⟨none,0,rfl,⟨by simp,fun _=>⟨rfl,rfl⟩⟩,fun h=>absurd rfl h⟩
 ·refine ⟨_,cap,rfl,⟨hnc,fun h=>by simp at h⟩,fun _=>⟨g,0,rfl,(Array.getElem?_eq_some_iff.1 hg).1,fun i hi=>?_⟩⟩
  obtain ⟨f0,f1⟩:=flat_get x i hi;rw [World.ownsRow.cellAt h _ (by omega),World.ownsRow.cellAt h _ (by omega)]
  simpa using ⟨f0,f1⟩
theorem GrX.graph {w:World} {base K:Nat} {m:Mo} {ps:List (List (Int × Int))} {l:List (Int × Int)} {sv nv tv:Value} (h:GrX w base m ps l K sv nv tv):GraphV w sv nv tv (exGr m ps l K):=by
 obtain ⟨h1,⟨us,n1,n2,n3⟩,h3⟩:=h;refine ⟨h1.ops,?_,intsV_of_owns h3⟩
 have n1':w.ownsRow base 42 1 nv us.length us:=by rw [n2];exact n1
 refine listsV_of_owns n1' ⟨n2,fun i hi=>?_⟩
 obtain ⟨ao,c,e1,e2,_,_⟩:=n3 i hi;have e1':us.getD i nilG=.slice ao ((xpN m ps l K).getD i []).length c:=e1;rw [e1'];exact e2
end Go.Proofs.YtbgllmgeklcloaaGreatDoor
namespace Go.Proofs.YtbgllmgeklcloaaGreatDoor
open Go.ChangeShapes Go.WideShapes Go.ChangeAt Go.RowKit Go.Deep
open Terms Tm
set_option maxHeartbeats 6400000
set_option maxRecDepth 20000
structure PRun (m:Mo) (path:List Int) (s:Nat):Prop where
 lt:s < path.length
 first:path.getD 0 0=begC m
 step:∀ i,i < path.length->path.getD (moAt s path.length (i+1)) 0∈nextL m (path.getD i 0)
structure PWay (m:Mo) (ps:List (List (Int × Int))) (l:List (Int × Int)) (K:Nat) (x:List Nat) (s:Nat):Prop where
 lt:s < x.length
 all:∀ i,i < x.length->x.getD i 0 < K
 first:x.getD 0 0 < (begL m ps l).length
 step:∀ i,i < x.length->x.getD (moAt s x.length (i+1)) 0∈nxt (exGr m ps l K) (x.getD i 0)
 met:∀ k,k < (aheadL l).length->∃ i,s <= i/\i < x.length/\bitB ((xpT m ps l K).getD (x.getD i 0) 0) k=true
section
variable {m : Mo} {ps : List (List (Int × Int))} {l : List (Int × Int)} {K : Nat}
noncomputable def spA (m:Mo) (ps:List (List (Int × Int))) (l:List (Int × Int)) (K i:Nat):Int × Int:=(xpP m ps l K).getD i (0,0)
theorem spA_mem (h:ExDone m ps l K) {i:Nat} (hi:i < K):spA m ps l K i∈xpP m ps l K:=by
 have hl:i < (xpP m ps l K).length:=by rw [h.1];exact hi
 unfold spA;rw [List.getD_eq_getElem?_getD,List.getElem?_eq_getElem hl]
 exact List.getElem_mem _
theorem spA_ok (h:ExDone m ps l K) {i:Nat} (hi:i < K):spOk m l (spA m ps l K i):=h.2.2.2 _ (spA_mem h hi)
theorem spA_idx {s:Int × Int} (hs:s∈xpP m ps l K):spA m ps l K ((xpP m ps l K).idxOf s)=s:=by
 have hi:=List.idxOf_lt_length_of_mem hs;unfold spA;rw [List.getD_eq_getElem?_getD,List.getElem?_eq_getElem hi]
 exact List.getElem_idxOf hi
theorem nxt_beh (h:ExDone m ps l K) {i j:Nat} (hi:i < K) (hj:j∈nxt (exGr m ps l K) i):spA m ps l K j∈xpBh m ps l (spA m ps l K i):=by
 obtain ⟨r1,r2⟩:=xpN_row h hi;unfold nxt at hj;obtain ⟨z,hz,rfl⟩:=List.mem_map.1 hj;have hz':z∈(xpN m ps l K).getD i []:=hz;obtain ⟨q,hq,e⟩:=List.getElem_of_mem hz';have hq':q < (xpBh m ps l ((xpP m ps l K).getD i (0,0))).length:=by rw [<- r1];exact hq
 obtain ⟨r3,r4⟩:=r2 q hq'
 have e2:((xpN m ps l K).getD i []).getD q 0=z:=by
  generalize (xpN m ps l K).getD i []=row at *;rw [List.getD_eq_getElem?_getD,List.getElem?_eq_getElem hq]
  exact e
 rw [<- e2,r3,Int.toNat_natCast,spA_idx r4];rw [List.getD_eq_getElem?_getD (l:=xpBh m ps l ((xpP m ps l K).getD i (0,0))),List.getElem?_eq_getElem hq']
 exact List.getElem_mem _
theorem foTo_in {x:List Bool} {c:Int} {y:List Bool} {st:Int} {d:Nat} (hf:folR l x c y (d:Int)=true):∀ k,d < k->(st,(d:Int))∈foTo l x c y st k
 | 0,h=>by omega
 | k+1,h=>by
  rw [foTo]
  by_cases e:d=k
  ·subst e
   rw [if_pos hf];exact List.mem_append_right _ (List.mem_singleton.2 rfl)
  ·have:=foTo_in hf (st:=st) k (by omega)
   split
   ·exact List.mem_append_left _ this
   ·exact this
theorem beh_in {code c y:Int} {d:Nat} (hy:y∈nextL m code) (hd:d < 2 ^ (aheadL l).length) (hf:folR l (letL m ps code) c (letL m ps y) (d:Int)=true):(y,(d:Int))∈behL m ps l code c:=by
 obtain ⟨q,hq,rfl⟩:=List.getElem_of_mem hy;have hg:(nextL m code).getD q 0=(nextL m code)[q]:=by rw [List.getD_eq_getElem?_getD,List.getElem?_eq_getElem hq];rfl
 have key:∀ i,q < i->i <= (nextL m code).length->((nextL m code)[q],(d:Int))∈behTo m ps l code c i:=fun i=>by
  induction i with
  | zero=>intro h;omega
  | succ i ih=>
   intro h1 h2;rw [behTo,List.mem_append]
   by_cases e:q=i
   ·subst e
    refine .inr ?_
    rw [hg];exact foTo_in hf _ hd
   ·exact .inl (ih (by omega) (by omega))
 exact key _ hq (Nat.le_refl _)
theorem beg_in {d:Nat} (hd:d < 2 ^ (aheadL l).length) (hf:tru l (letL m ps (begC m)) (d:Int) 0≠true):(begC m,(d:Int))∈begL m ps l:=by
 have key:∀ k,d < k->(begC m,(d:Int))∈begTo m ps l k:=fun k=>by
  induction k with
  | zero=>intro h;omega
  | succ k ih=>
   intro h;rw [begTo]
   by_cases e:d=k
   ·subst e
    rw [if_neg hf];exact List.mem_append_right _ (List.mem_singleton.2 rfl)
   ·have:=ih (by omega)
    split
    ·exact this
    ·exact List.mem_append_left _ this
 exact key _ hd
theorem tk_fol (hk:tkcode m ps l=0) {x y:Int} {c d:Nat} (hx:0 <= x/\x < prodTo m.vars m.vars.length) (hy:0 <= y/\y < prodTo m.vars m.vars.length) (hc:c < 2 ^ (aheadL l).length) (hd:d < 2 ^ (aheadL l).length):fcode l (letL m ps x) (c:Int) (letL m ps y) (d:Int)=0:=by
 unfold fcode;rw [if_neg (by rw [(tk_let hk hx).2,(tk_let hk hy).2];simp),if_neg (by rw [(tk_tru hk hx hc).1];simp)]
 exact (tk_tru hk hy hd).1
end
section
variable {m : Mo} {ps : List (List (Int × Int))} {l : List (Int × Int)} {K : Nat}
theorem beg_len0:(begL m ps l).length <= (xpP m ps l 0).length:=by
 show _ <= (plTo [] (begL m ps l)).length
 have hsub:begL m ps l ⊆ plTo [] (begL m ps l):=fun x hx=>(plTo_iff _ _ _).2 (.inr hx)
 exact (xbeg_nodup m ps l).length_le_of_subset hsub
theorem spA_beg {i:Nat} (hi:i < (begL m ps l).length):spA m ps l K i∈begL m ps l:=by
 have h0:i < (xpP m ps l 0).length:=Nat.lt_of_lt_of_le hi beg_len0;have e:spA m ps l K i=(xpP m ps l 0).getD i (0,0):=exS_at (begL m ps l) (xpBh m ps l) (Nat.zero_le K) h0;rw [e]
 have hm:(xpP m ps l 0).getD i (0,0)∈xpP m ps l 0:=by
  rw [List.getD_eq_getElem?_getD,List.getElem?_eq_getElem h0]
  exact List.getElem_mem _
 rcases (plTo_iff _ _ _).1 hm with h | h
 ·exact absurd h List.not_mem_nil
 ·exact h
theorem idx_beg {s:Int × Int} (hs:s∈begL m ps l):(xpP m ps l K).idxOf s < (begL m ps l).length/\s∈xpP m ps l K:=by
 have h0:s∈xpP m ps l 0:=(plTo_iff _ _ _).2 (.inr hs);have hpre:xpP m ps l 0 <+: xpP m ps l K:=exS_le _ _ (Nat.zero_le K);refine ⟨?_,hpre.subset h0⟩
 rw [idx_pre hpre h0];have h1:=List.idxOf_lt_length_of_mem h0
 have h2:(xpP m ps l 0).length <= (begL m ps l).length:=by
  have:=(plTo_length (begL m ps l) []).2
  show (plTo [] (begL m ps l)).length <= _
  simpa using this
 omega
theorem getD_map {α β:Type} (f:α->β) (x:List α) (d:α) (e:β) {i:Nat} (hi:i < x.length):(x.map f).getD i e=f (x.getD i d):=by
 simp [List.getD_eq_getElem?_getD,hi]
theorem sub_zero (T:Tm):T.sub 0=T:=by cases T <;> rfl
theorem way_run {T:Tm} (hw:T.Wf) (ho:T.ops=l) (hz:endsCode (l.map Prod.fst)=0) (hv:∀ q,q < l.length->(l.getD q (0,0)).1=13->0 <= (l.getD q (0,0)).2) (h8:∀ q,q < l.length->8 <= (l.getD q (0,0)).1) (hk:tkcode m ps l=0) (h:ExDone m ps l K) {x:List Nat} {s:Nat} (hx:PWay m ps l K x s) :
  PRun m (x.map fun i=>(spA m ps l K i).1) s/\T.hb (sig ((x.map fun i=>(spA m ps l K i).1).map (letL m ps)) s) 0=false:=by
 have hn:(x.map fun i=>(spA m ps l K i).1).length=x.length:=List.length_map _
 have hln:((x.map fun i=>(spA m ps l K i).1).map (letL m ps)).length=x.length:=by simp
 have hp:∀ i,i < x.length->(x.map fun i=>(spA m ps l K i).1).getD i 0=(spA m ps l K (x.getD i 0)).1:=fun i hi=>getD_map _ x 0 0 hi
 have hls:∀ i,i < x.length->((x.map fun i=>(spA m ps l K i).1).map (letL m ps)).getD i []=letL m ps (spA m ps l K (x.getD i 0)).1:=fun i hi=>by rw [getD_map _ _ 0 [] (by rw [hn];exact hi),hp i hi]
 have hmo:∀ i,moAt s x.length i < x.length:=fun i=>moAt_lt hx.lt
 have hbh:∀ i,i < x.length->spA m ps l K (x.getD (moAt s x.length (i+1)) 0)∈xpBh m ps l (spA m ps l K (x.getD i 0)):=fun i hi=>nxt_beh h (hx.all i hi) (hx.step i hi)
 have h0:0 < x.length:=Nat.lt_of_le_of_lt (Nat.zero_le _) hx.lt;obtain ⟨b1,d0,b2,b3,b4⟩:=xbg_mem _ (spA_beg (K:=K) hx.first);refine ⟨⟨by rw [hn];exact hx.lt,by rw [hp 0 h0];exact b1,fun i hi=>?_⟩,?_⟩
 ·rw [hn] at hi ⊢
  rw [hp i hi,hp _ (hmo _)];exact (xbe_mem _ (Nat.le_refl _) (hbh i hi)).1
 ·have hcl:=claims_only hw ho hz hv h8 (ls:=(x.map fun i=>(spA m ps l K i).1).map (letL m ps)) (s:=s) (by rw [hln];exact hx.lt) (fun i=>(spA m ps l K (x.getD i 0)).2) (fun i hi=>?_) (fun i hi p hp1 hb=>?_) (fun p hp1 hb=>?_)
  ·have hc0:=hcl 0 (by rw [hln];exact h0)
   have htr:=claims_tru hw ho hz hv h8 (ls:=(x.map fun i=>(spA m ps l K i).1).map (letL m ps)) (s:=s) (i:=0) (by rw [hln];exact h0) (p:=0) (tk_ne hk)
   rw [<- hc0,hls 0 h0,sub_zero,b1,b3] at htr;rw [<- htr]
   cases hb:tru l (letL m ps (begC m)) (d0:Int) 0 with
   | false=>rfl
   | true=>exact absurd hb b4
  ·rw [hln] at hi
   obtain ⟨_,d,g1,g2⟩:=spA_ok h (hx.all i hi);rw [g2];have:((2 ^ (aheadL l).length:Nat):Int)=(2:Int) ^ (aheadL l).length:=by push_cast;rfl
   rw [<- this];omega
  ·rw [hln] at hi ⊢
   obtain ⟨_,d,_,e2,e3⟩:=xbe_mem _ (Nat.le_refl _) (hbh i hi);rw [<- e2] at e3;rw [hls i hi,hls _ (hmo _)]
   have hF:Fol l (tru l (letL m ps (spA m ps l K (x.getD i 0)).1) (spA m ps l K (x.getD i 0)).2) (tru l (letL m ps (spA m ps l K (x.getD (moAt s x.length (i+1)) 0)).1) (spA m ps l K (x.getD (moAt s x.length (i+1)) 0)).2):=by
    by_cases hno:Fol l (tru l (letL m ps (spA m ps l K (x.getD i 0)).1) (spA m ps l K (x.getD i 0)).2) (tru l (letL m ps (spA m ps l K (x.getD (moAt s x.length (i+1)) 0)).1) (spA m ps l K (x.getD (moAt s x.length (i+1)) 0)).2)
    ·exact hno
    ·rw [folR_no hno] at e3;cases e3
   exact hF p hp1 hb
  ·obtain ⟨k1,k2⟩:=ahead_at hp1 hb
   obtain ⟨i,i1,i2,i3⟩:=hx.met _ k1;refine ⟨i,i1,by rw [hln];exact i2,?_⟩
   rw [hls i i2];obtain ⟨g0,d,g1,g2⟩:=spA_ok h (hx.all i i2);rw [xpT_get (hx.all i i2),xpAt_eq h (hx.all i i2)] at i3;have i4:bitB (metN l (letL m ps (spA m ps l K (x.getD i 0)).1) (spA m ps l K (x.getD i 0)).2) (aheadTo l p).length=true:=i3;rw [g2] at i4 ⊢;unfold metN at i4;rw [if_pos (tk_tru hk g0 g1).1,met_bit _ _ k1,k2] at i4;unfold waitAt at i4
   simp only [Int.toNat_natCast] at i4;simpa using i4
theorem run_way {T:Tm} (hw:T.Wf) (ho:T.ops=l) (hz:endsCode (l.map Prod.fst)=0) (hv:∀ q,q < l.length->(l.getD q (0,0)).1=13->0 <= (l.getD q (0,0)).2) (h8:∀ q,q < l.length->8 <= (l.getD q (0,0)).1) (hk:tkcode m ps l=0) (h:ExDone m ps l K) {path:List Int} {s:Nat} (hr:PRun m path s) (hno:T.hb (sig (path.map (letL m ps)) s) 0=false) :
  ∃ x:List Nat,x.length=path.length/\PWay m ps l K x s/\∀ i,i < path.length->spA m ps l K (x.getD i 0)=(path.getD i 0,clmTo (aheadL l) (fun q=>(T.sub q).hb (sig (path.map (letL m ps)) s)) i (aheadL l).length):=by
 obtain ⟨hm0,_⟩:=pcode_m (tk_zero hk).1;have hln:(path.map (letL m ps)).length=path.length:=List.length_map _;have hls:∀ i,i < path.length->(path.map (letL m ps)).getD i []=letL m ps (path.getD i 0):=fun i hi=>getD_map _ _ 0 [] hi
 have h0:0 < path.length:=Nat.lt_of_le_of_lt (Nat.zero_le _) hr.lt;have hmo:∀ i,moAt s path.length i < path.length:=fun i=>moAt_lt hr.lt
 obtain ⟨mine,hmine⟩:∃ mine:Nat->Int,mine=fun i=>clmTo (aheadL l) (fun q=>(T.sub q).hb (sig (path.map (letL m ps)) s)) i (aheadL l).length:=⟨_,rfl⟩
 obtain ⟨f1,f2⟩:=claims_fit hw ho hz hv h8 (ls:=path.map (letL m ps)) (s:=s) (by rw [hln];exact hr.lt) mine (fun i _=>by rw [hmine])
 rw [hln] at f1 f2;have hpw:((2 ^ (aheadL l).length:Nat):Int)=(2:Int) ^ (aheadL l).length:=by push_cast;rfl
 have hmd:∀ i,∃ d:Nat,d < 2 ^ (aheadL l).length/\mine i=(d:Int):=fun i=>by
  obtain ⟨c0,c1⟩:=clmTo_bounds (aheadL l) (fun q=>(T.sub q).hb (sig (path.map (letL m ps)) s)) i (aheadL l).length
  have e:mine i=clmTo (aheadL l) (fun q=>(T.sub q).hb (sig (path.map (letL m ps)) s)) i (aheadL l).length:=by rw [hmine]
  rw [<- e] at c0 c1;exact ⟨(mine i).toNat,by rw [<- hpw] at c1;omega,by omega⟩
 have hst:∀ i,i < path.length->0 <= path.getD i 0/\path.getD i 0 < prodTo m.vars m.vars.length:=fun i=>by
  induction i with
  | zero=>intro _;rw [hr.first];exact tk_beg hk
  | succ i ih=>
   intro hi;have h1:=hr.step i (by omega)
   rw [moAt_low hi] at h1;exact nextL_st hm0 (ih (by omega)) h1
 have hbh:∀ i,i < path.length->(path.getD (moAt s path.length (i+1)) 0,mine (moAt s path.length (i+1)))∈xpBh m ps l (path.getD i 0,mine i):=fun i hi=>by
  obtain ⟨c,c1,c2⟩:=hmd i;obtain ⟨d,d1,d2⟩:=hmd (moAt s path.length (i+1));rw [d2];refine beh_in (hr.step i hi) d1 ?_
  show folR l (letL m ps (path.getD i 0)) (mine i) (letL m ps (path.getD (moAt s path.length (i+1)) 0)) (d:Int)=true
  rw [<- d2];refine folR_yes ?_ ?_
  ·rw [c2,d2]
   exact tk_fol hk (hst i hi) (hst _ (hmo _)) c1 d1
  ·intro p hp hb
   have:=f1 i hi p hp hb;rw [hls i hi,hls _ (hmo _)] at this;exact this
 have hbeg:(path.getD 0 0,mine 0)∈begL m ps l:=by
  obtain ⟨d,d1,d2⟩:=hmd 0;rw [hr.first,d2];refine beg_in d1 ?_
  have htr:=claims_tru hw ho hz hv h8 (ls:=path.map (letL m ps)) (s:=s) (i:=0) (by rw [hln];exact h0) (p:=0) (tk_ne hk)
  have e:mine 0=clmTo (aheadL l) (fun q=>(T.sub q).hb (sig (path.map (letL m ps)) s)) 0 (aheadL l).length:=by rw [hmine]
  rw [<- e,hls 0 h0,sub_zero,hno,hr.first,d2] at htr;rw [htr]
  simp
 have hmem:∀ i,i < path.length->(path.getD i 0,mine i)∈xpP m ps l K:=fun i=>by
  induction i with
  | zero=>intro _;exact (idx_beg hbeg).2
  | succ i ih=>
   intro hi;have h1:=hbh i (by omega)
   rw [moAt_low hi] at h1;exact (exGr_step h (ih (by omega)) h1).1
 have hxl:((List.range path.length).map fun i=>(xpP m ps l K).idxOf (path.getD i 0,mine i)).length=path.length:=by simp
 have hx:∀ i,i < path.length->((List.range path.length).map fun i=>(xpP m ps l K).idxOf (path.getD i 0,mine i)).getD i 0=(xpP m ps l K).idxOf (path.getD i 0,mine i):=fun i hi=>by simp [List.getD_eq_getElem?_getD,hi]
 refine ⟨(List.range path.length).map fun i=>(xpP m ps l K).idxOf (path.getD i 0,mine i),hxl,⟨by rw [hxl];exact hr.lt,fun i hi=>?_,?_,fun i hi=>?_,fun k hkk=>?_⟩,fun i hi=>by rw [hx i hi,spA_idx (hmem i hi),hmine]⟩
 ·rw [hxl] at hi
  rw [hx i hi];have:=List.idxOf_lt_length_of_mem (hmem i hi);rw [h.1] at this;exact this
 ·rw [hx 0 h0]
  exact (idx_beg hbeg).1
 ·rw [hxl] at hi ⊢
  rw [hx i hi,hx _ (hmo _)];exact (exGr_step h (hmem i hi) (hbh i hi)).2
 ·obtain ⟨p,e1,e2,e3,e4⟩:=aheadTo_get l l.length k hkk
  have e1':(aheadL l).getD k 0=(p:Int):=e1;obtain ⟨i,i1,i2,i3⟩:=f2 p e2 e3;refine ⟨i,i1,by rw [hxl];exact i2,?_⟩
  have hiK:(xpP m ps l K).idxOf (path.getD i 0,mine i) < K:=by
   have:=List.idxOf_lt_length_of_mem (hmem i i2);rw [h.1] at this;exact this
  have hsp:spA m ps l K ((xpP m ps l K).idxOf (path.getD i 0,mine i))=(path.getD i 0,mine i):=spA_idx (hmem i i2);have hsp':(xpP m ps l K).getD ((xpP m ps l K).idxOf (path.getD i 0,mine i)) (0,0)=(path.getD i 0,mine i):=hsp;rw [hx i i2,xpT_get hiK,xpAt_eq h hiK,hsp'];simp only
  obtain ⟨d,d1,d2⟩:=hmd i;rw [hls i i2] at i3;unfold metN;rw [d2] at i3 ⊢;rw [if_pos (tk_tru hk (hst i i2) d1).1,met_bit _ _ hkk,e1'];unfold waitAt;simp only [Int.toNat_natCast];rw [i3];rfl
end
theorem bitB_nat (n i:Nat):bitB (n:Int) i=n.testBit i:=by
 unfold bitB;rw [Nat.testBit_eq_decide_div_mod_eq];have e:((n / 2 ^ i % 2:Nat):Int)=(n:Int) / 2 ^ i % 2:=by push_cast;rfl
 rw [<- e]
 apply decide_eq_decide.2
 omega
theorem Trail.at {nx:Nat->List Nat}:∀ {L:List Nat},Trail nx L->∀ i,i+1 < L.length->L.getD (i+1) 0∈nx (L.getD i 0)
 | [],_,i,h=>by simp at h
 | [_],_,i,h=>by simp at h
 | a:: b:: L,h,0,_=>by simpa using h.1
 | a:: b:: L,h,i+1,hi=>by
  have:=Trail.at (L:=b:: L) h.2 i (by simpa using hi)
  simpa using this
section
variable {m : Mo} {ps : List (List (Int × Int))} {l : List (Int × Int)} {K : Nat}
theorem exGr_bit {i k:Nat}:(sN (exGr m ps l K) i).testBit k=bitB ((xpT m ps l K).getD i 0) k\/(xpT m ps l K).getD i 0 < 0:=by
 by_cases h:(xpT m ps l K).getD i 0 < 0
 ·exact .inr h
 ·refine .inl ?_
  obtain ⟨n,hn⟩:∃ n:Nat,(xpT m ps l K).getD i 0=(n:Int):=⟨((xpT m ps l K).getD i 0).toNat,by omega⟩
  show ((xpT m ps l K).getD i 0).toNat.testBit k=_
  rw [hn,bitB_nat,Int.toNat_natCast]
theorem xpT_pos {i:Nat} (hi:i < K):¬ (xpT m ps l K).getD i 0 < 0:=by
 rw [xpT_get hi];have:=(metN_range l (letL m ps (xpAt m ps l i).1) (xpAt m ps l i).2).1;omega
theorem lasso_way (h:ExDone m ps l K) {st lp:List Nat} (hL:LassoOk (exGr m ps l K) st lp):PWay m ps l K (st++lp) st.length:=by
 have hK:(exGr m ps l K).spots.length=K:=h.1;have hlp:0 < lp.length:=List.length_pos_iff.2 hL.ne;have hn:(st++lp).length=st.length+lp.length:=List.length_append
 have hall:∀ i,i < (st++lp).length->(st++lp).getD i 0 < K:=fun i hi=>by
  have:=hL.lt ((st++lp).getD i 0) (by rw [List.getD_eq_getElem?_getD,List.getElem?_eq_getElem hi];exact List.getElem_mem _)
  rw [hK] at this;exact this
 have hg:∀ i,i < (st++lp).length->(st++lp++[lp.getD 0 0]).getD i 0=(st++lp).getD i 0:=fun i hi=>by
  simp only [List.getD_eq_getElem?_getD]
  rw [List.getElem?_append_left hi]
 have hlast:(st++lp++[lp.getD 0 0]).getD (st++lp).length 0=(st++lp).getD st.length 0:=by
  simp only [List.getD_eq_getElem?_getD]
  rw [List.getElem?_append_right (Nat.le_refl _),Nat.sub_self,List.getElem?_append_right (Nat.le_refl _),Nat.sub_self]
  rfl
 refine ⟨by omega,hall,?_,fun i hi=>?_,fun k hk=>?_⟩
 ·have:=hL.head
  have e:(exGr m ps l K).init=((begL m ps l).length:Nat):=rfl;rw [e] at this;omega
 ·have htr:=hL.trail.at i (by simp at hi ⊢;omega)
  rw [hg i hi] at htr
  by_cases hi2:i+1 < (st++lp).length
  ·rw [moAt_low hi2]
   rw [hg _ hi2] at htr;exact htr
  ·have e:i+1=(st++lp).length:=by omega
   have hm:moAt st.length (st++lp).length (i+1)=st.length:=by
    rw [e];unfold moAt;rw [if_neg (Nat.lt_irrefl _),Nat.mod_self];rfl
   rw [hm];rw [e,hlast] at htr;exact htr
 ·have hk':k < mN (exGr m ps l K):=by
   show k < (((aheadL l).length:Nat):Int).toNat
   rw [Int.toNat_natCast];exact hk
  obtain ⟨x,hx,hb⟩:=hL.bits k hk';obtain ⟨q,hq,rfl⟩:=List.getElem_of_mem hx;have hi:st.length+q < (st++lp).length:=by omega
  have hge:(st++lp).getD (st.length+q) 0=lp[q]:=by
   simp only [List.getD_eq_getElem?_getD]
   rw [List.getElem?_append_right (by omega),show st.length+q - st.length=q by omega,List.getElem?_eq_getElem hq]
   rfl
  refine ⟨st.length+q,by omega,hi,?_⟩
  rw [hge];have hlt:lp[q] < K:=by rw [<- hge];exact hall _ hi
  rcases exGr_bit (m:=m) (ps:=ps) (l:=l) (K:=K) (i:=lp[q]) (k:=k) with e | e
  ·rw [<- e];exact hb
  ·exact absurd e (xpT_pos hlt)
theorem way_fair (h:ExDone m ps l K) {x:List Nat} {s:Nat} (hx:PWay m ps l K x s):fairC (exGr m ps l K)=0:=by
 have hK:(exGr m ps l K).spots.length=K:=h.1
 have hfw:∀ i j,i <= j->j < x.length->Way (nxt (exGr m ps l K)) (x.getD i 0) (x.getD j 0):=fun i j hij=>by
  induction hij with
  | refl=>intro _;exact .stay
  | @step j hj ih=>
   intro hlt;have h1:=ih (by omega)
   have h2:=hx.step j (by omega)
   rw [moAt_low hlt] at h2;exact h1.step h2
 have hback:x.getD s 0∈nxt (exGr m ps l K) (x.getD (x.length - 1) 0):=by
  have h1:=hx.step (x.length - 1) (by have:=hx.lt;omega)
  have e:x.length - 1+1=x.length:=by have:=hx.lt;omega
  have hm:moAt s x.length x.length=s:=by
   unfold moAt;rw [if_neg (Nat.lt_irrefl _),Nat.mod_self];rfl
  rw [e,hm] at h1;exact h1
 have hlt:=hx.lt;have hmut:∀ i,s <= i->i < x.length->Mut (exGr m ps l K) (x.getD s 0) (x.getD i 0):=fun i h1 h2=>⟨hfw s i h1 h2,(hfw i (x.length - 1) (by omega) (by omega)).step hback⟩
 refine fair_some (x:=x.getD s 0) (by rw [hK];exact hx.all s hlt) ⟨⟨x.getD 0 0,?_,hfw 0 s (Nat.zero_le _) hlt⟩,⟨x.getD (x.length - 1) 0,x.getD s 0,hmut _ (by omega) (by omega),⟨.stay,.stay⟩,hback⟩,fun k hk=>?_⟩
 ·rw [List.mem_range]
  show x.getD 0 0 < (((begL m ps l).length:Nat):Int).toNat
  rw [Int.toNat_natCast];exact hx.first
 ·have hk':k < (aheadL l).length:=by
   have:k < (((aheadL l).length:Nat):Int).toNat:=hk;rw [Int.toNat_natCast] at this;exact this
  obtain ⟨i,i1,i2,i3⟩:=hx.met k hk';refine ⟨x.getD i 0,hmut i i1 i2,?_⟩
  rcases exGr_bit (m:=m) (ps:=ps) (l:=l) (K:=K) (i:=x.getD i 0) (k:=k) with e | e
  ·rw [e];exact i3
  ·exact absurd e (xpT_pos (hx.all i i2))
end
def AllKeep (m:Mo) (ps:List (List (Int × Int))) (T:Tm):Prop:=∀ (path:List Int) (s:Nat),PRun m path s->T.hb (sig (path.map (letL m ps)) s) 0=true
section
variable {m : Mo} {ps : List (List (Int × Int))} {l : List (Int × Int)} {K : Nat}
noncomputable def goOn (m:Mo):Nat->Int
 | 0=>begC m
 | i+1=>(nextL m (goOn m i)).getD 0 0
theorem nextL_pos (x:Int):nextL m x≠[]:=fun h=>by
 have hs:=(upL_spec (rawL m x)).2
 have hr:rawL m x=[]:=by
  apply List.eq_nil_iff_forall_not_mem.2
  intro y hy;have:=(hs y).2 hy;have h':upL (rawL m x)=[]:=h;rw [h'] at this;exact absurd this List.not_mem_nil
 unfold rawL at hr
 split at hr
 ·simp at hr
 ·next h2=>exact h2 (by simpa using hr)
theorem goOn_step (i:Nat):goOn m (i+1)∈nextL m (goOn m i):=by
 show (nextL m (goOn m i)).getD 0 0∈nextL m (goOn m i)
 have hl:0 < (nextL m (goOn m i)).length:=List.length_pos_iff.2 (nextL_pos _);rw [List.getD_eq_getElem?_getD,List.getElem?_eq_getElem hl]
 exact List.getElem_mem _
theorem goOn_st (hk:tkcode m ps l=0):∀ i,0 <= goOn m i/\goOn m i < prodTo m.vars m.vars.length
 | 0=>tk_beg hk
 | i+1=>nextL_st (pcode_m (tk_zero hk).1).1 (goOn_st hk i) (goOn_step i)
theorem pigeon {f:Nat->Int} {P:Nat} (hf:∀ i,0 <= f i/\f i < (P:Int)):∃ i j,i < j/\f i=f j:=by
 apply Classical.byContradiction
 intro hno
 have hnd:((List.range (P+1)).map f).Nodup:=by
  refine List.Pairwise.map _ (fun a b hab=>hab) ?_
  refine List.Pairwise.imp ?_ (List.pairwise_lt_range (n:=P+1))
  intro a b hab e;exact hno ⟨a,b,hab,e⟩
 have:=nodup_length (N:=P) hnd (fun y hy=>by
  obtain ⟨i,_,rfl⟩:=List.mem_map.1 hy
  exact hf i)
 simp at this
 omega
theorem run_some (hk:tkcode m ps l=0):∃ path s,PRun m path s:=by
 have hpos:(prodTo m.vars m.vars.length).toNat=prodTo m.vars m.vars.length:=by have:=tk_beg hk;omega
 obtain ⟨i,j,hij,e⟩:=pigeon (f:=goOn m) (P:=(prodTo m.vars m.vars.length).toNat) (fun i=>by rw [hpos];exact goOn_st hk i)
 have hl:((List.range j).map (goOn m)).length=j:=by simp
 have hg:∀ q,q < j->((List.range j).map (goOn m)).getD q 0=goOn m q:=fun q hq=>by simp [List.getD_eq_getElem?_getD,hq]
 refine ⟨(List.range j).map (goOn m),i,by rw [hl];exact hij,by rw [hg 0 (by omega)];rfl,fun q hq=>?_⟩
 rw [hl] at hq ⊢;rw [hg q hq]
 by_cases hq2:q+1 < j
 ·rw [moAt_low hq2,hg _ hq2]
  exact goOn_step q
 ·have eq:q+1=j:=by omega
  have hm:moAt i j (q+1)=i:=by
   rw [eq];unfold moAt;rw [if_neg (Nat.lt_irrefl _),Nat.mod_self];rfl
  rw [hm,hg i hij,e,<- eq];exact goOn_step q
theorem keep_of_none {T:Tm} (hw:T.Wf) (ho:T.ops=l) (hz:endsCode (l.map Prod.fst)=0) (hv:∀ q,q < l.length->(l.getD q (0,0)).1=13->0 <= (l.getD q (0,0)).2) (h8:∀ q,q < l.length->8 <= (l.getD q (0,0)).1) (hk:tkcode m ps l=0) (h:ExDone m ps l K) (hf:fairC (exGr m ps l K)≠0):AllKeep m ps T:=fun path s hr=>by
 cases hb:T.hb (sig (path.map (letL m ps)) s) 0 with
 | true=>rfl
 | false=>
  obtain ⟨x,_,hx,_⟩:=run_way hw ho hz hv h8 hk h hr hb;exact absurd (way_fair h hx) hf
theorem not_keep {T:Tm} (hw:T.Wf) (ho:T.ops=l) (hz:endsCode (l.map Prod.fst)=0) (hv:∀ q,q < l.length->(l.getD q (0,0)).1=13->0 <= (l.getD q (0,0)).2) (h8:∀ q,q < l.length->8 <= (l.getD q (0,0)).1) (hk:tkcode m ps l=0) (h:ExDone m ps l K) {st lp:List Nat} (hL:LassoOk (exGr m ps l K) st lp):¬ AllKeep m ps T:=fun ha=>by
 obtain ⟨h1,h2⟩:=way_run hw ho hz hv h8 hk h (lasso_way h hL);rw [ha _ _ h1] at h2
 cases h2
end
end Go.Proofs.YtbgllmgeklcloaaGreatDoor
namespace Go.Proofs.YtbgllmgeklcloaaGreatDoor
open Go.ChangeShapes Go.WideShapes Go.ChangeAt Go.RowKit Go.Deep Go.Maps
open Terms Tm
set_option maxHeartbeats 6400000
set_option maxRecDepth 20000
section
variable {m : Mo} {ps : List (List (Int × Int))} {l : List (Int × Int)} {K : Nat}
theorem exGr_le (hk:tkcode m ps l=0) (h:ExDone m ps l K):GrLe (exGr m ps l K):=by
 have e1:(exGr m ps l K).spots.length=K:=h.1;have e2:(exGr m ps l K).next.length=K:=xpN_len K;have e3:(exGr m ps l K).sets.length=K:=xpT_len K;have hm0:=(pcode_m (tk_zero hk).1).1;have h6:=(lcode_zero (tk_zero hk).2).2.2.2.2;refine ⟨by rw [e1];have:=h.2.1;omega,by rw [e2];have:=h.2.1;omega,by rw [e3];have:=h.2.1;omega,fun i hi=>?_⟩
 rw [e2] at hi
 show ((xpN m ps l K).getD i []).length <= _
 rw [(xpN_row h hi).1]
 have hin:(xpP m ps l K).getD i (0,0)∈xpP m ps l K:=by
  have hl:i < (xpP m ps l K).length:=by rw [h.1];exact hi
  rw [List.getD_eq_getElem?_getD,List.getElem?_eq_getElem hl]
  exact List.getElem_mem _
 have:=behL_len (ps:=ps) (l:=l) (c:=((xpP m ps l K).getD i (0,0)).2) hm0 (h.2.2.2 _ hin).1 h6
 show (behL _ _ _ _ _).length <= _
 omega
noncomputable def stL (m:Mo) (ps:List (List (Int × Int))) (l:List (Int × Int)) (K:Nat) (x:List Nat):List Int:=(List.range x.length).map fun (j:Nat)=>((xpP m ps l K).getD (x.getD j 0) (0,0)).1
def VdAns (w:World) (m:Mo) (ps:List (List (Int × Int))) (l:List (Int × Int)) (e:Ending) (w':World):Prop:=
 (tkcode m ps l=0/\(∃ K,ExDone m ps l K/\fairC (exGr m ps l K)=11)/\e=.returned (.tuple #[.agg #[.bool true,.slice none 0 0,.slice none 0 0],.int .i64 0])/\Below w.heap.size w w')\/
 (tkcode m ps l=0/\∃ K st lp A B,ExDone m ps l K/\LassoOk (exGr m ps l K) st lp/\st.length <= 20000/\lp.length <= 2000000/\e=.returned (.tuple #[.agg #[.bool false,.slice (some ⟨A,0,none⟩) st.length st.length,.slice (some ⟨B,0,none⟩) lp.length lp.length],.int .i64 0])/\Below w.heap.size w w'/\Hid (IntsV w' (.slice (some ⟨A,0,none⟩) st.length st.length) (stL m ps l K st)/\IntsV w' (.slice (some ⟨B,0,none⟩) lp.length lp.length) (stL m ps l K lp)))\/
 (tkcode m ps l=0/\ExFull m ps l/\e=.returned (.tuple #[.agg #[.bool false,.slice none 0 0,.slice none 0 0],.int .i64 12])/\Below w.heap.size w w')\/
 (tkcode m ps l≠0/\e=.returned (.tuple #[.agg #[.bool false,.slice none 0 0,.slice none 0 0],.int .i64 (tkcode m ps l)])/\Below w.heap.size w w')
end
def vcP (g f0 f1:Value) (G:Nat) (st lp:List Int) (ns np:Nat):Nat->Value->World->Prop
 | 0,v,_=>v=g
 | 1,v,_=>v=.pointer (some ⟨G,0,none⟩)
 | 2,v,_=>v=f0
 | 3,v,w=>∃ R,v=.slice (some ⟨R,0,none⟩) ns ns/\IntsV w v st
 | 4,v,_=>v=g
 | 5,v,_=>v=.pointer (some ⟨G,1,none⟩)
 | 6,v,_=>v=f1
 | 7,v,w=>∃ R,v=.slice (some ⟨R,0,none⟩) np np/\IntsV w v lp
 | 8,v,w=>∃ A B,v=.agg #[.slice (some ⟨A,0,none⟩) ns ns,.slice (some ⟨B,0,none⟩) np np]/\IntsV w (.slice (some ⟨A,0,none⟩) ns ns) st/\IntsV w (.slice (some ⟨B,0,none⟩) np np) lp
 | 9,v,w=>∃ A B,v=.agg #[.bool false,.slice (some ⟨A,0,none⟩) ns ns,.slice (some ⟨B,0,none⟩) np np]/\IntsV w (.slice (some ⟨A,0,none⟩) ns ns) st/\IntsV w (.slice (some ⟨B,0,none⟩) np np) lp
 | _,_,_=>True
theorem vc_lt:∀ i,i < 10->i=0\/i=1\/i=2\/i=3\/i=4\/i=5\/i=6\/i=7\/i=8\/i=9:=by intro i hi;omega
theorem vcP_stable (g f0 f1:Value) (G:Nat) (st lp:List Int) (ns np:Nat) (i:Nat) (v:Value) (w w':World) (hi:i < 10) (h:vcP g f0 f1 G st lp ns np i v w) (hb:Below w.heap.size w w'):vcP g f0 f1 G st lp ns np i v w':=by
 rcases vc_lt i hi with rfl | rfl | rfl | rfl | rfl | rfl | rfl | rfl | rfl | rfl
 ·exact h
 ·exact h
 ·exact h
 ·obtain ⟨R,h1,h2⟩:=h;exact ⟨R,h1,h2.below hb⟩
 ·exact h
 ·exact h
 ·exact h
 ·obtain ⟨R,h1,h2⟩:=h;exact ⟨R,h1,h2.below hb⟩
 ·obtain ⟨A,B,h1,h2,h3⟩:=h;exact ⟨A,B,h1,h2.below hb,h3.below hb⟩
 ·obtain ⟨A,B,h1,h2,h3⟩:=h;exact ⟨A,B,h1,h2.below hb,h3.below hb⟩
theorem IntsV.setBool {w:World} {v:Value} {l:List Int} {p:Addr} {b:Bool} (h:IntsV w v l) (hc:w.cell? p=some (.bool b)) (u:Value):IntsV (w.setCell p u) v l:=by
 obtain ⟨ao,cap,rfl,h⟩:=h;refine ⟨ao,cap,rfl,fun hne=>?_⟩
 obtain ⟨c,off,rfl,hlt,hat⟩:=h hne;refine ⟨c,off,rfl,by simpa using hlt,fun j hj=>?_⟩
 have h1:=hat j hj
 have hne2:(⟨c,off+j,none⟩:Addr)≠p:=by
  intro e;rw [e,hc] at h1;simp at h1
 rw [World.cell?_setCell_other _ _ _ _ hne2.symm]
 exact h1
theorem boxed {w:World} {v:Value} {x:List Int} {R:Nat} {b:Bool} {a1 a2:Option Addr} {n1 n2 c1 c2:Nat} (h:IntsV w v x) (k0:w.cell? ⟨R,0,none⟩=some (.bool b)) (k1:w.cell? ⟨R,1,none⟩=some (.slice a1 n1 c1)) (k2:w.cell? ⟨R,2,none⟩=some (.slice a2 n2 c2)) (u0 u1 u2:Value):IntsV (((w.setCell ⟨R,0,none⟩ u0).setCell ⟨R,1,none⟩ u1).setCell ⟨R,2,none⟩ u2) v x:=by
 have h0:=h.setBool k0 u0;have h1:=h0.setBox (p:=⟨R,1,none⟩) ((World.cell?_setCell_other _ _ _ _ (by simp)).trans k1) u1
 exact h1.setBox (p:=⟨R,2,none⟩) ((World.cell?_setCell_other _ _ _ _ (by simp)).trans ((World.cell?_setCell_other _ _ _ _ (by simp)).trans k2)) u2
def laB (sv lv:Value):Obj:=.cells #[sv,lv] 60 (0,0)
theorem laB_cells {w:World} {X:Nat} {sv lv:Value} (hb:w.heap[X]? = some (laB sv lv)):w.cell? ⟨X,0,none⟩=some sv/\w.cell? ⟨X,1,none⟩=some lv:=by
 unfold laB at hb;refine ⟨?_,?_⟩ <;> simp [World.cell?,hb]
theorem vcheck_bad (va vr pv fv:Value) (m:Mo) (ps:List (List (Int × Int))) (l:List (Int × Int)) (w:World) (hV:TaskV w va vr pv fv m ps l) (c:Int) (hc:c≠0) (hex:∀ w',Below w.heap.size w w'->Calls Tryz.prog 29 #[.agg #[va,vr,pv,fv]] w' fun e w2=>e=.returned (.tuple #[.agg #[.slice none 0 0,.int .i64 0,.slice none 0 0,.slice none 0 0,.int .i64 0],.int .i64 c])/\Below w'.heap.size w' w2) :
    Calls Tryz.prog 14 #[.agg #[va,vr,pv,fv]] w fun e w'=>e=.returned (.tuple #[.agg #[.bool false,.slice none 0 0,.slice none 0 0],.int .i64 c])/\Below w.heap.size w w':=by
  obtain ⟨ao,ac,rfl⟩:=hV.mo.1.shape;obtain ⟨ro,rc,rfl⟩:=hV.mo.2.shape;obtain ⟨po,pc,rfl⟩:=hV.ps.shape;obtain ⟨fo,fc,rfl,_⟩:=id hV.fo;clear hV;generalize m.vars.length=vn at *;generalize m.rules.length=rn at *;generalize ps.length=pn at *;generalize l.length=fn at *
  obtain ⟨W1,hW1⟩:∃ W1,W1=(w.alloc (.cells #[.slice ao vn ac,.slice ro rn rc,.slice po pn pc,.slice fo fn fc] 67)).alloc (.cells #[.bool false,.slice none 0 0,.slice none 0 0] 62):=⟨_,rfl⟩
  have hb1:Below w.heap.size w W1:=by rw [hW1];exact ((Below.refl _ _).alloc (Nat.le_refl _) _).alloc (by simp) _
  have hz1:W1.heap.size=w.heap.size+2:=by rw [hW1];simp
  have he:=hex W1 hb1
  have HBx:Hid (∀ w',Below W1.heap.size W1 w'->(w'.cell? ⟨w.heap.size+1,0,none⟩=some (.bool false)/\w'.cell? ⟨w.heap.size+1,1,none⟩=some (.slice none 0 0)/\w'.cell? ⟨w.heap.size+1,2,none⟩=some (.slice none 0 0))/\(w'.frozen? ⟨w.heap.size+1,0,none⟩=false/\w'.frozen? ⟨w.heap.size+1,1,none⟩=false/\w'.frozen? ⟨w.heap.size+1,2,none⟩=false)):=fun w' h=>by
    have hlt:w.heap.size+1 < W1.heap.size:=by omega
    refine ⟨⟨?_,?_,?_⟩,?_,?_,?_⟩
    · exact (h.cell (p:=⟨w.heap.size+1,0,none⟩) hlt).trans (by rw [hW1];simp [go_sem])
    · exact (h.cell (p:=⟨w.heap.size+1,1,none⟩) hlt).trans (by rw [hW1];simp [go_sem])
    · exact (h.cell (p:=⟨w.heap.size+1,2,none⟩) hlt).trans (by rw [hW1];simp [go_sem])
    · exact (h.frozen (p:=⟨w.heap.size+1,0,none⟩) hlt).trans (by rw [hW1];simp [go_sem])
    · exact (h.frozen (p:=⟨w.heap.size+1,1,none⟩) hlt).trans (by rw [hW1];simp [go_sem])
    · exact (h.frozen (p:=⟨w.heap.size+1,2,none⟩) hlt).trans (by rw [hW1];simp [go_sem])
  have HW1:=(show Hid (W1=_) from hW1)
  clear hW1 hex
  go_enter Tryz.func14,Tryz.ntmps14
  go_upto_region 2 with (go_at_call 29;rw [<- HW1.out];refine he.mono ?_;rintro e w2 ⟨rfl,hb2⟩)
  have hbA:Below w2.heap.size w2 (w2.alloc (.cells #[.slice none 0 0,.int .i64 0,.slice none 0 0,.slice none 0 0,.int .i64 0] 96)):=(Below.refl _ _).alloc (Nat.le_refl _) _;have hb3:=hb2.trans (hbA.mono hb2.size);generalize w2.alloc (.cells #[.slice none 0 0,.int .i64 0,.slice none 0 0,.slice none 0 0,.int .i64 0] 96)=W3 at *;obtain ⟨⟨r0,r1,r2⟩,f0,f1,f2⟩:=HBx.out W3 hb3
  have hbw3:=hb1.trans (hb3.mono hb1.size);have hcb:¬ c=0:=hc;clear HBx HW1 he
  go_wp2_with fail
  refine bodyPost_ret (v:=.tuple #[.agg #[.bool false,.slice none 0 0,.slice none 0 0],.int .i64 c]) ?_ rfl ⟨rfl,?_⟩
  · simp only [results,Tryz.results14]
    simp [go_sem,r0,r1,r2]
  · exact ((hbw3.setCell (p:=⟨w.heap.size+1,0,none⟩) (by show w.heap.size <= w.heap.size+1;omega) _).setCell (p:=⟨w.heap.size+1,1,none⟩) (by show w.heap.size <= w.heap.size+1;omega) _).setCell (p:=⟨w.heap.size+1,2,none⟩) (by show w.heap.size <= w.heap.size+1;omega) _
theorem vcheck_ok (va vr pv fv:Value) (m:Mo) (ps:List (List (Int × Int))) (l:List (Int × Int)) (w:World) (hB:0 < w.heap.size) (hT:TabAt w) (hV:TaskV w va vr pv fv m ps l) (hk:tkcode m ps l=0) (hnf:¬ ExFull m ps l) :
  Calls Tryz.prog 14 #[.agg #[va,vr,pv,fv]] w (VdAns w m ps l):=by
 obtain ⟨ao,ac,rfl⟩:=hV.mo.1.shape;obtain ⟨ro,rc,rfl⟩:=hV.mo.2.shape;obtain ⟨po,pc,rfl⟩:=hV.ps.shape;obtain ⟨fo,fc,rfl,_⟩:=id hV.fo;obtain ⟨W1,hW1⟩:∃ W1,W1=(w.alloc (.cells #[.slice ao m.vars.length ac,.slice ro m.rules.length rc,.slice po ps.length pc,.slice fo l.length fc] 67)).alloc (.cells #[.bool false,.slice none 0 0,.slice none 0 0] 62):=⟨_,rfl⟩
 have hb1:Below w.heap.size w W1:=by rw [hW1];exact ((Below.refl _ _).alloc (Nat.le_refl _) _).alloc (by simp) _
 have hz1:W1.heap.size=w.heap.size+2:=by rw [hW1];simp
 have hex:Calls Tryz.prog 29 #[.agg #[.slice ao m.vars.length ac,.slice ro m.rules.length rc,.slice po ps.length pc,.slice fo l.length fc]] W1 fun e w2=>∃ K so sc no nc xo xc,e=.returned (.tuple #[.agg #[.slice so K sc,.int .i64 ((begL m ps l).length:Nat),.slice no K nc,.slice xo K xc,.int .i64 ((aheadL l).length:Nat)],.int .i64 0])/\Below W1.heap.size W1 w2/\K <= 20000/\Hid (ExDone m ps l K/\GraphV w2 (.slice so K sc) (.slice no K nc) (.slice xo K xc) (exGr m ps l K)):=by
  refine (explore_any _ _ _ _ m ps l W1 (Nat.lt_of_lt_of_le hB hb1.size) (hT.below hb1 hB) (hV.below hb1)).mono fun e w2 hx=>?_
  rcases hx with ⟨_,K,hD,sv,nv,tv,e1,h2,HG⟩ | ⟨_,hf,_,_⟩ | ⟨h1,_,_⟩
  ·have hGr:=HG.out.graph
   obtain ⟨so,sc,rfl⟩:=HG.out.1.shape;obtain ⟨us,n1,_⟩:=HG.out.2.1;obtain ⟨no,nc,rfl⟩:=owns_slice n1;obtain ⟨xo,xc,rfl⟩:=owns_slice HG.out.2.2;rw [hD.1,xpN_len,xpT_len] at e1 hGr;exact ⟨K,so,sc,no,nc,xo,xc,e1,h2,hD.2.1,hD,hGr⟩
  ·exact absurd hf hnf
  ·exact absurd hk h1
 have HBx:Hid (∀ w',Below W1.heap.size W1 w'->(w'.cell? ⟨w.heap.size+1,0,none⟩=some (.bool false)/\w'.cell? ⟨w.heap.size+1,1,none⟩=some (.slice none 0 0)/\w'.cell? ⟨w.heap.size+1,2,none⟩=some (.slice none 0 0))/\(w'.frozen? ⟨w.heap.size+1,0,none⟩=false/\w'.frozen? ⟨w.heap.size+1,1,none⟩=false/\w'.frozen? ⟨w.heap.size+1,2,none⟩=false)):=fun w' h=>by
  have hlt:w.heap.size+1 < W1.heap.size:=by omega
  refine ⟨⟨?_,?_,?_⟩,?_,?_,?_⟩
  ·exact (h.cell (p:=⟨w.heap.size+1,0,none⟩) hlt).trans (by rw [hW1];simp [go_sem])
  ·exact (h.cell (p:=⟨w.heap.size+1,1,none⟩) hlt).trans (by rw [hW1];simp [go_sem])
  ·exact (h.cell (p:=⟨w.heap.size+1,2,none⟩) hlt).trans (by rw [hW1];simp [go_sem])
  ·exact (h.frozen (p:=⟨w.heap.size+1,0,none⟩) hlt).trans (by rw [hW1];simp [go_sem])
  ·exact (h.frozen (p:=⟨w.heap.size+1,1,none⟩) hlt).trans (by rw [hW1];simp [go_sem])
  ·exact (h.frozen (p:=⟨w.heap.size+1,2,none⟩) hlt).trans (by rw [hW1];simp [go_sem])
 have HLa:Hid (∀ (w':World) (so no xo:Option Addr) (sc nc xc K:Nat),ExDone m ps l K->GraphV w' (.slice so K sc) (.slice no K nc) (.slice xo K xc) (exGr m ps l K)->Calls Tryz.prog 30 #[.agg #[.slice so K sc,.int .i64 ((begL m ps l).length:Nat),.slice no K nc,.slice xo K xc,.int .i64 ((aheadL l).length:Nat)]] w' fun e w2=>∃ t0 tn tc uo un uc c,e=.returned (.tuple #[.agg #[.slice t0 tn tc,.slice uo un uc],.int .i64 c])/\Below w'.heap.size w' w2/\Hid (LassoV (exGr m ps l K) w2 (.agg #[.slice t0 tn tc,.slice uo un uc]) c)):=fun w' so no xo sc nc xc K hD hGr=>by
  have hok:=exGr_ok hk hD;have hc0:gcode (exGr m ps l K)=0:=gcode_ok hok.head hok.row;have e1:(exGr m ps l K).spots.length=K:=hD.1;have e2:(exGr m ps l K).next.length=K:=xpN_len K;have e3:(exGr m ps l K).sets.length=K:=xpT_len K;have h:=slasso_ok so no xo sc nc xc (exGr m ps l K) w' (exGr_le hk hD) (by rw [e1,e2,e3];exact hGr) hc0
  rw [e1,e2,e3] at h;refine h.mono fun e w2 ⟨v,c,g1,g2,g3⟩=>?_
  rcases id g3.out with ⟨_,_,rfl⟩ | ⟨_,_,t0,tc,uo,uc,st,lp,rfl,_⟩
  ·exact ⟨_,_,_,_,_,_,c,g1,g2,g3⟩
  ·exact ⟨_,_,_,_,_,_,c,g1,g2,g3⟩
 have HSt:Hid (∀ (w':World) (so no xo po:Option Addr) (sc nc xc pc K:Nat) (x:List Nat),ExDone m ps l K->OpsV w' (.slice so K sc) (xpP m ps l K)->NatsV w' (.slice po x.length pc) x->(∀ y∈x,y < K)->x.length <= 2000000->Calls Tryz.prog 31 #[.agg #[.slice so K sc,.int .i64 ((begL m ps l).length:Nat),.slice no K nc,.slice xo K xc,.int .i64 ((aheadL l).length:Nat)],.slice po x.length pc] w' fun e w2=>∃ R,e=.returned (.slice (some ⟨R,0,none⟩) x.length x.length)/\Below w'.heap.size w' w2/\Hid (IntsV w2 (.slice (some ⟨R,0,none⟩) x.length x.length) (stL m ps l K x))):=fun w' so no xo po sc nc xc pc K x hD hO hN hlt hz=>by
  have h:=statesAt_any so no xo po sc K nc K xc pc ((begL m ps l).length:Nat) ((aheadL l).length:Nat) (xpP m ps l K) x w' (by rw [hD.1];exact hO) hN (fun i hi=>by
   rw [hD.1];refine hlt _ ?_
   rw [List.getD_eq_getElem?_getD,List.getElem?_eq_getElem hi]
   exact List.getElem_mem _) hz (by rw [hD.1];exact hD.2.1)
  rw [hD.1] at h;exact h
 have HTk:Hid (tkcode m ps l=0):=hk;have HW1:=(show Hid (W1=_) from hW1)
 clear hW1 hV hT hk hnf;unfold VdAns;generalize hbl:(begL m ps l).length=bn at *;generalize hal:(aheadL l).length=an at *;generalize m.vars.length=vn at *;generalize m.rules.length=rn at *;generalize ps.length=pn at *;generalize l.length=fn at *;clear hbl hal
 go_enter Tryz.func14,Tryz.ntmps14
 go_upto_region 2 with (go_at_call 29;rw [<- HW1.out];refine hex.mono ?_;rintro e w2 ⟨K,so,sc,no,nc,xo,xc,rfl,hb2,hK,HD⟩)
 have hbA:Below w2.heap.size w2 (w2.alloc (.cells #[.slice so K sc,.int .i64 (bn:Nat),.slice no K nc,.slice xo K xc,.int .i64 (an:Nat)] 96)):=(Below.refl _ _).alloc (Nat.le_refl _) _
 have hbg:(w2.alloc (.cells #[.slice so K sc,.int .i64 (bn:Nat),.slice no K nc,.slice xo K xc,.int .i64 (an:Nat)] 96)).heap[w2.heap.size]? = some (grB (.slice so K sc) (.slice no K nc) (.slice xo K xc) (bn:Nat) (an:Nat)):=(MapKept.heap_alloc w2 _).1;have hb3:=hb2.trans (hbA.mono hb2.size)
 have HG3:Hid (GraphV (w2.alloc (.cells #[.slice so K sc,.int .i64 (bn:Nat),.slice no K nc,.slice xo K xc,.int .i64 (an:Nat)] 96)) (.slice so K sc) (.slice no K nc) (.slice xo K xc) (exGr m ps l K)):=HD.out.2.below hbA;have HDn:Hid (ExDone m ps l K):=HD.out.1;have hXw:W1.heap.size <= w2.heap.size:=hb2.size
 generalize w2.alloc (.cells #[.slice so K sc,.int .i64 (bn:Nat),.slice no K nc,.slice xo K xc,.int .i64 (an:Nat)] 96)=W3 at *;generalize w2.heap.size=X at *;have hla:=HLa.out W3 so no xo sc nc xc K HDn.out HG3.out;obtain ⟨g0,g1,g2,g3,g4⟩:=grB_cells hbg
 have HGb:Hid (W3.heap[X]? = some (grB (.slice so K sc) (.slice no K nc) (.slice xo K xc) (bn:Nat) (an:Nat))):=hbg;clear HD hex HLa hbA hbg HW1
 go_upto_region 5 with (go_at_call 30;refine hla.mono ?_;rintro e w4 ⟨t0,tn,tc,uo,un,uc,c,rfl,hb4,HL⟩)
 have hbB:Below w4.heap.size w4 (w4.alloc (.cells #[.slice t0 tn tc,.slice uo un uc] 60)):=(Below.refl _ _).alloc (Nat.le_refl _) _;have hbl5:(w4.alloc (.cells #[.slice t0 tn tc,.slice uo un uc] 60)).heap[w4.heap.size]? = some (laB (.slice t0 tn tc) (.slice uo un uc)):=(MapKept.heap_alloc w4 _).1;have hb35:=hb4.trans (hbB.mono hb4.size);have hb5:=hb3.trans (hb35.mono hb3.size)
 have hbw5:=hb1.trans (hb5.mono hb1.size);obtain ⟨⟨r0,r1,r2⟩,f0,f1,f2⟩:=HBx.out _ hb5;clear hla g0 g1 g2 g3 g4
 rcases HL.out with ⟨rfl,hfc,hv⟩ | ⟨rfl,hfc,t0',tc',uo',uc',st,lp,hv,hst,hlp,hLo,hN1,hN2⟩
 ·generalize w4.alloc (.cells #[.slice t0 tn tc,.slice uo un uc] 60)=W5 at *
  have HR:Hid (∃ K,ExDone m ps l K/\fairC (exGr m ps l K)=11):=⟨K,HDn.out,hfc⟩
  clear hfc hv HL HBx HSt HDn HG3 HGb hbl5
  go_wp2_with fail
  refine bodyPost_ret (v:=.tuple #[.agg #[.bool true,.slice none 0 0,.slice none 0 0],.int .i64 0]) ?_ rfl (.inl ⟨HTk.out,HR.out,rfl,?_⟩)
  ·simp only [results,Tryz.results14]
   simp [go_sem,r0,r1,r2]
  ·exact ((hbw5.setCell (p:=⟨w.heap.size+1,0,none⟩) (by show w.heap.size <= w.heap.size+1;omega) _).setCell (p:=⟨w.heap.size+1,1,none⟩) (by show w.heap.size <= w.heap.size+1;omega) _).setCell (p:=⟨w.heap.size+1,2,none⟩) (by show w.heap.size <= w.heap.size+1;omega) _
 ·simp only [Value.agg.injEq,Array.mk.injEq,List.cons.injEq,Value.slice.injEq,and_true] at hv
  obtain ⟨⟨rfl,rfl,rfl⟩,rfl,rfl,rfl⟩:=hv
  have hlo1:∀ y∈st,y < K:=fun y hy=>by
   have:=hLo.lt y (List.mem_append.2 (.inl hy));rw [show (exGr m ps l K).spots.length=K from HDn.out.1] at this
   exact this
  have hlo2:∀ y∈lp,y < K:=fun y hy=>by
   have:=hLo.lt y (List.mem_append.2 (.inr hy));rw [show (exGr m ps l K).spots.length=K from HDn.out.1] at this
   exact this
  have hN1b:=hN1.below hbB;have hN2b:=hN2.below hbB
  have HRw:Hid (∀ w',Below (w4.alloc (.cells #[.slice t0 st.length tc,.slice uo lp.length uc] 60)).heap.size (w4.alloc (.cells #[.slice t0 st.length tc,.slice uo lp.length uc] 60)) w'->((w'.cell? ⟨X,0,none⟩=some (.slice so K sc)/\w'.cell? ⟨X,1,none⟩=some (.int .i64 (bn:Nat))/\w'.cell? ⟨X,2,none⟩=some (.slice no K nc)/\w'.cell? ⟨X,3,none⟩=some (.slice xo K xc)/\w'.cell? ⟨X,4,none⟩=some (.int .i64 (an:Nat)))/\(w'.cell? ⟨w4.heap.size,0,none⟩=some (.slice t0 st.length tc)/\w'.cell? ⟨w4.heap.size,1,none⟩=some (.slice uo lp.length uc)))/\(Calls Tryz.prog 31 #[.agg #[.slice so K sc,.int .i64 (bn:Nat),.slice no K nc,.slice xo K xc,.int .i64 (an:Nat)],.slice t0 st.length tc] w' fun e w2=>∃ R,e=.returned (.slice (some ⟨R,0,none⟩) st.length st.length)/\Below w'.heap.size w' w2/\Hid (IntsV w2 (.slice (some ⟨R,0,none⟩) st.length st.length) (stL m ps l K st)))/\(Calls Tryz.prog 31 #[.agg #[.slice so K sc,.int .i64 (bn:Nat),.slice no K nc,.slice xo K xc,.int .i64 (an:Nat)],.slice uo lp.length uc] w' fun e w2=>∃ R,e=.returned (.slice (some ⟨R,0,none⟩) lp.length lp.length)/\Below w'.heap.size w' w2/\Hid (IntsV w2 (.slice (some ⟨R,0,none⟩) lp.length lp.length) (stL m ps l K lp)))/\Below W1.heap.size W1 w'):=fun w' h=>by
   have h3:=hb35.trans (h.mono hb35.size);have hbx:=(h3.block X (Array.getElem?_eq_some_iff.1 HGb.out).1).trans HGb.out
   have hbl:=(h.block w4.heap.size (Array.getElem?_eq_some_iff.1 hbl5).1).trans hbl5
   have hsp:=HG3.out.spots.below h3;exact ⟨⟨grB_cells hbx,laB_cells hbl⟩,HSt.out w' so no xo t0 sc nc xc tc K st HDn.out hsp (hN1b.below h) hlo1 (by omega),HSt.out w' so no xo uo sc nc xc uc K lp HDn.out hsp (hN2b.below h) hlo2 (by omega),hb5.trans (h.mono hb5.size)⟩
  have HLo:Hid (LassoOk (exGr m ps l K) st lp):=hLo;have HSz:Hid (st.length <= 20000/\lp.length <= 2000000):=⟨hst,hlp⟩;clear hN1 hN2 hN1b hN2b hlo1 hlo2 HL hbl5 HG3 HGb HSt hb35 hbB hLo hfc hst hlp;generalize w4.alloc (.cells #[.slice t0 st.length tc,.slice uo lp.length uc] 60)=W5 at *;generalize w4.heap.size=L5 at *;obtain ⟨ns,hns⟩:∃ n,st.length=n:=⟨_,rfl⟩
  obtain ⟨np,hnp⟩:∃ n,lp.length=n:=⟨_,rfl⟩
  obtain ⟨xs,hxs⟩:∃ x,stL m ps l K st=x:=⟨_,rfl⟩
  obtain ⟨xp,hxp⟩:∃ x,stL m ps l K lp=x:=⟨_,rfl⟩
  have HN:Hid ((st.length=ns/\lp.length=np)/\stL m ps l K st=xs/\stL m ps l K lp=xp):=⟨⟨hns,hnp⟩,hxs,hxp⟩;rw [hns,hnp,hxs,hxp] at HRw;rw [hns,hnp];clear hns hnp hxs hxp
  go_upto_region 9 with fail
  go_cut [3] (fun u wx=>u=.int .i64 0/\∃ A B,Hid (IntsV wx (.slice (some ⟨A,0,none⟩) ns ns) xs/\IntsV wx (.slice (some ⟨B,0,none⟩) np np) xp/\Below w.heap.size w wx)/\wx.cell? ⟨w.heap.size+1,0,none⟩=some (.bool false)/\wx.cell? ⟨w.heap.size+1,1,none⟩=some (.slice (some ⟨A,0,none⟩) ns ns)/\wx.cell? ⟨w.heap.size+1,2,none⟩=some (.slice (some ⟨B,0,none⟩) np np))
  case first=>
   rename_i J K' hJ hK';generalize ha0:Act.mk _ _=a0;have hsz:a0.tmps.size=38:=by rw [<- ha0];rfl
   have a4:a0.eval (.tmp 4)=.pointer (some ⟨X,0,none⟩):=by rw [<- ha0];rfl
   have a6:a0.eval (.tmp 6)=.pointer (some ⟨L5,0,none⟩):=by rw [<- ha0];rfl
   have a2:a0.eval (.tmp 2)=.pointer (some ⟨w.heap.size+1,0,none⟩):=by rw [<- ha0];rfl
   refine wp_anyway (by rfl) [28,29,30,31,32,33,34,35,36,37,3] 10 (vcP (.agg #[.slice so K sc,.int .i64 (bn:Nat),.slice no K nc,.slice xo K xc,.int .i64 (an:Nat)]) (.slice t0 ns tc) (.slice uo np uc) L5 xs xp ns np) (by rw [hsz];rfl) (vcP_stable _ _ _ _ _ _ _ _) ?_ ?_
   ·intro i o hi ho q w' hb hq
    have f:∀ t,[28,29,30,31,32,33,34,35,36,37,3].contains t=true->t < 38->(frm a0 [28,29,30,31,32,33,34,35,36,37,3] q).eval (.tmp t)=q t:=fun t h1 h2=>frm_in h1 (by rw [hsz];exact h2)
    have e4:(frm a0 [28,29,30,31,32,33,34,35,36,37,3] q).eval (.tmp 4)=.pointer (some ⟨X,0,none⟩):=(frm_out rfl).trans a4;have e6:(frm a0 [28,29,30,31,32,33,34,35,36,37,3] q).eval (.tmp 6)=.pointer (some ⟨L5,0,none⟩):=(frm_out rfl).trans a6;obtain ⟨⟨⟨x0,x1,x2,x3,x4⟩,y0,y1⟩,hs1,hs2,_⟩:=HRw.out w' hb
    obtain ⟨ev,hev⟩:∃ ev,ev=(frm a0 [28,29,30,31,32,33,34,35,36,37,3] q).eval:=⟨_,rfl⟩
    have evf:∀ n,ev (.func n)=.func (.func n) #[] #[]:=fun n=>by rw [hev];rfl
    rw [<- hev] at f e4 e6
    rcases vc_lt i hi with rfl | rfl | rfl | rfl | rfl | rfl | rfl | rfl | rfl | rfl
    all_goals obtain rfl:=Option.some.inj ho
    ·refine op_val (w':=w') ?_ (Below.refl _ _) rfl
     rw [<- hev];simp [execOp,e4,go_sem,x0,x1,x2,x3,x4]
    ·refine op_val (w':=w') ?_ (Below.refl _ _) rfl
     rw [<- hev];simp [execOp,e6,go_sem]
    ·have e29:=(f 29 rfl (by decide)).trans (hq 1 29 rfl rfl)
     refine op_val (w':=w') ?_ (Below.refl _ _) rfl
     rw [<- hev];simp [execOp,e29,go_sem,y0]
    ·have e28:=(f 28 rfl (by decide)).trans (hq 0 28 rfl rfl)
     have e30:=(f 30 rfl (by decide)).trans (hq 2 30 rfl rfl)
     refine op_call (f:=31) (args:=#[.agg #[.slice so K sc,.int .i64 (bn:Nat),.slice no K nc,.slice xo K xc,.int .i64 (an:Nat)],.slice t0 ns tc]) ?_ (hs1.mono ?_)
     ·rw [<- hev];simp [execOp,e28,e30,evf,go_sem]
     ·rintro e w2 ⟨R,rfl,h2,h3⟩
      exact ⟨_,rfl,h2,R,rfl,h3.out⟩
    ·refine op_val (w':=w') ?_ (Below.refl _ _) rfl
     rw [<- hev];simp [execOp,e4,go_sem,x0,x1,x2,x3,x4]
    ·refine op_val (w':=w') ?_ (Below.refl _ _) rfl
     rw [<- hev];simp [execOp,e6,go_sem]
    ·have e33:=(f 33 rfl (by decide)).trans (hq 5 33 rfl rfl)
     refine op_val (w':=w') ?_ (Below.refl _ _) rfl
     rw [<- hev];simp [execOp,e33,go_sem,y1]
    ·have e32:=(f 32 rfl (by decide)).trans (hq 4 32 rfl rfl)
     have e34:=(f 34 rfl (by decide)).trans (hq 6 34 rfl rfl)
     refine op_call (f:=31) (args:=#[.agg #[.slice so K sc,.int .i64 (bn:Nat),.slice no K nc,.slice xo K xc,.int .i64 (an:Nat)],.slice uo np uc]) ?_ (hs2.mono ?_)
     ·rw [<- hev];simp [execOp,e32,e34,evf,go_sem]
     ·rintro e w2 ⟨R,rfl,h2,h3⟩
      exact ⟨_,rfl,h2,R,rfl,h3.out⟩
    ·obtain ⟨A,hA,hA2⟩:=hq 3 31 rfl rfl
     obtain ⟨B,hB',hB2⟩:=hq 7 35 rfl rfl;have e31:=(f 31 rfl (by decide)).trans hA
     have e35:=(f 35 rfl (by decide)).trans hB'
     refine op_val (w':=w') (v:=.agg #[.slice (some ⟨A,0,none⟩) ns ns,.slice (some ⟨B,0,none⟩) np np]) ?_ (Below.refl _ _) ⟨A,B,rfl,by rw [<- hA];exact hA2,by rw [<- hB'];exact hB2⟩
     rw [<- hev];simp [execOp,e31,e35,go_sem]
    ·obtain ⟨A,B,hA,hA2,hB2⟩:=hq 8 36 rfl rfl
     have e36:=(f 36 rfl (by decide)).trans hA
     refine op_val (w':=w') (v:=.agg #[.bool false,.slice (some ⟨A,0,none⟩) ns ns,.slice (some ⟨B,0,none⟩) np np]) ?_ (Below.refl _ _) ⟨A,B,rfl,hA2,hB2⟩
     rw [<- hev];simp [execOp,e36,go_sem]
   ·intro q w' hb hq
    have f:∀ q t,[28,29,30,31,32,33,34,35,36,37,3].contains t=true->t < 38->(frm a0 [28,29,30,31,32,33,34,35,36,37,3] q).eval (.tmp t)=q t:=fun q t h1 h2=>frm_in h1 (by rw [hsz];exact h2)
    obtain ⟨A,B,h37,hA2,hB2⟩:=hq 9 37 (by decide) rfl
    have e37:=(f q 37 rfl (by decide)).trans h37
    have e2:(frm a0 [28,29,30,31,32,33,34,35,36,37,3] q).eval (.tmp 2)=.pointer (some ⟨w.heap.size+1,0,none⟩):=(frm_out rfl).trans a2;obtain ⟨_,_,_,hbW⟩:=HRw.out w' hb;obtain ⟨⟨k0,k1,k2⟩,l0,l1,l2⟩:=HBx.out w' hbW
    show wpOps Tryz.prog _ _ [10,11] _ _
    rw [wpOps_cons];refine op_atR rfl rfl ?_
    refine op_skip (w':=((w'.setCell ⟨w.heap.size+1,0,none⟩ (.bool false)).setCell ⟨w.heap.size+1,1,none⟩ (.slice (some ⟨A,0,none⟩) ns ns)).setCell ⟨w.heap.size+1,2,none⟩ (.slice (some ⟨B,0,none⟩) np np)) rfl ?_ ?_
    ·generalize (frm a0 [28,29,30,31,32,33,34,35,36,37,3] q).eval=ev at e37 e2 ⊢
     simp [execOp,e2,e37,go_sem,k0,k1,k2,l0,l1,l2]
    rw [wpOps_cons];refine op_atR rfl rfl ?_
    refine op_run (w':=((w'.setCell ⟨w.heap.size+1,0,none⟩ (.bool false)).setCell ⟨w.heap.size+1,1,none⟩ (.slice (some ⟨A,0,none⟩) ns ns)).setCell ⟨w.heap.size+1,2,none⟩ (.slice (some ⟨B,0,none⟩) np np)) (v:=.int .i64 0) ?_ ?_
    ·have evc:∀ v,(frm a0 [28,29,30,31,32,33,34,35,36,37,3] q).eval (.const v)=v:=fun v=>rfl
     generalize (frm a0 [28,29,30,31,32,33,34,35,36,37,3] q).eval=ev at evc ⊢;simp [execOp,evc,go_sem]
    rw [late_put 3 rfl rfl]
    show K' _ _
    refine hK' _ _ ?_
    rw [<- ha0]
    go_meet
    have hbF:=hb1.trans (hbW.mono hb1.size);have n0:∀ A',IntsV w' A' xs->IntsV (((w'.setCell ⟨w.heap.size+1,0,none⟩ (.bool false)).setCell ⟨w.heap.size+1,1,none⟩ (.slice (some ⟨A,0,none⟩) ns ns)).setCell ⟨w.heap.size+1,2,none⟩ (.slice (some ⟨B,0,none⟩) np np)) A' xs:=fun A' h=>boxed h k0 k1 k2 _ _ _
    have n1:∀ A',IntsV w' A' xp->IntsV (((w'.setCell ⟨w.heap.size+1,0,none⟩ (.bool false)).setCell ⟨w.heap.size+1,1,none⟩ (.slice (some ⟨A,0,none⟩) ns ns)).setCell ⟨w.heap.size+1,2,none⟩ (.slice (some ⟨B,0,none⟩) np np)) A' xp:=fun A' h=>boxed h k0 k1 k2 _ _ _
    refine ⟨setV_same q 3 _,A,B,⟨n0 _ hA2,n1 _ hB2,((hbF.setCell (p:=⟨w.heap.size+1,0,none⟩) (by show w.heap.size <= w.heap.size+1;omega) _).setCell (p:=⟨w.heap.size+1,1,none⟩) (by show w.heap.size <= w.heap.size+1;omega) _).setCell (p:=⟨w.heap.size+1,2,none⟩) (by show w.heap.size <= w.heap.size+1;omega) _⟩,?_,?_,?_⟩
    ·rw [World.cell?_setCell_other _ _ _ _ (by simp),World.cell?_setCell_other _ _ _ _ (by simp)]
     exact World.cell?_setCell_same _ _ _ k0
    ·rw [World.cell?_setCell_other _ _ _ _ (by simp)]
     refine World.cell?_setCell_same _ _ _ (u:=.slice none 0 0) ?_
     rw [World.cell?_setCell_other _ _ _ _ (by simp)]
     exact k1
    ·refine World.cell?_setCell_same _ _ _ (u:=.slice none 0 0) ?_
     rw [World.cell?_setCell_other _ _ _ _ (by simp),World.cell?_setCell_other _ _ _ _ (by simp)]
     exact k2
  case rest=>
   obtain ⟨rfl,A,B,HE,z0,z1,z2⟩:=hcut
   go_wp2_with fail
   obtain ⟨⟨hn1,hn2⟩,hx1,hx2⟩:=HN.out;refine bodyPost_ret (v:=.tuple #[.agg #[.bool false,.slice (some ⟨A,0,none⟩) ns ns,.slice (some ⟨B,0,none⟩) np np],.int .i64 0]) ?_ rfl (.inr (.inl ⟨HTk.out,K,st,lp,A,B,HDn.out,HLo.out,HSz.out.1,HSz.out.2,by rw [hn1,hn2],HE.out.2.2,by rw [hn1,hn2,hx1,hx2];exact ⟨HE.out.1,HE.out.2.1⟩⟩))
   simp only [results,Tryz.results14];simp [go_sem,z0,z1,z2]
theorem vcheck_any (va vr pv fv:Value) (m:Mo) (ps:List (List (Int × Int))) (l:List (Int × Int)) (w:World) (hB:0 < w.heap.size) (hT:TabAt w) (hV:TaskV w va vr pv fv m ps l) :
  Calls Tryz.prog 14 #[.agg #[va,vr,pv,fv]] w (VdAns w m ps l):=by
 by_cases hk:tkcode m ps l=0
 ·by_cases hf:ExFull m ps l
  ·refine (vcheck_bad va vr pv fv m ps l w hV 12 (by decide) fun w' h=>(explore_any va vr pv fv m ps l w' (Nat.lt_of_lt_of_le hB h.size) (hT.below h hB) (hV.below h)).mono fun e w2 hx=>?_).mono fun e w2 ⟨h1,h2⟩=>.inr (.inr (.inl ⟨hk,hf,h1,h2⟩))
   rcases hx with ⟨_,K,hD,_⟩ | ⟨_,_,h1,h2⟩ | ⟨h1,_,_⟩
   ·exact absurd hf (ex_not_both hD)
   ·exact ⟨h1,h2⟩
   ·exact absurd hk h1
  ·exact vcheck_ok va vr pv fv m ps l w hB hT hV hk hf
 ·refine (vcheck_bad va vr pv fv m ps l w hV (tkcode m ps l) hk fun w' h=>(explore_any va vr pv fv m ps l w' (Nat.lt_of_lt_of_le hB h.size) (hT.below h hB) (hV.below h)).mono fun e w2 hx=>?_).mono fun e w2 ⟨h1,h2⟩=>.inr (.inr (.inr ⟨hk,h1,h2⟩))
  rcases hx with ⟨h0,_⟩ | ⟨h0,_⟩ | ⟨_,h1,h2⟩
  ·exact absurd h0 hk
  ·exact absurd h0 hk
  ·exact ⟨h1,h2⟩
end Go.Proofs.YtbgllmgeklcloaaGreatDoor
namespace Go.Proofs.YtbgllmgeklcloaaGreatDoor
open Go.ChangeShapes Go.WideShapes Go.ChangeAt Go.RowKit Go.Deep
open Terms Tm
set_option maxHeartbeats 6400000
set_option maxRecDepth 20000
section
variable {m : Mo} {ss ll : List Int}
end
section
variable {σ : Nat -> Nat -> Bool} {v : Int} {a b : Tm} {i : Nat}
end
theorem PropsFn_any (w:World):Calls Tryz.prog 25 #[] w fun e w2=>∃ pb,e=.returned (.slice (some ⟨pb,0,none⟩) 3 3)/\Below w.heap.size w w2/\Hid (TermsV w2 (.slice (some ⟨pb,0,none⟩) 3 3) propsL):=by
 have hp:=propsFn_any w
 go_enter Tryz.func25,Tryz.ntmps25
 go_wp2_with (go_at_call 40;refine hp.mono ?_;rintro e w2 ⟨pb,rfl,hb,hP⟩)
 go_ret
 exact ⟨pb,rfl,hb,hP⟩
theorem Joined1 (kind:Int) (g:Nat) (lv:Value) (l:List (Int × Int)) (w:World) (hc:w.cell? ⟨g,0,none⟩=some lv) (hl:l.length <= 60) (hne:l≠[]) (hV:OpsV w lv l) :
  Calls Tryz.prog 7 #[.int .i64 kind,.slice (some ⟨g,0,none⟩) 1 1] w fun e w'=>∃ a c,e=.returned (.slice a ((kind,0):: l).length c)/\Below w.heap.size w w'/\OpsV w' (.slice a ((kind,0):: l).length c) ((kind,0):: l):=by
 have hp:=joined1 kind g lv l w hc hl hne hV;generalize hn:((kind,0):: l:List (Int × Int)).length=n at *;clear hn hV hl
 go_enter Tryz.func7,Tryz.ntmps7
 go_wp2_with (go_at_call 16;refine hp.mono ?_;rintro e w2 ⟨a,c,rfl,hb,hP⟩)
 go_ret
 exact ⟨a,c,rfl,hb,hP⟩
def MdOk (w:World) (c0 c1 c2 c3 c4 c5 c6:Value) (m:Mo):Prop:=∀ w',Below w.heap.size w w'->Calls Tryz.prog 10 #[.agg #[c0,c1,c2,c3,c4,c5,c6]] w' fun e w2=>∃ ao ac ro rn rc,e=.returned (.agg #[.slice ao 2 ac,.slice ro rn rc])/\Below w'.heap.size w' w2/\Hid (ModelV w2 (.slice ao 2 ac) (.slice ro rn rc) m/\mcode m=0/\∀ j,j < m.rules.length->(m.rules.getD j ru0).guard≠[])
theorem mdOk {w:World} {c0 c1 c2 c3 c4 c5 c6:Value} {a b:Vr} {rules:List Ru} (hG:GV a b) (h:∀ w',Below w.heap.size w w'->Calls Tryz.prog 10 #[.agg #[c0,c1,c2,c3,c4,c5,c6]] w' fun e w2=>∃ va vr,e=.returned (.agg #[va,vr])/\Below w'.heap.size w' w2/\GModelR w2 va vr [a,b] rules):MdOk w c0 c1 c2 c3 c4 c5 c6 ⟨[a,b],rules⟩:=fun w' hb=>(h w' hb).mono fun e w2 ⟨va,vr,h1,h2,h3⟩=>by
 obtain ⟨ao,ac,ro,rn,rc,rfl,rfl,_⟩:=h3.gm.shape;obtain ⟨g1,g2,g3⟩:=h3;exact ⟨ao,ac,ro,rn,rc,h1,h2,g1,hG.mcode (by omega) g3,fun j hj=>rcode_guard (g3 j hj)⟩
theorem ttask_any (c0 c1 c2 c3 c4 c5 c6:Value) (m:Mo) (fo:Option Addr) (fn fc:Nat) (l:List (Int × Int)) (w:World) (hM:MdOk w c0 c1 c2 c3 c4 c5 c6 m) (hO:OpsV w (.slice fo fn fc) l) :
  Calls Tryz.prog 15 #[.agg #[c0,c1,c2,c3,c4,c5,c6],.slice fo fn fc] w fun e w'=>∃ ao ac ro rn rc pb,e=.returned (.agg #[.slice ao 2 ac,.slice ro rn rc,.slice (some ⟨pb,0,none⟩) 3 3,.slice fo fn fc])/\Below w.heap.size w w'/\Hid (TaskV w' (.slice ao 2 ac) (.slice ro rn rc) (.slice (some ⟨pb,0,none⟩) 3 3) (.slice fo fn fc) m propsL l/\mcode m=0):=by
 obtain ⟨W1,hW1⟩:∃ W1,W1=(w.alloc (.cells #[c0,c1,c2,c3,c4,c5,c6] 25)).alloc (.cells #[.slice none 0 0,.slice none 0 0,.slice none 0 0,.slice none 0 0] 67):=⟨_,rfl⟩
 have hb1:Below w.heap.size w W1:=by rw [hW1];exact ((Below.refl _ _).alloc (Nat.le_refl _) _).alloc (by simp) _
 have HBx:Hid (∀ w',Below (w.heap.size+2) W1 w'->(w'.cell? ⟨w.heap.size+1,0,none⟩=some (.slice none 0 0)/\w'.cell? ⟨w.heap.size+1,1,none⟩=some (.slice none 0 0)/\w'.cell? ⟨w.heap.size+1,2,none⟩=some (.slice none 0 0)/\w'.cell? ⟨w.heap.size+1,3,none⟩=some (.slice none 0 0))/\(w'.frozen? ⟨w.heap.size+1,0,none⟩=false/\w'.frozen? ⟨w.heap.size+1,1,none⟩=false/\w'.frozen? ⟨w.heap.size+1,2,none⟩=false/\w'.frozen? ⟨w.heap.size+1,3,none⟩=false)):=fun w' h=>by
  have hlt:w.heap.size+1 < w.heap.size+2:=by omega
  refine ⟨⟨?_,?_,?_,?_⟩,?_,?_,?_,?_⟩
  ·exact (h.cell (p:=⟨w.heap.size+1,0,none⟩) hlt).trans (by rw [hW1];simp [go_sem])
  ·exact (h.cell (p:=⟨w.heap.size+1,1,none⟩) hlt).trans (by rw [hW1];simp [go_sem])
  ·exact (h.cell (p:=⟨w.heap.size+1,2,none⟩) hlt).trans (by rw [hW1];simp [go_sem])
  ·exact (h.cell (p:=⟨w.heap.size+1,3,none⟩) hlt).trans (by rw [hW1];simp [go_sem])
  ·exact (h.frozen (p:=⟨w.heap.size+1,0,none⟩) hlt).trans (by rw [hW1];simp [go_sem])
  ·exact (h.frozen (p:=⟨w.heap.size+1,1,none⟩) hlt).trans (by rw [hW1];simp [go_sem])
  ·exact (h.frozen (p:=⟨w.heap.size+1,2,none⟩) hlt).trans (by rw [hW1];simp [go_sem])
  ·exact (h.frozen (p:=⟨w.heap.size+1,3,none⟩) hlt).trans (by rw [hW1];simp [go_sem])
 have hz1:W1.heap.size=w.heap.size+2:=by rw [hW1];simp
 have hmo:=hM W1 hb1;have HO:Hid (OpsV w (.slice fo fn fc) l):=hO;clear hM hO;subst hW1
 go_enter Tryz.func15,Tryz.ntmps15
 go_wp2_with (first
  | (go_at_call 10;refine hmo.mono ?_;rintro e w2 ⟨ao,ac,ro,rn,rc,rfl,hb2,HM⟩;have hbw2:=hb1.trans (hb2.mono hb1.size);have hpr:=PropsFn_any w2)
  | (go_at_call 25;refine hpr.mono ?_;rintro e w3 ⟨pb,rfl,hb3,HP⟩;have hbw3:=hbw2.trans (hb3.mono hbw2.size);have hb24:=hb2.trans (hb3.mono hb2.size);obtain ⟨⟨k0,k1,k2,k3⟩,g0,g1,g2,g3⟩:=HBx.out w3 (hb24.mono (by omega))))
 have hn:NilTo (w.heap.size+1) w3 ((((w3.setCell ⟨w.heap.size+1,0,none⟩ (.slice ao 2 ac)).setCell ⟨w.heap.size+1,1,none⟩ (.slice ro rn rc)).setCell ⟨w.heap.size+1,2,none⟩ (.slice (some ⟨pb,0,none⟩) 3 3)).setCell ⟨w.heap.size+1,3,none⟩ (.slice fo fn fc)):=by
  refine ⟨by simp,fun i v hv=>?_,fun b hb=>?_⟩
  ·have hblk:=(hb24.mono (show w.heap.size+2 <= _ by omega)).block (w.heap.size+1) (by omega)
   have hx:((w.alloc (.cells #[c0,c1,c2,c3,c4,c5,c6] 25)).alloc (.cells #[.slice none 0 0,.slice none 0 0,.slice none 0 0,.slice none 0 0] 67)).cell? ⟨w.heap.size+1,i,none⟩=some v:=by rw [<- hv];exact (World.cell?_of_block hblk).symm
   have hy:=(MapKept.heap_alloc (w.alloc (.cells #[c0,c1,c2,c3,c4,c5,c6] 25)) (.cells #[.slice none 0 0,.slice none 0 0,.slice none 0 0,.slice none 0 0] 67)).1;rw [World.size_alloc] at hy;simp only [World.cell?,hy] at hx
   have hi:i < 4:=by
    rcases Nat.lt_or_ge i 4 with h | h
    ·exact h
    ·simp [Array.getElem?_eq_none (show (#[Value.slice none 0 0,.slice none 0 0,.slice none 0 0,.slice none 0 0]:Array Value).size <= i from h)] at hx
   rcases (show i=0\/i=1\/i=2\/i=3 by omega) with rfl | rfl | rfl | rfl <;> simpa using hx.symm
  ·rw [RowKit.Below.heap_setCell _ _ _ _ hb,RowKit.Below.heap_setCell _ _ _ _ hb,RowKit.Below.heap_setCell _ _ _ _ hb,RowKit.Below.heap_setCell _ _ _ _ hb]
 obtain ⟨m1,m2,m4⟩:=HM.out
 refine bodyPost_ret (v:=.agg #[.slice ao 2 ac,.slice ro rn rc,.slice (some ⟨pb,0,none⟩) 3 3,.slice fo fn fc]) ?_ rfl ⟨ao,ac,ro,rn,rc,pb,rfl,(((hbw3.setCell (p:=⟨w.heap.size+1,0,none⟩) (by simp) _).setCell (p:=⟨w.heap.size+1,1,none⟩) (by simp) _).setCell (p:=⟨w.heap.size+1,2,none⟩) (by simp) _).setCell (p:=⟨w.heap.size+1,3,none⟩) (by simp) _,⟨⟨(m1.1.below hb3).nilTo hn,(m1.2.below hb3).nilTo m4 hn⟩,HP.out.nilTo (fun j hj=>?_) hn,(HO.out.below hbw3).nilTo hn⟩,m2⟩
 ·simp [results,Tryz.results15,go_sem,k0,k1,k2,k3]
 ·have hj3:j < 3:=hj
  rcases (show j=0\/j=1\/j=2 by omega) with rfl | rfl | rfl <;> simp [propsL]
def Kp (m:Mo) (T:Tm) (b:Bool):Prop:=(b=true↔AllKeep m propsL T)/\tkcode m propsL [(11,0)]=0
theorem few_spots {m:Mo} {a b:Vr} {l:List (Int × Int)} {mm:Nat} (hG:GV a b) (hk:KTaskOk m l mm) (hvars:m.vars=[a,b]):¬ ExFull m propsL l:=by
 have hspan:1 <= vspan a*vspan b/\vspan a*vspan b <= 16:=by
  have h1:1 <= vspan a/\vspan a <= 4:=by have:=hG.a2;have:=hG.a3;unfold vspan;omega
  have h2:1 <= vspan b/\vspan b <= 4:=by have:=hG.b2;have:=hG.b3;unfold vspan;omega
  obtain ⟨x1,x2⟩:=h1;obtain ⟨y1,y2⟩:=h2;generalize vspan a=x at *;generalize vspan b=y at *
  rcases (show x=1\/x=2\/x=3\/x=4 by omega) with rfl | rfl | rfl | rfl <;> omega
 have hah:(aheadL l).length=mm:=by obtain ⟨T,hT⟩:=hk.fo;exact hT.ahead
 refine xp_few (P:=(vspan a*vspan b).toNat) hk.code ?_ ?_
 ·rw [hvars]
  show prodTo [a,b] 2=_
  rw [prod_two];omega
 ·rw [hah]
  have:2 ^ mm <= 2 ^ 6:=Nat.pow_le_pow_right (by decide) hk.many
  have h3:(vspan a*vspan b).toNat * 2 ^ mm <= 16*64:=Nat.mul_le_mul (by omega) (by omega)
  omega
theorem vcheck_keep (va vr pv fv:Value) (m:Mo) (a b:Vr) (l:List (Int × Int)) (T:Tm) (mm:Nat) (w:World) (hB:0 < w.heap.size) (hT:TabAt w) (hV:TaskV w va vr pv fv m propsL l) (hG:GV a b) (hvars:m.vars=[a,b]) (hmc:mcode m=0) (hF:FOk mm l T) (hl:l.length <= 59) (hmm:mm <= 6) :
  Calls Tryz.prog 14 #[.agg #[va,vr,pv,fv]] w fun e w'=>∃ bb so sn sc lo ln lc,e=.returned (.tuple #[.agg #[.bool bb,.slice so sn sc,.slice lo ln lc],.int .i64 0])/\Below w.heap.size w w'/\Hid (Kp m T bb):=by
 have hv2:m.vars.length=2:=by rw [hvars];rfl
 have hK:KTaskOk m l mm:=⟨hmc,hv2,⟨T,hF⟩,hl,hmm⟩;have hk0:tkcode m propsL [(11,0)]=0:=(KTaskOk.mk hmc hv2 ⟨_,FOk.yes⟩ (by decide) (by decide):KTaskOk m [(11,0)] 0).code
 have hgv:=good_vals hF;have hz:=hF.ends (by omega)
 refine (vcheck_any va vr pv fv m propsL l w hB hT hV).mono fun e w' hx=>?_
 rcases hx with ⟨hk,⟨K,hD,hfc⟩,h1,h2⟩ | ⟨hk,K,st,lp,A,B,hD,hL,_,_,h1,h2,_⟩ | ⟨hk,hf,_,_⟩ | ⟨hk,_,_⟩
 ·exact ⟨true,_,_,_,_,_,_,h1,h2,⟨fun _=>keep_of_none hF.wf hF.ops hz hgv.1 hgv.2 hk hD (by rw [hfc];decide),fun _=>rfl⟩,hk0⟩
 ·exact ⟨false,_,_,_,_,_,_,h1,h2,⟨fun h=>(by cases h),fun h=>absurd h (not_keep hF.wf hF.ops hz hgv.1 hgv.2 hk hD hL)⟩,hk0⟩
 ·exact absurd hf (few_spots hG hK hvars)
 ·exact absurd hK.code hk
theorem tholds_any (c0 c1 c2 c3 c4 c5 c6:Value) (m:Mo) (a b:Vr) (fv:Value) (l:List (Int × Int)) (T:Tm) (mm:Nat) (w:World) (hB:0 < w.heap.size) (hT:TabAt w) (hG:GV a b) (hvars:m.vars=[a,b]) (hM:MdOk w c0 c1 c2 c3 c4 c5 c6 m) (hO:OpsV w fv l) (hF:FOk mm l T) (hl:l.length <= 59) (hmm:mm <= 6) :
  Calls Tryz.prog 6 #[.agg #[c0,c1,c2,c3,c4,c5,c6],fv] w fun e w'=>∃ bb,e=.returned (.tuple #[.bool bb,.bool true])/\Below w.heap.size w w'/\Hid (Kp m T bb):=by
 obtain ⟨fo,fc,rfl,_⟩:=id hO;have hA1:Below w.heap.size w (w.alloc (.cells #[c0,c1,c2,c3,c4,c5,c6] 25)):=(Below.refl _ _).alloc (Nat.le_refl _) _;have htk:=ttask_any c0 c1 c2 c3 c4 c5 c6 m fo l.length fc l _ (fun w' h=>hM w' (hA1.trans (h.mono hA1.size))) (hO.below hA1)
 have HVc:Hid (∀ (w':World) (va vr pv fv:Value),Below w.heap.size w w'->TaskV w' va vr pv fv m propsL l->mcode m=0->Calls Tryz.prog 14 #[.agg #[va,vr,pv,fv]] w' fun e w2=>∃ bb so sn sc lo ln lc,e=.returned (.tuple #[.agg #[.bool bb,.slice so sn sc,.slice lo ln lc],.int .i64 0])/\Below w'.heap.size w' w2/\Hid (Kp m T bb)):=fun w' va vr pv fv h hv hmc=>vcheck_keep va vr pv fv m a b l T mm w' (Nat.lt_of_lt_of_le hB h.size) (hT.below h hB) hv hG hvars hmc hF hl hmm
 clear hM hO hF hT;generalize l.length=fn at *
 go_enter Tryz.func6,Tryz.ntmps6
 go_wp2_with (first
  | (go_at_call 15;refine htk.mono ?_;rintro e w1 ⟨ao,ac,ro,rn,rc,pb,rfl,hb1,HV⟩;have hbw1:=hA1.trans (hb1.mono hA1.size);have hvc:=HVc.out w1 _ _ _ _ hbw1 HV.out.1 HV.out.2)
  | (go_at_call 14;refine hvc.mono ?_;rintro e w2 ⟨bb,so,sn,sc,lo,ln,lc,rfl,hb2,HK⟩))
 refine bodyPost_ret (v:=.tuple #[.bool bb,.bool true]) ?_ rfl ⟨bb,rfl,(hbw1.trans (hb2.mono hbw1.size)).alloc (Nat.le_trans hbw1.size hb2.size) _,HK⟩
 simp [results,Tryz.results6,go_sem]
def HoldsOk (w:World) (c0 c1 c2 c3 c4 c5 c6:Value) (m:Mo):Prop:=∀ (w':World) (fv:Value) (l:List (Int × Int)) (T:Tm) (mm:Nat),Below w.heap.size w w'->OpsV w' fv l->FOk mm l T->l.length <= 59->mm <= 6->Calls Tryz.prog 6 #[.agg #[c0,c1,c2,c3,c4,c5,c6],fv] w' fun e w2=>∃ bb,e=.returned (.tuple #[.bool bb,.bool true])/\Below w'.heap.size w' w2/\Hid (Kp m T bb)
theorem holdsOk {w:World} {c0 c1 c2 c3 c4 c5 c6:Value} {a b:Vr} {rules:List Ru} (hB:0 < w.heap.size) (hT:TabAt w) (hG:GV a b) (h:∀ w',Below w.heap.size w w'->Calls Tryz.prog 10 #[.agg #[c0,c1,c2,c3,c4,c5,c6]] w' fun e w2=>∃ va vr,e=.returned (.agg #[va,vr])/\Below w'.heap.size w' w2/\GModelR w2 va vr [a,b] rules):HoldsOk w c0 c1 c2 c3 c4 c5 c6 ⟨[a,b],rules⟩:=fun w' fv l T mm hb hO hF hl hmm=>
 tholds_any c0 c1 c2 c3 c4 c5 c6 ⟨[a,b],rules⟩ a b fv l T mm w' (Nat.lt_of_lt_of_le hB hb.size) (hT.below hb hB) hG rfl (fun w2 h2=>mdOk hG h w2 (hb.trans (h2.mono hb.size))) hO hF hl hmm
inductive Fd
 | same (u:Value)
 | one (l:List (Int × Int))
 | two (l k:List (Int × Int))
 | ops (l:List (Int × Int))
 | held (T:Tm)
 | bit (T:Tm)
 | yes
def Fd.At (m:Mo):Fd->Value->World->Prop
 | .same u,v,_=>v=u
 | .one l,v,w=>One w v l
 | .two l k,v,w=>Two w v l k
 | .ops l,v,w=>OpsV w v l
 | .held T,v,_=>∃ b:Bool,v=.tuple #[.bool b,.bool true]/\Kp m T b
 | .bit T,v,_=>∃ b:Bool,v=.bool b/\Kp m T b
 | .yes,v,_=>v=.bool true
theorem Fd.below {m:Mo} {f:Fd} {v:Value} {w w':World} (h:f.At m v w) (hb:Below w.heap.size w w'):f.At m v w':=by
 cases f with
 | same u=>exact h
 | one l=>exact One.below (w:=w) h hb
 | two l k=>exact Two.below (w:=w) h hb
 | ops l=>exact OpsV.below (w:=w) h hb
 | held T=>exact h
 | bit T=>exact h
 | yes=>exact h
def FdP (m:Mo) (fs:List Fd) (i:Nat) (v:Value) (w:World):Prop:=(fs.getD i .yes).At m v w
theorem FdP_stable (m:Mo) (fs:List Fd) (n i:Nat) (v:Value) (w w':World) (_:i < n) (h:FdP m fs i v w) (hb:Below w.heap.size w w'):FdP m fs i v w':=Fd.below (w:=w) h hb
section
variable {o : Oper} {a : Act} {w : World} {Q : Exit -> Act -> World -> Prop} {m : Mo}
theorem st_load7 {s D:Nat} {c0 c1 c2 c3 c4 c5 c6:Value} (hop:o.op=.load 25 (.tmp s)) (he:a.eval (.tmp s)=.pointer (some ⟨D,0,none⟩)) (hc:w.cell? ⟨D,0,none⟩=some c0/\w.cell? ⟨D,1,none⟩=some c1/\w.cell? ⟨D,2,none⟩=some c2/\w.cell? ⟨D,3,none⟩=some c3/\w.cell? ⟨D,4,none⟩=some c4/\w.cell? ⟨D,5,none⟩=some c5/\w.cell? ⟨D,6,none⟩=some c6):Oper.wp Tryz.prog o a w (fun a' w'=>∃ v',a'=a.put o.dst v'/\Below w.heap.size w w'/\v'=.agg #[c0,c1,c2,c3,c4,c5,c6]) Q:=by
 obtain ⟨h0,h1,h2,h3,h4,h5,h6⟩:=hc;refine op_val (w':=w) (v:=.agg #[c0,c1,c2,c3,c4,c5,c6]) (post:=fun v' _=>v'=.agg #[c0,c1,c2,c3,c4,c5,c6]) ?_ (Below.refl _ _) rfl
 generalize a.eval=ev at he ⊢;simp [execOp,hop,he,go_sem,h0,h1,h2,h3,h4,h5,h6]
theorem st_J1 {s:Nat} {k:Int} {l:List (Int × Int)} (hop:o.op=.call { callee:=.value (.func 7),args:=#[.const (.int .i64 k),.tmp s],argTypes:=#[3,65]}) (he:One w (a.eval (.tmp s)) l) (hl:l.length <= 60) (hne:l≠[]):Oper.wp Tryz.prog o a w (fun a' w'=>∃ v',a'=a.put o.dst v'/\Below w.heap.size w w'/\OpsV w' v' ((k,0):: l)) Q:=by
 obtain ⟨g,lv,hv,hc,hV⟩:=he;refine op_call (f:=7) (args:=#[.int .i64 k,.slice (some ⟨g,0,none⟩) 1 1]) (post:=fun v' w'=>OpsV w' v' ((k,0):: l)) ?_ ((Joined1 k g lv l w hc hl hne hV).mono ?_)
 ·have evc:∀ v,a.eval (.const v)=v:=fun v=>rfl
  have evf:∀ n,a.eval (.func n)=.func (.func n) #[] #[]:=fun n=>rfl
  generalize a.eval=ev at hv evc evf ⊢;simp [execOp,hop,hv,evc,evf,go_sem]
 ·rintro e w' ⟨a',c,rfl,hb,hO⟩
  exact ⟨_,rfl,hb,hO⟩
theorem st_holds {s t mm:Nat} {c0 c1 c2 c3 c4 c5 c6:Value} {l:List (Int × Int)} {T:Tm} {w0:World} (hop:o.op=.call { callee:=.value (.func 6),args:=#[.tmp s,.tmp t],argTypes:=#[25,27]}) (hH:HoldsOk w0 c0 c1 c2 c3 c4 c5 c6 m) (hb:Below w0.heap.size w0 w) (he:a.eval (.tmp s)=.agg #[c0,c1,c2,c3,c4,c5,c6]) (hO:OpsV w (a.eval (.tmp t)) l) (hF:FOk mm l T) (hl:l.length <= 59) (hmm:mm <= 6):Oper.wp Tryz.prog o a w (fun a' w'=>∃ v',a'=a.put o.dst v'/\Below w.heap.size w w'/\∃ b:Bool,v'=.tuple #[.bool b,.bool true]/\Kp m T b) Q:=by
 refine op_call (f:=6) (args:=#[.agg #[c0,c1,c2,c3,c4,c5,c6],a.eval (.tmp t)]) (post:=fun v' _=>∃ b:Bool,v'=.tuple #[.bool b,.bool true]/\Kp m T b) ?_ ((hH w _ l T mm hb hO hF hl hmm).mono ?_)
 ·have evf:∀ n,a.eval (.func n)=.func (.func n) #[] #[]:=fun n=>rfl
  generalize a.eval=ev at he evf ⊢;simp [execOp,hop,he,evf,go_sem]
 ·rintro e w' ⟨b,rfl,hb,hK⟩
  exact ⟨_,rfl,hb,b,rfl,hK.out⟩
theorem st_mvh {s:Nat} {T:Tm} (hop:o.op=.move (.tmp s)) (h:∃ b:Bool,a.eval (.tmp s)=.tuple #[.bool b,.bool true]/\Kp m T b):Oper.wp Tryz.prog o a w (fun a' w'=>∃ v',a'=a.put o.dst v'/\Below w.heap.size w w'/\∃ b:Bool,v'=.tuple #[.bool b,.bool true]/\Kp m T b) Q:=by
 obtain ⟨b,he,hK⟩:=h;refine op_val (w':=w) (v:=.tuple #[.bool b,.bool true]) (post:=fun v' _=>∃ b:Bool,v'=.tuple #[.bool b,.bool true]/\Kp m T b) ?_ (Below.refl _ _) ⟨b,rfl,hK⟩
 generalize a.eval=ev at he ⊢;simp [execOp,hop,he,go_sem]
theorem st_ex0 {s:Nat} {T:Tm} (hop:o.op=.extract (.tmp s) 0) (h:∃ b:Bool,a.eval (.tmp s)=.tuple #[.bool b,.bool true]/\Kp m T b):Oper.wp Tryz.prog o a w (fun a' w'=>∃ v',a'=a.put o.dst v'/\Below w.heap.size w w'/\∃ b:Bool,v'=.bool b/\Kp m T b) Q:=by
 obtain ⟨b,he,hK⟩:=h;refine op_val (w':=w) (v:=.bool b) (post:=fun v' _=>∃ b:Bool,v'=.bool b/\Kp m T b) ?_ (Below.refl _ _) ⟨b,rfl,hK⟩
 generalize a.eval=ev at he ⊢;simp [execOp,hop,he,go_sem]
theorem st_ex1 {s:Nat} {T:Tm} (hop:o.op=.extract (.tmp s) 1) (h:∃ b:Bool,a.eval (.tmp s)=.tuple #[.bool b,.bool true]/\Kp m T b):Oper.wp Tryz.prog o a w (fun a' w'=>∃ v',a'=a.put o.dst v'/\Below w.heap.size w w'/\v'=.bool true) Q:=by
 obtain ⟨b,he,hK⟩:=h;refine op_val (w':=w) (v:=.bool true) (post:=fun v' _=>v'=.bool true) ?_ (Below.refl _ _) rfl
 generalize a.eval=ev at he ⊢;simp [execOp,hop,he,go_sem]
theorem st_asb {s:Nat} {T:Tm} (hop:o.op=.assign (.tmp s)) (h:∃ b:Bool,a.eval (.tmp s)=.bool b/\Kp m T b):Oper.wp Tryz.prog o a w (fun a' w'=>∃ v',a'=a.put o.dst v'/\Below w.heap.size w w'/\∃ b:Bool,v'=.bool b/\Kp m T b) Q:=by
 obtain ⟨b,he,hK⟩:=h;refine op_val (w':=w) (v:=.bool b) (post:=fun v' _=>∃ b:Bool,v'=.bool b/\Kp m T b) ?_ (Below.refl _ _) ⟨b,rfl,hK⟩
 generalize a.eval=ev at he ⊢;simp [execOp,hop,he,go_sem]
end
def DBox (w:World) (D:Nat) (c0 c1 c2 c3 c4 c5 c6:Value):Prop:=w.cell? ⟨D,0,none⟩=some c0/\w.cell? ⟨D,1,none⟩=some c1/\w.cell? ⟨D,2,none⟩=some c2/\w.cell? ⟨D,3,none⟩=some c3/\w.cell? ⟨D,4,none⟩=some c4/\w.cell? ⟨D,5,none⟩=some c5/\w.cell? ⟨D,6,none⟩=some c6
theorem DBox.below {w w':World} {D:Nat} {c0 c1 c2 c3 c4 c5 c6:Value} (h:DBox w D c0 c1 c2 c3 c4 c5 c6) (hb:Below w.heap.size w w'):DBox w' D c0 c1 c2 c3 c4 c5 c6:=by
 obtain ⟨h0,h1,h2,h3,h4,h5,h6⟩:=h;exact ⟨cell_later hb h0,cell_later hb h1,cell_later hb h2,cell_later hb h3,cell_later hb h4,cell_later hb h5,cell_later hb h6⟩
structure TFor (w:World) (v:Value) (tempo:Nat) (x:List (Int × Int)) (T:Tm) (k:Nat):Prop where
 v:OpsV w v x
 ok:FOk k x T
 len:x.length <= 17
 ne:x≠[]
 many:k <= tempo
theorem TFor.below {w w':World} {v:Value} {tempo k:Nat} {x:List (Int × Int)} {T:Tm} (h:TFor w v tempo x T k) (hb:Below w.heap.size w w'):TFor w' v tempo x T k:=⟨h.v.below hb,h.ok,h.len,h.ne,h.many⟩
theorem tform_any (rawv:Value) (rs:List (Int × Int)) (tempo:Nat) (w:World) (ht:tempo <= 6) (hR:Raws w w.heap.size rawv rs) :
  Calls Tryz.prog 4 #[rawv,.int .i64 3,.int .i64 (tempo:Int)] w fun e w'=>∃ fo fn fc x T k,e=.returned (.slice fo fn fc)/\Below w.heap.size w w'/\Hid (TFor w' (.slice fo fn fc) tempo x T k):=
 (formulaFn_any rawv rs 3 tempo w (by decide) (by decide) (by omega) hR).mono fun e w2 ⟨fo,fc,l,mm,h1,h2,h3,h4,h5,h6⟩=>by
  obtain ⟨T,hT⟩:=h2.ok;exact ⟨fo,_,fc,l,T,mm,h1,h6,h5,hT,h4,h2.ne,h3⟩
section
variable {m : Mo} {A B : Tm} {a b c d : Bool}
end
section
variable {m : Mo} {ps : List (List (Int × Int))} {l : List (Int × Int)}
def stAt (path:List Int) (s t:Nat):Int:=path.getD (moAt s path.length t) 0
theorem stAt_zero {path:List Int} {s:Nat} (h:PRun m path s):stAt path s 0=begC m:=by
 unfold stAt;rw [moAt_low (Nat.lt_of_le_of_lt (Nat.zero_le _) h.lt),h.first]
theorem moAt_next {s n t:Nat} (hs:s < n):moAt s n (t+1)=moAt s n (moAt s n t+1):=by
 unfold moAt
 by_cases h1:t < n
 ·rw [if_pos h1]
 ·rw [if_neg h1,if_neg (by omega:¬ t+1 < n)]
  have hp:0 < n - s:=by omega
  have hlt:=Nat.mod_lt (t - s) hp;have e:t+1 - s=(t - s)+1:=by omega
  by_cases h2:s+(t - s) % (n - s)+1 < n
  ·rw [if_pos h2,e,Nat.add_mod]
   by_cases h3:n - s=1
   ·omega
   ·rw [Nat.mod_eq_of_lt (by omega:1 < n - s),Nat.mod_eq_of_lt (by omega:(t - s) % (n - s)+1 < n - s)]
    omega
  ·rw [if_neg h2]
   have h4:(t - s) % (n - s)+1=n - s:=by omega
   have h5:s+(t - s) % (n - s)+1 - s=n - s:=by omega
   rw [h5,e,Nat.mod_self]
   have h6:((t - s)+1) % (n - s)=0:=by
    rw [Nat.add_mod]
    by_cases h3:n - s=1
    ·rw [h3];exact Nat.mod_one _
    ·rw [Nat.mod_eq_of_lt (by omega:1 < n - s),h4,Nat.mod_self]
   rw [h6]
theorem stAt_step {path:List Int} {s:Nat} (h:PRun m path s) (t:Nat):stAt path s (t+1)∈nextL m (stAt path s t):=by
 unfold stAt;rw [moAt_next h.lt];exact h.step _ (moAt_lt h.lt)
theorem stAt_reach {path:List Int} {s:Nat} (h:PRun m path s):∀ t,RSt (nextL m) (begC m) (stAt path s t)
 | 0=>by rw [stAt_zero h];exact .first
 | t+1=>.next (stAt_reach h t) (stAt_step h t)
theorem sig_st {path:List Int} {s:Nat} (h:PRun m path s) (t v:Nat):sig (path.map (letL m ps)) s t v=(letL m ps (stAt path s t)).getD v false:=by
 unfold sig stAt;rw [List.length_map];have hl:=moAt_lt (i:=t) h.lt
 congr 1
 simp [List.getD_eq_getElem?_getD,hl]
theorem pigeonK {f:Nat->Int} {P:Nat} (k:Nat) (hf:∀ i,0 <= f i/\f i < (P:Int)):∃ i j,k <= i/\i < j/\f i=f j:=by
 obtain ⟨i,j,h1,h2⟩:=pigeon (f:=fun i=>f (k+i)) (P:=P) (fun i=>hf _)
 exact ⟨k+i,k+j,by omega,by omega,h2⟩
theorem run_seq (hk:tkcode m ps l=0) {f:Nat->Int} (k:Nat) (h0:f 0=begC m) (hs:∀ i,f (i+1)∈nextL m (f i)):∃ path s,PRun m path s/\k <= s/\∀ q,q < path.length->path.getD q 0=f q:=by
 have hst:∀ i,0 <= f i/\f i < prodTo m.vars m.vars.length:=fun i=>by
  induction i with
  | zero=>rw [h0];exact tk_beg hk
  | succ i ih=>exact nextL_st (pcode_m (tk_zero hk).1).1 ih (hs i)
 have hpos:(prodTo m.vars m.vars.length).toNat=prodTo m.vars m.vars.length:=by have:=tk_beg hk;omega
 obtain ⟨i,j,hki,hij,e⟩:=pigeonK (f:=f) (P:=(prodTo m.vars m.vars.length).toNat) k (fun i=>by rw [hpos];exact hst i)
 have hl:((List.range j).map f).length=j:=by simp
 have hg:∀ q,q < j->((List.range j).map f).getD q 0=f q:=fun q hq=>by simp [List.getD_eq_getElem?_getD,hq]
 refine ⟨(List.range j).map f,i,⟨by rw [hl];exact hij,by rw [hg 0 (by omega)];exact h0,fun q hq=>?_⟩,hki,fun q hq=>hg q (by rw [hl] at hq;exact hq)⟩
 rw [hl] at hq ⊢;rw [hg q hq]
 by_cases hq2:q+1 < j
 ·rw [moAt_low hq2,hg _ hq2]
  exact hs q
 ·have eq:q+1=j:=by omega
  have hm:moAt i j (q+1)=i:=by
   rw [eq];unfold moAt;rw [if_neg (Nat.lt_irrefl _),Nat.mod_self];rfl
  rw [hm,hg i hij,e,<- eq];exact hs q
def WayS (m:Mo) (k:Nat) (f:Nat->Int):Prop:=f 0=begC m/\∀ i,i < k->f (i+1)∈nextL m (f i)
open Classical in
noncomputable def pickS (m:Mo) (S:Int->Prop) (y:Int):Int:=if h:∃ z,z∈nextL m y/\S z then Classical.choose h else 0
theorem pickS_ok {S:Int->Prop} {y:Int} (h:∃ z,z∈nextL m y/\S z):pickS m S y∈nextL m y/\S (pickS m S y):=by
 have e:pickS m S y=Classical.choose h:=dif_pos h;rw [e];exact Classical.choose_spec h
noncomputable def inS (m:Mo) (S:Int->Prop) (x:Int):Nat->Int
 | 0=>x
 | i+1=>pickS m S (inS m S x i)
theorem inS_in {S:Int->Prop} {x:Int} (hx:S x) (hg:∀ y,S y->∃ z,z∈nextL m y/\S z):∀ i,S (inS m S x i)
 | 0=>hx
 | i+1=>(pickS_ok (hg _ (inS_in hx hg i))).2
theorem inS_ok {S:Int->Prop} {x:Int} (hx:S x) (hg:∀ y,S y->∃ z,z∈nextL m y/\S z) (i:Nat):S (inS m S x i)/\inS m S x (i+1)∈nextL m (inS m S x i):=⟨inS_in hx hg i,(pickS_ok (hg _ (inS_in hx hg i))).1⟩
theorem run_on (hk:tkcode m ps l=0) {S:Int->Prop} {k:Nat} {f:Nat->Int} (hw:WayS m k f) (hS:S (f k)) (hg:∀ y,S y->∃ z,z∈nextL m y/\S z):∃ path s,PRun m path s/\k <= s/\(∀ t,t <= k->stAt path s t=f t)/\∀ t,k <= t->S (stAt path s t):=by
 have hI:=inS_ok hS hg
 obtain ⟨path,s,hr,hks,hp⟩:=run_seq hk (f:=fun i=>if i <= k then f i else inS m S (f k) (i - k)) k (by show (if 0 <= k then f 0 else _)=_;rw [if_pos (Nat.zero_le _)];exact hw.1) (fun i=>by
  show (if i+1 <= k then f (i+1) else inS m S (f k) (i+1 - k))∈nextL m (if i <= k then f i else inS m S (f k) (i - k))
  by_cases h1:i+1 <= k
  ·rw [if_pos h1,if_pos (by omega)]
   exact hw.2 i (by omega)
  ·rw [if_neg h1]
   by_cases h2:i <= k
   ·obtain rfl:i=k:=by omega
    rw [if_pos h2,show i+1 - i=0+1 by omega]
    exact (hI 0).2
   ·rw [if_neg h2,show i+1 - k=(i - k)+1 by omega]
    exact (hI (i - k)).2)
 refine ⟨path,s,hr,hks,fun t ht=>?_,fun t ht=>?_⟩
 ·have hlt:t < path.length:=Nat.lt_of_le_of_lt (Nat.le_trans ht hks) hr.lt
  unfold stAt;rw [moAt_low hlt,hp t hlt];exact if_pos ht
 ·have hlt:=moAt_lt (i:=t) hr.lt
  have hge:k <= moAt s path.length t:=by
   unfold moAt
   split
   ·exact ht
   ·omega
  unfold stAt;rw [hp _ hlt]
  show S (if moAt s path.length t <= k then f (moAt s path.length t) else inS m S (f k) (moAt s path.length t - k))
  split
  ·have e:moAt s path.length t=k:=by omega
   rw [e];exact hS
  ·exact (hI _).1
end
section
variable {m : Mo} {ps : List (List (Int × Int))} {l : List (Int × Int)}
theorem sig_lone (x:List Bool) (t v:Nat):sig [x] 0 t v=x.getD v false:=by
 unfold sig
 have:moAt 0 ([x]:List (List Bool)).length t=0:=by
  have h:=moAt_lt (s:=0) (n:=1) (i:=t) (by decide)
  show moAt 0 1 t=0
  omega
 rw [this];rfl
end
theorem look_k {k:Int} (h:lookB k=false):k≠14/\k≠15/\k≠16/\k≠17/\k≠18:=by
 refine ⟨?_,?_,?_,?_,?_⟩ <;> rintro rfl <;> exact absurd h (by decide)
theorem ho_now:∀ (T:Tm),T.Wf->(∀ o,o∈T.ops->lookB o.1=false)->(∀ o,o∈T.ops->8 <= o.1)->∀ (σ τ:Nat->Nat->Bool) (i j:Nat),(∀ v,σ i v=τ j v)->(ho σ T i↔ho τ T j)
 | leaf k v,_,_,_,σ,τ,i,j,h=>by
  simp only [ho]
  split
  ·rw [h]
  ·exact Iff.rfl
 | un k v a,hw,hl,hk,σ,τ,i,j,h=>by
  have h1:=hl (k,v) (by simp [Tm.ops])
  have h2:=hk (k,v) (by simp [Tm.ops])
  have hn:=look_k h1
  have hk10:k=10:=by
   have h3:=hw.2.1;have h4:8 <= k:=h2;obtain ⟨n1,n2,n3,n4,n5⟩:=hn;unfold pn at h3
   split at h3
   ·omega
   ·split at h3 <;> omega
  have ih:=ho_now a hw.2.2 (fun o ho=>hl o (by simp [Tm.ops,ho])) (fun o ho=>hk o (by simp [Tm.ops,ho])) σ τ i j h
  simp only [ho];rw [if_pos hk10,if_pos hk10,ih]
 | bi k v a b,hw,hl,hk,σ,τ,i,j,h=>by
  have h1:=hl (k,v) (by simp [Tm.ops])
  have h2:=hk (k,v) (by simp [Tm.ops])
  have hn:=look_k h1
  have hk89:k=8\/k=9:=by
   have h3:=hw.2.1;have h4:8 <= k:=h2;obtain ⟨n1,n2,n3,n4,n5⟩:=hn;unfold pn at h3
   split at h3
   ·omega
   ·split at h3 <;> omega
  have iha:=ho_now a hw.2.2.1 (fun o ho=>hl o (by simp [Tm.ops,ho])) (fun o ho=>hk o (by simp [Tm.ops,ho])) σ τ i j h
  have ihb:=ho_now b hw.2.2.2 (fun o ho=>hl o (by simp [Tm.ops,ho])) (fun o ho=>hk o (by simp [Tm.ops,ho])) σ τ i j h
  simp only [ho]
  rcases hk89 with rfl | rfl
  ·rw [if_pos rfl,if_pos rfl,iha,ihb]
  ·rw [if_neg (by decide),if_pos rfl,if_neg (by decide),if_pos rfl,iha,ihb]
section
variable {m : Mo} {ps : List (List (Int × Int))} {l : List (Int × Int)}
theorem hb_now {T:Tm} (hF:FOk 0 l T) (σ τ:Nat->Nat->Bool) (i j:Nat) (h:∀ v,σ i v=τ j v):T.hb σ i=T.hb τ j:=by
 refine bool_eq ?_
 rw [hb_iff,hb_iff];refine ho_now T hF.wf (fun o ho=>?_) (fun o ho=>?_) σ τ i j h
 ·rw [hF.ops] at ho
  have h1:=List.length_eq_zero_iff.1 hF.many;rw [List.filter_eq_nil_iff] at h1;exact Bool.eq_false_iff.2 (h1 o ho)
 ·rw [hF.ops] at ho
  have h2:=hF.good o ho;unfold lopErr at h2
  by_cases h8:o.1 < 8
  ·rw [if_pos h8] at h2;exact absurd h2 (by decide)
  ·omega
theorem now_keep {l':List (Int × Int)} (hk:tkcode m ps l'=0) {T:Tm} (hF:FOk 0 l T):AllKeep m ps T↔T.hb (sig [letL m ps (begC m)] 0) 0=true:=by
 have key:∀ path s,PRun m path s->T.hb (sig (path.map (letL m ps)) s) 0=T.hb (sig [letL m ps (begC m)] 0) 0:=fun path s h=>
  hb_now hF _ _ _ _ fun v=>by rw [sig_st h,sig_lone,stAt_zero h]
 constructor
 ·intro ha
  obtain ⟨p,s,h⟩:=run_some hk;rw [<- key p s h];exact ha p s h
 ·intro h p s hp
  rw [key p s hp];exact h
theorem next_keep {l':List (Int × Int)} (hk:tkcode m ps l'=0) {T:Tm} (hF:FOk 0 l T) (u:Int):AllKeep m ps (un 14 u T)↔∀ y,y∈nextL m (begC m)->T.hb (sig [letL m ps y] 0) 0=true:=by
 have key:∀ path s,PRun m path s->(un 14 u T).hb (sig (path.map (letL m ps)) s) 0=T.hb (sig [letL m ps (stAt path s 1)] 0) 0:=fun path s h=>by
  rw [hb_next];exact hb_now hF _ _ _ _ fun v=>by rw [sig_st h,sig_lone]
 constructor
 ·intro ha y hy
  have hw:WayS m 1 (fun i=>if i=0 then begC m else y):=⟨rfl,fun i hi=>by
   obtain rfl:i=0:=by omega
   exact hy⟩
  obtain ⟨p,s,h1,h2,h3,h4⟩:=run_on hk (S:=fun _=>True) hw trivial (fun z _=>by
   obtain ⟨q,hq⟩:=List.exists_mem_of_ne_nil _ (nextL_pos (m:=m) z)
   exact ⟨q,hq,trivial⟩)
  have h5:=ha p s h1;rw [key p s h1,h3 1 (Nat.le_refl _)] at h5;exact h5
 ·intro h p s hp
  rw [key p s hp];refine h _ ?_
  have:=stAt_step hp 0;rw [stAt_zero hp] at this;exact this
end
section
variable {m : Mo} {ps : List (List (Int × Int))} {l : List (Int × Int)} {n : Int}
end
def Kt (t:TypeId) (w w':World):Prop:=w.heap.size <= w'.heap.size/\∀ (b:Nat) (cs:Array Value) (te:TypeId) (fr:Nat × Nat),w.heap[b]? = some (Obj.cells cs te fr)->te≠t->w'.heap[b]? = some (Obj.cells cs te fr)
section
variable {t te : TypeId} {w w' w'' : World}
theorem Kt.below (hb:Below w.heap.size w w'):Kt t w w':=⟨hb.size,fun b _ _ _ h _=>(hb.block b (Array.getElem?_eq_some_iff.1 h).1).trans h⟩
theorem Kt.grown {base n:Nat} {v:Value} {xs:List Value} (ho:w.ownsRow base t 1 v n xs) (hg:w.grownBy w' v.ownBlock):Kt t w w':=⟨hg.size,fun b cs te fr hb hne=>by
 rw [hg.block b (Array.getElem?_eq_some_iff.1 hb).1 (fun e=>?_)]
 ·exact hb
 ·rcases ho.2 with ⟨rfl,_⟩ | ⟨g,cap,cur,rfl,_,hg',_⟩
  ·cases e
  ·have:g=b:=by simpa [Value.ownBlock] using e.symm
   subst this;rw [hb] at hg'
   injection hg' with hg'
   injection hg' with _ h3 _
   exact hne h3⟩
def BoolsT (w:World) (v:Value) (l:List Bool):Prop:=BoolsV w v l/\RowTy w v 4
def IntsT (w:World) (v:Value) (l:List Int):Prop:=IntsV w v l/\RowTy w v 3
theorem RowTy.kt {v:Value} (h:RowTy w v te) (hk:Kt t w w') (hne:te≠t):RowTy w' v te:=fun a n c e=>by
 obtain ⟨cs,fr,hb⟩:=h a n c e;exact ⟨cs,fr,hk.2 _ _ _ _ hb hne⟩
theorem BoolsT.kt {v:Value} {l:List Bool} (h:BoolsT w v l) (hk:Kt t w w') (hne:4≠t):BoolsT w' v l:=by
 refine ⟨?_,h.2.kt hk hne⟩
 obtain ⟨⟨ao,cap,rfl,h1⟩,h2⟩:=h;refine ⟨ao,cap,rfl,fun hne'=>?_⟩
 obtain ⟨b,off,rfl,hlt,hat⟩:=h1 hne';obtain ⟨cs,fr,hb⟩:=h2 _ _ _ rfl;have hb':=hk.2 _ _ _ _ hb hne;refine ⟨b,off,rfl,Nat.lt_of_lt_of_le hlt hk.1,fun i hi=>?_⟩
 rw [<- hat i hi];exact World.cell?_of_block (hb'.trans hb.symm)
theorem IntsT.kt {v:Value} {l:List Int} (h:IntsT w v l) (hk:Kt t w w') (hne:3≠t):IntsT w' v l:=by
 refine ⟨?_,h.2.kt hk hne⟩
 obtain ⟨⟨ao,cap,rfl,h1⟩,h2⟩:=h;refine ⟨ao,cap,rfl,fun hne'=>?_⟩
 obtain ⟨b,off,rfl,hlt,hat⟩:=h1 hne';obtain ⟨cs,fr,hb⟩:=h2 _ _ _ rfl;have hb':=hk.2 _ _ _ _ hb hne;refine ⟨b,off,rfl,Nat.lt_of_lt_of_le hlt hk.1,fun i hi=>?_⟩
 rw [<- hat i hi];exact World.cell?_of_block (hb'.trans hb.symm)
end
def RwAt (t:TypeId) (w0 wr:World) (vo:Value) (k:Nat) (Pz:Nat->Value->World->Prop):Prop:=∃ us:List Value,us.length=k/\wr.ownsRow w0.heap.size t 1 vo k us/\∀ c,c < k->Pz c (us.getD c .nilIface) wr
section
variable {t : TypeId} {w0 wr w2 w3 : World} {vo vo' v : Value} {k : Nat} {Pz : Nat -> Value -> World -> Prop}
theorem RwAt.nil:RwAt t w0 wr (.slice none 0 0) 0 Pz:=⟨[],rfl,World.ownsRow_nil _ _ _ _,fun c hc=>by omega⟩
theorem RwAt.below (hP:∀ c v w w',Pz c v w->Kt t w w'->Pz c v w') (h:RwAt t w0 wr vo k Pz) (hb:Below wr.heap.size wr w2):RwAt t w0 w2 vo k Pz:=by
 obtain ⟨us,h1,h2,h3⟩:=h;exact ⟨us,h1,owns_later h2 hb (Nat.le_refl _),fun c hc=>hP _ _ _ _ (h3 c hc) (Kt.below hb)⟩
theorem RwAt.step (hP:∀ c v w w',Pz c v w->Kt t w w'->Pz c v w') {us:List Value} (h1:us.length=k) (h2:wr.ownsRow w0.heap.size t 1 vo k us) (h3:∀ c,c < k->Pz c (us.getD c .nilIface) wr) (hv:Pz k v wr) (hg:wr.grownBy w2 vo.ownBlock) (ho:w2.ownsRow w0.heap.size t 1 vo' (k+1) (us++[v])):RwAt t w0 w2 vo' (k+1) Pz:=by
 refine ⟨us++[v],by rw [List.length_append,h1];rfl,ho,fun c hc=>?_⟩
 have hk:=Kt.grown h2 hg
 by_cases hck:c < k
 ·have e:(us++[v]).getD c .nilIface=us.getD c .nilIface:=by simp only [List.getD_eq_getElem?_getD];rw [List.getElem?_append_left (by omega)]
  rw [e];exact hP _ _ _ _ (h3 c hck) hk
 ·obtain rfl:c=k:=by omega
  have e:(us++[v]).getD c .nilIface=v:=by simp only [List.getD_eq_getElem?_getD];rw [List.getElem?_append_right (by omega),h1,Nat.sub_self];rfl
  rw [e];exact hP _ _ _ _ hv hk
theorem RwAt.mono {w1:World} (h:RwAt t w1 wr vo k Pz) (hs:w0.heap.size <= w1.heap.size):RwAt t w0 wr vo k Pz:=by
 obtain ⟨us,h1,h2,h3⟩:=h;exact ⟨us,h1,owns_mono h2 hs,h3⟩
theorem RwAt.get (h:RwAt t w0 wr vo k Pz) {c:Nat} (hc:c < k):∃ b u cap,vo=.slice (some ⟨b,0,none⟩) k cap/\b < wr.heap.size/\wr.cell? ⟨b,c,none⟩=some u/\Pz c u wr:=by
 obtain ⟨us,h1,h2,h3⟩:=h;obtain ⟨b,cap,e,h4,h5⟩:=h2.form (by omega)
 refine ⟨b,us.getD c .nilIface,cap,e,?_,?_,h3 c hc⟩
 ·exact (h2.lt b (by rw [e];rfl)).2
 ·subst e
  have:=h2.cellAt c (by omega)
  rw [this,List.getD_eq_getElem?_getD,List.getElem?_eq_getElem (by omega)]
  rfl
end
def nSt (a b:Vr):Nat:=(vspan a*vspan b).toNat
theorem nSt_is {a b:Vr} (hG:GV a b):(nSt a b:Int)=vspan a*vspan b/\1 <= nSt a b/\nSt a b <= 16:=by
 have hspan:1 <= vspan a*vspan b/\vspan a*vspan b <= 16:=by
  have h1:1 <= vspan a/\vspan a <= 4:=by have:=hG.a2;have:=hG.a3;unfold vspan;omega
  have h2:1 <= vspan b/\vspan b <= 4:=by have:=hG.b2;have:=hG.b3;unfold vspan;omega
  obtain ⟨x1,x2⟩:=h1;obtain ⟨y1,y2⟩:=h2;generalize vspan a=x at *;generalize vspan b=y at *
  rcases (show x=1\/x=2\/x=3\/x=4 by omega) with rfl | rfl | rfl | rfl <;> omega
 unfold nSt;omega
def LtsW (m:Mo) (w0 w:World) (vo:Value) (N:Nat):Prop:=RwAt 39 w0 w vo N (fun c v w=>BoolsT w v (letL m propsL (c:Int)))
def NxsW (m:Mo) (w0 w:World) (vo:Value) (N:Nat):Prop:=RwAt 42 w0 w vo N (fun c v w=>IntsT w v (nextL m (c:Int)))
theorem LtsW.keep {m:Mo} {w0 w w':World} {vo:Value} {N:Nat} (h:LtsW m w0 w vo N) (hb:Below w.heap.size w w'):LtsW m w0 w' vo N:=RwAt.below (fun _ _ _ _ h k=>h.kt k (by decide)) h hb
theorem NxsW.keep {m:Mo} {w0 w w':World} {vo:Value} {N:Nat} (h:NxsW m w0 w vo N) (hb:Below w.heap.size w w'):NxsW m w0 w' vo N:=RwAt.below (fun _ _ _ _ h k=>h.kt k (by decide)) h hb
theorem one_newW (w:World) (x:Value) (t:TypeId):∀ j u,[x][j]? = some u->(w.alloc (.cells #[x] t)).cell? ((⟨w.heap.size,0,none⟩:Addr).add j)=some u:=by
 intro j u hj
 match j,hj with
 | 0,hj=>simp at hj;subst hj;simp [Addr.add,go_sem]
theorem letters_any (ao ro:Option Addr) (ac rn rc:Nat) (a b:Vr) (rules:List Ru) (w:World) (hB:0 < w.heap.size) (hT:TabAt w) (hG:GV a b) (hm:mcode ⟨[a,b],rules⟩=0) (hV:ModelV w (.slice ao 2 ac) (.slice ro rn rc) ⟨[a,b],rules⟩) :
  Calls Tryz.prog 11 #[.agg #[.slice ao 2 ac,.slice ro rn rc]] w fun e w'=>∃ lo lc,e=.returned (.tuple #[.slice lo (nSt a b) lc,.bool true])/\Below w.heap.size w w'/\Hid (LtsW ⟨[a,b],rules⟩ w w' (.slice lo (nSt a b) lc) (nSt a b)):=by
 obtain ⟨hN,hN1,hN16⟩:=nSt_is hG;obtain ⟨W1,hW1⟩:∃ W1,W1=w.alloc (.cells #[.slice ao 2 ac,.slice ro rn rc] 51):=⟨_,rfl⟩
 have hb1:Below w.heap.size w W1:=by rw [hW1];exact (Below.refl _ _).alloc (Nat.le_refl _) _
 have HBx:Hid (∀ w',Below W1.heap.size W1 w'->w'.cell? ⟨w.heap.size,0,none⟩=some (.slice ao 2 ac)/\w'.cell? ⟨w.heap.size,1,none⟩=some (.slice ro rn rc)):=fun w' h=>by
  have hlt:w.heap.size < W1.heap.size:=by rw [hW1];simp
  exact ⟨(h.cell (p:=⟨w.heap.size,0,none⟩) hlt).trans (by rw [hW1];simp [go_sem]),(h.cell (p:=⟨w.heap.size,1,none⟩) hlt).trans (by rw [hW1];simp [go_sem])⟩
 have hcn:Calls Tryz.prog 23 #[.agg #[.slice ao 2 ac,.slice ro rn rc]] W1 fun e w'=>e=.returned (.tuple #[.int .i64 (nSt a b:Int),.int .i64 0])/\Below W1.heap.size W1 w':=by
  have h:=mcount_any _ _ ⟨[a,b],rules⟩ W1 (Nat.lt_of_lt_of_le hB hb1.size) (hT.below hb1 hB) (hV.below hb1);rw [hm,if_pos rfl,show prodTo ([a,b]:List Vr) [a,b].length=vspan a*vspan b from prod_two a b,<- hN] at h
  exact h
 have HLt:Hid (∀ (w':World) (pb k:Nat),Below W1.heap.size W1 w'->k < nSt a b->TermsV w' (.slice (some ⟨pb,0,none⟩) 3 3) propsL->Calls Tryz.prog 24 #[.agg #[.slice ao 2 ac,.slice ro rn rc],.slice (some ⟨pb,0,none⟩) 3 3,.int .i64 (k:Int)] w' fun e w2=>∃ lo lc,e=.returned (.tuple #[.slice lo 3 lc,.int .i64 0])/\Below w'.heap.size w' w2/\Hid (BoolsT w2 (.slice lo 3 lc) (letL ⟨[a,b],rules⟩ propsL (k:Int)))):=fun w' pb k h hk hP=>by
  have hbw:=hb1.trans (h.mono hb1.size);have hk0:tkcode ⟨[a,b],rules⟩ propsL [(11,0)]=0:=(KTaskOk.mk hm rfl ⟨_,FOk.yes⟩ (by decide) (by decide):KTaskOk ⟨[a,b],rules⟩ [(11,0)] 0).code
  obtain ⟨l1,l2⟩:=tk_let hk0 (c:=(k:Int)) ⟨by omega,by show (k:Int) < prodTo [a,b] 2;rw [prod_two];omega⟩
  refine (letter_own _ _ _ ⟨[a,b],rules⟩ propsL (k:Int) w' (Nat.lt_of_lt_of_le hB hbw.size) (hT.below hbw hB) (hV.below hbw) hP).mono fun e w2 ⟨v,e1,h2,h3,h4⟩=>?_
  rw [l1] at e1;have e3:(letL ⟨[a,b],rules⟩ propsL (k:Int)).length=3:=l2;obtain ⟨lo,lc,rfl,_⟩:=id h3;rw [e3] at e1 h3 h4;exact ⟨lo,lc,e1,h2,h3,h4⟩
 have HB1:Hid (Below w.heap.size w W1):=hb1;obtain ⟨i0,hi,hz0,hz1,hz2⟩:=info_parts infoBools;rw [hN.symm] at hN;have HW1:=(show Hid (W1=_) from hW1)
 clear hW1 hV hT hm hN hG hb1;generalize nSt a b=N at *
 go_enter Tryz.func11,Tryz.ntmps11
 go_wp2_with (go_at_call 23;rw [<- HW1.out];refine hcn.mono ?_;rintro e w2 ⟨rfl,hb2⟩)
 have HR0:Hid (RwAt 39 W1 w2 (.slice none 0 0) 0 (fun c v w=>BoolsT w v (letL ⟨[a,b],rules⟩ propsL (c:Int)))/\Below W1.heap.size W1 w2):=⟨RwAt.nil,hb2⟩
 have hw12:w.heap.size <= w2.heap.size:=Nat.le_trans HB1.out.size hb2.size;clear hcn HW1
 go_loopw [6,7] (fun vo i wr=>∃ (k:Nat) (xo:Option Addr) (xc:Nat),k <= N/\vo=.slice xo k xc/\i=.int .i64 (k:Int)/\Hid (RwAt 39 W1 wr (.slice xo k xc) k (fun c v w=>BoolsT w v (letL ⟨[a,b],rules⟩ propsL (c:Int)))/\Below W1.heap.size W1 wr)) (fun _ i _=>N - (intOf i).toNat)
 case atStart=>exact ⟨0,none,0,Nat.zero_le _,rfl,rfl,HR0.out⟩
 case round=>
  obtain ⟨k,xo,xc,hk,rfl,rfl,HR⟩:=hrel
  by_cases hkN:k < N
  ·have hki:(k:Int) < (N:Int):=by omega
   obtain ⟨c0,c1⟩:=HBx.out wr HR.out.2;have hpr:=PropsFn_any wr;have hprd:=PropsFn_any wr.drew
   go_upto_region 6 with fail
   go_cut [8,9] (fun u8 u9 wx=>∃ lo lc,u8=.slice lo 3 lc/\u9=.int .i64 0/\Below wr.heap.size wr wx/\Hid (BoolsT wx (.slice lo 3 lc) (letL ⟨[a,b],rules⟩ propsL (k:Int))))
   case first=>
    have hB0:Below wr.heap.size wr wr:=Below.refl _ _;have hBd:Below wr.heap.size wr wr.drew:=hB0.drew;have HS:Hid (∀ w',Below wr.heap.size wr w'->w'.cell? ⟨w.heap.size,0,none⟩=some (.slice ao 2 ac)/\w'.cell? ⟨w.heap.size,1,none⟩=some (.slice ro rn rc)):=fun w' h=>HBx.out w' (HR.out.2.trans (h.mono HR.out.2.size))
    have HL2:Hid (∀ (w':World) (pb:Nat),Below wr.heap.size wr w'->TermsV w' (.slice (some ⟨pb,0,none⟩) 3 3) propsL->_):=fun w' pb h hP=>HLt.out w' pb k (HR.out.2.trans (h.mono HR.out.2.size)) hkN hP
    go_region_held3 (fun w'=>w'.cell? ⟨w.heap.size,0,none⟩=some (.slice ao 2 ac)/\w'.cell? ⟨w.heap.size,1,none⟩=some (.slice ro rn rc))
     (first | exact HS.out _ hb4 | exact HS.out _ hb3 | exact HS.out _ hBd | exact HS.out _ hB0)
     (first
      | (go_at_call 25;refine hprd.mono ?_;rintro e w3 ⟨pb,rfl,hb3',HP⟩;have hb3:=hBd.trans (hb3'.mono hBd.size);have hle:=HL2.out w3 pb hb3 HP.out)
      | (go_at_call 24;refine hle.mono ?_;rintro e w4 ⟨lo,lc,rfl,hb4',HB4⟩;have hb4:=hb3.trans (hb4'.mono hb3.size)))
    all_goals
     go_wp2_with fail
     go_meet
     exact ⟨lo,lc,rfl,rfl,hb4,HB4⟩
   case rest=>
    obtain ⟨lo,lc,rfl,rfl,hb4,HB4⟩:=hcut;obtain ⟨w4,rfl⟩:∃ w4,w4=wc:=⟨_,rfl⟩
    obtain ⟨us,hu1,hu2,hu3⟩:=LtsW.keep (m:=⟨[a,b],rules⟩) (w0:=W1) HR.out.1 hb4;have hbA:Below w4.heap.size w4 (w4.alloc (.cells #[.slice lo 3 lc] 39)):=(Below.refl _ _).alloc (Nat.le_refl _) _
    have HU:Hid (us.length=k/\w4.ownsRow W1.heap.size 39 1 (.slice xo k xc) k us/\∀ c,c < k->BoolsT w4 (us.getD c .nilIface) (letL ⟨[a,b],rules⟩ propsL (c:Int))):=⟨hu1,hu2,hu3⟩
    have hrow:=hu2.alloc (.cells #[.slice lo 3 lc] 39);have hbs:W1.heap.size <= w4.heap.size+1:=by have:=hb4.size;have:=HR.out.2.size;omega
    have HBw4:Hid (Below W1.heap.size W1 w4):=HR.out.2.trans (hb4.mono HR.out.2.size);clear hu1 hu2 hu3 HR
    go_wp2_with (at_builtin;refine wpList_append_lies _ rfl (.tmp 38) (.tmp 40) 29 rfl W1.heap.size 39 i0 _ 1 24 Tryz.underlying29 hi hz0 hz1 hz2 rfl (by decide) (.slice xo k xc) k us rfl hrow ⟨w4.heap.size,0,none⟩ 1 1 [.slice lo 3 lc] rfl rfl (one_newW _ _ _) (by intro u hu;simp at hu;subst hu;rfl) (by decide) (by unfold maxLen;omega) (by omega) (by simpa using hbs) (w4.heap.size+1) (by simp) ?_;intro g6 cp6 w6 ho6 hg6 hat6 hgl6)
    have hst:RwAt 39 W1 w6 (.slice (some ⟨g6,0,none⟩) (k+1) cp6) (k+1) (fun c v w=>BoolsT w v (letL ⟨[a,b],rules⟩ propsL (c:Int))):=by
     obtain ⟨u1,u2,u3⟩:=HU.out;exact RwAt.step (t:=39) (wr:=w4.alloc (.cells #[.slice lo 3 lc] 39)) (Pz:=fun c v w=>BoolsT w v (letL ⟨[a,b],rules⟩ propsL (c:Int))) (fun _ _ _ _ h k=>h.kt k (by decide)) u1 hrow (fun c hc=>(u3 c hc).kt (Kt.below (t:=39) hbA) (by decide)) (HB4.out.kt (Kt.below (t:=39) hbA) (by decide)) hg6 ho6
    have hb6:Below W1.heap.size W1 w6:=by
     have h1:=HBw4.out.trans (hbA.mono HBw4.out.size);exact h1.grown hg6 h1.size (fun z hz=>(hrow.lt z hz).1)
    have HST:Hid (RwAt 39 W1 w6 (.slice (some ⟨g6,0,none⟩) (k+1) cp6) (k+1) (fun c v w=>BoolsT w v (letL ⟨[a,b],rules⟩ propsL (c:Int)))/\Below W1.heap.size W1 w6):=⟨hst,hb6⟩
    go_wp2_with fail
    go_roundw
    case rel=>exact ⟨k+1,_,_,by omega,by go_num,by go_num,HST⟩
    case measure=>simp [intOf];omega
  ·obtain rfl:k=N:=by omega
   have hk1:(0:Int) < (k:Int):=by omega
   go_wp2_with fail
   refine bodyPost_ret (v:=.tuple #[.slice xo k xc,.bool true]) ?_ rfl ⟨xo,xc,rfl,HB1.out.trans (HR.out.2.mono HB1.out.size),RwAt.mono HR.out.1 HB1.out.size⟩
   simp [results,Tryz.results11,go_sem]
   omega
theorem infoIntsL:(Tryz.prog.info? 42).map (fun i=>(i.zero,i.size,i.bytes))=some (some (.slice none 0 0),1,24):=by kernel_rfl
theorem nexts_any (ao ro:Option Addr) (ac rn rc:Nat) (a b:Vr) (rules:List Ru) (w:World) (hB:0 < w.heap.size) (hT:TabAt w) (hG:GV a b) (hm:mcode ⟨[a,b],rules⟩=0) (hV:ModelV w (.slice ao 2 ac) (.slice ro rn rc) ⟨[a,b],rules⟩) :
  Calls Tryz.prog 12 #[.agg #[.slice ao 2 ac,.slice ro rn rc]] w fun e w'=>∃ lo lc,e=.returned (.tuple #[.slice lo (nSt a b) lc,.bool true])/\Below w.heap.size w w'/\Hid (NxsW ⟨[a,b],rules⟩ w w' (.slice lo (nSt a b) lc) (nSt a b)):=by
 obtain ⟨hN,hN1,hN16⟩:=nSt_is hG;obtain ⟨W1,hW1⟩:∃ W1,W1=w.alloc (.cells #[.slice ao 2 ac,.slice ro rn rc] 51):=⟨_,rfl⟩
 have hb1:Below w.heap.size w W1:=by rw [hW1];exact (Below.refl _ _).alloc (Nat.le_refl _) _
 have HBx:Hid (∀ w',Below W1.heap.size W1 w'->w'.cell? ⟨w.heap.size,0,none⟩=some (.slice ao 2 ac)/\w'.cell? ⟨w.heap.size,1,none⟩=some (.slice ro rn rc)):=fun w' h=>by
  have hlt:w.heap.size < W1.heap.size:=by rw [hW1];simp
  exact ⟨(h.cell (p:=⟨w.heap.size,0,none⟩) hlt).trans (by rw [hW1];simp [go_sem]),(h.cell (p:=⟨w.heap.size,1,none⟩) hlt).trans (by rw [hW1];simp [go_sem])⟩
 have hcn:Calls Tryz.prog 23 #[.agg #[.slice ao 2 ac,.slice ro rn rc]] W1 fun e w'=>e=.returned (.tuple #[.int .i64 (nSt a b:Int),.int .i64 0])/\Below W1.heap.size W1 w':=by
  have h:=mcount_any _ _ ⟨[a,b],rules⟩ W1 (Nat.lt_of_lt_of_le hB hb1.size) (hT.below hb1 hB) (hV.below hb1);rw [hm,if_pos rfl,show prodTo ([a,b]:List Vr) [a,b].length=vspan a*vspan b from prod_two a b,<- hN] at h
  exact h
 have HNx:Hid (∀ (w':World) (k:Nat),Below W1.heap.size W1 w'->k < nSt a b->Calls Tryz.prog 26 #[.agg #[.slice ao 2 ac,.slice ro rn rc],.int .i64 (k:Int)] w' fun e w2=>∃ lo ln lc,e=.returned (.tuple #[.slice lo ln lc,.int .i64 0])/\Below w'.heap.size w' w2/\0 < ln/\Hid (IntsT w2 (.slice lo ln lc) (nextL ⟨[a,b],rules⟩ (k:Int)))):=fun w' k h hk=>by
  have hbw:=hb1.trans (h.mono hb1.size);have hw0:wcode ⟨[a,b],rules⟩ (k:Int)=0:=wcode_yes hm ⟨by omega,by show (k:Int) < prodTo [a,b] 2;rw [prod_two];omega⟩
  have hnx:nxtL ⟨[a,b],rules⟩ (k:Int)=nextL ⟨[a,b],rules⟩ (k:Int):=by unfold nxtL;rw [if_pos hw0]
  refine (next_own _ _ ⟨[a,b],rules⟩ (k:Int) w' (Nat.lt_of_lt_of_le hB hbw.size) (hT.below hbw hB) (hV.below hbw) hm).mono fun e w2 ⟨v,e1,h2,h3⟩=>?_
  rw [hw0] at e1;rw [hnx] at h3;have hiv:=intsV_of_owns h3;obtain ⟨lo,lc,rfl⟩:=owns_slice h3;refine ⟨lo,_,lc,e1,h2,List.length_pos_iff.2 (nextL_pos _),hiv,fun a' n' c' e=>?_⟩
  rcases h3.2 with ⟨h4,_⟩ | ⟨g,cap,cur,h4,_,hg,_⟩
  ·rw [h4] at e;simp at e
  ·rw [h4] at e
   injection e with e1 _ _
   injection e1 with e1
   subst e1;exact ⟨_,_,hg⟩
 have HB1:Hid (Below w.heap.size w W1):=hb1;obtain ⟨i0,hi,hz0,hz1,hz2⟩:=info_parts infoIntsL;have HW1:=(show Hid (W1=_) from hW1)
 clear hW1 hV hT hm hN hG hb1;generalize nSt a b=N at *
 go_enter Tryz.func12,Tryz.ntmps12
 go_wp2_with (go_at_call 23;rw [<- HW1.out];refine hcn.mono ?_;rintro e w2 ⟨rfl,hb2⟩)
 have HR0:Hid (RwAt 42 W1 w2 (.slice none 0 0) 0 (fun c v w=>IntsT w v (nextL ⟨[a,b],rules⟩ (c:Int)))/\Below W1.heap.size W1 w2):=⟨RwAt.nil,hb2⟩
 clear hcn HW1
 go_loopw [6,7] (fun vo i wr=>∃ (k:Nat) (xo:Option Addr) (xc:Nat),k <= N/\vo=.slice xo k xc/\i=.int .i64 (k:Int)/\Hid (RwAt 42 W1 wr (.slice xo k xc) k (fun c v w=>IntsT w v (nextL ⟨[a,b],rules⟩ (c:Int)))/\Below W1.heap.size W1 wr)) (fun _ i _=>N - (intOf i).toNat)
 case atStart=>exact ⟨0,none,0,Nat.zero_le _,rfl,rfl,HR0.out⟩
 case round=>
  obtain ⟨k,xo,xc,hk,rfl,rfl,HR⟩:=hrel
  by_cases hkN:k < N
  ·have hki:(k:Int) < (N:Int):=by omega
   obtain ⟨c0,c1⟩:=HBx.out wr HR.out.2;have hnx:=HNx.out wr k HR.out.2 hkN
   go_upto_region 9 with (go_at_call 26;refine hnx.mono ?_;rintro e w4 ⟨lo,ln,lc,rfl,hb4,hln,HB4⟩;have hlni:¬ (ln:Int)=0:=(by omega);have hlnn:¬ ln=0:=(by omega))
   obtain ⟨us,hu1,hu2,hu3⟩:=NxsW.keep (m:=⟨[a,b],rules⟩) (w0:=W1) HR.out.1 hb4;have hbA:Below w4.heap.size w4 (w4.alloc (.cells #[.slice lo ln lc] 42)):=(Below.refl _ _).alloc (Nat.le_refl _) _;have HU:Hid (us.length=k/\w4.ownsRow W1.heap.size 42 1 (.slice xo k xc) k us/\∀ c,c < k->IntsT w4 (us.getD c .nilIface) (nextL ⟨[a,b],rules⟩ (c:Int))):=⟨hu1,hu2,hu3⟩
   have hrow:=hu2.alloc (.cells #[.slice lo ln lc] 42);have hbs:W1.heap.size <= w4.heap.size+1:=by have:=hb4.size;have:=HR.out.2.size;omega
   have HBw4:Hid (Below W1.heap.size W1 w4):=HR.out.2.trans (hb4.mono HR.out.2.size);clear hu1 hu2 hu3 HR hnx c0 c1
   go_wp2_with (at_builtin;refine wpList_append_lies _ rfl (.tmp 37) (.tmp 39) 30 rfl W1.heap.size 42 i0 _ 1 24 Tryz.underlying30 hi hz0 hz1 hz2 rfl (by decide) (.slice xo k xc) k us rfl hrow ⟨w4.heap.size,0,none⟩ 1 1 [.slice lo ln lc] rfl rfl (one_newW _ _ _) (by intro u hu;simp at hu;subst hu;rfl) (by decide) (by unfold maxLen;omega) (by omega) (by simpa using hbs) (w4.heap.size+1) (by simp) ?_;intro g6 cp6 w6 ho6 hg6 hat6 hgl6)
   have hst:RwAt 42 W1 w6 (.slice (some ⟨g6,0,none⟩) (k+1) cp6) (k+1) (fun c v w=>IntsT w v (nextL ⟨[a,b],rules⟩ (c:Int))):=by
    obtain ⟨u1,u2,u3⟩:=HU.out;exact RwAt.step (t:=42) (wr:=w4.alloc (.cells #[.slice lo ln lc] 42)) (Pz:=fun c v w=>IntsT w v (nextL ⟨[a,b],rules⟩ (c:Int))) (fun _ _ _ _ h k=>h.kt k (by decide)) u1 hrow (fun c hc=>(u3 c hc).kt (Kt.below (t:=42) hbA) (by decide)) (HB4.out.kt (Kt.below (t:=42) hbA) (by decide)) hg6 ho6
   have hb6:Below W1.heap.size W1 w6:=by
    have h1:=HBw4.out.trans (hbA.mono HBw4.out.size);exact h1.grown hg6 h1.size (fun z hz=>(hrow.lt z hz).1)
   have HST:Hid (RwAt 42 W1 w6 (.slice (some ⟨g6,0,none⟩) (k+1) cp6) (k+1) (fun c v w=>IntsT w v (nextL ⟨[a,b],rules⟩ (c:Int)))/\Below W1.heap.size W1 w6):=⟨hst,hb6⟩
   go_wp2_with fail
   go_roundw
   case rel=>exact ⟨k+1,_,_,by omega,by go_num,by go_num,HST⟩
   case measure=>simp [intOf];omega
  ·obtain rfl:k=N:=by omega
   have hk1:(0:Int) < (k:Int):=by omega
   go_wp2_with fail
   refine bodyPost_ret (v:=.tuple #[.slice xo k xc,.bool true]) ?_ rfl ⟨xo,xc,rfl,HB1.out.trans (HR.out.2.mono HB1.out.size),RwAt.mono HR.out.1 HB1.out.size⟩
   simp [results,Tryz.results12,go_sem]
   omega
def WdOk (w:World) (m:Mo) (N:Nat) (e:Ending) (w':World):Prop:=∃ lo lc no nc,e=.returned (.tuple #[.slice lo N lc,.slice no N nc,.int .i64 (begC m),.bool true])/\Below w.heap.size w w'/\Hid (LtsW m w w' (.slice lo N lc) N/\NxsW m w w' (.slice no N nc) N)
theorem world_any (c0 c1 c2 c3 c4 c5 c6:Value) (a b:Vr) (rules:List Ru) (w:World) (hB:0 < w.heap.size) (hT:TabAt w) (hG:GV a b) (hM:MdOk w c0 c1 c2 c3 c4 c5 c6 ⟨[a,b],rules⟩) :
  Calls Tryz.prog 5 #[.agg #[c0,c1,c2,c3,c4,c5,c6]] w (WdOk w ⟨[a,b],rules⟩ (nSt a b)):=by
 unfold WdOk;obtain ⟨hN,hN1,hN16⟩:=nSt_is hG;have hA1:Below w.heap.size w (w.alloc (.cells #[c0,c1,c2,c3,c4,c5,c6] 25)):=(Below.refl _ _).alloc (Nat.le_refl _) _;have hmo:=hM _ hA1
 have HLe:Hid (∀ (w':World) (ao ro:Option Addr) (ac rn rc:Nat),Below w.heap.size w w'->mcode ⟨[a,b],rules⟩=0->ModelV w' (.slice ao 2 ac) (.slice ro rn rc) ⟨[a,b],rules⟩->_):=fun w' ao ro ac rn rc h hm hv=>letters_any ao ro ac rn rc a b rules w' (Nat.lt_of_lt_of_le hB h.size) (hT.below h hB) hG hm hv
 have HNe:Hid (∀ (w':World) (ao ro:Option Addr) (ac rn rc:Nat),Below w.heap.size w w'->mcode ⟨[a,b],rules⟩=0->ModelV w' (.slice ao 2 ac) (.slice ro rn rc) ⟨[a,b],rules⟩->_):=fun w' ao ro ac rn rc h hm hv=>nexts_any ao ro ac rn rc a b rules w' (Nat.lt_of_lt_of_le hB h.size) (hT.below h hB) hG hm hv
 have HFi:Hid (∀ (w':World) (ao ro:Option Addr) (ac rn rc:Nat),Below w.heap.size w w'->mcode ⟨[a,b],rules⟩=0->ModelV w' (.slice ao 2 ac) (.slice ro rn rc) ⟨[a,b],rules⟩->Calls Tryz.prog 13 #[.agg #[.slice ao 2 ac,.slice ro rn rc]] w' fun e w2=>e=.returned (.tuple #[.int .i64 (begC ⟨[a,b],rules⟩),.int .i64 0])/\Below w'.heap.size w' w2):=fun w' ao ro ac rn rc h hm hv=>by
  have h1:=mfirst_any _ _ ⟨[a,b],rules⟩ w' (Nat.lt_of_lt_of_le hB h.size) (hT.below h hB) hv;rw [hm,if_pos rfl] at h1;exact h1
 have hbeg:∀ (_:mcode ⟨[a,b],rules⟩=0),0 <= begC ⟨[a,b],rules⟩/\begC ⟨[a,b],rules⟩ < (nSt a b:Int):=fun hm=>by
  have hk0:tkcode ⟨[a,b],rules⟩ propsL [(11,0)]=0:=(KTaskOk.mk hm rfl ⟨_,FOk.yes⟩ (by decide) (by decide):KTaskOk ⟨[a,b],rules⟩ [(11,0)] 0).code
  have h:=tk_beg hk0;rw [show prodTo ([a,b]:List Vr) [a,b].length=vspan a*vspan b from prod_two a b,<- hN] at h
  exact h
 have HBg:=(show Hid _ from hbeg)
 clear hM hT hG hbeg hN;generalize begC ⟨[a,b],rules⟩=bc at *;generalize nSt a b=N at *
 go_enter Tryz.func5,Tryz.ntmps5
 go_upto_region 2 with (go_at_call 10;refine hmo.mono ?_;rintro e w1 ⟨ao,ac,ro,rn,rc,rfl,hb1,HM⟩)
 obtain ⟨m1,hm,_⟩:=HM.out;have hbA:Below w1.heap.size w1 (w1.alloc (.cells #[.slice ao 2 ac,.slice ro rn rc] 51)):=(Below.refl _ _).alloc (Nat.le_refl _) _;have hbw1:=hA1.trans (hb1.mono hA1.size);have hbw2:=hbw1.trans (hbA.mono hbw1.size)
 have HM2:Hid (ModelV (w1.alloc (.cells #[.slice ao 2 ac,.slice ro rn rc] 51)) (.slice ao 2 ac) (.slice ro rn rc) ⟨[a,b],rules⟩):=m1.below hbA
 have HC:Hid (∀ w',Below (w1.alloc (.cells #[.slice ao 2 ac,.slice ro rn rc] 51)).heap.size (w1.alloc (.cells #[.slice ao 2 ac,.slice ro rn rc] 51)) w'->w'.cell? ⟨w1.heap.size,0,none⟩=some (.slice ao 2 ac)/\w'.cell? ⟨w1.heap.size,1,none⟩=some (.slice ro rn rc)):=fun w' h=>⟨(h.cell (p:=⟨w1.heap.size,0,none⟩) (by simp)).trans (by simp [go_sem]),(h.cell (p:=⟨w1.heap.size,1,none⟩) (by simp)).trans (by simp [go_sem])⟩
 obtain ⟨g0,g1⟩:=HBg.out hm;have HMc:Hid (mcode ⟨[a,b],rules⟩=0):=hm;generalize w1.alloc (.cells #[.slice ao 2 ac,.slice ro rn rc] 51)=W2 at *;generalize w1.heap.size=X at *;obtain ⟨x0,x1⟩:=HC.out W2 (Below.refl _ _);have hle:=HLe.out W2 ao ro ac rn rc hbw2 hm HM2.out;clear hm m1 HM hmo
 go_upto_region 3 with (go_at_call 11;refine hle.mono ?_;rintro e w3 ⟨lo,lc,rfl,hb3,HL3⟩)
 have hbw3:=hbw2.trans (hb3.mono hbw2.size);obtain ⟨y0,y1⟩:=HC.out w3 hb3;have hne:=HNe.out w3 ao ro ac rn rc hbw3 HMc.out (HM2.out.below hb3);clear hle x0 x1
 go_upto_region 4 with (go_at_call 12;refine hne.mono ?_;rintro e w4 ⟨no,nc,rfl,hb4,HN4⟩)
 have hb24:=hb3.trans (hb4.mono hb3.size);have hbw4:=hbw2.trans (hb24.mono hbw2.size);obtain ⟨z0,z1⟩:=HC.out w4 hb24;have hfi:=HFi.out w4 ao ro ac rn rc hbw4 HMc.out (HM2.out.below hb24);clear hne y0 y1;have g2:¬ bc < 0:=by omega
 go_wp2_with (go_at_call 13;refine hfi.mono ?_;rintro e w5 ⟨rfl,hb5⟩)
 refine bodyPost_ret (v:=.tuple #[.slice lo N lc,.slice no N nc,.int .i64 bc,.bool true]) ?_ rfl ⟨lo,lc,no,nc,rfl,hbw4.trans (hb5.mono hbw4.size),RwAt.mono ((LtsW.keep (LtsW.keep HL3.out hb4) hb5)) hbw2.size,RwAt.mono (NxsW.keep HN4.out hb5) hbw3.size⟩
 simp [results,Tryz.results5,go_sem]
theorem LtsW.cells {m:Mo} {w0 w:World} {lo:Option Addr} {lc N:Nat} (h:LtsW m w0 w (.slice lo N lc) N) (hN:1 <= N) (hl:∀ c:Nat,c < N->(letL m propsL (c:Int)).length=3):∃ lb,lo=some ⟨lb,0,none⟩/\∀ w',Below w.heap.size w w'->∀ c,c < N->∃ ub uoff uc,w'.cell? ⟨lb,c,none⟩=some (.slice (some ⟨ub,uoff,none⟩) 3 uc)/\∀ q,q < 3->w'.cell? ⟨ub,uoff+q,none⟩=some (.bool ((letL m propsL (c:Int)).getD q false)):=by
 obtain ⟨lb,u,cap,e,_,_,_⟩:=RwAt.get h (c:=0) (by omega)
 injection e with e1 e2 e3
 subst e1;refine ⟨lb,rfl,fun w' hb c hc=>?_⟩
 obtain ⟨lb2,u2,cap2,e,_,h2,h3⟩:=RwAt.get (LtsW.keep h hb) hc
 injection e with e1 e2 e3
 injection e1 with e1
 injection e1 with e1
 subst e1;obtain ⟨⟨uo,uc,rfl,h4⟩,_⟩:=h3;have hl3:=hl c hc;obtain ⟨ub,uoff,rfl,_,h5⟩:=h4 (fun e=>by rw [e] at hl3;exact absurd hl3 (by decide))
 rw [hl3] at h2;exact ⟨ub,uoff,uc,h2,fun q hq=>h5 q (by rw [hl3];exact hq)⟩
section
variable {m : Mo} {ps : List (List (Int × Int))} {l : List (Int × Int)} {K : Nat}
end
section
variable {m : Mo} {ps : List (List (Int × Int))} {l : List (Int × Int)} {K : Nat}
theorem rise_nodup:∀ {x:List Int},Rise x->x.Nodup:=fun h=>List.Pairwise.imp (fun hab e=>by omega) h
end
section
variable {o : Oper} {a : Act} {w : World} {Q : Exit -> Act -> World -> Prop} {m : Mo}
end
theorem NxsW.cells {m:Mo} {w0 w:World} {no:Option Addr} {nc N:Nat} (h:NxsW m w0 w (.slice no N nc) N) (hN:1 <= N):∃ nb,no=some ⟨nb,0,none⟩/\NxV w nb N (nextL m):=by
 obtain ⟨nb,u,cap,e,_,_,_⟩:=RwAt.get h (c:=0) (by omega)
 injection e with e1 e2 e3
 subst e1;refine ⟨nb,rfl,fun c hc=>?_⟩
 obtain ⟨nb2,u2,cap2,e,_,h2,h3⟩:=RwAt.get h hc
 injection e with e1 e2 e3
 injection e1 with e1
 injection e1 with e1
 subst e1;obtain ⟨⟨uo,uc,rfl,h4⟩,_⟩:=h3;obtain ⟨ub,uoff,rfl,_,h5⟩:=h4 (nextL_pos _);exact ⟨ub,uoff,uc,h2,fun q hq=>h5 q hq⟩
structure WdF (m:Mo) (N:Nat):Prop where
 one:1 <= N
 few:N <= 16
 rng:∀ (x:Nat) (y:Int),x < N->y∈nextL m (x:Int)->0 <= y/\y < (N:Int)
 len:∀ x:Nat,x < N->(nextL m (x:Int)).length <= 5000
 three:∀ c:Nat,c < N->(letL m propsL (c:Int)).length=3
 beg:∃ b:Nat,begC m=(b:Int)/\b < N
theorem wdF {a b:Vr} {rules:List Ru} (hm:mcode ⟨[a,b],rules⟩=0) (hG:GV a b):WdF ⟨[a,b],rules⟩ (nSt a b):=by
 have hk0:tkcode ⟨[a,b],rules⟩ propsL [(11,0)]=0:=(KTaskOk.mk hm rfl ⟨_,FOk.yes⟩ (by decide) (by decide):KTaskOk ⟨[a,b],rules⟩ [(11,0)] 0).code
 obtain ⟨hN,h1,h16⟩:=nSt_is hG;have hin:∀ x:Nat,x < nSt a b->0 <= (x:Int)/\(x:Int) < prodTo [a,b] 2:=fun x hx=>⟨by omega,by rw [prod_two];omega⟩
 have hrg:∀ (x:Nat) (y:Int),x < nSt a b->y∈nextL ⟨[a,b],rules⟩ (x:Int)->0 <= y/\y < ((nSt a b:Nat):Int):=fun x y hx hy=>by
  have:=nextL_in hm (hin x hx) hy;rw [show prodTo (⟨[a,b],rules⟩:Mo).vars (⟨[a,b],rules⟩:Mo).vars.length=vspan a*vspan b from prod_two a b,<- hN] at this
  exact this
 refine ⟨h1,h16,hrg,fun x hx=>?_,fun c hc=>(tk_let hk0 (c:=(c:Int)) (hin c hc)).2,?_⟩
 ·have:=nodup_length (N:=nSt a b) (l:=nextL ⟨[a,b],rules⟩ (x:Int)) (rise_nodup (upL_spec _).1) (fun y hy=>hrg x y hx hy)
  omega
 ·have h:=tk_beg hk0
  have h2:0 <= begC ⟨[a,b],rules⟩/\begC ⟨[a,b],rules⟩ < prodTo [a,b] 2:=h;rw [prod_two,<- hN] at h2;exact ⟨(begC ⟨[a,b],rules⟩).toNat,by omega,by omega⟩
noncomputable def ltB (m:Mo) (c q:Nat):Bool:=(letL m propsL (c:Int)).getD q false
theorem wd_rows {m:Mo} {N:Nat} (hf:WdF m N) {w0 w:World} {lo no:Option Addr} {lc nc:Nat} (h:LtsW m w0 w (.slice lo N lc) N/\NxsW m w0 w (.slice no N nc) N):∃ lb nb,lo=some ⟨lb,0,none⟩/\no=some ⟨nb,0,none⟩/\LtV w lb N (ltB m)/\NxV w nb N (nextL m):=by
 obtain ⟨lb,e1,h1⟩:=LtsW.cells h.1 hf.one hf.three;obtain ⟨nb,e2,h2⟩:=NxsW.cells h.2 hf.one;exact ⟨lb,nb,e1,e2,h1 w (Below.refl _ _),h2⟩
section
variable {m : Mo} {b : Bool} {x y u z : Int}
end
theorem letters_one {w W:World} {g ub uf uc:Nat} {x:List Bool} (hx:x.length=3) (hd:∀ q,q < 3->w.cell? ⟨ub,uf+q,none⟩=some (.bool (x.getD q false))) (hb:Below w.heap.size w W) (hg:W.cell? ⟨g,0,none⟩=some (.slice (some ⟨ub,uf,none⟩) 3 uc)):LettersV W (.slice (some ⟨g,0,none⟩) 1 1) [x]:=by
 have hub:ub < w.heap.size:=World.block_lt_of_cell? w ⟨ub,uf+0,none⟩ (hd 0 (by decide))
 refine ⟨[.slice (some ⟨ub,uf,none⟩) 3 uc],some ⟨g,0,none⟩,1,rfl,(fun h=>nomatch h),⟨rfl,fun i hi=>?_⟩,fun _=>⟨g,0,rfl,World.block_lt_of_cell? W ⟨g,0,none⟩ hg,fun i hi=>?_⟩⟩
 ·obtain rfl:i=0:=by simp at hi;exact hi
  refine ⟨some ⟨ub,uf,none⟩,uc,by rw [show ([x]:List (List Bool)).getD 0 []=x from rfl,hx];rfl,fun _=>⟨ub,uf,rfl,Nat.lt_of_lt_of_le hub hb.size,fun q hq=>?_⟩⟩
  have hq3:q < 3:=by rw [show ([x]:List (List Bool)).getD 0 []=x from rfl,hx] at hq;exact hq
  exact (hb.cell (p:=⟨ub,uf+q,none⟩) hub).trans (hd q hq3)
 ·obtain rfl:i=0:=by simp at hi;exact hi
  exact hg
theorem holds_one (fv lv:Value) (l:List (Int × Int)) (T:Tm) (mm:Nat) (x:List Bool) (w:World) (hB:0 < w.heap.size) (hT:TabAt w) (hO:OpsV w fv l) (hF:FOk mm l T) (hl:l.length <= 59) (hmm:mm <= 6) (hx:x.length=3) (hL:LettersV w lv [x]) :
  Calls Tryz.prog 8 #[fv,.agg #[.slice none 0 0,lv],.int .i64 3] w fun e w'=>e=.returned (.tuple #[.bool (T.hb (sig [x] 0) 0),.int .i64 0])/\Below w.heap.size w w':=by
 have hS:LettersV w (.slice none 0 0) []:=⟨[],none,0,rfl,fun _=>⟨rfl,rfl⟩,LetsU.nil w,fun h=>absurd rfl h⟩
 refine holds_ok fv (.slice none 0 0) lv l [] [x] 3 T w hB hT hO hS hL ?_ hF.wf hF.ops
 unfold mocode;rw [if_neg (by rw [hF.code (by omega) hmm];simp)]
 refine wdcode_ok (by decide) (by simp) ?_
 unfold letBad;simp [hx]
theorem topNow_walk (c0 c1 c2 c3 c4 c5 c6:Value) (a b:Vr) (rules:List Ru) (rawv:Value) (rs:List (Int × Int)) (w:World) (hB:0 < w.heap.size) (hT:TabAt w) (hG:GV a b) (hR:Raws w w.heap.size rawv rs)
  (hmd:∀ w',Below w.heap.size w w'->Calls Tryz.prog 10 #[.agg #[c0,c1,c2,c3,c4,c5,c6]] w' fun e w2=>∃ va vr,e=.returned (.agg #[va,vr])/\Below w'.heap.size w' w2/\GModelR w2 va vr [a,b] rules) :
  Calls Tryz.prog 3 #[.agg #[c0,c1,c2,c3,c4,c5,c6],rawv] w fun e w'=>e=.returned (.bool true)/\Below w.heap.size w w':=by
 have hA1:Below w.heap.size w (w.alloc (.cells #[c0,c1,c2,c3,c4,c5,c6] 25)):=(Below.refl _ _).alloc (Nat.le_refl _) _
 have HD0:Hid (DBox (w.alloc (.cells #[c0,c1,c2,c3,c4,c5,c6] 25)) w.heap.size c0 c1 c2 c3 c4 c5 c6):=by
  show DBox _ _ _ _ _ _ _ _ _
  refine ⟨?_,?_,?_,?_,?_,?_,?_⟩ <;> simp [go_sem]
 have hM:MdOk w c0 c1 c2 c3 c4 c5 c6 ⟨[a,b],rules⟩:=mdOk hG hmd;have HH:Hid (HoldsOk w c0 c1 c2 c3 c4 c5 c6 ⟨[a,b],rules⟩):=holdsOk hB hT hG hmd;have hfo:=tform_any rawv rs 0 _ (by decide) (hR.up hA1)
 have HWd:Hid (∀ w',Below w.heap.size w w'->Calls Tryz.prog 5 #[.agg #[c0,c1,c2,c3,c4,c5,c6]] w' (WdOk w' ⟨[a,b],rules⟩ (nSt a b))):=fun w' h=>world_any c0 c1 c2 c3 c4 c5 c6 a b rules w' (Nat.lt_of_lt_of_le hB h.size) (hT.below h hB) hG (fun w2 h2=>hM w2 (h.trans (h2.mono h.size)))
 have HF:Hid (mcode ⟨[a,b],rules⟩=0->WdF ⟨[a,b],rules⟩ (nSt a b)):=fun hm=>wdF hm hG
 have HO:Hid (∀ (w':World) (fv lv:Value) (l:List (Int × Int)) (T:Tm) (mm:Nat) (x:List Bool),Below w.heap.size w w'->OpsV w' fv l->FOk mm l T->l.length <= 59->mm <= 6->x.length=3->LettersV w' lv [x]->Calls Tryz.prog 8 #[fv,.agg #[.slice none 0 0,lv],.int .i64 3] w' fun e w2=>e=.returned (.tuple #[.bool (T.hb (sig [x] 0) 0),.int .i64 0])/\Below w'.heap.size w' w2):=fun w' fv lv l T mm x h hO hF hl hmm hx hL=>holds_one fv lv l T mm x w' (Nat.lt_of_lt_of_le hB h.size) (hT.below h hB) hO hF hl hmm hx hL
 obtain ⟨ra,rn0,rc0,hra⟩:∃ a n c,rawv=.slice a n c:=by obtain ⟨⟨a,c,h,_⟩,_,_⟩:=hR;exact ⟨_,_,_,h⟩
 subst hra;clear hmd hM hT hG hR;generalize nSt a b=N at *
 go_enter Tryz.func3,Tryz.ntmps3
 go_upto_region 2 with (first | (go_at_call 4;refine hfo.mono ?_;rintro e w2 ⟨fo,fn,fc,x,T,k,rfl,hb2,HT⟩))
 have hbw2:=hA1.trans (hb2.mono hA1.size);have hwd:=HWd.out w2 hbw2;obtain ⟨q0,q1,q2,q3,q4,q5,q6⟩:=HD0.out.below hb2;clear hfo
 go_upto_region 3 with (first | (go_at_call 5;refine hwd.mono ?_;rintro e w3 ⟨lo,lc,no,nc,rfl,hb3,HW⟩))
 have hbw3:=hbw2.trans (hb3.mono hbw2.size);have hho:=HH.out w3 _ x T k hbw3 (HT.out.v.below hb3) HT.out.ok (by have:=HT.out.len;omega) (by have:=HT.out.many;omega)
 clear q0 q1 q2 q3 q4 q5 q6;obtain ⟨q0,q1,q2,q3,q4,q5,q6⟩:=HD0.out.below (hb2.trans (hb3.mono hb2.size));clear hwd
 go_upto_region 4 with (first | (go_at_call 6;refine hho.mono ?_;rintro e w4 ⟨ba,rfl,hb4,HKp⟩))
 have hbwX:=hbw3.trans (hb4.mono hbw3.size);have Kx:Hid (TFor w4 (.slice fo fn fc) 0 x T k):=(HT.out.below hb3).below hb4;have hDx:∀ w',Below w4.heap.size w4 w'->DBox w' w.heap.size c0 c1 c2 c3 c4 c5 c6:=fun w' hb=>(HD0.out.below (hb2.trans (hb3.mono hb2.size))).below (hb4.trans (hb.mono hb4.size))
 have hVx:∀ w',Below w4.heap.size w4 w'->OpsV w' (.slice fo fn fc) x:=fun w' hb=>Kx.out.v.below hb
 clear q0 q1 q2 q3 q4 q5 q6 hho
 go_cut [12,13] (fun u v wx=>∃ b1:Bool,u=.bool b1/\v=.bool true/\Hid (Kp ⟨[a,b],rules⟩ (Tm.un 14 0 T) b1/\Below w4.heap.size w4 wx))
 case first=>
  rename_i J K' hJ hK';generalize ha0:Act.mk _ _=a0;have hsz:a0.tmps.size=108:=by rw [<- ha0];rfl
  have aD:a0.eval (.tmp 2)=.pointer (some ⟨w.heap.size,0,none⟩):=by rw [<- ha0];rfl
  have aF:a0.eval (.tmp 5)=.slice fo fn fc:=by rw [<- ha0];rfl
  refine wp_anyway (by rfl) [36,37,38,39,40,35,41,42,12,13] 9 (FdP ⟨[a,b],rules⟩ [.same (.agg #[c0,c1,c2,c3,c4,c5,c6]),.same (.slice fo fn fc),.one x,.ops (((14:Int),(0:Int)):: x),.held (Tm.un 14 0 T),.held (Tm.un 14 0 T),.bit (Tm.un 14 0 T),.yes,.bit (Tm.un 14 0 T)]) (by rw [hsz];rfl) (FdP_stable _ _ _) ?_ ?_
  ·intro i o hi ho q w' hb hq
   have f:∀ t,[36,37,38,39,40,35,41,42,12,13].contains t=true->t < 108->(frm a0 [36,37,38,39,40,35,41,42,12,13] q).eval (.tmp t)=q t:=fun t h1 h2=>frm_in h1 (by rw [hsz];exact h2)
   have hc:i=0\/i=1\/i=2\/i=3\/i=4\/i=5\/i=6\/i=7\/i=8:=by omega
   rcases hc with rfl | rfl | rfl | rfl | rfl | rfl | rfl | rfl | rfl
   all_goals obtain rfl:=Option.some.inj ho
   ·exact st_load7 rfl ((frm_out rfl).trans aD) (hDx w' hb)
   ·exact st_move rfl ((frm_out rfl).trans aF)
   ·exact st_one rfl ((f 37 rfl (by decide)).trans (hq 1 37 rfl rfl)) (hVx w' hb)
   ·exact st_J1 rfl (by rw [(f 38 rfl (by decide))];exact (hq 2 38 rfl rfl)) (by have:=Kx.out.len;omega) Kx.out.ne
   ·exact st_holds rfl HH.out (hbwX.trans (hb.mono hbwX.size)) ((f 36 rfl (by decide)).trans (hq 0 36 rfl rfl)) (by rw [(f 39 rfl (by decide))];exact (hq 3 39 rfl rfl)) (FOk.tun (k:=14) (by decide) Kx.out.ok) (by have:=Kx.out.len;simp;omega) (by have:=Kx.out.many;omega)
   ·exact st_mvh rfl (by rw [(f 40 rfl (by decide))];exact (hq 4 40 rfl rfl))
   ·exact st_ex0 rfl (by rw [(f 35 rfl (by decide))];exact (hq 5 35 rfl rfl))
   ·exact st_ex1 rfl (by rw [(f 35 rfl (by decide))];exact (hq 5 35 rfl rfl))
   ·exact st_asb rfl (by rw [(f 41 rfl (by decide))];exact (hq 6 41 rfl rfl))
  ·intro q w' hb hq
   have f:∀ t,[36,37,38,39,40,35,41,42,12,13].contains t=true->t < 108->(frm a0 [36,37,38,39,40,35,41,42,12,13] q).eval (.tmp t)=q t:=fun t h1 h2=>frm_in h1 (by rw [hsz];exact h2)
   have eX:=(f 42 rfl (by decide)).trans (hq 7 42 (by decide) rfl)
   obtain ⟨b9,h8,hK8⟩:=hq 8 12 (by decide) rfl
   show wpOps Tryz.prog _ _ [9] _ _
   rw [wpOps_cons];refine op_atR rfl rfl ?_
   refine op_run (w':=w') (v:=.bool true) ?_ ?_
   ·generalize (frm a0 [36,37,38,39,40,35,41,42,12,13] q).eval=ev at eX ⊢
    simp [execOp,eX,go_sem]
   rw [late_put 13 rfl rfl]
   show K' _ _
   refine hK' _ _ ?_
   rw [<- ha0]
   go_meet
   exact ⟨b9,(show setV q 13 (.bool true) 12=.bool b9 from (setV_other (by decide)).trans h8),setV_same q 13 _,hK8,hb⟩
 case rest=>
  obtain ⟨bb,rfl,rfl,HK5⟩:=hcut;obtain ⟨w5,rfl⟩:∃ w5,w5=wc:=⟨_,rfl⟩
  have hb45:Below w4.heap.size w4 w5:=HK5.out.2;have hbw5:=hbwX.trans (hb45.mono hbwX.size);have Hmc:Hid (mcode ⟨[a,b],rules⟩=0):=(pcode_m (tk_zero HKp.out.2).1).1;have HFd:=HF.out Hmc.out;obtain ⟨lb,nb,rfl,rfl,hLt,hNx⟩:=wd_rows HFd HW.out;obtain ⟨bn,hbn,hbN⟩:=HFd.beg;obtain rfl:k=0:=by have:=Kx.out.many;omega
  have HL5:Hid (LtV w5 lb N (ltB ⟨[a,b],rules⟩)):=(hLt.below hb4).below hb45;have HN5:Hid (NxV w5 nb N (nextL ⟨[a,b],rules⟩)):=(hNx.below hb4).below hb45;have HV5:Hid (OpsV w5 (.slice fo fn fc) x):=Kx.out.v.below hb45
  have HA:Hid (ba=T.hb (sig [letL ⟨[a,b],rules⟩ propsL (bn:Int)] 0) 0):=bool_eq (by have h:=HKp.out.1.trans (now_keep HKp.out.2 Kx.out.ok);rw [hbn] at h;exact h)
  have HBb:Hid (bb=true↔∀ y,y∈nextL ⟨[a,b],rules⟩ (bn:Int)->T.hb (sig [letL ⟨[a,b],rules⟩ propsL y] 0) 0=true):=by have h:=HK5.out.1.1.trans (next_keep HK5.out.1.2 Kx.out.ok 0);rw [hbn] at h;exact h
  have HOne:Hid (∀ (w':World) (c g ub uf uc:Nat),c < N->Below w5.heap.size w5 w'->w'.cell? ⟨g,0,none⟩=some (.slice (some ⟨ub,uf,none⟩) 3 uc)->w5.cell? ⟨lb,c,none⟩=some (.slice (some ⟨ub,uf,none⟩) 3 uc)->Calls Tryz.prog 8 #[.slice fo fn fc,.agg #[.slice none 0 0,.slice (some ⟨g,0,none⟩) 1 1],.int .i64 3] w' fun e w2=>e=.returned (.tuple #[.bool (T.hb (sig [letL ⟨[a,b],rules⟩ propsL (c:Int)] 0) 0),.int .i64 0])/\Below w'.heap.size w' w2):=fun w' c g ub uf uc hc h hg hl=>by
   obtain ⟨ub',uf',uc',d0,d1⟩:=HL5.out c hc;rw [d0] at hl
   injection hl with hl
   injection hl with h1 h2 h3
   injection h1 with h1
   injection h1 with h1 h4
   subst h1 h3 h4;exact HO.out w' _ _ x T 0 _ (hbw5.trans (h.mono hbw5.size)) (HV5.out.below h) Kx.out.ok (by have:=Kx.out.len;omega) (by omega) (HFd.three c hc) (letters_one (w:=w5) (HFd.three c hc) d1 h hg)
  have HRng:Hid (∀ y,y∈nextL ⟨[a,b],rules⟩ (bn:Int)->0 <= y/\y < (N:Int)):=fun y hy=>HFd.rng bn y hbN hy
  have hlen:=HFd.len bn hbN;obtain ⟨ub,uf,uc,d0,_⟩:=HL5.out bn hbN;obtain ⟨vb,vf,vc,n0,n1⟩:=HN5.out bn hbN;have HN1:Hid (∀ q,q < (nextL ⟨[a,b],rules⟩ (bn:Int)).length->w5.cell? ⟨vb,vf+q,none⟩=some (.int .i64 ((nextL ⟨[a,b],rules⟩ (bn:Int)).getD q 0))):=n1
  have HN0:Hid (w5.cell? ⟨nb,bn,none⟩=some (.slice (some ⟨vb,vf,none⟩) (nextL ⟨[a,b],rules⟩ (bn:Int)).length vc)):=n0;rw [hbn];have hbi1:¬ (bn:Int) < 0:=by omega
  have hbi2:¬ (N:Int) <= (bn:Int):=by omega
  have hbi3:(bn:Int) < (N:Int):=by omega
  have hbi4:¬ N <= bn:=by omega
  have hbA:Below w5.heap.size w5 (w5.alloc (.cells #[.slice (some ⟨ub,uf,none⟩) 3 uc] 39)):=(Below.refl _ _).alloc (Nat.le_refl _) _;have hg5:(w5.alloc (.cells #[.slice (some ⟨ub,uf,none⟩) 3 uc] 39)).cell? ⟨w5.heap.size,0,none⟩=some (.slice (some ⟨ub,uf,none⟩) 3 uc):=by simp [go_sem]
  have hone:=HOne.out _ bn _ ub uf uc hbN hbA hg5 d0;clear hbn HKp HK5 HH HF HO HWd HW hLt hNx HT hb4 hb45 hDx hVx HV5 Kx Hmc HFd HN5 n0 n1 hg5;generalize T.hb (sig [letL ⟨[a,b],rules⟩ propsL (bn:Int)] 0) 0=rr at *;obtain ⟨nl,hnl⟩:∃ nl,nl=nextL ⟨[a,b],rules⟩ (bn:Int):=⟨_,rfl⟩
  rw [<- hnl] at HBb HRng hlen HN1 HN0;clear hnl;obtain ⟨ln,hln⟩:∃ ln,ln=nl.length:=⟨_,rfl⟩
  have HLn:Hid (ln=nl.length):=hln;rw [<- hln] at HN0 HN1 hlen;clear hln
  go_upto_region 8 with (first | (go_at_call 8;refine hone.mono ?_;rintro e w6 ⟨rfl,hb6⟩))
  have HB6:Hid (Below w5.heap.size w5 w6):=hbA.trans (hb6.mono hbA.size);clear hone d0 hb6 hbA
  go_upto_region 10 with fail
  go_loopw [16,17] (fun ev iv wr=>∃ (k:Nat) (eb:Bool),k <= ln/\ev=.bool eb/\iv=.int .i64 (k:Int)/\Hid ((eb=true↔∀ q,q < k->T.hb (sig [letL ⟨[a,b],rules⟩ propsL (nl.getD q 0)] 0) 0=true)/\Below w5.heap.size w5 wr)) (fun _ iv _=>ln - (intOf iv).toNat)
  case atStart=>exact ⟨0,true,Nat.zero_le _,rfl,rfl,⟨fun _ q hq=>absurd hq (Nat.not_lt_zero _),fun _=>rfl⟩,HB6.out⟩
  case round=>
   obtain ⟨k,eb,hk,rfl,rfl,HI⟩:=hrel;have c0':=cellL HI.out.2 HN0.out
   by_cases hkl:k < ln
   ·have hki:(k:Int) < (ln:Int):=by omega
    have c1':=cellL HI.out.2 (HN1.out k hkl)
    have hmem:nl.getD k 0∈nl:=by
     rw [List.getD_eq_getElem?_getD,List.getElem?_eq_getElem (by rw [<- HLn.out];exact hkl)]
     exact List.getElem_mem _
    obtain ⟨y0,y1⟩:=HRng.out _ hmem;obtain ⟨yn,hyn⟩:∃ yn:Nat,nl.getD k 0=(yn:Int):=⟨(nl.getD k 0).toNat,by omega⟩
    have HY:Hid (nl.getD k 0=(yn:Int)):=hyn;rw [hyn] at c1' y1;have hyN:yn < N:=by omega
    obtain ⟨tb,tf,tc,t0,_⟩:=HL5.out yn hyN;have c2':=cellL HI.out.2 t0;have hy1:¬ (yn:Int) < 0:=by omega
    have hy2:¬ (N:Int) <= (yn:Int):=by omega
    have hy3:(yn:Int) < (N:Int):=by omega
    have hy4:¬ N <= yn:=by omega
    have hbR:Below w5.heap.size w5 (wr.alloc (.cells #[.slice (some ⟨tb,tf,none⟩) 3 tc] 39)):=HI.out.2.alloc HI.out.2.size _;have hg6:(wr.alloc (.cells #[.slice (some ⟨tb,tf,none⟩) 3 tc] 39)).cell? ⟨wr.heap.size,0,none⟩=some (.slice (some ⟨tb,tf,none⟩) 3 tc):=by simp [go_sem]
    have hone:=HOne.out _ yn _ tb tf tc hyN hbR hg6 t0;obtain ⟨rb,hrb⟩:∃ rb,rb=T.hb (sig [letL ⟨[a,b],rules⟩ propsL (yn:Int)] 0) 0:=⟨_,rfl⟩
    have HRb:Hid (rb=T.hb (sig [letL ⟨[a,b],rules⟩ propsL (nl.getD k 0)] 0) 0):=by rw [HY.out];exact hrb
    rw [<- hrb] at hone;clear hyn hmem t0 hg6 hrb y0 y1
    go_upto_region 15 with (first | (go_at_call 8;refine hone.mono ?_;rintro e w7 ⟨rfl,hb7⟩))
    have HB7:Hid (Below w5.heap.size w5 w7):=hbR.trans (hb7.mono hbR.size)
    have HE:Hid ((eb&&rb)=true↔∀ q,q < k+1->T.hb (sig [letL ⟨[a,b],rules⟩ propsL (nl.getD q 0)] 0) 0=true):=by
     rw [Bool.and_eq_true,HI.out.1,HRb.out]
     constructor
     ·rintro ⟨h1,h2⟩ q hq
      by_cases hqk:q=k
      ·subst hqk;exact h2
      ·exact h1 q (by omega)
     ·exact fun h=>⟨fun q hq=>h q (by omega),h k (by omega)⟩
    clear hone c0' c1' c2' hb7 hbR HI HRb
    cases eb with
    | true=>
     go_wp2_with fail
     go_roundw
     case rel=>exact ⟨k+1,rb,by omega,rfl,by go_num,by simpa using HE.out,HB7.out⟩
     case measure=>simp [intOf];omega
    | false=>
     go_wp2_with fail
     go_roundw
     case rel=>exact ⟨k+1,false,by omega,rfl,by go_num,by simpa using HE.out,HB7.out⟩
     case measure=>simp [intOf];omega
   ·obtain rfl:k=ln:=by omega
    have hbF:=hbw5.trans (HI.out.2.mono hbw5.size)
    have HEq:Hid (bb=eb):=bool_eq (HBb.out.trans (by
     rw [HI.out.1]
     constructor
     ·intro h q hq
      refine h _ ?_
      rw [List.getD_eq_getElem?_getD,List.getElem?_eq_getElem (by rw [<- HLn.out];exact hq)]
      exact List.getElem_mem _
     ·intro h y hy
      obtain ⟨q,hq,e⟩:=List.getElem_of_mem hy;have:=h q (by rw [HLn.out];exact hq)
      rw [List.getD_eq_getElem?_getD,List.getElem?_eq_getElem hq,Option.getD_some,e] at this
      exact this))
    obtain rfl:=HEq.out;obtain rfl:=HA.out;clear HI HBb HEq HA
    go_wp2_with fail
    go_ret
    exact ⟨by first | rfl | simp,hbF⟩
