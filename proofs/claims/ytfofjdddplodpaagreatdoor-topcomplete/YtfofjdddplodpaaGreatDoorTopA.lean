/- Joined texts. -/
import Derived.Test.YtfofjdddplodpaaGreatDoorSccB
import Derived.Test.YtfofjdddplodpaaGreatDoorSccC
import Derived.Test.YtfofjdddplodpaaGreatDoorLateG
namespace Go.Proofs.YtfofjdddplodpaaGreatDoor
open Go.ChangeShapes Go.WideShapes Go.ChangeAt Go.RowKit Go.Deep Go.Maps
open Terms Tm
set_option maxHeartbeats 6400000
set_option maxRecDepth 20000
noncomputable def exGr (m:Mo) (ps:List (List (Int × Int))) (l:List (Int × Int)) (K:Nat):Gr:=⟨xpP m ps l K,((begL m ps l).length:Nat),xpN m ps l K,xpT m ps l K,((aheadL l).length:Nat)⟩
section
variable {m : Mo} {ps : List (List (Int × Int))} {l : List (Int × Int)} {K : Nat}
theorem xpAt_eq (h:ExDone m ps l K) {i:Nat} (hi:i < K):xpAt m ps l i=(xpP m ps l K).getD i (0,0):=
 (exS_at (begL m ps l) (xpBh m ps l) (Nat.le_of_lt hi) (h.2.2.1 i hi)).symm
theorem xpN_get {K:Nat}:∀ {j:Nat},j < K->(xpN m ps l K).getD j []=plIx (xpP m ps l j) (xpBh m ps l (xpAt m ps l j)):=by
 induction K with
 | zero=>intro j h;omega
 | succ K ih=>
  intro j h;rw [xpN,List.getD_eq_getElem?_getD]
  by_cases hj:j < K
  ·rw [List.getElem?_append_left (by rw [xpN_len];exact hj),<- List.getD_eq_getElem?_getD]
   exact ih hj
  ·obtain rfl:j=K:=by omega
   rw [List.getElem?_append_right (by rw [xpN_len];exact Nat.le_refl _),xpN_len]
   simp
theorem xpT_get {K:Nat}:∀ {j:Nat},j < K->(xpT m ps l K).getD j 0=metN l (letL m ps (xpAt m ps l j).1) (xpAt m ps l j).2:=by
 induction K with
 | zero=>intro j h;omega
 | succ K ih=>
  intro j h;rw [xpT,List.getD_eq_getElem?_getD]
  by_cases hj:j < K
  ·rw [List.getElem?_append_left (by rw [xpT_len];exact hj),<- List.getD_eq_getElem?_getD]
   exact ih hj
  ·obtain rfl:j=K:=by omega
   rw [List.getElem?_append_right (by rw [xpT_len];exact Nat.le_refl _),xpT_len]
   simp
theorem xbeg_nodup (m:Mo) (ps:List (List (Int × Int))) (l:List (Int × Int)):(begL m ps l).Nodup:=by
 have key:∀ k,(begTo m ps l k).Nodup:=fun k=>by
  induction k with
  | zero=>simp [begTo]
  | succ k ih=>
   rw [begTo]
   split
   ·exact ih
   ·refine List.nodup_append.2 ⟨ih,by simp,fun a ha b hb e=>?_⟩
    rw [List.mem_singleton] at hb;subst hb;subst e;obtain ⟨_,d,h2,h3,_⟩:=xbg_mem _ ha;simp only at h3
    omega
 exact key _
theorem xpN_row (h:ExDone m ps l K) {i:Nat} (hi:i < K):((xpN m ps l K).getD i []).length=(xpBh m ps l ((xpP m ps l K).getD i (0,0))).length/\∀ q,q < (xpBh m ps l ((xpP m ps l K).getD i (0,0))).length->((xpN m ps l K).getD i []).getD q 0=(((xpP m ps l K).idxOf ((xpBh m ps l ((xpP m ps l K).getD i (0,0))).getD q (0,0)):Nat):Int)/\(xpBh m ps l ((xpP m ps l K).getD i (0,0))).getD q (0,0)∈xpP m ps l K:=by
 rw [xpN_get hi,<- xpAt_eq h hi];refine ⟨plIx_len _ _,fun q hq=>?_⟩
 have hmem:(xpBh m ps l (xpAt m ps l i)).getD q (0,0)∈xpP m ps l (i+1):=by
  rw [xpP_succ,plTo_iff];refine .inr ?_
  rw [List.getD_eq_getElem?_getD,List.getElem?_eq_getElem hq]
  exact List.getElem_mem _
 have hpre:xpP m ps l (i+1) <+: xpP m ps l K:=exS_le _ _ hi;refine ⟨?_,hpre.subset hmem⟩
 rw [plIx_at hq,<- xpP_succ,idx_pre hpre hmem]
theorem metN_range (l:List (Int × Int)) (letter:List Bool) (c:Int):0 <= metN l letter c/\metN l letter c < (2:Int) ^ (aheadL l).length:=by
 unfold metN
 split
 ·exact metTo_bounds _ _ _
 ·exact ⟨by omega,Int.pow_pos (by decide)⟩
theorem exGr_ok (hk:tkcode m ps l=0) (h:ExDone m ps l K):GOk (exGr m ps l K):=by
 have h6:=(lcode_zero (tk_zero hk).2).2.2.2.2
 have hbl:(begL m ps l).length <= (xpP m ps l K).length:=by
  have h1:=(exS_le (begL m ps l) (xpBh m ps l) (Nat.zero_le K)).length_le
  have h2:(begL m ps l).length <= (exS (begL m ps l) (xpBh m ps l) 0).length:=by
   show _ <= (plTo [] (begL m ps l)).length
   have hnd:=plTo_nodup (begL m ps l) [] List.nodup_nil;have hsub:begL m ps l ⊆ plTo [] (begL m ps l):=fun x hx=>(plTo_iff _ _ _).2 (.inr hx)
   exact (xbeg_nodup m ps l).length_le_of_subset hsub
  exact Nat.le_trans h2 h1
 refine ⟨⟨by show (xpP m ps l K).length <= _;rw [h.1];exact h.2.1,by show (xpN m ps l K).length=(xpP m ps l K).length;rw [xpN_len,h.1],by show (xpT m ps l K).length=(xpP m ps l K).length;rw [xpT_len,h.1],by show (0:Int) <= ((begL m ps l).length:Nat);omega,by show (((begL m ps l).length:Nat):Int) <= ((xpP m ps l K).length:Nat);omega,by show (0:Int) <= ((aheadL l).length:Nat);omega,by show (((aheadL l).length:Nat):Int) <= 6;omega⟩,fun i hi=>?_⟩
 have hiK:i < K:=by have:i < (xpP m ps l K).length:=hi;rw [h.1] at this;exact this
 refine ⟨?_,fun q hq=>?_⟩
 ·unfold GSet top
  show 0 <= (xpT m ps l K).getD i 0/\(xpT m ps l K).getD i 0 <= 2 ^ (((aheadL l).length:Nat):Int).toNat - 1
  rw [xpT_get hiK];have:=metN_range l (letL m ps (xpAt m ps l i).1) (xpAt m ps l i).2;rw [Int.toNat_natCast];omega
 ·obtain ⟨r1,r2⟩:=xpN_row h hiK
  have hq':q < (xpBh m ps l ((xpP m ps l K).getD i (0,0))).length:=by rw [<- r1];exact hq
  obtain ⟨r3,r4⟩:=r2 q hq'
  show 0 <= ((xpN m ps l K).getD i []).getD q 0/\((xpN m ps l K).getD i []).getD q 0 < ((xpP m ps l K).length:Nat)
  rw [r3];have:=List.idxOf_lt_length_of_mem r4;omega
theorem exGr_step (h:ExDone m ps l K) {s x:Int × Int} (hs:s∈xpP m ps l K) (hx:x∈xpBh m ps l s):x∈xpP m ps l K/\(xpP m ps l K).idxOf x∈nxt (exGr m ps l K) ((xpP m ps l K).idxOf s):=by
 have hi:=List.idxOf_lt_length_of_mem hs;have hiK:(xpP m ps l K).idxOf s < K:=by rw [h.1] at hi;exact hi
 have he:(xpP m ps l K).getD ((xpP m ps l K).idxOf s) (0,0)=s:=by
  rw [List.getD_eq_getElem?_getD,List.getElem?_eq_getElem hi]
  exact List.getElem_idxOf hi
 obtain ⟨r1,r2⟩:=xpN_row h hiK;rw [he] at r1 r2;obtain ⟨q,hq,rfl⟩:=List.getElem_of_mem hx;have hg:(xpBh m ps l s).getD q (0,0)=(xpBh m ps l s)[q]:=by rw [List.getD_eq_getElem?_getD,List.getElem?_eq_getElem hq];rfl
 obtain ⟨r3,r4⟩:=r2 q hq;rw [hg] at r3 r4;refine ⟨r4,?_⟩
 unfold nxt;rw [List.mem_map];refine ⟨((xpN m ps l K).getD ((xpP m ps l K).idxOf s) []).getD q 0,?_,by rw [r3];rfl⟩
 show ((xpN m ps l K).getD ((xpP m ps l K).idxOf s) []).getD q 0∈(xpN m ps l K).getD ((xpP m ps l K).idxOf s) []
 generalize (xpN m ps l K).getD ((xpP m ps l K).idxOf s) []=row at *;rw [List.getD_eq_getElem?_getD,List.getElem?_eq_getElem (by rw [r1];exact hq)]
 exact List.getElem_mem _
end
theorem SpO.ops {w:World} {base:Nat} {v:Value} {x:List (Int × Int)} (h:SpO w base v x):OpsV w v x:=by
 rcases h.2 with ⟨rfl,h0⟩ | ⟨g,cap,cur,rfl,hb,hg,hnc,hcm,hcs,htake⟩
 ·have:x=[]:=by simpa using h0
  subst this;exact ⟨none,0,rfl,⟨by simp,fun _=>⟨rfl,rfl⟩⟩,fun h=>absurd rfl h⟩
 ·refine ⟨_,cap,rfl,⟨hnc,fun h=>by simp at h⟩,fun _=>⟨g,0,rfl,(Array.getElem?_eq_some_iff.1 hg).1,fun i hi=>?_⟩⟩
  obtain ⟨f0,f1⟩:=flat_get x i hi;rw [World.ownsRow.cellAt h _ (by omega),World.ownsRow.cellAt h _ (by omega)]
  simpa using ⟨f0,f1⟩
theorem GrX.graph {w:World} {base K:Nat} {m:Mo} {ps:List (List (Int × Int))} {l:List (Int × Int)} {sv nv tv:Value} (h:GrX w base m ps l K sv nv tv):GraphV w sv nv tv (exGr m ps l K):=by
 obtain ⟨h1,⟨us,n1,n2,n3⟩,h3⟩:=h;refine ⟨h1.ops,?_,intsV_of_owns h3⟩
 have n1':w.ownsRow base 27 1 nv us.length us:=by rw [n2];exact n1
 refine listsV_of_owns n1' ⟨n2,fun i hi=>?_⟩
 obtain ⟨ao,c,e1,e2,_,_⟩:=n3 i hi;have e1':us.getD i nilG=.slice ao ((xpN m ps l K).getD i []).length c:=e1;rw [e1'];exact e2
end Go.Proofs.YtfofjdddplodpaaGreatDoor
namespace Go.Proofs.YtfofjdddplodpaaGreatDoor
open Go.ChangeShapes Go.WideShapes Go.ChangeAt Go.RowKit Go.Deep
open Terms Tm
set_option maxHeartbeats 6400000
set_option maxRecDepth 20000
structure PRun (m:Mo) (path:List Int) (s:Nat):Prop where
 lt:s < path.length
 first:path.getD 0 0=begC m
 step:∀ i,i < path.length->path.getD (moAt s path.length (i+1)) 0∈nextL m (path.getD i 0)
structure PWay (m:Mo) (ps:List (List (Int × Int))) (l:List (Int × Int)) (K:Nat) (x:List Nat) (s:Nat):Prop where
 lt:s < x.length
 all:∀ i,i < x.length->x.getD i 0 < K
 first:x.getD 0 0 < (begL m ps l).length
 step:∀ i,i < x.length->x.getD (moAt s x.length (i+1)) 0∈nxt (exGr m ps l K) (x.getD i 0)
 met:∀ k,k < (aheadL l).length->∃ i,s <= i/\i < x.length/\bitB ((xpT m ps l K).getD (x.getD i 0) 0) k=true
section
variable {m : Mo} {ps : List (List (Int × Int))} {l : List (Int × Int)} {K : Nat}
noncomputable def spA (m:Mo) (ps:List (List (Int × Int))) (l:List (Int × Int)) (K i:Nat):Int × Int:=(xpP m ps l K).getD i (0,0)
theorem spA_mem (h:ExDone m ps l K) {i:Nat} (hi:i < K):spA m ps l K i∈xpP m ps l K:=by
 have hl:i < (xpP m ps l K).length:=by rw [h.1];exact hi
 unfold spA;rw [List.getD_eq_getElem?_getD,List.getElem?_eq_getElem hl]
 exact List.getElem_mem _
theorem spA_ok (h:ExDone m ps l K) {i:Nat} (hi:i < K):spOk m l (spA m ps l K i):=h.2.2.2 _ (spA_mem h hi)
theorem spA_idx {s:Int × Int} (hs:s∈xpP m ps l K):spA m ps l K ((xpP m ps l K).idxOf s)=s:=by
 have hi:=List.idxOf_lt_length_of_mem hs;unfold spA;rw [List.getD_eq_getElem?_getD,List.getElem?_eq_getElem hi]
 exact List.getElem_idxOf hi
theorem nxt_beh (h:ExDone m ps l K) {i j:Nat} (hi:i < K) (hj:j∈nxt (exGr m ps l K) i):spA m ps l K j∈xpBh m ps l (spA m ps l K i):=by
 obtain ⟨r1,r2⟩:=xpN_row h hi;unfold nxt at hj;obtain ⟨z,hz,rfl⟩:=List.mem_map.1 hj;have hz':z∈(xpN m ps l K).getD i []:=hz;obtain ⟨q,hq,e⟩:=List.getElem_of_mem hz';have hq':q < (xpBh m ps l ((xpP m ps l K).getD i (0,0))).length:=by rw [<- r1];exact hq
 obtain ⟨r3,r4⟩:=r2 q hq'
 have e2:((xpN m ps l K).getD i []).getD q 0=z:=by
  generalize (xpN m ps l K).getD i []=row at *;rw [List.getD_eq_getElem?_getD,List.getElem?_eq_getElem hq]
  exact e
 rw [<- e2,r3,Int.toNat_natCast,spA_idx r4];rw [List.getD_eq_getElem?_getD (l:=xpBh m ps l ((xpP m ps l K).getD i (0,0))),List.getElem?_eq_getElem hq']
 exact List.getElem_mem _
theorem foTo_in {x:List Bool} {c:Int} {y:List Bool} {st:Int} {d:Nat} (hf:folR l x c y (d:Int)=true):∀ k,d < k->(st,(d:Int))∈foTo l x c y st k
 | 0,h=>by omega
 | k+1,h=>by
  rw [foTo]
  by_cases e:d=k
  ·subst e
   rw [if_pos hf];exact List.mem_append_right _ (List.mem_singleton.2 rfl)
  ·have:=foTo_in hf (st:=st) k (by omega)
   split
   ·exact List.mem_append_left _ this
   ·exact this
theorem beh_in {code c y:Int} {d:Nat} (hy:y∈nextL m code) (hd:d < 2 ^ (aheadL l).length) (hf:folR l (letL m ps code) c (letL m ps y) (d:Int)=true):(y,(d:Int))∈behL m ps l code c:=by
 obtain ⟨q,hq,rfl⟩:=List.getElem_of_mem hy;have hg:(nextL m code).getD q 0=(nextL m code)[q]:=by rw [List.getD_eq_getElem?_getD,List.getElem?_eq_getElem hq];rfl
 have key:∀ i,q < i->i <= (nextL m code).length->((nextL m code)[q],(d:Int))∈behTo m ps l code c i:=fun i=>by
  induction i with
  | zero=>intro h;omega
  | succ i ih=>
   intro h1 h2;rw [behTo,List.mem_append]
   by_cases e:q=i
   ·subst e
    refine .inr ?_
    rw [hg];exact foTo_in hf _ hd
   ·exact .inl (ih (by omega) (by omega))
 exact key _ hq (Nat.le_refl _)
theorem beg_in {d:Nat} (hd:d < 2 ^ (aheadL l).length) (hf:tru l (letL m ps (begC m)) (d:Int) 0≠true):(begC m,(d:Int))∈begL m ps l:=by
 have key:∀ k,d < k->(begC m,(d:Int))∈begTo m ps l k:=fun k=>by
  induction k with
  | zero=>intro h;omega
  | succ k ih=>
   intro h;rw [begTo]
   by_cases e:d=k
   ·subst e
    rw [if_neg hf];exact List.mem_append_right _ (List.mem_singleton.2 rfl)
   ·have:=ih (by omega)
    split
    ·exact this
    ·exact List.mem_append_left _ this
 exact key _ hd
theorem tk_fol (hk:tkcode m ps l=0) {x y:Int} {c d:Nat} (hx:0 <= x/\x < prodTo m.vars m.vars.length) (hy:0 <= y/\y < prodTo m.vars m.vars.length) (hc:c < 2 ^ (aheadL l).length) (hd:d < 2 ^ (aheadL l).length):fcode l (letL m ps x) (c:Int) (letL m ps y) (d:Int)=0:=by
 unfold fcode;rw [if_neg (by rw [(tk_let hk hx).2,(tk_let hk hy).2];simp),if_neg (by rw [(tk_tru hk hx hc).1];simp)]
 exact (tk_tru hk hy hd).1
end
section
variable {m : Mo} {ps : List (List (Int × Int))} {l : List (Int × Int)} {K : Nat}
theorem beg_len0:(begL m ps l).length <= (xpP m ps l 0).length:=by
 show _ <= (plTo [] (begL m ps l)).length
 have hsub:begL m ps l ⊆ plTo [] (begL m ps l):=fun x hx=>(plTo_iff _ _ _).2 (.inr hx)
 exact (xbeg_nodup m ps l).length_le_of_subset hsub
theorem spA_beg {i:Nat} (hi:i < (begL m ps l).length):spA m ps l K i∈begL m ps l:=by
 have h0:i < (xpP m ps l 0).length:=Nat.lt_of_lt_of_le hi beg_len0;have e:spA m ps l K i=(xpP m ps l 0).getD i (0,0):=exS_at (begL m ps l) (xpBh m ps l) (Nat.zero_le K) h0;rw [e]
 have hm:(xpP m ps l 0).getD i (0,0)∈xpP m ps l 0:=by
  rw [List.getD_eq_getElem?_getD,List.getElem?_eq_getElem h0]
  exact List.getElem_mem _
 rcases (plTo_iff _ _ _).1 hm with h | h
 ·exact absurd h List.not_mem_nil
 ·exact h
theorem idx_beg {s:Int × Int} (hs:s∈begL m ps l):(xpP m ps l K).idxOf s < (begL m ps l).length/\s∈xpP m ps l K:=by
 have h0:s∈xpP m ps l 0:=(plTo_iff _ _ _).2 (.inr hs);have hpre:xpP m ps l 0 <+: xpP m ps l K:=exS_le _ _ (Nat.zero_le K);refine ⟨?_,hpre.subset h0⟩
 rw [idx_pre hpre h0];have h1:=List.idxOf_lt_length_of_mem h0
 have h2:(xpP m ps l 0).length <= (begL m ps l).length:=by
  have:=(plTo_length (begL m ps l) []).2
  show (plTo [] (begL m ps l)).length <= _
  simpa using this
 omega
theorem getD_map {α β:Type} (f:α->β) (x:List α) (d:α) (e:β) {i:Nat} (hi:i < x.length):(x.map f).getD i e=f (x.getD i d):=by
 simp [List.getD_eq_getElem?_getD,hi]
theorem sub_zero (T:Tm):T.sub 0=T:=by cases T <;> rfl
theorem way_run {T:Tm} (hw:T.Wf) (ho:T.ops=l) (hz:endsCode (l.map Prod.fst)=0) (hv:∀ q,q < l.length->(l.getD q (0,0)).1=13->0 <= (l.getD q (0,0)).2) (h8:∀ q,q < l.length->8 <= (l.getD q (0,0)).1) (hk:tkcode m ps l=0) (h:ExDone m ps l K) {x:List Nat} {s:Nat} (hx:PWay m ps l K x s) :
  PRun m (x.map fun i=>(spA m ps l K i).1) s/\T.hb (sig ((x.map fun i=>(spA m ps l K i).1).map (letL m ps)) s) 0=false:=by
 have hn:(x.map fun i=>(spA m ps l K i).1).length=x.length:=List.length_map _
 have hln:((x.map fun i=>(spA m ps l K i).1).map (letL m ps)).length=x.length:=by simp
 have hp:∀ i,i < x.length->(x.map fun i=>(spA m ps l K i).1).getD i 0=(spA m ps l K (x.getD i 0)).1:=fun i hi=>getD_map _ x 0 0 hi
 have hls:∀ i,i < x.length->((x.map fun i=>(spA m ps l K i).1).map (letL m ps)).getD i []=letL m ps (spA m ps l K (x.getD i 0)).1:=fun i hi=>by rw [getD_map _ _ 0 [] (by rw [hn];exact hi),hp i hi]
 have hmo:∀ i,moAt s x.length i < x.length:=fun i=>moAt_lt hx.lt
 have hbh:∀ i,i < x.length->spA m ps l K (x.getD (moAt s x.length (i+1)) 0)∈xpBh m ps l (spA m ps l K (x.getD i 0)):=fun i hi=>nxt_beh h (hx.all i hi) (hx.step i hi)
 have h0:0 < x.length:=Nat.lt_of_le_of_lt (Nat.zero_le _) hx.lt;obtain ⟨b1,d0,b2,b3,b4⟩:=xbg_mem _ (spA_beg (K:=K) hx.first);refine ⟨⟨by rw [hn];exact hx.lt,by rw [hp 0 h0];exact b1,fun i hi=>?_⟩,?_⟩
 ·rw [hn] at hi ⊢
  rw [hp i hi,hp _ (hmo _)];exact (xbe_mem _ (Nat.le_refl _) (hbh i hi)).1
 ·have hcl:=claims_only hw ho hz hv h8 (ls:=(x.map fun i=>(spA m ps l K i).1).map (letL m ps)) (s:=s) (by rw [hln];exact hx.lt) (fun i=>(spA m ps l K (x.getD i 0)).2) (fun i hi=>?_) (fun i hi p hp1 hb=>?_) (fun p hp1 hb=>?_)
  ·have hc0:=hcl 0 (by rw [hln];exact h0)
   have htr:=claims_tru hw ho hz hv h8 (ls:=(x.map fun i=>(spA m ps l K i).1).map (letL m ps)) (s:=s) (i:=0) (by rw [hln];exact h0) (p:=0) (tk_ne hk)
   rw [<- hc0,hls 0 h0,sub_zero,b1,b3] at htr;rw [<- htr]
   cases hb:tru l (letL m ps (begC m)) (d0:Int) 0 with
   | false=>rfl
   | true=>exact absurd hb b4
  ·rw [hln] at hi
   obtain ⟨_,d,g1,g2⟩:=spA_ok h (hx.all i hi);rw [g2];have:((2 ^ (aheadL l).length:Nat):Int)=(2:Int) ^ (aheadL l).length:=by push_cast;rfl
   rw [<- this];omega
  ·rw [hln] at hi ⊢
   obtain ⟨_,d,_,e2,e3⟩:=xbe_mem _ (Nat.le_refl _) (hbh i hi);rw [<- e2] at e3;rw [hls i hi,hls _ (hmo _)]
   have hF:Fol l (tru l (letL m ps (spA m ps l K (x.getD i 0)).1) (spA m ps l K (x.getD i 0)).2) (tru l (letL m ps (spA m ps l K (x.getD (moAt s x.length (i+1)) 0)).1) (spA m ps l K (x.getD (moAt s x.length (i+1)) 0)).2):=by
    by_cases hno:Fol l (tru l (letL m ps (spA m ps l K (x.getD i 0)).1) (spA m ps l K (x.getD i 0)).2) (tru l (letL m ps (spA m ps l K (x.getD (moAt s x.length (i+1)) 0)).1) (spA m ps l K (x.getD (moAt s x.length (i+1)) 0)).2)
    ·exact hno
    ·rw [folR_no hno] at e3;cases e3
   exact hF p hp1 hb
  ·obtain ⟨k1,k2⟩:=ahead_at hp1 hb
   obtain ⟨i,i1,i2,i3⟩:=hx.met _ k1;refine ⟨i,i1,by rw [hln];exact i2,?_⟩
   rw [hls i i2];obtain ⟨g0,d,g1,g2⟩:=spA_ok h (hx.all i i2);rw [xpT_get (hx.all i i2),xpAt_eq h (hx.all i i2)] at i3;have i4:bitB (metN l (letL m ps (spA m ps l K (x.getD i 0)).1) (spA m ps l K (x.getD i 0)).2) (aheadTo l p).length=true:=i3;rw [g2] at i4 ⊢;unfold metN at i4;rw [if_pos (tk_tru hk g0 g1).1,met_bit _ _ k1,k2] at i4;unfold waitAt at i4
   simp only [Int.toNat_natCast] at i4;simpa using i4
theorem run_way {T:Tm} (hw:T.Wf) (ho:T.ops=l) (hz:endsCode (l.map Prod.fst)=0) (hv:∀ q,q < l.length->(l.getD q (0,0)).1=13->0 <= (l.getD q (0,0)).2) (h8:∀ q,q < l.length->8 <= (l.getD q (0,0)).1) (hk:tkcode m ps l=0) (h:ExDone m ps l K) {path:List Int} {s:Nat} (hr:PRun m path s) (hno:T.hb (sig (path.map (letL m ps)) s) 0=false) :
  ∃ x:List Nat,x.length=path.length/\PWay m ps l K x s/\∀ i,i < path.length->spA m ps l K (x.getD i 0)=(path.getD i 0,clmTo (aheadL l) (fun q=>(T.sub q).hb (sig (path.map (letL m ps)) s)) i (aheadL l).length):=by
 obtain ⟨hm0,_⟩:=pcode_m (tk_zero hk).1;have hln:(path.map (letL m ps)).length=path.length:=List.length_map _;have hls:∀ i,i < path.length->(path.map (letL m ps)).getD i []=letL m ps (path.getD i 0):=fun i hi=>getD_map _ _ 0 [] hi
 have h0:0 < path.length:=Nat.lt_of_le_of_lt (Nat.zero_le _) hr.lt;have hmo:∀ i,moAt s path.length i < path.length:=fun i=>moAt_lt hr.lt
 obtain ⟨mine,hmine⟩:∃ mine:Nat->Int,mine=fun i=>clmTo (aheadL l) (fun q=>(T.sub q).hb (sig (path.map (letL m ps)) s)) i (aheadL l).length:=⟨_,rfl⟩
 obtain ⟨f1,f2⟩:=claims_fit hw ho hz hv h8 (ls:=path.map (letL m ps)) (s:=s) (by rw [hln];exact hr.lt) mine (fun i _=>by rw [hmine])
 rw [hln] at f1 f2;have hpw:((2 ^ (aheadL l).length:Nat):Int)=(2:Int) ^ (aheadL l).length:=by push_cast;rfl
 have hmd:∀ i,∃ d:Nat,d < 2 ^ (aheadL l).length/\mine i=(d:Int):=fun i=>by
  obtain ⟨c0,c1⟩:=clmTo_bounds (aheadL l) (fun q=>(T.sub q).hb (sig (path.map (letL m ps)) s)) i (aheadL l).length
  have e:mine i=clmTo (aheadL l) (fun q=>(T.sub q).hb (sig (path.map (letL m ps)) s)) i (aheadL l).length:=by rw [hmine]
  rw [<- e] at c0 c1;exact ⟨(mine i).toNat,by rw [<- hpw] at c1;omega,by omega⟩
 have hst:∀ i,i < path.length->0 <= path.getD i 0/\path.getD i 0 < prodTo m.vars m.vars.length:=fun i=>by
  induction i with
  | zero=>intro _;rw [hr.first];exact tk_beg hk
  | succ i ih=>
   intro hi;have h1:=hr.step i (by omega)
   rw [moAt_low hi] at h1;exact nextL_st hm0 (ih (by omega)) h1
 have hbh:∀ i,i < path.length->(path.getD (moAt s path.length (i+1)) 0,mine (moAt s path.length (i+1)))∈xpBh m ps l (path.getD i 0,mine i):=fun i hi=>by
  obtain ⟨c,c1,c2⟩:=hmd i;obtain ⟨d,d1,d2⟩:=hmd (moAt s path.length (i+1));rw [d2];refine beh_in (hr.step i hi) d1 ?_
  show folR l (letL m ps (path.getD i 0)) (mine i) (letL m ps (path.getD (moAt s path.length (i+1)) 0)) (d:Int)=true
  rw [<- d2];refine folR_yes ?_ ?_
  ·rw [c2,d2]
   exact tk_fol hk (hst i hi) (hst _ (hmo _)) c1 d1
  ·intro p hp hb
   have:=f1 i hi p hp hb;rw [hls i hi,hls _ (hmo _)] at this;exact this
 have hbeg:(path.getD 0 0,mine 0)∈begL m ps l:=by
  obtain ⟨d,d1,d2⟩:=hmd 0;rw [hr.first,d2];refine beg_in d1 ?_
  have htr:=claims_tru hw ho hz hv h8 (ls:=path.map (letL m ps)) (s:=s) (i:=0) (by rw [hln];exact h0) (p:=0) (tk_ne hk)
  have e:mine 0=clmTo (aheadL l) (fun q=>(T.sub q).hb (sig (path.map (letL m ps)) s)) 0 (aheadL l).length:=by rw [hmine]
  rw [<- e,hls 0 h0,sub_zero,hno,hr.first,d2] at htr;rw [htr]
  simp
 have hmem:∀ i,i < path.length->(path.getD i 0,mine i)∈xpP m ps l K:=fun i=>by
  induction i with
  | zero=>intro _;exact (idx_beg hbeg).2
  | succ i ih=>
   intro hi;have h1:=hbh i (by omega)
   rw [moAt_low hi] at h1;exact (exGr_step h (ih (by omega)) h1).1
 have hxl:((List.range path.length).map fun i=>(xpP m ps l K).idxOf (path.getD i 0,mine i)).length=path.length:=by simp
 have hx:∀ i,i < path.length->((List.range path.length).map fun i=>(xpP m ps l K).idxOf (path.getD i 0,mine i)).getD i 0=(xpP m ps l K).idxOf (path.getD i 0,mine i):=fun i hi=>by simp [List.getD_eq_getElem?_getD,hi]
 refine ⟨(List.range path.length).map fun i=>(xpP m ps l K).idxOf (path.getD i 0,mine i),hxl,⟨by rw [hxl];exact hr.lt,fun i hi=>?_,?_,fun i hi=>?_,fun k hkk=>?_⟩,fun i hi=>by rw [hx i hi,spA_idx (hmem i hi),hmine]⟩
 ·rw [hxl] at hi
  rw [hx i hi];have:=List.idxOf_lt_length_of_mem (hmem i hi);rw [h.1] at this;exact this
 ·rw [hx 0 h0]
  exact (idx_beg hbeg).1
 ·rw [hxl] at hi ⊢
  rw [hx i hi,hx _ (hmo _)];exact (exGr_step h (hmem i hi) (hbh i hi)).2
 ·obtain ⟨p,e1,e2,e3,e4⟩:=aheadTo_get l l.length k hkk
  have e1':(aheadL l).getD k 0=(p:Int):=e1;obtain ⟨i,i1,i2,i3⟩:=f2 p e2 e3;refine ⟨i,i1,by rw [hxl];exact i2,?_⟩
  have hiK:(xpP m ps l K).idxOf (path.getD i 0,mine i) < K:=by
   have:=List.idxOf_lt_length_of_mem (hmem i i2);rw [h.1] at this;exact this
  have hsp:spA m ps l K ((xpP m ps l K).idxOf (path.getD i 0,mine i))=(path.getD i 0,mine i):=spA_idx (hmem i i2);have hsp':(xpP m ps l K).getD ((xpP m ps l K).idxOf (path.getD i 0,mine i)) (0,0)=(path.getD i 0,mine i):=hsp;rw [hx i i2,xpT_get hiK,xpAt_eq h hiK,hsp'];simp only
  obtain ⟨d,d1,d2⟩:=hmd i;rw [hls i i2] at i3;unfold metN;rw [d2] at i3 ⊢;rw [if_pos (tk_tru hk (hst i i2) d1).1,met_bit _ _ hkk,e1'];unfold waitAt;simp only [Int.toNat_natCast];rw [i3];rfl
end
theorem bitB_nat (n i:Nat):bitB (n:Int) i=n.testBit i:=by
 unfold bitB;rw [Nat.testBit_eq_decide_div_mod_eq];have e:((n / 2 ^ i % 2:Nat):Int)=(n:Int) / 2 ^ i % 2:=by push_cast;rfl
 rw [<- e]
 apply decide_eq_decide.2
 omega
theorem Trail.at {nx:Nat->List Nat}:∀ {L:List Nat},Trail nx L->∀ i,i+1 < L.length->L.getD (i+1) 0∈nx (L.getD i 0)
 | [],_,i,h=>by simp at h
 | [_],_,i,h=>by simp at h
 | a:: b:: L,h,0,_=>by simpa using h.1
 | a:: b:: L,h,i+1,hi=>by
  have:=Trail.at (L:=b:: L) h.2 i (by simpa using hi)
  simpa using this
section
variable {m : Mo} {ps : List (List (Int × Int))} {l : List (Int × Int)} {K : Nat}
theorem exGr_bit {i k:Nat}:(sN (exGr m ps l K) i).testBit k=bitB ((xpT m ps l K).getD i 0) k\/(xpT m ps l K).getD i 0 < 0:=by
 by_cases h:(xpT m ps l K).getD i 0 < 0
 ·exact .inr h
 ·refine .inl ?_
  obtain ⟨n,hn⟩:∃ n:Nat,(xpT m ps l K).getD i 0=(n:Int):=⟨((xpT m ps l K).getD i 0).toNat,by omega⟩
  show ((xpT m ps l K).getD i 0).toNat.testBit k=_
  rw [hn,bitB_nat,Int.toNat_natCast]
theorem xpT_pos {i:Nat} (hi:i < K):¬ (xpT m ps l K).getD i 0 < 0:=by
 rw [xpT_get hi];have:=(metN_range l (letL m ps (xpAt m ps l i).1) (xpAt m ps l i).2).1;omega
theorem lasso_way (h:ExDone m ps l K) {st lp:List Nat} (hL:LassoOk (exGr m ps l K) st lp):PWay m ps l K (st++lp) st.length:=by
 have hK:(exGr m ps l K).spots.length=K:=h.1;have hlp:0 < lp.length:=List.length_pos_iff.2 hL.ne;have hn:(st++lp).length=st.length+lp.length:=List.length_append
 have hall:∀ i,i < (st++lp).length->(st++lp).getD i 0 < K:=fun i hi=>by
  have:=hL.lt ((st++lp).getD i 0) (by rw [List.getD_eq_getElem?_getD,List.getElem?_eq_getElem hi];exact List.getElem_mem _)
  rw [hK] at this;exact this
 have hg:∀ i,i < (st++lp).length->(st++lp++[lp.getD 0 0]).getD i 0=(st++lp).getD i 0:=fun i hi=>by
  simp only [List.getD_eq_getElem?_getD]
  rw [List.getElem?_append_left hi]
 have hlast:(st++lp++[lp.getD 0 0]).getD (st++lp).length 0=(st++lp).getD st.length 0:=by
  simp only [List.getD_eq_getElem?_getD]
  rw [List.getElem?_append_right (Nat.le_refl _),Nat.sub_self,List.getElem?_append_right (Nat.le_refl _),Nat.sub_self]
  rfl
 refine ⟨by omega,hall,?_,fun i hi=>?_,fun k hk=>?_⟩
 ·have:=hL.head
  have e:(exGr m ps l K).init=((begL m ps l).length:Nat):=rfl;rw [e] at this;omega
 ·have htr:=hL.trail.at i (by simp at hi ⊢;omega)
  rw [hg i hi] at htr
  by_cases hi2:i+1 < (st++lp).length
  ·rw [moAt_low hi2]
   rw [hg _ hi2] at htr;exact htr
  ·have e:i+1=(st++lp).length:=by omega
   have hm:moAt st.length (st++lp).length (i+1)=st.length:=by
    rw [e];unfold moAt;rw [if_neg (Nat.lt_irrefl _),Nat.mod_self];rfl
   rw [hm];rw [e,hlast] at htr;exact htr
 ·have hk':k < mN (exGr m ps l K):=by
   show k < (((aheadL l).length:Nat):Int).toNat
   rw [Int.toNat_natCast];exact hk
  obtain ⟨x,hx,hb⟩:=hL.bits k hk';obtain ⟨q,hq,rfl⟩:=List.getElem_of_mem hx;have hi:st.length+q < (st++lp).length:=by omega
  have hge:(st++lp).getD (st.length+q) 0=lp[q]:=by
   simp only [List.getD_eq_getElem?_getD]
   rw [List.getElem?_append_right (by omega),show st.length+q - st.length=q by omega,List.getElem?_eq_getElem hq]
   rfl
  refine ⟨st.length+q,by omega,hi,?_⟩
  rw [hge];have hlt:lp[q] < K:=by rw [<- hge];exact hall _ hi
  rcases exGr_bit (m:=m) (ps:=ps) (l:=l) (K:=K) (i:=lp[q]) (k:=k) with e | e
  ·rw [<- e];exact hb
  ·exact absurd e (xpT_pos hlt)
theorem way_fair (h:ExDone m ps l K) {x:List Nat} {s:Nat} (hx:PWay m ps l K x s):fairC (exGr m ps l K)=0:=by
 have hK:(exGr m ps l K).spots.length=K:=h.1
 have hfw:∀ i j,i <= j->j < x.length->Way (nxt (exGr m ps l K)) (x.getD i 0) (x.getD j 0):=fun i j hij=>by
  induction hij with
  | refl=>intro _;exact .stay
  | @step j hj ih=>
   intro hlt;have h1:=ih (by omega)
   have h2:=hx.step j (by omega)
   rw [moAt_low hlt] at h2;exact h1.step h2
 have hback:x.getD s 0∈nxt (exGr m ps l K) (x.getD (x.length - 1) 0):=by
  have h1:=hx.step (x.length - 1) (by have:=hx.lt;omega)
  have e:x.length - 1+1=x.length:=by have:=hx.lt;omega
  have hm:moAt s x.length x.length=s:=by
   unfold moAt;rw [if_neg (Nat.lt_irrefl _),Nat.mod_self];rfl
  rw [e,hm] at h1;exact h1
 have hlt:=hx.lt;have hmut:∀ i,s <= i->i < x.length->Mut (exGr m ps l K) (x.getD s 0) (x.getD i 0):=fun i h1 h2=>⟨hfw s i h1 h2,(hfw i (x.length - 1) (by omega) (by omega)).step hback⟩
 refine fair_some (x:=x.getD s 0) (by rw [hK];exact hx.all s hlt) ⟨⟨x.getD 0 0,?_,hfw 0 s (Nat.zero_le _) hlt⟩,⟨x.getD (x.length - 1) 0,x.getD s 0,hmut _ (by omega) (by omega),⟨.stay,.stay⟩,hback⟩,fun k hk=>?_⟩
 ·rw [List.mem_range]
  show x.getD 0 0 < (((begL m ps l).length:Nat):Int).toNat
  rw [Int.toNat_natCast];exact hx.first
 ·have hk':k < (aheadL l).length:=by
   have:k < (((aheadL l).length:Nat):Int).toNat:=hk;rw [Int.toNat_natCast] at this;exact this
  obtain ⟨i,i1,i2,i3⟩:=hx.met k hk';refine ⟨x.getD i 0,hmut i i1 i2,?_⟩
  rcases exGr_bit (m:=m) (ps:=ps) (l:=l) (K:=K) (i:=x.getD i 0) (k:=k) with e | e
  ·rw [e];exact i3
  ·exact absurd e (xpT_pos (hx.all i i2))
end
def AllKeep (m:Mo) (ps:List (List (Int × Int))) (T:Tm):Prop:=∀ (path:List Int) (s:Nat),PRun m path s->T.hb (sig (path.map (letL m ps)) s) 0=true
section
variable {m : Mo} {ps : List (List (Int × Int))} {l : List (Int × Int)} {K : Nat}
theorem nextL_pos (x:Int):nextL m x≠[]:=fun h=>by
 have hs:=(upL_spec (rawL m x)).2
 have hr:rawL m x=[]:=by
  apply List.eq_nil_iff_forall_not_mem.2
  intro y hy;have:=(hs y).2 hy;have h':upL (rawL m x)=[]:=h;rw [h'] at this;exact absurd this List.not_mem_nil
 unfold rawL at hr
 split at hr
 ·simp at hr
 ·next h2=>exact h2 (by simpa using hr)
theorem keep_of_none {T:Tm} (hw:T.Wf) (ho:T.ops=l) (hz:endsCode (l.map Prod.fst)=0) (hv:∀ q,q < l.length->(l.getD q (0,0)).1=13->0 <= (l.getD q (0,0)).2) (h8:∀ q,q < l.length->8 <= (l.getD q (0,0)).1) (hk:tkcode m ps l=0) (h:ExDone m ps l K) (hf:fairC (exGr m ps l K)≠0):AllKeep m ps T:=fun path s hr=>by
 cases hb:T.hb (sig (path.map (letL m ps)) s) 0 with
 | true=>rfl
 | false=>
  obtain ⟨x,_,hx,_⟩:=run_way hw ho hz hv h8 hk h hr hb;exact absurd (way_fair h hx) hf
theorem not_keep {T:Tm} (hw:T.Wf) (ho:T.ops=l) (hz:endsCode (l.map Prod.fst)=0) (hv:∀ q,q < l.length->(l.getD q (0,0)).1=13->0 <= (l.getD q (0,0)).2) (h8:∀ q,q < l.length->8 <= (l.getD q (0,0)).1) (hk:tkcode m ps l=0) (h:ExDone m ps l K) {st lp:List Nat} (hL:LassoOk (exGr m ps l K) st lp):¬ AllKeep m ps T:=fun ha=>by
 obtain ⟨h1,h2⟩:=way_run hw ho hz hv h8 hk h (lasso_way h hL);rw [ha _ _ h1] at h2
 cases h2
end
end Go.Proofs.YtfofjdddplodpaaGreatDoor
namespace Go.Proofs.YtfofjdddplodpaaGreatDoor
open Go.ChangeShapes Go.WideShapes Go.ChangeAt Go.RowKit Go.Deep Go.Maps
open Terms Tm
set_option maxHeartbeats 6400000
set_option maxRecDepth 20000
section
variable {m : Mo} {ps : List (List (Int × Int))} {l : List (Int × Int)} {K : Nat}
theorem exGr_le (hk:tkcode m ps l=0) (h:ExDone m ps l K):GrLe (exGr m ps l K):=by
 have e1:(exGr m ps l K).spots.length=K:=h.1;have e2:(exGr m ps l K).next.length=K:=xpN_len K;have e3:(exGr m ps l K).sets.length=K:=xpT_len K;have hm0:=(pcode_m (tk_zero hk).1).1;have h6:=(lcode_zero (tk_zero hk).2).2.2.2.2;refine ⟨by rw [e1];have:=h.2.1;omega,by rw [e2];have:=h.2.1;omega,by rw [e3];have:=h.2.1;omega,fun i hi=>?_⟩
 rw [e2] at hi
 show ((xpN m ps l K).getD i []).length <= _
 rw [(xpN_row h hi).1]
 have hin:(xpP m ps l K).getD i (0,0)∈xpP m ps l K:=by
  have hl:i < (xpP m ps l K).length:=by rw [h.1];exact hi
  rw [List.getD_eq_getElem?_getD,List.getElem?_eq_getElem hl]
  exact List.getElem_mem _
 have:=behL_len (ps:=ps) (l:=l) (c:=((xpP m ps l K).getD i (0,0)).2) hm0 (h.2.2.2 _ hin).1 h6
 show (behL _ _ _ _ _).length <= _
 omega
noncomputable def stL (m:Mo) (ps:List (List (Int × Int))) (l:List (Int × Int)) (K:Nat) (x:List Nat):List Int:=(List.range x.length).map fun (j:Nat)=>((xpP m ps l K).getD (x.getD j 0) (0,0)).1
def VdAns (w:World) (m:Mo) (ps:List (List (Int × Int))) (l:List (Int × Int)) (e:Ending) (w':World):Prop:=
 (tkcode m ps l=0/\(∃ K,ExDone m ps l K/\fairC (exGr m ps l K)=11)/\e=.returned (.tuple #[.agg #[.bool true,.slice none 0 0,.slice none 0 0],.int .i64 0])/\Below w.heap.size w w')\/
 (tkcode m ps l=0/\∃ K st lp A B,ExDone m ps l K/\LassoOk (exGr m ps l K) st lp/\st.length <= 20000/\lp.length <= 2000000/\e=.returned (.tuple #[.agg #[.bool false,.slice (some ⟨A,0,none⟩) st.length st.length,.slice (some ⟨B,0,none⟩) lp.length lp.length],.int .i64 0])/\Below w.heap.size w w'/\Hid (IntsV w' (.slice (some ⟨A,0,none⟩) st.length st.length) (stL m ps l K st)/\IntsV w' (.slice (some ⟨B,0,none⟩) lp.length lp.length) (stL m ps l K lp)))\/
 (tkcode m ps l=0/\ExFull m ps l/\e=.returned (.tuple #[.agg #[.bool false,.slice none 0 0,.slice none 0 0],.int .i64 12])/\Below w.heap.size w w')\/
 (tkcode m ps l≠0/\e=.returned (.tuple #[.agg #[.bool false,.slice none 0 0,.slice none 0 0],.int .i64 (tkcode m ps l)])/\Below w.heap.size w w')
end
def vcP (g f0 f1:Value) (G:Nat) (st lp:List Int) (ns np:Nat):Nat->Value->World->Prop
 | 0,v,_=>v=g
 | 1,v,_=>v=.pointer (some ⟨G,0,none⟩)
 | 2,v,_=>v=f0
 | 3,v,w=>∃ R,v=.slice (some ⟨R,0,none⟩) ns ns/\IntsV w v st
 | 4,v,_=>v=g
 | 5,v,_=>v=.pointer (some ⟨G,1,none⟩)
 | 6,v,_=>v=f1
 | 7,v,w=>∃ R,v=.slice (some ⟨R,0,none⟩) np np/\IntsV w v lp
 | 8,v,w=>∃ A B,v=.agg #[.slice (some ⟨A,0,none⟩) ns ns,.slice (some ⟨B,0,none⟩) np np]/\IntsV w (.slice (some ⟨A,0,none⟩) ns ns) st/\IntsV w (.slice (some ⟨B,0,none⟩) np np) lp
 | 9,v,w=>∃ A B,v=.agg #[.bool false,.slice (some ⟨A,0,none⟩) ns ns,.slice (some ⟨B,0,none⟩) np np]/\IntsV w (.slice (some ⟨A,0,none⟩) ns ns) st/\IntsV w (.slice (some ⟨B,0,none⟩) np np) lp
 | _,_,_=>True
theorem vc_lt:∀ i,i < 10->i=0\/i=1\/i=2\/i=3\/i=4\/i=5\/i=6\/i=7\/i=8\/i=9:=by intro i hi;omega
theorem vcP_stable (g f0 f1:Value) (G:Nat) (st lp:List Int) (ns np:Nat) (i:Nat) (v:Value) (w w':World) (hi:i < 10) (h:vcP g f0 f1 G st lp ns np i v w) (hb:Below w.heap.size w w'):vcP g f0 f1 G st lp ns np i v w':=by
 rcases vc_lt i hi with rfl | rfl | rfl | rfl | rfl | rfl | rfl | rfl | rfl | rfl
 ·exact h
 ·exact h
 ·exact h
 ·obtain ⟨R,h1,h2⟩:=h;exact ⟨R,h1,h2.below hb⟩
 ·exact h
 ·exact h
 ·exact h
 ·obtain ⟨R,h1,h2⟩:=h;exact ⟨R,h1,h2.below hb⟩
 ·obtain ⟨A,B,h1,h2,h3⟩:=h;exact ⟨A,B,h1,h2.below hb,h3.below hb⟩
 ·obtain ⟨A,B,h1,h2,h3⟩:=h;exact ⟨A,B,h1,h2.below hb,h3.below hb⟩
theorem IntsV.setBool {w:World} {v:Value} {l:List Int} {p:Addr} {b:Bool} (h:IntsV w v l) (hc:w.cell? p=some (.bool b)) (u:Value):IntsV (w.setCell p u) v l:=by
 obtain ⟨ao,cap,rfl,h⟩:=h;refine ⟨ao,cap,rfl,fun hne=>?_⟩
 obtain ⟨c,off,rfl,hlt,hat⟩:=h hne;refine ⟨c,off,rfl,by simpa using hlt,fun j hj=>?_⟩
 have h1:=hat j hj
 have hne2:(⟨c,off+j,none⟩:Addr)≠p:=by
  intro e;rw [e,hc] at h1;simp at h1
 rw [World.cell?_setCell_other _ _ _ _ hne2.symm]
 exact h1
theorem boxed {w:World} {v:Value} {x:List Int} {R:Nat} {b:Bool} {a1 a2:Option Addr} {n1 n2 c1 c2:Nat} (h:IntsV w v x) (k0:w.cell? ⟨R,0,none⟩=some (.bool b)) (k1:w.cell? ⟨R,1,none⟩=some (.slice a1 n1 c1)) (k2:w.cell? ⟨R,2,none⟩=some (.slice a2 n2 c2)) (u0 u1 u2:Value):IntsV (((w.setCell ⟨R,0,none⟩ u0).setCell ⟨R,1,none⟩ u1).setCell ⟨R,2,none⟩ u2) v x:=by
 have h0:=h.setBool k0 u0;have h1:=h0.setBox (p:=⟨R,1,none⟩) ((World.cell?_setCell_other _ _ _ _ (by simp)).trans k1) u1
 exact h1.setBox (p:=⟨R,2,none⟩) ((World.cell?_setCell_other _ _ _ _ (by simp)).trans ((World.cell?_setCell_other _ _ _ _ (by simp)).trans k2)) u2
def laB (sv lv:Value):Obj:=.cells #[sv,lv] 38 (0,0)
theorem laB_cells {w:World} {X:Nat} {sv lv:Value} (hb:w.heap[X]? = some (laB sv lv)):w.cell? ⟨X,0,none⟩=some sv/\w.cell? ⟨X,1,none⟩=some lv:=by
 unfold laB at hb;refine ⟨?_,?_⟩ <;> simp [World.cell?,hb]
theorem vcheck_bad (va vr pv fv:Value) (m:Mo) (ps:List (List (Int × Int))) (l:List (Int × Int)) (w:World) (hV:TaskV w va vr pv fv m ps l) (c:Int) (hc:c≠0) (hex:∀ w',Below w.heap.size w w'->Calls Tryz.prog 12 #[.agg #[va,vr,pv,fv]] w' fun e w2=>e=.returned (.tuple #[.agg #[.slice none 0 0,.int .i64 0,.slice none 0 0,.slice none 0 0,.int .i64 0],.int .i64 c])/\Below w'.heap.size w' w2) :
    Calls Tryz.prog 5 #[.agg #[va,vr,pv,fv]] w fun e w'=>e=.returned (.tuple #[.agg #[.bool false,.slice none 0 0,.slice none 0 0],.int .i64 c])/\Below w.heap.size w w':=by
  obtain ⟨ao,ac,rfl⟩:=hV.mo.1.shape;obtain ⟨ro,rc,rfl⟩:=hV.mo.2.shape;obtain ⟨po,pc,rfl⟩:=hV.ps.shape;obtain ⟨fo,fc,rfl,_⟩:=id hV.fo;clear hV;generalize m.vars.length=vn at *;generalize m.rules.length=rn at *;generalize ps.length=pn at *;generalize l.length=fn at *
  obtain ⟨W1,hW1⟩:∃ W1,W1=(w.alloc (.cells #[.slice ao vn ac,.slice ro rn rc,.slice po pn pc,.slice fo fn fc] 35)).alloc (.cells #[.bool false,.slice none 0 0,.slice none 0 0] 40):=⟨_,rfl⟩
  have hb1:Below w.heap.size w W1:=by rw [hW1];exact ((Below.refl _ _).alloc (Nat.le_refl _) _).alloc (by simp) _
  have hz1:W1.heap.size=w.heap.size+2:=by rw [hW1];simp
  have he:=hex W1 hb1
  have HBx:Hid (∀ w',Below W1.heap.size W1 w'->(w'.cell? ⟨w.heap.size+1,0,none⟩=some (.bool false)/\w'.cell? ⟨w.heap.size+1,1,none⟩=some (.slice none 0 0)/\w'.cell? ⟨w.heap.size+1,2,none⟩=some (.slice none 0 0))/\(w'.frozen? ⟨w.heap.size+1,0,none⟩=false/\w'.frozen? ⟨w.heap.size+1,1,none⟩=false/\w'.frozen? ⟨w.heap.size+1,2,none⟩=false)):=fun w' h=>by
    have hlt:w.heap.size+1 < W1.heap.size:=by omega
    refine ⟨⟨?_,?_,?_⟩,?_,?_,?_⟩
    · exact (h.cell (p:=⟨w.heap.size+1,0,none⟩) hlt).trans (by rw [hW1];simp [go_sem])
    · exact (h.cell (p:=⟨w.heap.size+1,1,none⟩) hlt).trans (by rw [hW1];simp [go_sem])
    · exact (h.cell (p:=⟨w.heap.size+1,2,none⟩) hlt).trans (by rw [hW1];simp [go_sem])
    · exact (h.frozen (p:=⟨w.heap.size+1,0,none⟩) hlt).trans (by rw [hW1];simp [go_sem])
    · exact (h.frozen (p:=⟨w.heap.size+1,1,none⟩) hlt).trans (by rw [hW1];simp [go_sem])
    · exact (h.frozen (p:=⟨w.heap.size+1,2,none⟩) hlt).trans (by rw [hW1];simp [go_sem])
  have HW1:=(show Hid (W1=_) from hW1)
  clear hW1 hex
  go_enter Tryz.func5,Tryz.ntmps5
  go_upto_region 2 with (go_at_call 12;rw [<- HW1.out];refine he.mono ?_;rintro e w2 ⟨rfl,hb2⟩)
  have hbA:Below w2.heap.size w2 (w2.alloc (.cells #[.slice none 0 0,.int .i64 0,.slice none 0 0,.slice none 0 0,.int .i64 0] 56)):=(Below.refl _ _).alloc (Nat.le_refl _) _;have hb3:=hb2.trans (hbA.mono hb2.size);generalize w2.alloc (.cells #[.slice none 0 0,.int .i64 0,.slice none 0 0,.slice none 0 0,.int .i64 0] 56)=W3 at *;obtain ⟨⟨r0,r1,r2⟩,f0,f1,f2⟩:=HBx.out W3 hb3
  have hbw3:=hb1.trans (hb3.mono hb1.size);have hcb:¬ c=0:=hc;clear HBx HW1 he
  go_wp2_with fail
  refine bodyPost_ret (v:=.tuple #[.agg #[.bool false,.slice none 0 0,.slice none 0 0],.int .i64 c]) ?_ rfl ⟨rfl,?_⟩
  · simp only [results,Tryz.results5]
    simp [go_sem,r0,r1,r2]
  · exact ((hbw3.setCell (p:=⟨w.heap.size+1,0,none⟩) (by show w.heap.size <= w.heap.size+1;omega) _).setCell (p:=⟨w.heap.size+1,1,none⟩) (by show w.heap.size <= w.heap.size+1;omega) _).setCell (p:=⟨w.heap.size+1,2,none⟩) (by show w.heap.size <= w.heap.size+1;omega) _
theorem vcheck_ok (va vr pv fv:Value) (m:Mo) (ps:List (List (Int × Int))) (l:List (Int × Int)) (w:World) (hB:0 < w.heap.size) (hT:TabAt w) (hV:TaskV w va vr pv fv m ps l) (hk:tkcode m ps l=0) (hnf:¬ ExFull m ps l) :
  Calls Tryz.prog 5 #[.agg #[va,vr,pv,fv]] w (VdAns w m ps l):=by
 obtain ⟨ao,ac,rfl⟩:=hV.mo.1.shape;obtain ⟨ro,rc,rfl⟩:=hV.mo.2.shape;obtain ⟨po,pc,rfl⟩:=hV.ps.shape;obtain ⟨fo,fc,rfl,_⟩:=id hV.fo;obtain ⟨W1,hW1⟩:∃ W1,W1=(w.alloc (.cells #[.slice ao m.vars.length ac,.slice ro m.rules.length rc,.slice po ps.length pc,.slice fo l.length fc] 35)).alloc (.cells #[.bool false,.slice none 0 0,.slice none 0 0] 40):=⟨_,rfl⟩
 have hb1:Below w.heap.size w W1:=by rw [hW1];exact ((Below.refl _ _).alloc (Nat.le_refl _) _).alloc (by simp) _
 have hz1:W1.heap.size=w.heap.size+2:=by rw [hW1];simp
 have hex:Calls Tryz.prog 12 #[.agg #[.slice ao m.vars.length ac,.slice ro m.rules.length rc,.slice po ps.length pc,.slice fo l.length fc]] W1 fun e w2=>∃ K so sc no nc xo xc,e=.returned (.tuple #[.agg #[.slice so K sc,.int .i64 ((begL m ps l).length:Nat),.slice no K nc,.slice xo K xc,.int .i64 ((aheadL l).length:Nat)],.int .i64 0])/\Below W1.heap.size W1 w2/\K <= 20000/\Hid (ExDone m ps l K/\GraphV w2 (.slice so K sc) (.slice no K nc) (.slice xo K xc) (exGr m ps l K)):=by
  refine (explore_any _ _ _ _ m ps l W1 (Nat.lt_of_lt_of_le hB hb1.size) (hT.below hb1 hB) (hV.below hb1)).mono fun e w2 hx=>?_
  rcases hx with ⟨_,K,hD,sv,nv,tv,e1,h2,HG⟩ | ⟨_,hf,_,_⟩ | ⟨h1,_,_⟩
  ·have hGr:=HG.out.graph
   obtain ⟨so,sc,rfl⟩:=HG.out.1.shape;obtain ⟨us,n1,_⟩:=HG.out.2.1;obtain ⟨no,nc,rfl⟩:=owns_slice n1;obtain ⟨xo,xc,rfl⟩:=owns_slice HG.out.2.2;rw [hD.1,xpN_len,xpT_len] at e1 hGr;exact ⟨K,so,sc,no,nc,xo,xc,e1,h2,hD.2.1,hD,hGr⟩
  ·exact absurd hf hnf
  ·exact absurd hk h1
 have HBx:Hid (∀ w',Below W1.heap.size W1 w'->(w'.cell? ⟨w.heap.size+1,0,none⟩=some (.bool false)/\w'.cell? ⟨w.heap.size+1,1,none⟩=some (.slice none 0 0)/\w'.cell? ⟨w.heap.size+1,2,none⟩=some (.slice none 0 0))/\(w'.frozen? ⟨w.heap.size+1,0,none⟩=false/\w'.frozen? ⟨w.heap.size+1,1,none⟩=false/\w'.frozen? ⟨w.heap.size+1,2,none⟩=false)):=fun w' h=>by
  have hlt:w.heap.size+1 < W1.heap.size:=by omega
  refine ⟨⟨?_,?_,?_⟩,?_,?_,?_⟩
  ·exact (h.cell (p:=⟨w.heap.size+1,0,none⟩) hlt).trans (by rw [hW1];simp [go_sem])
  ·exact (h.cell (p:=⟨w.heap.size+1,1,none⟩) hlt).trans (by rw [hW1];simp [go_sem])
  ·exact (h.cell (p:=⟨w.heap.size+1,2,none⟩) hlt).trans (by rw [hW1];simp [go_sem])
  ·exact (h.frozen (p:=⟨w.heap.size+1,0,none⟩) hlt).trans (by rw [hW1];simp [go_sem])
  ·exact (h.frozen (p:=⟨w.heap.size+1,1,none⟩) hlt).trans (by rw [hW1];simp [go_sem])
  ·exact (h.frozen (p:=⟨w.heap.size+1,2,none⟩) hlt).trans (by rw [hW1];simp [go_sem])
 have HLa:Hid (∀ (w':World) (so no xo:Option Addr) (sc nc xc K:Nat),ExDone m ps l K->GraphV w' (.slice so K sc) (.slice no K nc) (.slice xo K xc) (exGr m ps l K)->Calls Tryz.prog 13 #[.agg #[.slice so K sc,.int .i64 ((begL m ps l).length:Nat),.slice no K nc,.slice xo K xc,.int .i64 ((aheadL l).length:Nat)]] w' fun e w2=>∃ t0 tn tc uo un uc c,e=.returned (.tuple #[.agg #[.slice t0 tn tc,.slice uo un uc],.int .i64 c])/\Below w'.heap.size w' w2/\Hid (LassoV (exGr m ps l K) w2 (.agg #[.slice t0 tn tc,.slice uo un uc]) c)):=fun w' so no xo sc nc xc K hD hGr=>by
  have hok:=exGr_ok hk hD;have hc0:gcode (exGr m ps l K)=0:=gcode_ok hok.head hok.row;have e1:(exGr m ps l K).spots.length=K:=hD.1;have e2:(exGr m ps l K).next.length=K:=xpN_len K;have e3:(exGr m ps l K).sets.length=K:=xpT_len K;have h:=slasso_ok so no xo sc nc xc (exGr m ps l K) w' (exGr_le hk hD) (by rw [e1,e2,e3];exact hGr) hc0
  rw [e1,e2,e3] at h;refine h.mono fun e w2 ⟨v,c,g1,g2,g3⟩=>?_
  rcases id g3.out with ⟨_,_,rfl⟩ | ⟨_,_,t0,tc,uo,uc,st,lp,rfl,_⟩
  ·exact ⟨_,_,_,_,_,_,c,g1,g2,g3⟩
  ·exact ⟨_,_,_,_,_,_,c,g1,g2,g3⟩
 have HSt:Hid (∀ (w':World) (so no xo po:Option Addr) (sc nc xc pc K:Nat) (x:List Nat),ExDone m ps l K->OpsV w' (.slice so K sc) (xpP m ps l K)->NatsV w' (.slice po x.length pc) x->(∀ y∈x,y < K)->x.length <= 2000000->Calls Tryz.prog 14 #[.agg #[.slice so K sc,.int .i64 ((begL m ps l).length:Nat),.slice no K nc,.slice xo K xc,.int .i64 ((aheadL l).length:Nat)],.slice po x.length pc] w' fun e w2=>∃ R,e=.returned (.slice (some ⟨R,0,none⟩) x.length x.length)/\Below w'.heap.size w' w2/\Hid (IntsV w2 (.slice (some ⟨R,0,none⟩) x.length x.length) (stL m ps l K x))):=fun w' so no xo po sc nc xc pc K x hD hO hN hlt hz=>by
  have h:=statesAt_any so no xo po sc K nc K xc pc ((begL m ps l).length:Nat) ((aheadL l).length:Nat) (xpP m ps l K) x w' (by rw [hD.1];exact hO) hN (fun i hi=>by
   rw [hD.1];refine hlt _ ?_
   rw [List.getD_eq_getElem?_getD,List.getElem?_eq_getElem hi]
   exact List.getElem_mem _) hz (by rw [hD.1];exact hD.2.1)
  rw [hD.1] at h;exact h
 have HTk:Hid (tkcode m ps l=0):=hk;have HW1:=(show Hid (W1=_) from hW1)
 clear hW1 hV hT hk hnf;unfold VdAns;generalize hbl:(begL m ps l).length=bn at *;generalize hal:(aheadL l).length=an at *;generalize m.vars.length=vn at *;generalize m.rules.length=rn at *;generalize ps.length=pn at *;generalize l.length=fn at *;clear hbl hal
 go_enter Tryz.func5,Tryz.ntmps5
 go_upto_region 2 with (go_at_call 12;rw [<- HW1.out];refine hex.mono ?_;rintro e w2 ⟨K,so,sc,no,nc,xo,xc,rfl,hb2,hK,HD⟩)
 have hbA:Below w2.heap.size w2 (w2.alloc (.cells #[.slice so K sc,.int .i64 (bn:Nat),.slice no K nc,.slice xo K xc,.int .i64 (an:Nat)] 56)):=(Below.refl _ _).alloc (Nat.le_refl _) _
 have hbg:(w2.alloc (.cells #[.slice so K sc,.int .i64 (bn:Nat),.slice no K nc,.slice xo K xc,.int .i64 (an:Nat)] 56)).heap[w2.heap.size]? = some (grB (.slice so K sc) (.slice no K nc) (.slice xo K xc) (bn:Nat) (an:Nat)):=(MapKept.heap_alloc w2 _).1;have hb3:=hb2.trans (hbA.mono hb2.size)
 have HG3:Hid (GraphV (w2.alloc (.cells #[.slice so K sc,.int .i64 (bn:Nat),.slice no K nc,.slice xo K xc,.int .i64 (an:Nat)] 56)) (.slice so K sc) (.slice no K nc) (.slice xo K xc) (exGr m ps l K)):=HD.out.2.below hbA;have HDn:Hid (ExDone m ps l K):=HD.out.1;have hXw:W1.heap.size <= w2.heap.size:=hb2.size
 generalize w2.alloc (.cells #[.slice so K sc,.int .i64 (bn:Nat),.slice no K nc,.slice xo K xc,.int .i64 (an:Nat)] 56)=W3 at *;generalize w2.heap.size=X at *;have hla:=HLa.out W3 so no xo sc nc xc K HDn.out HG3.out;obtain ⟨g0,g1,g2,g3,g4⟩:=grB_cells hbg
 have HGb:Hid (W3.heap[X]? = some (grB (.slice so K sc) (.slice no K nc) (.slice xo K xc) (bn:Nat) (an:Nat))):=hbg;clear HD hex HLa hbA hbg HW1
 go_upto_region 5 with (go_at_call 13;refine hla.mono ?_;rintro e w4 ⟨t0,tn,tc,uo,un,uc,c,rfl,hb4,HL⟩)
 have hbB:Below w4.heap.size w4 (w4.alloc (.cells #[.slice t0 tn tc,.slice uo un uc] 38)):=(Below.refl _ _).alloc (Nat.le_refl _) _;have hbl5:(w4.alloc (.cells #[.slice t0 tn tc,.slice uo un uc] 38)).heap[w4.heap.size]? = some (laB (.slice t0 tn tc) (.slice uo un uc)):=(MapKept.heap_alloc w4 _).1;have hb35:=hb4.trans (hbB.mono hb4.size);have hb5:=hb3.trans (hb35.mono hb3.size)
 have hbw5:=hb1.trans (hb5.mono hb1.size);obtain ⟨⟨r0,r1,r2⟩,f0,f1,f2⟩:=HBx.out _ hb5;clear hla g0 g1 g2 g3 g4
 rcases HL.out with ⟨rfl,hfc,hv⟩ | ⟨rfl,hfc,t0',tc',uo',uc',st,lp,hv,hst,hlp,hLo,hN1,hN2⟩
 ·generalize w4.alloc (.cells #[.slice t0 tn tc,.slice uo un uc] 38)=W5 at *
  have HR:Hid (∃ K,ExDone m ps l K/\fairC (exGr m ps l K)=11):=⟨K,HDn.out,hfc⟩
  clear hfc hv HL HBx HSt HDn HG3 HGb hbl5
  go_wp2_with fail
  refine bodyPost_ret (v:=.tuple #[.agg #[.bool true,.slice none 0 0,.slice none 0 0],.int .i64 0]) ?_ rfl (.inl ⟨HTk.out,HR.out,rfl,?_⟩)
  ·simp only [results,Tryz.results5]
   simp [go_sem,r0,r1,r2]
  ·exact ((hbw5.setCell (p:=⟨w.heap.size+1,0,none⟩) (by show w.heap.size <= w.heap.size+1;omega) _).setCell (p:=⟨w.heap.size+1,1,none⟩) (by show w.heap.size <= w.heap.size+1;omega) _).setCell (p:=⟨w.heap.size+1,2,none⟩) (by show w.heap.size <= w.heap.size+1;omega) _
 ·simp only [Value.agg.injEq,Array.mk.injEq,List.cons.injEq,Value.slice.injEq,and_true] at hv
  obtain ⟨⟨rfl,rfl,rfl⟩,rfl,rfl,rfl⟩:=hv
  have hlo1:∀ y∈st,y < K:=fun y hy=>by
   have:=hLo.lt y (List.mem_append.2 (.inl hy));rw [show (exGr m ps l K).spots.length=K from HDn.out.1] at this
   exact this
  have hlo2:∀ y∈lp,y < K:=fun y hy=>by
   have:=hLo.lt y (List.mem_append.2 (.inr hy));rw [show (exGr m ps l K).spots.length=K from HDn.out.1] at this
   exact this
  have hN1b:=hN1.below hbB;have hN2b:=hN2.below hbB
  have HRw:Hid (∀ w',Below (w4.alloc (.cells #[.slice t0 st.length tc,.slice uo lp.length uc] 38)).heap.size (w4.alloc (.cells #[.slice t0 st.length tc,.slice uo lp.length uc] 38)) w'->((w'.cell? ⟨X,0,none⟩=some (.slice so K sc)/\w'.cell? ⟨X,1,none⟩=some (.int .i64 (bn:Nat))/\w'.cell? ⟨X,2,none⟩=some (.slice no K nc)/\w'.cell? ⟨X,3,none⟩=some (.slice xo K xc)/\w'.cell? ⟨X,4,none⟩=some (.int .i64 (an:Nat)))/\(w'.cell? ⟨w4.heap.size,0,none⟩=some (.slice t0 st.length tc)/\w'.cell? ⟨w4.heap.size,1,none⟩=some (.slice uo lp.length uc)))/\(Calls Tryz.prog 14 #[.agg #[.slice so K sc,.int .i64 (bn:Nat),.slice no K nc,.slice xo K xc,.int .i64 (an:Nat)],.slice t0 st.length tc] w' fun e w2=>∃ R,e=.returned (.slice (some ⟨R,0,none⟩) st.length st.length)/\Below w'.heap.size w' w2/\Hid (IntsV w2 (.slice (some ⟨R,0,none⟩) st.length st.length) (stL m ps l K st)))/\(Calls Tryz.prog 14 #[.agg #[.slice so K sc,.int .i64 (bn:Nat),.slice no K nc,.slice xo K xc,.int .i64 (an:Nat)],.slice uo lp.length uc] w' fun e w2=>∃ R,e=.returned (.slice (some ⟨R,0,none⟩) lp.length lp.length)/\Below w'.heap.size w' w2/\Hid (IntsV w2 (.slice (some ⟨R,0,none⟩) lp.length lp.length) (stL m ps l K lp)))/\Below W1.heap.size W1 w'):=fun w' h=>by
   have h3:=hb35.trans (h.mono hb35.size);have hbx:=(h3.block X (Array.getElem?_eq_some_iff.1 HGb.out).1).trans HGb.out
   have hbl:=(h.block w4.heap.size (Array.getElem?_eq_some_iff.1 hbl5).1).trans hbl5
   have hsp:=HG3.out.spots.below h3;exact ⟨⟨grB_cells hbx,laB_cells hbl⟩,HSt.out w' so no xo t0 sc nc xc tc K st HDn.out hsp (hN1b.below h) hlo1 (by omega),HSt.out w' so no xo uo sc nc xc uc K lp HDn.out hsp (hN2b.below h) hlo2 (by omega),hb5.trans (h.mono hb5.size)⟩
  have HLo:Hid (LassoOk (exGr m ps l K) st lp):=hLo;have HSz:Hid (st.length <= 20000/\lp.length <= 2000000):=⟨hst,hlp⟩;clear hN1 hN2 hN1b hN2b hlo1 hlo2 HL hbl5 HG3 HGb HSt hb35 hbB hLo hfc hst hlp;generalize w4.alloc (.cells #[.slice t0 st.length tc,.slice uo lp.length uc] 38)=W5 at *;generalize w4.heap.size=L5 at *;obtain ⟨ns,hns⟩:∃ n,st.length=n:=⟨_,rfl⟩
  obtain ⟨np,hnp⟩:∃ n,lp.length=n:=⟨_,rfl⟩
  obtain ⟨xs,hxs⟩:∃ x,stL m ps l K st=x:=⟨_,rfl⟩
  obtain ⟨xp,hxp⟩:∃ x,stL m ps l K lp=x:=⟨_,rfl⟩
  have HN:Hid ((st.length=ns/\lp.length=np)/\stL m ps l K st=xs/\stL m ps l K lp=xp):=⟨⟨hns,hnp⟩,hxs,hxp⟩;rw [hns,hnp,hxs,hxp] at HRw;rw [hns,hnp];clear hns hnp hxs hxp
  go_upto_region 9 with fail
  go_cut [3] (fun u wx=>u=.int .i64 0/\∃ A B,Hid (IntsV wx (.slice (some ⟨A,0,none⟩) ns ns) xs/\IntsV wx (.slice (some ⟨B,0,none⟩) np np) xp/\Below w.heap.size w wx)/\wx.cell? ⟨w.heap.size+1,0,none⟩=some (.bool false)/\wx.cell? ⟨w.heap.size+1,1,none⟩=some (.slice (some ⟨A,0,none⟩) ns ns)/\wx.cell? ⟨w.heap.size+1,2,none⟩=some (.slice (some ⟨B,0,none⟩) np np))
  case first=>
   rename_i J K' hJ hK';generalize ha0:Act.mk _ _=a0;have hsz:a0.tmps.size=38:=by rw [<- ha0];rfl
   have a4:a0.eval (.tmp 4)=.pointer (some ⟨X,0,none⟩):=by rw [<- ha0];rfl
   have a6:a0.eval (.tmp 6)=.pointer (some ⟨L5,0,none⟩):=by rw [<- ha0];rfl
   have a2:a0.eval (.tmp 2)=.pointer (some ⟨w.heap.size+1,0,none⟩):=by rw [<- ha0];rfl
   refine wp_anyway (by rfl) [28,29,30,31,32,33,34,35,36,37,3] 10 (vcP (.agg #[.slice so K sc,.int .i64 (bn:Nat),.slice no K nc,.slice xo K xc,.int .i64 (an:Nat)]) (.slice t0 ns tc) (.slice uo np uc) L5 xs xp ns np) (by rw [hsz];rfl) (vcP_stable _ _ _ _ _ _ _ _) ?_ ?_
   ·intro i o hi ho q w' hb hq
    have f:∀ t,[28,29,30,31,32,33,34,35,36,37,3].contains t=true->t < 38->(frm a0 [28,29,30,31,32,33,34,35,36,37,3] q).eval (.tmp t)=q t:=fun t h1 h2=>frm_in h1 (by rw [hsz];exact h2)
    have e4:(frm a0 [28,29,30,31,32,33,34,35,36,37,3] q).eval (.tmp 4)=.pointer (some ⟨X,0,none⟩):=(frm_out rfl).trans a4;have e6:(frm a0 [28,29,30,31,32,33,34,35,36,37,3] q).eval (.tmp 6)=.pointer (some ⟨L5,0,none⟩):=(frm_out rfl).trans a6;obtain ⟨⟨⟨x0,x1,x2,x3,x4⟩,y0,y1⟩,hs1,hs2,_⟩:=HRw.out w' hb
    obtain ⟨ev,hev⟩:∃ ev,ev=(frm a0 [28,29,30,31,32,33,34,35,36,37,3] q).eval:=⟨_,rfl⟩
    have evf:∀ n,ev (.func n)=.func (.func n) #[] #[]:=fun n=>by rw [hev];rfl
    rw [<- hev] at f e4 e6
    rcases vc_lt i hi with rfl | rfl | rfl | rfl | rfl | rfl | rfl | rfl | rfl | rfl
    all_goals obtain rfl:=Option.some.inj ho
    ·refine op_val (w':=w') ?_ (Below.refl _ _) rfl
     rw [<- hev];simp [execOp,e4,go_sem,x0,x1,x2,x3,x4]
    ·refine op_val (w':=w') ?_ (Below.refl _ _) rfl
     rw [<- hev];simp [execOp,e6,go_sem]
    ·have e29:=(f 29 rfl (by decide)).trans (hq 1 29 rfl rfl)
     refine op_val (w':=w') ?_ (Below.refl _ _) rfl
     rw [<- hev];simp [execOp,e29,go_sem,y0]
    ·have e28:=(f 28 rfl (by decide)).trans (hq 0 28 rfl rfl)
     have e30:=(f 30 rfl (by decide)).trans (hq 2 30 rfl rfl)
     refine op_call (f:=14) (args:=#[.agg #[.slice so K sc,.int .i64 (bn:Nat),.slice no K nc,.slice xo K xc,.int .i64 (an:Nat)],.slice t0 ns tc]) ?_ (hs1.mono ?_)
     ·rw [<- hev];simp [execOp,e28,e30,evf,go_sem]
     ·rintro e w2 ⟨R,rfl,h2,h3⟩
      exact ⟨_,rfl,h2,R,rfl,h3.out⟩
    ·refine op_val (w':=w') ?_ (Below.refl _ _) rfl
     rw [<- hev];simp [execOp,e4,go_sem,x0,x1,x2,x3,x4]
    ·refine op_val (w':=w') ?_ (Below.refl _ _) rfl
     rw [<- hev];simp [execOp,e6,go_sem]
    ·have e33:=(f 33 rfl (by decide)).trans (hq 5 33 rfl rfl)
     refine op_val (w':=w') ?_ (Below.refl _ _) rfl
     rw [<- hev];simp [execOp,e33,go_sem,y1]
    ·have e32:=(f 32 rfl (by decide)).trans (hq 4 32 rfl rfl)
     have e34:=(f 34 rfl (by decide)).trans (hq 6 34 rfl rfl)
     refine op_call (f:=14) (args:=#[.agg #[.slice so K sc,.int .i64 (bn:Nat),.slice no K nc,.slice xo K xc,.int .i64 (an:Nat)],.slice uo np uc]) ?_ (hs2.mono ?_)
     ·rw [<- hev];simp [execOp,e32,e34,evf,go_sem]
     ·rintro e w2 ⟨R,rfl,h2,h3⟩
      exact ⟨_,rfl,h2,R,rfl,h3.out⟩
    ·obtain ⟨A,hA,hA2⟩:=hq 3 31 rfl rfl
     obtain ⟨B,hB',hB2⟩:=hq 7 35 rfl rfl;have e31:=(f 31 rfl (by decide)).trans hA
     have e35:=(f 35 rfl (by decide)).trans hB'
     refine op_val (w':=w') (v:=.agg #[.slice (some ⟨A,0,none⟩) ns ns,.slice (some ⟨B,0,none⟩) np np]) ?_ (Below.refl _ _) ⟨A,B,rfl,by rw [<- hA];exact hA2,by rw [<- hB'];exact hB2⟩
     rw [<- hev];simp [execOp,e31,e35,go_sem]
    ·obtain ⟨A,B,hA,hA2,hB2⟩:=hq 8 36 rfl rfl
     have e36:=(f 36 rfl (by decide)).trans hA
     refine op_val (w':=w') (v:=.agg #[.bool false,.slice (some ⟨A,0,none⟩) ns ns,.slice (some ⟨B,0,none⟩) np np]) ?_ (Below.refl _ _) ⟨A,B,rfl,hA2,hB2⟩
     rw [<- hev];simp [execOp,e36,go_sem]
   ·intro q w' hb hq
    have f:∀ q t,[28,29,30,31,32,33,34,35,36,37,3].contains t=true->t < 38->(frm a0 [28,29,30,31,32,33,34,35,36,37,3] q).eval (.tmp t)=q t:=fun q t h1 h2=>frm_in h1 (by rw [hsz];exact h2)
    obtain ⟨A,B,h37,hA2,hB2⟩:=hq 9 37 (by decide) rfl
    have e37:=(f q 37 rfl (by decide)).trans h37
    have e2:(frm a0 [28,29,30,31,32,33,34,35,36,37,3] q).eval (.tmp 2)=.pointer (some ⟨w.heap.size+1,0,none⟩):=(frm_out rfl).trans a2;obtain ⟨_,_,_,hbW⟩:=HRw.out w' hb;obtain ⟨⟨k0,k1,k2⟩,l0,l1,l2⟩:=HBx.out w' hbW
    show wpOps Tryz.prog _ _ [10,11] _ _
    rw [wpOps_cons];refine op_atR rfl rfl ?_
    refine op_skip (w':=((w'.setCell ⟨w.heap.size+1,0,none⟩ (.bool false)).setCell ⟨w.heap.size+1,1,none⟩ (.slice (some ⟨A,0,none⟩) ns ns)).setCell ⟨w.heap.size+1,2,none⟩ (.slice (some ⟨B,0,none⟩) np np)) rfl ?_ ?_
    ·generalize (frm a0 [28,29,30,31,32,33,34,35,36,37,3] q).eval=ev at e37 e2 ⊢
     simp [execOp,e2,e37,go_sem,k0,k1,k2,l0,l1,l2]
    rw [wpOps_cons];refine op_atR rfl rfl ?_
    refine op_run (w':=((w'.setCell ⟨w.heap.size+1,0,none⟩ (.bool false)).setCell ⟨w.heap.size+1,1,none⟩ (.slice (some ⟨A,0,none⟩) ns ns)).setCell ⟨w.heap.size+1,2,none⟩ (.slice (some ⟨B,0,none⟩) np np)) (v:=.int .i64 0) ?_ ?_
    ·have evc:∀ v,(frm a0 [28,29,30,31,32,33,34,35,36,37,3] q).eval (.const v)=v:=fun v=>rfl
     generalize (frm a0 [28,29,30,31,32,33,34,35,36,37,3] q).eval=ev at evc ⊢;simp [execOp,evc,go_sem]
    rw [late_put 3 rfl rfl]
    show K' _ _
    refine hK' _ _ ?_
    rw [<- ha0]
    go_meet
    have hbF:=hb1.trans (hbW.mono hb1.size);have n0:∀ A',IntsV w' A' xs->IntsV (((w'.setCell ⟨w.heap.size+1,0,none⟩ (.bool false)).setCell ⟨w.heap.size+1,1,none⟩ (.slice (some ⟨A,0,none⟩) ns ns)).setCell ⟨w.heap.size+1,2,none⟩ (.slice (some ⟨B,0,none⟩) np np)) A' xs:=fun A' h=>boxed h k0 k1 k2 _ _ _
    have n1:∀ A',IntsV w' A' xp->IntsV (((w'.setCell ⟨w.heap.size+1,0,none⟩ (.bool false)).setCell ⟨w.heap.size+1,1,none⟩ (.slice (some ⟨A,0,none⟩) ns ns)).setCell ⟨w.heap.size+1,2,none⟩ (.slice (some ⟨B,0,none⟩) np np)) A' xp:=fun A' h=>boxed h k0 k1 k2 _ _ _
    refine ⟨setV_same q 3 _,A,B,⟨n0 _ hA2,n1 _ hB2,((hbF.setCell (p:=⟨w.heap.size+1,0,none⟩) (by show w.heap.size <= w.heap.size+1;omega) _).setCell (p:=⟨w.heap.size+1,1,none⟩) (by show w.heap.size <= w.heap.size+1;omega) _).setCell (p:=⟨w.heap.size+1,2,none⟩) (by show w.heap.size <= w.heap.size+1;omega) _⟩,?_,?_,?_⟩
    ·rw [World.cell?_setCell_other _ _ _ _ (by simp),World.cell?_setCell_other _ _ _ _ (by simp)]
     exact World.cell?_setCell_same _ _ _ k0
    ·rw [World.cell?_setCell_other _ _ _ _ (by simp)]
     refine World.cell?_setCell_same _ _ _ (u:=.slice none 0 0) ?_
     rw [World.cell?_setCell_other _ _ _ _ (by simp)]
     exact k1
    ·refine World.cell?_setCell_same _ _ _ (u:=.slice none 0 0) ?_
     rw [World.cell?_setCell_other _ _ _ _ (by simp),World.cell?_setCell_other _ _ _ _ (by simp)]
     exact k2
  case rest=>
   obtain ⟨rfl,A,B,HE,z0,z1,z2⟩:=hcut
   go_wp2_with fail
   obtain ⟨⟨hn1,hn2⟩,hx1,hx2⟩:=HN.out;refine bodyPost_ret (v:=.tuple #[.agg #[.bool false,.slice (some ⟨A,0,none⟩) ns ns,.slice (some ⟨B,0,none⟩) np np],.int .i64 0]) ?_ rfl (.inr (.inl ⟨HTk.out,K,st,lp,A,B,HDn.out,HLo.out,HSz.out.1,HSz.out.2,by rw [hn1,hn2],HE.out.2.2,by rw [hn1,hn2,hx1,hx2];exact ⟨HE.out.1,HE.out.2.1⟩⟩))
   simp only [results,Tryz.results5];simp [go_sem,z0,z1,z2]
theorem vcheck_any (va vr pv fv:Value) (m:Mo) (ps:List (List (Int × Int))) (l:List (Int × Int)) (w:World) (hB:0 < w.heap.size) (hT:TabAt w) (hV:TaskV w va vr pv fv m ps l) :
  Calls Tryz.prog 5 #[.agg #[va,vr,pv,fv]] w (VdAns w m ps l):=by
 by_cases hk:tkcode m ps l=0
 ·by_cases hf:ExFull m ps l
  ·refine (vcheck_bad va vr pv fv m ps l w hV 12 (by decide) fun w' h=>(explore_any va vr pv fv m ps l w' (Nat.lt_of_lt_of_le hB h.size) (hT.below h hB) (hV.below h)).mono fun e w2 hx=>?_).mono fun e w2 ⟨h1,h2⟩=>.inr (.inr (.inl ⟨hk,hf,h1,h2⟩))
   rcases hx with ⟨_,K,hD,_⟩ | ⟨_,_,h1,h2⟩ | ⟨h1,_,_⟩
   ·exact absurd hf (ex_not_both hD)
   ·exact ⟨h1,h2⟩
   ·exact absurd hk h1
  ·exact vcheck_ok va vr pv fv m ps l w hB hT hV hk hf
 ·refine (vcheck_bad va vr pv fv m ps l w hV (tkcode m ps l) hk fun w' h=>(explore_any va vr pv fv m ps l w' (Nat.lt_of_lt_of_le hB h.size) (hT.below h hB) (hV.below h)).mono fun e w2 hx=>?_).mono fun e w2 ⟨h1,h2⟩=>.inr (.inr (.inr ⟨hk,h1,h2⟩))
  rcases hx with ⟨h0,_⟩ | ⟨h0,_⟩ | ⟨_,h1,h2⟩
  ·exact absurd h0 hk
  ·exact absurd h0 hk
  ·exact ⟨h1,h2⟩
end Go.Proofs.YtfofjdddplodpaaGreatDoor
namespace Go.Proofs.YtfofjdddplodpaaGreatDoor
open Go.ChangeShapes Go.WideShapes Go.ChangeAt Go.RowKit Go.Deep
open Terms Tm
set_option maxHeartbeats 6400000
set_option maxRecDepth 20000
section
variable {m : Mo} {ss ll : List Int}
theorem getD_left {x y:List Int} {i:Nat} (h:i < x.length):(x++y).getD i 0=x.getD i 0:=by
 simp [List.getD_eq_getElem?_getD,List.getElem?_append_left,h]
theorem getD_right {x y:List Int} (i:Nat):(x++y).getD (x.length+i) 0=y.getD i 0:=by
 simp [List.getD_eq_getElem?_getD,List.getElem?_append_right]
theorem rvd_low {i:Nat} (h:i < (ss++ll).length):(rvd ss ll).getD i 0=(ss++ll).getD i 0:=getD_left h
theorem rvd_last:(rvd ss ll).getD (ss++ll).length 0=ll.getD 0 0:=by
 have h:=getD_right (x:=ss++ll) (y:=[ll.getD 0 0]) 0;rw [Nat.add_zero] at h;exact h
theorem moAt_end (s n:Nat):moAt s n n=s:=by
 unfold moAt;rw [if_neg (by omega),Nat.mod_self,Nat.add_zero]
theorem path_next (h:ll≠[]) {i:Nat} (hi:i < (ss++ll).length):(rvd ss ll).getD (i+1) 0=(ss++ll).getD (moAt ss.length (ss++ll).length (i+1)) 0:=by
 have hl:=List.length_pos_iff.2 h;have hn:ss.length < (ss++ll).length:=by rw [List.length_append];omega
 by_cases h1:i+1 < (ss++ll).length
 ·rw [rvd_low h1,moAt_low h1]
 ·have h2:i+1=(ss++ll).length:=by omega
  rw [h2,rvd_last,moAt_end];have h3:=getD_right (x:=ss) (y:=ll) 0;rw [Nat.add_zero] at h3;exact h3.symm
open Classical in
theorem run_prun (h:runB m ss ll=true):PRun m (ss++ll) ss.length:=by
 obtain ⟨hm,hll,h0,hl⟩:=of_decide_eq_true h;have hl1:=List.length_pos_iff.2 hll;have hlen:(rvd ss ll).length - 1=(ss++ll).length:=by rw [rvd_len,List.length_append];omega
 rw [hlen] at hl;refine ⟨by rw [List.length_append];omega,by rw [<- rvd_zero hll,h0];rfl,fun i hi=>?_⟩
 have h1:=hl i hi;have hr:=(show LeadsTo m (rvd ss ll) i from fun j hj=>hl j (by omega)).range hm (by rw [h0];exact firstC_range hm)
 rw [nxtL_yes hm hr,path_next hll hi,rvd_low hi] at h1;exact h1
theorem keep_run {ps:List (List (Int × Int))} {T:Tm} (ha:AllKeep m ps T) (h:runB m ss ll=true):T.hb (sig (lets m ps ss++lets m ps ll) ss.length) 0=true:=by
 have h1:=ha _ _ (run_prun h);unfold lets;rw [<- List.map_append];exact h1
end
section
variable {m : Mo} {xs : List Int}
structure WayX (m:Mo) (xs:List Int) (k:Nat):Prop where
 len:xs.length=k+1
 first:xs.getD 0 0=firstC m
 lead:LeadsTo m xs k
theorem WayX.one (m:Mo):WayX m [firstC m] 0:=⟨rfl,rfl,LeadsTo.zero _ _⟩
theorem WayX.range (hm:mcode m=0) {k:Nat} (h:WayX m xs k):∀ {i:Nat},i <= k->0 <= xs.getD i 0/\xs.getD i 0 < prodTo m.vars m.vars.length:=fun {i} hi=>
 LeadsTo.range hm (by rw [h.first];exact firstC_range hm) (fun j hj=>h.lead j (by omega))
theorem lead_app {xs:List Int} {k:Nat} (hlen:xs.length=k+1) {c:Int} (h:LeadsTo m xs k) (hm:mcode m=0) (hr:0 <= xs.getD k 0/\xs.getD k 0 < prodTo m.vars m.vars.length) (hc:c∈nextL m (xs.getD k 0)):LeadsTo m (xs++[c]) (k+1):=fun i hi=>by
 have e0:(xs++[c]).getD i 0=xs.getD i 0:=getD_left (by omega)
 rw [e0]
 by_cases h1:i=k
 ·subst h1
  have e1:(xs++[c]).getD (i+1) 0=c:=by
   rw [<- hlen];have h2:=getD_right (x:=xs) (y:=[c]) 0;rw [Nat.add_zero] at h2;exact h2
  rw [e1,nxtL_yes hm hr];exact hc
 ·rw [getD_left (by omega)]
  exact h i (by omega)
theorem WayX.more (hm:mcode m=0) {k:Nat} (h:WayX m xs k) {c:Int} (hc:c∈nextL m (xs.getD k 0)):WayX m (xs++[c]) (k+1):=
 ⟨by rw [List.length_append,h.len];rfl,by rw [getD_left (by rw [h.len];omega)];exact h.first,lead_app h.len h.lead hm (h.range hm (Nat.le_refl _)) hc⟩
open Classical in
theorem WayX.run (hm:mcode m=0) {k:Nat} (h:WayX m xs k) {c:Int} (hc:c∈nextL m (xs.getD k 0)) {q:Nat} (hq:q <= k) (he:xs.getD q 0=c):runB m (xs.take q) (xs.drop q)=true:=by
 have hlen:=h.len
 have hne:xs.drop q≠[]:=by
  intro e;have:=congrArg List.length e;rw [List.length_drop] at this;simp at this
  omega
 have hd:(xs.drop q).getD 0 0=c:=by
  rw [<- he];simp [List.getD_eq_getElem?_getD]
 have hrv:rvd (xs.take q) (xs.drop q)=xs++[c]:=by
  unfold rvd;rw [List.take_append_drop,hd]
 have h0:(rvd (xs.take q) (xs.drop q)).getD 0 0=firstC m:=by
  rw [hrv,getD_left (by omega)]
  exact h.first
 rw [runB_lead hm hne h0,hrv];refine decide_eq_true ?_
 have:=lead_app hlen h.lead hm (h.range hm (Nat.le_refl _)) hc;rw [List.length_append,hlen];exact this
end
section
theorem IntsAt.take {w:World} {b off:Nat} {l:List Int} (h:IntsAt w b off l) (q:Nat):IntsAt w b off (l.take q):=fun i hi=>by
 have h1:i < l.length/\i < q:=by rw [List.length_take] at hi;omega
 rw [h i h1.1]
 congr 2
 simp [List.getD_eq_getElem?_getD,h1.2]
theorem IntsAt.drop {w:World} {b off:Nat} {l:List Int} (h:IntsAt w b off l) (q:Nat):IntsAt w b (off+q) (l.drop q):=fun i hi=>by
 rw [List.length_drop] at hi;have h1:=h (q+i) (by omega)
 rw [show off+q+i=off+(q+i) by omega,h1]
 congr 2
 simp [List.getD_eq_getElem?_getD,List.getElem?_drop]
theorem intsX_cut {w:World} {g n cap:Nat} {xs:List Int} (hn:xs.length=n) (hcap:n <= cap) (hg:g < w.heap.size) (hat:IntsAt w g 0 xs) {q:Nat} (hq:q < n) :
  IntsX w (.slice (some ⟨g,0,none⟩) q q) (xs.take q)/\IntsX w (.slice (some ⟨g,q,none⟩) (n - q) (cap - q)) (xs.drop q):=by
 have e1:(xs.take q).length=q:=by rw [List.length_take];omega
 have e2:(xs.drop q).length=n - q:=by rw [List.length_drop,hn]
 refine ⟨⟨some ⟨g,0,none⟩,q,by rw [e1],by rw [e1];exact Nat.le_refl _,(fun h=>nomatch h),fun _=>⟨g,0,rfl,hg,hat.take q⟩⟩,⟨some ⟨g,q,none⟩,cap - q,by rw [e2],by rw [e2];omega,(fun h=>nomatch h),fun _=>⟨g,q,rfl,hg,?_⟩⟩⟩
 have:=hat.drop q;rw [Nat.zero_add] at this;exact this
end
section
variable {σ : Nat -> Nat -> Bool} {v : Int} {a b : Tm} {i : Nat}
end
def Kp (m:Mo) (T:Tm) (b:Bool):Prop:=(b=true↔AllKeep m propsL T)/\tkcode m propsL [(11,0)]=0
theorem few_spots {m:Mo} {a b:Vr} {l:List (Int × Int)} {mm:Nat} (hG:GV a b) (hk:KTaskOk m l mm) (hvars:m.vars=[a,b]):¬ ExFull m propsL l:=by
 have hspan:1 <= vspan a*vspan b/\vspan a*vspan b <= 16:=by
  have h1:1 <= vspan a/\vspan a <= 4:=by have:=hG.a2;have:=hG.a3;unfold vspan;omega
  have h2:1 <= vspan b/\vspan b <= 4:=by have:=hG.b2;have:=hG.b3;unfold vspan;omega
  obtain ⟨x1,x2⟩:=h1;obtain ⟨y1,y2⟩:=h2;generalize vspan a=x at *;generalize vspan b=y at *
  rcases (show x=1\/x=2\/x=3\/x=4 by omega) with rfl | rfl | rfl | rfl <;> omega
 have hah:(aheadL l).length=mm:=by obtain ⟨T,hT⟩:=hk.fo;exact hT.ahead
 refine xp_few (P:=(vspan a*vspan b).toNat) hk.code ?_ ?_
 ·rw [hvars]
  show prodTo [a,b] 2=_
  rw [prod_two];omega
 ·rw [hah]
  have:2 ^ mm <= 2 ^ 6:=Nat.pow_le_pow_right (by decide) hk.many
  have h3:(vspan a*vspan b).toNat * 2 ^ mm <= 16*64:=Nat.mul_le_mul (by omega) (by omega)
  omega
theorem vcheck_keep (va vr pv fv:Value) (m:Mo) (a b:Vr) (l:List (Int × Int)) (T:Tm) (mm:Nat) (w:World) (hB:0 < w.heap.size) (hT:TabAt w) (hV:TaskV w va vr pv fv m propsL l) (hG:GV a b) (hvars:m.vars=[a,b]) (hmc:mcode m=0) (hF:FOk mm l T) (hl:l.length <= 59) (hmm:mm <= 6) :
  Calls Tryz.prog 5 #[.agg #[va,vr,pv,fv]] w fun e w'=>∃ bb so sn sc lo ln lc,e=.returned (.tuple #[.agg #[.bool bb,.slice so sn sc,.slice lo ln lc],.int .i64 0])/\Below w.heap.size w w'/\Hid (Kp m T bb):=by
 have hv2:m.vars.length=2:=by rw [hvars];rfl
 have hK:KTaskOk m l mm:=⟨hmc,hv2,⟨T,hF⟩,hl,hmm⟩;have hk0:tkcode m propsL [(11,0)]=0:=(KTaskOk.mk hmc hv2 ⟨_,FOk.yes⟩ (by decide) (by decide):KTaskOk m [(11,0)] 0).code
 have hgv:=good_vals hF;have hz:=hF.ends (by omega)
 refine (vcheck_any va vr pv fv m propsL l w hB hT hV).mono fun e w' hx=>?_
 rcases hx with ⟨hk,⟨K,hD,hfc⟩,h1,h2⟩ | ⟨hk,K,st,lp,A,B,hD,hL,_,_,h1,h2,_⟩ | ⟨hk,hf,_,_⟩ | ⟨hk,_,_⟩
 ·exact ⟨true,_,_,_,_,_,_,h1,h2,⟨fun _=>keep_of_none hF.wf hF.ops hz hgv.1 hgv.2 hk hD (by rw [hfc];decide),fun _=>rfl⟩,hk0⟩
 ·exact ⟨false,_,_,_,_,_,_,h1,h2,⟨fun h=>(by cases h),fun h=>absurd h (not_keep hF.wf hF.ops hz hgv.1 hgv.2 hk hD hL)⟩,hk0⟩
 ·exact absurd hf (few_spots hG hK hvars)
 ·exact absurd hK.code hk
section
variable {o : Oper} {a : Act} {w : World} {Q : Exit -> Act -> World -> Prop} {m : Mo}
end
section
variable {m : Mo} {A B : Tm} {a b c d : Bool}
end
theorem Picked_is (n many:Int) (w:World) (hn:I64 n) (hm:0 < many) (hm2:many <= 10000) :
  Calls Tryz.prog 17 #[.int .i64 n,.int .i64 many] w fun e w'=>e=.returned (.int .i64 (pk n many))/\w'=w:=by
 have hp:=picked_is n many w hn hm hm2;generalize pk n many=r at *
 go_enter Tryz.func17,Tryz.ntmps17
 go_wp2_with (go_at_call 23;refine hp.mono ?_;rintro e w1 ⟨rfl,rfl⟩)
 go_ret
 exact ⟨rfl,rfl⟩
section
variable {o : Oper} {a : Act} {w : World} {Q : Exit -> Act -> World -> Prop} {m : Mo}
end
theorem ints_of_owns {w:World} {base xb n xc:Nat} {xs:List Int} (h:w.ownsRow base 3 1 (.slice (some ⟨xb,0,none⟩) n xc) n (ivals xs)) (hn:xs.length=n) (h0:0 < n):n <= xc/\xb < w.heap.size/\IntsAt w xb 0 xs:=by
 subst hn;have h1:=intsX_of_owns h;obtain ⟨ao,cap,e,hc,_,h2⟩:=h1
 cases e
 obtain ⟨b,off,e2,hb,hat⟩:=h2 (List.length_pos_iff.1 h0)
 cases e2
 exact ⟨hc,hb,hat⟩
def WalkOk (w:World) (m:Mo) (e:Ending) (w':World):Prop:=∃ so sn sc lo ln lc ss ll,e=.returned (.tuple #[.agg #[.slice so sn sc,.slice lo ln lc],.bool true])/\Below w.heap.size w w'/\sn+ln <= 12/\Hid (IntsX w' (.slice so sn sc) ss/\IntsX w' (.slice lo ln lc) ll/\ss.length=sn/\ll.length=ln/\(ln≠0->runB m ss ll=true))
theorem walk_any (va vr:Value) (m:Mo) (lo:Option Addr) (ln lc:Nat) (rs:List Int) (w:World) (hB:0 < w.heap.size) (hT:TabAt w) (hV:ModelV w va vr m) (hm:mcode m=0) (hR:IntsR w (.slice lo ln lc) rs) (hln:rs.length=ln) :
  Calls Tryz.prog 6 #[.agg #[va,vr],.slice lo ln lc] w (WalkOk w m):=by
 obtain ⟨i0,hi,hz0,hz1,hz2⟩:=info_parts infoInt;obtain ⟨ao,ac,rfl⟩:=hV.1.shape;obtain ⟨ro,rc,rfl⟩:=hV.2.shape
 have HFi:Hid (∀ w',Below w.heap.size w w'->Calls Tryz.prog 15 #[.agg #[.slice ao m.vars.length ac,.slice ro m.rules.length rc]] w' fun e w2=>e=.returned (.tuple #[.int .i64 (firstC m),.int .i64 0])/\Below w'.heap.size w' w2):=fun w' h=>by
  have h1:=mfirst_any _ _ m w' (Nat.lt_of_lt_of_le hB h.size) (hT.below h hB) (hV.below h);rw [if_pos hm,hm] at h1;exact h1
 have HNe:Hid (∀ (w1:World) (code:Int),Below w.heap.size w w1->(0 <= code/\code < prodTo m.vars m.vars.length)->Calls Tryz.prog 16 #[.agg #[.slice ao m.vars.length ac,.slice ro m.rules.length rc],.int .i64 code] w1 fun e w'=>∃ no nn nc,e=.returned (.tuple #[.slice no nn nc,.int .i64 0])/\Below w1.heap.size w1 w'/\1 <= nn/\nn <= 13/\Hid (nn=(nextL m code).length/\IntsV w' (.slice no nn nc) (nextL m code))):=fun w1 code h hcr=>by
  refine (next_own _ _ m code w1 (Nat.lt_of_lt_of_le hB h.size) (hT.below h hB) (hV.below h) hm).mono fun e w' ⟨v,q1,q2,q3⟩=>?_
  have q4:=intsV_of_owns q3;have q5:=nxtL_length m code;have q6:=(mcode_rules hm).1;rw [nxtL_yes hm hcr] at q4 q5;have q7:=List.length_pos_iff.2 (nextL_pos (m:=m) code);obtain ⟨no,nc,rfl,hx⟩:=q4;exact ⟨no,_,nc,by rw [q1,wcode_yes hm hcr],q2,q7,by omega,rfl,⟨no,nc,rfl,hx⟩⟩
 have HPk:Hid (∀ (w':World) (n many:Int),I64 n->0 < many->many <= 10000->Calls Tryz.prog 17 #[.int .i64 n,.int .i64 many] w' fun e w2=>∃ r:Nat,(r:Int) < many/\e=.returned (.int .i64 (r:Int))/\w2=w'):=fun w' n many h1 h2 h3=>(Picked_is n many w' h1 h2 h3).mono fun e w2 ⟨g1,g2⟩=>by
  obtain ⟨p0,p1⟩:=pk_range (n:=n) h2;exact ⟨(pk n many).toNat,by omega,by rw [g1];congr 2;omega,g2⟩
 obtain ⟨W2,hW2⟩:∃ W2,W2=(w.alloc (.cells #[.slice ao m.vars.length ac,.slice ro m.rules.length rc] 31)).alloc (.cells #[.slice none 0 0,.slice none 0 0] 38):=⟨_,rfl⟩
 have hb2:Below w.heap.size w W2:=by rw [hW2];exact ((Below.refl _ _).alloc (Nat.le_refl _) _).alloc (by simp) _
 have hz2':W2.heap.size=w.heap.size+2:=by rw [hW2];simp
 have HBx:Hid (∀ w',Below (w.heap.size+2) W2 w'->Below w.heap.size w w'/\(w'.cell? ⟨w.heap.size,0,none⟩=some (.slice ao m.vars.length ac)/\w'.cell? ⟨w.heap.size,1,none⟩=some (.slice ro m.rules.length rc))/\(w'.cell? ⟨w.heap.size+1,0,none⟩=some (.slice none 0 0)/\w'.cell? ⟨w.heap.size+1,1,none⟩=some (.slice none 0 0))/\(w'.frozen? ⟨w.heap.size+1,0,none⟩=false/\w'.frozen? ⟨w.heap.size+1,1,none⟩=false)):=fun w' h=>by
  have hl0:w.heap.size < w.heap.size+2:=by omega
  have hl1:w.heap.size+1 < w.heap.size+2:=by omega
  refine ⟨hb2.trans (h.mono (by omega)),⟨?_,?_⟩,⟨?_,?_⟩,?_,?_⟩
  ·exact (h.cell (p:=⟨w.heap.size,0,none⟩) hl0).trans (by rw [hW2];simp [go_sem])
  ·exact (h.cell (p:=⟨w.heap.size,1,none⟩) hl0).trans (by rw [hW2];simp [go_sem])
  ·exact (h.cell (p:=⟨w.heap.size+1,0,none⟩) hl1).trans (by rw [hW2];simp [go_sem])
  ·exact (h.cell (p:=⟨w.heap.size+1,1,none⟩) hl1).trans (by rw [hW2];simp [go_sem])
  ·exact (h.frozen (p:=⟨w.heap.size+1,0,none⟩) hl1).trans (by rw [hW2];simp [go_sem])
  ·exact (h.frozen (p:=⟨w.heap.size+1,1,none⟩) hl1).trans (by rw [hW2];simp [go_sem])
 have HLs:Hid (∀ w',Below w.heap.size w w'->∀ k,k < ln->∃ b off x,lo=some ⟨b,off,none⟩/\b < w'.heap.size/\w'.cell? ⟨b,off+k,none⟩=some (.int .i64 x)/\I64 x):=fun w' h k hk=>by
  obtain ⟨ao',cap',e1,e2⟩:=(hR.below h).v;rw [<- hln] at hk
  cases e1
  obtain ⟨b,off,e3,e4,e5⟩:=e2 (by rintro rfl;simp at hk)
  exact ⟨b,off,_,e3,e4,e5 k hk,hR.range k hk⟩
 have hlm:ln <= 140737488355328:=by rw [<- hln];exact hR.len
 have HRg:Hid (∀ (xs:List Int) (k:Nat),WayX m xs k->0 <= xs.getD k 0/\xs.getD k 0 < prodTo m.vars m.vars.length):=fun xs k h=>h.range hm (Nat.le_refl _)
 have HMo:Hid (∀ (xs:List Int) (k:Nat) (c:Int),WayX m xs k->c∈nextL m (xs.getD k 0)->WayX m (xs++[c]) (k+1)):=fun xs k c h hc=>h.more hm hc
 have HRu:Hid (∀ (xs:List Int) (k q:Nat) (c:Int),WayX m xs k->c∈nextL m (xs.getD k 0)->q <= k->xs.getD q 0=c->runB m (xs.take q) (xs.drop q)=true):=fun xs k q c h hc hq he=>h.run hm hc hq he
 have HRes:Hid (∀ (e:Ending) (w':World),WalkOk w m e w'->WalkOk w m e w'):=fun _ _ h=>h
 have hfi:=HFi.out W2 hb2;rw [hW2] at hfi;have H1:Hid (WayX m [firstC m] 0):=WayX.one m;generalize firstC m=c0 at *;generalize m.vars.length=vn at *;generalize m.rules.length=rn at *;have HW2:=(show Hid (W2=_) from hW2)
 clear hT hV hR hm hln hW2 HFi hB
 go_enter Tryz.func6,Tryz.ntmps6
 go_upto_region 2 with (first | (go_at_call 15;rw [<- HW2.out] at hfi ⊢;refine hfi.mono ?_;rintro e w3 ⟨rfl,hb3⟩))
 rw [hz2'] at hb3;have hw3:w.heap.size+2 <= w3.heap.size:=by have:=hb3.size;omega
 have HO3:Hid ((w3.alloc (.cells #[.int .i64 c0] 3)).ownsRow (w.heap.size+2) 3 1 (.slice (some ⟨w3.heap.size,0,none⟩) (0+1) 1) (0+1) (ivals [c0])):=by
  show World.ownsRow _ _ _ _ _ _ _
  exact World.ownsRow_lit w3 #[.int .i64 c0] 1 hw3 (by unfold maxLen;decide) rfl
 have HB3:Hid (Below (w.heap.size+2) W2 (w3.alloc (.cells #[.int .i64 c0] 3))):=hb3.alloc hw3 _;clear hfi hb3 HW2
 go_upto_region 4 with fail
 generalize w3.alloc (.cells #[.int .i64 c0] 3)=W3 at *;generalize w3.heap.size=g3 at *
 go_loopw [6,8,9] (fun cv pv i wr=>∃ (k:Nat) (xs:List Int) (xb xc:Nat) (x:Int),k <= 12/\cv=.int .i64 x/\pv=.slice (some ⟨xb,0,none⟩) (k+1) xc/\i=.int .i64 (k:Int)/\Hid (x=xs.getD k 0/\WayX m xs k/\wr.ownsRow (w.heap.size+2) 3 1 (.slice (some ⟨xb,0,none⟩) (k+1) xc) (k+1) (ivals xs)/\Below (w.heap.size+2) W2 wr)) (fun _ _ i _=>12 - (intOf i).toNat)
 case atStart=>exact ⟨0,[c0],g3,1,c0,by omega,rfl,rfl,rfl,rfl,H1.out,HO3.out,HB3.out⟩
 case round=>
  obtain ⟨k,xs,xb,xc,x,hk,rfl,rfl,rfl,HI⟩:=hrel
  by_cases hk12:k < 12
  ·have hki:(k:Int) < (12:Int):=by omega
   obtain ⟨hx,hway,hown,hbel⟩:=HI.out;obtain ⟨hbw,⟨b0,b1⟩,⟨l0,l1⟩,f0,f1⟩:=HBx.out wr hbel;have hne:=HNe.out wr x hbw (by rw [hx];exact HRg.out xs k hway)
   clear hx hway hown hbel
   go_upto_region 7 with (first | (go_at_call 16;refine hne.mono ?_;rintro e w4 ⟨no,nn,nc,rfl,hb4,hn1,hn2,HNx⟩))
   have HI4:Hid (x=xs.getD k 0/\WayX m xs k/\w4.ownsRow (w.heap.size+2) 3 1 (.slice (some ⟨xb,0,none⟩) (k+1) xc) (k+1) (ivals xs)/\Below (w.heap.size+2) W2 w4):=by
    obtain ⟨hx,hway,hown,hbel⟩:=HI.out;exact ⟨hx,hway,owns_later hown hb4 (Nat.le_refl _),hbel.trans (hb4.mono (by have:=hbel.size;omega))⟩
   have hbw4:=hbw.trans (hb4.mono hbw.size);clear HI hne b0 b1 l0 l1 f0 f1 hb4;generalize wr=wo at *;have hnn:¬ nn=0:=by omega
   have hnni:¬ (nn:Int)=0:=by omega
   go_upto_region 9 with fail
   go_upto_region 10 with fail
   go_upto_if 46 with fail
   go_cut [12] (fun u wz=>∃ j:Nat,j < nn/\u=.int .i64 (j:Int)/\wz=w4)
   case first=>
    by_cases hl:k < ln
    ·have hli:(k:Int) < (ln:Int):=by omega
     obtain ⟨lb,lf,y,rfl,hlb,hcy,hy⟩:=HLs.out w4 hbw4 k hl;have hpk:=HPk.out w4 y (nn:Int) hy (by omega) (by omega)
     go_wp2_with (first | (go_at_call 17;refine hpk.mono ?_;rintro e w5 ⟨r,hr,rfl,rfl⟩))
     all_goals go_meet
     all_goals exact ⟨r,by omega,rfl,rfl⟩
    ·have hli:¬ (k:Int) < (ln:Int):=by omega
     go_wp2_with fail
     all_goals go_meet
     all_goals exact ⟨0,by omega,rfl,rfl⟩
   obtain ⟨j,hj,rfl,hwz⟩:=hcut;subst hwz;obtain ⟨w4,rfl⟩:∃ w4,w4=wc:=⟨_,rfl⟩
   obtain ⟨hnl,hnv⟩:=HNx.out;obtain ⟨nb,nf,rfl,hnb,hnn9,hnat⟩:=IntsV.atV hnv (k:=j) (by omega)
   clear hnn9;have hcj:=hnat j (by omega)
   have HMem:Hid ((nextL m x).getD j 0∈nextL m x):=getD_memV (by omega)
   clear hnv hnat hnl HNx;generalize (nextL m x).getD j 0=c at *;obtain ⟨hx4,hway4,hown4,hbel4⟩:=HI4.out;have hmem4:c∈nextL m (xs.getD k 0):=by rw [<- hx4];exact HMem.out
   obtain ⟨hcap,hxb,hat⟩:=ints_of_owns hown4 hway4.len (Nat.succ_pos k);have hxg:=(hown4.lt xb rfl).1;have HAt:Hid (IntsAt w4 xb 0 xs/\xs.length=k+1):=⟨hat,hway4.len⟩;have HRun:Hid (∀ q,q <= k->xs.getD q 0=c->runB m (xs.take q) (xs.drop q)=true):=fun q hq he=>HRu.out xs k q c hway4 hmem4 hq he
   have HNew:Hid (WayX m (xs++[c]) (k+1)/\(xs++[c]).getD (k+1) 0=c/\ivals (xs++[c])=ivals xs++[.int .i64 c]):=⟨HMo.out xs k c hway4 hmem4,by rw [<- hway4.len];have h2:=getD_right (x:=xs) (y:=[c]) 0;rw [Nat.add_zero] at h2;exact h2,by simp [ivals]⟩
   have HOwn:Hid (w4.ownsRow (w.heap.size+2) 3 1 (.slice (some ⟨xb,0,none⟩) (k+1) xc) (k+1) (ivals xs)/\Below (w.heap.size+2) W2 w4):=⟨hown4,hbel4⟩;obtain ⟨_,_,⟨l0,l1⟩,f0,f1⟩:=HBx.out w4 hbel4;clear hx4 hway4 hown4 hmem4 hat HI4 HMem hbel4
   go_upto_region 14 with fail
   go_loopw [13] (fun av wr=>∃ av':Int,av=.int .i64 av'/\-1 <= av'/\av' <= (k:Int)/\wr=w4) (fun av _=>(intOf av+1).toNat)
   case atStart=>exact ⟨(k:Int),by go_num,by omega,by omega,rfl⟩
   case round=>
    obtain ⟨av,rfl,ha1,ha2,hwr⟩:=hrel;subst hwr
    by_cases ha0:av < 0
    ·have ha0':¬ 0 <= av:=by omega
     have hrow:=HOwn.out.1.alloc (.cells #[.int .i64 c] 3);have hbA:Below (w.heap.size+2) W2 (wr.alloc (.cells #[.int .i64 c] 3)):=HOwn.out.2.alloc (by have:=HOwn.out.2.size;omega) _
     have hbs:w.heap.size+2 <= wr.heap.size+1:=by have:=HOwn.out.2.size;omega
     go_wp2_with (at_builtin;refine wpList_append_lies _ rfl (.tmp 93) (.tmp 95) 27 rfl (w.heap.size+2) 3 i0 _ 1 8 Tryz.underlying27 hi hz0 hz1 hz2 rfl (by decide) (.slice (some ⟨xb,0,none⟩) (k+1) xc) (k+1) _ rfl hrow ⟨wr.heap.size,0,none⟩ 1 1 [.int .i64 c] rfl rfl (one_newB _ _ _) (by intro u hu;simp at hu;subst hu;rfl) (by decide) (by unfold maxLen;omega) (by omega) (by simpa using hbs) (wr.heap.size+1) (by simp) ?_;intro g6 cp6 w6 ho6 hg6 hat6 hgl6)
     have HO6:Hid (w6.ownsRow (w.heap.size+2) 3 1 (.slice (some ⟨g6,0,none⟩) (k+1+1) cp6) (k+1+1) (ivals (xs++[c]))/\Below (w.heap.size+2) W2 w6):=⟨by rw [HNew.out.2.2];exact ho6,hbA.grown hg6 (by have:=hbA.size;omega) (fun z hz=>(hrow.lt z hz).1)⟩
     clear hrow hg6 hat6 hgl6 ho6 l0 l1 f0 f1
     go_wp2_with fail
     go_roundw
     case rel=>exact ⟨k+1,xs++[c],g6,cp6,c,by omega,rfl,by go_num,by go_num,HNew.out.2.1.symm,HNew.out.1,HO6.out.1,HO6.out.2⟩
     case measure=>simp [intOf];omega
    ·obtain ⟨p,rfl⟩:∃ p:Nat,av=(p:Int):=⟨av.toNat,by omega⟩
     have ha0':0 <= (p:Int):=by omega
     have hpk:p <= k:=by omega
     have d0:=HAt.out.1 p (by rw [HAt.out.2];omega)
     rw [Nat.zero_add] at d0;have HR1:Hid (xs.getD p 0=c->runB m (xs.take p) (xs.drop p)=true):=HRun.out p hpk
     have HRet:Hid (xs.getD p 0=c->∀ w',w'=((wr.setCell ⟨w.heap.size+1,0,none⟩ (.slice (some ⟨xb,0,none⟩) p p)).setCell ⟨w.heap.size+1,1,none⟩ (.slice (some ⟨xb,p,none⟩) (k+1 - p) (xc - p))).drew->WalkOk w m (.returned (.tuple #[.agg #[.slice (some ⟨xb,0,none⟩) p p,.slice (some ⟨xb,p,none⟩) (k+1 - p) (xc - p)],.bool true])) w'):=fun hc w' hw'=>by
      have hat':IntsAt w' xb 0 xs:=fun i hi=>by
       rw [hw']
       show ((wr.setCell ⟨w.heap.size+1,0,none⟩ (.slice (some ⟨xb,0,none⟩) p p)).setCell ⟨w.heap.size+1,1,none⟩ (.slice (some ⟨xb,p,none⟩) (k+1 - p) (xc - p))).cell? _=_
       rw [World.cell?_setCell_other _ _ _ _ (by intro e;injection e with e1;omega),World.cell?_setCell_other _ _ _ _ (by intro e;injection e with e1;omega)]
       exact HAt.out.1 i hi
      have hsz':w'.heap.size=wr.heap.size:=by
       rw [hw']
       show ((wr.setCell ⟨w.heap.size+1,0,none⟩ (.slice (some ⟨xb,0,none⟩) p p)).setCell ⟨w.heap.size+1,1,none⟩ (.slice (some ⟨xb,p,none⟩) (k+1 - p) (xc - p))).heap.size=_
       simp
      obtain ⟨i1,i2⟩:=intsX_cut (w:=w') HAt.out.2 hcap (by rw [hsz'];exact hxb) hat' (q:=p) (by omega)
      refine ⟨_,_,_,_,_,_,xs.take p,xs.drop p,rfl,?_,by omega,i1,i2,by rw [List.length_take,HAt.out.2];omega,by rw [List.length_drop,HAt.out.2],fun _=>HRun.out p hpk hc⟩
      rw [hw'];exact ((hbw4.setCell (p:=⟨w.heap.size+1,0,none⟩) (by show w.heap.size <= w.heap.size+1;omega) _).setCell (p:=⟨w.heap.size+1,1,none⟩) (by show w.heap.size <= w.heap.size+1;omega) _).drew
     have HLs4:Hid _:=HLs.out wr hbw4 k;have HPk4:Hid _:=HPk.out wr;clear HR1 HRun HAt HNew HOwn;generalize xs.getD p 0=y at *
     by_cases hyc:y=c
     ·subst hyc
      have HRet2:Hid _:=HRet.out rfl;have hp1:¬ (p:Int) < 0:=by omega
      have hp2:¬ (k:Int)+1 < (p:Int):=by omega
      have hp3:¬ xc < p:=by omega
      by_cases hl:k < ln
      ·have hli:(k:Int) < (ln:Int):=by omega
       obtain ⟨lb,lf,z,rfl,hlb,hcz,hz⟩:=HLs4.out hl;have hpk3:=Picked_is z 3 wr hz (by decide) (by decide)
       clear HLs HLs4 HPk HPk4 HNe HMo HRu HRg HBx;generalize pk z 3=r at *
       by_cases hr0:0 < r
       ·clear HRet
        go_wp2_with (go_at_call 17;refine hpk3.mono ?_;rintro e wr ⟨rfl,rfl⟩)
        go_region
        all_goals go_wp2_with fail
        all_goals (refine bodyPost_ret (v:=.tuple #[.agg #[.slice (some ⟨xb,0,none⟩) p p,.slice (some ⟨xb,p,none⟩) (k+1 - p) (xc - p)],.bool true]) ?_ rfl (HRes.out _ _ (HRet2.out _ rfl)))
        all_goals simp [results,Tryz.results6,go_sem,l0,l1]
       ·clear HRet HRet2
        go_wp2_with (go_at_call 17;refine hpk3.mono ?_;rintro e wr ⟨rfl,rfl⟩)
        go_roundw
        case rel=>exact ⟨(p:Int) - 1,by go_num,by omega,by omega,by trivial⟩
        case measure=>simp [intOf]
      ·have hli:¬ (k:Int) < (ln:Int):=by omega
       have hli2:(ln:Int) <= (k:Int):=by omega
       clear HLs HLs4 HPk HPk4 HNe HMo HRu HRg HBx
       go_wp2_with fail
       go_region
       all_goals go_wp2_with fail
       all_goals (refine bodyPost_ret (v:=.tuple #[.agg #[.slice (some ⟨xb,0,none⟩) p p,.slice (some ⟨xb,p,none⟩) (k+1 - p) (xc - p)],.bool true]) ?_ rfl (HRes.out _ _ (HRet2.out _ rfl)))
       all_goals simp [results,Tryz.results6,go_sem,l0,l1]
     ·clear HRet
      go_wp2_with fail
      go_roundw
      case rel=>exact ⟨(p:Int) - 1,by go_num,by omega,by omega,by trivial⟩
      case measure=>simp [intOf]
  ·obtain rfl:k=12:=by omega
   obtain ⟨hx,hway,hown,hbel⟩:=HI.out;obtain ⟨hbw,⟨b0,b1⟩,⟨l0,l1⟩,f0,f1⟩:=HBx.out wr hbel;clear hx hway hown hbel HI
   go_wp2_with fail
   refine bodyPost_ret (v:=.tuple #[.agg #[.slice none 0 0,.slice none 0 0],.bool true]) ?_ rfl (HRes.out _ _ ⟨none,0,0,none,0,0,[],[],rfl,(hbw.setCell (p:=⟨w.heap.size+1,0,none⟩) (by show w.heap.size <= w.heap.size+1;omega) _).setCell (p:=⟨w.heap.size+1,1,none⟩) (by show w.heap.size <= w.heap.size+1;omega) _,by omega,⟨none,0,rfl,Nat.le_refl _,fun _=>⟨rfl,rfl⟩,fun h=>absurd rfl h⟩,⟨none,0,rfl,Nat.le_refl _,fun _=>⟨rfl,rfl⟩,fun h=>absurd rfl h⟩,rfl,rfl,fun h=>absurd rfl h⟩)
   simp [results,Tryz.results6,go_sem,l0,l1]
end Go.Proofs.YtfofjdddplodpaaGreatDoor
namespace Go.Proofs.YtfofjdddplodpaaGreatDoor
open Go.ChangeShapes Go.WideShapes Go.ChangeAt Go.RowKit Go.Deep Go.Maps
open Terms Tm
set_option maxHeartbeats 6400000
set_option maxRecDepth 20000
def vdB (b:Bool) (sv lv:Value):Obj:=.cells #[.bool b,sv,lv] 40 (0,0)
theorem vdB_cells {w:World} {X:Nat} {b:Bool} {sv lv:Value} (hb:w.heap[X]? = some (vdB b sv lv)):w.cell? ⟨X,0,none⟩=some (.bool b)/\w.cell? ⟨X,1,none⟩=some sv/\w.cell? ⟨X,2,none⟩=some lv:=by
 unfold vdB at hb;refine ⟨?_,?_,?_⟩ <;> simp [World.cell?,hb]
theorem blk_later {w w':World} {X:Nat} {o:Obj} (hb:Below w.heap.size w w') (h:w.heap[X]? = some o):w'.heap[X]? = some o:=(hb.block X (Array.getElem?_eq_some_iff.1 h).1).trans h
theorem complete_calls (m:Mo) (a b:Vr) (l:List (Int × Int)) (mm:Nat) (w:World) (hB:0 < w.heap.size) (hT:TabAt w) (hG:GV a b) (hvars:m.vars=[a,b]) (hK:KTaskOk m l mm) (va vr pv fv:Value) (hV:TaskV w va vr pv fv m propsL l) :
  Calls Tryz.prog 5 #[.agg #[va,vr,pv,fv]] w fun e w2=>
   ∃ hb so sn sc lo ln lc,e=.returned (.tuple #[.agg #[.bool hb,.slice so sn sc,.slice lo ln lc],.int .i64 0])/\Below w.heap.size w w2/\Hid (∀ (w3:World) (sv lv:Value) (ss ll:List Int),Below w.heap.size w w3->IntsX w3 sv ss->IntsX w3 lv ll->ss.length <= 12->ll.length <= 12->runB m ss ll=true->∃ kb:Bool,(hb=true->kb=true)/\∀ w4,Below w3.heap.size w3 w4->
   (Calls Tryz.prog 8 #[.agg #[va,vr],.agg #[sv,lv]] w4 fun e w5=>e=.returned (.tuple #[.bool true,.int .i64 0])/\Below w4.heap.size w4 w5)/\
   (Calls Tryz.prog 7 #[.agg #[va,vr,pv,fv],.agg #[sv,lv]] w4 fun e w5=>e=.returned (.tuple #[.bool kb,.int .i64 0])/\Below w4.heap.size w4 w5)):=by
 obtain ⟨T,hF⟩:=hK.fo;refine (vcheck_keep va vr pv fv m a b l T mm w hB hT hV hG hvars hK.mo hF hK.len hK.many).mono fun e w2 ⟨hb,so,sn,sc,lo,ln,lc,h1,h2,h3⟩=>⟨hb,so,sn,sc,lo,ln,lc,h1,h2,fun w3 sv lv ss ll h4 hS hL i1 i2 hr=>⟨_,fun h=>keep_run (h3.out.1.1 h) hr,fun w4 h5=>?_⟩⟩
 have hb4:=h4.trans (h5.mono h4.size);have hB4:=Nat.lt_of_lt_of_le hB hb4.size;have hT4:=hT.below hb4 hB;have hV4:=hV.below hb4;refine ⟨?_,keeps_ok va vr pv fv sv lv m propsL l ss ll T w4 hB4 hT4 hV4 hK.code (hS.below h5) (hL.below h5) i1 i2 hr hF.wf hF.ops⟩
 have h:=runs_any va vr sv lv m ss ll w4 hB4 hT4 hV4.mo (hS.below h5) (hL.below h5) (by omega)
 rw [hr,hK.mo] at h;exact h
theorem topComplete_walk (c0 c1 c2 c3 c4 c5 c6:Value) (a b:Vr) (rawv lv:Value) (rs:List (Int × Int)) (ns:List Int) (w:World) (hB:0 < w.heap.size) (hT:TabAt w) (hG:GV a b) (hR:Raws w w.heap.size rawv rs) (hN:IntsR w lv ns)
  (hmd:∀ w',Below w.heap.size w w'->Calls Tryz.prog 9 #[.agg #[c0,c1,c2,c3,c4,c5,c6]] w' fun e w2=>∃ va vr,e=.returned (.agg #[va,vr])/\Below w'.heap.size w' w2/\GModel w2 va vr [a,b]) :
  Calls Tryz.prog 3 #[.agg #[c0,c1,c2,c3,c4,c5,c6],rawv,lv] w fun e w'=>e=.returned (.bool true)/\Below w.heap.size w w':=by
 have hA1:Below w.heap.size w (w.alloc (.cells #[c0,c1,c2,c3,c4,c5,c6] 25)):=(Below.refl _ _).alloc (Nat.le_refl _) _;have htk:=taskFn_any c0 c1 c2 c3 c4 c5 c6 a b rawv rs 3 _ hG (by decide) (hR.up hA1) (fun w' h=>hmd w' (hA1.trans (h.mono hA1.size)))
 obtain ⟨ra,rn0,rc0,hra⟩:∃ a n c,rawv=.slice a n c:=by obtain ⟨⟨a,c,h,_⟩,_,_⟩:=hR;exact ⟨_,_,_,h⟩
 subst hra;have HSd:Hid (∀ (w':World) (va vr pv fv:Value) (m:Mo) (l:List (Int × Int)) (mm:Nat),Below w.heap.size w w'->KTaskOk m l mm->m.vars=[a,b]->TaskV w' va vr pv fv m propsL l->_):=fun w' va vr pv fv m l mm h hk hvars hv=>complete_calls m a b l mm w' (Nat.lt_of_lt_of_le hB h.size) (hT.below h hB) hG hvars hk va vr pv fv hv
 obtain ⟨lo,lc,rfl,_⟩:=id hN.v;have HWk:Hid (∀ (w':World) (va vr:Value) (m:Mo),Below w.heap.size w w'->mcode m=0->ModelV w' va vr m->Calls Tryz.prog 6 #[.agg #[va,vr],.slice lo ns.length lc] w' (WalkOk w' m)):=fun w' va vr m h hm hv=>walk_any va vr m lo ns.length lc ns w' (Nat.lt_of_lt_of_le hB h.size) (hT.below h hB) hv hm (hN.below h) rfl
 generalize ns.length=nn at *;clear hmd hR hT hG hN
 go_enter Tryz.func3,Tryz.ntmps3
 go_upto_region 2 with (first | (go_at_call 4;refine htk.mono ?_;rintro e w1 ⟨ao,ac,ro,rn,rc,pb,fo,fn,fc,m,l,mm,rfl,hb1,HV,HK,hmm,hfn⟩))
 have hbw1:=hA1.trans (hb1.mono hA1.size);have hbA:Below w1.heap.size w1 (w1.alloc (.cells #[.slice ao 2 ac,.slice ro rn rc,.slice (some ⟨pb,0,none⟩) 3 3,.slice fo fn fc] 35)):=(Below.refl _ _).alloc (Nat.le_refl _) _;have hbw2:=hbw1.trans (hbA.mono hbw1.size)
 have HX2:Hid ((w1.alloc (.cells #[.slice ao 2 ac,.slice ro rn rc,.slice (some ⟨pb,0,none⟩) 3 3,.slice fo fn fc] 35)).heap[w1.heap.size]? = some (tkB (.slice ao 2 ac) (.slice ro rn rc) (.slice (some ⟨pb,0,none⟩) 3 3) (.slice fo fn fc))):=(MapKept.heap_alloc w1 _).1;have hV2:=HV.out.below hbA;obtain ⟨hok,hvars,_,_⟩:=HK.out
 have hsd:=HSd.out _ _ _ _ _ m l mm hbw2 hok hvars hV2;have HMo:Hid (mcode m=0/\ModelV (w1.alloc (.cells #[.slice ao 2 ac,.slice ro rn rc,.slice (some ⟨pb,0,none⟩) 3 3,.slice fo fn fc] 35)) (.slice ao 2 ac) (.slice ro rn rc) m):=⟨hok.mo,hV2.mo⟩;generalize w1.alloc (.cells #[.slice ao 2 ac,.slice ro rn rc,.slice (some ⟨pb,0,none⟩) 3 3,.slice fo fn fc] 35)=W2 at *
 generalize w1.heap.size=X at *;obtain ⟨p0,p1,p2,p3⟩:=tkB_cells HX2.out;clear hok hvars HK HV htk hV2 HSd
 go_upto_region 3 with (first | (go_at_call 5;refine hsd.mono ?_;rintro e w3 ⟨hb,so,sn,sc,ko,kn,kc,rfl,hb3,HC⟩))
 have hbD:Below w3.heap.size w3 (w3.alloc (.cells #[.bool hb,.slice so sn sc,.slice ko kn kc] 40)):=(Below.refl _ _).alloc (Nat.le_refl _) _;have hb24:=hb3.trans (hbD.mono hb3.size);have HV4:Hid ((w3.alloc (.cells #[.bool hb,.slice so sn sc,.slice ko kn kc] 40)).heap[w3.heap.size]? = some (vdB hb (.slice so sn sc) (.slice ko kn kc))):=(MapKept.heap_alloc w3 _).1
 generalize w3.alloc (.cells #[.bool hb,.slice so sn sc,.slice ko kn kc] 40)=W4 at *;generalize w3.heap.size=V at *;have hbw4:=hbw2.trans (hb24.mono hbw2.size);have hwk:=HWk.out W4 _ _ m hbw4 HMo.out.1 (HMo.out.2.below hb24);clear hsd p0 p1 p2 p3 HWk HMo;obtain ⟨p0,p1,p2,p3⟩:=tkB_cells (blk_later hb24 HX2.out)
 go_upto_region 4 with (first | (go_at_call 6;refine hwk.mono ?_;rintro e w5 ⟨so2,sn2,sc2,lo2,ln2,lc2,ss,ll,rfl,hb5,hle,HW⟩))
 have hbE:Below w5.heap.size w5 (w5.alloc (.cells #[.slice so2 sn2 sc2,.slice lo2 ln2 lc2] 38)):=(Below.refl _ _).alloc (Nat.le_refl _) _;have hb46:=hb5.trans (hbE.mono hb5.size);have hb26:=hb24.trans (hb46.mono hb24.size);have hbw6:=hbw4.trans (hb46.mono hbw4.size)
 have HL6:Hid ((w5.alloc (.cells #[.slice so2 sn2 sc2,.slice lo2 ln2 lc2] 38)).heap[w5.heap.size]? = some (laB (.slice so2 sn2 sc2) (.slice lo2 ln2 lc2))):=(MapKept.heap_alloc w5 _).1;obtain ⟨hS5,hL5,hs1,hl1,hrun⟩:=HW.out;have hS6:=hS5.below hbE;have hL6:=hL5.below hbE;generalize w5.alloc (.cells #[.slice so2 sn2 sc2,.slice lo2 ln2 lc2] 38)=W6 at *
 generalize w5.heap.size=L at *;clear p0 p1 p2 p3 hwk HW hS5 hL5;obtain ⟨p0,p1,p2,p3⟩:=tkB_cells (blk_later hb26 HX2.out);obtain ⟨l0,l1⟩:=laB_cells HL6.out
 by_cases h0:ln2=0
 ·subst h0
  clear hrun HC HX2 HV4 HL6 hS6 hL6 hs1 hl1
  go_wp2_with fail
  go_ret
  exact ⟨by first | rfl | simp,hbw6⟩
 ·obtain ⟨kb,hkb,hcall⟩:=HC.out W6 _ _ ss ll hb26 hS6 hL6 (by omega) (by omega) (hrun h0)
  have HCall:Hid (∀ w4,Below W6.heap.size W6 w4->_):=hcall
  obtain ⟨_,hke⟩:=hcall W6 (Below.refl _ _);have h0i:¬ (ln2:Int)=0:=by omega
  clear hrun HC hS6 hL6 hs1 hl1 hcall
  go_upto_region 9 with (first | (go_at_call 7;refine hke.mono ?_;rintro e w7 ⟨rfl,hb7⟩))
  obtain ⟨hru,_⟩:=HCall.out w7 hb7;clear p0 p1 p2 p3 l0 l1 hke;have hb27:=hb26.trans (hb7.mono hb26.size);obtain ⟨p0,p1,p2,p3⟩:=tkB_cells (blk_later hb27 HX2.out);obtain ⟨l0,l1⟩:=laB_cells (blk_later hb7 HL6.out)
  go_upto_region 10 with (first | (go_at_call 8;refine hru.mono ?_;rintro e w8 ⟨rfl,hb8⟩))
  have hb68:=hb7.trans (hb8.mono hb7.size);obtain ⟨v0,v1,v2⟩:=vdB_cells (blk_later (hb46.trans (hb68.mono hb46.size)) HV4.out);have hbw8:=hbw6.trans (hb68.mono hbw6.size);clear p0 p1 p2 p3 l0 l1 hru HCall HL6 HV4 HX2
  cases hb with
  | true=>
   obtain rfl:=hkb rfl;clear hkb
   go_wp2_with fail
   go_ret
   exact ⟨by first | rfl | simp,hbw8⟩
  | false=>
   clear hkb
   cases kb with
   | true=>
    go_wp2_with fail
    go_ret
    exact ⟨by first | rfl | simp,hbw8⟩
   | false=>
    go_wp2_with fail
    go_ret
    exact ⟨by first | rfl | simp,hbw8⟩
