/-
  Joined out of ExGr, VdM, VdM2, VdM3, VdM4, VCheck, RnM, VdM5, TopHolds, SdM, SdWalk, in their order: a claim bears at most so many files.
-/
import Derived.Test.YtjdfdmamonjnoaaGreatDoorSccB
import Derived.Test.YtjdfdmamonjnoaaGreatDoorSccC
import Derived.Test.YtjdfdmamonjnoaaGreatDoorLateG
namespace Go.Proofs.YtjdfdmamonjnoaaGreatDoor
open Go.ChangeShapes Go.WideShapes Go.ChangeAt Go.RowKit Go.Deep Go.Maps
open Terms Tm
set_option maxHeartbeats 6400000
set_option maxRecDepth 20000
noncomputable def exGr (m:Mo) (ps:List (List (Int × Int))) (l:List (Int × Int)) (K:Nat):Gr:=⟨xpP m ps l K,((begL m ps l).length:Nat),xpN m ps l K,xpT m ps l K,((aheadL l).length:Nat)⟩
section
variable {m : Mo} {ps : List (List (Int × Int))} {l : List (Int × Int)} {K : Nat}
theorem xpAt_eq (h:ExDone m ps l K) {i:Nat} (hi:i < K):xpAt m ps l i=(xpP m ps l K).getD i (0,0):=
 (exS_at (begL m ps l) (xpBh m ps l) (Nat.le_of_lt hi) (h.2.2.1 i hi)).symm
theorem xpN_get {K:Nat}:∀ {j:Nat},j < K->(xpN m ps l K).getD j []=plIx (xpP m ps l j) (xpBh m ps l (xpAt m ps l j)):=by
 induction K with
 | zero=>intro j h;omega
 | succ K ih=>
  intro j h;rw [xpN,List.getD_eq_getElem?_getD]
  by_cases hj:j < K
  ·rw [List.getElem?_append_left (by rw [xpN_len];exact hj),<- List.getD_eq_getElem?_getD]
   exact ih hj
  ·obtain rfl:j=K:=by omega
   rw [List.getElem?_append_right (by rw [xpN_len];exact Nat.le_refl _),xpN_len]
   simp
theorem xpT_get {K:Nat}:∀ {j:Nat},j < K->(xpT m ps l K).getD j 0=metN l (letL m ps (xpAt m ps l j).1) (xpAt m ps l j).2:=by
 induction K with
 | zero=>intro j h;omega
 | succ K ih=>
  intro j h;rw [xpT,List.getD_eq_getElem?_getD]
  by_cases hj:j < K
  ·rw [List.getElem?_append_left (by rw [xpT_len];exact hj),<- List.getD_eq_getElem?_getD]
   exact ih hj
  ·obtain rfl:j=K:=by omega
   rw [List.getElem?_append_right (by rw [xpT_len];exact Nat.le_refl _),xpT_len]
   simp
theorem xbeg_nodup (m:Mo) (ps:List (List (Int × Int))) (l:List (Int × Int)):(begL m ps l).Nodup:=by
 have key:∀ k,(begTo m ps l k).Nodup:=fun k=>by
  induction k with
  | zero=>simp [begTo]
  | succ k ih=>
   rw [begTo]
   split
   ·exact ih
   ·refine List.nodup_append.2 ⟨ih,by simp,fun a ha b hb e=>?_⟩
    rw [List.mem_singleton] at hb;subst hb;subst e;obtain ⟨_,d,h2,h3,_⟩:=xbg_mem _ ha;simp only at h3
    omega
 exact key _
theorem xpN_row (h:ExDone m ps l K) {i:Nat} (hi:i < K):((xpN m ps l K).getD i []).length=(xpBh m ps l ((xpP m ps l K).getD i (0,0))).length/\∀ q,q < (xpBh m ps l ((xpP m ps l K).getD i (0,0))).length->((xpN m ps l K).getD i []).getD q 0=(((xpP m ps l K).idxOf ((xpBh m ps l ((xpP m ps l K).getD i (0,0))).getD q (0,0)):Nat):Int)/\(xpBh m ps l ((xpP m ps l K).getD i (0,0))).getD q (0,0)∈xpP m ps l K:=by
 rw [xpN_get hi,<- xpAt_eq h hi];refine ⟨plIx_len _ _,fun q hq=>?_⟩
 have hmem:(xpBh m ps l (xpAt m ps l i)).getD q (0,0)∈xpP m ps l (i+1):=by
  rw [xpP_succ,plTo_iff];refine .inr ?_
  rw [List.getD_eq_getElem?_getD,List.getElem?_eq_getElem hq]
  exact List.getElem_mem _
 have hpre:xpP m ps l (i+1) <+: xpP m ps l K:=exS_le _ _ hi;refine ⟨?_,hpre.subset hmem⟩
 rw [plIx_at hq,<- xpP_succ,idx_pre hpre hmem]
theorem metN_range (l:List (Int × Int)) (letter:List Bool) (c:Int):0 <= metN l letter c/\metN l letter c < (2:Int) ^ (aheadL l).length:=by
 unfold metN
 split
 ·exact metTo_bounds _ _ _
 ·exact ⟨by omega,Int.pow_pos (by decide)⟩
theorem exGr_ok (hk:tkcode m ps l=0) (h:ExDone m ps l K):GOk (exGr m ps l K):=by
 have h6:=(lcode_zero (tk_zero hk).2).2.2.2.2
 have hbl:(begL m ps l).length <= (xpP m ps l K).length:=by
  have h1:=(exS_le (begL m ps l) (xpBh m ps l) (Nat.zero_le K)).length_le
  have h2:(begL m ps l).length <= (exS (begL m ps l) (xpBh m ps l) 0).length:=by
   show _ <= (plTo [] (begL m ps l)).length
   have hnd:=plTo_nodup (begL m ps l) [] List.nodup_nil;have hsub:begL m ps l ⊆ plTo [] (begL m ps l):=fun x hx=>(plTo_iff _ _ _).2 (.inr hx)
   exact (xbeg_nodup m ps l).length_le_of_subset hsub
  exact Nat.le_trans h2 h1
 refine ⟨⟨by show (xpP m ps l K).length <= _;rw [h.1];exact h.2.1,by show (xpN m ps l K).length=(xpP m ps l K).length;rw [xpN_len,h.1],by show (xpT m ps l K).length=(xpP m ps l K).length;rw [xpT_len,h.1],by show (0:Int) <= ((begL m ps l).length:Nat);omega,by show (((begL m ps l).length:Nat):Int) <= ((xpP m ps l K).length:Nat);omega,by show (0:Int) <= ((aheadL l).length:Nat);omega,by show (((aheadL l).length:Nat):Int) <= 6;omega⟩,fun i hi=>?_⟩
 have hiK:i < K:=by have:i < (xpP m ps l K).length:=hi;rw [h.1] at this;exact this
 refine ⟨?_,fun q hq=>?_⟩
 ·unfold GSet top
  show 0 <= (xpT m ps l K).getD i 0/\(xpT m ps l K).getD i 0 <= 2 ^ (((aheadL l).length:Nat):Int).toNat - 1
  rw [xpT_get hiK];have:=metN_range l (letL m ps (xpAt m ps l i).1) (xpAt m ps l i).2;rw [Int.toNat_natCast];omega
 ·obtain ⟨r1,r2⟩:=xpN_row h hiK
  have hq':q < (xpBh m ps l ((xpP m ps l K).getD i (0,0))).length:=by rw [<- r1];exact hq
  obtain ⟨r3,r4⟩:=r2 q hq'
  show 0 <= ((xpN m ps l K).getD i []).getD q 0/\((xpN m ps l K).getD i []).getD q 0 < ((xpP m ps l K).length:Nat)
  rw [r3];have:=List.idxOf_lt_length_of_mem r4;omega
end
theorem SpO.ops {w:World} {base:Nat} {v:Value} {x:List (Int × Int)} (h:SpO w base v x):OpsV w v x:=by
 rcases h.2 with ⟨rfl,h0⟩ | ⟨g,cap,cur,rfl,hb,hg,hnc,hcm,hcs,htake⟩
 ·have:x=[]:=by simpa using h0
  subst this;exact ⟨none,0,rfl,⟨by simp,fun _=>⟨rfl,rfl⟩⟩,fun h=>absurd rfl h⟩
 ·refine ⟨_,cap,rfl,⟨hnc,fun h=>by simp at h⟩,fun _=>⟨g,0,rfl,(Array.getElem?_eq_some_iff.1 hg).1,fun i hi=>?_⟩⟩
  obtain ⟨f0,f1⟩:=flat_get x i hi;rw [World.ownsRow.cellAt h _ (by omega),World.ownsRow.cellAt h _ (by omega)]
  simpa using ⟨f0,f1⟩
theorem GrX.graph {w:World} {base K:Nat} {m:Mo} {ps:List (List (Int × Int))} {l:List (Int × Int)} {sv nv tv:Value} (h:GrX w base m ps l K sv nv tv):GraphV w sv nv tv (exGr m ps l K):=by
 obtain ⟨h1,⟨us,n1,n2,n3⟩,h3⟩:=h;refine ⟨h1.ops,?_,intsV_of_owns h3⟩
 have n1':w.ownsRow base 36 1 nv us.length us:=by rw [n2];exact n1
 refine listsV_of_owns n1' ⟨n2,fun i hi=>?_⟩
 obtain ⟨ao,c,e1,e2,_,_⟩:=n3 i hi;have e1':us.getD i nilG=.slice ao ((xpN m ps l K).getD i []).length c:=e1;rw [e1'];exact e2
end Go.Proofs.YtjdfdmamonjnoaaGreatDoor
namespace Go.Proofs.YtjdfdmamonjnoaaGreatDoor
open Go.ChangeShapes Go.WideShapes Go.ChangeAt Go.RowKit Go.Deep
open Terms Tm
set_option maxHeartbeats 6400000
set_option maxRecDepth 20000
structure PRun (m:Mo) (path:List Int) (s:Nat):Prop where
 lt:s < path.length
 first:path.getD 0 0=begC m
 step:∀ i,i < path.length->path.getD (moAt s path.length (i+1)) 0∈nextL m (path.getD i 0)
structure PWay (m:Mo) (ps:List (List (Int × Int))) (l:List (Int × Int)) (K:Nat) (x:List Nat) (s:Nat):Prop where
 lt:s < x.length
 all:∀ i,i < x.length->x.getD i 0 < K
 first:x.getD 0 0 < (begL m ps l).length
 step:∀ i,i < x.length->x.getD (moAt s x.length (i+1)) 0∈nxt (exGr m ps l K) (x.getD i 0)
 met:∀ k,k < (aheadL l).length->∃ i,s <= i/\i < x.length/\bitB ((xpT m ps l K).getD (x.getD i 0) 0) k=true
section
variable {m : Mo} {ps : List (List (Int × Int))} {l : List (Int × Int)} {K : Nat}
noncomputable def spA (m:Mo) (ps:List (List (Int × Int))) (l:List (Int × Int)) (K i:Nat):Int × Int:=(xpP m ps l K).getD i (0,0)
theorem spA_mem (h:ExDone m ps l K) {i:Nat} (hi:i < K):spA m ps l K i∈xpP m ps l K:=by
 have hl:i < (xpP m ps l K).length:=by rw [h.1];exact hi
 unfold spA;rw [List.getD_eq_getElem?_getD,List.getElem?_eq_getElem hl]
 exact List.getElem_mem _
theorem spA_ok (h:ExDone m ps l K) {i:Nat} (hi:i < K):spOk m l (spA m ps l K i):=h.2.2.2 _ (spA_mem h hi)
theorem spA_idx {s:Int × Int} (hs:s∈xpP m ps l K):spA m ps l K ((xpP m ps l K).idxOf s)=s:=by
 have hi:=List.idxOf_lt_length_of_mem hs;unfold spA;rw [List.getD_eq_getElem?_getD,List.getElem?_eq_getElem hi]
 exact List.getElem_idxOf hi
theorem nxt_beh (h:ExDone m ps l K) {i j:Nat} (hi:i < K) (hj:j∈nxt (exGr m ps l K) i):spA m ps l K j∈xpBh m ps l (spA m ps l K i):=by
 obtain ⟨r1,r2⟩:=xpN_row h hi;unfold nxt at hj;obtain ⟨z,hz,rfl⟩:=List.mem_map.1 hj;have hz':z∈(xpN m ps l K).getD i []:=hz;obtain ⟨q,hq,e⟩:=List.getElem_of_mem hz';have hq':q < (xpBh m ps l ((xpP m ps l K).getD i (0,0))).length:=by rw [<- r1];exact hq
 obtain ⟨r3,r4⟩:=r2 q hq'
 have e2:((xpN m ps l K).getD i []).getD q 0=z:=by
  generalize (xpN m ps l K).getD i []=row at *;rw [List.getD_eq_getElem?_getD,List.getElem?_eq_getElem hq]
  exact e
 rw [<- e2,r3,Int.toNat_natCast,spA_idx r4];rw [List.getD_eq_getElem?_getD (l:=xpBh m ps l ((xpP m ps l K).getD i (0,0))),List.getElem?_eq_getElem hq']
 exact List.getElem_mem _
end
section
variable {m : Mo} {ps : List (List (Int × Int))} {l : List (Int × Int)} {K : Nat}
theorem beg_len0:(begL m ps l).length <= (xpP m ps l 0).length:=by
 show _ <= (plTo [] (begL m ps l)).length
 have hsub:begL m ps l ⊆ plTo [] (begL m ps l):=fun x hx=>(plTo_iff _ _ _).2 (.inr hx)
 exact (xbeg_nodup m ps l).length_le_of_subset hsub
theorem spA_beg {i:Nat} (hi:i < (begL m ps l).length):spA m ps l K i∈begL m ps l:=by
 have h0:i < (xpP m ps l 0).length:=Nat.lt_of_lt_of_le hi beg_len0;have e:spA m ps l K i=(xpP m ps l 0).getD i (0,0):=exS_at (begL m ps l) (xpBh m ps l) (Nat.zero_le K) h0;rw [e]
 have hm:(xpP m ps l 0).getD i (0,0)∈xpP m ps l 0:=by
  rw [List.getD_eq_getElem?_getD,List.getElem?_eq_getElem h0]
  exact List.getElem_mem _
 rcases (plTo_iff _ _ _).1 hm with h | h
 ·exact absurd h List.not_mem_nil
 ·exact h
theorem getD_map {α β:Type} (f:α->β) (x:List α) (d:α) (e:β) {i:Nat} (hi:i < x.length):(x.map f).getD i e=f (x.getD i d):=by
 simp [List.getD_eq_getElem?_getD,hi]
theorem sub_zero (T:Tm):T.sub 0=T:=by cases T <;> rfl
theorem way_run {T:Tm} (hw:T.Wf) (ho:T.ops=l) (hz:endsCode (l.map Prod.fst)=0) (hv:∀ q,q < l.length->(l.getD q (0,0)).1=13->0 <= (l.getD q (0,0)).2) (h8:∀ q,q < l.length->8 <= (l.getD q (0,0)).1) (hk:tkcode m ps l=0) (h:ExDone m ps l K) {x:List Nat} {s:Nat} (hx:PWay m ps l K x s) :
  PRun m (x.map fun i=>(spA m ps l K i).1) s/\T.hb (sig ((x.map fun i=>(spA m ps l K i).1).map (letL m ps)) s) 0=false:=by
 have hn:(x.map fun i=>(spA m ps l K i).1).length=x.length:=List.length_map _
 have hln:((x.map fun i=>(spA m ps l K i).1).map (letL m ps)).length=x.length:=by simp
 have hp:∀ i,i < x.length->(x.map fun i=>(spA m ps l K i).1).getD i 0=(spA m ps l K (x.getD i 0)).1:=fun i hi=>getD_map _ x 0 0 hi
 have hls:∀ i,i < x.length->((x.map fun i=>(spA m ps l K i).1).map (letL m ps)).getD i []=letL m ps (spA m ps l K (x.getD i 0)).1:=fun i hi=>by rw [getD_map _ _ 0 [] (by rw [hn];exact hi),hp i hi]
 have hmo:∀ i,moAt s x.length i < x.length:=fun i=>moAt_lt hx.lt
 have hbh:∀ i,i < x.length->spA m ps l K (x.getD (moAt s x.length (i+1)) 0)∈xpBh m ps l (spA m ps l K (x.getD i 0)):=fun i hi=>nxt_beh h (hx.all i hi) (hx.step i hi)
 have h0:0 < x.length:=Nat.lt_of_le_of_lt (Nat.zero_le _) hx.lt;obtain ⟨b1,d0,b2,b3,b4⟩:=xbg_mem _ (spA_beg (K:=K) hx.first);refine ⟨⟨by rw [hn];exact hx.lt,by rw [hp 0 h0];exact b1,fun i hi=>?_⟩,?_⟩
 ·rw [hn] at hi ⊢
  rw [hp i hi,hp _ (hmo _)];exact (xbe_mem _ (Nat.le_refl _) (hbh i hi)).1
 ·have hcl:=claims_only hw ho hz hv h8 (ls:=(x.map fun i=>(spA m ps l K i).1).map (letL m ps)) (s:=s) (by rw [hln];exact hx.lt) (fun i=>(spA m ps l K (x.getD i 0)).2) (fun i hi=>?_) (fun i hi p hp1 hb=>?_) (fun p hp1 hb=>?_)
  ·have hc0:=hcl 0 (by rw [hln];exact h0)
   have htr:=claims_tru hw ho hz hv h8 (ls:=(x.map fun i=>(spA m ps l K i).1).map (letL m ps)) (s:=s) (i:=0) (by rw [hln];exact h0) (p:=0) (tk_ne hk)
   rw [<- hc0,hls 0 h0,sub_zero,b1,b3] at htr;rw [<- htr]
   cases hb:tru l (letL m ps (begC m)) (d0:Int) 0 with
   | false=>rfl
   | true=>exact absurd hb b4
  ·rw [hln] at hi
   obtain ⟨_,d,g1,g2⟩:=spA_ok h (hx.all i hi);rw [g2];have:((2 ^ (aheadL l).length:Nat):Int)=(2:Int) ^ (aheadL l).length:=by push_cast;rfl
   rw [<- this];omega
  ·rw [hln] at hi ⊢
   obtain ⟨_,d,_,e2,e3⟩:=xbe_mem _ (Nat.le_refl _) (hbh i hi);rw [<- e2] at e3;rw [hls i hi,hls _ (hmo _)]
   have hF:Fol l (tru l (letL m ps (spA m ps l K (x.getD i 0)).1) (spA m ps l K (x.getD i 0)).2) (tru l (letL m ps (spA m ps l K (x.getD (moAt s x.length (i+1)) 0)).1) (spA m ps l K (x.getD (moAt s x.length (i+1)) 0)).2):=by
    by_cases hno:Fol l (tru l (letL m ps (spA m ps l K (x.getD i 0)).1) (spA m ps l K (x.getD i 0)).2) (tru l (letL m ps (spA m ps l K (x.getD (moAt s x.length (i+1)) 0)).1) (spA m ps l K (x.getD (moAt s x.length (i+1)) 0)).2)
    ·exact hno
    ·rw [folR_no hno] at e3;cases e3
   exact hF p hp1 hb
  ·obtain ⟨k1,k2⟩:=ahead_at hp1 hb
   obtain ⟨i,i1,i2,i3⟩:=hx.met _ k1;refine ⟨i,i1,by rw [hln];exact i2,?_⟩
   rw [hls i i2];obtain ⟨g0,d,g1,g2⟩:=spA_ok h (hx.all i i2);rw [xpT_get (hx.all i i2),xpAt_eq h (hx.all i i2)] at i3;have i4:bitB (metN l (letL m ps (spA m ps l K (x.getD i 0)).1) (spA m ps l K (x.getD i 0)).2) (aheadTo l p).length=true:=i3;rw [g2] at i4 ⊢;unfold metN at i4;rw [if_pos (tk_tru hk g0 g1).1,met_bit _ _ k1,k2] at i4;unfold waitAt at i4
   simp only [Int.toNat_natCast] at i4;simpa using i4
end
theorem bitB_nat (n i:Nat):bitB (n:Int) i=n.testBit i:=by
 unfold bitB;rw [Nat.testBit_eq_decide_div_mod_eq];have e:((n / 2 ^ i % 2:Nat):Int)=(n:Int) / 2 ^ i % 2:=by push_cast;rfl
 rw [<- e]
 apply decide_eq_decide.2
 omega
theorem Trail.at {nx:Nat->List Nat}:∀ {L:List Nat},Trail nx L->∀ i,i+1 < L.length->L.getD (i+1) 0∈nx (L.getD i 0)
 | [],_,i,h=>by simp at h
 | [_],_,i,h=>by simp at h
 | a:: b:: L,h,0,_=>by simpa using h.1
 | a:: b:: L,h,i+1,hi=>by
  have:=Trail.at (L:=b:: L) h.2 i (by simpa using hi)
  simpa using this
section
variable {m : Mo} {ps : List (List (Int × Int))} {l : List (Int × Int)} {K : Nat}
theorem exGr_bit {i k:Nat}:(sN (exGr m ps l K) i).testBit k=bitB ((xpT m ps l K).getD i 0) k\/(xpT m ps l K).getD i 0 < 0:=by
 by_cases h:(xpT m ps l K).getD i 0 < 0
 ·exact .inr h
 ·refine .inl ?_
  obtain ⟨n,hn⟩:∃ n:Nat,(xpT m ps l K).getD i 0=(n:Int):=⟨((xpT m ps l K).getD i 0).toNat,by omega⟩
  show ((xpT m ps l K).getD i 0).toNat.testBit k=_
  rw [hn,bitB_nat,Int.toNat_natCast]
theorem xpT_pos {i:Nat} (hi:i < K):¬ (xpT m ps l K).getD i 0 < 0:=by
 rw [xpT_get hi];have:=(metN_range l (letL m ps (xpAt m ps l i).1) (xpAt m ps l i).2).1;omega
theorem lasso_way (h:ExDone m ps l K) {st lp:List Nat} (hL:LassoOk (exGr m ps l K) st lp):PWay m ps l K (st++lp) st.length:=by
 have hK:(exGr m ps l K).spots.length=K:=h.1;have hlp:0 < lp.length:=List.length_pos_iff.2 hL.ne;have hn:(st++lp).length=st.length+lp.length:=List.length_append
 have hall:∀ i,i < (st++lp).length->(st++lp).getD i 0 < K:=fun i hi=>by
  have:=hL.lt ((st++lp).getD i 0) (by rw [List.getD_eq_getElem?_getD,List.getElem?_eq_getElem hi];exact List.getElem_mem _)
  rw [hK] at this;exact this
 have hg:∀ i,i < (st++lp).length->(st++lp++[lp.getD 0 0]).getD i 0=(st++lp).getD i 0:=fun i hi=>by
  simp only [List.getD_eq_getElem?_getD]
  rw [List.getElem?_append_left hi]
 have hlast:(st++lp++[lp.getD 0 0]).getD (st++lp).length 0=(st++lp).getD st.length 0:=by
  simp only [List.getD_eq_getElem?_getD]
  rw [List.getElem?_append_right (Nat.le_refl _),Nat.sub_self,List.getElem?_append_right (Nat.le_refl _),Nat.sub_self]
  rfl
 refine ⟨by omega,hall,?_,fun i hi=>?_,fun k hk=>?_⟩
 ·have:=hL.head
  have e:(exGr m ps l K).init=((begL m ps l).length:Nat):=rfl;rw [e] at this;omega
 ·have htr:=hL.trail.at i (by simp at hi ⊢;omega)
  rw [hg i hi] at htr
  by_cases hi2:i+1 < (st++lp).length
  ·rw [moAt_low hi2]
   rw [hg _ hi2] at htr;exact htr
  ·have e:i+1=(st++lp).length:=by omega
   have hm:moAt st.length (st++lp).length (i+1)=st.length:=by
    rw [e];unfold moAt;rw [if_neg (Nat.lt_irrefl _),Nat.mod_self];rfl
   rw [hm];rw [e,hlast] at htr;exact htr
 ·have hk':k < mN (exGr m ps l K):=by
   show k < (((aheadL l).length:Nat):Int).toNat
   rw [Int.toNat_natCast];exact hk
  obtain ⟨x,hx,hb⟩:=hL.bits k hk';obtain ⟨q,hq,rfl⟩:=List.getElem_of_mem hx;have hi:st.length+q < (st++lp).length:=by omega
  have hge:(st++lp).getD (st.length+q) 0=lp[q]:=by
   simp only [List.getD_eq_getElem?_getD]
   rw [List.getElem?_append_right (by omega),show st.length+q - st.length=q by omega,List.getElem?_eq_getElem hq]
   rfl
  refine ⟨st.length+q,by omega,hi,?_⟩
  rw [hge];have hlt:lp[q] < K:=by rw [<- hge];exact hall _ hi
  rcases exGr_bit (m:=m) (ps:=ps) (l:=l) (K:=K) (i:=lp[q]) (k:=k) with e | e
  ·rw [<- e];exact hb
  ·exact absurd e (xpT_pos hlt)
end
def AllKeep (m:Mo) (ps:List (List (Int × Int))) (T:Tm):Prop:=∀ (path:List Int) (s:Nat),PRun m path s->T.hb (sig (path.map (letL m ps)) s) 0=true
section
variable {m : Mo} {ps : List (List (Int × Int))} {l : List (Int × Int)} {K : Nat}
end
end Go.Proofs.YtjdfdmamonjnoaaGreatDoor
namespace Go.Proofs.YtjdfdmamonjnoaaGreatDoor
open Go.ChangeShapes Go.WideShapes Go.ChangeAt Go.RowKit Go.Deep Go.Maps
open Terms Tm
set_option maxHeartbeats 6400000
set_option maxRecDepth 20000
section
variable {m : Mo} {ps : List (List (Int × Int))} {l : List (Int × Int)} {K : Nat}
theorem exGr_le (hk:tkcode m ps l=0) (h:ExDone m ps l K):GrLe (exGr m ps l K):=by
 have e1:(exGr m ps l K).spots.length=K:=h.1;have e2:(exGr m ps l K).next.length=K:=xpN_len K;have e3:(exGr m ps l K).sets.length=K:=xpT_len K;have hm0:=(pcode_m (tk_zero hk).1).1;have h6:=(lcode_zero (tk_zero hk).2).2.2.2.2;refine ⟨by rw [e1];have:=h.2.1;omega,by rw [e2];have:=h.2.1;omega,by rw [e3];have:=h.2.1;omega,fun i hi=>?_⟩
 rw [e2] at hi
 show ((xpN m ps l K).getD i []).length <= _
 rw [(xpN_row h hi).1]
 have hin:(xpP m ps l K).getD i (0,0)∈xpP m ps l K:=by
  have hl:i < (xpP m ps l K).length:=by rw [h.1];exact hi
  rw [List.getD_eq_getElem?_getD,List.getElem?_eq_getElem hl]
  exact List.getElem_mem _
 have:=behL_len (ps:=ps) (l:=l) (c:=((xpP m ps l K).getD i (0,0)).2) hm0 (h.2.2.2 _ hin).1 h6
 show (behL _ _ _ _ _).length <= _
 omega
noncomputable def stL (m:Mo) (ps:List (List (Int × Int))) (l:List (Int × Int)) (K:Nat) (x:List Nat):List Int:=(List.range x.length).map fun (j:Nat)=>((xpP m ps l K).getD (x.getD j 0) (0,0)).1
def VdAns (w:World) (m:Mo) (ps:List (List (Int × Int))) (l:List (Int × Int)) (e:Ending) (w':World):Prop:=
 (tkcode m ps l=0/\(∃ K,ExDone m ps l K/\fairC (exGr m ps l K)=11)/\e=.returned (.tuple #[.agg #[.bool true,.slice none 0 0,.slice none 0 0],.int .i64 0])/\Below w.heap.size w w')\/
 (tkcode m ps l=0/\∃ K st lp A B,ExDone m ps l K/\LassoOk (exGr m ps l K) st lp/\st.length <= 20000/\lp.length <= 2000000/\e=.returned (.tuple #[.agg #[.bool false,.slice (some ⟨A,0,none⟩) st.length st.length,.slice (some ⟨B,0,none⟩) lp.length lp.length],.int .i64 0])/\Below w.heap.size w w'/\Hid (IntsV w' (.slice (some ⟨A,0,none⟩) st.length st.length) (stL m ps l K st)/\IntsV w' (.slice (some ⟨B,0,none⟩) lp.length lp.length) (stL m ps l K lp)))\/
 (tkcode m ps l=0/\ExFull m ps l/\e=.returned (.tuple #[.agg #[.bool false,.slice none 0 0,.slice none 0 0],.int .i64 12])/\Below w.heap.size w w')\/
 (tkcode m ps l≠0/\e=.returned (.tuple #[.agg #[.bool false,.slice none 0 0,.slice none 0 0],.int .i64 (tkcode m ps l)])/\Below w.heap.size w w')
end
def vcP (g f0 f1:Value) (G:Nat) (st lp:List Int) (ns np:Nat):Nat->Value->World->Prop
 | 0,v,_=>v=g
 | 1,v,_=>v=.pointer (some ⟨G,0,none⟩)
 | 2,v,_=>v=f0
 | 3,v,w=>∃ R,v=.slice (some ⟨R,0,none⟩) ns ns/\IntsV w v st
 | 4,v,_=>v=g
 | 5,v,_=>v=.pointer (some ⟨G,1,none⟩)
 | 6,v,_=>v=f1
 | 7,v,w=>∃ R,v=.slice (some ⟨R,0,none⟩) np np/\IntsV w v lp
 | 8,v,w=>∃ A B,v=.agg #[.slice (some ⟨A,0,none⟩) ns ns,.slice (some ⟨B,0,none⟩) np np]/\IntsV w (.slice (some ⟨A,0,none⟩) ns ns) st/\IntsV w (.slice (some ⟨B,0,none⟩) np np) lp
 | 9,v,w=>∃ A B,v=.agg #[.bool false,.slice (some ⟨A,0,none⟩) ns ns,.slice (some ⟨B,0,none⟩) np np]/\IntsV w (.slice (some ⟨A,0,none⟩) ns ns) st/\IntsV w (.slice (some ⟨B,0,none⟩) np np) lp
 | _,_,_=>True
theorem vc_lt:∀ i,i < 10->i=0\/i=1\/i=2\/i=3\/i=4\/i=5\/i=6\/i=7\/i=8\/i=9:=by intro i hi;omega
theorem vcP_stable (g f0 f1:Value) (G:Nat) (st lp:List Int) (ns np:Nat) (i:Nat) (v:Value) (w w':World) (hi:i < 10) (h:vcP g f0 f1 G st lp ns np i v w) (hb:Below w.heap.size w w'):vcP g f0 f1 G st lp ns np i v w':=by
 rcases vc_lt i hi with rfl | rfl | rfl | rfl | rfl | rfl | rfl | rfl | rfl | rfl
 ·exact h
 ·exact h
 ·exact h
 ·obtain ⟨R,h1,h2⟩:=h;exact ⟨R,h1,h2.below hb⟩
 ·exact h
 ·exact h
 ·exact h
 ·obtain ⟨R,h1,h2⟩:=h;exact ⟨R,h1,h2.below hb⟩
 ·obtain ⟨A,B,h1,h2,h3⟩:=h;exact ⟨A,B,h1,h2.below hb,h3.below hb⟩
 ·obtain ⟨A,B,h1,h2,h3⟩:=h;exact ⟨A,B,h1,h2.below hb,h3.below hb⟩
theorem IntsV.setBool {w:World} {v:Value} {l:List Int} {p:Addr} {b:Bool} (h:IntsV w v l) (hc:w.cell? p=some (.bool b)) (u:Value):IntsV (w.setCell p u) v l:=by
 obtain ⟨ao,cap,rfl,h⟩:=h;refine ⟨ao,cap,rfl,fun hne=>?_⟩
 obtain ⟨c,off,rfl,hlt,hat⟩:=h hne;refine ⟨c,off,rfl,by simpa using hlt,fun j hj=>?_⟩
 have h1:=hat j hj
 have hne2:(⟨c,off+j,none⟩:Addr)≠p:=by
  intro e;rw [e,hc] at h1;simp at h1
 rw [World.cell?_setCell_other _ _ _ _ hne2.symm]
 exact h1
theorem boxed {w:World} {v:Value} {x:List Int} {R:Nat} {b:Bool} {a1 a2:Option Addr} {n1 n2 c1 c2:Nat} (h:IntsV w v x) (k0:w.cell? ⟨R,0,none⟩=some (.bool b)) (k1:w.cell? ⟨R,1,none⟩=some (.slice a1 n1 c1)) (k2:w.cell? ⟨R,2,none⟩=some (.slice a2 n2 c2)) (u0 u1 u2:Value):IntsV (((w.setCell ⟨R,0,none⟩ u0).setCell ⟨R,1,none⟩ u1).setCell ⟨R,2,none⟩ u2) v x:=by
 have h0:=h.setBool k0 u0;have h1:=h0.setBox (p:=⟨R,1,none⟩) ((World.cell?_setCell_other _ _ _ _ (by simp)).trans k1) u1
 exact h1.setBox (p:=⟨R,2,none⟩) ((World.cell?_setCell_other _ _ _ _ (by simp)).trans ((World.cell?_setCell_other _ _ _ _ (by simp)).trans k2)) u2
def laB (sv lv:Value):Obj:=.cells #[sv,lv] 38 (0,0)
theorem laB_cells {w:World} {X:Nat} {sv lv:Value} (hb:w.heap[X]? = some (laB sv lv)):w.cell? ⟨X,0,none⟩=some sv/\w.cell? ⟨X,1,none⟩=some lv:=by
 unfold laB at hb;refine ⟨?_,?_⟩ <;> simp [World.cell?,hb]
theorem vcheck_bad (va vr pv fv:Value) (m:Mo) (ps:List (List (Int × Int))) (l:List (Int × Int)) (w:World) (hV:TaskV w va vr pv fv m ps l) (c:Int) (hc:c≠0) (hex:∀ w',Below w.heap.size w w'->Calls Tryz.prog 23 #[.agg #[va,vr,pv,fv]] w' fun e w2=>e=.returned (.tuple #[.agg #[.slice none 0 0,.int .i64 0,.slice none 0 0,.slice none 0 0,.int .i64 0],.int .i64 c])/\Below w'.heap.size w' w2) :
    Calls Tryz.prog 10 #[.agg #[va,vr,pv,fv]] w fun e w'=>e=.returned (.tuple #[.agg #[.bool false,.slice none 0 0,.slice none 0 0],.int .i64 c])/\Below w.heap.size w w':=by
  obtain ⟨ao,ac,rfl⟩:=hV.mo.1.shape;obtain ⟨ro,rc,rfl⟩:=hV.mo.2.shape;obtain ⟨po,pc,rfl⟩:=hV.ps.shape;obtain ⟨fo,fc,rfl,_⟩:=id hV.fo;clear hV;generalize m.vars.length=vn at *;generalize m.rules.length=rn at *;generalize ps.length=pn at *;generalize l.length=fn at *
  obtain ⟨W1,hW1⟩:∃ W1,W1=(w.alloc (.cells #[.slice ao vn ac,.slice ro rn rc,.slice po pn pc,.slice fo fn fc] 34)).alloc (.cells #[.bool false,.slice none 0 0,.slice none 0 0] 40):=⟨_,rfl⟩
  have hb1:Below w.heap.size w W1:=by rw [hW1];exact ((Below.refl _ _).alloc (Nat.le_refl _) _).alloc (by simp) _
  have hz1:W1.heap.size=w.heap.size+2:=by rw [hW1];simp
  have he:=hex W1 hb1
  have HBx:Hid (∀ w',Below W1.heap.size W1 w'->(w'.cell? ⟨w.heap.size+1,0,none⟩=some (.bool false)/\w'.cell? ⟨w.heap.size+1,1,none⟩=some (.slice none 0 0)/\w'.cell? ⟨w.heap.size+1,2,none⟩=some (.slice none 0 0))/\(w'.frozen? ⟨w.heap.size+1,0,none⟩=false/\w'.frozen? ⟨w.heap.size+1,1,none⟩=false/\w'.frozen? ⟨w.heap.size+1,2,none⟩=false)):=fun w' h=>by
    have hlt:w.heap.size+1 < W1.heap.size:=by omega
    refine ⟨⟨?_,?_,?_⟩,?_,?_,?_⟩
    · exact (h.cell (p:=⟨w.heap.size+1,0,none⟩) hlt).trans (by rw [hW1];simp [go_sem])
    · exact (h.cell (p:=⟨w.heap.size+1,1,none⟩) hlt).trans (by rw [hW1];simp [go_sem])
    · exact (h.cell (p:=⟨w.heap.size+1,2,none⟩) hlt).trans (by rw [hW1];simp [go_sem])
    · exact (h.frozen (p:=⟨w.heap.size+1,0,none⟩) hlt).trans (by rw [hW1];simp [go_sem])
    · exact (h.frozen (p:=⟨w.heap.size+1,1,none⟩) hlt).trans (by rw [hW1];simp [go_sem])
    · exact (h.frozen (p:=⟨w.heap.size+1,2,none⟩) hlt).trans (by rw [hW1];simp [go_sem])
  have HW1:=(show Hid (W1=_) from hW1)
  clear hW1 hex
  go_enter Tryz.func10,Tryz.ntmps10
  go_upto_region 2 with (go_at_call 23;rw [<- HW1.out];refine he.mono ?_;rintro e w2 ⟨rfl,hb2⟩)
  have hbA:Below w2.heap.size w2 (w2.alloc (.cells #[.slice none 0 0,.int .i64 0,.slice none 0 0,.slice none 0 0,.int .i64 0] 71)):=(Below.refl _ _).alloc (Nat.le_refl _) _;have hb3:=hb2.trans (hbA.mono hb2.size);generalize w2.alloc (.cells #[.slice none 0 0,.int .i64 0,.slice none 0 0,.slice none 0 0,.int .i64 0] 71)=W3 at *;obtain ⟨⟨r0,r1,r2⟩,f0,f1,f2⟩:=HBx.out W3 hb3
  have hbw3:=hb1.trans (hb3.mono hb1.size);have hcb:¬ c=0:=hc;clear HBx HW1 he
  go_wp2_with fail
  refine bodyPost_ret (v:=.tuple #[.agg #[.bool false,.slice none 0 0,.slice none 0 0],.int .i64 c]) ?_ rfl ⟨rfl,?_⟩
  · simp only [results,Tryz.results10]
    simp [go_sem,r0,r1,r2]
  · exact ((hbw3.setCell (p:=⟨w.heap.size+1,0,none⟩) (by show w.heap.size <= w.heap.size+1;omega) _).setCell (p:=⟨w.heap.size+1,1,none⟩) (by show w.heap.size <= w.heap.size+1;omega) _).setCell (p:=⟨w.heap.size+1,2,none⟩) (by show w.heap.size <= w.heap.size+1;omega) _
theorem vcheck_ok (va vr pv fv:Value) (m:Mo) (ps:List (List (Int × Int))) (l:List (Int × Int)) (w:World) (hB:0 < w.heap.size) (hT:TabAt w) (hV:TaskV w va vr pv fv m ps l) (hk:tkcode m ps l=0) (hnf:¬ ExFull m ps l) :
  Calls Tryz.prog 10 #[.agg #[va,vr,pv,fv]] w (VdAns w m ps l):=by
 obtain ⟨ao,ac,rfl⟩:=hV.mo.1.shape;obtain ⟨ro,rc,rfl⟩:=hV.mo.2.shape;obtain ⟨po,pc,rfl⟩:=hV.ps.shape;obtain ⟨fo,fc,rfl,_⟩:=id hV.fo;obtain ⟨W1,hW1⟩:∃ W1,W1=(w.alloc (.cells #[.slice ao m.vars.length ac,.slice ro m.rules.length rc,.slice po ps.length pc,.slice fo l.length fc] 34)).alloc (.cells #[.bool false,.slice none 0 0,.slice none 0 0] 40):=⟨_,rfl⟩
 have hb1:Below w.heap.size w W1:=by rw [hW1];exact ((Below.refl _ _).alloc (Nat.le_refl _) _).alloc (by simp) _
 have hz1:W1.heap.size=w.heap.size+2:=by rw [hW1];simp
 have hex:Calls Tryz.prog 23 #[.agg #[.slice ao m.vars.length ac,.slice ro m.rules.length rc,.slice po ps.length pc,.slice fo l.length fc]] W1 fun e w2=>∃ K so sc no nc xo xc,e=.returned (.tuple #[.agg #[.slice so K sc,.int .i64 ((begL m ps l).length:Nat),.slice no K nc,.slice xo K xc,.int .i64 ((aheadL l).length:Nat)],.int .i64 0])/\Below W1.heap.size W1 w2/\K <= 20000/\Hid (ExDone m ps l K/\GraphV w2 (.slice so K sc) (.slice no K nc) (.slice xo K xc) (exGr m ps l K)):=by
  refine (explore_any _ _ _ _ m ps l W1 (Nat.lt_of_lt_of_le hB hb1.size) (hT.below hb1 hB) (hV.below hb1)).mono fun e w2 hx=>?_
  rcases hx with ⟨_,K,hD,sv,nv,tv,e1,h2,HG⟩ | ⟨_,hf,_,_⟩ | ⟨h1,_,_⟩
  ·have hGr:=HG.out.graph
   obtain ⟨so,sc,rfl⟩:=HG.out.1.shape;obtain ⟨us,n1,_⟩:=HG.out.2.1;obtain ⟨no,nc,rfl⟩:=owns_slice n1;obtain ⟨xo,xc,rfl⟩:=owns_slice HG.out.2.2;rw [hD.1,xpN_len,xpT_len] at e1 hGr;exact ⟨K,so,sc,no,nc,xo,xc,e1,h2,hD.2.1,hD,hGr⟩
  ·exact absurd hf hnf
  ·exact absurd hk h1
 have HBx:Hid (∀ w',Below W1.heap.size W1 w'->(w'.cell? ⟨w.heap.size+1,0,none⟩=some (.bool false)/\w'.cell? ⟨w.heap.size+1,1,none⟩=some (.slice none 0 0)/\w'.cell? ⟨w.heap.size+1,2,none⟩=some (.slice none 0 0))/\(w'.frozen? ⟨w.heap.size+1,0,none⟩=false/\w'.frozen? ⟨w.heap.size+1,1,none⟩=false/\w'.frozen? ⟨w.heap.size+1,2,none⟩=false)):=fun w' h=>by
  have hlt:w.heap.size+1 < W1.heap.size:=by omega
  refine ⟨⟨?_,?_,?_⟩,?_,?_,?_⟩
  ·exact (h.cell (p:=⟨w.heap.size+1,0,none⟩) hlt).trans (by rw [hW1];simp [go_sem])
  ·exact (h.cell (p:=⟨w.heap.size+1,1,none⟩) hlt).trans (by rw [hW1];simp [go_sem])
  ·exact (h.cell (p:=⟨w.heap.size+1,2,none⟩) hlt).trans (by rw [hW1];simp [go_sem])
  ·exact (h.frozen (p:=⟨w.heap.size+1,0,none⟩) hlt).trans (by rw [hW1];simp [go_sem])
  ·exact (h.frozen (p:=⟨w.heap.size+1,1,none⟩) hlt).trans (by rw [hW1];simp [go_sem])
  ·exact (h.frozen (p:=⟨w.heap.size+1,2,none⟩) hlt).trans (by rw [hW1];simp [go_sem])
 have HLa:Hid (∀ (w':World) (so no xo:Option Addr) (sc nc xc K:Nat),ExDone m ps l K->GraphV w' (.slice so K sc) (.slice no K nc) (.slice xo K xc) (exGr m ps l K)->Calls Tryz.prog 27 #[.agg #[.slice so K sc,.int .i64 ((begL m ps l).length:Nat),.slice no K nc,.slice xo K xc,.int .i64 ((aheadL l).length:Nat)]] w' fun e w2=>∃ t0 tn tc uo un uc c,e=.returned (.tuple #[.agg #[.slice t0 tn tc,.slice uo un uc],.int .i64 c])/\Below w'.heap.size w' w2/\Hid (LassoV (exGr m ps l K) w2 (.agg #[.slice t0 tn tc,.slice uo un uc]) c)):=fun w' so no xo sc nc xc K hD hGr=>by
  have hok:=exGr_ok hk hD;have hc0:gcode (exGr m ps l K)=0:=gcode_ok hok.head hok.row;have e1:(exGr m ps l K).spots.length=K:=hD.1;have e2:(exGr m ps l K).next.length=K:=xpN_len K;have e3:(exGr m ps l K).sets.length=K:=xpT_len K;have h:=slasso_ok so no xo sc nc xc (exGr m ps l K) w' (exGr_le hk hD) (by rw [e1,e2,e3];exact hGr) hc0
  rw [e1,e2,e3] at h;refine h.mono fun e w2 ⟨v,c,g1,g2,g3⟩=>?_
  rcases id g3.out with ⟨_,_,rfl⟩ | ⟨_,_,t0,tc,uo,uc,st,lp,rfl,_⟩
  ·exact ⟨_,_,_,_,_,_,c,g1,g2,g3⟩
  ·exact ⟨_,_,_,_,_,_,c,g1,g2,g3⟩
 have HSt:Hid (∀ (w':World) (so no xo po:Option Addr) (sc nc xc pc K:Nat) (x:List Nat),ExDone m ps l K->OpsV w' (.slice so K sc) (xpP m ps l K)->NatsV w' (.slice po x.length pc) x->(∀ y∈x,y < K)->x.length <= 2000000->Calls Tryz.prog 28 #[.agg #[.slice so K sc,.int .i64 ((begL m ps l).length:Nat),.slice no K nc,.slice xo K xc,.int .i64 ((aheadL l).length:Nat)],.slice po x.length pc] w' fun e w2=>∃ R,e=.returned (.slice (some ⟨R,0,none⟩) x.length x.length)/\Below w'.heap.size w' w2/\Hid (IntsV w2 (.slice (some ⟨R,0,none⟩) x.length x.length) (stL m ps l K x))):=fun w' so no xo po sc nc xc pc K x hD hO hN hlt hz=>by
  have h:=statesAt_any so no xo po sc K nc K xc pc ((begL m ps l).length:Nat) ((aheadL l).length:Nat) (xpP m ps l K) x w' (by rw [hD.1];exact hO) hN (fun i hi=>by
   rw [hD.1];refine hlt _ ?_
   rw [List.getD_eq_getElem?_getD,List.getElem?_eq_getElem hi]
   exact List.getElem_mem _) hz (by rw [hD.1];exact hD.2.1)
  rw [hD.1] at h;exact h
 have HTk:Hid (tkcode m ps l=0):=hk;have HW1:=(show Hid (W1=_) from hW1)
 clear hW1 hV hT hk hnf;unfold VdAns;generalize hbl:(begL m ps l).length=bn at *;generalize hal:(aheadL l).length=an at *;generalize m.vars.length=vn at *;generalize m.rules.length=rn at *;generalize ps.length=pn at *;generalize l.length=fn at *;clear hbl hal
 go_enter Tryz.func10,Tryz.ntmps10
 go_upto_region 2 with (go_at_call 23;rw [<- HW1.out];refine hex.mono ?_;rintro e w2 ⟨K,so,sc,no,nc,xo,xc,rfl,hb2,hK,HD⟩)
 have hbA:Below w2.heap.size w2 (w2.alloc (.cells #[.slice so K sc,.int .i64 (bn:Nat),.slice no K nc,.slice xo K xc,.int .i64 (an:Nat)] 71)):=(Below.refl _ _).alloc (Nat.le_refl _) _
 have hbg:(w2.alloc (.cells #[.slice so K sc,.int .i64 (bn:Nat),.slice no K nc,.slice xo K xc,.int .i64 (an:Nat)] 71)).heap[w2.heap.size]? = some (grB (.slice so K sc) (.slice no K nc) (.slice xo K xc) (bn:Nat) (an:Nat)):=(MapKept.heap_alloc w2 _).1;have hb3:=hb2.trans (hbA.mono hb2.size)
 have HG3:Hid (GraphV (w2.alloc (.cells #[.slice so K sc,.int .i64 (bn:Nat),.slice no K nc,.slice xo K xc,.int .i64 (an:Nat)] 71)) (.slice so K sc) (.slice no K nc) (.slice xo K xc) (exGr m ps l K)):=HD.out.2.below hbA;have HDn:Hid (ExDone m ps l K):=HD.out.1;have hXw:W1.heap.size <= w2.heap.size:=hb2.size
 generalize w2.alloc (.cells #[.slice so K sc,.int .i64 (bn:Nat),.slice no K nc,.slice xo K xc,.int .i64 (an:Nat)] 71)=W3 at *;generalize w2.heap.size=X at *;have hla:=HLa.out W3 so no xo sc nc xc K HDn.out HG3.out;obtain ⟨g0,g1,g2,g3,g4⟩:=grB_cells hbg
 have HGb:Hid (W3.heap[X]? = some (grB (.slice so K sc) (.slice no K nc) (.slice xo K xc) (bn:Nat) (an:Nat))):=hbg;clear HD hex HLa hbA hbg HW1
 go_upto_region 5 with (go_at_call 27;refine hla.mono ?_;rintro e w4 ⟨t0,tn,tc,uo,un,uc,c,rfl,hb4,HL⟩)
 have hbB:Below w4.heap.size w4 (w4.alloc (.cells #[.slice t0 tn tc,.slice uo un uc] 38)):=(Below.refl _ _).alloc (Nat.le_refl _) _;have hbl5:(w4.alloc (.cells #[.slice t0 tn tc,.slice uo un uc] 38)).heap[w4.heap.size]? = some (laB (.slice t0 tn tc) (.slice uo un uc)):=(MapKept.heap_alloc w4 _).1;have hb35:=hb4.trans (hbB.mono hb4.size);have hb5:=hb3.trans (hb35.mono hb3.size)
 have hbw5:=hb1.trans (hb5.mono hb1.size);obtain ⟨⟨r0,r1,r2⟩,f0,f1,f2⟩:=HBx.out _ hb5;clear hla g0 g1 g2 g3 g4
 rcases HL.out with ⟨rfl,hfc,hv⟩ | ⟨rfl,hfc,t0',tc',uo',uc',st,lp,hv,hst,hlp,hLo,hN1,hN2⟩
 ·generalize w4.alloc (.cells #[.slice t0 tn tc,.slice uo un uc] 38)=W5 at *
  have HR:Hid (∃ K,ExDone m ps l K/\fairC (exGr m ps l K)=11):=⟨K,HDn.out,hfc⟩
  clear hfc hv HL HBx HSt HDn HG3 HGb hbl5
  go_wp2_with fail
  refine bodyPost_ret (v:=.tuple #[.agg #[.bool true,.slice none 0 0,.slice none 0 0],.int .i64 0]) ?_ rfl (.inl ⟨HTk.out,HR.out,rfl,?_⟩)
  ·simp only [results,Tryz.results10]
   simp [go_sem,r0,r1,r2]
  ·exact ((hbw5.setCell (p:=⟨w.heap.size+1,0,none⟩) (by show w.heap.size <= w.heap.size+1;omega) _).setCell (p:=⟨w.heap.size+1,1,none⟩) (by show w.heap.size <= w.heap.size+1;omega) _).setCell (p:=⟨w.heap.size+1,2,none⟩) (by show w.heap.size <= w.heap.size+1;omega) _
 ·simp only [Value.agg.injEq,Array.mk.injEq,List.cons.injEq,Value.slice.injEq,and_true] at hv
  obtain ⟨⟨rfl,rfl,rfl⟩,rfl,rfl,rfl⟩:=hv
  have hlo1:∀ y∈st,y < K:=fun y hy=>by
   have:=hLo.lt y (List.mem_append.2 (.inl hy));rw [show (exGr m ps l K).spots.length=K from HDn.out.1] at this
   exact this
  have hlo2:∀ y∈lp,y < K:=fun y hy=>by
   have:=hLo.lt y (List.mem_append.2 (.inr hy));rw [show (exGr m ps l K).spots.length=K from HDn.out.1] at this
   exact this
  have hN1b:=hN1.below hbB;have hN2b:=hN2.below hbB
  have HRw:Hid (∀ w',Below (w4.alloc (.cells #[.slice t0 st.length tc,.slice uo lp.length uc] 38)).heap.size (w4.alloc (.cells #[.slice t0 st.length tc,.slice uo lp.length uc] 38)) w'->((w'.cell? ⟨X,0,none⟩=some (.slice so K sc)/\w'.cell? ⟨X,1,none⟩=some (.int .i64 (bn:Nat))/\w'.cell? ⟨X,2,none⟩=some (.slice no K nc)/\w'.cell? ⟨X,3,none⟩=some (.slice xo K xc)/\w'.cell? ⟨X,4,none⟩=some (.int .i64 (an:Nat)))/\(w'.cell? ⟨w4.heap.size,0,none⟩=some (.slice t0 st.length tc)/\w'.cell? ⟨w4.heap.size,1,none⟩=some (.slice uo lp.length uc)))/\(Calls Tryz.prog 28 #[.agg #[.slice so K sc,.int .i64 (bn:Nat),.slice no K nc,.slice xo K xc,.int .i64 (an:Nat)],.slice t0 st.length tc] w' fun e w2=>∃ R,e=.returned (.slice (some ⟨R,0,none⟩) st.length st.length)/\Below w'.heap.size w' w2/\Hid (IntsV w2 (.slice (some ⟨R,0,none⟩) st.length st.length) (stL m ps l K st)))/\(Calls Tryz.prog 28 #[.agg #[.slice so K sc,.int .i64 (bn:Nat),.slice no K nc,.slice xo K xc,.int .i64 (an:Nat)],.slice uo lp.length uc] w' fun e w2=>∃ R,e=.returned (.slice (some ⟨R,0,none⟩) lp.length lp.length)/\Below w'.heap.size w' w2/\Hid (IntsV w2 (.slice (some ⟨R,0,none⟩) lp.length lp.length) (stL m ps l K lp)))/\Below W1.heap.size W1 w'):=fun w' h=>by
   have h3:=hb35.trans (h.mono hb35.size);have hbx:=(h3.block X (Array.getElem?_eq_some_iff.1 HGb.out).1).trans HGb.out
   have hbl:=(h.block w4.heap.size (Array.getElem?_eq_some_iff.1 hbl5).1).trans hbl5
   have hsp:=HG3.out.spots.below h3;exact ⟨⟨grB_cells hbx,laB_cells hbl⟩,HSt.out w' so no xo t0 sc nc xc tc K st HDn.out hsp (hN1b.below h) hlo1 (by omega),HSt.out w' so no xo uo sc nc xc uc K lp HDn.out hsp (hN2b.below h) hlo2 (by omega),hb5.trans (h.mono hb5.size)⟩
  have HLo:Hid (LassoOk (exGr m ps l K) st lp):=hLo;have HSz:Hid (st.length <= 20000/\lp.length <= 2000000):=⟨hst,hlp⟩;clear hN1 hN2 hN1b hN2b hlo1 hlo2 HL hbl5 HG3 HGb HSt hb35 hbB hLo hfc hst hlp;generalize w4.alloc (.cells #[.slice t0 st.length tc,.slice uo lp.length uc] 38)=W5 at *;generalize w4.heap.size=L5 at *;obtain ⟨ns,hns⟩:∃ n,st.length=n:=⟨_,rfl⟩
  obtain ⟨np,hnp⟩:∃ n,lp.length=n:=⟨_,rfl⟩
  obtain ⟨xs,hxs⟩:∃ x,stL m ps l K st=x:=⟨_,rfl⟩
  obtain ⟨xp,hxp⟩:∃ x,stL m ps l K lp=x:=⟨_,rfl⟩
  have HN:Hid ((st.length=ns/\lp.length=np)/\stL m ps l K st=xs/\stL m ps l K lp=xp):=⟨⟨hns,hnp⟩,hxs,hxp⟩;rw [hns,hnp,hxs,hxp] at HRw;rw [hns,hnp];clear hns hnp hxs hxp
  go_upto_region 9 with fail
  go_cut [3] (fun u wx=>u=.int .i64 0/\∃ A B,Hid (IntsV wx (.slice (some ⟨A,0,none⟩) ns ns) xs/\IntsV wx (.slice (some ⟨B,0,none⟩) np np) xp/\Below w.heap.size w wx)/\wx.cell? ⟨w.heap.size+1,0,none⟩=some (.bool false)/\wx.cell? ⟨w.heap.size+1,1,none⟩=some (.slice (some ⟨A,0,none⟩) ns ns)/\wx.cell? ⟨w.heap.size+1,2,none⟩=some (.slice (some ⟨B,0,none⟩) np np))
  case first=>
   rename_i J K' hJ hK';generalize ha0:Act.mk _ _=a0;have hsz:a0.tmps.size=38:=by rw [<- ha0];rfl
   have a4:a0.eval (.tmp 4)=.pointer (some ⟨X,0,none⟩):=by rw [<- ha0];rfl
   have a6:a0.eval (.tmp 6)=.pointer (some ⟨L5,0,none⟩):=by rw [<- ha0];rfl
   have a2:a0.eval (.tmp 2)=.pointer (some ⟨w.heap.size+1,0,none⟩):=by rw [<- ha0];rfl
   refine wp_anyway (by rfl) [28,29,30,31,32,33,34,35,36,37,3] 10 (vcP (.agg #[.slice so K sc,.int .i64 (bn:Nat),.slice no K nc,.slice xo K xc,.int .i64 (an:Nat)]) (.slice t0 ns tc) (.slice uo np uc) L5 xs xp ns np) (by rw [hsz];rfl) (vcP_stable _ _ _ _ _ _ _ _) ?_ ?_
   ·intro i o hi ho q w' hb hq
    have f:∀ t,[28,29,30,31,32,33,34,35,36,37,3].contains t=true->t < 38->(frm a0 [28,29,30,31,32,33,34,35,36,37,3] q).eval (.tmp t)=q t:=fun t h1 h2=>frm_in h1 (by rw [hsz];exact h2)
    have e4:(frm a0 [28,29,30,31,32,33,34,35,36,37,3] q).eval (.tmp 4)=.pointer (some ⟨X,0,none⟩):=(frm_out rfl).trans a4;have e6:(frm a0 [28,29,30,31,32,33,34,35,36,37,3] q).eval (.tmp 6)=.pointer (some ⟨L5,0,none⟩):=(frm_out rfl).trans a6;obtain ⟨⟨⟨x0,x1,x2,x3,x4⟩,y0,y1⟩,hs1,hs2,_⟩:=HRw.out w' hb
    obtain ⟨ev,hev⟩:∃ ev,ev=(frm a0 [28,29,30,31,32,33,34,35,36,37,3] q).eval:=⟨_,rfl⟩
    have evf:∀ n,ev (.func n)=.func (.func n) #[] #[]:=fun n=>by rw [hev];rfl
    rw [<- hev] at f e4 e6
    rcases vc_lt i hi with rfl | rfl | rfl | rfl | rfl | rfl | rfl | rfl | rfl | rfl
    all_goals obtain rfl:=Option.some.inj ho
    ·refine op_val (w':=w') ?_ (Below.refl _ _) rfl
     rw [<- hev];simp [execOp,e4,go_sem,x0,x1,x2,x3,x4]
    ·refine op_val (w':=w') ?_ (Below.refl _ _) rfl
     rw [<- hev];simp [execOp,e6,go_sem]
    ·have e29:=(f 29 rfl (by decide)).trans (hq 1 29 rfl rfl)
     refine op_val (w':=w') ?_ (Below.refl _ _) rfl
     rw [<- hev];simp [execOp,e29,go_sem,y0]
    ·have e28:=(f 28 rfl (by decide)).trans (hq 0 28 rfl rfl)
     have e30:=(f 30 rfl (by decide)).trans (hq 2 30 rfl rfl)
     refine op_call (f:=28) (args:=#[.agg #[.slice so K sc,.int .i64 (bn:Nat),.slice no K nc,.slice xo K xc,.int .i64 (an:Nat)],.slice t0 ns tc]) ?_ (hs1.mono ?_)
     ·rw [<- hev];simp [execOp,e28,e30,evf,go_sem]
     ·rintro e w2 ⟨R,rfl,h2,h3⟩
      exact ⟨_,rfl,h2,R,rfl,h3.out⟩
    ·refine op_val (w':=w') ?_ (Below.refl _ _) rfl
     rw [<- hev];simp [execOp,e4,go_sem,x0,x1,x2,x3,x4]
    ·refine op_val (w':=w') ?_ (Below.refl _ _) rfl
     rw [<- hev];simp [execOp,e6,go_sem]
    ·have e33:=(f 33 rfl (by decide)).trans (hq 5 33 rfl rfl)
     refine op_val (w':=w') ?_ (Below.refl _ _) rfl
     rw [<- hev];simp [execOp,e33,go_sem,y1]
    ·have e32:=(f 32 rfl (by decide)).trans (hq 4 32 rfl rfl)
     have e34:=(f 34 rfl (by decide)).trans (hq 6 34 rfl rfl)
     refine op_call (f:=28) (args:=#[.agg #[.slice so K sc,.int .i64 (bn:Nat),.slice no K nc,.slice xo K xc,.int .i64 (an:Nat)],.slice uo np uc]) ?_ (hs2.mono ?_)
     ·rw [<- hev];simp [execOp,e32,e34,evf,go_sem]
     ·rintro e w2 ⟨R,rfl,h2,h3⟩
      exact ⟨_,rfl,h2,R,rfl,h3.out⟩
    ·obtain ⟨A,hA,hA2⟩:=hq 3 31 rfl rfl
     obtain ⟨B,hB',hB2⟩:=hq 7 35 rfl rfl;have e31:=(f 31 rfl (by decide)).trans hA
     have e35:=(f 35 rfl (by decide)).trans hB'
     refine op_val (w':=w') (v:=.agg #[.slice (some ⟨A,0,none⟩) ns ns,.slice (some ⟨B,0,none⟩) np np]) ?_ (Below.refl _ _) ⟨A,B,rfl,by rw [<- hA];exact hA2,by rw [<- hB'];exact hB2⟩
     rw [<- hev];simp [execOp,e31,e35,go_sem]
    ·obtain ⟨A,B,hA,hA2,hB2⟩:=hq 8 36 rfl rfl
     have e36:=(f 36 rfl (by decide)).trans hA
     refine op_val (w':=w') (v:=.agg #[.bool false,.slice (some ⟨A,0,none⟩) ns ns,.slice (some ⟨B,0,none⟩) np np]) ?_ (Below.refl _ _) ⟨A,B,rfl,hA2,hB2⟩
     rw [<- hev];simp [execOp,e36,go_sem]
   ·intro q w' hb hq
    have f:∀ q t,[28,29,30,31,32,33,34,35,36,37,3].contains t=true->t < 38->(frm a0 [28,29,30,31,32,33,34,35,36,37,3] q).eval (.tmp t)=q t:=fun q t h1 h2=>frm_in h1 (by rw [hsz];exact h2)
    obtain ⟨A,B,h37,hA2,hB2⟩:=hq 9 37 (by decide) rfl
    have e37:=(f q 37 rfl (by decide)).trans h37
    have e2:(frm a0 [28,29,30,31,32,33,34,35,36,37,3] q).eval (.tmp 2)=.pointer (some ⟨w.heap.size+1,0,none⟩):=(frm_out rfl).trans a2;obtain ⟨_,_,_,hbW⟩:=HRw.out w' hb;obtain ⟨⟨k0,k1,k2⟩,l0,l1,l2⟩:=HBx.out w' hbW
    show wpOps Tryz.prog _ _ [10,11] _ _
    rw [wpOps_cons];refine op_atR rfl rfl ?_
    refine op_skip (w':=((w'.setCell ⟨w.heap.size+1,0,none⟩ (.bool false)).setCell ⟨w.heap.size+1,1,none⟩ (.slice (some ⟨A,0,none⟩) ns ns)).setCell ⟨w.heap.size+1,2,none⟩ (.slice (some ⟨B,0,none⟩) np np)) rfl ?_ ?_
    ·generalize (frm a0 [28,29,30,31,32,33,34,35,36,37,3] q).eval=ev at e37 e2 ⊢
     simp [execOp,e2,e37,go_sem,k0,k1,k2,l0,l1,l2]
    rw [wpOps_cons];refine op_atR rfl rfl ?_
    refine op_run (w':=((w'.setCell ⟨w.heap.size+1,0,none⟩ (.bool false)).setCell ⟨w.heap.size+1,1,none⟩ (.slice (some ⟨A,0,none⟩) ns ns)).setCell ⟨w.heap.size+1,2,none⟩ (.slice (some ⟨B,0,none⟩) np np)) (v:=.int .i64 0) ?_ ?_
    ·have evc:∀ v,(frm a0 [28,29,30,31,32,33,34,35,36,37,3] q).eval (.const v)=v:=fun v=>rfl
     generalize (frm a0 [28,29,30,31,32,33,34,35,36,37,3] q).eval=ev at evc ⊢;simp [execOp,evc,go_sem]
    rw [late_put 3 rfl rfl]
    show K' _ _
    refine hK' _ _ ?_
    rw [<- ha0]
    go_meet
    have hbF:=hb1.trans (hbW.mono hb1.size);have n0:∀ A',IntsV w' A' xs->IntsV (((w'.setCell ⟨w.heap.size+1,0,none⟩ (.bool false)).setCell ⟨w.heap.size+1,1,none⟩ (.slice (some ⟨A,0,none⟩) ns ns)).setCell ⟨w.heap.size+1,2,none⟩ (.slice (some ⟨B,0,none⟩) np np)) A' xs:=fun A' h=>boxed h k0 k1 k2 _ _ _
    have n1:∀ A',IntsV w' A' xp->IntsV (((w'.setCell ⟨w.heap.size+1,0,none⟩ (.bool false)).setCell ⟨w.heap.size+1,1,none⟩ (.slice (some ⟨A,0,none⟩) ns ns)).setCell ⟨w.heap.size+1,2,none⟩ (.slice (some ⟨B,0,none⟩) np np)) A' xp:=fun A' h=>boxed h k0 k1 k2 _ _ _
    refine ⟨setV_same q 3 _,A,B,⟨n0 _ hA2,n1 _ hB2,((hbF.setCell (p:=⟨w.heap.size+1,0,none⟩) (by show w.heap.size <= w.heap.size+1;omega) _).setCell (p:=⟨w.heap.size+1,1,none⟩) (by show w.heap.size <= w.heap.size+1;omega) _).setCell (p:=⟨w.heap.size+1,2,none⟩) (by show w.heap.size <= w.heap.size+1;omega) _⟩,?_,?_,?_⟩
    ·rw [World.cell?_setCell_other _ _ _ _ (by simp),World.cell?_setCell_other _ _ _ _ (by simp)]
     exact World.cell?_setCell_same _ _ _ k0
    ·rw [World.cell?_setCell_other _ _ _ _ (by simp)]
     refine World.cell?_setCell_same _ _ _ (u:=.slice none 0 0) ?_
     rw [World.cell?_setCell_other _ _ _ _ (by simp)]
     exact k1
    ·refine World.cell?_setCell_same _ _ _ (u:=.slice none 0 0) ?_
     rw [World.cell?_setCell_other _ _ _ _ (by simp),World.cell?_setCell_other _ _ _ _ (by simp)]
     exact k2
  case rest=>
   obtain ⟨rfl,A,B,HE,z0,z1,z2⟩:=hcut
   go_wp2_with fail
   obtain ⟨⟨hn1,hn2⟩,hx1,hx2⟩:=HN.out;refine bodyPost_ret (v:=.tuple #[.agg #[.bool false,.slice (some ⟨A,0,none⟩) ns ns,.slice (some ⟨B,0,none⟩) np np],.int .i64 0]) ?_ rfl (.inr (.inl ⟨HTk.out,K,st,lp,A,B,HDn.out,HLo.out,HSz.out.1,HSz.out.2,by rw [hn1,hn2],HE.out.2.2,by rw [hn1,hn2,hx1,hx2];exact ⟨HE.out.1,HE.out.2.1⟩⟩))
   simp only [results,Tryz.results10];simp [go_sem,z0,z1,z2]
theorem vcheck_any (va vr pv fv:Value) (m:Mo) (ps:List (List (Int × Int))) (l:List (Int × Int)) (w:World) (hB:0 < w.heap.size) (hT:TabAt w) (hV:TaskV w va vr pv fv m ps l) :
  Calls Tryz.prog 10 #[.agg #[va,vr,pv,fv]] w (VdAns w m ps l):=by
 by_cases hk:tkcode m ps l=0
 ·by_cases hf:ExFull m ps l
  ·refine (vcheck_bad va vr pv fv m ps l w hV 12 (by decide) fun w' h=>(explore_any va vr pv fv m ps l w' (Nat.lt_of_lt_of_le hB h.size) (hT.below h hB) (hV.below h)).mono fun e w2 hx=>?_).mono fun e w2 ⟨h1,h2⟩=>.inr (.inr (.inl ⟨hk,hf,h1,h2⟩))
   rcases hx with ⟨_,K,hD,_⟩ | ⟨_,_,h1,h2⟩ | ⟨h1,_,_⟩
   ·exact absurd hf (ex_not_both hD)
   ·exact ⟨h1,h2⟩
   ·exact absurd hk h1
  ·exact vcheck_ok va vr pv fv m ps l w hB hT hV hk hf
 ·refine (vcheck_bad va vr pv fv m ps l w hV (tkcode m ps l) hk fun w' h=>(explore_any va vr pv fv m ps l w' (Nat.lt_of_lt_of_le hB h.size) (hT.below h hB) (hV.below h)).mono fun e w2 hx=>?_).mono fun e w2 ⟨h1,h2⟩=>.inr (.inr (.inr ⟨hk,h1,h2⟩))
  rcases hx with ⟨h0,_⟩ | ⟨h0,_⟩ | ⟨_,h1,h2⟩
  ·exact absurd h0 hk
  ·exact absurd h0 hk
  ·exact ⟨h1,h2⟩
end Go.Proofs.YtjdfdmamonjnoaaGreatDoor
namespace Go.Proofs.YtjdfdmamonjnoaaGreatDoor
open Go.ChangeShapes Go.WideShapes Go.ChangeAt Go.RowKit Go.Deep
open Terms Tm
set_option maxHeartbeats 6400000
set_option maxRecDepth 20000
section
variable {m : Mo} {ss ll : List Int}
theorem getD_left {x y:List Int} {i:Nat} (h:i < x.length):(x++y).getD i 0=x.getD i 0:=by
 simp [List.getD_eq_getElem?_getD,List.getElem?_append_left,h]
theorem getD_right {x y:List Int} (i:Nat):(x++y).getD (x.length+i) 0=y.getD i 0:=by
 simp [List.getD_eq_getElem?_getD,List.getElem?_append_right]
theorem rvd_low {i:Nat} (h:i < (ss++ll).length):(rvd ss ll).getD i 0=(ss++ll).getD i 0:=getD_left h
theorem rvd_last:(rvd ss ll).getD (ss++ll).length 0=ll.getD 0 0:=by
 have h:=getD_right (x:=ss++ll) (y:=[ll.getD 0 0]) 0;rw [Nat.add_zero] at h;exact h
theorem moAt_end (s n:Nat):moAt s n n=s:=by
 unfold moAt;rw [if_neg (by omega),Nat.mod_self,Nat.add_zero]
theorem path_next (h:ll≠[]) {i:Nat} (hi:i < (ss++ll).length):(rvd ss ll).getD (i+1) 0=(ss++ll).getD (moAt ss.length (ss++ll).length (i+1)) 0:=by
 have hl:=List.length_pos_iff.2 h;have hn:ss.length < (ss++ll).length:=by rw [List.length_append];omega
 by_cases h1:i+1 < (ss++ll).length
 ·rw [rvd_low h1,moAt_low h1]
 ·have h2:i+1=(ss++ll).length:=by omega
  rw [h2,rvd_last,moAt_end];have h3:=getD_right (x:=ss) (y:=ll) 0;rw [Nat.add_zero] at h3;exact h3.symm
open Classical in
theorem prun_run (hm:mcode m=0) (h:PRun m (ss++ll) ss.length):runB m ss ll=true:=by
 have hlt:=h.lt;have hll:ll≠[]:=by rintro rfl;simp at hlt
 have h0:(rvd ss ll).getD 0 0=firstC m:=by rw [rvd_zero hll,h.first];rfl
 rw [runB_lead hm hll h0];refine decide_eq_true ?_
 have hlen:(rvd ss ll).length - 1=(ss++ll).length:=by rw [rvd_len,List.length_append];omega
 rw [hlen]
 have key:∀ k,k <= (ss++ll).length->LeadsTo m (rvd ss ll) k:=by
  intro k
  induction k with
  | zero=>intro _;exact LeadsTo.zero _ _
  | succ k ih=>
   intro hk;have ik:=ih (by omega)
   refine ik.succ ?_
   have hr:=ik.range hm (by rw [h0];exact firstC_range hm)
   rw [nxtL_yes hm hr,path_next hll (by omega),rvd_low (by omega)]
   exact h.step k (by omega)
 exact key _ (Nat.le_refl _)
theorem stL_map {ps:List (List (Int × Int))} {l:List (Int × Int)} {K:Nat} (x:List Nat):stL m ps l K x=x.map fun i=>(spA m ps l K i).1:=by
 refine List.ext_getElem (by simp [stL]) fun i h1 h2=>?_
 have hi:i < x.length:=by simpa [stL] using h1
 simp [stL,spA,List.getD_eq_getElem?_getD,hi]
theorem stL_len {ps:List (List (Int × Int))} {l:List (Int × Int)} {K:Nat} (x:List Nat):(stL m ps l K x).length=x.length:=by simp [stL]
theorem lasso_run {ps:List (List (Int × Int))} {l:List (Int × Int)} {K:Nat} {T:Tm} (hm:mcode m=0) (hw:T.Wf) (ho:T.ops=l) (hz:endsCode (l.map Prod.fst)=0) (hv:∀ q,q < l.length->(l.getD q (0,0)).1=13->0 <= (l.getD q (0,0)).2) (h8:∀ q,q < l.length->8 <= (l.getD q (0,0)).1) (hk:tkcode m ps l=0) (h:ExDone m ps l K) {st lp:List Nat} (hL:LassoOk (exGr m ps l K) st lp) :
  runB m (stL m ps l K st) (stL m ps l K lp)=true/\T.hb (sig (lets m ps (stL m ps l K st)++lets m ps (stL m ps l K lp)) (stL m ps l K st).length) 0=false:=by
 obtain ⟨h1,h2⟩:=way_run hw ho hz hv h8 hk h (lasso_way h hL);have e:(st++lp).map (fun i=>(spA m ps l K i).1)=stL m ps l K st++stL m ps l K lp:=by rw [stL_map,stL_map,List.map_append]
 rw [e] at h1 h2;refine ⟨prun_run hm (by rw [stL_len];exact h1),?_⟩
 unfold lets;rw [<- List.map_append,stL_len];exact h2
end
section
variable {σ : Nat -> Nat -> Bool} {v : Int} {a b : Tm} {i : Nat}
end
def Kp (m:Mo) (T:Tm) (b:Bool):Prop:=(b=true↔AllKeep m propsL T)/\tkcode m propsL [(11,0)]=0
theorem few_spots {m:Mo} {a b:Vr} {l:List (Int × Int)} {mm:Nat} (hG:GV a b) (hk:KTaskOk m l mm) (hvars:m.vars=[a,b]):¬ ExFull m propsL l:=by
 have hspan:1 <= vspan a*vspan b/\vspan a*vspan b <= 16:=by
  have h1:1 <= vspan a/\vspan a <= 4:=by have:=hG.a2;have:=hG.a3;unfold vspan;omega
  have h2:1 <= vspan b/\vspan b <= 4:=by have:=hG.b2;have:=hG.b3;unfold vspan;omega
  obtain ⟨x1,x2⟩:=h1;obtain ⟨y1,y2⟩:=h2;generalize vspan a=x at *;generalize vspan b=y at *
  rcases (show x=1\/x=2\/x=3\/x=4 by omega) with rfl | rfl | rfl | rfl <;> omega
 have hah:(aheadL l).length=mm:=by obtain ⟨T,hT⟩:=hk.fo;exact hT.ahead
 refine xp_few (P:=(vspan a*vspan b).toNat) hk.code ?_ ?_
 ·rw [hvars]
  show prodTo [a,b] 2=_
  rw [prod_two];omega
 ·rw [hah]
  have:2 ^ mm <= 2 ^ 6:=Nat.pow_le_pow_right (by decide) hk.many
  have h3:(vspan a*vspan b).toNat * 2 ^ mm <= 16*64:=Nat.mul_le_mul (by omega) (by omega)
  omega
end Go.Proofs.YtjdfdmamonjnoaaGreatDoor
namespace Go.Proofs.YtjdfdmamonjnoaaGreatDoor
open Go.ChangeShapes Go.WideShapes Go.ChangeAt Go.RowKit Go.Deep Go.Maps
open Terms Tm
set_option maxHeartbeats 6400000
set_option maxRecDepth 20000
theorem IntsV.x {w:World} {A n c:Nat} {l:List Int} (h:IntsV w (.slice (some ⟨A,0,none⟩) n c) l) (hn:l.length=n) (hc:n <= c):IntsX w (.slice (some ⟨A,0,none⟩) n c) l:=by
 obtain ⟨ao,cap,e,h⟩:=h
 cases e
 exact ⟨_,_,rfl,hc,(fun h=>nomatch h),h⟩
theorem sound_calls (m:Mo) (a b:Vr) (l:List (Int × Int)) (mm:Nat) (w:World) (hB:0 < w.heap.size) (hT:TabAt w) (hG:GV a b) (hvars:m.vars=[a,b]) (hK:KTaskOk m l mm) (va vr pv fv:Value) (hV:TaskV w va vr pv fv m propsL l) :
  Calls Tryz.prog 10 #[.agg #[va,vr,pv,fv]] w fun e w2=>
   ∃ hb A B sn ln,e=.returned (.tuple #[.agg #[.bool hb,.slice A sn sn,.slice B ln ln],.int .i64 0])/\Below w.heap.size w w2/\(hb=true->A=none/\B=none/\sn=0/\ln=0)/\sn <= 20000/\ln <= 2000000/\Hid (hb=false->∀ w3,Below w2.heap.size w2 w3->
   (Calls Tryz.prog 11 #[.agg #[va,vr],.agg #[.slice A sn sn,.slice B ln ln]] w3 fun e w4=>e=.returned (.tuple #[.bool true,.int .i64 0])/\Below w3.heap.size w3 w4)/\
   (Calls Tryz.prog 12 #[.agg #[va,vr,pv,fv],.agg #[.slice A sn sn,.slice B ln ln]] w3 fun e w4=>∃ c,e=.returned (.tuple #[.bool false,.int .i64 c])/\Below w3.heap.size w3 w4/\(12 < sn->c=1)/\(12 < ln->c=1)/\(sn <= 12->ln <= 12->c=0))):=by
 have hnf:=few_spots hG hK hvars;obtain ⟨T,hF⟩:=hK.fo;have hgv:=good_vals hF;have hz:=hF.ends (by have:=hK.len;omega)
 refine (vcheck_any va vr pv fv m propsL l w hB hT hV).mono fun e w2 hx=>?_
 rcases hx with ⟨hk,⟨K,hD,hfc⟩,h1,h2⟩ | ⟨hk,K,st,lp,A,B,hD,hL,hs,hl,h1,h2,h3⟩ | ⟨hk,hf,_,_⟩ | ⟨hk,_,_⟩
 ·exact ⟨true,none,none,0,0,h1,h2,fun _=>⟨rfl,rfl,rfl,rfl⟩,by omega,by omega,fun h=>(by cases h)⟩
 ·refine ⟨false,_,_,_,_,h1,h2,fun h=>(by cases h),hs,hl,fun _ w3 h4=>?_⟩
  have hb3:=h2.trans (h4.mono h2.size);obtain ⟨i1,i2⟩:=h3.out;have hr:=lasso_run hK.mo hF.wf hF.ops hz hgv.1 hgv.2 hk hD hL;have hS:=(i1.below h4).x (stL_len st) (Nat.le_refl _);have hLl:=(i2.below h4).x (stL_len lp) (Nat.le_refl _);have hVw:=hV.below hb3;have hB3:=Nat.lt_of_lt_of_le hB hb3.size;have hT3:=hT.below hb3 hB
  have e1:(stL m propsL l K st).length=st.length:=stL_len st;have e2:(stL m propsL l K lp).length=lp.length:=stL_len lp;refine ⟨?_,?_⟩
  ·have h:=runs_any va vr _ _ m _ _ w3 hB3 hT3 hVw.mo hS hLl (by rw [e1,e2];omega)
   rw [hr.1,hK.mo] at h;exact h
  ·by_cases h12:12 < st.length\/12 < lp.length
   ·have h:=keeps_size va vr pv fv _ _ m propsL l _ _ w3 hB3 hT3 hVw hk hS hLl (by rw [e1,e2];exact h12)
    exact h.mono fun e w4 ⟨g1,g2⟩=>⟨1,g1,g2,fun _=>rfl,fun _=>rfl,fun g3 g4=>by omega⟩
   ·have h:=keeps_ok va vr pv fv _ _ m propsL l _ _ T w3 hB3 hT3 hVw hk hS hLl (by rw [e1];omega) (by rw [e2];omega) hr.1 hF.wf hF.ops
    rw [hr.2] at h;exact h.mono fun e w4 ⟨g1,g2⟩=>⟨0,g1,g2,fun g3=>by omega,fun g3=>by omega,fun _ _=>rfl⟩
 ·exact absurd hf hnf
 ·exact absurd hK.code hk
def vdB (b:Bool) (sv lv:Value):Obj:=.cells #[.bool b,sv,lv] 40 (0,0)
theorem vdB_cells {w:World} {X:Nat} {b:Bool} {sv lv:Value} (hb:w.heap[X]? = some (vdB b sv lv)):w.cell? ⟨X,0,none⟩=some (.bool b)/\w.cell? ⟨X,1,none⟩=some sv/\w.cell? ⟨X,2,none⟩=some lv:=by
 unfold vdB at hb;refine ⟨?_,?_,?_⟩ <;> simp [World.cell?,hb]
theorem blk_later {w w':World} {X:Nat} {o:Obj} (hb:Below w.heap.size w w') (h:w.heap[X]? = some o):w'.heap[X]? = some o:=(hb.block X (Array.getElem?_eq_some_iff.1 h).1).trans h
theorem topSound_walk (c0 c1 c2 c3 c4 c5 c6:Value) (a b:Vr) (rawv:Value) (rs:List (Int × Int)) (w:World) (hB:0 < w.heap.size) (hT:TabAt w) (hG:GV a b) (hR:Raws w w.heap.size rawv rs)
  (hmd:∀ w',Below w.heap.size w w'->Calls Tryz.prog 19 #[.agg #[c0,c1,c2,c3,c4,c5,c6]] w' fun e w2=>∃ va vr,e=.returned (.agg #[va,vr])/\Below w'.heap.size w' w2/\GModel w2 va vr [a,b]) :
  Calls Tryz.prog 3 #[.agg #[c0,c1,c2,c3,c4,c5,c6],rawv] w fun e w'=>e=.returned (.bool true)/\Below w.heap.size w w':=by
 have hA1:Below w.heap.size w (w.alloc (.cells #[c0,c1,c2,c3,c4,c5,c6] 25)):=(Below.refl _ _).alloc (Nat.le_refl _) _;have htk:=taskFn_any c0 c1 c2 c3 c4 c5 c6 a b rawv rs 3 _ hG (by decide) (hR.up hA1) (fun w' h=>hmd w' (hA1.trans (h.mono hA1.size)))
 obtain ⟨ra,rn0,rc0,hra⟩:∃ a n c,rawv=.slice a n c:=by obtain ⟨⟨a,c,h,_⟩,_,_⟩:=hR;exact ⟨_,_,_,h⟩
 subst hra;have HSd:Hid (∀ (w':World) (va vr pv fv:Value) (m:Mo) (l:List (Int × Int)) (mm:Nat),Below w.heap.size w w'->KTaskOk m l mm->m.vars=[a,b]->TaskV w' va vr pv fv m propsL l->_):=fun w' va vr pv fv m l mm h hk hvars hv=>sound_calls m a b l mm w' (Nat.lt_of_lt_of_le hB h.size) (hT.below h hB) hG hvars hk va vr pv fv hv
 clear hmd hR hT hG
 go_enter Tryz.func3,Tryz.ntmps3
 go_upto_region 2 with (first | (go_at_call 9;refine htk.mono ?_;rintro e w1 ⟨ao,ac,ro,rn,rc,pb,fo,fn,fc,m,l,mm,rfl,hb1,HV,HK,hmm,hfn⟩))
 have hbw1:=hA1.trans (hb1.mono hA1.size);have hbA:Below w1.heap.size w1 (w1.alloc (.cells #[.slice ao 2 ac,.slice ro rn rc,.slice (some ⟨pb,0,none⟩) 3 3,.slice fo fn fc] 34)):=(Below.refl _ _).alloc (Nat.le_refl _) _;have hbw2:=hbw1.trans (hbA.mono hbw1.size)
 have HX2:Hid ((w1.alloc (.cells #[.slice ao 2 ac,.slice ro rn rc,.slice (some ⟨pb,0,none⟩) 3 3,.slice fo fn fc] 34)).heap[w1.heap.size]? = some (tkB (.slice ao 2 ac) (.slice ro rn rc) (.slice (some ⟨pb,0,none⟩) 3 3) (.slice fo fn fc))):=(MapKept.heap_alloc w1 _).1;have hV2:=HV.out.below hbA;obtain ⟨hok,hvars,_,_⟩:=HK.out
 have hsd:=HSd.out _ _ _ _ _ m l mm hbw2 hok hvars hV2;generalize w1.alloc (.cells #[.slice ao 2 ac,.slice ro rn rc,.slice (some ⟨pb,0,none⟩) 3 3,.slice fo fn fc] 34)=W2 at *;generalize w1.heap.size=X at *;obtain ⟨p0,p1,p2,p3⟩:=tkB_cells HX2.out;clear hok hvars HK HV htk hV2 HSd
 go_upto_region 3 with (first | (go_at_call 10;refine hsd.mono ?_;rintro e w3 ⟨hb,A,B,sn,ln,rfl,hb3,hyes,hsn,hln,HC⟩))
 have hbD:Below w3.heap.size w3 (w3.alloc (.cells #[.bool hb,.slice A sn sn,.slice B ln ln] 40)):=(Below.refl _ _).alloc (Nat.le_refl _) _;have hb24:=hb3.trans (hbD.mono hb3.size);have HV4:Hid ((w3.alloc (.cells #[.bool hb,.slice A sn sn,.slice B ln ln] 40)).heap[w3.heap.size]? = some (vdB hb (.slice A sn sn) (.slice B ln ln))):=(MapKept.heap_alloc w3 _).1
 have HC4:Hid (hb=false->∀ w',Below (w3.alloc (.cells #[.bool hb,.slice A sn sn,.slice B ln ln] 40)).heap.size (w3.alloc (.cells #[.bool hb,.slice A sn sn,.slice B ln ln] 40)) w'->_):=fun hn w' h=>HC.out hn w' (hbD.trans (h.mono hbD.size))
 generalize w3.alloc (.cells #[.bool hb,.slice A sn sn,.slice B ln ln] 40)=W4 at *;generalize w3.heap.size=V at *;have hbw4:=hbw2.trans (hb24.mono hbw2.size);clear hsd p0 p1 p2 p3 HC;obtain ⟨v0,v1,v2⟩:=vdB_cells HV4.out
 cases hb with
 | true=>
  obtain ⟨rfl,rfl,rfl,rfl⟩:=hyes rfl;clear HC4 hyes
  go_wp2_with fail
  go_ret
  exact ⟨by first | rfl | simp,hbw4⟩
 | false=>
  have HC5:=HC4.out rfl;obtain ⟨hru,_⟩:=HC5 W4 (Below.refl _ _);have HC6:Hid (∀ w',Below W4.heap.size W4 w'->_):=HC5
  obtain ⟨p0,p1,p2,p3⟩:=tkB_cells (blk_later hb24 HX2.out);clear HC5 HC4 hyes
  go_upto_region 8 with (first | (go_at_call 11;refine hru.mono ?_;rintro e w5 ⟨rfl,hb5⟩))
  obtain ⟨_,hke⟩:=HC6.out w5 hb5;clear v0 v1 v2 p0 p1 p2 p3 hru;obtain ⟨v0,v1,v2⟩:=vdB_cells (blk_later hb5 HV4.out);obtain ⟨p0,p1,p2,p3⟩:=tkB_cells (blk_later (hb24.trans (hb5.mono hb24.size)) HX2.out)
  go_upto_region 9 with (first | (go_at_call 12;refine hke.mono ?_;rintro e w6 ⟨c,rfl,hb6,hc1,hc2,hc3⟩))
  have hb46:=hb5.trans (hb6.mono hb5.size);clear v0 v1 v2 p0 p1 p2 p3 hke;obtain ⟨v0,v1,v2⟩:=vdB_cells (blk_later hb46 HV4.out);have hbw6:=hbw4.trans (hb46.mono hbw4.size);clear HC6 HV4 HX2
  by_cases h1:12 < sn
  ·obtain rfl:=hc1 h1
   have h1i:(12:Int) < (sn:Int):=by omega
   clear hc1 hc2 hc3
   go_wp2_with fail
   go_ret
   exact ⟨by first | rfl | simp,hbw6⟩
  ·have h1i:¬ (12:Int) < (sn:Int):=by omega
   by_cases h2:12 < ln
   ·obtain rfl:=hc2 h2
    have h2i:(12:Int) < (ln:Int):=by omega
    clear hc1 hc2 hc3
    go_wp2_with fail
    go_ret
    exact ⟨by first | rfl | simp,hbw6⟩
   ·obtain rfl:=hc3 (by omega) (by omega)
    have h2i:¬ (12:Int) < (ln:Int):=by omega
    clear hc1 hc2 hc3
    go_wp2_with fail
    go_ret
    exact ⟨by first | rfl | simp,hbw6⟩
end Go.Proofs.YtjdfdmamonjnoaaGreatDoor
