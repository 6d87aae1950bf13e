/- Joined texts. -/
import Derived.Test.YtfnobbpbmelgnaaGreatDoorSccB
import Derived.Test.YtfnobbpbmelgnaaGreatDoorSccC
import Derived.Test.YtfnobbpbmelgnaaGreatDoorLateE
namespace Go.Proofs.YtfnobbpbmelgnaaGreatDoor
open Go.ChangeShapes Go.WideShapes Go.ChangeAt Go.RowKit Go.Deep Go.Maps
open Terms Tm
set_option maxHeartbeats 6400000
set_option maxRecDepth 20000
noncomputable def exGr (m:Mo) (ps:List (List (Int × Int))) (l:List (Int × Int)) (K:Nat):Gr:=⟨xpP m ps l K,((begL m ps l).length:Nat),xpN m ps l K,xpT m ps l K,((aheadL l).length:Nat)⟩
section
variable {m : Mo} {ps : List (List (Int × Int))} {l : List (Int × Int)} {K : Nat}
theorem xpAt_eq (h:ExDone m ps l K) {i:Nat} (hi:i < K):xpAt m ps l i=(xpP m ps l K).getD i (0,0):=
 (exS_at (begL m ps l) (xpBh m ps l) (Nat.le_of_lt hi) (h.2.2.1 i hi)).symm
theorem xpN_get {K:Nat}:∀ {j:Nat},j < K->(xpN m ps l K).getD j []=plIx (xpP m ps l j) (xpBh m ps l (xpAt m ps l j)):=by
 induction K with
 | zero=>intro j h;omega
 | succ K ih=>
  intro j h;rw [xpN,List.getD_eq_getElem?_getD]
  by_cases hj:j < K
  ·rw [List.getElem?_append_left (by rw [xpN_len];exact hj),<- List.getD_eq_getElem?_getD]
   exact ih hj
  ·obtain rfl:j=K:=by omega
   rw [List.getElem?_append_right (by rw [xpN_len];exact Nat.le_refl _),xpN_len]
   simp
theorem xpT_get {K:Nat}:∀ {j:Nat},j < K->(xpT m ps l K).getD j 0=metN l (letL m ps (xpAt m ps l j).1) (xpAt m ps l j).2:=by
 induction K with
 | zero=>intro j h;omega
 | succ K ih=>
  intro j h;rw [xpT,List.getD_eq_getElem?_getD]
  by_cases hj:j < K
  ·rw [List.getElem?_append_left (by rw [xpT_len];exact hj),<- List.getD_eq_getElem?_getD]
   exact ih hj
  ·obtain rfl:j=K:=by omega
   rw [List.getElem?_append_right (by rw [xpT_len];exact Nat.le_refl _),xpT_len]
   simp
theorem xbeg_nodup (m:Mo) (ps:List (List (Int × Int))) (l:List (Int × Int)):(begL m ps l).Nodup:=by
 have key:∀ k,(begTo m ps l k).Nodup:=fun k=>by
  induction k with
  | zero=>simp [begTo]
  | succ k ih=>
   rw [begTo]
   split
   ·exact ih
   ·refine List.nodup_append.2 ⟨ih,by simp,fun a ha b hb e=>?_⟩
    rw [List.mem_singleton] at hb;subst hb;subst e;obtain ⟨_,d,h2,h3,_⟩:=xbg_mem _ ha;simp only at h3
    omega
 exact key _
theorem xpN_row (h:ExDone m ps l K) {i:Nat} (hi:i < K):((xpN m ps l K).getD i []).length=(xpBh m ps l ((xpP m ps l K).getD i (0,0))).length/\∀ q,q < (xpBh m ps l ((xpP m ps l K).getD i (0,0))).length->((xpN m ps l K).getD i []).getD q 0=(((xpP m ps l K).idxOf ((xpBh m ps l ((xpP m ps l K).getD i (0,0))).getD q (0,0)):Nat):Int)/\(xpBh m ps l ((xpP m ps l K).getD i (0,0))).getD q (0,0)∈xpP m ps l K:=by
 rw [xpN_get hi,<- xpAt_eq h hi];refine ⟨plIx_len _ _,fun q hq=>?_⟩
 have hmem:(xpBh m ps l (xpAt m ps l i)).getD q (0,0)∈xpP m ps l (i+1):=by
  rw [xpP_succ,plTo_iff];refine .inr ?_
  rw [List.getD_eq_getElem?_getD,List.getElem?_eq_getElem hq]
  exact List.getElem_mem _
 have hpre:xpP m ps l (i+1) <+: xpP m ps l K:=exS_le _ _ hi;refine ⟨?_,hpre.subset hmem⟩
 rw [plIx_at hq,<- xpP_succ,idx_pre hpre hmem]
theorem metN_range (l:List (Int × Int)) (letter:List Bool) (c:Int):0 <= metN l letter c/\metN l letter c < (2:Int) ^ (aheadL l).length:=by
 unfold metN
 split
 ·exact metTo_bounds _ _ _
 ·exact ⟨by omega,Int.pow_pos (by decide)⟩
theorem exGr_ok (hk:tkcode m ps l=0) (h:ExDone m ps l K):GOk (exGr m ps l K):=by
 have h6:=(lcode_zero (tk_zero hk).2).2.2.2.2
 have hbl:(begL m ps l).length <= (xpP m ps l K).length:=by
  have h1:=(exS_le (begL m ps l) (xpBh m ps l) (Nat.zero_le K)).length_le
  have h2:(begL m ps l).length <= (exS (begL m ps l) (xpBh m ps l) 0).length:=by
   show _ <= (plTo [] (begL m ps l)).length
   have hnd:=plTo_nodup (begL m ps l) [] List.nodup_nil;have hsub:begL m ps l ⊆ plTo [] (begL m ps l):=fun x hx=>(plTo_iff _ _ _).2 (.inr hx)
   exact (xbeg_nodup m ps l).length_le_of_subset hsub
  exact Nat.le_trans h2 h1
 refine ⟨⟨by show (xpP m ps l K).length <= _;rw [h.1];exact h.2.1,by show (xpN m ps l K).length=(xpP m ps l K).length;rw [xpN_len,h.1],by show (xpT m ps l K).length=(xpP m ps l K).length;rw [xpT_len,h.1],by show (0:Int) <= ((begL m ps l).length:Nat);omega,by show (((begL m ps l).length:Nat):Int) <= ((xpP m ps l K).length:Nat);omega,by show (0:Int) <= ((aheadL l).length:Nat);omega,by show (((aheadL l).length:Nat):Int) <= 6;omega⟩,fun i hi=>?_⟩
 have hiK:i < K:=by have:i < (xpP m ps l K).length:=hi;rw [h.1] at this;exact this
 refine ⟨?_,fun q hq=>?_⟩
 ·unfold GSet top
  show 0 <= (xpT m ps l K).getD i 0/\(xpT m ps l K).getD i 0 <= 2 ^ (((aheadL l).length:Nat):Int).toNat - 1
  rw [xpT_get hiK];have:=metN_range l (letL m ps (xpAt m ps l i).1) (xpAt m ps l i).2;rw [Int.toNat_natCast];omega
 ·obtain ⟨r1,r2⟩:=xpN_row h hiK
  have hq':q < (xpBh m ps l ((xpP m ps l K).getD i (0,0))).length:=by rw [<- r1];exact hq
  obtain ⟨r3,r4⟩:=r2 q hq'
  show 0 <= ((xpN m ps l K).getD i []).getD q 0/\((xpN m ps l K).getD i []).getD q 0 < ((xpP m ps l K).length:Nat)
  rw [r3];have:=List.idxOf_lt_length_of_mem r4;omega
theorem exGr_step (h:ExDone m ps l K) {s x:Int × Int} (hs:s∈xpP m ps l K) (hx:x∈xpBh m ps l s):x∈xpP m ps l K/\(xpP m ps l K).idxOf x∈nxt (exGr m ps l K) ((xpP m ps l K).idxOf s):=by
 have hi:=List.idxOf_lt_length_of_mem hs;have hiK:(xpP m ps l K).idxOf s < K:=by rw [h.1] at hi;exact hi
 have he:(xpP m ps l K).getD ((xpP m ps l K).idxOf s) (0,0)=s:=by
  rw [List.getD_eq_getElem?_getD,List.getElem?_eq_getElem hi]
  exact List.getElem_idxOf hi
 obtain ⟨r1,r2⟩:=xpN_row h hiK;rw [he] at r1 r2;obtain ⟨q,hq,rfl⟩:=List.getElem_of_mem hx;have hg:(xpBh m ps l s).getD q (0,0)=(xpBh m ps l s)[q]:=by rw [List.getD_eq_getElem?_getD,List.getElem?_eq_getElem hq];rfl
 obtain ⟨r3,r4⟩:=r2 q hq;rw [hg] at r3 r4;refine ⟨r4,?_⟩
 unfold nxt;rw [List.mem_map];refine ⟨((xpN m ps l K).getD ((xpP m ps l K).idxOf s) []).getD q 0,?_,by rw [r3];rfl⟩
 show ((xpN m ps l K).getD ((xpP m ps l K).idxOf s) []).getD q 0∈(xpN m ps l K).getD ((xpP m ps l K).idxOf s) []
 generalize (xpN m ps l K).getD ((xpP m ps l K).idxOf s) []=row at *;rw [List.getD_eq_getElem?_getD,List.getElem?_eq_getElem (by rw [r1];exact hq)]
 exact List.getElem_mem _
end
theorem SpO.ops {w:World} {base:Nat} {v:Value} {x:List (Int × Int)} (h:SpO w base v x):OpsV w v x:=by
 rcases h.2 with ⟨rfl,h0⟩ | ⟨g,cap,cur,rfl,hb,hg,hnc,hcm,hcs,htake⟩
 ·have:x=[]:=by simpa using h0
  subst this;exact ⟨none,0,rfl,⟨by simp,fun _=>⟨rfl,rfl⟩⟩,fun h=>absurd rfl h⟩
 ·refine ⟨_,cap,rfl,⟨hnc,fun h=>by simp at h⟩,fun _=>⟨g,0,rfl,(Array.getElem?_eq_some_iff.1 hg).1,fun i hi=>?_⟩⟩
  obtain ⟨f0,f1⟩:=flat_get x i hi;rw [World.ownsRow.cellAt h _ (by omega),World.ownsRow.cellAt h _ (by omega)]
  simpa using ⟨f0,f1⟩
theorem GrX.graph {w:World} {base K:Nat} {m:Mo} {ps:List (List (Int × Int))} {l:List (Int × Int)} {sv nv tv:Value} (h:GrX w base m ps l K sv nv tv):GraphV w sv nv tv (exGr m ps l K):=by
 obtain ⟨h1,⟨us,n1,n2,n3⟩,h3⟩:=h;refine ⟨h1.ops,?_,intsV_of_owns h3⟩
 have n1':w.ownsRow base 36 1 nv us.length us:=by rw [n2];exact n1
 refine listsV_of_owns n1' ⟨n2,fun i hi=>?_⟩
 obtain ⟨ao,c,e1,e2,_,_⟩:=n3 i hi;have e1':us.getD i nilG=.slice ao ((xpN m ps l K).getD i []).length c:=e1;rw [e1'];exact e2
section
variable {m : Mo} {ps : List (List (Int × Int))} {l : List (Int × Int)} {K : Nat}
theorem exGr_le (hk:tkcode m ps l=0) (h:ExDone m ps l K):GrLe (exGr m ps l K):=by
 have e1:(exGr m ps l K).spots.length=K:=h.1;have e2:(exGr m ps l K).next.length=K:=xpN_len K;have e3:(exGr m ps l K).sets.length=K:=xpT_len K;have hm0:=(pcode_m (tk_zero hk).1).1;have h6:=(lcode_zero (tk_zero hk).2).2.2.2.2;refine ⟨by rw [e1];have:=h.2.1;omega,by rw [e2];have:=h.2.1;omega,by rw [e3];have:=h.2.1;omega,fun i hi=>?_⟩
 rw [e2] at hi
 show ((xpN m ps l K).getD i []).length <= _
 rw [(xpN_row h hi).1]
 have hin:(xpP m ps l K).getD i (0,0)∈xpP m ps l K:=by
  have hl:i < (xpP m ps l K).length:=by rw [h.1];exact hi
  rw [List.getD_eq_getElem?_getD,List.getElem?_eq_getElem hl]
  exact List.getElem_mem _
 have:=behL_len (ps:=ps) (l:=l) (c:=((xpP m ps l K).getD i (0,0)).2) hm0 (h.2.2.2 _ hin).1 h6
 show (behL _ _ _ _ _).length <= _
 omega
noncomputable def stL (m:Mo) (ps:List (List (Int × Int))) (l:List (Int × Int)) (K:Nat) (x:List Nat):List Int:=(List.range x.length).map fun (j:Nat)=>((xpP m ps l K).getD (x.getD j 0) (0,0)).1
def VdAns (w:World) (m:Mo) (ps:List (List (Int × Int))) (l:List (Int × Int)) (e:Ending) (w':World):Prop:=
 (tkcode m ps l=0/\(∃ K,ExDone m ps l K/\fairC (exGr m ps l K)=11)/\e=.returned (.tuple #[.agg #[.bool true,.slice none 0 0,.slice none 0 0],.int .i64 0])/\Below w.heap.size w w')\/
 (tkcode m ps l=0/\∃ K st lp A B,ExDone m ps l K/\LassoOk (exGr m ps l K) st lp/\st.length <= 20000/\lp.length <= 2000000/\e=.returned (.tuple #[.agg #[.bool false,.slice (some ⟨A,0,none⟩) st.length st.length,.slice (some ⟨B,0,none⟩) lp.length lp.length],.int .i64 0])/\Below w.heap.size w w'/\Hid (IntsV w' (.slice (some ⟨A,0,none⟩) st.length st.length) (stL m ps l K st)/\IntsV w' (.slice (some ⟨B,0,none⟩) lp.length lp.length) (stL m ps l K lp)))\/
 (tkcode m ps l=0/\ExFull m ps l/\e=.returned (.tuple #[.agg #[.bool false,.slice none 0 0,.slice none 0 0],.int .i64 12])/\Below w.heap.size w w')\/
 (tkcode m ps l≠0/\e=.returned (.tuple #[.agg #[.bool false,.slice none 0 0,.slice none 0 0],.int .i64 (tkcode m ps l)])/\Below w.heap.size w w')
end
def vcP (g f0 f1:Value) (G:Nat) (st lp:List Int) (ns np:Nat):Nat->Value->World->Prop
 | 0,v,_=>v=g
 | 1,v,_=>v=.pointer (some ⟨G,0,none⟩)
 | 2,v,_=>v=f0
 | 3,v,w=>∃ R,v=.slice (some ⟨R,0,none⟩) ns ns/\IntsV w v st
 | 4,v,_=>v=g
 | 5,v,_=>v=.pointer (some ⟨G,1,none⟩)
 | 6,v,_=>v=f1
 | 7,v,w=>∃ R,v=.slice (some ⟨R,0,none⟩) np np/\IntsV w v lp
 | 8,v,w=>∃ A B,v=.agg #[.slice (some ⟨A,0,none⟩) ns ns,.slice (some ⟨B,0,none⟩) np np]/\IntsV w (.slice (some ⟨A,0,none⟩) ns ns) st/\IntsV w (.slice (some ⟨B,0,none⟩) np np) lp
 | 9,v,w=>∃ A B,v=.agg #[.bool false,.slice (some ⟨A,0,none⟩) ns ns,.slice (some ⟨B,0,none⟩) np np]/\IntsV w (.slice (some ⟨A,0,none⟩) ns ns) st/\IntsV w (.slice (some ⟨B,0,none⟩) np np) lp
 | _,_,_=>True
theorem vc_lt:∀ i,i < 10->i=0\/i=1\/i=2\/i=3\/i=4\/i=5\/i=6\/i=7\/i=8\/i=9:=by intro i hi;omega
theorem vcP_stable (g f0 f1:Value) (G:Nat) (st lp:List Int) (ns np:Nat) (i:Nat) (v:Value) (w w':World) (hi:i < 10) (h:vcP g f0 f1 G st lp ns np i v w) (hb:Below w.heap.size w w'):vcP g f0 f1 G st lp ns np i v w':=by
 rcases vc_lt i hi with rfl | rfl | rfl | rfl | rfl | rfl | rfl | rfl | rfl | rfl
 ·exact h
 ·exact h
 ·exact h
 ·obtain ⟨R,h1,h2⟩:=h;exact ⟨R,h1,h2.below hb⟩
 ·exact h
 ·exact h
 ·exact h
 ·obtain ⟨R,h1,h2⟩:=h;exact ⟨R,h1,h2.below hb⟩
 ·obtain ⟨A,B,h1,h2,h3⟩:=h;exact ⟨A,B,h1,h2.below hb,h3.below hb⟩
 ·obtain ⟨A,B,h1,h2,h3⟩:=h;exact ⟨A,B,h1,h2.below hb,h3.below hb⟩
theorem IntsV.setBool {w:World} {v:Value} {l:List Int} {p:Addr} {b:Bool} (h:IntsV w v l) (hc:w.cell? p=some (.bool b)) (u:Value):IntsV (w.setCell p u) v l:=by
 obtain ⟨ao,cap,rfl,h⟩:=h;refine ⟨ao,cap,rfl,fun hne=>?_⟩
 obtain ⟨c,off,rfl,hlt,hat⟩:=h hne;refine ⟨c,off,rfl,by simpa using hlt,fun j hj=>?_⟩
 have h1:=hat j hj
 have hne2:(⟨c,off+j,none⟩:Addr)≠p:=by
  intro e;rw [e,hc] at h1;simp at h1
 rw [World.cell?_setCell_other _ _ _ _ hne2.symm]
 exact h1
theorem boxed {w:World} {v:Value} {x:List Int} {R:Nat} {b:Bool} {a1 a2:Option Addr} {n1 n2 c1 c2:Nat} (h:IntsV w v x) (k0:w.cell? ⟨R,0,none⟩=some (.bool b)) (k1:w.cell? ⟨R,1,none⟩=some (.slice a1 n1 c1)) (k2:w.cell? ⟨R,2,none⟩=some (.slice a2 n2 c2)) (u0 u1 u2:Value):IntsV (((w.setCell ⟨R,0,none⟩ u0).setCell ⟨R,1,none⟩ u1).setCell ⟨R,2,none⟩ u2) v x:=by
 have h0:=h.setBool k0 u0;have h1:=h0.setBox (p:=⟨R,1,none⟩) ((World.cell?_setCell_other _ _ _ _ (by simp)).trans k1) u1
 exact h1.setBox (p:=⟨R,2,none⟩) ((World.cell?_setCell_other _ _ _ _ (by simp)).trans ((World.cell?_setCell_other _ _ _ _ (by simp)).trans k2)) u2
def laB (sv lv:Value):Obj:=.cells #[sv,lv] 38 (0,0)
theorem laB_cells {w:World} {X:Nat} {sv lv:Value} (hb:w.heap[X]? = some (laB sv lv)):w.cell? ⟨X,0,none⟩=some sv/\w.cell? ⟨X,1,none⟩=some lv:=by
 unfold laB at hb;refine ⟨?_,?_⟩ <;> simp [World.cell?,hb]
theorem vcheck_bad (va vr pv fv:Value) (m:Mo) (ps:List (List (Int × Int))) (l:List (Int × Int)) (w:World) (hV:TaskV w va vr pv fv m ps l) (c:Int) (hc:c≠0) (hex:∀ w',Below w.heap.size w w'->Calls Tryz.prog 15 #[.agg #[va,vr,pv,fv]] w' fun e w2=>e=.returned (.tuple #[.agg #[.slice none 0 0,.int .i64 0,.slice none 0 0,.slice none 0 0,.int .i64 0],.int .i64 c])/\Below w'.heap.size w' w2) :
    Calls Tryz.prog 7 #[.agg #[va,vr,pv,fv]] w fun e w'=>e=.returned (.tuple #[.agg #[.bool false,.slice none 0 0,.slice none 0 0],.int .i64 c])/\Below w.heap.size w w':=by
  obtain ⟨ao,ac,rfl⟩:=hV.mo.1.shape;obtain ⟨ro,rc,rfl⟩:=hV.mo.2.shape;obtain ⟨po,pc,rfl⟩:=hV.ps.shape;obtain ⟨fo,fc,rfl,_⟩:=id hV.fo;clear hV;generalize m.vars.length=vn at *;generalize m.rules.length=rn at *;generalize ps.length=pn at *;generalize l.length=fn at *
  obtain ⟨W1,hW1⟩:∃ W1,W1=(w.alloc (.cells #[.slice ao vn ac,.slice ro rn rc,.slice po pn pc,.slice fo fn fc] 34)).alloc (.cells #[.bool false,.slice none 0 0,.slice none 0 0] 40):=⟨_,rfl⟩
  have hb1:Below w.heap.size w W1:=by rw [hW1];exact ((Below.refl _ _).alloc (Nat.le_refl _) _).alloc (by simp) _
  have hz1:W1.heap.size=w.heap.size+2:=by rw [hW1];simp
  have he:=hex W1 hb1
  have HBx:Hid (∀ w',Below W1.heap.size W1 w'->(w'.cell? ⟨w.heap.size+1,0,none⟩=some (.bool false)/\w'.cell? ⟨w.heap.size+1,1,none⟩=some (.slice none 0 0)/\w'.cell? ⟨w.heap.size+1,2,none⟩=some (.slice none 0 0))/\(w'.frozen? ⟨w.heap.size+1,0,none⟩=false/\w'.frozen? ⟨w.heap.size+1,1,none⟩=false/\w'.frozen? ⟨w.heap.size+1,2,none⟩=false)):=fun w' h=>by
    have hlt:w.heap.size+1 < W1.heap.size:=by omega
    refine ⟨⟨?_,?_,?_⟩,?_,?_,?_⟩
    · exact (h.cell (p:=⟨w.heap.size+1,0,none⟩) hlt).trans (by rw [hW1];simp [go_sem])
    · exact (h.cell (p:=⟨w.heap.size+1,1,none⟩) hlt).trans (by rw [hW1];simp [go_sem])
    · exact (h.cell (p:=⟨w.heap.size+1,2,none⟩) hlt).trans (by rw [hW1];simp [go_sem])
    · exact (h.frozen (p:=⟨w.heap.size+1,0,none⟩) hlt).trans (by rw [hW1];simp [go_sem])
    · exact (h.frozen (p:=⟨w.heap.size+1,1,none⟩) hlt).trans (by rw [hW1];simp [go_sem])
    · exact (h.frozen (p:=⟨w.heap.size+1,2,none⟩) hlt).trans (by rw [hW1];simp [go_sem])
  have HW1:=(show Hid (W1=_) from hW1)
  clear hW1 hex
  go_enter Tryz.func7,Tryz.ntmps7
  go_upto_region 2 with (go_at_call 15;rw [<- HW1.out];refine he.mono ?_;rintro e w2 ⟨rfl,hb2⟩)
  have hbA:Below w2.heap.size w2 (w2.alloc (.cells #[.slice none 0 0,.int .i64 0,.slice none 0 0,.slice none 0 0,.int .i64 0] 64)):=(Below.refl _ _).alloc (Nat.le_refl _) _;have hb3:=hb2.trans (hbA.mono hb2.size);generalize w2.alloc (.cells #[.slice none 0 0,.int .i64 0,.slice none 0 0,.slice none 0 0,.int .i64 0] 64)=W3 at *;obtain ⟨⟨r0,r1,r2⟩,f0,f1,f2⟩:=HBx.out W3 hb3
  have hbw3:=hb1.trans (hb3.mono hb1.size);have hcb:¬ c=0:=hc;clear HBx HW1 he
  go_wp2_with fail
  refine bodyPost_ret (v:=.tuple #[.agg #[.bool false,.slice none 0 0,.slice none 0 0],.int .i64 c]) ?_ rfl ⟨rfl,?_⟩
  · simp only [results,Tryz.results7]
    simp [go_sem,r0,r1,r2]
  · exact ((hbw3.setCell (p:=⟨w.heap.size+1,0,none⟩) (by show w.heap.size <= w.heap.size+1;omega) _).setCell (p:=⟨w.heap.size+1,1,none⟩) (by show w.heap.size <= w.heap.size+1;omega) _).setCell (p:=⟨w.heap.size+1,2,none⟩) (by show w.heap.size <= w.heap.size+1;omega) _
theorem vcheck_ok (va vr pv fv:Value) (m:Mo) (ps:List (List (Int × Int))) (l:List (Int × Int)) (w:World) (hB:0 < w.heap.size) (hT:TabAt w) (hV:TaskV w va vr pv fv m ps l) (hk:tkcode m ps l=0) (hnf:¬ ExFull m ps l) :
  Calls Tryz.prog 7 #[.agg #[va,vr,pv,fv]] w (VdAns w m ps l):=by
 obtain ⟨ao,ac,rfl⟩:=hV.mo.1.shape;obtain ⟨ro,rc,rfl⟩:=hV.mo.2.shape;obtain ⟨po,pc,rfl⟩:=hV.ps.shape;obtain ⟨fo,fc,rfl,_⟩:=id hV.fo;obtain ⟨W1,hW1⟩:∃ W1,W1=(w.alloc (.cells #[.slice ao m.vars.length ac,.slice ro m.rules.length rc,.slice po ps.length pc,.slice fo l.length fc] 34)).alloc (.cells #[.bool false,.slice none 0 0,.slice none 0 0] 40):=⟨_,rfl⟩
 have hb1:Below w.heap.size w W1:=by rw [hW1];exact ((Below.refl _ _).alloc (Nat.le_refl _) _).alloc (by simp) _
 have hz1:W1.heap.size=w.heap.size+2:=by rw [hW1];simp
 have hex:Calls Tryz.prog 15 #[.agg #[.slice ao m.vars.length ac,.slice ro m.rules.length rc,.slice po ps.length pc,.slice fo l.length fc]] W1 fun e w2=>∃ K so sc no nc xo xc,e=.returned (.tuple #[.agg #[.slice so K sc,.int .i64 ((begL m ps l).length:Nat),.slice no K nc,.slice xo K xc,.int .i64 ((aheadL l).length:Nat)],.int .i64 0])/\Below W1.heap.size W1 w2/\K <= 20000/\Hid (ExDone m ps l K/\GraphV w2 (.slice so K sc) (.slice no K nc) (.slice xo K xc) (exGr m ps l K)):=by
  refine (explore_any _ _ _ _ m ps l W1 (Nat.lt_of_lt_of_le hB hb1.size) (hT.below hb1 hB) (hV.below hb1)).mono fun e w2 hx=>?_
  rcases hx with ⟨_,K,hD,sv,nv,tv,e1,h2,HG⟩ | ⟨_,hf,_,_⟩ | ⟨h1,_,_⟩
  ·have hGr:=HG.out.graph
   obtain ⟨so,sc,rfl⟩:=HG.out.1.shape;obtain ⟨us,n1,_⟩:=HG.out.2.1;obtain ⟨no,nc,rfl⟩:=owns_slice n1;obtain ⟨xo,xc,rfl⟩:=owns_slice HG.out.2.2;rw [hD.1,xpN_len,xpT_len] at e1 hGr;exact ⟨K,so,sc,no,nc,xo,xc,e1,h2,hD.2.1,hD,hGr⟩
  ·exact absurd hf hnf
  ·exact absurd hk h1
 have HBx:Hid (∀ w',Below W1.heap.size W1 w'->(w'.cell? ⟨w.heap.size+1,0,none⟩=some (.bool false)/\w'.cell? ⟨w.heap.size+1,1,none⟩=some (.slice none 0 0)/\w'.cell? ⟨w.heap.size+1,2,none⟩=some (.slice none 0 0))/\(w'.frozen? ⟨w.heap.size+1,0,none⟩=false/\w'.frozen? ⟨w.heap.size+1,1,none⟩=false/\w'.frozen? ⟨w.heap.size+1,2,none⟩=false)):=fun w' h=>by
  have hlt:w.heap.size+1 < W1.heap.size:=by omega
  refine ⟨⟨?_,?_,?_⟩,?_,?_,?_⟩
  ·exact (h.cell (p:=⟨w.heap.size+1,0,none⟩) hlt).trans (by rw [hW1];simp [go_sem])
  ·exact (h.cell (p:=⟨w.heap.size+1,1,none⟩) hlt).trans (by rw [hW1];simp [go_sem])
  ·exact (h.cell (p:=⟨w.heap.size+1,2,none⟩) hlt).trans (by rw [hW1];simp [go_sem])
  ·exact (h.frozen (p:=⟨w.heap.size+1,0,none⟩) hlt).trans (by rw [hW1];simp [go_sem])
  ·exact (h.frozen (p:=⟨w.heap.size+1,1,none⟩) hlt).trans (by rw [hW1];simp [go_sem])
  ·exact (h.frozen (p:=⟨w.heap.size+1,2,none⟩) hlt).trans (by rw [hW1];simp [go_sem])
 have HLa:Hid (∀ (w':World) (so no xo:Option Addr) (sc nc xc K:Nat),ExDone m ps l K->GraphV w' (.slice so K sc) (.slice no K nc) (.slice xo K xc) (exGr m ps l K)->Calls Tryz.prog 16 #[.agg #[.slice so K sc,.int .i64 ((begL m ps l).length:Nat),.slice no K nc,.slice xo K xc,.int .i64 ((aheadL l).length:Nat)]] w' fun e w2=>∃ t0 tn tc uo un uc c,e=.returned (.tuple #[.agg #[.slice t0 tn tc,.slice uo un uc],.int .i64 c])/\Below w'.heap.size w' w2/\Hid (LassoV (exGr m ps l K) w2 (.agg #[.slice t0 tn tc,.slice uo un uc]) c)):=fun w' so no xo sc nc xc K hD hGr=>by
  have hok:=exGr_ok hk hD;have hc0:gcode (exGr m ps l K)=0:=gcode_ok hok.head hok.row;have e1:(exGr m ps l K).spots.length=K:=hD.1;have e2:(exGr m ps l K).next.length=K:=xpN_len K;have e3:(exGr m ps l K).sets.length=K:=xpT_len K;have h:=slasso_ok so no xo sc nc xc (exGr m ps l K) w' (exGr_le hk hD) (by rw [e1,e2,e3];exact hGr) hc0
  rw [e1,e2,e3] at h;refine h.mono fun e w2 ⟨v,c,g1,g2,g3⟩=>?_
  rcases id g3.out with ⟨_,_,rfl⟩ | ⟨_,_,t0,tc,uo,uc,st,lp,rfl,_⟩
  ·exact ⟨_,_,_,_,_,_,c,g1,g2,g3⟩
  ·exact ⟨_,_,_,_,_,_,c,g1,g2,g3⟩
 have HSt:Hid (∀ (w':World) (so no xo po:Option Addr) (sc nc xc pc K:Nat) (x:List Nat),ExDone m ps l K->OpsV w' (.slice so K sc) (xpP m ps l K)->NatsV w' (.slice po x.length pc) x->(∀ y∈x,y < K)->x.length <= 2000000->Calls Tryz.prog 17 #[.agg #[.slice so K sc,.int .i64 ((begL m ps l).length:Nat),.slice no K nc,.slice xo K xc,.int .i64 ((aheadL l).length:Nat)],.slice po x.length pc] w' fun e w2=>∃ R,e=.returned (.slice (some ⟨R,0,none⟩) x.length x.length)/\Below w'.heap.size w' w2/\Hid (IntsV w2 (.slice (some ⟨R,0,none⟩) x.length x.length) (stL m ps l K x))):=fun w' so no xo po sc nc xc pc K x hD hO hN hlt hz=>by
  have h:=statesAt_any so no xo po sc K nc K xc pc ((begL m ps l).length:Nat) ((aheadL l).length:Nat) (xpP m ps l K) x w' (by rw [hD.1];exact hO) hN (fun i hi=>by
   rw [hD.1];refine hlt _ ?_
   rw [List.getD_eq_getElem?_getD,List.getElem?_eq_getElem hi]
   exact List.getElem_mem _) hz (by rw [hD.1];exact hD.2.1)
  rw [hD.1] at h;exact h
 have HTk:Hid (tkcode m ps l=0):=hk;have HW1:=(show Hid (W1=_) from hW1)
 clear hW1 hV hT hk hnf;unfold VdAns;generalize hbl:(begL m ps l).length=bn at *;generalize hal:(aheadL l).length=an at *;generalize m.vars.length=vn at *;generalize m.rules.length=rn at *;generalize ps.length=pn at *;generalize l.length=fn at *;clear hbl hal
 go_enter Tryz.func7,Tryz.ntmps7
 go_upto_region 2 with (go_at_call 15;rw [<- HW1.out];refine hex.mono ?_;rintro e w2 ⟨K,so,sc,no,nc,xo,xc,rfl,hb2,hK,HD⟩)
 have hbA:Below w2.heap.size w2 (w2.alloc (.cells #[.slice so K sc,.int .i64 (bn:Nat),.slice no K nc,.slice xo K xc,.int .i64 (an:Nat)] 64)):=(Below.refl _ _).alloc (Nat.le_refl _) _
 have hbg:(w2.alloc (.cells #[.slice so K sc,.int .i64 (bn:Nat),.slice no K nc,.slice xo K xc,.int .i64 (an:Nat)] 64)).heap[w2.heap.size]? = some (grB (.slice so K sc) (.slice no K nc) (.slice xo K xc) (bn:Nat) (an:Nat)):=(MapKept.heap_alloc w2 _).1;have hb3:=hb2.trans (hbA.mono hb2.size)
 have HG3:Hid (GraphV (w2.alloc (.cells #[.slice so K sc,.int .i64 (bn:Nat),.slice no K nc,.slice xo K xc,.int .i64 (an:Nat)] 64)) (.slice so K sc) (.slice no K nc) (.slice xo K xc) (exGr m ps l K)):=HD.out.2.below hbA;have HDn:Hid (ExDone m ps l K):=HD.out.1;have hXw:W1.heap.size <= w2.heap.size:=hb2.size
 generalize w2.alloc (.cells #[.slice so K sc,.int .i64 (bn:Nat),.slice no K nc,.slice xo K xc,.int .i64 (an:Nat)] 64)=W3 at *;generalize w2.heap.size=X at *;have hla:=HLa.out W3 so no xo sc nc xc K HDn.out HG3.out;obtain ⟨g0,g1,g2,g3,g4⟩:=grB_cells hbg
 have HGb:Hid (W3.heap[X]? = some (grB (.slice so K sc) (.slice no K nc) (.slice xo K xc) (bn:Nat) (an:Nat))):=hbg;clear HD hex HLa hbA hbg HW1
 go_upto_region 5 with (go_at_call 16;refine hla.mono ?_;rintro e w4 ⟨t0,tn,tc,uo,un,uc,c,rfl,hb4,HL⟩)
 have hbB:Below w4.heap.size w4 (w4.alloc (.cells #[.slice t0 tn tc,.slice uo un uc] 38)):=(Below.refl _ _).alloc (Nat.le_refl _) _;have hbl5:(w4.alloc (.cells #[.slice t0 tn tc,.slice uo un uc] 38)).heap[w4.heap.size]? = some (laB (.slice t0 tn tc) (.slice uo un uc)):=(MapKept.heap_alloc w4 _).1;have hb35:=hb4.trans (hbB.mono hb4.size);have hb5:=hb3.trans (hb35.mono hb3.size)
 have hbw5:=hb1.trans (hb5.mono hb1.size);obtain ⟨⟨r0,r1,r2⟩,f0,f1,f2⟩:=HBx.out _ hb5;clear hla g0 g1 g2 g3 g4
 rcases HL.out with ⟨rfl,hfc,hv⟩ | ⟨rfl,hfc,t0',tc',uo',uc',st,lp,hv,hst,hlp,hLo,hN1,hN2⟩
 ·generalize w4.alloc (.cells #[.slice t0 tn tc,.slice uo un uc] 38)=W5 at *
  have HR:Hid (∃ K,ExDone m ps l K/\fairC (exGr m ps l K)=11):=⟨K,HDn.out,hfc⟩
  clear hfc hv HL HBx HSt HDn HG3 HGb hbl5
  go_wp2_with fail
  refine bodyPost_ret (v:=.tuple #[.agg #[.bool true,.slice none 0 0,.slice none 0 0],.int .i64 0]) ?_ rfl (.inl ⟨HTk.out,HR.out,rfl,?_⟩)
  ·simp only [results,Tryz.results7]
   simp [go_sem,r0,r1,r2]
  ·exact ((hbw5.setCell (p:=⟨w.heap.size+1,0,none⟩) (by show w.heap.size <= w.heap.size+1;omega) _).setCell (p:=⟨w.heap.size+1,1,none⟩) (by show w.heap.size <= w.heap.size+1;omega) _).setCell (p:=⟨w.heap.size+1,2,none⟩) (by show w.heap.size <= w.heap.size+1;omega) _
 ·simp only [Value.agg.injEq,Array.mk.injEq,List.cons.injEq,Value.slice.injEq,and_true] at hv
  obtain ⟨⟨rfl,rfl,rfl⟩,rfl,rfl,rfl⟩:=hv
  have hlo1:∀ y∈st,y < K:=fun y hy=>by
   have:=hLo.lt y (List.mem_append.2 (.inl hy));rw [show (exGr m ps l K).spots.length=K from HDn.out.1] at this
   exact this
  have hlo2:∀ y∈lp,y < K:=fun y hy=>by
   have:=hLo.lt y (List.mem_append.2 (.inr hy));rw [show (exGr m ps l K).spots.length=K from HDn.out.1] at this
   exact this
  have hN1b:=hN1.below hbB;have hN2b:=hN2.below hbB
  have HRw:Hid (∀ w',Below (w4.alloc (.cells #[.slice t0 st.length tc,.slice uo lp.length uc] 38)).heap.size (w4.alloc (.cells #[.slice t0 st.length tc,.slice uo lp.length uc] 38)) w'->((w'.cell? ⟨X,0,none⟩=some (.slice so K sc)/\w'.cell? ⟨X,1,none⟩=some (.int .i64 (bn:Nat))/\w'.cell? ⟨X,2,none⟩=some (.slice no K nc)/\w'.cell? ⟨X,3,none⟩=some (.slice xo K xc)/\w'.cell? ⟨X,4,none⟩=some (.int .i64 (an:Nat)))/\(w'.cell? ⟨w4.heap.size,0,none⟩=some (.slice t0 st.length tc)/\w'.cell? ⟨w4.heap.size,1,none⟩=some (.slice uo lp.length uc)))/\(Calls Tryz.prog 17 #[.agg #[.slice so K sc,.int .i64 (bn:Nat),.slice no K nc,.slice xo K xc,.int .i64 (an:Nat)],.slice t0 st.length tc] w' fun e w2=>∃ R,e=.returned (.slice (some ⟨R,0,none⟩) st.length st.length)/\Below w'.heap.size w' w2/\Hid (IntsV w2 (.slice (some ⟨R,0,none⟩) st.length st.length) (stL m ps l K st)))/\(Calls Tryz.prog 17 #[.agg #[.slice so K sc,.int .i64 (bn:Nat),.slice no K nc,.slice xo K xc,.int .i64 (an:Nat)],.slice uo lp.length uc] w' fun e w2=>∃ R,e=.returned (.slice (some ⟨R,0,none⟩) lp.length lp.length)/\Below w'.heap.size w' w2/\Hid (IntsV w2 (.slice (some ⟨R,0,none⟩) lp.length lp.length) (stL m ps l K lp)))/\Below W1.heap.size W1 w'):=fun w' h=>by
   have h3:=hb35.trans (h.mono hb35.size);have hbx:=(h3.block X (Array.getElem?_eq_some_iff.1 HGb.out).1).trans HGb.out
   have hbl:=(h.block w4.heap.size (Array.getElem?_eq_some_iff.1 hbl5).1).trans hbl5
   have hsp:=HG3.out.spots.below h3;exact ⟨⟨grB_cells hbx,laB_cells hbl⟩,HSt.out w' so no xo t0 sc nc xc tc K st HDn.out hsp (hN1b.below h) hlo1 (by omega),HSt.out w' so no xo uo sc nc xc uc K lp HDn.out hsp (hN2b.below h) hlo2 (by omega),hb5.trans (h.mono hb5.size)⟩
  have HLo:Hid (LassoOk (exGr m ps l K) st lp):=hLo;have HSz:Hid (st.length <= 20000/\lp.length <= 2000000):=⟨hst,hlp⟩;clear hN1 hN2 hN1b hN2b hlo1 hlo2 HL hbl5 HG3 HGb HSt hb35 hbB hLo hfc hst hlp;generalize w4.alloc (.cells #[.slice t0 st.length tc,.slice uo lp.length uc] 38)=W5 at *;generalize w4.heap.size=L5 at *;obtain ⟨ns,hns⟩:∃ n,st.length=n:=⟨_,rfl⟩
  obtain ⟨np,hnp⟩:∃ n,lp.length=n:=⟨_,rfl⟩
  obtain ⟨xs,hxs⟩:∃ x,stL m ps l K st=x:=⟨_,rfl⟩
  obtain ⟨xp,hxp⟩:∃ x,stL m ps l K lp=x:=⟨_,rfl⟩
  have HN:Hid ((st.length=ns/\lp.length=np)/\stL m ps l K st=xs/\stL m ps l K lp=xp):=⟨⟨hns,hnp⟩,hxs,hxp⟩;rw [hns,hnp,hxs,hxp] at HRw;rw [hns,hnp];clear hns hnp hxs hxp
  go_upto_region 9 with fail
  go_cut [3] (fun u wx=>u=.int .i64 0/\∃ A B,Hid (IntsV wx (.slice (some ⟨A,0,none⟩) ns ns) xs/\IntsV wx (.slice (some ⟨B,0,none⟩) np np) xp/\Below w.heap.size w wx)/\wx.cell? ⟨w.heap.size+1,0,none⟩=some (.bool false)/\wx.cell? ⟨w.heap.size+1,1,none⟩=some (.slice (some ⟨A,0,none⟩) ns ns)/\wx.cell? ⟨w.heap.size+1,2,none⟩=some (.slice (some ⟨B,0,none⟩) np np))
  case first=>
   rename_i J K' hJ hK';generalize ha0:Act.mk _ _=a0;have hsz:a0.tmps.size=38:=by rw [<- ha0];rfl
   have a4:a0.eval (.tmp 4)=.pointer (some ⟨X,0,none⟩):=by rw [<- ha0];rfl
   have a6:a0.eval (.tmp 6)=.pointer (some ⟨L5,0,none⟩):=by rw [<- ha0];rfl
   have a2:a0.eval (.tmp 2)=.pointer (some ⟨w.heap.size+1,0,none⟩):=by rw [<- ha0];rfl
   refine wp_anyway (by rfl) [28,29,30,31,32,33,34,35,36,37,3] 10 (vcP (.agg #[.slice so K sc,.int .i64 (bn:Nat),.slice no K nc,.slice xo K xc,.int .i64 (an:Nat)]) (.slice t0 ns tc) (.slice uo np uc) L5 xs xp ns np) (by rw [hsz];rfl) (vcP_stable _ _ _ _ _ _ _ _) ?_ ?_
   ·intro i o hi ho q w' hb hq
    have f:∀ t,[28,29,30,31,32,33,34,35,36,37,3].contains t=true->t < 38->(frm a0 [28,29,30,31,32,33,34,35,36,37,3] q).eval (.tmp t)=q t:=fun t h1 h2=>frm_in h1 (by rw [hsz];exact h2)
    have e4:(frm a0 [28,29,30,31,32,33,34,35,36,37,3] q).eval (.tmp 4)=.pointer (some ⟨X,0,none⟩):=(frm_out rfl).trans a4;have e6:(frm a0 [28,29,30,31,32,33,34,35,36,37,3] q).eval (.tmp 6)=.pointer (some ⟨L5,0,none⟩):=(frm_out rfl).trans a6;obtain ⟨⟨⟨x0,x1,x2,x3,x4⟩,y0,y1⟩,hs1,hs2,_⟩:=HRw.out w' hb
    obtain ⟨ev,hev⟩:∃ ev,ev=(frm a0 [28,29,30,31,32,33,34,35,36,37,3] q).eval:=⟨_,rfl⟩
    have evf:∀ n,ev (.func n)=.func (.func n) #[] #[]:=fun n=>by rw [hev];rfl
    rw [<- hev] at f e4 e6
    rcases vc_lt i hi with rfl | rfl | rfl | rfl | rfl | rfl | rfl | rfl | rfl | rfl
    all_goals obtain rfl:=Option.some.inj ho
    ·refine op_val (w':=w') ?_ (Below.refl _ _) rfl
     rw [<- hev];simp [execOp,e4,go_sem,x0,x1,x2,x3,x4]
    ·refine op_val (w':=w') ?_ (Below.refl _ _) rfl
     rw [<- hev];simp [execOp,e6,go_sem]
    ·have e29:=(f 29 rfl (by decide)).trans (hq 1 29 rfl rfl)
     refine op_val (w':=w') ?_ (Below.refl _ _) rfl
     rw [<- hev];simp [execOp,e29,go_sem,y0]
    ·have e28:=(f 28 rfl (by decide)).trans (hq 0 28 rfl rfl)
     have e30:=(f 30 rfl (by decide)).trans (hq 2 30 rfl rfl)
     refine op_call (f:=17) (args:=#[.agg #[.slice so K sc,.int .i64 (bn:Nat),.slice no K nc,.slice xo K xc,.int .i64 (an:Nat)],.slice t0 ns tc]) ?_ (hs1.mono ?_)
     ·rw [<- hev];simp [execOp,e28,e30,evf,go_sem]
     ·rintro e w2 ⟨R,rfl,h2,h3⟩
      exact ⟨_,rfl,h2,R,rfl,h3.out⟩
    ·refine op_val (w':=w') ?_ (Below.refl _ _) rfl
     rw [<- hev];simp [execOp,e4,go_sem,x0,x1,x2,x3,x4]
    ·refine op_val (w':=w') ?_ (Below.refl _ _) rfl
     rw [<- hev];simp [execOp,e6,go_sem]
    ·have e33:=(f 33 rfl (by decide)).trans (hq 5 33 rfl rfl)
     refine op_val (w':=w') ?_ (Below.refl _ _) rfl
     rw [<- hev];simp [execOp,e33,go_sem,y1]
    ·have e32:=(f 32 rfl (by decide)).trans (hq 4 32 rfl rfl)
     have e34:=(f 34 rfl (by decide)).trans (hq 6 34 rfl rfl)
     refine op_call (f:=17) (args:=#[.agg #[.slice so K sc,.int .i64 (bn:Nat),.slice no K nc,.slice xo K xc,.int .i64 (an:Nat)],.slice uo np uc]) ?_ (hs2.mono ?_)
     ·rw [<- hev];simp [execOp,e32,e34,evf,go_sem]
     ·rintro e w2 ⟨R,rfl,h2,h3⟩
      exact ⟨_,rfl,h2,R,rfl,h3.out⟩
    ·obtain ⟨A,hA,hA2⟩:=hq 3 31 rfl rfl
     obtain ⟨B,hB',hB2⟩:=hq 7 35 rfl rfl;have e31:=(f 31 rfl (by decide)).trans hA
     have e35:=(f 35 rfl (by decide)).trans hB'
     refine op_val (w':=w') (v:=.agg #[.slice (some ⟨A,0,none⟩) ns ns,.slice (some ⟨B,0,none⟩) np np]) ?_ (Below.refl _ _) ⟨A,B,rfl,by rw [<- hA];exact hA2,by rw [<- hB'];exact hB2⟩
     rw [<- hev];simp [execOp,e31,e35,go_sem]
    ·obtain ⟨A,B,hA,hA2,hB2⟩:=hq 8 36 rfl rfl
     have e36:=(f 36 rfl (by decide)).trans hA
     refine op_val (w':=w') (v:=.agg #[.bool false,.slice (some ⟨A,0,none⟩) ns ns,.slice (some ⟨B,0,none⟩) np np]) ?_ (Below.refl _ _) ⟨A,B,rfl,hA2,hB2⟩
     rw [<- hev];simp [execOp,e36,go_sem]
   ·intro q w' hb hq
    have f:∀ q t,[28,29,30,31,32,33,34,35,36,37,3].contains t=true->t < 38->(frm a0 [28,29,30,31,32,33,34,35,36,37,3] q).eval (.tmp t)=q t:=fun q t h1 h2=>frm_in h1 (by rw [hsz];exact h2)
    obtain ⟨A,B,h37,hA2,hB2⟩:=hq 9 37 (by decide) rfl
    have e37:=(f q 37 rfl (by decide)).trans h37
    have e2:(frm a0 [28,29,30,31,32,33,34,35,36,37,3] q).eval (.tmp 2)=.pointer (some ⟨w.heap.size+1,0,none⟩):=(frm_out rfl).trans a2;obtain ⟨_,_,_,hbW⟩:=HRw.out w' hb;obtain ⟨⟨k0,k1,k2⟩,l0,l1,l2⟩:=HBx.out w' hbW
    show wpOps Tryz.prog _ _ [10,11] _ _
    rw [wpOps_cons];refine op_atR rfl rfl ?_
    refine op_skip (w':=((w'.setCell ⟨w.heap.size+1,0,none⟩ (.bool false)).setCell ⟨w.heap.size+1,1,none⟩ (.slice (some ⟨A,0,none⟩) ns ns)).setCell ⟨w.heap.size+1,2,none⟩ (.slice (some ⟨B,0,none⟩) np np)) rfl ?_ ?_
    ·generalize (frm a0 [28,29,30,31,32,33,34,35,36,37,3] q).eval=ev at e37 e2 ⊢
     simp [execOp,e2,e37,go_sem,k0,k1,k2,l0,l1,l2]
    rw [wpOps_cons];refine op_atR rfl rfl ?_
    refine op_run (w':=((w'.setCell ⟨w.heap.size+1,0,none⟩ (.bool false)).setCell ⟨w.heap.size+1,1,none⟩ (.slice (some ⟨A,0,none⟩) ns ns)).setCell ⟨w.heap.size+1,2,none⟩ (.slice (some ⟨B,0,none⟩) np np)) (v:=.int .i64 0) ?_ ?_
    ·have evc:∀ v,(frm a0 [28,29,30,31,32,33,34,35,36,37,3] q).eval (.const v)=v:=fun v=>rfl
     generalize (frm a0 [28,29,30,31,32,33,34,35,36,37,3] q).eval=ev at evc ⊢;simp [execOp,evc,go_sem]
    rw [late_put 3 rfl rfl]
    show K' _ _
    refine hK' _ _ ?_
    rw [<- ha0]
    go_meet
    have hbF:=hb1.trans (hbW.mono hb1.size);have n0:∀ A',IntsV w' A' xs->IntsV (((w'.setCell ⟨w.heap.size+1,0,none⟩ (.bool false)).setCell ⟨w.heap.size+1,1,none⟩ (.slice (some ⟨A,0,none⟩) ns ns)).setCell ⟨w.heap.size+1,2,none⟩ (.slice (some ⟨B,0,none⟩) np np)) A' xs:=fun A' h=>boxed h k0 k1 k2 _ _ _
    have n1:∀ A',IntsV w' A' xp->IntsV (((w'.setCell ⟨w.heap.size+1,0,none⟩ (.bool false)).setCell ⟨w.heap.size+1,1,none⟩ (.slice (some ⟨A,0,none⟩) ns ns)).setCell ⟨w.heap.size+1,2,none⟩ (.slice (some ⟨B,0,none⟩) np np)) A' xp:=fun A' h=>boxed h k0 k1 k2 _ _ _
    refine ⟨setV_same q 3 _,A,B,⟨n0 _ hA2,n1 _ hB2,((hbF.setCell (p:=⟨w.heap.size+1,0,none⟩) (by show w.heap.size <= w.heap.size+1;omega) _).setCell (p:=⟨w.heap.size+1,1,none⟩) (by show w.heap.size <= w.heap.size+1;omega) _).setCell (p:=⟨w.heap.size+1,2,none⟩) (by show w.heap.size <= w.heap.size+1;omega) _⟩,?_,?_,?_⟩
    ·rw [World.cell?_setCell_other _ _ _ _ (by simp),World.cell?_setCell_other _ _ _ _ (by simp)]
     exact World.cell?_setCell_same _ _ _ k0
    ·rw [World.cell?_setCell_other _ _ _ _ (by simp)]
     refine World.cell?_setCell_same _ _ _ (u:=.slice none 0 0) ?_
     rw [World.cell?_setCell_other _ _ _ _ (by simp)]
     exact k1
    ·refine World.cell?_setCell_same _ _ _ (u:=.slice none 0 0) ?_
     rw [World.cell?_setCell_other _ _ _ _ (by simp),World.cell?_setCell_other _ _ _ _ (by simp)]
     exact k2
  case rest=>
   obtain ⟨rfl,A,B,HE,z0,z1,z2⟩:=hcut
   go_wp2_with fail
   obtain ⟨⟨hn1,hn2⟩,hx1,hx2⟩:=HN.out;refine bodyPost_ret (v:=.tuple #[.agg #[.bool false,.slice (some ⟨A,0,none⟩) ns ns,.slice (some ⟨B,0,none⟩) np np],.int .i64 0]) ?_ rfl (.inr (.inl ⟨HTk.out,K,st,lp,A,B,HDn.out,HLo.out,HSz.out.1,HSz.out.2,by rw [hn1,hn2],HE.out.2.2,by rw [hn1,hn2,hx1,hx2];exact ⟨HE.out.1,HE.out.2.1⟩⟩))
   simp only [results,Tryz.results7];simp [go_sem,z0,z1,z2]
theorem vcheck_any (va vr pv fv:Value) (m:Mo) (ps:List (List (Int × Int))) (l:List (Int × Int)) (w:World) (hB:0 < w.heap.size) (hT:TabAt w) (hV:TaskV w va vr pv fv m ps l) :
  Calls Tryz.prog 7 #[.agg #[va,vr,pv,fv]] w (VdAns w m ps l):=by
 by_cases hk:tkcode m ps l=0
 ·by_cases hf:ExFull m ps l
  ·refine (vcheck_bad va vr pv fv m ps l w hV 12 (by decide) fun w' h=>(explore_any va vr pv fv m ps l w' (Nat.lt_of_lt_of_le hB h.size) (hT.below h hB) (hV.below h)).mono fun e w2 hx=>?_).mono fun e w2 ⟨h1,h2⟩=>.inr (.inr (.inl ⟨hk,hf,h1,h2⟩))
   rcases hx with ⟨_,K,hD,_⟩ | ⟨_,_,h1,h2⟩ | ⟨h1,_,_⟩
   ·exact absurd hf (ex_not_both hD)
   ·exact ⟨h1,h2⟩
   ·exact absurd hk h1
  ·exact vcheck_ok va vr pv fv m ps l w hB hT hV hk hf
 ·refine (vcheck_bad va vr pv fv m ps l w hV (tkcode m ps l) hk fun w' h=>(explore_any va vr pv fv m ps l w' (Nat.lt_of_lt_of_le hB h.size) (hT.below h hB) (hV.below h)).mono fun e w2 hx=>?_).mono fun e w2 ⟨h1,h2⟩=>.inr (.inr (.inr ⟨hk,h1,h2⟩))
  rcases hx with ⟨h0,_⟩ | ⟨h0,_⟩ | ⟨_,h1,h2⟩
  ·exact absurd h0 hk
  ·exact absurd h0 hk
  ·exact ⟨h1,h2⟩
end Go.Proofs.YtfnobbpbmelgnaaGreatDoor
namespace Go.Proofs.YtfnobbpbmelgnaaGreatDoor
open Go.ChangeShapes Go.WideShapes Go.ChangeAt Go.RowKit Go.Deep
open Terms Tm
set_option maxHeartbeats 6400000
set_option maxRecDepth 20000
structure PRun (m:Mo) (path:List Int) (s:Nat):Prop where
 lt:s < path.length
 first:path.getD 0 0=begC m
 step:∀ i,i < path.length->path.getD (moAt s path.length (i+1)) 0∈nextL m (path.getD i 0)
structure PWay (m:Mo) (ps:List (List (Int × Int))) (l:List (Int × Int)) (K:Nat) (x:List Nat) (s:Nat):Prop where
 lt:s < x.length
 all:∀ i,i < x.length->x.getD i 0 < K
 first:x.getD 0 0 < (begL m ps l).length
 step:∀ i,i < x.length->x.getD (moAt s x.length (i+1)) 0∈nxt (exGr m ps l K) (x.getD i 0)
 met:∀ k,k < (aheadL l).length->∃ i,s <= i/\i < x.length/\bitB ((xpT m ps l K).getD (x.getD i 0) 0) k=true
section
variable {m : Mo} {ps : List (List (Int × Int))} {l : List (Int × Int)} {K : Nat}
noncomputable def spA (m:Mo) (ps:List (List (Int × Int))) (l:List (Int × Int)) (K i:Nat):Int × Int:=(xpP m ps l K).getD i (0,0)
theorem spA_mem (h:ExDone m ps l K) {i:Nat} (hi:i < K):spA m ps l K i∈xpP m ps l K:=by
 have hl:i < (xpP m ps l K).length:=by rw [h.1];exact hi
 unfold spA;rw [List.getD_eq_getElem?_getD,List.getElem?_eq_getElem hl]
 exact List.getElem_mem _
theorem spA_ok (h:ExDone m ps l K) {i:Nat} (hi:i < K):spOk m l (spA m ps l K i):=h.2.2.2 _ (spA_mem h hi)
theorem spA_idx {s:Int × Int} (hs:s∈xpP m ps l K):spA m ps l K ((xpP m ps l K).idxOf s)=s:=by
 have hi:=List.idxOf_lt_length_of_mem hs;unfold spA;rw [List.getD_eq_getElem?_getD,List.getElem?_eq_getElem hi]
 exact List.getElem_idxOf hi
theorem nxt_beh (h:ExDone m ps l K) {i j:Nat} (hi:i < K) (hj:j∈nxt (exGr m ps l K) i):spA m ps l K j∈xpBh m ps l (spA m ps l K i):=by
 obtain ⟨r1,r2⟩:=xpN_row h hi;unfold nxt at hj;obtain ⟨z,hz,rfl⟩:=List.mem_map.1 hj;have hz':z∈(xpN m ps l K).getD i []:=hz;obtain ⟨q,hq,e⟩:=List.getElem_of_mem hz';have hq':q < (xpBh m ps l ((xpP m ps l K).getD i (0,0))).length:=by rw [<- r1];exact hq
 obtain ⟨r3,r4⟩:=r2 q hq'
 have e2:((xpN m ps l K).getD i []).getD q 0=z:=by
  generalize (xpN m ps l K).getD i []=row at *;rw [List.getD_eq_getElem?_getD,List.getElem?_eq_getElem hq]
  exact e
 rw [<- e2,r3,Int.toNat_natCast,spA_idx r4];rw [List.getD_eq_getElem?_getD (l:=xpBh m ps l ((xpP m ps l K).getD i (0,0))),List.getElem?_eq_getElem hq']
 exact List.getElem_mem _
theorem foTo_in {x:List Bool} {c:Int} {y:List Bool} {st:Int} {d:Nat} (hf:folR l x c y (d:Int)=true):∀ k,d < k->(st,(d:Int))∈foTo l x c y st k
 | 0,h=>by omega
 | k+1,h=>by
  rw [foTo]
  by_cases e:d=k
  ·subst e
   rw [if_pos hf];exact List.mem_append_right _ (List.mem_singleton.2 rfl)
  ·have:=foTo_in hf (st:=st) k (by omega)
   split
   ·exact List.mem_append_left _ this
   ·exact this
theorem beh_in {code c y:Int} {d:Nat} (hy:y∈nextL m code) (hd:d < 2 ^ (aheadL l).length) (hf:folR l (letL m ps code) c (letL m ps y) (d:Int)=true):(y,(d:Int))∈behL m ps l code c:=by
 obtain ⟨q,hq,rfl⟩:=List.getElem_of_mem hy;have hg:(nextL m code).getD q 0=(nextL m code)[q]:=by rw [List.getD_eq_getElem?_getD,List.getElem?_eq_getElem hq];rfl
 have key:∀ i,q < i->i <= (nextL m code).length->((nextL m code)[q],(d:Int))∈behTo m ps l code c i:=fun i=>by
  induction i with
  | zero=>intro h;omega
  | succ i ih=>
   intro h1 h2;rw [behTo,List.mem_append]
   by_cases e:q=i
   ·subst e
    refine .inr ?_
    rw [hg];exact foTo_in hf _ hd
   ·exact .inl (ih (by omega) (by omega))
 exact key _ hq (Nat.le_refl _)
theorem beg_in {d:Nat} (hd:d < 2 ^ (aheadL l).length) (hf:tru l (letL m ps (begC m)) (d:Int) 0≠true):(begC m,(d:Int))∈begL m ps l:=by
 have key:∀ k,d < k->(begC m,(d:Int))∈begTo m ps l k:=fun k=>by
  induction k with
  | zero=>intro h;omega
  | succ k ih=>
   intro h;rw [begTo]
   by_cases e:d=k
   ·subst e
    rw [if_neg hf];exact List.mem_append_right _ (List.mem_singleton.2 rfl)
   ·have:=ih (by omega)
    split
    ·exact this
    ·exact List.mem_append_left _ this
 exact key _ hd
theorem tk_fol (hk:tkcode m ps l=0) {x y:Int} {c d:Nat} (hx:0 <= x/\x < prodTo m.vars m.vars.length) (hy:0 <= y/\y < prodTo m.vars m.vars.length) (hc:c < 2 ^ (aheadL l).length) (hd:d < 2 ^ (aheadL l).length):fcode l (letL m ps x) (c:Int) (letL m ps y) (d:Int)=0:=by
 unfold fcode;rw [if_neg (by rw [(tk_let hk hx).2,(tk_let hk hy).2];simp),if_neg (by rw [(tk_tru hk hx hc).1];simp)]
 exact (tk_tru hk hy hd).1
end
section
variable {m : Mo} {ps : List (List (Int × Int))} {l : List (Int × Int)} {K : Nat}
theorem beg_len0:(begL m ps l).length <= (xpP m ps l 0).length:=by
 show _ <= (plTo [] (begL m ps l)).length
 have hsub:begL m ps l ⊆ plTo [] (begL m ps l):=fun x hx=>(plTo_iff _ _ _).2 (.inr hx)
 exact (xbeg_nodup m ps l).length_le_of_subset hsub
theorem spA_beg {i:Nat} (hi:i < (begL m ps l).length):spA m ps l K i∈begL m ps l:=by
 have h0:i < (xpP m ps l 0).length:=Nat.lt_of_lt_of_le hi beg_len0;have e:spA m ps l K i=(xpP m ps l 0).getD i (0,0):=exS_at (begL m ps l) (xpBh m ps l) (Nat.zero_le K) h0;rw [e]
 have hm:(xpP m ps l 0).getD i (0,0)∈xpP m ps l 0:=by
  rw [List.getD_eq_getElem?_getD,List.getElem?_eq_getElem h0]
  exact List.getElem_mem _
 rcases (plTo_iff _ _ _).1 hm with h | h
 ·exact absurd h List.not_mem_nil
 ·exact h
theorem idx_beg {s:Int × Int} (hs:s∈begL m ps l):(xpP m ps l K).idxOf s < (begL m ps l).length/\s∈xpP m ps l K:=by
 have h0:s∈xpP m ps l 0:=(plTo_iff _ _ _).2 (.inr hs);have hpre:xpP m ps l 0 <+: xpP m ps l K:=exS_le _ _ (Nat.zero_le K);refine ⟨?_,hpre.subset h0⟩
 rw [idx_pre hpre h0];have h1:=List.idxOf_lt_length_of_mem h0
 have h2:(xpP m ps l 0).length <= (begL m ps l).length:=by
  have:=(plTo_length (begL m ps l) []).2
  show (plTo [] (begL m ps l)).length <= _
  simpa using this
 omega
theorem getD_map {α β:Type} (f:α->β) (x:List α) (d:α) (e:β) {i:Nat} (hi:i < x.length):(x.map f).getD i e=f (x.getD i d):=by
 simp [List.getD_eq_getElem?_getD,hi]
theorem sub_zero (T:Tm):T.sub 0=T:=by cases T <;> rfl
theorem way_run {T:Tm} (hw:T.Wf) (ho:T.ops=l) (hz:endsCode (l.map Prod.fst)=0) (hv:∀ q,q < l.length->(l.getD q (0,0)).1=13->0 <= (l.getD q (0,0)).2) (h8:∀ q,q < l.length->8 <= (l.getD q (0,0)).1) (hk:tkcode m ps l=0) (h:ExDone m ps l K) {x:List Nat} {s:Nat} (hx:PWay m ps l K x s) :
  PRun m (x.map fun i=>(spA m ps l K i).1) s/\T.hb (sig ((x.map fun i=>(spA m ps l K i).1).map (letL m ps)) s) 0=false:=by
 have hn:(x.map fun i=>(spA m ps l K i).1).length=x.length:=List.length_map _
 have hln:((x.map fun i=>(spA m ps l K i).1).map (letL m ps)).length=x.length:=by simp
 have hp:∀ i,i < x.length->(x.map fun i=>(spA m ps l K i).1).getD i 0=(spA m ps l K (x.getD i 0)).1:=fun i hi=>getD_map _ x 0 0 hi
 have hls:∀ i,i < x.length->((x.map fun i=>(spA m ps l K i).1).map (letL m ps)).getD i []=letL m ps (spA m ps l K (x.getD i 0)).1:=fun i hi=>by rw [getD_map _ _ 0 [] (by rw [hn];exact hi),hp i hi]
 have hmo:∀ i,moAt s x.length i < x.length:=fun i=>moAt_lt hx.lt
 have hbh:∀ i,i < x.length->spA m ps l K (x.getD (moAt s x.length (i+1)) 0)∈xpBh m ps l (spA m ps l K (x.getD i 0)):=fun i hi=>nxt_beh h (hx.all i hi) (hx.step i hi)
 have h0:0 < x.length:=Nat.lt_of_le_of_lt (Nat.zero_le _) hx.lt;obtain ⟨b1,d0,b2,b3,b4⟩:=xbg_mem _ (spA_beg (K:=K) hx.first);refine ⟨⟨by rw [hn];exact hx.lt,by rw [hp 0 h0];exact b1,fun i hi=>?_⟩,?_⟩
 ·rw [hn] at hi ⊢
  rw [hp i hi,hp _ (hmo _)];exact (xbe_mem _ (Nat.le_refl _) (hbh i hi)).1
 ·have hcl:=claims_only hw ho hz hv h8 (ls:=(x.map fun i=>(spA m ps l K i).1).map (letL m ps)) (s:=s) (by rw [hln];exact hx.lt) (fun i=>(spA m ps l K (x.getD i 0)).2) (fun i hi=>?_) (fun i hi p hp1 hb=>?_) (fun p hp1 hb=>?_)
  ·have hc0:=hcl 0 (by rw [hln];exact h0)
   have htr:=claims_tru hw ho hz hv h8 (ls:=(x.map fun i=>(spA m ps l K i).1).map (letL m ps)) (s:=s) (i:=0) (by rw [hln];exact h0) (p:=0) (tk_ne hk)
   rw [<- hc0,hls 0 h0,sub_zero,b1,b3] at htr;rw [<- htr]
   cases hb:tru l (letL m ps (begC m)) (d0:Int) 0 with
   | false=>rfl
   | true=>exact absurd hb b4
  ·rw [hln] at hi
   obtain ⟨_,d,g1,g2⟩:=spA_ok h (hx.all i hi);rw [g2];have:((2 ^ (aheadL l).length:Nat):Int)=(2:Int) ^ (aheadL l).length:=by push_cast;rfl
   rw [<- this];omega
  ·rw [hln] at hi ⊢
   obtain ⟨_,d,_,e2,e3⟩:=xbe_mem _ (Nat.le_refl _) (hbh i hi);rw [<- e2] at e3;rw [hls i hi,hls _ (hmo _)]
   have hF:Fol l (tru l (letL m ps (spA m ps l K (x.getD i 0)).1) (spA m ps l K (x.getD i 0)).2) (tru l (letL m ps (spA m ps l K (x.getD (moAt s x.length (i+1)) 0)).1) (spA m ps l K (x.getD (moAt s x.length (i+1)) 0)).2):=by
    by_cases hno:Fol l (tru l (letL m ps (spA m ps l K (x.getD i 0)).1) (spA m ps l K (x.getD i 0)).2) (tru l (letL m ps (spA m ps l K (x.getD (moAt s x.length (i+1)) 0)).1) (spA m ps l K (x.getD (moAt s x.length (i+1)) 0)).2)
    ·exact hno
    ·rw [folR_no hno] at e3;cases e3
   exact hF p hp1 hb
  ·obtain ⟨k1,k2⟩:=ahead_at hp1 hb
   obtain ⟨i,i1,i2,i3⟩:=hx.met _ k1;refine ⟨i,i1,by rw [hln];exact i2,?_⟩
   rw [hls i i2];obtain ⟨g0,d,g1,g2⟩:=spA_ok h (hx.all i i2);rw [xpT_get (hx.all i i2),xpAt_eq h (hx.all i i2)] at i3;have i4:bitB (metN l (letL m ps (spA m ps l K (x.getD i 0)).1) (spA m ps l K (x.getD i 0)).2) (aheadTo l p).length=true:=i3;rw [g2] at i4 ⊢;unfold metN at i4;rw [if_pos (tk_tru hk g0 g1).1,met_bit _ _ k1,k2] at i4;unfold waitAt at i4
   simp only [Int.toNat_natCast] at i4;simpa using i4
theorem run_way {T:Tm} (hw:T.Wf) (ho:T.ops=l) (hz:endsCode (l.map Prod.fst)=0) (hv:∀ q,q < l.length->(l.getD q (0,0)).1=13->0 <= (l.getD q (0,0)).2) (h8:∀ q,q < l.length->8 <= (l.getD q (0,0)).1) (hk:tkcode m ps l=0) (h:ExDone m ps l K) {path:List Int} {s:Nat} (hr:PRun m path s) (hno:T.hb (sig (path.map (letL m ps)) s) 0=false) :
  ∃ x:List Nat,x.length=path.length/\PWay m ps l K x s/\∀ i,i < path.length->spA m ps l K (x.getD i 0)=(path.getD i 0,clmTo (aheadL l) (fun q=>(T.sub q).hb (sig (path.map (letL m ps)) s)) i (aheadL l).length):=by
 obtain ⟨hm0,_⟩:=pcode_m (tk_zero hk).1;have hln:(path.map (letL m ps)).length=path.length:=List.length_map _;have hls:∀ i,i < path.length->(path.map (letL m ps)).getD i []=letL m ps (path.getD i 0):=fun i hi=>getD_map _ _ 0 [] hi
 have h0:0 < path.length:=Nat.lt_of_le_of_lt (Nat.zero_le _) hr.lt;have hmo:∀ i,moAt s path.length i < path.length:=fun i=>moAt_lt hr.lt
 obtain ⟨mine,hmine⟩:∃ mine:Nat->Int,mine=fun i=>clmTo (aheadL l) (fun q=>(T.sub q).hb (sig (path.map (letL m ps)) s)) i (aheadL l).length:=⟨_,rfl⟩
 obtain ⟨f1,f2⟩:=claims_fit hw ho hz hv h8 (ls:=path.map (letL m ps)) (s:=s) (by rw [hln];exact hr.lt) mine (fun i _=>by rw [hmine])
 rw [hln] at f1 f2;have hpw:((2 ^ (aheadL l).length:Nat):Int)=(2:Int) ^ (aheadL l).length:=by push_cast;rfl
 have hmd:∀ i,∃ d:Nat,d < 2 ^ (aheadL l).length/\mine i=(d:Int):=fun i=>by
  obtain ⟨c0,c1⟩:=clmTo_bounds (aheadL l) (fun q=>(T.sub q).hb (sig (path.map (letL m ps)) s)) i (aheadL l).length
  have e:mine i=clmTo (aheadL l) (fun q=>(T.sub q).hb (sig (path.map (letL m ps)) s)) i (aheadL l).length:=by rw [hmine]
  rw [<- e] at c0 c1;exact ⟨(mine i).toNat,by rw [<- hpw] at c1;omega,by omega⟩
 have hst:∀ i,i < path.length->0 <= path.getD i 0/\path.getD i 0 < prodTo m.vars m.vars.length:=fun i=>by
  induction i with
  | zero=>intro _;rw [hr.first];exact tk_beg hk
  | succ i ih=>
   intro hi;have h1:=hr.step i (by omega)
   rw [moAt_low hi] at h1;exact nextL_st hm0 (ih (by omega)) h1
 have hbh:∀ i,i < path.length->(path.getD (moAt s path.length (i+1)) 0,mine (moAt s path.length (i+1)))∈xpBh m ps l (path.getD i 0,mine i):=fun i hi=>by
  obtain ⟨c,c1,c2⟩:=hmd i;obtain ⟨d,d1,d2⟩:=hmd (moAt s path.length (i+1));rw [d2];refine beh_in (hr.step i hi) d1 ?_
  show folR l (letL m ps (path.getD i 0)) (mine i) (letL m ps (path.getD (moAt s path.length (i+1)) 0)) (d:Int)=true
  rw [<- d2];refine folR_yes ?_ ?_
  ·rw [c2,d2]
   exact tk_fol hk (hst i hi) (hst _ (hmo _)) c1 d1
  ·intro p hp hb
   have:=f1 i hi p hp hb;rw [hls i hi,hls _ (hmo _)] at this;exact this
 have hbeg:(path.getD 0 0,mine 0)∈begL m ps l:=by
  obtain ⟨d,d1,d2⟩:=hmd 0;rw [hr.first,d2];refine beg_in d1 ?_
  have htr:=claims_tru hw ho hz hv h8 (ls:=path.map (letL m ps)) (s:=s) (i:=0) (by rw [hln];exact h0) (p:=0) (tk_ne hk)
  have e:mine 0=clmTo (aheadL l) (fun q=>(T.sub q).hb (sig (path.map (letL m ps)) s)) 0 (aheadL l).length:=by rw [hmine]
  rw [<- e,hls 0 h0,sub_zero,hno,hr.first,d2] at htr;rw [htr]
  simp
 have hmem:∀ i,i < path.length->(path.getD i 0,mine i)∈xpP m ps l K:=fun i=>by
  induction i with
  | zero=>intro _;exact (idx_beg hbeg).2
  | succ i ih=>
   intro hi;have h1:=hbh i (by omega)
   rw [moAt_low hi] at h1;exact (exGr_step h (ih (by omega)) h1).1
 have hxl:((List.range path.length).map fun i=>(xpP m ps l K).idxOf (path.getD i 0,mine i)).length=path.length:=by simp
 have hx:∀ i,i < path.length->((List.range path.length).map fun i=>(xpP m ps l K).idxOf (path.getD i 0,mine i)).getD i 0=(xpP m ps l K).idxOf (path.getD i 0,mine i):=fun i hi=>by simp [List.getD_eq_getElem?_getD,hi]
 refine ⟨(List.range path.length).map fun i=>(xpP m ps l K).idxOf (path.getD i 0,mine i),hxl,⟨by rw [hxl];exact hr.lt,fun i hi=>?_,?_,fun i hi=>?_,fun k hkk=>?_⟩,fun i hi=>by rw [hx i hi,spA_idx (hmem i hi),hmine]⟩
 ·rw [hxl] at hi
  rw [hx i hi];have:=List.idxOf_lt_length_of_mem (hmem i hi);rw [h.1] at this;exact this
 ·rw [hx 0 h0]
  exact (idx_beg hbeg).1
 ·rw [hxl] at hi ⊢
  rw [hx i hi,hx _ (hmo _)];exact (exGr_step h (hmem i hi) (hbh i hi)).2
 ·obtain ⟨p,e1,e2,e3,e4⟩:=aheadTo_get l l.length k hkk
  have e1':(aheadL l).getD k 0=(p:Int):=e1;obtain ⟨i,i1,i2,i3⟩:=f2 p e2 e3;refine ⟨i,i1,by rw [hxl];exact i2,?_⟩
  have hiK:(xpP m ps l K).idxOf (path.getD i 0,mine i) < K:=by
   have:=List.idxOf_lt_length_of_mem (hmem i i2);rw [h.1] at this;exact this
  have hsp:spA m ps l K ((xpP m ps l K).idxOf (path.getD i 0,mine i))=(path.getD i 0,mine i):=spA_idx (hmem i i2);have hsp':(xpP m ps l K).getD ((xpP m ps l K).idxOf (path.getD i 0,mine i)) (0,0)=(path.getD i 0,mine i):=hsp;rw [hx i i2,xpT_get hiK,xpAt_eq h hiK,hsp'];simp only
  obtain ⟨d,d1,d2⟩:=hmd i;rw [hls i i2] at i3;unfold metN;rw [d2] at i3 ⊢;rw [if_pos (tk_tru hk (hst i i2) d1).1,met_bit _ _ hkk,e1'];unfold waitAt;simp only [Int.toNat_natCast];rw [i3];rfl
end
theorem bitB_nat (n i:Nat):bitB (n:Int) i=n.testBit i:=by
 unfold bitB;rw [Nat.testBit_eq_decide_div_mod_eq];have e:((n / 2 ^ i % 2:Nat):Int)=(n:Int) / 2 ^ i % 2:=by push_cast;rfl
 rw [<- e]
 apply decide_eq_decide.2
 omega
theorem Trail.at {nx:Nat->List Nat}:∀ {L:List Nat},Trail nx L->∀ i,i+1 < L.length->L.getD (i+1) 0∈nx (L.getD i 0)
 | [],_,i,h=>by simp at h
 | [_],_,i,h=>by simp at h
 | a:: b:: L,h,0,_=>by simpa using h.1
 | a:: b:: L,h,i+1,hi=>by
  have:=Trail.at (L:=b:: L) h.2 i (by simpa using hi)
  simpa using this
section
variable {m : Mo} {ps : List (List (Int × Int))} {l : List (Int × Int)} {K : Nat}
theorem exGr_bit {i k:Nat}:(sN (exGr m ps l K) i).testBit k=bitB ((xpT m ps l K).getD i 0) k\/(xpT m ps l K).getD i 0 < 0:=by
 by_cases h:(xpT m ps l K).getD i 0 < 0
 ·exact .inr h
 ·refine .inl ?_
  obtain ⟨n,hn⟩:∃ n:Nat,(xpT m ps l K).getD i 0=(n:Int):=⟨((xpT m ps l K).getD i 0).toNat,by omega⟩
  show ((xpT m ps l K).getD i 0).toNat.testBit k=_
  rw [hn,bitB_nat,Int.toNat_natCast]
theorem xpT_pos {i:Nat} (hi:i < K):¬ (xpT m ps l K).getD i 0 < 0:=by
 rw [xpT_get hi];have:=(metN_range l (letL m ps (xpAt m ps l i).1) (xpAt m ps l i).2).1;omega
theorem lasso_way (h:ExDone m ps l K) {st lp:List Nat} (hL:LassoOk (exGr m ps l K) st lp):PWay m ps l K (st++lp) st.length:=by
 have hK:(exGr m ps l K).spots.length=K:=h.1;have hlp:0 < lp.length:=List.length_pos_iff.2 hL.ne;have hn:(st++lp).length=st.length+lp.length:=List.length_append
 have hall:∀ i,i < (st++lp).length->(st++lp).getD i 0 < K:=fun i hi=>by
  have:=hL.lt ((st++lp).getD i 0) (by rw [List.getD_eq_getElem?_getD,List.getElem?_eq_getElem hi];exact List.getElem_mem _)
  rw [hK] at this;exact this
 have hg:∀ i,i < (st++lp).length->(st++lp++[lp.getD 0 0]).getD i 0=(st++lp).getD i 0:=fun i hi=>by
  simp only [List.getD_eq_getElem?_getD]
  rw [List.getElem?_append_left hi]
 have hlast:(st++lp++[lp.getD 0 0]).getD (st++lp).length 0=(st++lp).getD st.length 0:=by
  simp only [List.getD_eq_getElem?_getD]
  rw [List.getElem?_append_right (Nat.le_refl _),Nat.sub_self,List.getElem?_append_right (Nat.le_refl _),Nat.sub_self]
  rfl
 refine ⟨by omega,hall,?_,fun i hi=>?_,fun k hk=>?_⟩
 ·have:=hL.head
  have e:(exGr m ps l K).init=((begL m ps l).length:Nat):=rfl;rw [e] at this;omega
 ·have htr:=hL.trail.at i (by simp at hi ⊢;omega)
  rw [hg i hi] at htr
  by_cases hi2:i+1 < (st++lp).length
  ·rw [moAt_low hi2]
   rw [hg _ hi2] at htr;exact htr
  ·have e:i+1=(st++lp).length:=by omega
   have hm:moAt st.length (st++lp).length (i+1)=st.length:=by
    rw [e];unfold moAt;rw [if_neg (Nat.lt_irrefl _),Nat.mod_self];rfl
   rw [hm];rw [e,hlast] at htr;exact htr
 ·have hk':k < mN (exGr m ps l K):=by
   show k < (((aheadL l).length:Nat):Int).toNat
   rw [Int.toNat_natCast];exact hk
  obtain ⟨x,hx,hb⟩:=hL.bits k hk';obtain ⟨q,hq,rfl⟩:=List.getElem_of_mem hx;have hi:st.length+q < (st++lp).length:=by omega
  have hge:(st++lp).getD (st.length+q) 0=lp[q]:=by
   simp only [List.getD_eq_getElem?_getD]
   rw [List.getElem?_append_right (by omega),show st.length+q - st.length=q by omega,List.getElem?_eq_getElem hq]
   rfl
  refine ⟨st.length+q,by omega,hi,?_⟩
  rw [hge];have hlt:lp[q] < K:=by rw [<- hge];exact hall _ hi
  rcases exGr_bit (m:=m) (ps:=ps) (l:=l) (K:=K) (i:=lp[q]) (k:=k) with e | e
  ·rw [<- e];exact hb
  ·exact absurd e (xpT_pos hlt)
theorem way_fair (h:ExDone m ps l K) {x:List Nat} {s:Nat} (hx:PWay m ps l K x s):fairC (exGr m ps l K)=0:=by
 have hK:(exGr m ps l K).spots.length=K:=h.1
 have hfw:∀ i j,i <= j->j < x.length->Way (nxt (exGr m ps l K)) (x.getD i 0) (x.getD j 0):=fun i j hij=>by
  induction hij with
  | refl=>intro _;exact .stay
  | @step j hj ih=>
   intro hlt;have h1:=ih (by omega)
   have h2:=hx.step j (by omega)
   rw [moAt_low hlt] at h2;exact h1.step h2
 have hback:x.getD s 0∈nxt (exGr m ps l K) (x.getD (x.length - 1) 0):=by
  have h1:=hx.step (x.length - 1) (by have:=hx.lt;omega)
  have e:x.length - 1+1=x.length:=by have:=hx.lt;omega
  have hm:moAt s x.length x.length=s:=by
   unfold moAt;rw [if_neg (Nat.lt_irrefl _),Nat.mod_self];rfl
  rw [e,hm] at h1;exact h1
 have hlt:=hx.lt;have hmut:∀ i,s <= i->i < x.length->Mut (exGr m ps l K) (x.getD s 0) (x.getD i 0):=fun i h1 h2=>⟨hfw s i h1 h2,(hfw i (x.length - 1) (by omega) (by omega)).step hback⟩
 refine fair_some (x:=x.getD s 0) (by rw [hK];exact hx.all s hlt) ⟨⟨x.getD 0 0,?_,hfw 0 s (Nat.zero_le _) hlt⟩,⟨x.getD (x.length - 1) 0,x.getD s 0,hmut _ (by omega) (by omega),⟨.stay,.stay⟩,hback⟩,fun k hk=>?_⟩
 ·rw [List.mem_range]
  show x.getD 0 0 < (((begL m ps l).length:Nat):Int).toNat
  rw [Int.toNat_natCast];exact hx.first
 ·have hk':k < (aheadL l).length:=by
   have:k < (((aheadL l).length:Nat):Int).toNat:=hk;rw [Int.toNat_natCast] at this;exact this
  obtain ⟨i,i1,i2,i3⟩:=hx.met k hk';refine ⟨x.getD i 0,hmut i i1 i2,?_⟩
  rcases exGr_bit (m:=m) (ps:=ps) (l:=l) (K:=K) (i:=x.getD i 0) (k:=k) with e | e
  ·rw [e];exact i3
  ·exact absurd e (xpT_pos (hx.all i i2))
end
def AllKeep (m:Mo) (ps:List (List (Int × Int))) (T:Tm):Prop:=∀ (path:List Int) (s:Nat),PRun m path s->T.hb (sig (path.map (letL m ps)) s) 0=true
section
variable {m : Mo} {ps : List (List (Int × Int))} {l : List (Int × Int)} {K : Nat}
theorem keep_of_none {T:Tm} (hw:T.Wf) (ho:T.ops=l) (hz:endsCode (l.map Prod.fst)=0) (hv:∀ q,q < l.length->(l.getD q (0,0)).1=13->0 <= (l.getD q (0,0)).2) (h8:∀ q,q < l.length->8 <= (l.getD q (0,0)).1) (hk:tkcode m ps l=0) (h:ExDone m ps l K) (hf:fairC (exGr m ps l K)≠0):AllKeep m ps T:=fun path s hr=>by
 cases hb:T.hb (sig (path.map (letL m ps)) s) 0 with
 | true=>rfl
 | false=>
  obtain ⟨x,_,hx,_⟩:=run_way hw ho hz hv h8 hk h hr hb;exact absurd (way_fair h hx) hf
theorem not_keep {T:Tm} (hw:T.Wf) (ho:T.ops=l) (hz:endsCode (l.map Prod.fst)=0) (hv:∀ q,q < l.length->(l.getD q (0,0)).1=13->0 <= (l.getD q (0,0)).2) (h8:∀ q,q < l.length->8 <= (l.getD q (0,0)).1) (hk:tkcode m ps l=0) (h:ExDone m ps l K) {st lp:List Nat} (hL:LassoOk (exGr m ps l K) st lp):¬ AllKeep m ps T:=fun ha=>by
 obtain ⟨h1,h2⟩:=way_run hw ho hz hv h8 hk h (lasso_way h hL);rw [ha _ _ h1] at h2
 cases h2
end
section
variable {σ : Nat -> Nat -> Bool} {v : Int} {a b : Tm} {i : Nat}
theorem hb_glob_iff:hb σ (un 18 v a) i=true↔∀ j,i <= j->hb σ a j=true:=by
 rw [hb_glob,untB_iff];unfold Unt
 constructor
 ·rintro (⟨j,_,h,_⟩ | ⟨_,h⟩)
  ·cases h
  ·exact h
 ·exact fun h=>.inr ⟨rfl,h⟩
theorem hb_fin_iff:hb σ (un 17 v a) i=true↔∃ j,i <= j/\hb σ a j=true:=by
 rw [hb_fin,untB_iff];unfold Unt
 constructor
 ·rintro (⟨j,h1,h2,_⟩ | ⟨h,_⟩)
  ·exact ⟨j,h1,h2⟩
  ·cases h
 ·rintro ⟨j,h1,h2⟩
  exact .inl ⟨j,h1,h2,fun _ _ _=>rfl⟩
theorem not_true (x:Bool):(!x)=true↔¬ x=true:=by cases x <;> simp
theorem hb_not_iff:hb σ (un 10 v a) i=true↔¬ hb σ a i=true:=by rw [hb_not,not_true]
end
theorem Joined1 (kind:Int) (g:Nat) (lv:Value) (l:List (Int × Int)) (w:World) (hc:w.cell? ⟨g,0,none⟩=some lv) (hl:l.length <= 60) (hne:l≠[]) (hV:OpsV w lv l) :
  Calls Tryz.prog 11 #[.int .i64 kind,.slice (some ⟨g,0,none⟩) 1 1] w fun e w'=>∃ a c,e=.returned (.slice a ((kind,0):: l).length c)/\Below w.heap.size w w'/\OpsV w' (.slice a ((kind,0):: l).length c) ((kind,0):: l):=by
 have hp:=joined1 kind g lv l w hc hl hne hV;generalize hn:((kind,0):: l:List (Int × Int)).length=n at *;clear hn hV hl
 go_enter Tryz.func11,Tryz.ntmps11
 go_wp2_with (go_at_call 21;refine hp.mono ?_;rintro e w2 ⟨a,c,rfl,hb,hP⟩)
 go_ret
 exact ⟨a,c,rfl,hb,hP⟩
theorem Joined2 (kind:Int) (g:Nat) (lv mv:Value) (l m:List (Int × Int)) (w:World) (hc:w.cell? ⟨g,0,none⟩=some lv) (hd:w.cell? ⟨g,1,none⟩=some mv) (hl:l.length <= 60) (hm:m.length <= 60) (hne:l≠[]) (hne2:m≠[]) (hV:OpsV w lv l) (hM:OpsV w mv m) :
  Calls Tryz.prog 11 #[.int .i64 kind,.slice (some ⟨g,0,none⟩) 2 2] w fun e w'=>∃ a c,e=.returned (.slice a ((kind,0):: (l++m)).length c)/\Below w.heap.size w w'/\OpsV w' (.slice a ((kind,0):: (l++m)).length c) ((kind,0):: (l++m)):=by
 have hp:=joined2 kind g lv mv l m w hc hd hl hm hne hne2 hV hM;generalize hn:((kind,0):: (l++m):List (Int × Int)).length=n at *;clear hn hV hl hm hM
 go_enter Tryz.func11,Tryz.ntmps11
 go_wp2_with (go_at_call 21;refine hp.mono ?_;rintro e w2 ⟨a,c,rfl,hb,hP⟩)
 go_ret
 exact ⟨a,c,rfl,hb,hP⟩
section
variable {o : Oper} {a : Act} {w : World} {Q : Exit -> Act -> World -> Prop} {m : Mo}
end
section
variable {m : Mo} {A B : Tm} {a b c d : Bool}
end
section
variable {m : Mo} {ps : List (List (Int × Int))} {l : List (Int × Int)}
def stAt (path:List Int) (s t:Nat):Int:=path.getD (moAt s path.length t) 0
theorem stAt_zero {path:List Int} {s:Nat} (h:PRun m path s):stAt path s 0=begC m:=by
 unfold stAt;rw [moAt_low (Nat.lt_of_le_of_lt (Nat.zero_le _) h.lt),h.first]
theorem moAt_next {s n t:Nat} (hs:s < n):moAt s n (t+1)=moAt s n (moAt s n t+1):=by
 unfold moAt
 by_cases h1:t < n
 ·rw [if_pos h1]
 ·rw [if_neg h1,if_neg (by omega:¬ t+1 < n)]
  have hp:0 < n - s:=by omega
  have hlt:=Nat.mod_lt (t - s) hp;have e:t+1 - s=(t - s)+1:=by omega
  by_cases h2:s+(t - s) % (n - s)+1 < n
  ·rw [if_pos h2,e,Nat.add_mod]
   by_cases h3:n - s=1
   ·omega
   ·rw [Nat.mod_eq_of_lt (by omega:1 < n - s),Nat.mod_eq_of_lt (by omega:(t - s) % (n - s)+1 < n - s)]
    omega
  ·rw [if_neg h2]
   have h4:(t - s) % (n - s)+1=n - s:=by omega
   have h5:s+(t - s) % (n - s)+1 - s=n - s:=by omega
   rw [h5,e,Nat.mod_self]
   have h6:((t - s)+1) % (n - s)=0:=by
    rw [Nat.add_mod]
    by_cases h3:n - s=1
    ·rw [h3];exact Nat.mod_one _
    ·rw [Nat.mod_eq_of_lt (by omega:1 < n - s),h4,Nat.mod_self]
   rw [h6]
theorem stAt_step {path:List Int} {s:Nat} (h:PRun m path s) (t:Nat):stAt path s (t+1)∈nextL m (stAt path s t):=by
 unfold stAt;rw [moAt_next h.lt];exact h.step _ (moAt_lt h.lt)
theorem sig_st {path:List Int} {s:Nat} (h:PRun m path s) (t v:Nat):sig (path.map (letL m ps)) s t v=(letL m ps (stAt path s t)).getD v false:=by
 unfold sig stAt;rw [List.length_map];have hl:=moAt_lt (i:=t) h.lt
 congr 1
 simp [List.getD_eq_getElem?_getD,hl]
end
section
variable {m : Mo} {ps : List (List (Int × Int))} {l : List (Int × Int)} {n : Int}
end
def xV (n:Nat):Vr:=⟨⟨#[120]⟩,0,(n:Int) - 1,0⟩
def upT (n:Nat):Tm:=.bi 7 0 (.leaf 2 0) (.leaf 1 ((n:Int) - 1))
def bkT (n:Nat):Tm:=.bi 6 0 (.leaf 2 0) (.leaf 1 ((n:Int) - 1))
def adT:Tm:=.bi 3 0 (.leaf 2 0) (.leaf 1 1)
def zeT:Tm:=.leaf 1 0
def yeT:Tm:=.leaf 11 0
def upR (n:Nat):Ru:=⟨(upT n).ops,[⟨0,adT.ops⟩]⟩
def bkR (n:Nat):Ru:=⟨(bkT n).ops,[⟨0,zeT.ops⟩]⟩
def idR:Ru:=⟨yeT.ops,[]⟩
def ringR (n:Nat) (b:Bool):List Ru:=upR n:: bkR n:: (if b then [idR] else [])
def ringM (n:Nat) (b:Bool):Mo:=⟨[xV n],ringR n b⟩
def eqT (v:Nat):Tm:=.bi 6 0 (.leaf 2 0) (.leaf 1 (v:Int))
def eqP (v:Nat):List (List (Int × Int)):=[(eqT v).ops]
section
variable {n v : Nat} {b : Bool}
theorem upT_good (hn:n <= 9):(upT n).Good 1:=⟨by decide,by decide,rfl,.inr (.inl ⟨rfl,by decide,by decide⟩),.inl ⟨rfl,by omega,by omega⟩⟩
theorem bkT_good (hn:n <= 9):(bkT n).Good 1:=⟨by decide,by decide,rfl,.inr (.inl ⟨rfl,by decide,by decide⟩),.inl ⟨rfl,by omega,by omega⟩⟩
theorem eqT_good (hn:v <= 9):(eqT v).Good 1:=⟨by decide,by decide,rfl,.inr (.inl ⟨rfl,by decide,by decide⟩),.inl ⟨rfl,by omega,by omega⟩⟩
theorem adT_good:adT.Good 1:=⟨by decide,by decide,rfl,.inr (.inl ⟨rfl,by decide,by decide⟩),.inl ⟨rfl,by decide,by decide⟩⟩
theorem zeT_good:zeT.Good 1:=.inl ⟨rfl,by decide,by decide⟩
theorem yeT_good:yeT.Good 1:=.inr (.inr ⟨.inl rfl,rfl⟩)
theorem ex_one {T:Tm} {x:Int} (hx:-1000000 <= x/\x <= 1000000) (hg:T.Good 1) (ht:T.typed=true) (h60:T.size <= 60) {y:Int} (he:T.eval [x]=some y):exC T.ops [x]=0/\exN T.ops [x]=y:=by
 have hxc:xcode (([x]:List Int).length:Nat) T.ops T=0:=by
  have:=xcode_good (vars:=1) (t:=T) (by decide) (by decide) hg h60
  rw [if_pos ht] at this;exact this
 have hb:envBad [x]=false:=envBad_ok fun j hj=>by
  obtain rfl:j=0:=by simp at hj;exact hj
  exact hx
 unfold exC exN evalC evalN;rw [treeOf_ops hg.wf h60,if_neg (by rw [hxc];simp),if_neg (by rw [hb];simp),if_neg (by rw [hxc];simp),if_neg (by rw [hb];simp),he]
 exact ⟨rfl,rfl⟩
theorem lid01 (p:Prop) [Decidable p]:lid (if p then 1 else 0)=some (if p then 1 else 0):=by
 by_cases h:p
 ·rw [if_pos h];rfl
 ·rw [if_neg h];rfl
theorem holds_one1 {T:Tm} {x:Int} (hx:-1000000 <= x/\x <= 1000000) (hg:T.Good 1) (ht:T.typed=true) (h60:T.size <= 60) (p:Prop) [Decidable p] (he:T.eval [x]=some (if p then 1 else 0)):holdsB T.ops [x]=decide p:=by
 obtain ⟨h1,h2⟩:=ex_one hx hg ht h60 he;unfold holdsB;rw [h1,h2]
 by_cases h:p
 ·rw [if_pos h];simp [h]
 ·rw [if_neg h];simp [h]
theorem upT_eval (x:Int):(upT n).eval [x]=some (if x < (n:Int) - 1 then 1 else 0):=lid01 _
theorem bkT_eval (x:Int):(bkT n).eval [x]=some (if x=(n:Int) - 1 then 1 else 0):=lid01 _
theorem eqT_eval (x:Int):(eqT v).eval [x]=some (if x=(v:Int) then 1 else 0):=lid01 _
theorem yeT_eval (x:Int):yeT.eval [x]=some (if True then 1 else 0):=rfl
theorem adT_eval {x:Int} (h:0 <= x/\x <= 100):adT.eval [x]=some (x+1):=by
 show lid (x+1)=_
 unfold lid;rw [if_pos (by omega)]
theorem xV_ok (h1:1 <= n) (h2:n <= 9):vcode [xV n]=0:=by
 unfold vcode;rw [if_neg (by simp)]
 refine firstOf_none fun j hj=>?_
 obtain rfl:j=0:=by simp at hj;exact hj
 have e1:nameOk (xV n).name=true:=by
  exact name_bX
 refine (vAt_eq (l:=[xV n]) (k:=0) (x:=xV n) (st:=1) rfl rfl).2.2.2.2 e1 rfl ?_ ?_
 ·unfold vbound xV
  simp only [decide_eq_true_eq];omega
 ·unfold vspan xV
  simp only
  omega
theorem kc_one {T:Tm} (hg:T.Good 1) (ht:T.typed=true) (h60:T.size <= 60) (tr:Bool) (h:mkT T.kind=tr):kcode 1 T.ops tr=0:=by
 rw [kcode_tree (by decide) (by decide) hg h60 ht,if_pos h]
theorem rc_set {T S:Tm} (hg:T.Good 1) (ht:T.typed=true) (h60:T.size <= 60) (h:mkT T.kind=true) (kg:S.Good 1) (kt:S.typed=true) (k60:S.size <= 60) (k:mkT S.kind=false):rcode 1 ⟨T.ops,[⟨0,S.ops⟩]⟩=0:=by
 unfold rcode;rw [if_neg (by simp),if_pos (kc_one hg ht h60 _ h)]
 refine firstOf_none fun j hj=>?_
 obtain rfl:j=0:=by simp at hj;exact hj
 show (if (0:Int) < 0\/(1:Int) <= 0 then (2:Int) else if metVar [⟨0,S.ops⟩] 0 0=true then 7 else kcode 1 S.ops false)=0
 rw [if_neg (by omega),if_neg (by simp [metVar]),kc_one kg kt k60 _ k]
theorem ring_mcode (h1:1 <= n) (h2:n <= 9):mcode (ringM n b)=0:=by
 have r0:rcode 1 (upR n)=0:=rc_set (upT_good h2) rfl (by simp [upT,Tm.size]) rfl adT_good rfl (by simp [adT,Tm.size]) rfl
 have r1:rcode 1 (bkR n)=0:=rc_set (bkT_good h2) rfl (by simp [bkT,Tm.size]) rfl zeT_good rfl (by simp [zeT,Tm.size]) rfl
 have r2:rcode 1 idR=0:=by
  unfold rcode idR;rw [if_neg (by simp),if_pos (kc_one yeT_good rfl (by simp [yeT,Tm.size]) true rfl)]
  rfl
 unfold mcode;rw [show (ringM n b).vars=[xV n] from rfl,if_pos (xV_ok h1 h2)]
 have hl:(ringM n b).rules.length <= 3:=by cases b <;> simp [ringM,ringR]
 rw [if_neg (by omega)]
 refine firstOf_none fun j hj=>?_
 have hj3:j=0\/j=1\/j=2:=by omega
 rcases hj3 with rfl | rfl | rfl
 ·exact r0
 ·exact r1
 ·cases b with
  | false=>simp [ringM,ringR] at hj
  | true=>exact r2
theorem ring_pcode (h1:1 <= n) (h2:n <= 9) (h3:v <= 9):pcode (ringM n b) (eqP v)=0:=by
 unfold pcode;rw [if_pos (ring_mcode h1 h2),if_neg (by simp [eqP])]
 refine firstOf_none fun j hj=>?_
 obtain rfl:j=0:=by simp [eqP] at hj;exact hj
 exact kc_one (eqT_good h3) rfl (by simp [eqT,Tm.size]) _ rfl
theorem ring_code (h1:1 <= n) (h2:n <= 9) (h3:v <= 9) {l:List (Int × Int)} (hl:lcode 1 l=0):tkcode (ringM n b) (eqP v) l=0:=by
 unfold tkcode;rw [if_neg (by rw [ring_pcode h1 h2 h3];simp)]
 exact hl
theorem ring_beg:begC (ringM n b)=0:=by
 show 0*vspan (xV n)+((0:Int) - 0)=0
 rw [Int.zero_mul];rfl
theorem ring_prod:prodTo (ringM n b).vars (ringM n b).vars.length=(n:Int):=by
 show 1*((n:Int) - 1 - 0+1)=_
 omega
theorem ring_vals {c:Int} (hc:0 <= c/\c < n):valsL [xV n] c=[c]:=by
 show [(0:Int)+(c / 1) % ((n:Int) - 1 - 0+1)]=[c]
 rw [Int.ediv_one,show (n:Int) - 1 - 0+1=n by omega,Int.emod_eq_of_lt hc.1 hc.2,Int.zero_add]
theorem do_set {T S:Tm} {c y:Int} (hc:0 <= c/\c < n) (h2:n <= 9) (hg:T.Good 1) (ht:T.typed=true) (h60:T.size <= 60) (p:Prop) [Decidable p] (he:T.eval [c]=some (if p then 1 else 0)) (kg:S.Good 1) (kt:S.typed=true) (k60:S.size <= 60) (ke:S.eval [c]=some y) (hy:p->0 <= y/\y < n):ruleDo [xV n] [c] ⟨T.ops,[⟨0,S.ops⟩]⟩=if p then some y else none:=by
 have hx:-1000000 <= c/\c <= 1000000:=by omega
 have hh:=holds_one1 hx hg ht h60 p he;obtain ⟨s1,s2⟩:=ex_one hx kg kt k60 ke
 have hbe:behindL [c] ⟨T.ops,[⟨0,S.ops⟩]⟩=[y]:=by
  show ([c]:List Int).set 0 (exN S.ops [c])=[y]
  rw [s2];rfl
 by_cases hp:p
 ·rw [if_pos hp]
  unfold ruleDo;rw [if_pos,hbe]
  ·show some (0*_+(y - 0))=some y
   rw [Int.zero_mul,Int.zero_add,Int.sub_zero]
  ·refine ⟨by show holdsB T.ops [c]=true;rw [hh];exact decide_eq_true hp,fun j hj=>?_,fun i hi=>?_⟩
   ·obtain rfl:j=0:=by simp at hj;exact hj
    exact s1
   ·obtain rfl:i=0:=by simp at hi;exact hi
    rw [hbe];have:=hy hp;exact ⟨this.1,by show y <= (n:Int) - 1;omega⟩
 ·rw [if_neg hp]
  exact ruleDo_guard (by show holdsB T.ops [c]=false;rw [hh];exact decide_eq_false hp)
theorem do_up {c:Int} (hc:0 <= c/\c < n) (h2:n <= 9):ruleDo [xV n] [c] (upR n)=if c < (n:Int) - 1 then some (c+1) else none:=
 do_set hc h2 (upT_good h2) rfl (by simp [upT,Tm.size]) _ (upT_eval c) adT_good rfl (by simp [adT,Tm.size]) (adT_eval ⟨hc.1,by omega⟩) (fun h=>⟨by omega,by omega⟩)
theorem do_bk {c:Int} (hc:0 <= c/\c < n) (h2:n <= 9):ruleDo [xV n] [c] (bkR n)=if c=(n:Int) - 1 then some 0 else none:=
 do_set hc h2 (bkT_good h2) rfl (by simp [bkT,Tm.size]) _ (bkT_eval c) zeT_good rfl (by simp [zeT,Tm.size]) rfl (fun h=>⟨by omega,by omega⟩)
theorem do_id {c:Int} (hc:0 <= c/\c < n) (h2:n <= 9):ruleDo [xV n] [c] idR=some c:=by
 have hx:-1000000 <= c/\c <= 1000000:=by omega
 have hh:=holds_one1 hx yeT_good rfl (by simp [yeT,Tm.size]) True (yeT_eval c)
 unfold ruleDo;rw [if_pos]
 ·show some (0*_+(c - 0))=some c
  rw [Int.zero_mul,Int.zero_add,Int.sub_zero]
 ·refine ⟨by show holdsB yeT.ops [c]=true;rw [hh];rfl,fun j hj=>by simp [idR] at hj,fun i hi=>?_⟩
  obtain rfl:i=0:=by simp at hi;exact hi
  exact ⟨hc.1,by show c <= (n:Int) - 1;omega⟩
def upN (n:Nat) (c:Int):Int:=if c < (n:Int) - 1 then c+1 else 0
theorem ring_next {c:Int} (hc:0 <= c/\c < n) (h2:n <= 9) (y:Int):y∈nextL (ringM n b) c↔y=upN n c\/(b=true/\y=c):=by
 have hraw:∀ y,y∈rawTo [xV n] [c] (ringR n b) (ringR n b).length↔y=upN n c\/(b=true/\y=c):=fun y=>by
  rw [rawTo_mem (Nat.le_refl _)];have d0:=do_up hc h2;have d1:=do_bk hc h2;have d2:=do_id hc h2
  constructor
  ·rintro ⟨j,hj,e⟩
   have hl:(ringR n b).length <= 3:=by cases b <;> simp [ringR]
   have hj3:j=0\/j=1\/j=2:=by omega
   rcases hj3 with rfl | rfl | rfl
   ·have e2:ruleDo [xV n] [c] (upR n)=some y:=e
    rw [d0] at e2;unfold upN
    split at e2
    ·rename_i h;rw [if_pos h];exact .inl (Option.some.inj e2).symm
    ·cases e2
   ·have e2:ruleDo [xV n] [c] (bkR n)=some y:=e
    rw [d1] at e2;unfold upN
    split at e2
    ·rename_i h;rw [if_neg (by omega)];exact .inl (Option.some.inj e2).symm
    ·cases e2
   ·cases b with
    | false=>simp [ringR] at hj
    | true=>
     have e2:ruleDo [xV n] [c] idR=some y:=e;rw [d2] at e2;exact .inr ⟨rfl,(Option.some.inj e2).symm⟩
  ·rintro (rfl | ⟨rfl,rfl⟩)
   ·unfold upN
    by_cases h:c < (n:Int) - 1
    ·rw [if_pos h]
     refine ⟨0,by simp [ringR],?_⟩
     show ruleDo [xV n] [c] (upR n)=_
     rw [d0,if_pos h]
    ·rw [if_neg h]
     refine ⟨1,by simp [ringR],?_⟩
     show ruleDo [xV n] [c] (bkR n)=_
     rw [d1,if_pos (by omega)]
   ·exact ⟨2,by simp [ringR],d2⟩
 unfold nextL;rw [(upL_spec _).2];unfold rawL;rw [show (ringM n b).vars=[xV n] from rfl,show (ringM n b).rules=ringR n b from rfl,ring_vals hc]
 rw [if_neg,hraw];intro e;have:=(hraw (upN n c)).2 (.inl rfl);rw [e] at this;exact absurd this List.not_mem_nil
theorem ring_let {c:Int} (hc:0 <= c/\c < n) (h2:n <= 9) (h3:v <= 9):letL (ringM n b) (eqP v) c=[decide (c=(v:Int))]:=by
 have h1:1 <= n:=by omega
 have hx:-1000000 <= c/\c <= 1000000:=by omega
 have hC:letC (ringM n b) (eqP v) c=0:=by
  unfold letC;rw [if_pos (ring_pcode h1 h2 h3)];exact wcode_yes (ring_mcode h1 h2) (by rw [ring_prod];exact hc)
 unfold letL;rw [if_pos hC,show (ringM n b).vars=[xV n] from rfl,ring_vals hc]
 show [holdsB (eqT v).ops [c]]=_
 rw [holds_one1 hx (eqT_good h3) rfl (by simp [eqT,Tm.size]) _ (eqT_eval c)]
theorem upN_in {c:Int} (hc:0 <= c/\c < n):0 <= upN n c/\upN n c < n:=by
 unfold upN
 split <;> omega
theorem ring_in (h2:n <= 9) (h1:1 <= n) {path:List Int} {s:Nat} (h:PRun (ringM n b) path s):∀ t,0 <= stAt path s t/\stAt path s t < n
 | 0=>by rw [stAt_zero h,ring_beg];omega
 | t+1=>by
  have h0:=ring_in h2 h1 h t;have:=stAt_step h t;rw [ring_next h0 h2] at this
  rcases this with e | ⟨_,e⟩
  ·rw [e];exact upN_in h0
  ·rw [e];exact h0
theorem ring_p (h2:n <= 9) (h1:1 <= n) (h3:v <= 9) {path:List Int} {s:Nat} (h:PRun (ringM n b) path s) (u:Int) (hu:u=0) (t:Nat):hb (sig (path.map (letL (ringM n b) (eqP v))) s) (leaf 13 u) t=decide (stAt path s t=(v:Int)):=by
 subst hu;rw [hb_prop,sig_st h,ring_let (ring_in h2 h1 h t) h2 h3];rfl
end
section
variable {m : Mo} {ss ll : List Int}
theorem moAt_end (s n:Nat):moAt s n n=s:=by
 unfold moAt;rw [if_neg (by omega),Nat.mod_self,Nat.add_zero]
end
def evT:Tm:=.un 17 0 (.leaf 13 0)
def neT:Tm:=.un 18 0 (.un 10 0 (.leaf 13 0))
def orT:Tm:=.bi 9 0 (.un 17 0 (.leaf 13 0)) (.un 17 0 (.un 18 0 (.un 10 0 (.leaf 13 0))))
structure F1 (T:Tm):Prop where
 wf:T.Wf
 code:lcode 1 T.ops=0
 ends : endsCode (T.ops.map Prod.fst) = 0
 vals:∀ q,q < T.ops.length->(T.ops.getD q (0,0)).1=13->0 <= (T.ops.getD q (0,0)).2
 kind:∀ q,q < T.ops.length->8 <= (T.ops.getD q (0,0)).1
 few:(aheadL T.ops).length <= 6
theorem f1_ev:F1 evT:=⟨by simp [evT,Wf,pn] <;> decide,by decide,by decide,by decide,by decide,by decide⟩
theorem f1_ne:F1 neT:=⟨by simp [neT,Wf,pn] <;> decide,by decide,by decide,by decide,by decide,by decide⟩
theorem f1_or:F1 orT:=⟨by simp [orT,Wf,pn] <;> decide,by decide,by decide,by decide,by decide,by decide⟩
section
variable {n v : Nat} {b : Bool}
theorem cho_stay (h1:1 <= n) (h2:n <= 9):PRun (ringM n true) [0] 0:=⟨by simp,ring_beg.symm,fun i hi=>by
 obtain rfl:i=0:=by simp at hi;exact hi
 have e:moAt 0 ([0]:List Int).length (0+1)=0:=by
  have:=moAt_lt (s:=0) (n:=1) (i:=1) (by decide)
  show moAt 0 1 1=0
  omega
 rw [e]
 exact (ring_next (b:=true) (c:=0) (by omega) h2 0).2 (.inr ⟨rfl,rfl⟩)⟩
theorem cho_to (hv:v < n) (h2:n <= 9):PRun (ringM n true) ((List.range (v+1)).map Nat.cast) v:=by
 have hg:∀ i,i < v+1->((List.range (v+1)).map (Nat.cast:Nat->Int)).getD i 0=(i:Int):=fun i hi=>by simp [List.getD_eq_getElem?_getD,hi]
 have hl:((List.range (v+1)).map (Nat.cast:Nat->Int)).length=v+1:=by simp
 refine ⟨by rw [hl];omega,by rw [hg 0 (by omega),ring_beg];rfl,fun i hi=>?_⟩
 rw [hl] at hi ⊢;rw [hg i hi]
 by_cases e:i < v
 ·rw [moAt_low (by omega),hg _ (by omega)]
  refine (ring_next (b:=true) (c:=(i:Int)) (by omega) h2 _).2 (.inl ?_)
  unfold upN;rw [if_pos (by omega)]
  omega
 ·obtain rfl:i=v:=by omega
  rw [moAt_end,hg i (by omega)]
  exact (ring_next (b:=true) (c:=(i:Int)) (by omega) h2 _).2 (.inr ⟨rfl,rfl⟩)
theorem cho_ever (h2:n <= 9) (hv1:1 <= v) (hv:v < n):¬ AllKeep (ringM n true) (eqP v) evT:=fun ha=>by
 have h:=cho_stay (show 1 <= n by omega) h2
 have h5:=ha _ _ h;unfold evT at h5;rw [hb_fin_iff] at h5;obtain ⟨j,_,h6⟩:=h5;rw [ring_p h2 (by omega) (by omega) h 0 rfl] at h6
 have e:stAt [0] 0 j=0:=by
  unfold stAt;have:=moAt_lt (s:=0) (n:=1) (i:=j) (by decide)
  rw [show moAt 0 ([0]:List Int).length j=0 by show moAt 0 1 j=0;omega]
  rfl
 rw [e,decide_eq_true_eq] at h6;omega
theorem cho_never (h2:n <= 9) (hv:v < n):¬ AllKeep (ringM n true) (eqP v) neT:=fun ha=>by
 have h:=cho_to hv h2;have h5:=ha _ _ h;unfold neT at h5;rw [hb_glob_iff] at h5;have h6:=h5 v (Nat.zero_le _);rw [hb_not_iff,ring_p h2 (by omega) (by omega) h 0 rfl] at h6
 refine h6 (decide_eq_true ?_)
 unfold stAt;rw [show ((List.range (v+1)).map (Nat.cast:Nat->Int)).length=v+1 by simp,moAt_low (by omega)]
 simp [List.getD_eq_getElem?_getD]
theorem cho_or {m:Mo} {ps:List (List (Int × Int))}:AllKeep m ps orT:=fun path s h=>by
 unfold orT;rw [hb_or,Bool.or_eq_true]
 by_cases e:hb (sig (path.map (letL m ps)) s) (un 17 0 (leaf 13 0)) 0=true
 ·exact .inl e
 ·refine .inr ?_
  rw [hb_fin_iff];refine ⟨0,Nat.le_refl _,?_⟩
  rw [hb_glob_iff];intro j hj;rw [hb_not_iff];intro hp;exact e (hb_fin_iff.2 ⟨j,hj,hp⟩)
end
theorem blA {w W:World} (h:Below w.heap.size w W) (o:Obj):Below w.heap.size w (W.alloc o):=h.alloc h.size o
theorem blT {w W W2:World} (h:Below w.heap.size w W) (h2:Below W.heap.size W W2):Below w.heap.size w W2:=h.trans (h2.mono h.size)
theorem blN (w:World) (o:Obj):(w.alloc o).heap[w.heap.size]? = some o:=(MapKept.heap_alloc w o).1
theorem numFn (x:Int) (w:World):Calls Tryz.prog 20 #[.int .i64 x] w fun e w'=>∃ g,e=.returned (.slice (some ⟨g,0,none⟩) 1 1)/\Below w.heap.size w w'/\OpsV w' (.slice (some ⟨g,0,none⟩) 1 1) [(1,x)]:=by
 go_enter Tryz.func20,Tryz.ntmps20
 go_wp2_with fail
 go_ret
 exact ⟨_,rfl,(Below.refl _ _).alloc (Nat.le_refl _) _,ops_one w 1 x⟩
theorem J2 (k:Int) (w:World) (t:TypeId) (lv mv:Value) (l m:List (Int × Int)) (n:Nat) (hn:(l++m).length+1=n) (hl:l.length <= 60) (hm:m.length <= 60) (hne:l≠[]) (hne2:m≠[]) (hV:OpsV w lv l) (hM:OpsV w mv m):Calls Tryz.prog 11 #[.int .i64 k,.slice (some ⟨w.heap.size,0,none⟩) 2 2] (w.alloc (.cells #[lv,mv] t)) fun e w'=>∃ a c,e=.returned (.slice a n c)/\Below w.heap.size w w'/\OpsV w' (.slice a n c) ((k,0):: (l++m)):=by
 have hb:Below w.heap.size w (w.alloc (.cells #[lv,mv] t)):=blA (Below.refl _ _) _;subst hn;exact (Joined2 k w.heap.size lv mv l m _ (by simp [go_sem]) (by simp [go_sem]) hl hm hne hne2 (hV.below hb) (hM.below hb)).mono fun e w' ⟨a,c,h1,h2,h3⟩=>⟨a,c,h1,blT hb h2,h3⟩
theorem J1 (k:Int) (w:World) (t:TypeId) (lv:Value) (l:List (Int × Int)) (n:Nat) (hn:l.length+1=n) (hl:l.length <= 60) (hne:l≠[]) (hV:OpsV w lv l):Calls Tryz.prog 11 #[.int .i64 k,.slice (some ⟨w.heap.size,0,none⟩) 1 1] (w.alloc (.cells #[lv] t)) fun e w'=>∃ a c,e=.returned (.slice a n c)/\Below w.heap.size w w'/\OpsV w' (.slice a n c) ((k,0):: l):=by
 have hb:Below w.heap.size w (w.alloc (.cells #[lv] t)):=blA (Below.refl _ _) _;subst hn;exact (Joined1 k w.heap.size lv l _ (by simp [go_sem]) hl hne (hV.below hb)).mono fun e w' ⟨a,c,h1,h2,h3⟩=>⟨a,c,h1,blT hb h2,h3⟩
structure RgOk (w:World) (p q:Nat) (g1 s1 g2 s2:Value) (n:Nat):Prop where
 va:VarsV w (.slice (some ⟨p,0,none⟩) 1 1) [xV n]
 bl:w.heap[q]? = some (.cells #[g1,s1,g2,s2] 57 (0,0))
 ru:RuPairs w [(g1,s1),(g2,s2)] (ringR n false)
theorem RgOk.below {w w':World} {p q:Nat} {g1 s1 g2 s2:Value} {n:Nat} (h:RgOk w p q g1 s1 g2 s2 n) (hb:Below w.heap.size w w'):RgOk w' p q g1 s1 g2 s2 n:=
 ⟨h.va.below hb,(hb.block q (Array.getElem?_eq_some_iff.1 h.bl).1).trans h.bl,h.ru.below hb⟩
theorem RgOk.set2 {w:World} {p q R:Nat} {g1 s1 g2 s2:Value} {n:Nat} {t:TypeId} (h:RgOk w p q g1 s1 g2 s2 n) (hR:w.heap[R]? = some (.cells #[.slice none 0 0,.slice none 0 0] t (0,0))) (hq:q≠R) (u v:Value):RgOk ((w.setCell ⟨R,0,none⟩ u).setCell ⟨R,1,none⟩ v) p q g1 s1 g2 s2 n:=by
 have hn:NilTo R w ((w.setCell ⟨R,0,none⟩ u).setCell ⟨R,1,none⟩ v):=by
  refine ⟨by simp,fun i x hx=>?_,fun b hb=>?_⟩
  ·simp only [World.cell?,hR] at hx
   rcases i with _ | _ | i
   ·simpa using hx.symm
   ·simpa using hx.symm
   ·simp at hx
  ·rw [RowKit.Below.heap_setCell _ _ _ _ hb,RowKit.Below.heap_setCell _ _ _ _ hb]
 refine ⟨h.va.nilTo hn,(hn.block q hq).trans h.bl,h.ru.len,fun i hi=>(h.ru.g i hi).nilTo hn,fun i hi=>(h.ru.s i hi).nilTo hn⟩
theorem vars_lit {w:World} {p n:Nat} (h:w.heap[p]? = some (.cells #[.string ⟨#[120]⟩,.int .i64 0,.int .i64 ((n:Int) - 1),.int .i64 0] 45 (0,0))):VarsV w (.slice (some ⟨p,0,none⟩) 1 1) [xV n]:=by
 refine ⟨_,1,rfl,⟨by simp,fun e=>by cases e⟩,fun _=>⟨p,0,rfl,(Array.getElem?_eq_some_iff.1 h).1,fun i hi=>?_⟩⟩
 obtain rfl:i=0:=by simp at hi;exact hi
 refine ⟨?_,?_,?_,?_⟩ <;> simp [World.cell?,h,xV]
theorem mod_cells {w:World} {R:Nat} {x y:Value} {t:TypeId} (h:w.heap[R]? = some (.cells #[x,y] t (0,0))):w.cell? ⟨R,0,none⟩=some x/\w.cell? ⟨R,1,none⟩=some y/\w.frozen? ⟨R,0,none⟩=false/\w.frozen? ⟨R,1,none⟩=false:=by
 refine ⟨?_,?_,?_,?_⟩ <;> simp [World.cell?,World.frozen?,h]
theorem ringFn_any (n:Nat) (w:World) (h1:2 <= n) (h2:n <= 9):Calls Tryz.prog 10 #[.int .i64 (n:Int)] w fun e w'=>∃ p q g1 s1 g2 s2,e=.returned (.agg #[.slice (some ⟨p,0,none⟩) 1 1,.slice (some ⟨q,0,none⟩) 2 2])/\Below w.heap.size w w'/\Hid (RgOk w' p q g1 s1 g2 s2 n/\w.heap.size <= q):=by
 have hw1:IntKind.i64.wrap ((n:Int) - 1)=(n:Int) - 1:=wr64 (by omega) (by omega)
 have hn2:(2:Int) <= (n:Int):=by omega
 have hn9:(n:Int) <= 9:=by omega
 go_enter Tryz.func10,Tryz.ntmps10
 go_upto_region 3 with fail
 have hbX:Below w.heap.size w ((w.alloc (.cells #[.slice none 0 0,.slice none 0 0] 30)).alloc (.cells #[.int .i64 2,.int .i64 0] 50)):=blA (blA (Below.refl _ _) _) _
 have hvx:OpsV ((w.alloc (.cells #[.slice none 0 0,.slice none 0 0] 30)).alloc (.cells #[.int .i64 2,.int .i64 0] 50)) (.slice (some ⟨w.heap.size+1,0,none⟩) 1 1) [(2,0)]:=by
  have:=ops_one (w.alloc (.cells #[.slice none 0 0,.slice none 0 0] 30)) 2 0
  rwa [World.size_alloc] at this
 have hrb:((w.alloc (.cells #[.slice none 0 0,.slice none 0 0] 30)).alloc (.cells #[.int .i64 2,.int .i64 0] 50)).heap[w.heap.size]? = some (.cells #[.slice none 0 0,.slice none 0 0] 30 (0,0)):=((blA (Below.refl _ _) _).block _ (by simp)).trans (blN w _)
 generalize (w.alloc (.cells #[.slice none 0 0,.slice none 0 0] 30)).alloc (.cells #[.int .i64 2,.int .i64 0] 50)=W2 at *;have hRl:w.heap.size < W2.heap.size:=(Array.getElem?_eq_some_iff.1 hrb).1
 have HBX:Hid (Below w.heap.size w W2):=hbX;have HVX:Hid (OpsV W2 (.slice (some ⟨w.heap.size+1,0,none⟩) 1 1) [(2,0)]):=hvx;have HRB:Hid (∀ W,Below W2.heap.size W2 W->W.heap[w.heap.size]? = some (.cells #[.slice none 0 0,.slice none 0 0] 30 (0,0))):=fun W h=>(h.block _ hRl).trans hrb
 clear hbX hvx hrb;generalize w.heap.size+1=B at *;have tk1:=True.intro;have tk2:=True.intro;have tk3:=True.intro;have tk4:=True.intro;have tk5:=True.intro;have tk6:=True.intro
 go_wp2_with (first
  | (clear tk1;refine (numFn _ _).mono ?_;rintro e wa ⟨ga,rfl,hba,hVa⟩;have Ha:Hid (Below W2.heap.size W2 wa):=blT (blA (Below.refl _ _) _) hba;have HPa:Hid (wa.heap[W2.heap.size]? = some (.cells #[.string ⟨#[120]⟩,.int .i64 0,.int .i64 ((n:Int) - 1),.int .i64 0] 45 (0,0))):=(hba.block _ (by simp)).trans (blN _ _);have Va:Hid (OpsV wa (.slice (some ⟨ga,0,none⟩) 1 1) [(1,(n:Int) - 1)]):=hVa;clear hba hVa)
  | (clear tk2;go_at_call 11;refine (J2 7 wa _ _ _ [(2,0)] [(1,(n:Int) - 1)] 3 rfl (by simp) (by simp) (by simp) (by simp) (HVX.out.below Ha.out) Va.out).mono ?_;rintro e wb ⟨a1,c1,rfl,hbb,hVb⟩;have Hab:Hid (Below wa.heap.size wa wb):=hbb;have Hb:Hid (Below W2.heap.size W2 wb):=blT Ha.out hbb;have Vb:Hid (OpsV wb (.slice a1 3 c1) (upT n).ops):=hVb;clear hbb hVb)
  | (clear tk3;refine (numFn _ _).mono ?_;rintro e w3 ⟨gc,rfl,hbc,hVc⟩;have Hbc:Hid (Below wb.heap.size wb w3):=hbc;have Hc:Hid (Below W2.heap.size W2 w3):=blT Hb.out hbc;have Vc:Hid (OpsV w3 (.slice (some ⟨gc,0,none⟩) 1 1) [(1,1)]):=hVc;clear hbc hVc)
  | (clear tk4;go_at_call 11;refine (J2 3 w3 _ _ _ [(2,0)] [(1,1)] 3 rfl (by simp) (by simp) (by simp) (by simp) (HVX.out.below Hc.out) Vc.out).mono ?_;rintro e wd ⟨a2,c2,rfl,hbd,hVd⟩;have Hcd:Hid (Below w3.heap.size w3 wd):=hbd;have Hd:Hid (Below W2.heap.size W2 wd):=blT Hc.out hbd;have Vd:Hid (OpsV wd (.slice a2 3 c2) adT.ops):=hVd;clear hbd hVd)
  | (clear tk5;refine (numFn _ _).mono ?_;rintro e w5 ⟨ge,rfl,hbe,hVe⟩;have Hde:Hid (Below wd.heap.size wd w5):=blT (blA (Below.refl _ _) _) hbe;have He:Hid (Below W2.heap.size W2 w5):=blT Hd.out Hde.out;have HSe:Hid (w5.heap[wd.heap.size]? = some (.cells #[.int .i64 0,.slice a2 3 c2] 73 (0,0))):=(hbe.block _ (by simp)).trans (blN _ _);have Ve:Hid (OpsV w5 (.slice (some ⟨ge,0,none⟩) 1 1) [(1,(n:Int) - 1)]):=hVe;clear hbe hVe)
  | (clear tk6;go_at_call 11;refine (J2 6 w5 _ _ _ [(2,0)] [(1,(n:Int) - 1)] 3 rfl (by simp) (by simp) (by simp) (by simp) (HVX.out.below He.out) Ve.out).mono ?_;rintro e wf ⟨a3,c3,rfl,hbf,hVf⟩;have Hef:Hid (Below w5.heap.size w5 wf):=hbf;have Hf:Hid (Below W2.heap.size W2 wf):=blT He.out hbf;have Vf:Hid (OpsV wf (.slice a3 3 c3) (bkT n).ops):=hVf;clear hbf hVf)
  | (refine (numFn _ _).mono ?_;rintro e wg ⟨gg,rfl,hbg,hVg⟩;have Hfg:Hid (Below wf.heap.size wf wg):=hbg;have Hg:Hid (Below W2.heap.size W2 wg):=blT Hf.out hbg;obtain ⟨k0,k1,kf0,kf1⟩:=mod_cells (HRB.out _ (blA (blA Hg.out (.cells #[.int .i64 0,.slice (some ⟨gg,0,none⟩) 1 1] 73)) (.cells #[.slice a1 3 c1,.slice (some ⟨wd.heap.size,0,none⟩) 1 1,.slice a3 3 c3,.slice (some ⟨wg.heap.size,0,none⟩) 1 1] 57)));have Vg:Hid (OpsV wg (.slice (some ⟨gg,0,none⟩) 1 1) zeT.ops):=hVg;clear hbg hVg))
 have HWr:Hid (∀ W,Below wg.heap.size wg W->RgOk W W2.heap.size (wg.heap.size+1) (.slice a1 3 c1) (.slice (some ⟨wd.heap.size,0,none⟩) 1 1) (.slice a3 3 c3) (.slice (some ⟨wg.heap.size,0,none⟩) 1 1) n->True):=fun _ _ _=>trivial
 clear HWr;have hbS:Below wg.heap.size wg (wg.alloc (.cells #[.int .i64 0,.slice (some ⟨gg,0,none⟩) 1 1] 73)):=blA (Below.refl _ _) _;have hbR:=blA hbS (.cells #[.slice a1 3 c1,.slice (some ⟨wd.heap.size,0,none⟩) 1 1,.slice a3 3 c3,.slice (some ⟨wg.heap.size,0,none⟩) 1 1] 57)
 have hs2:((wg.alloc (.cells #[.int .i64 0,.slice (some ⟨gg,0,none⟩) 1 1] 73)).alloc (.cells #[.slice a1 3 c1,.slice (some ⟨wd.heap.size,0,none⟩) 1 1,.slice a3 3 c3,.slice (some ⟨wg.heap.size,0,none⟩) 1 1] 57)).heap[wg.heap.size]? = some (.cells #[.int .i64 0,.slice (some ⟨gg,0,none⟩) 1 1] 73 (0,0)):=((blA (Below.refl _ _) _).block _ (by simp)).trans (blN wg _)
 have hrl:((wg.alloc (.cells #[.int .i64 0,.slice (some ⟨gg,0,none⟩) 1 1] 73)).alloc (.cells #[.slice a1 3 c1,.slice (some ⟨wd.heap.size,0,none⟩) 1 1,.slice a3 3 c3,.slice (some ⟨wg.heap.size,0,none⟩) 1 1] 57)).heap[wg.heap.size+1]? = some (.cells #[.slice a1 3 c1,.slice (some ⟨wd.heap.size,0,none⟩) 1 1,.slice a3 3 c3,.slice (some ⟨wg.heap.size,0,none⟩) 1 1] 57 (0,0)):=by
  have:=blN (wg.alloc (.cells #[.int .i64 0,.slice (some ⟨gg,0,none⟩) 1 1] 73)) (.cells #[.slice a1 3 c1,.slice (some ⟨wd.heap.size,0,none⟩) 1 1,.slice a3 3 c3,.slice (some ⟨wg.heap.size,0,none⟩) 1 1] 57)
  rwa [World.size_alloc] at this
 have hgs:W2.heap.size <= wg.heap.size:=Hg.out.size;generalize (wg.alloc (.cells #[.int .i64 0,.slice (some ⟨gg,0,none⟩) 1 1] 73)).alloc (.cells #[.slice a1 3 c1,.slice (some ⟨wd.heap.size,0,none⟩) 1 1,.slice a3 3 c3,.slice (some ⟨wg.heap.size,0,none⟩) 1 1] 57)=wh at *
 have HOk:Hid (RgOk wh W2.heap.size (wg.heap.size+1) (.slice a1 3 c1) (.slice (some ⟨wd.heap.size,0,none⟩) 1 1) (.slice a3 3 c3) (.slice (some ⟨wg.heap.size,0,none⟩) 1 1) n):=by
  have hfh:=blT Hfg.out hbR;have heh:=blT Hef.out hfh;have hdh:=blT Hde.out heh;have hch:=blT Hcd.out hdh;have hbh:=blT Hbc.out hch;have hah:=blT Hab.out hbh;refine ⟨vars_lit ((hah.block _ (Array.getElem?_eq_some_iff.1 HPa.out).1).trans HPa.out),hrl,?_⟩
  exact RuPairs.cons (Vb.out.below hbh) (sets_one ((heh.block _ (Array.getElem?_eq_some_iff.1 HSe.out).1).trans HSe.out) (Vd.out.below hdh)) (RuPairs.cons (Vf.out.below hfh) (sets_one hs2 (Vg.out.below hbR)) (RuPairs.nil _))
 have hbF:Below w.heap.size w wh:=blT HBX.out (blT Hg.out hbR);have hR9:=HRB.out _ (blT Hg.out hbR);have hne:w.heap.size < W2.heap.size:=hRl;clear hs2 hrl hbS hbR Ha HPa Va Hab Hb Vb Hbc Hc Vc Hcd Hd Vd Hde He HSe Ve Hef Hf Vf Hfg Hg Vg HRB HVX
 have hg7:∀ (u v:Value),RgOk ((wh.setCell ⟨w.heap.size,0,none⟩ u).setCell ⟨w.heap.size,1,none⟩ v) W2.heap.size (wg.heap.size+1) (.slice a1 3 c1) (.slice (some ⟨wd.heap.size,0,none⟩) 1 1) (.slice a3 3 c3) (.slice (some ⟨wg.heap.size,0,none⟩) 1 1) n:=fun u v=>HOk.out.set2 hR9 (by omega) u v
 refine bodyPost_ret (v:=.agg #[.slice (some ⟨W2.heap.size,0,none⟩) 1 1,.slice (some ⟨wg.heap.size+1,0,none⟩) 2 2]) ?_ rfl ⟨_,_,_,_,_,_,rfl,(hbF.setCell (p:=⟨w.heap.size,0,none⟩) (Nat.le_refl _) _).setCell (p:=⟨w.heap.size,1,none⟩) (Nat.le_refl _) _,hg7 _ _,by have:=HBX.out.size;omega⟩
 simp [results,Tryz.results10,go_sem,k0,k1]
theorem Picked_is (n many:Int) (w:World) (hn:I64 n) (hm:0 < many) (hm2:many <= 10000) :
  Calls Tryz.prog 8 #[.int .i64 n,.int .i64 many] w fun e w'=>e=.returned (.int .i64 (pk n many))/\w'=w:=by
 have hp:=picked_is n many w hn hm hm2;generalize pk n many=r at *
 go_enter Tryz.func8,Tryz.ntmps8
 go_wp2_with (go_at_call 18;refine hp.mono ?_;rintro e w1 ⟨rfl,rfl⟩)
 go_ret
 exact ⟨rfl,rfl⟩
section
variable {o : Oper} {a : Act} {w : World} {Q : Exit -> Act -> World -> Prop} {m : Mo}
end
end Go.Proofs.YtfnobbpbmelgnaaGreatDoor
namespace Go.Proofs.YtfnobbpbmelgnaaGreatDoor
open Go.ChangeShapes Go.WideShapes Go.ChangeAt Go.RowKit Go.Deep Go.Maps
open Terms Tm
set_option maxHeartbeats 6400000
set_option maxRecDepth 20000
def BxS (w:World) (X:Nat):Prop:=∀ i u,w.cell? ⟨X,i,none⟩=some u->∃ a n c,u=.slice a n c
section
variable {w : World} {X j : Nat} {y : Value}
theorem ne_box (hx:BxS w X) {b o:Nat} {u:Value} (h:w.cell? ⟨b,o,none⟩=some u) (hu:∀ a n c,u≠.slice a n c):b≠X:=by
 rintro rfl
 obtain ⟨a,n,c,e⟩:=hx o u h;exact hu a n c e
theorem cell_box {b:Nat} (hb:b≠X) (o:Nat):(w.setCell ⟨X,j,none⟩ y).cell? ⟨b,o,none⟩=w.cell? ⟨b,o,none⟩:=
 World.cell?_setCell_other _ _ _ _ (fun e=>hb (congrArg Addr.block e).symm)
theorem OpsV.bx {v:Value} {l:List (Int × Int)} (hx:BxS w X) (h:OpsV w v l):OpsV (w.setCell ⟨X,j,none⟩ y) v l:=by
 obtain ⟨ao,cap,rfl,h0,h⟩:=h;refine ⟨ao,cap,rfl,h0,fun hne=>?_⟩
 obtain ⟨b,off,rfl,hlt,hat⟩:=h hne;refine ⟨b,off,rfl,by simpa using hlt,fun i hi=>?_⟩
 obtain ⟨h1,h2⟩:=hat i hi;have hb:=ne_box hx h1 (by simp)
 exact ⟨(cell_box hb _).trans h1,(cell_box hb _).trans h2⟩
theorem VarsV.bx {v:Value} {l:List Vr} (hx:BxS w X) (h:VarsV w v l):VarsV (w.setCell ⟨X,j,none⟩ y) v l:=
 SlV.imp h (by simp) fun b off i _ _ ⟨h1,h2,h3,h4⟩=>by
  have hb:=ne_box hx h1 (by simp)
  exact ⟨(cell_box hb _).trans h1,(cell_box hb _).trans h2,(cell_box hb _).trans h3,(cell_box hb _).trans h4⟩
theorem SetsV.bx {v:Value} {l:List St} (hx:BxS w X) (h:SetsV w v l):SetsV (w.setCell ⟨X,j,none⟩ y) v l:=
 SlV.imp h (by simp) fun b off i _ _ ⟨h1,u,h2,h3⟩=>by
  have hb:=ne_box hx h1 (by simp)
  exact ⟨(cell_box hb _).trans h1,u,(cell_box hb _).trans h2,h3.bx hx⟩
theorem RulesV.bx {q rn rc:Nat} {l:List Ru} (hx:BxS w X) (hq:q≠X) (h:RulesV w (.slice (some ⟨q,0,none⟩) rn rc) l):RulesV (w.setCell ⟨X,j,none⟩ y) (.slice (some ⟨q,0,none⟩) rn rc) l:=by
 obtain ⟨ao,cap,e,h0,h⟩:=h;refine ⟨ao,cap,e,h0,fun hn=>?_⟩
 obtain ⟨b,off,e2,hlt,hat⟩:=h hn
 injection e with e3
 rw [e2] at e3
 injection e3 with e3
 injection e3 with e4
 subst e4;refine ⟨q,off,e2,by simpa using hlt,fun i hi=>?_⟩
 obtain ⟨⟨u,h1,h2⟩,u',h3,h4⟩:=hat i hi;exact ⟨⟨u,(cell_box hq _).trans h1,h2.bx hx⟩,u',(cell_box hq _).trans h3,h4.bx hx⟩
theorem TermsV.bx {p n c:Nat} {ts:List (List (Int × Int))} (hx:BxS w X) (hp:p≠X) (h:TermsV w (.slice (some ⟨p,0,none⟩) n c) ts):TermsV (w.setCell ⟨X,j,none⟩ y) (.slice (some ⟨p,0,none⟩) n c) ts:=by
 obtain ⟨ao,cap,e,h⟩:=h;refine ⟨ao,cap,e,fun hne=>?_⟩
 obtain ⟨b,off,e2,hlt,hat⟩:=h hne
 injection e with e3
 rw [e2] at e3
 injection e3 with e3
 injection e3 with e4
 subst e4;refine ⟨p,off,e2,by simpa using hlt,fun i hi=>?_⟩
 obtain ⟨u,h1,h2⟩:=hat i hi;exact ⟨u,(cell_box hp _).trans h1,h2.bx hx⟩
end
structure RkAt (w:World) (X:Nat) (va:Value) (q rn rc p:Nat) (fv:Value) (n:Nat) (b:Bool) (v:Nat):Prop where
 box:w.heap[X]? = some (tkB va (.slice (some ⟨q,0,none⟩) rn rc) (.slice (some ⟨p,0,none⟩) 1 1) fv)
 sl:∃ fo fn fc,fv=.slice fo fn fc
 sv:∃ ao an ac,va=.slice ao an ac
 va:VarsV w va [xV n]
 ru:RulesV w (.slice (some ⟨q,0,none⟩) rn rc) (ringR n b)
 ps:TermsV w (.slice (some ⟨p,0,none⟩) 1 1) (eqP v)
 hq:q≠X
 hp:p≠X
section
variable {w w' : World} {X : Nat} {va : Value} {q rn rc p : Nat} {fv : Value} {n : Nat} {b : Bool} {v : Nat}
theorem RkAt.below (h:RkAt w X va q rn rc p fv n b v) (hb:Below w.heap.size w w'):RkAt w' X va q rn rc p fv n b v:=
 ⟨(hb.block X (Array.getElem?_eq_some_iff.1 h.box).1).trans h.box,h.sl,h.sv,h.va.below hb,h.ru.below hb,h.ps.below hb,h.hq,h.hp⟩
theorem RkAt.bxs (h:RkAt w X va q rn rc p fv n b v):BxS w X:=fun i u hu=>by
 obtain ⟨fo,fn,fc,rfl⟩:=h.sl;obtain ⟨ao,an,ac,rfl⟩:=h.sv;have hb:=h.box;unfold tkB at hb;simp only [World.cell?,hb] at hu
 rcases i with _ | _ | _ | _ | i
 ·exact ⟨_,_,_,by simpa using hu.symm⟩
 ·exact ⟨_,_,_,by simpa using hu.symm⟩
 ·exact ⟨_,_,_,by simpa using hu.symm⟩
 ·exact ⟨_,_,_,by simpa using hu.symm⟩
 ·simp at hu
theorem RkAt.setF (h:RkAt w X va q rn rc p fv n b v) {fo:Option Addr} {fn fc:Nat} {l:List (Int × Int)} (hO:OpsV w (.slice fo fn fc) l):RkAt (w.setCell ⟨X,3,none⟩ (.slice fo fn fc)) X va q rn rc p (.slice fo fn fc) n b v/\OpsV (w.setCell ⟨X,3,none⟩ (.slice fo fn fc)) (.slice fo fn fc) l:=
 ⟨⟨tkB_set h.box _,⟨_,_,_,rfl⟩,h.sv,h.va.bx h.bxs,h.ru.bx h.bxs h.hq,h.ps.bx h.bxs h.hp,h.hq,h.hp⟩,hO.bx h.bxs⟩
theorem RkAt.task (h:RkAt w X va q rn rc p fv n b v) {l:List (Int × Int)} (hO:OpsV w fv l):TaskV w va (.slice (some ⟨q,0,none⟩) rn rc) (.slice (some ⟨p,0,none⟩) 1 1) fv (ringM n b) (eqP v) l:=⟨⟨h.va,h.ru⟩,h.ps,hO⟩
end
theorem ring_check {n v:Nat} {b:Bool} (h1:1 <= n) (h2:n <= 9) (h3:v <= 9) (va vr pv fv:Value) {T:Tm} (hF:F1 T) (w:World) (hB:0 < w.heap.size) (hT:TabAt w) (hV:TaskV w va vr pv fv (ringM n b) (eqP v) T.ops) :
  Calls Tryz.prog 7 #[.agg #[va,vr,pv,fv]] w fun e w'=>∃ bb so sn sc lo ln lc,e=.returned (.tuple #[.agg #[.bool bb,.slice so sn sc,.slice lo ln lc],.int .i64 0])/\Below w.heap.size w w'/\Hid (bb=true↔AllKeep (ringM n b) (eqP v) T):=by
 have hk0:tkcode (ringM n b) (eqP v) T.ops=0:=ring_code h1 h2 h3 hF.code;refine (vcheck_any va vr pv fv (ringM n b) (eqP v) T.ops w hB hT hV).mono fun e w' hx=>?_
 rcases hx with ⟨hk,⟨K,hD,hfc⟩,h1,h2⟩ | ⟨hk,K,st,lp,A,B,hD,hL,_,_,h1,h2,_⟩ | ⟨hk,hf,_,_⟩ | ⟨hk,_,_⟩
 ·exact ⟨true,_,_,_,_,_,_,h1,h2,⟨fun _=>keep_of_none hF.wf rfl hF.ends hF.vals hF.kind hk hD (by rw [hfc];decide),fun _=>rfl⟩⟩
 ·exact ⟨false,_,_,_,_,_,_,h1,h2,⟨fun h=>(by cases h),fun h=>absurd h (not_keep hF.wf rfl hF.ends hF.vals hF.kind hk hD hL)⟩⟩
 ·refine absurd hf (xp_few (P:=n) hk0 ring_prod ?_)
  have h4:2 ^ (aheadL T.ops).length <= 2 ^ 6:=Nat.pow_le_pow_right (by decide) hF.few
  have h5:n*2 ^ (aheadL T.ops).length <= 9*64:=Nat.mul_le_mul h2 (by omega)
  omega
 ·exact absurd hk0 hk
theorem rg_owns {w:World} {p q n:Nat} {g1 s1 g2 s2:Value} (h:RgOk w p q g1 s1 g2 s2 n) (b:Nat) (hb:b <= q):w.ownsRow b 57 2 (.slice (some ⟨q,0,none⟩) 2 2) 2 (ruFlat [(g1,s1),(g2,s2)]):=
 ⟨rfl,.inr ⟨q,2,_,rfl,hb,h.bl,by decide,by decide,rfl,rfl⟩⟩
theorem rg_lay {w2 w3:World} {p q n v:Nat} {g1 s1 g2 s2 pv:Value} {t:TypeId} (h:RgOk w2 p q g1 s1 g2 s2 n) (hb:Below w2.heap.size w2 w3) (hV:OpsV w3 pv (eqT v).ops) :
  RkAt ((w3.alloc (.cells #[pv] t)).alloc (.cells #[.slice (some ⟨p,0,none⟩) 1 1,.slice (some ⟨q,0,none⟩) 2 2,.slice (some ⟨w3.heap.size,0,none⟩) 1 1,.slice none 0 0] 34)) (w3.heap.size+1) (.slice (some ⟨p,0,none⟩) 1 1) q 2 2 w3.heap.size (.slice none 0 0) n false v/\
  Below w2.heap.size w2 ((w3.alloc (.cells #[pv] t)).alloc (.cells #[.slice (some ⟨p,0,none⟩) 1 1,.slice (some ⟨q,0,none⟩) 2 2,.slice (some ⟨w3.heap.size,0,none⟩) 1 1,.slice none 0 0] 34)):=by
 have hb3:Below w3.heap.size w3 ((w3.alloc (.cells #[pv] t)).alloc (.cells #[.slice (some ⟨p,0,none⟩) 1 1,.slice (some ⟨q,0,none⟩) 2 2,.slice (some ⟨w3.heap.size,0,none⟩) 1 1,.slice none 0 0] 34)):=blA (blA (Below.refl _ _) _) _
 have hbx:((w3.alloc (.cells #[pv] t)).alloc (.cells #[.slice (some ⟨p,0,none⟩) 1 1,.slice (some ⟨q,0,none⟩) 2 2,.slice (some ⟨w3.heap.size,0,none⟩) 1 1,.slice none 0 0] 34)).heap[w3.heap.size+1]? = some (tkB (.slice (some ⟨p,0,none⟩) 1 1) (.slice (some ⟨q,0,none⟩) 2 2) (.slice (some ⟨w3.heap.size,0,none⟩) 1 1) (.slice none 0 0)):=by
  have:=blN (w3.alloc (.cells #[pv] t)) (tkB (.slice (some ⟨p,0,none⟩) 1 1) (.slice (some ⟨q,0,none⟩) 2 2) (.slice (some ⟨w3.heap.size,0,none⟩) 1 1) (.slice none 0 0))
  rwa [World.size_alloc] at this
 have hpc:((w3.alloc (.cells #[pv] t)).alloc (.cells #[.slice (some ⟨p,0,none⟩) 1 1,.slice (some ⟨q,0,none⟩) 2 2,.slice (some ⟨w3.heap.size,0,none⟩) 1 1,.slice none 0 0] 34)).heap[w3.heap.size]? = some (.cells #[pv] t (0,0)):=((blA (Below.refl _ _) _).block _ (by simp)).trans (blN w3 _)
 generalize (w3.alloc (.cells #[pv] t)).alloc (.cells #[.slice (some ⟨p,0,none⟩) 1 1,.slice (some ⟨q,0,none⟩) 2 2,.slice (some ⟨w3.heap.size,0,none⟩) 1 1,.slice none 0 0] 34)=W at *;have hb4:=hb.trans (hb3.mono hb.size);have h4:=h.below hb4;have hq:q < w2.heap.size:=(Array.getElem?_eq_some_iff.1 h.bl).1
 have hs:=hb.size;refine ⟨⟨hbx,⟨_,_,_,rfl⟩,⟨_,_,_,rfl⟩,h4.va,pairs_rules (rg_owns h4 0 (Nat.zero_le _)) rfl h4.ru,?_,by omega,by omega⟩,hb4⟩
 refine ⟨_,1,rfl,fun _=>⟨w3.heap.size,0,rfl,(Array.getElem?_eq_some_iff.1 hpc).1,fun i hi=>?_⟩⟩
 obtain rfl:i=0:=by simp [eqP] at hi;exact hi
 exact ⟨pv,by simp [World.cell?,hpc],hV.below hb3⟩
theorem lay1 (k:Int) (w:World) (t:TypeId) (lv:Value) (l m:List (Int × Int)) (n:Nat) (hm:(k,0):: l=m) (hn:m.length=n) (hl:n <= 60) (hne:l≠[]) (hV:OpsV w lv l):Calls Tryz.prog 11 #[.int .i64 k,.slice (some ⟨w.heap.size,0,none⟩) 1 1] (w.alloc (.cells #[lv] t)) fun e w'=>∃ a c,e=.returned (.slice a n c)/\Below w.heap.size w w'/\OpsV w' (.slice a n c) m:=by
 subst hm;exact J1 k w t lv l n (by simpa using hn) (by simp at hn;omega) hne hV
def Bx1 (w:World) (P:Nat) (b:Bool):Prop:=w.cell? ⟨P,0,none⟩=some (.bool b)/\P < w.heap.size
structure RkS (w1 W:World) (X:Nat) (va:Value) (q rn rc p:Nat) (fv o:Value) (n:Nat) (b:Bool) (v:Nat):Prop where
 at':RkAt W X va q rn rc p fv n b v
 bel:Below w1.heap.size w1 W
 op:OpsV W o [(13,0)]
 hX:w1.heap.size <= X
section
variable {w1 w w' : World} {X P : Nat} {va : Value} {q rn rc p : Nat} {fv o : Value} {n : Nat} {b c : Bool} {v : Nat}
theorem Bx1.below (h:Bx1 w P c) (hb:Below w.heap.size w w'):Bx1 w' P c:=⟨(hb.cell (p:=⟨P,0,none⟩) h.2).trans h.1,Nat.lt_of_lt_of_le h.2 hb.size⟩
theorem Bx1.box (h:Bx1 w P c) (hx:BxS w X) (j:Nat) (y:Value):Bx1 (w.setCell ⟨X,j,none⟩ y) P c:=
 ⟨(cell_box (ne_box hx h.1 (by simp)) _).trans h.1,by simpa using h.2⟩
theorem RkS.below (h:RkS w1 w X va q rn rc p fv o n b v) (hb:Below w.heap.size w w'):RkS w1 w' X va q rn rc p fv o n b v:=
 ⟨h.at'.below hb,h.bel.trans (hb.mono h.bel.size),h.op.below hb,h.hX⟩
theorem RkS.setF (h:RkS w1 w X va q rn rc p fv o n b v) {fo:Option Addr} {fn fc:Nat} {l:List (Int × Int)} (hO:OpsV w (.slice fo fn fc) l):RkS w1 (w.setCell ⟨X,3,none⟩ (.slice fo fn fc)) X va q rn rc p (.slice fo fn fc) o n b v/\OpsV (w.setCell ⟨X,3,none⟩ (.slice fo fn fc)) (.slice fo fn fc) l:=
 ⟨⟨(h.at'.setF hO).1,h.bel.setCell (p:=⟨X,3,none⟩) h.hX _,h.op.bx h.at'.bxs,h.hX⟩,(h.at'.setF hO).2⟩
theorem RkS.cells (h:RkS w1 w X va q rn rc p fv o n b v):w.cell? ⟨X,0,none⟩=some va/\w.cell? ⟨X,1,none⟩=some (.slice (some ⟨q,0,none⟩) rn rc)/\w.cell? ⟨X,2,none⟩=some (.slice (some ⟨p,0,none⟩) 1 1)/\w.cell? ⟨X,3,none⟩=some fv/\w.frozen? ⟨X,3,none⟩=false/\w.frozen? ⟨X,1,none⟩=false:=
 ⟨(tkB_cells h.at'.box).1,(tkB_cells h.at'.box).2.1,(tkB_cells h.at'.box).2.2.1,(tkB_cells h.at'.box).2.2.2,tkB_free h.at'.box 3,tkB_free h.at'.box 1⟩
end
theorem eqFn (v:Int) (w:World) (t:TypeId):Calls Tryz.prog 11 #[.int .i64 6,.slice (some ⟨w.heap.size+1+1,0,none⟩) 2 2] (((w.alloc (.cells #[.int .i64 2,.int .i64 0] 50)).alloc (.cells #[.int .i64 1,.int .i64 v] 50)).alloc (.cells #[.slice (some ⟨w.heap.size,0,none⟩) 1 1,.slice (some ⟨w.heap.size+1,0,none⟩) 1 1] t)) fun e w'=>∃ a c,e=.returned (.slice a 3 c)/\Below w.heap.size w w'/\OpsV w' (.slice a 3 c) [(6,0),(2,0),(1,v)]:=by
 have hb:Below w.heap.size w ((w.alloc (.cells #[.int .i64 2,.int .i64 0] 50)).alloc (.cells #[.int .i64 1,.int .i64 v] 50)):=blA (blA (Below.refl _ _) _) _;have h1:OpsV ((w.alloc (.cells #[.int .i64 2,.int .i64 0] 50)).alloc (.cells #[.int .i64 1,.int .i64 v] 50)) (.slice (some ⟨w.heap.size,0,none⟩) 1 1) [(2,0)]:=(ops_one w 2 0).below (blA (Below.refl _ _) _)
 have h2:OpsV ((w.alloc (.cells #[.int .i64 2,.int .i64 0] 50)).alloc (.cells #[.int .i64 1,.int .i64 v] 50)) (.slice (some ⟨w.heap.size+1,0,none⟩) 1 1) [(1,v)]:=by
  have:=ops_one (w.alloc (.cells #[.int .i64 2,.int .i64 0] 50)) 1 v
  rwa [World.size_alloc] at this
 have e:((w.alloc (.cells #[.int .i64 2,.int .i64 0] 50)).alloc (.cells #[.int .i64 1,.int .i64 v] 50)).heap.size=w.heap.size+1+1:=by simp
 generalize (w.alloc (.cells #[.int .i64 2,.int .i64 0] 50)).alloc (.cells #[.int .i64 1,.int .i64 v] 50)=W at *;have h:=J2 6 W t _ _ [(2,0)] [(1,v)] 3 rfl (by simp) (by simp) (by simp) (by simp) h1 h2
 rw [e] at h;exact h.mono fun e w' ⟨a,c,h1,h2,h3⟩=>⟨a,c,h1,hb.trans (h2.mono (by omega)),h3⟩
structure Kq (q:Nat) (w w':World):Prop where
 sz:w.heap.size <= w'.heap.size
 cell:∀ b o u,b≠q->w.cell? ⟨b,o,none⟩=some u->w'.cell? ⟨b,o,none⟩=some u
section
variable {w w' : World} {q : Nat}
theorem Kq.of (hg:w.grownBy w' (some q)):Kq q w w':=⟨hg.size,fun b o u hb h=>hg.cell h (by simpa using hb)⟩
theorem OpsV.kq {v:Value} {l:List (Int × Int)} (hx:BxS w q) (hk:Kq q w w') (h:OpsV w v l):OpsV w' v l:=by
 obtain ⟨ao,cap,rfl,h0,h⟩:=h;refine ⟨ao,cap,rfl,h0,fun hne=>?_⟩
 obtain ⟨b,off,rfl,hlt,hat⟩:=h hne;refine ⟨b,off,rfl,Nat.lt_of_lt_of_le hlt hk.sz,fun i hi=>?_⟩
 obtain ⟨h1,h2⟩:=hat i hi;have hb:=ne_box hx h1 (by simp)
 exact ⟨hk.cell _ _ _ hb h1,hk.cell _ _ _ hb h2⟩
theorem VarsV.kq {v:Value} {l:List Vr} (hx:BxS w q) (hk:Kq q w w') (h:VarsV w v l):VarsV w' v l:=
 SlV.imp h hk.sz fun b off i _ _ ⟨h1,h2,h3,h4⟩=>by
  have hb:=ne_box hx h1 (by simp)
  exact ⟨hk.cell _ _ _ hb h1,hk.cell _ _ _ hb h2,hk.cell _ _ _ hb h3,hk.cell _ _ _ hb h4⟩
theorem SetsV.kq {v:Value} {l:List St} (hx:BxS w q) (hk:Kq q w w') (h:SetsV w v l):SetsV w' v l:=
 SlV.imp h hk.sz fun b off i _ _ ⟨h1,u,h2,h3⟩=>by
  have hb:=ne_box hx h1 (by simp)
  exact ⟨hk.cell _ _ _ hb h1,u,hk.cell _ _ _ hb h2,h3.kq hx hk⟩
theorem TermsV.kq {p n c:Nat} {ts:List (List (Int × Int))} (hx:BxS w q) (hk:Kq q w w') (hp:p≠q) (h:TermsV w (.slice (some ⟨p,0,none⟩) n c) ts):TermsV w' (.slice (some ⟨p,0,none⟩) n c) ts:=by
 obtain ⟨ao,cap,e,h⟩:=h;refine ⟨ao,cap,e,fun hne=>?_⟩
 obtain ⟨b,off,e2,hlt,hat⟩:=h hne
 injection e with e3
 rw [e2] at e3
 injection e3 with e3
 injection e3 with e4
 subst e4;refine ⟨p,off,e2,Nat.lt_of_lt_of_le hlt hk.sz,fun i hi=>?_⟩
 obtain ⟨u,h1,h2⟩:=hat i hi;exact ⟨u,hk.cell _ _ _ hp h1,h2.kq hx hk⟩
theorem rg_bxs {p n:Nat} {g1 s1 g2 s2:Value} (h:RgOk w p q g1 s1 g2 s2 n):BxS w q:=fun i u hu=>by
 have hb:=h.bl;have hg:∀ v l,OpsV w v l->∃ a n c,v=.slice a n c:=fun v l ⟨_,_,e,_⟩=>⟨_,_,_,e⟩
 have hs:∀ v l,SetsV w v l->∃ a n c,v=.slice a n c:=fun v l ⟨_,_,e,_⟩=>⟨_,_,_,e⟩
 obtain ⟨a1,b1,c1,e1⟩:=hg _ _ (h.ru.g 0 (by simp [ringR]))
 obtain ⟨a2,b2,c2,e2⟩:=hs _ _ (h.ru.s 0 (by simp [ringR]))
 obtain ⟨a3,b3,c3,e3⟩:=hg _ _ (h.ru.g 1 (by simp [ringR]))
 obtain ⟨a4,b4,c4,e4⟩:=hs _ _ (h.ru.s 1 (by simp [ringR]))
 simp at e1 e2 e3 e4
 subst e1 e2 e3 e4;simp only [World.cell?,hb] at hu
 rcases i with _ | _ | _ | _ | i
 ·exact ⟨_,_,_,by simpa using hu.symm⟩
 ·exact ⟨_,_,_,by simpa using hu.symm⟩
 ·exact ⟨_,_,_,by simpa using hu.symm⟩
 ·exact ⟨_,_,_,by simpa using hu.symm⟩
 ·simp at hu
end
theorem rk_more {w5 w6:World} {p q n v X P g6 cp6 base:Nat} {va fv g1 s1 g2 s2 gv:Value} (h:RgOk w5 p q g1 s1 g2 s2 n) (hA:RkAt w5 X va q 2 2 P fv n false v) (hPq:P≠q) (hg:w5.grownBy w6 (some q))
  (ho:w6.ownsRow base 57 2 (.slice (some ⟨g6,0,none⟩) 3 cp6) 3 (ruFlat [(g1,s1),(g2,s2)]++[gv,.slice none 0 0])) (hgv:OpsV w5 gv [(11,0)]) (hgX:g6≠X) :
  RkAt (w6.setCell ⟨X,1,none⟩ (.slice (some ⟨g6,0,none⟩) 3 cp6)) X va g6 3 cp6 P fv n true v:=by
 have hx:=rg_bxs h;have hk:=Kq.of hg
 have hR:RulesV w6 (.slice (some ⟨g6,0,none⟩) 3 cp6) (ringR n true):=by
  refine pairs_rules (l:=[(g1,s1),(g2,s2),(gv,.slice none 0 0)]) ho rfl ?_
  refine RuPairs.cons ((h.ru.g 0 (by simp [ringR])).kq hx hk) ((h.ru.s 0 (by simp [ringR])).kq hx hk) (RuPairs.cons ((h.ru.g 1 (by simp [ringR])).kq hx hk) ((h.ru.s 1 (by simp [ringR])).kq hx hk) (RuPairs.cons (hgv.kq hx hk) ?_ (RuPairs.nil _)))
  exact sets_nil _
 have hlt:=(Array.getElem?_eq_some_iff.1 hA.box).1
 have e6:w6.heap[X]? = w5.heap[X]?:=hg.block X hlt (by have:=hA.hq.symm;simpa using this)
 have hb6:=e6.trans hA.box;have hbX:BxS w6 X:=fun i u hu=>hA.bxs i u (by rw [<- World.cell?_of_block (a:=⟨X,i,none⟩) e6];exact hu)
 refine ⟨?_,hA.sl,hA.sv,(hA.va.kq hx hk).bx hbX,hR.bx hbX hgX,(hA.ps.kq hx hk hPq).bx hbX hA.hp,hgX,hA.hp⟩
 unfold tkB at *;simp [World.setCell,Array.getElem?_modify,hb6]
theorem topChoice_walk (x y:Int) (w:World) (hx:I64 x) (hy:I64 y) (hB:0 < w.heap.size) (hT:TabAt w) :
  Calls Tryz.prog 5 #[.int .i64 x,.int .i64 y] w fun e w'=>e=.returned (.bool true)/\Below w.heap.size w w':=by
 obtain ⟨hr0,hr1⟩:=pk_range (n:=x) (m:=8) (by omega)
 obtain ⟨n,hn⟩:∃ n:Nat,(n:Int)=2+pk x 8:=⟨(2+pk x 8).toNat,by omega⟩
 have hw1:IntKind.i64.wrap (2+pk x 8)=(n:Int):=by rw [hn];exact wr64 (by omega) (by omega)
 have hp1:=fun w=>Picked_is x 8 w hx (by omega) (by omega)
 generalize pk x 8=r at *;obtain ⟨hs0,hs1⟩:=pk_range (n:=y) (m:=2+r - 1) (by omega)
 have hp2:=fun w=>Picked_is y (2+r - 1) w hy (by omega) (by omega)
 generalize pk y (2+r - 1)=s at *;obtain ⟨v,hv⟩:∃ v:Nat,(v:Int)=1+s:=⟨(1+s).toNat,by omega⟩
 have HVs:Hid ((v:Int)=1+s):=hv;have hn2:2 <= n:=by omega
 have hn9:n <= 9:=by omega
 have hvn:v < n:=by omega
 have hv1:1 <= v:=by omega
 have hrg:=fun w=>ringFn_any n w hn2 hn9
 simp only [hn] at hrg;clear hv;have tk1:=True.intro;have tk2:=True.intro;have tk3:=True.intro
 go_enter Tryz.func5,Tryz.ntmps5
 go_upto_region 3 with (first
  | (clear tk1;go_at_call 8;refine (hp1 _).mono ?_;rintro e w1 ⟨rfl,rfl⟩)
  | (clear tk2;go_at_call 8;refine (hp2 _).mono ?_;rintro e w1 ⟨rfl,rfl⟩))
 go_upto_region 4 with (first
  | (clear tk3;go_at_call 10;refine (hrg _).mono ?_;rintro e w2 ⟨p,q,g1,s1,g2,s2,rfl,hb2,hR2⟩)
  | (go_at_call 11;refine (eqFn (1+s) w2 _).mono ?_;rintro e w3 ⟨a3,c3,rfl,hb3,hV3⟩))
 have hV4:OpsV w3 (.slice a3 3 c3) (eqT v).ops:=by
  have:=hV3
  rwa [<- HVs.out] at this
 obtain ⟨hR2,hq⟩:=hR2.out;obtain ⟨hA,hb4⟩:=rg_lay (t:=32) hR2 hb3 hV4;have hR4:=hR2.below hb4
 have hPq:w3.heap.size≠q:=by
  have:=(Array.getElem?_eq_some_iff.1 hR2.bl).1
  have:=hb3.size;omega
 have hBW:=hb2.trans (hb4.mono hb2.size);have HX1:w1.heap.size <= w3.heap.size+1:=by have:=hb2.size;have:=hb3.size;omega
 obtain ⟨iR,hiR,r0,r1,r2⟩:=info_parts infoRule
 have HCk:Hid (∀ (W:World) (va vr pv fv:Value) (T:Tm),F1 T->Below w1.heap.size w1 W->TaskV W va vr pv fv (ringM n true) (eqP v) T.ops->Calls Tryz.prog 7 #[.agg #[va,vr,pv,fv]] W fun e w'=>∃ bb so sn sc lo ln lc,e=.returned (.tuple #[.agg #[.bool bb,.slice so sn sc,.slice lo ln lc],.int .i64 0])/\Below W.heap.size W w'/\Hid (bb=true↔AllKeep (ringM n true) (eqP v) T)):=fun W va vr pv fv T hF hb hV=>ring_check (by omega) hn9 (by omega) va vr pv fv hF W (Nat.lt_of_lt_of_le hB hb.size) (hT.below hb hB) hV
 clear hp1 hp2 hrg hb4 hb2 hb3 hV3 hV4 hB hT hx hy hw1 hR2;generalize (w3.alloc (.cells #[.slice a3 3 c3] 32)).alloc (.cells #[.slice (some ⟨p,0,none⟩) 1 1,.slice (some ⟨q,0,none⟩) 2 2,.slice (some ⟨w3.heap.size,0,none⟩) 1 1,.slice none 0 0] 34)=W at *;generalize w3.heap.size+1=X at *;generalize w3.heap.size=P at *;have hXl:=(Array.getElem?_eq_some_iff.1 hA.box).1
 obtain ⟨z0,z1,z2,z3⟩:=tkB_cells hA.box;have hA5:=hA.below (blA (blA (Below.refl _ _) (.cells #[.int .i64 11,.int .i64 0] 50)) (.cells #[.slice (some ⟨W.heap.size,0,none⟩) 1 1,.slice none 0 0] 57));have hR5:=hR4.below (blA (blA (Below.refl _ _) (.cells #[.int .i64 11,.int .i64 0] 50)) (.cells #[.slice (some ⟨W.heap.size,0,none⟩) 1 1,.slice none 0 0] 57))
 have hgv:OpsV ((W.alloc (.cells #[.int .i64 11,.int .i64 0] 50)).alloc (.cells #[.slice (some ⟨W.heap.size,0,none⟩) 1 1,.slice none 0 0] 57)) (.slice (some ⟨W.heap.size,0,none⟩) 1 1) [(11,0)]:=(ops_one W 11 0).below (blA (Below.refl _ _) _);have hnew:=two_new (W.alloc (.cells #[.int .i64 11,.int .i64 0] 50)) (.slice (some ⟨W.heap.size,0,none⟩) 1 1) (.slice none 0 0) 57
 rw [World.size_alloc] at hnew;have hB5:=hBW.trans ((blA (blA (Below.refl W.heap.size W) (.cells #[.int .i64 11,.int .i64 0] 50)) (.cells #[.slice (some ⟨W.heap.size,0,none⟩) 1 1,.slice none 0 0] 57)).mono hBW.size);have hown:=rg_owns hR5 w1.heap.size hq
 go_upto_region 5 with (at_builtin;refine wpList_append_lies _ rfl (.tmp 36) (.tmp 40) 28 rfl w1.heap.size 57 iR _ 2 48 Tryz.underlying28 hiR r0 r1 r2 rfl (by decide) (.slice (some ⟨q,0,none⟩) 2 2) 2 (ruFlat [(g1,s1),(g2,s2)]) rfl hown ⟨W.heap.size+1,0,none⟩ 1 1 [.slice (some ⟨W.heap.size,0,none⟩) 1 1,.slice none 0 0] rfl rfl hnew (by intro u hu;simp at hu;rcases hu with rfl | rfl <;> rfl) (by decide) (by decide) (by decide) hB5.size (W.heap.size+1+1) (by simp) ?_;intro g6 cp6 w6 ho6 hg6 hat6 hl6;have hb6:=(hg6.block X (Array.getElem?_eq_some_iff.1 hA5.box).1 (by have:=hA.hq.symm;simpa [Value.ownBlock] using this)).trans hA5.box;obtain ⟨k0,k1,k2,k3⟩:=tkB_cells hb6;have kf1:=tkB_free hb6 1)
 have hgX:g6≠X:=by
  rcases hat6 with h | h
  ·simp [Value.ownBlock] at h
   have:=hA.hq;omega
  ·omega
 have hA7:=rk_more hR5 hA5 hPq (by simpa [Value.ownBlock] using hg6) ho6 hgv hgX
 have hB7:Below w1.heap.size w1 (w6.setCell ⟨X,1,none⟩ (.slice (some ⟨g6,0,none⟩) 3 cp6)):=(hB5.grown hg6 hB5.size (fun k hk=>by simp [Value.ownBlock] at hk;omega)).setCell (p:=⟨X,1,none⟩) HX1 _
 clear hA hA5 hR4 hR5 hgv hnew hB5 hown hiR r0 r1 r2 k0 k1 k2 k3 kf1 z0 z1 z2 z3 hb6 ho6 hg6 hat6 hl6 hBW hXl hPq hq;generalize w6.setCell ⟨X,1,none⟩ (.slice (some ⟨g6,0,none⟩) 3 cp6)=W7 at *
 have hS:RkS w1 (W7.alloc (.cells #[.int .i64 13,.int .i64 0] 50)) X (.slice (some ⟨p,0,none⟩) 1 1) g6 3 cp6 P (.slice none 0 0) (.slice (some ⟨W7.heap.size,0,none⟩) 1 1) n true v:=
  ⟨hA7.below (blA (Below.refl _ _) _),blA hB7 _,ops_one W7 13 0,HX1⟩
 go_upto_region 6 with fail
 have HS:Hid (RkS _ _ _ _ _ _ _ _ _ _ _ _ _):=hS;clear hA7 hB7 hS;generalize W7.alloc (.cells #[.int .i64 13,.int .i64 0] 50)=W0 at *;generalize W7.heap.size=O at *;generalize (Value.slice (some ⟨p,0,none⟩) 1 1)=va at *
 go_upto_region 7 with (go_at_call 11;refine (lay1 17 W0 _ _ [(13,0)] evT.ops 2 rfl rfl (by decide) (by simp) HS.out.op).mono ?_;rintro e wa ⟨a1,c1,rfl,hba,hVa⟩;have HS1:Hid (RkS _ wa _ _ _ _ _ _ _ _ _ _ _):=HS.out.below hba;obtain ⟨k0,k1,k2,k3,kf3,kf1⟩:=HS1.out.cells)
 obtain ⟨hS2,hO2⟩:=HS1.out.setF hVa;have HS2:Hid (RkS _ _ _ _ _ _ _ _ _ _ _ _ _):=hS2;have HO2:Hid (OpsV _ _ evT.ops):=hO2;clear HS HS1 hS2 hO2 hVa hba k0 k1 k2 k3 kf3 kf1;generalize wa.setCell ⟨X,3,none⟩ (.slice a1 2 c1)=W2 at *;obtain ⟨k0,k1,k2,k3,kf3,kf1⟩:=HS2.out.cells
 go_upto_region 8 with (go_at_call 7;refine (HCk.out W2 _ _ _ _ evT f1_ev HS2.out.bel (HS2.out.at'.task HO2.out)).mono ?_;rintro e wc ⟨bb,so,sn,sc,lo,ln,lc,rfl,hbc,hbb⟩)
 obtain rfl:bb=false:=Bool.eq_false_iff.2 fun h=>cho_ever hn9 hv1 hvn (hbb.out.1 h)
 have HP1:Hid (Bx1 _ _ false):=(⟨by simp [go_sem],by simp⟩:Bx1 (wc.alloc (.cells #[.bool false,.slice so sn sc,.slice lo ln lc] 40)) wc.heap.size false)
 have HS3:Hid (RkS w1 (wc.alloc (.cells #[.bool false,.slice so sn sc,.slice lo ln lc] 40)) _ _ _ _ _ _ _ _ _ _ _):=(HS2.out.below hbc).below (blA (Below.refl _ _) _);clear HS2 HO2 hbc hbb k0 k1 k2 k3 kf3 kf1;generalize wc.alloc (.cells #[.bool false,.slice so sn sc,.slice lo ln lc] 40)=W3 at *;generalize wc.heap.size=P1 at *;have tk4:=True.intro
 go_upto_region 9 with (first
  | (clear tk4;go_at_call 11;refine (lay1 10 W3 _ _ [(13,0)] [(10,0),(13,0)] 2 rfl rfl (by decide) (by simp) HS3.out.op).mono ?_;rintro e wd ⟨a4,c4,rfl,hbd,hVd⟩)
  | (go_at_call 11;refine (lay1 18 wd _ _ [(10,0),(13,0)] neT.ops 3 rfl rfl (by decide) (by simp) hVd).mono ?_;rintro e we ⟨a5,c5,rfl,hbe,hVe⟩;have HS4:Hid (RkS _ we _ _ _ _ _ _ _ _ _ _ _):=HS3.out.below (hbd.trans (hbe.mono hbd.size));have HP2:Hid (Bx1 we P1 false):=HP1.out.below (hbd.trans (hbe.mono hbd.size));obtain ⟨k0,k1,k2,k3,kf3,kf1⟩:=HS4.out.cells))
 obtain ⟨hS5,hO5⟩:=HS4.out.setF hVe;have HP3:Hid (Bx1 (we.setCell ⟨X,3,none⟩ (.slice a5 3 c5)) P1 false):=HP2.out.box HS4.out.at'.bxs 3 _;have HS5:Hid (RkS _ _ _ _ _ _ _ _ _ _ _ _ _):=hS5;have HO5:Hid (OpsV _ _ neT.ops):=hO5;clear HS3 HS4 HP1 HP2 hS5 hO5 hVd hVe hbd hbe k0 k1 k2 k3 kf3 kf1;generalize we.setCell ⟨X,3,none⟩ (.slice a5 3 c5)=W5 at *
 obtain ⟨k0,k1,k2,k3,kf3,kf1⟩:=HS5.out.cells
 go_upto_region 10 with (go_at_call 7;refine (HCk.out W5 _ _ _ _ neT f1_ne HS5.out.bel (HS5.out.at'.task HO5.out)).mono ?_;rintro e wf ⟨bb,so2,sn2,sc2,lo2,ln2,lc2,rfl,hbf,hbb⟩)
 obtain rfl:bb=false:=Bool.eq_false_iff.2 fun h=>cho_never hn9 hvn (hbb.out.1 h)
 have HP4:Hid (Bx1 _ P1 false):=(HP3.out.below hbf).below (blA (Below.refl _ _) (.cells #[.bool false,.slice so2 sn2 sc2,.slice lo2 ln2 lc2] 40));have HQ4:Hid (Bx1 _ _ false):=(⟨by simp [go_sem],by simp⟩:Bx1 (wf.alloc (.cells #[.bool false,.slice so2 sn2 sc2,.slice lo2 ln2 lc2] 40)) wf.heap.size false)
 have HS6:Hid (RkS w1 (wf.alloc (.cells #[.bool false,.slice so2 sn2 sc2,.slice lo2 ln2 lc2] 40)) _ _ _ _ _ _ _ _ _ _ _):=(HS5.out.below hbf).below (blA (Below.refl _ _) _);clear HS5 HO5 hbf hbb HP3 k0 k1 k2 k3 kf3 kf1;generalize wf.alloc (.cells #[.bool false,.slice so2 sn2 sc2,.slice lo2 ln2 lc2] 40)=W6 at *;generalize wf.heap.size=P2 at *;have tk5:=True.intro
 have tk6:=True.intro;have tk7:=True.intro;have tk8:=True.intro
 go_upto_region 11 with (first
  | (clear tk5;go_at_call 11;refine (lay1 17 W6 _ _ [(13,0)] [(17,0),(13,0)] 2 rfl rfl (by decide) (by simp) HS6.out.op).mono ?_;rintro e x1 ⟨b1,d1,rfl,hx1,hX1⟩)
  | (clear tk6;go_at_call 11;refine (lay1 10 x1 _ _ [(13,0)] [(10,0),(13,0)] 2 rfl rfl (by decide) (by simp) (HS6.out.below hx1).op).mono ?_;rintro e x2 ⟨b2,d2,rfl,hx2,hX2⟩)
  | (clear tk7;go_at_call 11;refine (lay1 18 x2 _ _ [(10,0),(13,0)] [(18,0),(10,0),(13,0)] 3 rfl rfl (by decide) (by simp) hX2).mono ?_;rintro e x3 ⟨b3,d3,rfl,hx3,hX3⟩)
  | (clear tk8;go_at_call 11;refine (lay1 17 x3 _ _ [(18,0),(10,0),(13,0)] [(17,0),(18,0),(10,0),(13,0)] 4 rfl rfl (by decide) (by simp) hX3).mono ?_;rintro e x4 ⟨b4,d4,rfl,hx4,hX4⟩;have hx24:=hx2.trans ((hx3.trans (hx4.mono hx3.size)).mono hx2.size))
  | (go_at_call 11;refine (J2 9 x4 _ _ _ [(17,0),(13,0)] [(17,0),(18,0),(10,0),(13,0)] 7 rfl (by simp) (by simp) (by simp) (by simp) (hX1.below hx24) hX4).mono ?_;rintro e x5 ⟨b5,d5,rfl,hx5,hX5⟩;have hx05:=hx1.trans ((hx24.trans (hx5.mono hx24.size)).mono hx1.size);have HS7:Hid (RkS _ x5 _ _ _ _ _ _ _ _ _ _ _):=HS6.out.below hx05;have HP7:Hid (Bx1 x5 P1 false):=HP4.out.below hx05;have HQ7:Hid (Bx1 x5 P2 false):=HQ4.out.below hx05;obtain ⟨k0,k1,k2,k3,kf3,kf1⟩:=HS7.out.cells))
 have hX6:OpsV x5 (.slice b5 7 d5) orT.ops:=hX5;obtain ⟨hS8,hO8⟩:=HS7.out.setF hX6;have HP8:Hid (Bx1 (x5.setCell ⟨X,3,none⟩ (.slice b5 7 d5)) P1 false):=HP7.out.box HS7.out.at'.bxs 3 _;have HQ8:Hid (Bx1 (x5.setCell ⟨X,3,none⟩ (.slice b5 7 d5)) P2 false):=HQ7.out.box HS7.out.at'.bxs 3 _;have HS8:Hid (RkS _ _ _ _ _ _ _ _ _ _ _ _ _):=hS8
 have HO8:Hid (OpsV _ _ orT.ops):=hO8;clear HS6 HS7 HP4 HQ4 HP7 HQ7 hS8 hO8 hx1 hx2 hx3 hx4 hx24 hx5 hx05 hX1 hX2 hX3 hX4 hX5 hX6 k0 k1 k2 k3 kf3 kf1;generalize x5.setCell ⟨X,3,none⟩ (.slice b5 7 d5)=W8 at *;obtain ⟨k0,k1,k2,k3,kf3,kf1⟩:=HS8.out.cells
 go_upto_region 12 with (go_at_call 7;refine (HCk.out W8 _ _ _ _ orT f1_or HS8.out.bel (HS8.out.at'.task HO8.out)).mono ?_;rintro e wg ⟨bb,so3,sn3,sc3,lo3,ln3,lc3,rfl,hbg,hbb⟩)
 obtain rfl:bb=true:=hbb.out.2 cho_or;have HP9:Bx1 (wg.alloc (.cells #[.bool true,.slice so3 sn3 sc3,.slice lo3 ln3 lc3] 40)) P1 false:=(HP8.out.below hbg).below (blA (Below.refl _ _) _);have HQ9:Bx1 (wg.alloc (.cells #[.bool true,.slice so3 sn3 sc3,.slice lo3 ln3 lc3] 40)) P2 false:=(HQ8.out.below hbg).below (blA (Below.refl _ _) _)
 have hc9:(wg.alloc (.cells #[.bool true,.slice so3 sn3 sc3,.slice lo3 ln3 lc3] 40)).cell? ⟨wg.heap.size,0,none⟩=some (.bool true):=by simp [go_sem]
 have HB9:Hid (Below w1.heap.size w1 (wg.alloc (.cells #[.bool true,.slice so3 sn3 sc3,.slice lo3 ln3 lc3] 40))):=((HS8.out.below hbg).below (blA (Below.refl _ _) _)).bel;clear HS8 HO8 HP8 HQ8 hbg hbb k0 k1 k2 k3 kf3 kf1;generalize wg.alloc (.cells #[.bool true,.slice so3 sn3 sc3,.slice lo3 ln3 lc3] 40)=W9 at *;generalize wg.heap.size=P3 at *;obtain ⟨c1,_⟩:=HP9
 obtain ⟨c2,_⟩:=HQ9
 go_wp2_with fail
 all_goals go_ret
 all_goals exact ⟨by first | rfl | (simp;done) | (simp;omega),HB9.out⟩
