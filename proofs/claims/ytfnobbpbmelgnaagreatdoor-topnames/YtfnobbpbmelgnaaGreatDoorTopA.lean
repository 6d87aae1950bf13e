/- Joined texts. -/
import Derived.Test.YtfnobbpbmelgnaaGreatDoorLateE
import Derived.Test.YtfnobbpbmelgnaaGreatDoorSccB
import Derived.Test.YtfnobbpbmelgnaaGreatDoorSccC
namespace Go.Proofs.YtfnobbpbmelgnaaGreatDoor
open Go.ChangeShapes Go.WideShapes Go.ChangeAt Go.RowKit Go.Deep Go.Maps
open Terms Tm
set_option maxHeartbeats 6400000
set_option maxRecDepth 20000
noncomputable def exGr (m:Mo) (ps:List (List (Int × Int))) (l:List (Int × Int)) (K:Nat):Gr:=⟨xpP m ps l K,((begL m ps l).length:Nat),xpN m ps l K,xpT m ps l K,((aheadL l).length:Nat)⟩
section
variable {m : Mo} {ps : List (List (Int × Int))} {l : List (Int × Int)} {K : Nat}
theorem xpAt_eq (h:ExDone m ps l K) {i:Nat} (hi:i < K):xpAt m ps l i=(xpP m ps l K).getD i (0,0):=
 (exS_at (begL m ps l) (xpBh m ps l) (Nat.le_of_lt hi) (h.2.2.1 i hi)).symm
theorem xpN_get {K:Nat}:∀ {j:Nat},j < K->(xpN m ps l K).getD j []=plIx (xpP m ps l j) (xpBh m ps l (xpAt m ps l j)):=by
 induction K with
 | zero=>intro j h;omega
 | succ K ih=>
  intro j h;rw [xpN,List.getD_eq_getElem?_getD]
  by_cases hj:j < K
  ·rw [List.getElem?_append_left (by rw [xpN_len];exact hj),<- List.getD_eq_getElem?_getD]
   exact ih hj
  ·obtain rfl:j=K:=by omega
   rw [List.getElem?_append_right (by rw [xpN_len];exact Nat.le_refl _),xpN_len]
   simp
theorem xpT_get {K:Nat}:∀ {j:Nat},j < K->(xpT m ps l K).getD j 0=metN l (letL m ps (xpAt m ps l j).1) (xpAt m ps l j).2:=by
 induction K with
 | zero=>intro j h;omega
 | succ K ih=>
  intro j h;rw [xpT,List.getD_eq_getElem?_getD]
  by_cases hj:j < K
  ·rw [List.getElem?_append_left (by rw [xpT_len];exact hj),<- List.getD_eq_getElem?_getD]
   exact ih hj
  ·obtain rfl:j=K:=by omega
   rw [List.getElem?_append_right (by rw [xpT_len];exact Nat.le_refl _),xpT_len]
   simp
theorem xbeg_nodup (m:Mo) (ps:List (List (Int × Int))) (l:List (Int × Int)):(begL m ps l).Nodup:=by
 have key:∀ k,(begTo m ps l k).Nodup:=fun k=>by
  induction k with
  | zero=>simp [begTo]
  | succ k ih=>
   rw [begTo]
   split
   ·exact ih
   ·refine List.nodup_append.2 ⟨ih,by simp,fun a ha b hb e=>?_⟩
    rw [List.mem_singleton] at hb;subst hb;subst e;obtain ⟨_,d,h2,h3,_⟩:=xbg_mem _ ha;simp only at h3
    omega
 exact key _
theorem xpN_row (h:ExDone m ps l K) {i:Nat} (hi:i < K):((xpN m ps l K).getD i []).length=(xpBh m ps l ((xpP m ps l K).getD i (0,0))).length/\∀ q,q < (xpBh m ps l ((xpP m ps l K).getD i (0,0))).length->((xpN m ps l K).getD i []).getD q 0=(((xpP m ps l K).idxOf ((xpBh m ps l ((xpP m ps l K).getD i (0,0))).getD q (0,0)):Nat):Int)/\(xpBh m ps l ((xpP m ps l K).getD i (0,0))).getD q (0,0)∈xpP m ps l K:=by
 rw [xpN_get hi,<- xpAt_eq h hi];refine ⟨plIx_len _ _,fun q hq=>?_⟩
 have hmem:(xpBh m ps l (xpAt m ps l i)).getD q (0,0)∈xpP m ps l (i+1):=by
  rw [xpP_succ,plTo_iff];refine .inr ?_
  rw [List.getD_eq_getElem?_getD,List.getElem?_eq_getElem hq]
  exact List.getElem_mem _
 have hpre:xpP m ps l (i+1) <+: xpP m ps l K:=exS_le _ _ hi;refine ⟨?_,hpre.subset hmem⟩
 rw [plIx_at hq,<- xpP_succ,idx_pre hpre hmem]
theorem metN_range (l:List (Int × Int)) (letter:List Bool) (c:Int):0 <= metN l letter c/\metN l letter c < (2:Int) ^ (aheadL l).length:=by
 unfold metN
 split
 ·exact metTo_bounds _ _ _
 ·exact ⟨by omega,Int.pow_pos (by decide)⟩
theorem exGr_ok (hk:tkcode m ps l=0) (h:ExDone m ps l K):GOk (exGr m ps l K):=by
 have h6:=(lcode_zero (tk_zero hk).2).2.2.2.2
 have hbl:(begL m ps l).length <= (xpP m ps l K).length:=by
  have h1:=(exS_le (begL m ps l) (xpBh m ps l) (Nat.zero_le K)).length_le
  have h2:(begL m ps l).length <= (exS (begL m ps l) (xpBh m ps l) 0).length:=by
   show _ <= (plTo [] (begL m ps l)).length
   have hnd:=plTo_nodup (begL m ps l) [] List.nodup_nil;have hsub:begL m ps l ⊆ plTo [] (begL m ps l):=fun x hx=>(plTo_iff _ _ _).2 (.inr hx)
   exact (xbeg_nodup m ps l).length_le_of_subset hsub
  exact Nat.le_trans h2 h1
 refine ⟨⟨by show (xpP m ps l K).length <= _;rw [h.1];exact h.2.1,by show (xpN m ps l K).length=(xpP m ps l K).length;rw [xpN_len,h.1],by show (xpT m ps l K).length=(xpP m ps l K).length;rw [xpT_len,h.1],by show (0:Int) <= ((begL m ps l).length:Nat);omega,by show (((begL m ps l).length:Nat):Int) <= ((xpP m ps l K).length:Nat);omega,by show (0:Int) <= ((aheadL l).length:Nat);omega,by show (((aheadL l).length:Nat):Int) <= 6;omega⟩,fun i hi=>?_⟩
 have hiK:i < K:=by have:i < (xpP m ps l K).length:=hi;rw [h.1] at this;exact this
 refine ⟨?_,fun q hq=>?_⟩
 ·unfold GSet top
  show 0 <= (xpT m ps l K).getD i 0/\(xpT m ps l K).getD i 0 <= 2 ^ (((aheadL l).length:Nat):Int).toNat - 1
  rw [xpT_get hiK];have:=metN_range l (letL m ps (xpAt m ps l i).1) (xpAt m ps l i).2;rw [Int.toNat_natCast];omega
 ·obtain ⟨r1,r2⟩:=xpN_row h hiK
  have hq':q < (xpBh m ps l ((xpP m ps l K).getD i (0,0))).length:=by rw [<- r1];exact hq
  obtain ⟨r3,r4⟩:=r2 q hq'
  show 0 <= ((xpN m ps l K).getD i []).getD q 0/\((xpN m ps l K).getD i []).getD q 0 < ((xpP m ps l K).length:Nat)
  rw [r3];have:=List.idxOf_lt_length_of_mem r4;omega
theorem exGr_step (h:ExDone m ps l K) {s x:Int × Int} (hs:s∈xpP m ps l K) (hx:x∈xpBh m ps l s):x∈xpP m ps l K/\(xpP m ps l K).idxOf x∈nxt (exGr m ps l K) ((xpP m ps l K).idxOf s):=by
 have hi:=List.idxOf_lt_length_of_mem hs;have hiK:(xpP m ps l K).idxOf s < K:=by rw [h.1] at hi;exact hi
 have he:(xpP m ps l K).getD ((xpP m ps l K).idxOf s) (0,0)=s:=by
  rw [List.getD_eq_getElem?_getD,List.getElem?_eq_getElem hi]
  exact List.getElem_idxOf hi
 obtain ⟨r1,r2⟩:=xpN_row h hiK;rw [he] at r1 r2;obtain ⟨q,hq,rfl⟩:=List.getElem_of_mem hx;have hg:(xpBh m ps l s).getD q (0,0)=(xpBh m ps l s)[q]:=by rw [List.getD_eq_getElem?_getD,List.getElem?_eq_getElem hq];rfl
 obtain ⟨r3,r4⟩:=r2 q hq;rw [hg] at r3 r4;refine ⟨r4,?_⟩
 unfold nxt;rw [List.mem_map];refine ⟨((xpN m ps l K).getD ((xpP m ps l K).idxOf s) []).getD q 0,?_,by rw [r3];rfl⟩
 show ((xpN m ps l K).getD ((xpP m ps l K).idxOf s) []).getD q 0∈(xpN m ps l K).getD ((xpP m ps l K).idxOf s) []
 generalize (xpN m ps l K).getD ((xpP m ps l K).idxOf s) []=row at *;rw [List.getD_eq_getElem?_getD,List.getElem?_eq_getElem (by rw [r1];exact hq)]
 exact List.getElem_mem _
end
theorem SpO.ops {w:World} {base:Nat} {v:Value} {x:List (Int × Int)} (h:SpO w base v x):OpsV w v x:=by
 rcases h.2 with ⟨rfl,h0⟩ | ⟨g,cap,cur,rfl,hb,hg,hnc,hcm,hcs,htake⟩
 ·have:x=[]:=by simpa using h0
  subst this;exact ⟨none,0,rfl,⟨by simp,fun _=>⟨rfl,rfl⟩⟩,fun h=>absurd rfl h⟩
 ·refine ⟨_,cap,rfl,⟨hnc,fun h=>by simp at h⟩,fun _=>⟨g,0,rfl,(Array.getElem?_eq_some_iff.1 hg).1,fun i hi=>?_⟩⟩
  obtain ⟨f0,f1⟩:=flat_get x i hi;rw [World.ownsRow.cellAt h _ (by omega),World.ownsRow.cellAt h _ (by omega)]
  simpa using ⟨f0,f1⟩
theorem GrX.graph {w:World} {base K:Nat} {m:Mo} {ps:List (List (Int × Int))} {l:List (Int × Int)} {sv nv tv:Value} (h:GrX w base m ps l K sv nv tv):GraphV w sv nv tv (exGr m ps l K):=by
 obtain ⟨h1,⟨us,n1,n2,n3⟩,h3⟩:=h;refine ⟨h1.ops,?_,intsV_of_owns h3⟩
 have n1':w.ownsRow base 36 1 nv us.length us:=by rw [n2];exact n1
 refine listsV_of_owns n1' ⟨n2,fun i hi=>?_⟩
 obtain ⟨ao,c,e1,e2,_,_⟩:=n3 i hi;have e1':us.getD i nilG=.slice ao ((xpN m ps l K).getD i []).length c:=e1;rw [e1'];exact e2
section
variable {m : Mo} {ps : List (List (Int × Int))} {l : List (Int × Int)} {K : Nat}
theorem exGr_le (hk:tkcode m ps l=0) (h:ExDone m ps l K):GrLe (exGr m ps l K):=by
 have e1:(exGr m ps l K).spots.length=K:=h.1;have e2:(exGr m ps l K).next.length=K:=xpN_len K;have e3:(exGr m ps l K).sets.length=K:=xpT_len K;have hm0:=(pcode_m (tk_zero hk).1).1;have h6:=(lcode_zero (tk_zero hk).2).2.2.2.2;refine ⟨by rw [e1];have:=h.2.1;omega,by rw [e2];have:=h.2.1;omega,by rw [e3];have:=h.2.1;omega,fun i hi=>?_⟩
 rw [e2] at hi
 show ((xpN m ps l K).getD i []).length <= _
 rw [(xpN_row h hi).1]
 have hin:(xpP m ps l K).getD i (0,0)∈xpP m ps l K:=by
  have hl:i < (xpP m ps l K).length:=by rw [h.1];exact hi
  rw [List.getD_eq_getElem?_getD,List.getElem?_eq_getElem hl]
  exact List.getElem_mem _
 have:=behL_len (ps:=ps) (l:=l) (c:=((xpP m ps l K).getD i (0,0)).2) hm0 (h.2.2.2 _ hin).1 h6
 show (behL _ _ _ _ _).length <= _
 omega
noncomputable def stL (m:Mo) (ps:List (List (Int × Int))) (l:List (Int × Int)) (K:Nat) (x:List Nat):List Int:=(List.range x.length).map fun (j:Nat)=>((xpP m ps l K).getD (x.getD j 0) (0,0)).1
def VdAns (w:World) (m:Mo) (ps:List (List (Int × Int))) (l:List (Int × Int)) (e:Ending) (w':World):Prop:=
 (tkcode m ps l=0/\(∃ K,ExDone m ps l K/\fairC (exGr m ps l K)=11)/\e=.returned (.tuple #[.agg #[.bool true,.slice none 0 0,.slice none 0 0],.int .i64 0])/\Below w.heap.size w w')\/
 (tkcode m ps l=0/\∃ K st lp A B,ExDone m ps l K/\LassoOk (exGr m ps l K) st lp/\st.length <= 20000/\lp.length <= 2000000/\e=.returned (.tuple #[.agg #[.bool false,.slice (some ⟨A,0,none⟩) st.length st.length,.slice (some ⟨B,0,none⟩) lp.length lp.length],.int .i64 0])/\Below w.heap.size w w'/\Hid (IntsV w' (.slice (some ⟨A,0,none⟩) st.length st.length) (stL m ps l K st)/\IntsV w' (.slice (some ⟨B,0,none⟩) lp.length lp.length) (stL m ps l K lp)))\/
 (tkcode m ps l=0/\ExFull m ps l/\e=.returned (.tuple #[.agg #[.bool false,.slice none 0 0,.slice none 0 0],.int .i64 12])/\Below w.heap.size w w')\/
 (tkcode m ps l≠0/\e=.returned (.tuple #[.agg #[.bool false,.slice none 0 0,.slice none 0 0],.int .i64 (tkcode m ps l)])/\Below w.heap.size w w')
end
def vcP (g f0 f1:Value) (G:Nat) (st lp:List Int) (ns np:Nat):Nat->Value->World->Prop
 | 0,v,_=>v=g
 | 1,v,_=>v=.pointer (some ⟨G,0,none⟩)
 | 2,v,_=>v=f0
 | 3,v,w=>∃ R,v=.slice (some ⟨R,0,none⟩) ns ns/\IntsV w v st
 | 4,v,_=>v=g
 | 5,v,_=>v=.pointer (some ⟨G,1,none⟩)
 | 6,v,_=>v=f1
 | 7,v,w=>∃ R,v=.slice (some ⟨R,0,none⟩) np np/\IntsV w v lp
 | 8,v,w=>∃ A B,v=.agg #[.slice (some ⟨A,0,none⟩) ns ns,.slice (some ⟨B,0,none⟩) np np]/\IntsV w (.slice (some ⟨A,0,none⟩) ns ns) st/\IntsV w (.slice (some ⟨B,0,none⟩) np np) lp
 | 9,v,w=>∃ A B,v=.agg #[.bool false,.slice (some ⟨A,0,none⟩) ns ns,.slice (some ⟨B,0,none⟩) np np]/\IntsV w (.slice (some ⟨A,0,none⟩) ns ns) st/\IntsV w (.slice (some ⟨B,0,none⟩) np np) lp
 | _,_,_=>True
theorem vc_lt:∀ i,i < 10->i=0\/i=1\/i=2\/i=3\/i=4\/i=5\/i=6\/i=7\/i=8\/i=9:=by intro i hi;omega
theorem vcP_stable (g f0 f1:Value) (G:Nat) (st lp:List Int) (ns np:Nat) (i:Nat) (v:Value) (w w':World) (hi:i < 10) (h:vcP g f0 f1 G st lp ns np i v w) (hb:Below w.heap.size w w'):vcP g f0 f1 G st lp ns np i v w':=by
 rcases vc_lt i hi with rfl | rfl | rfl | rfl | rfl | rfl | rfl | rfl | rfl | rfl
 ·exact h
 ·exact h
 ·exact h
 ·obtain ⟨R,h1,h2⟩:=h;exact ⟨R,h1,h2.below hb⟩
 ·exact h
 ·exact h
 ·exact h
 ·obtain ⟨R,h1,h2⟩:=h;exact ⟨R,h1,h2.below hb⟩
 ·obtain ⟨A,B,h1,h2,h3⟩:=h;exact ⟨A,B,h1,h2.below hb,h3.below hb⟩
 ·obtain ⟨A,B,h1,h2,h3⟩:=h;exact ⟨A,B,h1,h2.below hb,h3.below hb⟩
theorem IntsV.setBool {w:World} {v:Value} {l:List Int} {p:Addr} {b:Bool} (h:IntsV w v l) (hc:w.cell? p=some (.bool b)) (u:Value):IntsV (w.setCell p u) v l:=by
 obtain ⟨ao,cap,rfl,h⟩:=h;refine ⟨ao,cap,rfl,fun hne=>?_⟩
 obtain ⟨c,off,rfl,hlt,hat⟩:=h hne;refine ⟨c,off,rfl,by simpa using hlt,fun j hj=>?_⟩
 have h1:=hat j hj
 have hne2:(⟨c,off+j,none⟩:Addr)≠p:=by
  intro e;rw [e,hc] at h1;simp at h1
 rw [World.cell?_setCell_other _ _ _ _ hne2.symm]
 exact h1
theorem boxed {w:World} {v:Value} {x:List Int} {R:Nat} {b:Bool} {a1 a2:Option Addr} {n1 n2 c1 c2:Nat} (h:IntsV w v x) (k0:w.cell? ⟨R,0,none⟩=some (.bool b)) (k1:w.cell? ⟨R,1,none⟩=some (.slice a1 n1 c1)) (k2:w.cell? ⟨R,2,none⟩=some (.slice a2 n2 c2)) (u0 u1 u2:Value):IntsV (((w.setCell ⟨R,0,none⟩ u0).setCell ⟨R,1,none⟩ u1).setCell ⟨R,2,none⟩ u2) v x:=by
 have h0:=h.setBool k0 u0;have h1:=h0.setBox (p:=⟨R,1,none⟩) ((World.cell?_setCell_other _ _ _ _ (by simp)).trans k1) u1
 exact h1.setBox (p:=⟨R,2,none⟩) ((World.cell?_setCell_other _ _ _ _ (by simp)).trans ((World.cell?_setCell_other _ _ _ _ (by simp)).trans k2)) u2
def laB (sv lv:Value):Obj:=.cells #[sv,lv] 38 (0,0)
theorem laB_cells {w:World} {X:Nat} {sv lv:Value} (hb:w.heap[X]? = some (laB sv lv)):w.cell? ⟨X,0,none⟩=some sv/\w.cell? ⟨X,1,none⟩=some lv:=by
 unfold laB at hb;refine ⟨?_,?_⟩ <;> simp [World.cell?,hb]
theorem vcheck_bad (va vr pv fv:Value) (m:Mo) (ps:List (List (Int × Int))) (l:List (Int × Int)) (w:World) (hV:TaskV w va vr pv fv m ps l) (c:Int) (hc:c≠0) (hex:∀ w',Below w.heap.size w w'->Calls Tryz.prog 15 #[.agg #[va,vr,pv,fv]] w' fun e w2=>e=.returned (.tuple #[.agg #[.slice none 0 0,.int .i64 0,.slice none 0 0,.slice none 0 0,.int .i64 0],.int .i64 c])/\Below w'.heap.size w' w2) :
    Calls Tryz.prog 7 #[.agg #[va,vr,pv,fv]] w fun e w'=>e=.returned (.tuple #[.agg #[.bool false,.slice none 0 0,.slice none 0 0],.int .i64 c])/\Below w.heap.size w w':=by
  obtain ⟨ao,ac,rfl⟩:=hV.mo.1.shape;obtain ⟨ro,rc,rfl⟩:=hV.mo.2.shape;obtain ⟨po,pc,rfl⟩:=hV.ps.shape;obtain ⟨fo,fc,rfl,_⟩:=id hV.fo;clear hV;generalize m.vars.length=vn at *;generalize m.rules.length=rn at *;generalize ps.length=pn at *;generalize l.length=fn at *
  obtain ⟨W1,hW1⟩:∃ W1,W1=(w.alloc (.cells #[.slice ao vn ac,.slice ro rn rc,.slice po pn pc,.slice fo fn fc] 34)).alloc (.cells #[.bool false,.slice none 0 0,.slice none 0 0] 40):=⟨_,rfl⟩
  have hb1:Below w.heap.size w W1:=by rw [hW1];exact ((Below.refl _ _).alloc (Nat.le_refl _) _).alloc (by simp) _
  have hz1:W1.heap.size=w.heap.size+2:=by rw [hW1];simp
  have he:=hex W1 hb1
  have HBx:Hid (∀ w',Below W1.heap.size W1 w'->(w'.cell? ⟨w.heap.size+1,0,none⟩=some (.bool false)/\w'.cell? ⟨w.heap.size+1,1,none⟩=some (.slice none 0 0)/\w'.cell? ⟨w.heap.size+1,2,none⟩=some (.slice none 0 0))/\(w'.frozen? ⟨w.heap.size+1,0,none⟩=false/\w'.frozen? ⟨w.heap.size+1,1,none⟩=false/\w'.frozen? ⟨w.heap.size+1,2,none⟩=false)):=fun w' h=>by
    have hlt:w.heap.size+1 < W1.heap.size:=by omega
    refine ⟨⟨?_,?_,?_⟩,?_,?_,?_⟩
    · exact (h.cell (p:=⟨w.heap.size+1,0,none⟩) hlt).trans (by rw [hW1];simp [go_sem])
    · exact (h.cell (p:=⟨w.heap.size+1,1,none⟩) hlt).trans (by rw [hW1];simp [go_sem])
    · exact (h.cell (p:=⟨w.heap.size+1,2,none⟩) hlt).trans (by rw [hW1];simp [go_sem])
    · exact (h.frozen (p:=⟨w.heap.size+1,0,none⟩) hlt).trans (by rw [hW1];simp [go_sem])
    · exact (h.frozen (p:=⟨w.heap.size+1,1,none⟩) hlt).trans (by rw [hW1];simp [go_sem])
    · exact (h.frozen (p:=⟨w.heap.size+1,2,none⟩) hlt).trans (by rw [hW1];simp [go_sem])
  have HW1:=(show Hid (W1=_) from hW1)
  clear hW1 hex
  go_enter Tryz.func7,Tryz.ntmps7
  go_upto_region 2 with (go_at_call 15;rw [<- HW1.out];refine he.mono ?_;rintro e w2 ⟨rfl,hb2⟩)
  have hbA:Below w2.heap.size w2 (w2.alloc (.cells #[.slice none 0 0,.int .i64 0,.slice none 0 0,.slice none 0 0,.int .i64 0] 64)):=(Below.refl _ _).alloc (Nat.le_refl _) _;have hb3:=hb2.trans (hbA.mono hb2.size);generalize w2.alloc (.cells #[.slice none 0 0,.int .i64 0,.slice none 0 0,.slice none 0 0,.int .i64 0] 64)=W3 at *;obtain ⟨⟨r0,r1,r2⟩,f0,f1,f2⟩:=HBx.out W3 hb3
  have hbw3:=hb1.trans (hb3.mono hb1.size);have hcb:¬ c=0:=hc;clear HBx HW1 he
  go_wp2_with fail
  refine bodyPost_ret (v:=.tuple #[.agg #[.bool false,.slice none 0 0,.slice none 0 0],.int .i64 c]) ?_ rfl ⟨rfl,?_⟩
  · simp only [results,Tryz.results7]
    simp [go_sem,r0,r1,r2]
  · exact ((hbw3.setCell (p:=⟨w.heap.size+1,0,none⟩) (by show w.heap.size <= w.heap.size+1;omega) _).setCell (p:=⟨w.heap.size+1,1,none⟩) (by show w.heap.size <= w.heap.size+1;omega) _).setCell (p:=⟨w.heap.size+1,2,none⟩) (by show w.heap.size <= w.heap.size+1;omega) _
theorem vcheck_ok (va vr pv fv:Value) (m:Mo) (ps:List (List (Int × Int))) (l:List (Int × Int)) (w:World) (hB:0 < w.heap.size) (hT:TabAt w) (hV:TaskV w va vr pv fv m ps l) (hk:tkcode m ps l=0) (hnf:¬ ExFull m ps l) :
  Calls Tryz.prog 7 #[.agg #[va,vr,pv,fv]] w (VdAns w m ps l):=by
 obtain ⟨ao,ac,rfl⟩:=hV.mo.1.shape;obtain ⟨ro,rc,rfl⟩:=hV.mo.2.shape;obtain ⟨po,pc,rfl⟩:=hV.ps.shape;obtain ⟨fo,fc,rfl,_⟩:=id hV.fo;obtain ⟨W1,hW1⟩:∃ W1,W1=(w.alloc (.cells #[.slice ao m.vars.length ac,.slice ro m.rules.length rc,.slice po ps.length pc,.slice fo l.length fc] 34)).alloc (.cells #[.bool false,.slice none 0 0,.slice none 0 0] 40):=⟨_,rfl⟩
 have hb1:Below w.heap.size w W1:=by rw [hW1];exact ((Below.refl _ _).alloc (Nat.le_refl _) _).alloc (by simp) _
 have hz1:W1.heap.size=w.heap.size+2:=by rw [hW1];simp
 have hex:Calls Tryz.prog 15 #[.agg #[.slice ao m.vars.length ac,.slice ro m.rules.length rc,.slice po ps.length pc,.slice fo l.length fc]] W1 fun e w2=>∃ K so sc no nc xo xc,e=.returned (.tuple #[.agg #[.slice so K sc,.int .i64 ((begL m ps l).length:Nat),.slice no K nc,.slice xo K xc,.int .i64 ((aheadL l).length:Nat)],.int .i64 0])/\Below W1.heap.size W1 w2/\K <= 20000/\Hid (ExDone m ps l K/\GraphV w2 (.slice so K sc) (.slice no K nc) (.slice xo K xc) (exGr m ps l K)):=by
  refine (explore_any _ _ _ _ m ps l W1 (Nat.lt_of_lt_of_le hB hb1.size) (hT.below hb1 hB) (hV.below hb1)).mono fun e w2 hx=>?_
  rcases hx with ⟨_,K,hD,sv,nv,tv,e1,h2,HG⟩ | ⟨_,hf,_,_⟩ | ⟨h1,_,_⟩
  ·have hGr:=HG.out.graph
   obtain ⟨so,sc,rfl⟩:=HG.out.1.shape;obtain ⟨us,n1,_⟩:=HG.out.2.1;obtain ⟨no,nc,rfl⟩:=owns_slice n1;obtain ⟨xo,xc,rfl⟩:=owns_slice HG.out.2.2;rw [hD.1,xpN_len,xpT_len] at e1 hGr;exact ⟨K,so,sc,no,nc,xo,xc,e1,h2,hD.2.1,hD,hGr⟩
  ·exact absurd hf hnf
  ·exact absurd hk h1
 have HBx:Hid (∀ w',Below W1.heap.size W1 w'->(w'.cell? ⟨w.heap.size+1,0,none⟩=some (.bool false)/\w'.cell? ⟨w.heap.size+1,1,none⟩=some (.slice none 0 0)/\w'.cell? ⟨w.heap.size+1,2,none⟩=some (.slice none 0 0))/\(w'.frozen? ⟨w.heap.size+1,0,none⟩=false/\w'.frozen? ⟨w.heap.size+1,1,none⟩=false/\w'.frozen? ⟨w.heap.size+1,2,none⟩=false)):=fun w' h=>by
  have hlt:w.heap.size+1 < W1.heap.size:=by omega
  refine ⟨⟨?_,?_,?_⟩,?_,?_,?_⟩
  ·exact (h.cell (p:=⟨w.heap.size+1,0,none⟩) hlt).trans (by rw [hW1];simp [go_sem])
  ·exact (h.cell (p:=⟨w.heap.size+1,1,none⟩) hlt).trans (by rw [hW1];simp [go_sem])
  ·exact (h.cell (p:=⟨w.heap.size+1,2,none⟩) hlt).trans (by rw [hW1];simp [go_sem])
  ·exact (h.frozen (p:=⟨w.heap.size+1,0,none⟩) hlt).trans (by rw [hW1];simp [go_sem])
  ·exact (h.frozen (p:=⟨w.heap.size+1,1,none⟩) hlt).trans (by rw [hW1];simp [go_sem])
  ·exact (h.frozen (p:=⟨w.heap.size+1,2,none⟩) hlt).trans (by rw [hW1];simp [go_sem])
 have HLa:Hid (∀ (w':World) (so no xo:Option Addr) (sc nc xc K:Nat),ExDone m ps l K->GraphV w' (.slice so K sc) (.slice no K nc) (.slice xo K xc) (exGr m ps l K)->Calls Tryz.prog 16 #[.agg #[.slice so K sc,.int .i64 ((begL m ps l).length:Nat),.slice no K nc,.slice xo K xc,.int .i64 ((aheadL l).length:Nat)]] w' fun e w2=>∃ t0 tn tc uo un uc c,e=.returned (.tuple #[.agg #[.slice t0 tn tc,.slice uo un uc],.int .i64 c])/\Below w'.heap.size w' w2/\Hid (LassoV (exGr m ps l K) w2 (.agg #[.slice t0 tn tc,.slice uo un uc]) c)):=fun w' so no xo sc nc xc K hD hGr=>by
  have hok:=exGr_ok hk hD;have hc0:gcode (exGr m ps l K)=0:=gcode_ok hok.head hok.row;have e1:(exGr m ps l K).spots.length=K:=hD.1;have e2:(exGr m ps l K).next.length=K:=xpN_len K;have e3:(exGr m ps l K).sets.length=K:=xpT_len K;have h:=slasso_ok so no xo sc nc xc (exGr m ps l K) w' (exGr_le hk hD) (by rw [e1,e2,e3];exact hGr) hc0
  rw [e1,e2,e3] at h;refine h.mono fun e w2 ⟨v,c,g1,g2,g3⟩=>?_
  rcases id g3.out with ⟨_,_,rfl⟩ | ⟨_,_,t0,tc,uo,uc,st,lp,rfl,_⟩
  ·exact ⟨_,_,_,_,_,_,c,g1,g2,g3⟩
  ·exact ⟨_,_,_,_,_,_,c,g1,g2,g3⟩
 have HSt:Hid (∀ (w':World) (so no xo po:Option Addr) (sc nc xc pc K:Nat) (x:List Nat),ExDone m ps l K->OpsV w' (.slice so K sc) (xpP m ps l K)->NatsV w' (.slice po x.length pc) x->(∀ y∈x,y < K)->x.length <= 2000000->Calls Tryz.prog 17 #[.agg #[.slice so K sc,.int .i64 ((begL m ps l).length:Nat),.slice no K nc,.slice xo K xc,.int .i64 ((aheadL l).length:Nat)],.slice po x.length pc] w' fun e w2=>∃ R,e=.returned (.slice (some ⟨R,0,none⟩) x.length x.length)/\Below w'.heap.size w' w2/\Hid (IntsV w2 (.slice (some ⟨R,0,none⟩) x.length x.length) (stL m ps l K x))):=fun w' so no xo po sc nc xc pc K x hD hO hN hlt hz=>by
  have h:=statesAt_any so no xo po sc K nc K xc pc ((begL m ps l).length:Nat) ((aheadL l).length:Nat) (xpP m ps l K) x w' (by rw [hD.1];exact hO) hN (fun i hi=>by
   rw [hD.1];refine hlt _ ?_
   rw [List.getD_eq_getElem?_getD,List.getElem?_eq_getElem hi]
   exact List.getElem_mem _) hz (by rw [hD.1];exact hD.2.1)
  rw [hD.1] at h;exact h
 have HTk:Hid (tkcode m ps l=0):=hk;have HW1:=(show Hid (W1=_) from hW1)
 clear hW1 hV hT hk hnf;unfold VdAns;generalize hbl:(begL m ps l).length=bn at *;generalize hal:(aheadL l).length=an at *;generalize m.vars.length=vn at *;generalize m.rules.length=rn at *;generalize ps.length=pn at *;generalize l.length=fn at *;clear hbl hal
 go_enter Tryz.func7,Tryz.ntmps7
 go_upto_region 2 with (go_at_call 15;rw [<- HW1.out];refine hex.mono ?_;rintro e w2 ⟨K,so,sc,no,nc,xo,xc,rfl,hb2,hK,HD⟩)
 have hbA:Below w2.heap.size w2 (w2.alloc (.cells #[.slice so K sc,.int .i64 (bn:Nat),.slice no K nc,.slice xo K xc,.int .i64 (an:Nat)] 64)):=(Below.refl _ _).alloc (Nat.le_refl _) _
 have hbg:(w2.alloc (.cells #[.slice so K sc,.int .i64 (bn:Nat),.slice no K nc,.slice xo K xc,.int .i64 (an:Nat)] 64)).heap[w2.heap.size]? = some (grB (.slice so K sc) (.slice no K nc) (.slice xo K xc) (bn:Nat) (an:Nat)):=(MapKept.heap_alloc w2 _).1;have hb3:=hb2.trans (hbA.mono hb2.size)
 have HG3:Hid (GraphV (w2.alloc (.cells #[.slice so K sc,.int .i64 (bn:Nat),.slice no K nc,.slice xo K xc,.int .i64 (an:Nat)] 64)) (.slice so K sc) (.slice no K nc) (.slice xo K xc) (exGr m ps l K)):=HD.out.2.below hbA;have HDn:Hid (ExDone m ps l K):=HD.out.1;have hXw:W1.heap.size <= w2.heap.size:=hb2.size
 generalize w2.alloc (.cells #[.slice so K sc,.int .i64 (bn:Nat),.slice no K nc,.slice xo K xc,.int .i64 (an:Nat)] 64)=W3 at *;generalize w2.heap.size=X at *;have hla:=HLa.out W3 so no xo sc nc xc K HDn.out HG3.out;obtain ⟨g0,g1,g2,g3,g4⟩:=grB_cells hbg
 have HGb:Hid (W3.heap[X]? = some (grB (.slice so K sc) (.slice no K nc) (.slice xo K xc) (bn:Nat) (an:Nat))):=hbg;clear HD hex HLa hbA hbg HW1
 go_upto_region 5 with (go_at_call 16;refine hla.mono ?_;rintro e w4 ⟨t0,tn,tc,uo,un,uc,c,rfl,hb4,HL⟩)
 have hbB:Below w4.heap.size w4 (w4.alloc (.cells #[.slice t0 tn tc,.slice uo un uc] 38)):=(Below.refl _ _).alloc (Nat.le_refl _) _;have hbl5:(w4.alloc (.cells #[.slice t0 tn tc,.slice uo un uc] 38)).heap[w4.heap.size]? = some (laB (.slice t0 tn tc) (.slice uo un uc)):=(MapKept.heap_alloc w4 _).1;have hb35:=hb4.trans (hbB.mono hb4.size);have hb5:=hb3.trans (hb35.mono hb3.size)
 have hbw5:=hb1.trans (hb5.mono hb1.size);obtain ⟨⟨r0,r1,r2⟩,f0,f1,f2⟩:=HBx.out _ hb5;clear hla g0 g1 g2 g3 g4
 rcases HL.out with ⟨rfl,hfc,hv⟩ | ⟨rfl,hfc,t0',tc',uo',uc',st,lp,hv,hst,hlp,hLo,hN1,hN2⟩
 ·generalize w4.alloc (.cells #[.slice t0 tn tc,.slice uo un uc] 38)=W5 at *
  have HR:Hid (∃ K,ExDone m ps l K/\fairC (exGr m ps l K)=11):=⟨K,HDn.out,hfc⟩
  clear hfc hv HL HBx HSt HDn HG3 HGb hbl5
  go_wp2_with fail
  refine bodyPost_ret (v:=.tuple #[.agg #[.bool true,.slice none 0 0,.slice none 0 0],.int .i64 0]) ?_ rfl (.inl ⟨HTk.out,HR.out,rfl,?_⟩)
  ·simp only [results,Tryz.results7]
   simp [go_sem,r0,r1,r2]
  ·exact ((hbw5.setCell (p:=⟨w.heap.size+1,0,none⟩) (by show w.heap.size <= w.heap.size+1;omega) _).setCell (p:=⟨w.heap.size+1,1,none⟩) (by show w.heap.size <= w.heap.size+1;omega) _).setCell (p:=⟨w.heap.size+1,2,none⟩) (by show w.heap.size <= w.heap.size+1;omega) _
 ·simp only [Value.agg.injEq,Array.mk.injEq,List.cons.injEq,Value.slice.injEq,and_true] at hv
  obtain ⟨⟨rfl,rfl,rfl⟩,rfl,rfl,rfl⟩:=hv
  have hlo1:∀ y∈st,y < K:=fun y hy=>by
   have:=hLo.lt y (List.mem_append.2 (.inl hy));rw [show (exGr m ps l K).spots.length=K from HDn.out.1] at this
   exact this
  have hlo2:∀ y∈lp,y < K:=fun y hy=>by
   have:=hLo.lt y (List.mem_append.2 (.inr hy));rw [show (exGr m ps l K).spots.length=K from HDn.out.1] at this
   exact this
  have hN1b:=hN1.below hbB;have hN2b:=hN2.below hbB
  have HRw:Hid (∀ w',Below (w4.alloc (.cells #[.slice t0 st.length tc,.slice uo lp.length uc] 38)).heap.size (w4.alloc (.cells #[.slice t0 st.length tc,.slice uo lp.length uc] 38)) w'->((w'.cell? ⟨X,0,none⟩=some (.slice so K sc)/\w'.cell? ⟨X,1,none⟩=some (.int .i64 (bn:Nat))/\w'.cell? ⟨X,2,none⟩=some (.slice no K nc)/\w'.cell? ⟨X,3,none⟩=some (.slice xo K xc)/\w'.cell? ⟨X,4,none⟩=some (.int .i64 (an:Nat)))/\(w'.cell? ⟨w4.heap.size,0,none⟩=some (.slice t0 st.length tc)/\w'.cell? ⟨w4.heap.size,1,none⟩=some (.slice uo lp.length uc)))/\(Calls Tryz.prog 17 #[.agg #[.slice so K sc,.int .i64 (bn:Nat),.slice no K nc,.slice xo K xc,.int .i64 (an:Nat)],.slice t0 st.length tc] w' fun e w2=>∃ R,e=.returned (.slice (some ⟨R,0,none⟩) st.length st.length)/\Below w'.heap.size w' w2/\Hid (IntsV w2 (.slice (some ⟨R,0,none⟩) st.length st.length) (stL m ps l K st)))/\(Calls Tryz.prog 17 #[.agg #[.slice so K sc,.int .i64 (bn:Nat),.slice no K nc,.slice xo K xc,.int .i64 (an:Nat)],.slice uo lp.length uc] w' fun e w2=>∃ R,e=.returned (.slice (some ⟨R,0,none⟩) lp.length lp.length)/\Below w'.heap.size w' w2/\Hid (IntsV w2 (.slice (some ⟨R,0,none⟩) lp.length lp.length) (stL m ps l K lp)))/\Below W1.heap.size W1 w'):=fun w' h=>by
   have h3:=hb35.trans (h.mono hb35.size);have hbx:=(h3.block X (Array.getElem?_eq_some_iff.1 HGb.out).1).trans HGb.out
   have hbl:=(h.block w4.heap.size (Array.getElem?_eq_some_iff.1 hbl5).1).trans hbl5
   have hsp:=HG3.out.spots.below h3;exact ⟨⟨grB_cells hbx,laB_cells hbl⟩,HSt.out w' so no xo t0 sc nc xc tc K st HDn.out hsp (hN1b.below h) hlo1 (by omega),HSt.out w' so no xo uo sc nc xc uc K lp HDn.out hsp (hN2b.below h) hlo2 (by omega),hb5.trans (h.mono hb5.size)⟩
  have HLo:Hid (LassoOk (exGr m ps l K) st lp):=hLo;have HSz:Hid (st.length <= 20000/\lp.length <= 2000000):=⟨hst,hlp⟩;clear hN1 hN2 hN1b hN2b hlo1 hlo2 HL hbl5 HG3 HGb HSt hb35 hbB hLo hfc hst hlp;generalize w4.alloc (.cells #[.slice t0 st.length tc,.slice uo lp.length uc] 38)=W5 at *;generalize w4.heap.size=L5 at *;obtain ⟨ns,hns⟩:∃ n,st.length=n:=⟨_,rfl⟩
  obtain ⟨np,hnp⟩:∃ n,lp.length=n:=⟨_,rfl⟩
  obtain ⟨xs,hxs⟩:∃ x,stL m ps l K st=x:=⟨_,rfl⟩
  obtain ⟨xp,hxp⟩:∃ x,stL m ps l K lp=x:=⟨_,rfl⟩
  have HN:Hid ((st.length=ns/\lp.length=np)/\stL m ps l K st=xs/\stL m ps l K lp=xp):=⟨⟨hns,hnp⟩,hxs,hxp⟩;rw [hns,hnp,hxs,hxp] at HRw;rw [hns,hnp];clear hns hnp hxs hxp
  go_upto_region 9 with fail
  go_cut [3] (fun u wx=>u=.int .i64 0/\∃ A B,Hid (IntsV wx (.slice (some ⟨A,0,none⟩) ns ns) xs/\IntsV wx (.slice (some ⟨B,0,none⟩) np np) xp/\Below w.heap.size w wx)/\wx.cell? ⟨w.heap.size+1,0,none⟩=some (.bool false)/\wx.cell? ⟨w.heap.size+1,1,none⟩=some (.slice (some ⟨A,0,none⟩) ns ns)/\wx.cell? ⟨w.heap.size+1,2,none⟩=some (.slice (some ⟨B,0,none⟩) np np))
  case first=>
   rename_i J K' hJ hK';generalize ha0:Act.mk _ _=a0;have hsz:a0.tmps.size=38:=by rw [<- ha0];rfl
   have a4:a0.eval (.tmp 4)=.pointer (some ⟨X,0,none⟩):=by rw [<- ha0];rfl
   have a6:a0.eval (.tmp 6)=.pointer (some ⟨L5,0,none⟩):=by rw [<- ha0];rfl
   have a2:a0.eval (.tmp 2)=.pointer (some ⟨w.heap.size+1,0,none⟩):=by rw [<- ha0];rfl
   refine wp_anyway (by rfl) [28,29,30,31,32,33,34,35,36,37,3] 10 (vcP (.agg #[.slice so K sc,.int .i64 (bn:Nat),.slice no K nc,.slice xo K xc,.int .i64 (an:Nat)]) (.slice t0 ns tc) (.slice uo np uc) L5 xs xp ns np) (by rw [hsz];rfl) (vcP_stable _ _ _ _ _ _ _ _) ?_ ?_
   ·intro i o hi ho q w' hb hq
    have f:∀ t,[28,29,30,31,32,33,34,35,36,37,3].contains t=true->t < 38->(frm a0 [28,29,30,31,32,33,34,35,36,37,3] q).eval (.tmp t)=q t:=fun t h1 h2=>frm_in h1 (by rw [hsz];exact h2)
    have e4:(frm a0 [28,29,30,31,32,33,34,35,36,37,3] q).eval (.tmp 4)=.pointer (some ⟨X,0,none⟩):=(frm_out rfl).trans a4;have e6:(frm a0 [28,29,30,31,32,33,34,35,36,37,3] q).eval (.tmp 6)=.pointer (some ⟨L5,0,none⟩):=(frm_out rfl).trans a6;obtain ⟨⟨⟨x0,x1,x2,x3,x4⟩,y0,y1⟩,hs1,hs2,_⟩:=HRw.out w' hb
    obtain ⟨ev,hev⟩:∃ ev,ev=(frm a0 [28,29,30,31,32,33,34,35,36,37,3] q).eval:=⟨_,rfl⟩
    have evf:∀ n,ev (.func n)=.func (.func n) #[] #[]:=fun n=>by rw [hev];rfl
    rw [<- hev] at f e4 e6
    rcases vc_lt i hi with rfl | rfl | rfl | rfl | rfl | rfl | rfl | rfl | rfl | rfl
    all_goals obtain rfl:=Option.some.inj ho
    ·refine op_val (w':=w') ?_ (Below.refl _ _) rfl
     rw [<- hev];simp [execOp,e4,go_sem,x0,x1,x2,x3,x4]
    ·refine op_val (w':=w') ?_ (Below.refl _ _) rfl
     rw [<- hev];simp [execOp,e6,go_sem]
    ·have e29:=(f 29 rfl (by decide)).trans (hq 1 29 rfl rfl)
     refine op_val (w':=w') ?_ (Below.refl _ _) rfl
     rw [<- hev];simp [execOp,e29,go_sem,y0]
    ·have e28:=(f 28 rfl (by decide)).trans (hq 0 28 rfl rfl)
     have e30:=(f 30 rfl (by decide)).trans (hq 2 30 rfl rfl)
     refine op_call (f:=17) (args:=#[.agg #[.slice so K sc,.int .i64 (bn:Nat),.slice no K nc,.slice xo K xc,.int .i64 (an:Nat)],.slice t0 ns tc]) ?_ (hs1.mono ?_)
     ·rw [<- hev];simp [execOp,e28,e30,evf,go_sem]
     ·rintro e w2 ⟨R,rfl,h2,h3⟩
      exact ⟨_,rfl,h2,R,rfl,h3.out⟩
    ·refine op_val (w':=w') ?_ (Below.refl _ _) rfl
     rw [<- hev];simp [execOp,e4,go_sem,x0,x1,x2,x3,x4]
    ·refine op_val (w':=w') ?_ (Below.refl _ _) rfl
     rw [<- hev];simp [execOp,e6,go_sem]
    ·have e33:=(f 33 rfl (by decide)).trans (hq 5 33 rfl rfl)
     refine op_val (w':=w') ?_ (Below.refl _ _) rfl
     rw [<- hev];simp [execOp,e33,go_sem,y1]
    ·have e32:=(f 32 rfl (by decide)).trans (hq 4 32 rfl rfl)
     have e34:=(f 34 rfl (by decide)).trans (hq 6 34 rfl rfl)
     refine op_call (f:=17) (args:=#[.agg #[.slice so K sc,.int .i64 (bn:Nat),.slice no K nc,.slice xo K xc,.int .i64 (an:Nat)],.slice uo np uc]) ?_ (hs2.mono ?_)
     ·rw [<- hev];simp [execOp,e32,e34,evf,go_sem]
     ·rintro e w2 ⟨R,rfl,h2,h3⟩
      exact ⟨_,rfl,h2,R,rfl,h3.out⟩
    ·obtain ⟨A,hA,hA2⟩:=hq 3 31 rfl rfl
     obtain ⟨B,hB',hB2⟩:=hq 7 35 rfl rfl;have e31:=(f 31 rfl (by decide)).trans hA
     have e35:=(f 35 rfl (by decide)).trans hB'
     refine op_val (w':=w') (v:=.agg #[.slice (some ⟨A,0,none⟩) ns ns,.slice (some ⟨B,0,none⟩) np np]) ?_ (Below.refl _ _) ⟨A,B,rfl,by rw [<- hA];exact hA2,by rw [<- hB'];exact hB2⟩
     rw [<- hev];simp [execOp,e31,e35,go_sem]
    ·obtain ⟨A,B,hA,hA2,hB2⟩:=hq 8 36 rfl rfl
     have e36:=(f 36 rfl (by decide)).trans hA
     refine op_val (w':=w') (v:=.agg #[.bool false,.slice (some ⟨A,0,none⟩) ns ns,.slice (some ⟨B,0,none⟩) np np]) ?_ (Below.refl _ _) ⟨A,B,rfl,hA2,hB2⟩
     rw [<- hev];simp [execOp,e36,go_sem]
   ·intro q w' hb hq
    have f:∀ q t,[28,29,30,31,32,33,34,35,36,37,3].contains t=true->t < 38->(frm a0 [28,29,30,31,32,33,34,35,36,37,3] q).eval (.tmp t)=q t:=fun q t h1 h2=>frm_in h1 (by rw [hsz];exact h2)
    obtain ⟨A,B,h37,hA2,hB2⟩:=hq 9 37 (by decide) rfl
    have e37:=(f q 37 rfl (by decide)).trans h37
    have e2:(frm a0 [28,29,30,31,32,33,34,35,36,37,3] q).eval (.tmp 2)=.pointer (some ⟨w.heap.size+1,0,none⟩):=(frm_out rfl).trans a2;obtain ⟨_,_,_,hbW⟩:=HRw.out w' hb;obtain ⟨⟨k0,k1,k2⟩,l0,l1,l2⟩:=HBx.out w' hbW
    show wpOps Tryz.prog _ _ [10,11] _ _
    rw [wpOps_cons];refine op_atR rfl rfl ?_
    refine op_skip (w':=((w'.setCell ⟨w.heap.size+1,0,none⟩ (.bool false)).setCell ⟨w.heap.size+1,1,none⟩ (.slice (some ⟨A,0,none⟩) ns ns)).setCell ⟨w.heap.size+1,2,none⟩ (.slice (some ⟨B,0,none⟩) np np)) rfl ?_ ?_
    ·generalize (frm a0 [28,29,30,31,32,33,34,35,36,37,3] q).eval=ev at e37 e2 ⊢
     simp [execOp,e2,e37,go_sem,k0,k1,k2,l0,l1,l2]
    rw [wpOps_cons];refine op_atR rfl rfl ?_
    refine op_run (w':=((w'.setCell ⟨w.heap.size+1,0,none⟩ (.bool false)).setCell ⟨w.heap.size+1,1,none⟩ (.slice (some ⟨A,0,none⟩) ns ns)).setCell ⟨w.heap.size+1,2,none⟩ (.slice (some ⟨B,0,none⟩) np np)) (v:=.int .i64 0) ?_ ?_
    ·have evc:∀ v,(frm a0 [28,29,30,31,32,33,34,35,36,37,3] q).eval (.const v)=v:=fun v=>rfl
     generalize (frm a0 [28,29,30,31,32,33,34,35,36,37,3] q).eval=ev at evc ⊢;simp [execOp,evc,go_sem]
    rw [late_put 3 rfl rfl]
    show K' _ _
    refine hK' _ _ ?_
    rw [<- ha0]
    go_meet
    have hbF:=hb1.trans (hbW.mono hb1.size);have n0:∀ A',IntsV w' A' xs->IntsV (((w'.setCell ⟨w.heap.size+1,0,none⟩ (.bool false)).setCell ⟨w.heap.size+1,1,none⟩ (.slice (some ⟨A,0,none⟩) ns ns)).setCell ⟨w.heap.size+1,2,none⟩ (.slice (some ⟨B,0,none⟩) np np)) A' xs:=fun A' h=>boxed h k0 k1 k2 _ _ _
    have n1:∀ A',IntsV w' A' xp->IntsV (((w'.setCell ⟨w.heap.size+1,0,none⟩ (.bool false)).setCell ⟨w.heap.size+1,1,none⟩ (.slice (some ⟨A,0,none⟩) ns ns)).setCell ⟨w.heap.size+1,2,none⟩ (.slice (some ⟨B,0,none⟩) np np)) A' xp:=fun A' h=>boxed h k0 k1 k2 _ _ _
    refine ⟨setV_same q 3 _,A,B,⟨n0 _ hA2,n1 _ hB2,((hbF.setCell (p:=⟨w.heap.size+1,0,none⟩) (by show w.heap.size <= w.heap.size+1;omega) _).setCell (p:=⟨w.heap.size+1,1,none⟩) (by show w.heap.size <= w.heap.size+1;omega) _).setCell (p:=⟨w.heap.size+1,2,none⟩) (by show w.heap.size <= w.heap.size+1;omega) _⟩,?_,?_,?_⟩
    ·rw [World.cell?_setCell_other _ _ _ _ (by simp),World.cell?_setCell_other _ _ _ _ (by simp)]
     exact World.cell?_setCell_same _ _ _ k0
    ·rw [World.cell?_setCell_other _ _ _ _ (by simp)]
     refine World.cell?_setCell_same _ _ _ (u:=.slice none 0 0) ?_
     rw [World.cell?_setCell_other _ _ _ _ (by simp)]
     exact k1
    ·refine World.cell?_setCell_same _ _ _ (u:=.slice none 0 0) ?_
     rw [World.cell?_setCell_other _ _ _ _ (by simp),World.cell?_setCell_other _ _ _ _ (by simp)]
     exact k2
  case rest=>
   obtain ⟨rfl,A,B,HE,z0,z1,z2⟩:=hcut
   go_wp2_with fail
   obtain ⟨⟨hn1,hn2⟩,hx1,hx2⟩:=HN.out;refine bodyPost_ret (v:=.tuple #[.agg #[.bool false,.slice (some ⟨A,0,none⟩) ns ns,.slice (some ⟨B,0,none⟩) np np],.int .i64 0]) ?_ rfl (.inr (.inl ⟨HTk.out,K,st,lp,A,B,HDn.out,HLo.out,HSz.out.1,HSz.out.2,by rw [hn1,hn2],HE.out.2.2,by rw [hn1,hn2,hx1,hx2];exact ⟨HE.out.1,HE.out.2.1⟩⟩))
   simp only [results,Tryz.results7];simp [go_sem,z0,z1,z2]
theorem vcheck_any (va vr pv fv:Value) (m:Mo) (ps:List (List (Int × Int))) (l:List (Int × Int)) (w:World) (hB:0 < w.heap.size) (hT:TabAt w) (hV:TaskV w va vr pv fv m ps l) :
  Calls Tryz.prog 7 #[.agg #[va,vr,pv,fv]] w (VdAns w m ps l):=by
 by_cases hk:tkcode m ps l=0
 ·by_cases hf:ExFull m ps l
  ·refine (vcheck_bad va vr pv fv m ps l w hV 12 (by decide) fun w' h=>(explore_any va vr pv fv m ps l w' (Nat.lt_of_lt_of_le hB h.size) (hT.below h hB) (hV.below h)).mono fun e w2 hx=>?_).mono fun e w2 ⟨h1,h2⟩=>.inr (.inr (.inl ⟨hk,hf,h1,h2⟩))
   rcases hx with ⟨_,K,hD,_⟩ | ⟨_,_,h1,h2⟩ | ⟨h1,_,_⟩
   ·exact absurd hf (ex_not_both hD)
   ·exact ⟨h1,h2⟩
   ·exact absurd hk h1
  ·exact vcheck_ok va vr pv fv m ps l w hB hT hV hk hf
 ·refine (vcheck_bad va vr pv fv m ps l w hV (tkcode m ps l) hk fun w' h=>(explore_any va vr pv fv m ps l w' (Nat.lt_of_lt_of_le hB h.size) (hT.below h hB) (hV.below h)).mono fun e w2 hx=>?_).mono fun e w2 ⟨h1,h2⟩=>.inr (.inr (.inr ⟨hk,h1,h2⟩))
  rcases hx with ⟨h0,_⟩ | ⟨h0,_⟩ | ⟨_,h1,h2⟩
  ·exact absurd h0 hk
  ·exact absurd h0 hk
  ·exact ⟨h1,h2⟩
end Go.Proofs.YtfnobbpbmelgnaaGreatDoor
namespace Go.Proofs.YtfnobbpbmelgnaaGreatDoor
open Go.ChangeShapes Go.WideShapes Go.ChangeAt Go.RowKit Go.Deep
open Terms Tm
set_option maxHeartbeats 6400000
set_option maxRecDepth 20000
structure PRun (m:Mo) (path:List Int) (s:Nat):Prop where
 lt:s < path.length
 first:path.getD 0 0=begC m
 step:∀ i,i < path.length->path.getD (moAt s path.length (i+1)) 0∈nextL m (path.getD i 0)
structure PWay (m:Mo) (ps:List (List (Int × Int))) (l:List (Int × Int)) (K:Nat) (x:List Nat) (s:Nat):Prop where
 lt:s < x.length
 all:∀ i,i < x.length->x.getD i 0 < K
 first:x.getD 0 0 < (begL m ps l).length
 step:∀ i,i < x.length->x.getD (moAt s x.length (i+1)) 0∈nxt (exGr m ps l K) (x.getD i 0)
 met:∀ k,k < (aheadL l).length->∃ i,s <= i/\i < x.length/\bitB ((xpT m ps l K).getD (x.getD i 0) 0) k=true
section
variable {m : Mo} {ps : List (List (Int × Int))} {l : List (Int × Int)} {K : Nat}
noncomputable def spA (m:Mo) (ps:List (List (Int × Int))) (l:List (Int × Int)) (K i:Nat):Int × Int:=(xpP m ps l K).getD i (0,0)
theorem spA_mem (h:ExDone m ps l K) {i:Nat} (hi:i < K):spA m ps l K i∈xpP m ps l K:=by
 have hl:i < (xpP m ps l K).length:=by rw [h.1];exact hi
 unfold spA;rw [List.getD_eq_getElem?_getD,List.getElem?_eq_getElem hl]
 exact List.getElem_mem _
theorem spA_ok (h:ExDone m ps l K) {i:Nat} (hi:i < K):spOk m l (spA m ps l K i):=h.2.2.2 _ (spA_mem h hi)
theorem spA_idx {s:Int × Int} (hs:s∈xpP m ps l K):spA m ps l K ((xpP m ps l K).idxOf s)=s:=by
 have hi:=List.idxOf_lt_length_of_mem hs;unfold spA;rw [List.getD_eq_getElem?_getD,List.getElem?_eq_getElem hi]
 exact List.getElem_idxOf hi
theorem nxt_beh (h:ExDone m ps l K) {i j:Nat} (hi:i < K) (hj:j∈nxt (exGr m ps l K) i):spA m ps l K j∈xpBh m ps l (spA m ps l K i):=by
 obtain ⟨r1,r2⟩:=xpN_row h hi;unfold nxt at hj;obtain ⟨z,hz,rfl⟩:=List.mem_map.1 hj;have hz':z∈(xpN m ps l K).getD i []:=hz;obtain ⟨q,hq,e⟩:=List.getElem_of_mem hz';have hq':q < (xpBh m ps l ((xpP m ps l K).getD i (0,0))).length:=by rw [<- r1];exact hq
 obtain ⟨r3,r4⟩:=r2 q hq'
 have e2:((xpN m ps l K).getD i []).getD q 0=z:=by
  generalize (xpN m ps l K).getD i []=row at *;rw [List.getD_eq_getElem?_getD,List.getElem?_eq_getElem hq]
  exact e
 rw [<- e2,r3,Int.toNat_natCast,spA_idx r4];rw [List.getD_eq_getElem?_getD (l:=xpBh m ps l ((xpP m ps l K).getD i (0,0))),List.getElem?_eq_getElem hq']
 exact List.getElem_mem _
theorem foTo_in {x:List Bool} {c:Int} {y:List Bool} {st:Int} {d:Nat} (hf:folR l x c y (d:Int)=true):∀ k,d < k->(st,(d:Int))∈foTo l x c y st k
 | 0,h=>by omega
 | k+1,h=>by
  rw [foTo]
  by_cases e:d=k
  ·subst e
   rw [if_pos hf];exact List.mem_append_right _ (List.mem_singleton.2 rfl)
  ·have:=foTo_in hf (st:=st) k (by omega)
   split
   ·exact List.mem_append_left _ this
   ·exact this
theorem beh_in {code c y:Int} {d:Nat} (hy:y∈nextL m code) (hd:d < 2 ^ (aheadL l).length) (hf:folR l (letL m ps code) c (letL m ps y) (d:Int)=true):(y,(d:Int))∈behL m ps l code c:=by
 obtain ⟨q,hq,rfl⟩:=List.getElem_of_mem hy;have hg:(nextL m code).getD q 0=(nextL m code)[q]:=by rw [List.getD_eq_getElem?_getD,List.getElem?_eq_getElem hq];rfl
 have key:∀ i,q < i->i <= (nextL m code).length->((nextL m code)[q],(d:Int))∈behTo m ps l code c i:=fun i=>by
  induction i with
  | zero=>intro h;omega
  | succ i ih=>
   intro h1 h2;rw [behTo,List.mem_append]
   by_cases e:q=i
   ·subst e
    refine .inr ?_
    rw [hg];exact foTo_in hf _ hd
   ·exact .inl (ih (by omega) (by omega))
 exact key _ hq (Nat.le_refl _)
theorem beg_in {d:Nat} (hd:d < 2 ^ (aheadL l).length) (hf:tru l (letL m ps (begC m)) (d:Int) 0≠true):(begC m,(d:Int))∈begL m ps l:=by
 have key:∀ k,d < k->(begC m,(d:Int))∈begTo m ps l k:=fun k=>by
  induction k with
  | zero=>intro h;omega
  | succ k ih=>
   intro h;rw [begTo]
   by_cases e:d=k
   ·subst e
    rw [if_neg hf];exact List.mem_append_right _ (List.mem_singleton.2 rfl)
   ·have:=ih (by omega)
    split
    ·exact this
    ·exact List.mem_append_left _ this
 exact key _ hd
theorem tk_fol (hk:tkcode m ps l=0) {x y:Int} {c d:Nat} (hx:0 <= x/\x < prodTo m.vars m.vars.length) (hy:0 <= y/\y < prodTo m.vars m.vars.length) (hc:c < 2 ^ (aheadL l).length) (hd:d < 2 ^ (aheadL l).length):fcode l (letL m ps x) (c:Int) (letL m ps y) (d:Int)=0:=by
 unfold fcode;rw [if_neg (by rw [(tk_let hk hx).2,(tk_let hk hy).2];simp),if_neg (by rw [(tk_tru hk hx hc).1];simp)]
 exact (tk_tru hk hy hd).1
end
section
variable {m : Mo} {ps : List (List (Int × Int))} {l : List (Int × Int)} {K : Nat}
theorem beg_len0:(begL m ps l).length <= (xpP m ps l 0).length:=by
 show _ <= (plTo [] (begL m ps l)).length
 have hsub:begL m ps l ⊆ plTo [] (begL m ps l):=fun x hx=>(plTo_iff _ _ _).2 (.inr hx)
 exact (xbeg_nodup m ps l).length_le_of_subset hsub
theorem spA_beg {i:Nat} (hi:i < (begL m ps l).length):spA m ps l K i∈begL m ps l:=by
 have h0:i < (xpP m ps l 0).length:=Nat.lt_of_lt_of_le hi beg_len0;have e:spA m ps l K i=(xpP m ps l 0).getD i (0,0):=exS_at (begL m ps l) (xpBh m ps l) (Nat.zero_le K) h0;rw [e]
 have hm:(xpP m ps l 0).getD i (0,0)∈xpP m ps l 0:=by
  rw [List.getD_eq_getElem?_getD,List.getElem?_eq_getElem h0]
  exact List.getElem_mem _
 rcases (plTo_iff _ _ _).1 hm with h | h
 ·exact absurd h List.not_mem_nil
 ·exact h
theorem idx_beg {s:Int × Int} (hs:s∈begL m ps l):(xpP m ps l K).idxOf s < (begL m ps l).length/\s∈xpP m ps l K:=by
 have h0:s∈xpP m ps l 0:=(plTo_iff _ _ _).2 (.inr hs);have hpre:xpP m ps l 0 <+: xpP m ps l K:=exS_le _ _ (Nat.zero_le K);refine ⟨?_,hpre.subset h0⟩
 rw [idx_pre hpre h0];have h1:=List.idxOf_lt_length_of_mem h0
 have h2:(xpP m ps l 0).length <= (begL m ps l).length:=by
  have:=(plTo_length (begL m ps l) []).2
  show (plTo [] (begL m ps l)).length <= _
  simpa using this
 omega
theorem getD_map {α β:Type} (f:α->β) (x:List α) (d:α) (e:β) {i:Nat} (hi:i < x.length):(x.map f).getD i e=f (x.getD i d):=by
 simp [List.getD_eq_getElem?_getD,hi]
theorem sub_zero (T:Tm):T.sub 0=T:=by cases T <;> rfl
theorem way_run {T:Tm} (hw:T.Wf) (ho:T.ops=l) (hz:endsCode (l.map Prod.fst)=0) (hv:∀ q,q < l.length->(l.getD q (0,0)).1=13->0 <= (l.getD q (0,0)).2) (h8:∀ q,q < l.length->8 <= (l.getD q (0,0)).1) (hk:tkcode m ps l=0) (h:ExDone m ps l K) {x:List Nat} {s:Nat} (hx:PWay m ps l K x s) :
  PRun m (x.map fun i=>(spA m ps l K i).1) s/\T.hb (sig ((x.map fun i=>(spA m ps l K i).1).map (letL m ps)) s) 0=false:=by
 have hn:(x.map fun i=>(spA m ps l K i).1).length=x.length:=List.length_map _
 have hln:((x.map fun i=>(spA m ps l K i).1).map (letL m ps)).length=x.length:=by simp
 have hp:∀ i,i < x.length->(x.map fun i=>(spA m ps l K i).1).getD i 0=(spA m ps l K (x.getD i 0)).1:=fun i hi=>getD_map _ x 0 0 hi
 have hls:∀ i,i < x.length->((x.map fun i=>(spA m ps l K i).1).map (letL m ps)).getD i []=letL m ps (spA m ps l K (x.getD i 0)).1:=fun i hi=>by rw [getD_map _ _ 0 [] (by rw [hn];exact hi),hp i hi]
 have hmo:∀ i,moAt s x.length i < x.length:=fun i=>moAt_lt hx.lt
 have hbh:∀ i,i < x.length->spA m ps l K (x.getD (moAt s x.length (i+1)) 0)∈xpBh m ps l (spA m ps l K (x.getD i 0)):=fun i hi=>nxt_beh h (hx.all i hi) (hx.step i hi)
 have h0:0 < x.length:=Nat.lt_of_le_of_lt (Nat.zero_le _) hx.lt;obtain ⟨b1,d0,b2,b3,b4⟩:=xbg_mem _ (spA_beg (K:=K) hx.first);refine ⟨⟨by rw [hn];exact hx.lt,by rw [hp 0 h0];exact b1,fun i hi=>?_⟩,?_⟩
 ·rw [hn] at hi ⊢
  rw [hp i hi,hp _ (hmo _)];exact (xbe_mem _ (Nat.le_refl _) (hbh i hi)).1
 ·have hcl:=claims_only hw ho hz hv h8 (ls:=(x.map fun i=>(spA m ps l K i).1).map (letL m ps)) (s:=s) (by rw [hln];exact hx.lt) (fun i=>(spA m ps l K (x.getD i 0)).2) (fun i hi=>?_) (fun i hi p hp1 hb=>?_) (fun p hp1 hb=>?_)
  ·have hc0:=hcl 0 (by rw [hln];exact h0)
   have htr:=claims_tru hw ho hz hv h8 (ls:=(x.map fun i=>(spA m ps l K i).1).map (letL m ps)) (s:=s) (i:=0) (by rw [hln];exact h0) (p:=0) (tk_ne hk)
   rw [<- hc0,hls 0 h0,sub_zero,b1,b3] at htr;rw [<- htr]
   cases hb:tru l (letL m ps (begC m)) (d0:Int) 0 with
   | false=>rfl
   | true=>exact absurd hb b4
  ·rw [hln] at hi
   obtain ⟨_,d,g1,g2⟩:=spA_ok h (hx.all i hi);rw [g2];have:((2 ^ (aheadL l).length:Nat):Int)=(2:Int) ^ (aheadL l).length:=by push_cast;rfl
   rw [<- this];omega
  ·rw [hln] at hi ⊢
   obtain ⟨_,d,_,e2,e3⟩:=xbe_mem _ (Nat.le_refl _) (hbh i hi);rw [<- e2] at e3;rw [hls i hi,hls _ (hmo _)]
   have hF:Fol l (tru l (letL m ps (spA m ps l K (x.getD i 0)).1) (spA m ps l K (x.getD i 0)).2) (tru l (letL m ps (spA m ps l K (x.getD (moAt s x.length (i+1)) 0)).1) (spA m ps l K (x.getD (moAt s x.length (i+1)) 0)).2):=by
    by_cases hno:Fol l (tru l (letL m ps (spA m ps l K (x.getD i 0)).1) (spA m ps l K (x.getD i 0)).2) (tru l (letL m ps (spA m ps l K (x.getD (moAt s x.length (i+1)) 0)).1) (spA m ps l K (x.getD (moAt s x.length (i+1)) 0)).2)
    ·exact hno
    ·rw [folR_no hno] at e3;cases e3
   exact hF p hp1 hb
  ·obtain ⟨k1,k2⟩:=ahead_at hp1 hb
   obtain ⟨i,i1,i2,i3⟩:=hx.met _ k1;refine ⟨i,i1,by rw [hln];exact i2,?_⟩
   rw [hls i i2];obtain ⟨g0,d,g1,g2⟩:=spA_ok h (hx.all i i2);rw [xpT_get (hx.all i i2),xpAt_eq h (hx.all i i2)] at i3;have i4:bitB (metN l (letL m ps (spA m ps l K (x.getD i 0)).1) (spA m ps l K (x.getD i 0)).2) (aheadTo l p).length=true:=i3;rw [g2] at i4 ⊢;unfold metN at i4;rw [if_pos (tk_tru hk g0 g1).1,met_bit _ _ k1,k2] at i4;unfold waitAt at i4
   simp only [Int.toNat_natCast] at i4;simpa using i4
theorem run_way {T:Tm} (hw:T.Wf) (ho:T.ops=l) (hz:endsCode (l.map Prod.fst)=0) (hv:∀ q,q < l.length->(l.getD q (0,0)).1=13->0 <= (l.getD q (0,0)).2) (h8:∀ q,q < l.length->8 <= (l.getD q (0,0)).1) (hk:tkcode m ps l=0) (h:ExDone m ps l K) {path:List Int} {s:Nat} (hr:PRun m path s) (hno:T.hb (sig (path.map (letL m ps)) s) 0=false) :
  ∃ x:List Nat,x.length=path.length/\PWay m ps l K x s/\∀ i,i < path.length->spA m ps l K (x.getD i 0)=(path.getD i 0,clmTo (aheadL l) (fun q=>(T.sub q).hb (sig (path.map (letL m ps)) s)) i (aheadL l).length):=by
 obtain ⟨hm0,_⟩:=pcode_m (tk_zero hk).1;have hln:(path.map (letL m ps)).length=path.length:=List.length_map _;have hls:∀ i,i < path.length->(path.map (letL m ps)).getD i []=letL m ps (path.getD i 0):=fun i hi=>getD_map _ _ 0 [] hi
 have h0:0 < path.length:=Nat.lt_of_le_of_lt (Nat.zero_le _) hr.lt;have hmo:∀ i,moAt s path.length i < path.length:=fun i=>moAt_lt hr.lt
 obtain ⟨mine,hmine⟩:∃ mine:Nat->Int,mine=fun i=>clmTo (aheadL l) (fun q=>(T.sub q).hb (sig (path.map (letL m ps)) s)) i (aheadL l).length:=⟨_,rfl⟩
 obtain ⟨f1,f2⟩:=claims_fit hw ho hz hv h8 (ls:=path.map (letL m ps)) (s:=s) (by rw [hln];exact hr.lt) mine (fun i _=>by rw [hmine])
 rw [hln] at f1 f2;have hpw:((2 ^ (aheadL l).length:Nat):Int)=(2:Int) ^ (aheadL l).length:=by push_cast;rfl
 have hmd:∀ i,∃ d:Nat,d < 2 ^ (aheadL l).length/\mine i=(d:Int):=fun i=>by
  obtain ⟨c0,c1⟩:=clmTo_bounds (aheadL l) (fun q=>(T.sub q).hb (sig (path.map (letL m ps)) s)) i (aheadL l).length
  have e:mine i=clmTo (aheadL l) (fun q=>(T.sub q).hb (sig (path.map (letL m ps)) s)) i (aheadL l).length:=by rw [hmine]
  rw [<- e] at c0 c1;exact ⟨(mine i).toNat,by rw [<- hpw] at c1;omega,by omega⟩
 have hst:∀ i,i < path.length->0 <= path.getD i 0/\path.getD i 0 < prodTo m.vars m.vars.length:=fun i=>by
  induction i with
  | zero=>intro _;rw [hr.first];exact tk_beg hk
  | succ i ih=>
   intro hi;have h1:=hr.step i (by omega)
   rw [moAt_low hi] at h1;exact nextL_st hm0 (ih (by omega)) h1
 have hbh:∀ i,i < path.length->(path.getD (moAt s path.length (i+1)) 0,mine (moAt s path.length (i+1)))∈xpBh m ps l (path.getD i 0,mine i):=fun i hi=>by
  obtain ⟨c,c1,c2⟩:=hmd i;obtain ⟨d,d1,d2⟩:=hmd (moAt s path.length (i+1));rw [d2];refine beh_in (hr.step i hi) d1 ?_
  show folR l (letL m ps (path.getD i 0)) (mine i) (letL m ps (path.getD (moAt s path.length (i+1)) 0)) (d:Int)=true
  rw [<- d2];refine folR_yes ?_ ?_
  ·rw [c2,d2]
   exact tk_fol hk (hst i hi) (hst _ (hmo _)) c1 d1
  ·intro p hp hb
   have:=f1 i hi p hp hb;rw [hls i hi,hls _ (hmo _)] at this;exact this
 have hbeg:(path.getD 0 0,mine 0)∈begL m ps l:=by
  obtain ⟨d,d1,d2⟩:=hmd 0;rw [hr.first,d2];refine beg_in d1 ?_
  have htr:=claims_tru hw ho hz hv h8 (ls:=path.map (letL m ps)) (s:=s) (i:=0) (by rw [hln];exact h0) (p:=0) (tk_ne hk)
  have e:mine 0=clmTo (aheadL l) (fun q=>(T.sub q).hb (sig (path.map (letL m ps)) s)) 0 (aheadL l).length:=by rw [hmine]
  rw [<- e,hls 0 h0,sub_zero,hno,hr.first,d2] at htr;rw [htr]
  simp
 have hmem:∀ i,i < path.length->(path.getD i 0,mine i)∈xpP m ps l K:=fun i=>by
  induction i with
  | zero=>intro _;exact (idx_beg hbeg).2
  | succ i ih=>
   intro hi;have h1:=hbh i (by omega)
   rw [moAt_low hi] at h1;exact (exGr_step h (ih (by omega)) h1).1
 have hxl:((List.range path.length).map fun i=>(xpP m ps l K).idxOf (path.getD i 0,mine i)).length=path.length:=by simp
 have hx:∀ i,i < path.length->((List.range path.length).map fun i=>(xpP m ps l K).idxOf (path.getD i 0,mine i)).getD i 0=(xpP m ps l K).idxOf (path.getD i 0,mine i):=fun i hi=>by simp [List.getD_eq_getElem?_getD,hi]
 refine ⟨(List.range path.length).map fun i=>(xpP m ps l K).idxOf (path.getD i 0,mine i),hxl,⟨by rw [hxl];exact hr.lt,fun i hi=>?_,?_,fun i hi=>?_,fun k hkk=>?_⟩,fun i hi=>by rw [hx i hi,spA_idx (hmem i hi),hmine]⟩
 ·rw [hxl] at hi
  rw [hx i hi];have:=List.idxOf_lt_length_of_mem (hmem i hi);rw [h.1] at this;exact this
 ·rw [hx 0 h0]
  exact (idx_beg hbeg).1
 ·rw [hxl] at hi ⊢
  rw [hx i hi,hx _ (hmo _)];exact (exGr_step h (hmem i hi) (hbh i hi)).2
 ·obtain ⟨p,e1,e2,e3,e4⟩:=aheadTo_get l l.length k hkk
  have e1':(aheadL l).getD k 0=(p:Int):=e1;obtain ⟨i,i1,i2,i3⟩:=f2 p e2 e3;refine ⟨i,i1,by rw [hxl];exact i2,?_⟩
  have hiK:(xpP m ps l K).idxOf (path.getD i 0,mine i) < K:=by
   have:=List.idxOf_lt_length_of_mem (hmem i i2);rw [h.1] at this;exact this
  have hsp:spA m ps l K ((xpP m ps l K).idxOf (path.getD i 0,mine i))=(path.getD i 0,mine i):=spA_idx (hmem i i2);have hsp':(xpP m ps l K).getD ((xpP m ps l K).idxOf (path.getD i 0,mine i)) (0,0)=(path.getD i 0,mine i):=hsp;rw [hx i i2,xpT_get hiK,xpAt_eq h hiK,hsp'];simp only
  obtain ⟨d,d1,d2⟩:=hmd i;rw [hls i i2] at i3;unfold metN;rw [d2] at i3 ⊢;rw [if_pos (tk_tru hk (hst i i2) d1).1,met_bit _ _ hkk,e1'];unfold waitAt;simp only [Int.toNat_natCast];rw [i3];rfl
end
theorem bitB_nat (n i:Nat):bitB (n:Int) i=n.testBit i:=by
 unfold bitB;rw [Nat.testBit_eq_decide_div_mod_eq];have e:((n / 2 ^ i % 2:Nat):Int)=(n:Int) / 2 ^ i % 2:=by push_cast;rfl
 rw [<- e]
 apply decide_eq_decide.2
 omega
theorem Trail.at {nx:Nat->List Nat}:∀ {L:List Nat},Trail nx L->∀ i,i+1 < L.length->L.getD (i+1) 0∈nx (L.getD i 0)
 | [],_,i,h=>by simp at h
 | [_],_,i,h=>by simp at h
 | a:: b:: L,h,0,_=>by simpa using h.1
 | a:: b:: L,h,i+1,hi=>by
  have:=Trail.at (L:=b:: L) h.2 i (by simpa using hi)
  simpa using this
section
variable {m : Mo} {ps : List (List (Int × Int))} {l : List (Int × Int)} {K : Nat}
theorem exGr_bit {i k:Nat}:(sN (exGr m ps l K) i).testBit k=bitB ((xpT m ps l K).getD i 0) k\/(xpT m ps l K).getD i 0 < 0:=by
 by_cases h:(xpT m ps l K).getD i 0 < 0
 ·exact .inr h
 ·refine .inl ?_
  obtain ⟨n,hn⟩:∃ n:Nat,(xpT m ps l K).getD i 0=(n:Int):=⟨((xpT m ps l K).getD i 0).toNat,by omega⟩
  show ((xpT m ps l K).getD i 0).toNat.testBit k=_
  rw [hn,bitB_nat,Int.toNat_natCast]
theorem xpT_pos {i:Nat} (hi:i < K):¬ (xpT m ps l K).getD i 0 < 0:=by
 rw [xpT_get hi];have:=(metN_range l (letL m ps (xpAt m ps l i).1) (xpAt m ps l i).2).1;omega
theorem lasso_way (h:ExDone m ps l K) {st lp:List Nat} (hL:LassoOk (exGr m ps l K) st lp):PWay m ps l K (st++lp) st.length:=by
 have hK:(exGr m ps l K).spots.length=K:=h.1;have hlp:0 < lp.length:=List.length_pos_iff.2 hL.ne;have hn:(st++lp).length=st.length+lp.length:=List.length_append
 have hall:∀ i,i < (st++lp).length->(st++lp).getD i 0 < K:=fun i hi=>by
  have:=hL.lt ((st++lp).getD i 0) (by rw [List.getD_eq_getElem?_getD,List.getElem?_eq_getElem hi];exact List.getElem_mem _)
  rw [hK] at this;exact this
 have hg:∀ i,i < (st++lp).length->(st++lp++[lp.getD 0 0]).getD i 0=(st++lp).getD i 0:=fun i hi=>by
  simp only [List.getD_eq_getElem?_getD]
  rw [List.getElem?_append_left hi]
 have hlast:(st++lp++[lp.getD 0 0]).getD (st++lp).length 0=(st++lp).getD st.length 0:=by
  simp only [List.getD_eq_getElem?_getD]
  rw [List.getElem?_append_right (Nat.le_refl _),Nat.sub_self,List.getElem?_append_right (Nat.le_refl _),Nat.sub_self]
  rfl
 refine ⟨by omega,hall,?_,fun i hi=>?_,fun k hk=>?_⟩
 ·have:=hL.head
  have e:(exGr m ps l K).init=((begL m ps l).length:Nat):=rfl;rw [e] at this;omega
 ·have htr:=hL.trail.at i (by simp at hi ⊢;omega)
  rw [hg i hi] at htr
  by_cases hi2:i+1 < (st++lp).length
  ·rw [moAt_low hi2]
   rw [hg _ hi2] at htr;exact htr
  ·have e:i+1=(st++lp).length:=by omega
   have hm:moAt st.length (st++lp).length (i+1)=st.length:=by
    rw [e];unfold moAt;rw [if_neg (Nat.lt_irrefl _),Nat.mod_self];rfl
   rw [hm];rw [e,hlast] at htr;exact htr
 ·have hk':k < mN (exGr m ps l K):=by
   show k < (((aheadL l).length:Nat):Int).toNat
   rw [Int.toNat_natCast];exact hk
  obtain ⟨x,hx,hb⟩:=hL.bits k hk';obtain ⟨q,hq,rfl⟩:=List.getElem_of_mem hx;have hi:st.length+q < (st++lp).length:=by omega
  have hge:(st++lp).getD (st.length+q) 0=lp[q]:=by
   simp only [List.getD_eq_getElem?_getD]
   rw [List.getElem?_append_right (by omega),show st.length+q - st.length=q by omega,List.getElem?_eq_getElem hq]
   rfl
  refine ⟨st.length+q,by omega,hi,?_⟩
  rw [hge];have hlt:lp[q] < K:=by rw [<- hge];exact hall _ hi
  rcases exGr_bit (m:=m) (ps:=ps) (l:=l) (K:=K) (i:=lp[q]) (k:=k) with e | e
  ·rw [<- e];exact hb
  ·exact absurd e (xpT_pos hlt)
theorem way_fair (h:ExDone m ps l K) {x:List Nat} {s:Nat} (hx:PWay m ps l K x s):fairC (exGr m ps l K)=0:=by
 have hK:(exGr m ps l K).spots.length=K:=h.1
 have hfw:∀ i j,i <= j->j < x.length->Way (nxt (exGr m ps l K)) (x.getD i 0) (x.getD j 0):=fun i j hij=>by
  induction hij with
  | refl=>intro _;exact .stay
  | @step j hj ih=>
   intro hlt;have h1:=ih (by omega)
   have h2:=hx.step j (by omega)
   rw [moAt_low hlt] at h2;exact h1.step h2
 have hback:x.getD s 0∈nxt (exGr m ps l K) (x.getD (x.length - 1) 0):=by
  have h1:=hx.step (x.length - 1) (by have:=hx.lt;omega)
  have e:x.length - 1+1=x.length:=by have:=hx.lt;omega
  have hm:moAt s x.length x.length=s:=by
   unfold moAt;rw [if_neg (Nat.lt_irrefl _),Nat.mod_self];rfl
  rw [e,hm] at h1;exact h1
 have hlt:=hx.lt;have hmut:∀ i,s <= i->i < x.length->Mut (exGr m ps l K) (x.getD s 0) (x.getD i 0):=fun i h1 h2=>⟨hfw s i h1 h2,(hfw i (x.length - 1) (by omega) (by omega)).step hback⟩
 refine fair_some (x:=x.getD s 0) (by rw [hK];exact hx.all s hlt) ⟨⟨x.getD 0 0,?_,hfw 0 s (Nat.zero_le _) hlt⟩,⟨x.getD (x.length - 1) 0,x.getD s 0,hmut _ (by omega) (by omega),⟨.stay,.stay⟩,hback⟩,fun k hk=>?_⟩
 ·rw [List.mem_range]
  show x.getD 0 0 < (((begL m ps l).length:Nat):Int).toNat
  rw [Int.toNat_natCast];exact hx.first
 ·have hk':k < (aheadL l).length:=by
   have:k < (((aheadL l).length:Nat):Int).toNat:=hk;rw [Int.toNat_natCast] at this;exact this
  obtain ⟨i,i1,i2,i3⟩:=hx.met k hk';refine ⟨x.getD i 0,hmut i i1 i2,?_⟩
  rcases exGr_bit (m:=m) (ps:=ps) (l:=l) (K:=K) (i:=x.getD i 0) (k:=k) with e | e
  ·rw [e];exact i3
  ·exact absurd e (xpT_pos (hx.all i i2))
end
def AllKeep (m:Mo) (ps:List (List (Int × Int))) (T:Tm):Prop:=∀ (path:List Int) (s:Nat),PRun m path s->T.hb (sig (path.map (letL m ps)) s) 0=true
section
variable {m : Mo} {ps : List (List (Int × Int))} {l : List (Int × Int)} {K : Nat}
theorem keep_of_none {T:Tm} (hw:T.Wf) (ho:T.ops=l) (hz:endsCode (l.map Prod.fst)=0) (hv:∀ q,q < l.length->(l.getD q (0,0)).1=13->0 <= (l.getD q (0,0)).2) (h8:∀ q,q < l.length->8 <= (l.getD q (0,0)).1) (hk:tkcode m ps l=0) (h:ExDone m ps l K) (hf:fairC (exGr m ps l K)≠0):AllKeep m ps T:=fun path s hr=>by
 cases hb:T.hb (sig (path.map (letL m ps)) s) 0 with
 | true=>rfl
 | false=>
  obtain ⟨x,_,hx,_⟩:=run_way hw ho hz hv h8 hk h hr hb;exact absurd (way_fair h hx) hf
theorem not_keep {T:Tm} (hw:T.Wf) (ho:T.ops=l) (hz:endsCode (l.map Prod.fst)=0) (hv:∀ q,q < l.length->(l.getD q (0,0)).1=13->0 <= (l.getD q (0,0)).2) (h8:∀ q,q < l.length->8 <= (l.getD q (0,0)).1) (hk:tkcode m ps l=0) (h:ExDone m ps l K) {st lp:List Nat} (hL:LassoOk (exGr m ps l K) st lp):¬ AllKeep m ps T:=fun ha=>by
 obtain ⟨h1,h2⟩:=way_run hw ho hz hv h8 hk h (lasso_way h hL);rw [ha _ _ h1] at h2
 cases h2
theorem keep_yes (v:Int):AllKeep m ps (leaf 11 v):=fun _ _ _=>hb_yes _ _ _
end
section
variable {σ : Nat -> Nat -> Bool} {v : Int} {a b : Tm} {i : Nat}
end
theorem PropsFn_any (w:World):Calls Tryz.prog 37 #[] w fun e w2=>∃ pb,e=.returned (.slice (some ⟨pb,0,none⟩) 3 3)/\Below w.heap.size w w2/\Hid (TermsV w2 (.slice (some ⟨pb,0,none⟩) 3 3) propsL):=by
 have hp:=propsFn_any w
 go_enter Tryz.func37,Tryz.ntmps37
 go_wp2_with (go_at_call 13;refine hp.mono ?_;rintro e w2 ⟨pb,rfl,hb,hP⟩)
 go_ret
 exact ⟨pb,rfl,hb,hP⟩
def MdOk (w:World) (c0 c1 c2 c3 c4 c5 c6:Value) (m:Mo):Prop:=∀ w',Below w.heap.size w w'->Calls Tryz.prog 12 #[.agg #[c0,c1,c2,c3,c4,c5,c6]] w' fun e w2=>∃ ao ac ro rn rc,e=.returned (.agg #[.slice ao 2 ac,.slice ro rn rc])/\Below w'.heap.size w' w2/\Hid (ModelV w2 (.slice ao 2 ac) (.slice ro rn rc) m/\mcode m=0/\∀ j,j < m.rules.length->(m.rules.getD j ru0).guard≠[])
theorem mdOk {w:World} {c0 c1 c2 c3 c4 c5 c6:Value} {a b:Vr} {rules:List Ru} (hG:GV a b) (h:∀ w',Below w.heap.size w w'->Calls Tryz.prog 12 #[.agg #[c0,c1,c2,c3,c4,c5,c6]] w' fun e w2=>∃ va vr,e=.returned (.agg #[va,vr])/\Below w'.heap.size w' w2/\GModelR w2 va vr [a,b] rules):MdOk w c0 c1 c2 c3 c4 c5 c6 ⟨[a,b],rules⟩:=fun w' hb=>(h w' hb).mono fun e w2 ⟨va,vr,h1,h2,h3⟩=>by
 obtain ⟨ao,ac,ro,rn,rc,rfl,rfl,_⟩:=h3.gm.shape;obtain ⟨g1,g2,g3⟩:=h3;exact ⟨ao,ac,ro,rn,rc,h1,h2,g1,hG.mcode (by omega) g3,fun j hj=>rcode_guard (g3 j hj)⟩
theorem ttask_any (c0 c1 c2 c3 c4 c5 c6:Value) (m:Mo) (fo:Option Addr) (fn fc:Nat) (l:List (Int × Int)) (w:World) (hM:MdOk w c0 c1 c2 c3 c4 c5 c6 m) (hO:OpsV w (.slice fo fn fc) l) :
  Calls Tryz.prog 19 #[.agg #[c0,c1,c2,c3,c4,c5,c6],.slice fo fn fc] w fun e w'=>∃ ao ac ro rn rc pb,e=.returned (.agg #[.slice ao 2 ac,.slice ro rn rc,.slice (some ⟨pb,0,none⟩) 3 3,.slice fo fn fc])/\Below w.heap.size w w'/\Hid (TaskV w' (.slice ao 2 ac) (.slice ro rn rc) (.slice (some ⟨pb,0,none⟩) 3 3) (.slice fo fn fc) m propsL l/\mcode m=0):=by
 obtain ⟨W1,hW1⟩:∃ W1,W1=(w.alloc (.cells #[c0,c1,c2,c3,c4,c5,c6] 25)).alloc (.cells #[.slice none 0 0,.slice none 0 0,.slice none 0 0,.slice none 0 0] 34):=⟨_,rfl⟩
 have hb1:Below w.heap.size w W1:=by rw [hW1];exact ((Below.refl _ _).alloc (Nat.le_refl _) _).alloc (by simp) _
 have HBx:Hid (∀ w',Below (w.heap.size+2) W1 w'->(w'.cell? ⟨w.heap.size+1,0,none⟩=some (.slice none 0 0)/\w'.cell? ⟨w.heap.size+1,1,none⟩=some (.slice none 0 0)/\w'.cell? ⟨w.heap.size+1,2,none⟩=some (.slice none 0 0)/\w'.cell? ⟨w.heap.size+1,3,none⟩=some (.slice none 0 0))/\(w'.frozen? ⟨w.heap.size+1,0,none⟩=false/\w'.frozen? ⟨w.heap.size+1,1,none⟩=false/\w'.frozen? ⟨w.heap.size+1,2,none⟩=false/\w'.frozen? ⟨w.heap.size+1,3,none⟩=false)):=fun w' h=>by
  have hlt:w.heap.size+1 < w.heap.size+2:=by omega
  refine ⟨⟨?_,?_,?_,?_⟩,?_,?_,?_,?_⟩
  ·exact (h.cell (p:=⟨w.heap.size+1,0,none⟩) hlt).trans (by rw [hW1];simp [go_sem])
  ·exact (h.cell (p:=⟨w.heap.size+1,1,none⟩) hlt).trans (by rw [hW1];simp [go_sem])
  ·exact (h.cell (p:=⟨w.heap.size+1,2,none⟩) hlt).trans (by rw [hW1];simp [go_sem])
  ·exact (h.cell (p:=⟨w.heap.size+1,3,none⟩) hlt).trans (by rw [hW1];simp [go_sem])
  ·exact (h.frozen (p:=⟨w.heap.size+1,0,none⟩) hlt).trans (by rw [hW1];simp [go_sem])
  ·exact (h.frozen (p:=⟨w.heap.size+1,1,none⟩) hlt).trans (by rw [hW1];simp [go_sem])
  ·exact (h.frozen (p:=⟨w.heap.size+1,2,none⟩) hlt).trans (by rw [hW1];simp [go_sem])
  ·exact (h.frozen (p:=⟨w.heap.size+1,3,none⟩) hlt).trans (by rw [hW1];simp [go_sem])
 have hz1:W1.heap.size=w.heap.size+2:=by rw [hW1];simp
 have hmo:=hM W1 hb1;have HO:Hid (OpsV w (.slice fo fn fc) l):=hO;clear hM hO;subst hW1
 go_enter Tryz.func19,Tryz.ntmps19
 go_wp2_with (first
  | (go_at_call 12;refine hmo.mono ?_;rintro e w2 ⟨ao,ac,ro,rn,rc,rfl,hb2,HM⟩;have hbw2:=hb1.trans (hb2.mono hb1.size);have hpr:=PropsFn_any w2)
  | (go_at_call 37;refine hpr.mono ?_;rintro e w3 ⟨pb,rfl,hb3,HP⟩;have hbw3:=hbw2.trans (hb3.mono hbw2.size);have hb24:=hb2.trans (hb3.mono hb2.size);obtain ⟨⟨k0,k1,k2,k3⟩,g0,g1,g2,g3⟩:=HBx.out w3 (hb24.mono (by omega))))
 have hn:NilTo (w.heap.size+1) w3 ((((w3.setCell ⟨w.heap.size+1,0,none⟩ (.slice ao 2 ac)).setCell ⟨w.heap.size+1,1,none⟩ (.slice ro rn rc)).setCell ⟨w.heap.size+1,2,none⟩ (.slice (some ⟨pb,0,none⟩) 3 3)).setCell ⟨w.heap.size+1,3,none⟩ (.slice fo fn fc)):=by
  refine ⟨by simp,fun i v hv=>?_,fun b hb=>?_⟩
  ·have hblk:=(hb24.mono (show w.heap.size+2 <= _ by omega)).block (w.heap.size+1) (by omega)
   have hx:((w.alloc (.cells #[c0,c1,c2,c3,c4,c5,c6] 25)).alloc (.cells #[.slice none 0 0,.slice none 0 0,.slice none 0 0,.slice none 0 0] 34)).cell? ⟨w.heap.size+1,i,none⟩=some v:=by rw [<- hv];exact (World.cell?_of_block hblk).symm
   have hy:=(MapKept.heap_alloc (w.alloc (.cells #[c0,c1,c2,c3,c4,c5,c6] 25)) (.cells #[.slice none 0 0,.slice none 0 0,.slice none 0 0,.slice none 0 0] 34)).1;rw [World.size_alloc] at hy;simp only [World.cell?,hy] at hx
   have hi:i < 4:=by
    rcases Nat.lt_or_ge i 4 with h | h
    ·exact h
    ·simp [Array.getElem?_eq_none (show (#[Value.slice none 0 0,.slice none 0 0,.slice none 0 0,.slice none 0 0]:Array Value).size <= i from h)] at hx
   rcases (show i=0\/i=1\/i=2\/i=3 by omega) with rfl | rfl | rfl | rfl <;> simpa using hx.symm
  ·rw [RowKit.Below.heap_setCell _ _ _ _ hb,RowKit.Below.heap_setCell _ _ _ _ hb,RowKit.Below.heap_setCell _ _ _ _ hb,RowKit.Below.heap_setCell _ _ _ _ hb]
 obtain ⟨m1,m2,m4⟩:=HM.out
 refine bodyPost_ret (v:=.agg #[.slice ao 2 ac,.slice ro rn rc,.slice (some ⟨pb,0,none⟩) 3 3,.slice fo fn fc]) ?_ rfl ⟨ao,ac,ro,rn,rc,pb,rfl,(((hbw3.setCell (p:=⟨w.heap.size+1,0,none⟩) (by simp) _).setCell (p:=⟨w.heap.size+1,1,none⟩) (by simp) _).setCell (p:=⟨w.heap.size+1,2,none⟩) (by simp) _).setCell (p:=⟨w.heap.size+1,3,none⟩) (by simp) _,⟨⟨(m1.1.below hb3).nilTo hn,(m1.2.below hb3).nilTo m4 hn⟩,HP.out.nilTo (fun j hj=>?_) hn,(HO.out.below hbw3).nilTo hn⟩,m2⟩
 ·simp [results,Tryz.results19,go_sem,k0,k1,k2,k3]
 ·have hj3:j < 3:=hj
  rcases (show j=0\/j=1\/j=2 by omega) with rfl | rfl | rfl <;> simp [propsL]
def Kp (m:Mo) (T:Tm) (b:Bool):Prop:=(b=true↔AllKeep m propsL T)/\tkcode m propsL [(11,0)]=0
theorem few_spots {m:Mo} {a b:Vr} {l:List (Int × Int)} {mm:Nat} (hG:GV a b) (hk:KTaskOk m l mm) (hvars:m.vars=[a,b]):¬ ExFull m propsL l:=by
 have hspan:1 <= vspan a*vspan b/\vspan a*vspan b <= 16:=by
  have h1:1 <= vspan a/\vspan a <= 4:=by have:=hG.a2;have:=hG.a3;unfold vspan;omega
  have h2:1 <= vspan b/\vspan b <= 4:=by have:=hG.b2;have:=hG.b3;unfold vspan;omega
  obtain ⟨x1,x2⟩:=h1;obtain ⟨y1,y2⟩:=h2;generalize vspan a=x at *;generalize vspan b=y at *
  rcases (show x=1\/x=2\/x=3\/x=4 by omega) with rfl | rfl | rfl | rfl <;> omega
 have hah:(aheadL l).length=mm:=by obtain ⟨T,hT⟩:=hk.fo;exact hT.ahead
 refine xp_few (P:=(vspan a*vspan b).toNat) hk.code ?_ ?_
 ·rw [hvars]
  show prodTo [a,b] 2=_
  rw [prod_two];omega
 ·rw [hah]
  have:2 ^ mm <= 2 ^ 6:=Nat.pow_le_pow_right (by decide) hk.many
  have h3:(vspan a*vspan b).toNat * 2 ^ mm <= 16*64:=Nat.mul_le_mul (by omega) (by omega)
  omega
theorem vcheck_keep (va vr pv fv:Value) (m:Mo) (a b:Vr) (l:List (Int × Int)) (T:Tm) (mm:Nat) (w:World) (hB:0 < w.heap.size) (hT:TabAt w) (hV:TaskV w va vr pv fv m propsL l) (hG:GV a b) (hvars:m.vars=[a,b]) (hmc:mcode m=0) (hF:FOk mm l T) (hl:l.length <= 59) (hmm:mm <= 6) :
  Calls Tryz.prog 7 #[.agg #[va,vr,pv,fv]] w fun e w'=>∃ bb so sn sc lo ln lc,e=.returned (.tuple #[.agg #[.bool bb,.slice so sn sc,.slice lo ln lc],.int .i64 0])/\Below w.heap.size w w'/\Hid (Kp m T bb):=by
 have hv2:m.vars.length=2:=by rw [hvars];rfl
 have hK:KTaskOk m l mm:=⟨hmc,hv2,⟨T,hF⟩,hl,hmm⟩;have hk0:tkcode m propsL [(11,0)]=0:=(KTaskOk.mk hmc hv2 ⟨_,FOk.yes⟩ (by decide) (by decide):KTaskOk m [(11,0)] 0).code
 have hgv:=good_vals hF;have hz:=hF.ends (by omega)
 refine (vcheck_any va vr pv fv m propsL l w hB hT hV).mono fun e w' hx=>?_
 rcases hx with ⟨hk,⟨K,hD,hfc⟩,h1,h2⟩ | ⟨hk,K,st,lp,A,B,hD,hL,_,_,h1,h2,_⟩ | ⟨hk,hf,_,_⟩ | ⟨hk,_,_⟩
 ·exact ⟨true,_,_,_,_,_,_,h1,h2,⟨fun _=>keep_of_none hF.wf hF.ops hz hgv.1 hgv.2 hk hD (by rw [hfc];decide),fun _=>rfl⟩,hk0⟩
 ·exact ⟨false,_,_,_,_,_,_,h1,h2,⟨fun h=>(by cases h),fun h=>absurd h (not_keep hF.wf hF.ops hz hgv.1 hgv.2 hk hD hL)⟩,hk0⟩
 ·exact absurd hf (few_spots hG hK hvars)
 ·exact absurd hK.code hk
theorem tholds_any (c0 c1 c2 c3 c4 c5 c6:Value) (m:Mo) (a b:Vr) (fv:Value) (l:List (Int × Int)) (T:Tm) (mm:Nat) (w:World) (hB:0 < w.heap.size) (hT:TabAt w) (hG:GV a b) (hvars:m.vars=[a,b]) (hM:MdOk w c0 c1 c2 c3 c4 c5 c6 m) (hO:OpsV w fv l) (hF:FOk mm l T) (hl:l.length <= 59) (hmm:mm <= 6) :
  Calls Tryz.prog 9 #[.agg #[c0,c1,c2,c3,c4,c5,c6],fv] w fun e w'=>∃ bb,e=.returned (.tuple #[.bool bb,.bool true])/\Below w.heap.size w w'/\Hid (Kp m T bb):=by
 obtain ⟨fo,fc,rfl,_⟩:=id hO;have hA1:Below w.heap.size w (w.alloc (.cells #[c0,c1,c2,c3,c4,c5,c6] 25)):=(Below.refl _ _).alloc (Nat.le_refl _) _;have htk:=ttask_any c0 c1 c2 c3 c4 c5 c6 m fo l.length fc l _ (fun w' h=>hM w' (hA1.trans (h.mono hA1.size))) (hO.below hA1)
 have HVc:Hid (∀ (w':World) (va vr pv fv:Value),Below w.heap.size w w'->TaskV w' va vr pv fv m propsL l->mcode m=0->Calls Tryz.prog 7 #[.agg #[va,vr,pv,fv]] w' fun e w2=>∃ bb so sn sc lo ln lc,e=.returned (.tuple #[.agg #[.bool bb,.slice so sn sc,.slice lo ln lc],.int .i64 0])/\Below w'.heap.size w' w2/\Hid (Kp m T bb)):=fun w' va vr pv fv h hv hmc=>vcheck_keep va vr pv fv m a b l T mm w' (Nat.lt_of_lt_of_le hB h.size) (hT.below h hB) hv hG hvars hmc hF hl hmm
 clear hM hO hF hT;generalize l.length=fn at *
 go_enter Tryz.func9,Tryz.ntmps9
 go_wp2_with (first
  | (go_at_call 19;refine htk.mono ?_;rintro e w1 ⟨ao,ac,ro,rn,rc,pb,rfl,hb1,HV⟩;have hbw1:=hA1.trans (hb1.mono hA1.size);have hvc:=HVc.out w1 _ _ _ _ hbw1 HV.out.1 HV.out.2)
  | (go_at_call 7;refine hvc.mono ?_;rintro e w2 ⟨bb,so,sn,sc,lo,ln,lc,rfl,hb2,HK⟩))
 refine bodyPost_ret (v:=.tuple #[.bool bb,.bool true]) ?_ rfl ⟨bb,rfl,(hbw1.trans (hb2.mono hbw1.size)).alloc (Nat.le_trans hbw1.size hb2.size) _,HK⟩
 simp [results,Tryz.results9,go_sem]
def HoldsOk (w:World) (c0 c1 c2 c3 c4 c5 c6:Value) (m:Mo):Prop:=∀ (w':World) (fv:Value) (l:List (Int × Int)) (T:Tm) (mm:Nat),Below w.heap.size w w'->OpsV w' fv l->FOk mm l T->l.length <= 59->mm <= 6->Calls Tryz.prog 9 #[.agg #[c0,c1,c2,c3,c4,c5,c6],fv] w' fun e w2=>∃ bb,e=.returned (.tuple #[.bool bb,.bool true])/\Below w'.heap.size w' w2/\Hid (Kp m T bb)
theorem holdsOk {w:World} {c0 c1 c2 c3 c4 c5 c6:Value} {a b:Vr} {rules:List Ru} (hB:0 < w.heap.size) (hT:TabAt w) (hG:GV a b) (h:∀ w',Below w.heap.size w w'->Calls Tryz.prog 12 #[.agg #[c0,c1,c2,c3,c4,c5,c6]] w' fun e w2=>∃ va vr,e=.returned (.agg #[va,vr])/\Below w'.heap.size w' w2/\GModelR w2 va vr [a,b] rules):HoldsOk w c0 c1 c2 c3 c4 c5 c6 ⟨[a,b],rules⟩:=fun w' fv l T mm hb hO hF hl hmm=>
 tholds_any c0 c1 c2 c3 c4 c5 c6 ⟨[a,b],rules⟩ a b fv l T mm w' (Nat.lt_of_lt_of_le hB hb.size) (hT.below hb hB) hG rfl (fun w2 h2=>mdOk hG h w2 (hb.trans (h2.mono hb.size))) hO hF hl hmm
theorem run_states {m:Mo} {ps:List (List (Int × Int))} {l:List (Int × Int)} (hk:tkcode m ps l=0) {path:List Int} {s:Nat} (hr:PRun m path s):∀ i,i < path.length->0 <= path.getD i 0/\path.getD i 0 < prodTo m.vars m.vars.length:=by
 intro i
 induction i with
 | zero=>intro _;rw [hr.first];exact tk_beg hk
 | succ i ih=>
  intro hi;have h1:=hr.step i (by omega)
  rw [moAt_low hi] at h1;exact nextL_st (pcode_m (tk_zero hk).1).1 (ih (by omega)) h1
def bIdle:ByteArray:=⟨#[105,100,108,101]⟩
def bQX:ByteArray:=⟨#[113,120]⟩
def bQY:ByteArray:=⟨#[113,121,50]⟩
def nmV (s:ByteArray) (a:Vr):Vr:=⟨s,a.lo,a.hi,a.ini⟩
def idV (z:Int):Vr:=⟨bIdle,0,z,0⟩
def nmM (a b:Vr) (z:Int) (rules:List Ru):Mo:=⟨[nmV bQX a,nmV bQY b,idV z],rules⟩
theorem name_bQX:nameOk bQX=true:=by first | kernel_rfl | decide
theorem name_bQY:nameOk bQY=true:=by first | kernel_rfl | decide
theorem name_bIdle:nameOk bIdle=true:=by first | kernel_rfl | decide
theorem bq_ne:bQX≠bQY/\bQX≠bIdle/\bQY≠bIdle:=by
 refine ⟨?_,?_,?_⟩ <;>
 ·intro h
  have:=congrArg ByteArray.size h
  revert this
  first | (show 2=3->False;omega) | (show 2=4->False;omega) | (show 3=4->False;omega)
theorem fm_congr {α β:Type} {f g:α->Option β}:∀ {l:List α},(∀ x∈l,f x=g x)->l.filterMap f=l.filterMap g
 | [],_=>rfl
 | x:: l,h=>by rw [List.filterMap_cons,List.filterMap_cons,h x List.mem_cons_self,fm_congr fun y hy=>h y (List.mem_cons_of_mem _ hy)]
section
variable {a b : Vr} {z : Int} {rules : List Ru}
theorem nm_prod (a b:Vr) (z:Int):prodTo (nmM a b z rules).vars (nmM a b z rules).vars.length=vspan a*vspan b*(z+1):=by
 show ((1*vspan a)*vspan b)*(z - 0+1)=_
 rw [Int.one_mul,Int.sub_zero]
theorem nm_mcode (hG:GV a b) (hz:0 <= z/\z <= 4) (h5:rules.length <= 12) (hr:∀ j,j < rules.length->rcode 2 (rules.getD j ru0)=0):mcode (nmM a b z rules)=0:=by
 have h1:=hG.sa;have h2:=hG.sb
 have v0:vbound (nmV bQX a)=true:=by have:=hG.a0;have:=hG.a1;have:=hG.a2;have:=hG.a3;have:=hG.a4;have:=hG.a5;unfold vbound nmV;simp only [decide_eq_true_eq];omega
 have v1:vbound (nmV bQY b)=true:=by have:=hG.b0;have:=hG.b1;have:=hG.b2;have:=hG.b3;have:=hG.b4;have:=hG.b5;unfold vbound nmV;simp only [decide_eq_true_eq];omega
 have v2:vbound (idV z)=true:=by unfold vbound idV;simp only [decide_eq_true_eq];omega
 have hv:vcode (nmM a b z rules).vars=0:=by
  unfold vcode;rw [if_neg (by simp [nmM])]
  refine firstOf_none fun j hj=>?_
  have hj2:j=0\/j=1\/j=2:=by simp [nmM] at hj;omega
  have hp:=Int.mul_le_mul h1.2 h2.2 (by omega) (by omega)
  rcases hj2 with rfl | rfl | rfl
  ·refine (vAt_eq (l:=(nmM a b z rules).vars) (k:=0) rfl rfl).2.2.2.2 name_bQX rfl v0 ?_
   show ¬ (64 < vspan a\/4096 < 1*vspan a)
   omega
  ·refine (vAt_eq (l:=(nmM a b z rules).vars) (k:=1) rfl rfl).2.2.2.2 name_bQY ?_ v1 ?_
   ·show (decide (bQX=bQY)||false)=false
    simp [bq_ne.1]
   ·show ¬ (64 < vspan b\/4096 < (1*vspan a)*vspan b)
    rw [Int.one_mul];omega
  ·refine (vAt_eq (l:=(nmM a b z rules).vars) (k:=2) rfl rfl).2.2.2.2 name_bIdle ?_ v2 ?_
   ·show (decide (bQX=bIdle)||(decide (bQY=bIdle)||false))=false
    simp [bq_ne.2.1,bq_ne.2.2]
   ·show ¬ (64 < z - 0+1\/4096 < ((1*vspan a)*vspan b)*(z - 0+1))
    rw [Int.one_mul];have h3:vspan a*vspan b*(z - 0+1) <= 16*5:=Int.mul_le_mul hG.prod.2 (by omega) (by omega) (by omega)
    omega
 unfold mcode;rw [if_pos hv,if_neg (show ¬ 12 < (nmM a b z rules).rules.length by show ¬ 12 < rules.length;omega)]
 exact firstOf_none fun j hj=>rcode_more (show (2:Int) <= 3 by decide) (show (3:Int) <= 6 by decide) (hr j hj)
theorem eval_more {env:List Int} (hl:env.length=2) (y:Int):∀ {T:Tm},T.Good 2->T.eval (env++[y])=T.eval env
 | .leaf k v,hg=>by
  simp only [Tm.eval]
  by_cases h1:k=1
  ·rw [if_pos h1,if_pos h1]
  ·rw [if_neg h1,if_neg h1]
   by_cases h2:k=2
   ·rw [if_pos h2,if_pos h2]
    have hv:0 <= v/\v <= 2 - 1:=by
     rcases hg with hg | ⟨_,h3,h4⟩ | ⟨hg,_⟩
     ·exact absurd hg.1 h1
     ·exact ⟨h3,h4⟩
     ·omega
    rw [List.getD_eq_getElem?_getD,List.getElem?_append_left (by omega),<- List.getD_eq_getElem?_getD]
   ·rw [if_neg h2,if_neg h2]
 | .un _ _ x,hg=>by simp only [Tm.eval];rw [eval_more hl y hg.2.2]
 | .bi _ _ x x',hg=>by simp only [Tm.eval];rw [eval_more hl y hg.2.2.2.1,eval_more hl y hg.2.2.2.2]
theorem ex_more {env:List Int} (hl:env.length=2) (he:envBad env=false) {y:Int} (hy:-1000000 <= y/\y <= 1000000) {l:List (Int × Int)} {tr:Bool} (hk:kcode 2 l tr=0):exC l (env++[y])=exC l env/\exN l (env++[y])=exN l env:=by
 unfold kcode at hk
 by_cases hx:xcode 2 l (treeOf l)=0
 ·obtain ⟨_,_,hops,hg,ht,hsz⟩:=xcode_zero hx (treeOf_spec l)
  have h2:=xcode_good (vars:=3) (by decide) (by decide) (good_more (by decide:(2:Int) <= 3) hg) hsz
  rw [hops,if_pos ht] at h2;have e1:xcode (env.length:Nat) l (treeOf l)=0:=by rw [hl];exact hx
  have e2:xcode ((env++[y]).length:Nat) l (treeOf l)=0:=by rw [List.length_append,hl];exact h2
  have he2:envBad (env++[y])=false:=by
   unfold envBad at he ⊢;rw [List.any_append,he]
   simp
   omega
  have n1:¬ xcode (env.length:Nat) l (treeOf l)≠0:=by rw [e1];simp
  have n2:¬ xcode ((env++[y]).length:Nat) l (treeOf l)≠0:=by rw [e2];simp
  have n3:¬ envBad env=true:=by rw [he];simp
  have n4:¬ envBad (env++[y])=true:=by rw [he2];simp
  refine ⟨?_,?_⟩
  ·unfold exC evalC
   rw [if_neg n2,if_neg n4,if_neg n1,if_neg n3,eval_more hl y hg]
  ·unfold exN evalN
   rw [if_neg n2,if_neg n4,if_neg n1,if_neg n3,eval_more hl y hg]
 ·rw [if_neg hx] at hk
  exact absurd hk hx
theorem rule_more {r:Ru} (hr:rcode 2 r=0):kcode 2 r.guard true=0/\∀ j,j < r.sets.length->(0 <= (r.sets.getD j st0).var/\(r.sets.getD j st0).var < 2)/\kcode 2 (r.sets.getD j st0).val false=0:=by
 have h0:=(rule_sets hr).2;unfold rcode at hr
 split at hr
 ·simp at hr
 ·split at hr
  ·rename_i h2
   refine ⟨h2,fun j hj=>⟨h0 j hj,?_⟩⟩
   have h3:=firstOf_zero hr j hj;unfold sAt at h3
   split at h3
   ·simp at h3
   ·split at h3
    ·simp at h3
    ·exact h3
  ·rename_i h2
   exact absurd hr h2
theorem set_more {env:List Int} (hl:env.length=2) (he:envBad env=false) {y:Int} (hy:-1000000 <= y/\y <= 1000000) {r:Ru} (hr:rcode 2 r=0):∀ k,k <= r.sets.length->setTo (env++[y]) r.sets k=setTo env r.sets k++[y]
 | 0,_=>rfl
 | k+1,hk=>by
  obtain ⟨hv,hkc⟩:=(rule_more hr).2 k (by omega)
  simp only [setTo];rw [set_more hl he hy hr k (by omega),(ex_more hl he hy hkc).2,List.set_append_left _ _ (by rw [setTo_length];omega)]
theorem do_more {env:List Int} (hl:env.length=2) (he:envBad env=false) {y:Int} (hy:0 <= y/\y <= z) (hz:z <= 4) {r:Ru} (hr:rcode 2 r=0):ruleDo (nmM a b z rules).vars (env++[y]) r=(ruleDo [a,b] env r).map fun x=>x*(z+1)+y:=by
 have hy2:-1000000 <= y/\y <= 1000000:=by omega
 have hb:behindL (env++[y]) r=behindL env r++[y]:=set_more hl he hy2 hr _ (Nat.le_refl _);have hbl:(behindL env r).length=2:=by unfold behindL;rw [setTo_length,hl]
 have hg:holdsB r.guard (env++[y])=holdsB r.guard env:=by
  obtain ⟨g1,g2⟩:=ex_more hl he hy2 (rule_more hr).1;unfold holdsB;rw [g1,g2]
 have hs:setsOk (env++[y]) r↔setsOk env r:=by
  unfold setsOk
  constructor
  ·intro h j hj
   have:=h j hj;rw [(ex_more hl he hy2 ((rule_more hr).2 j hj).2).1] at this;exact this
  ·intro h j hj
   rw [(ex_more hl he hy2 ((rule_more hr).2 j hj).2).1];exact h j hj
 have e0:∀ i,i < 2->(behindL env r++[y]).getD i 0=(behindL env r).getD i 0:=fun i hi=>by rw [List.getD_eq_getElem?_getD,List.getElem?_append_left (by omega),<- List.getD_eq_getElem?_getD]
 have e2:(behindL env r++[y]).getD 2 0=y:=by
  rw [List.getD_eq_getElem?_getD,List.getElem?_append_right (by omega),hbl]
  rfl
 have hi:(∀ i,i < (nmM a b z rules).vars.length->inB (nmM a b z rules).vars (behindL env r++[y]) i)↔∀ i,i < ([a,b]:List Vr).length->inB [a,b] (behindL env r) i:=by
  constructor
  ·intro h i hi
   have hi2:i=0\/i=1:=by simp at hi;omega
   rcases hi2 with rfl | rfl
   ·have h0:=h 0 (by simp [nmM])
    unfold inB at h0 ⊢;rw [e0 0 (by decide)] at h0
    exact h0
   ·have h0:=h 1 (by simp [nmM])
    unfold inB at h0 ⊢;rw [e0 1 (by decide)] at h0
    exact h0
  ·intro h i hi
   have hi2:i=0\/i=1\/i=2:=by simp [nmM] at hi;omega
   rcases hi2 with rfl | rfl | rfl
   ·have h0:=h 0 (by simp)
    unfold inB at h0 ⊢;rw [e0 0 (by decide)]
    exact h0
   ·have h0:=h 1 (by simp)
    unfold inB at h0 ⊢;rw [e0 1 (by decide)]
    exact h0
   ·unfold inB
    rw [e2];exact hy
 have hc:codeTo (nmM a b z rules).vars (behindL env r++[y]) (nmM a b z rules).vars.length=codeTo [a,b] (behindL env r) ([a,b]:List Vr).length*(z+1)+y:=by
  show ((0*vspan a+((behindL env r++[y]).getD 0 0 - a.lo))*vspan b+((behindL env r++[y]).getD 1 0 - b.lo))*(z - 0+1)+((behindL env r++[y]).getD 2 0 - 0)=((0*vspan a+((behindL env r).getD 0 0 - a.lo))*vspan b+((behindL env r).getD 1 0 - b.lo))*(z+1)+y
  rw [e0 0 (by decide),e0 1 (by decide),e2,Int.sub_zero,Int.sub_zero]
 unfold ruleDo;rw [hb,hg]
 by_cases h:holdsB r.guard env=true/\setsOk env r/\∀ i,i < ([a,b]:List Vr).length->inB [a,b] (behindL env r) i
 ·rw [if_pos h,if_pos ⟨h.1,hs.2 h.2.1,hi.2 h.2.2⟩,hc]
  rfl
 ·rw [if_neg h,if_neg fun h2=>h ⟨h2.1,hs.1 h2.2.1,hi.1 h2.2.2⟩]
  rfl
theorem vals_more (hG:GV a b) {x y:Int} (hy:0 <= y/\y <= z):valsL (nmM a b z rules).vars (x*(z+1)+y)=valsL [a,b] x++[y]:=by
 have hz:0 < z+1:=by omega
 have hb:=hG.sb
 have d1:(x*(z+1)+y) / (z+1)=x:=by
  rw [Int.add_comm,Int.add_mul_ediv_right _ _ (by omega),Int.ediv_eq_zero_of_lt hy.1 (by omega),Int.zero_add]
 have d2:(x*(z+1)+y) % (z+1)=y:=by
  rw [Int.add_comm,Int.add_mul_emod_self_right,Int.emod_eq_of_lt hy.1 (by omega)]
 have d0:(x*(z+1)+y) / (vspan b*(z+1))=x / vspan b:=by
  rw [Int.mul_comm (vspan b),<- Int.ediv_ediv_of_nonneg (by omega),d1]
 show [a.lo+(x*(z+1)+y) / (1*vspan b*(z - 0+1)) % vspan a,b.lo+(x*(z+1)+y) / (1*(z - 0+1)) % vspan b,0+(x*(z+1)+y) / 1 % (z - 0+1)]=[a.lo+x / (1*vspan b) % vspan a,b.lo+x / 1 % vspan b,y]
 rw [Int.one_mul,Int.one_mul,Int.sub_zero,Int.ediv_one,Int.ediv_one,d0,d1,d2,Int.zero_add]
theorem next_more (hG:GV a b) (hr:∀ j,j < rules.length->rcode 2 (rules.getD j ru0)=0) (hz:z <= 4) {x y:Int} (hx:0 <= x/\x < vspan a*vspan b) (hy:0 <= y/\y <= z) (u:Int):u∈nextL (nmM a b z rules) (x*(z+1)+y)↔∃ t,t∈nextL ⟨[a,b],rules⟩ x/\u=t*(z+1)+y:=by
 obtain ⟨hl,he,_,_⟩:=vals_two hG hx
 have hraw:rawTo (nmM a b z rules).vars (valsL [a,b] x++[y]) rules rules.length=(rawTo [a,b] (valsL [a,b] x) rules rules.length).map fun t=>t*(z+1)+y:=by
  unfold rawTo;rw [List.map_filterMap];refine fm_congr fun r hm=>?_
  obtain ⟨j,hj,rfl⟩:=List.getElem_of_mem (List.mem_of_mem_take hm);have:=hr j hj;rw [List.getD_eq_getElem?_getD,List.getElem?_eq_getElem hj,Option.getD_some] at this
  exact do_more hl he hy hz this
 have hrl:rawL (nmM a b z rules) (x*(z+1)+y)=(rawL ⟨[a,b],rules⟩ x).map fun t=>t*(z+1)+y:=by
  unfold rawL;rw [vals_more hG hy,show (nmM a b z rules).rules=rules from rfl,hraw]
  show _=(if rawTo [a,b] (valsL [a,b] x) rules rules.length=[] then [x] else rawTo [a,b] (valsL [a,b] x) rules rules.length).map _
  generalize rawTo [a,b] (valsL [a,b] x) rules rules.length=q
  cases q with
  | nil=>rfl
  | cons t q=>rfl
 unfold nextL;rw [(upL_spec _).2,hrl,List.mem_map]
 constructor
 ·rintro ⟨t,ht,e⟩
  exact ⟨t,((upL_spec _).2 t).2 ht,e.symm⟩
 ·rintro ⟨t,ht,e⟩
  exact ⟨t,((upL_spec _).2 t).1 ht,e.symm⟩
theorem let_more (hG:GV a b) (hz:0 <= z/\z <= 4) {l l':List (Int × Int)} (hk:tkcode ⟨[a,b],rules⟩ propsL l=0) (hk':tkcode (nmM a b z rules) propsL l'=0) {x:Int} (hx:0 <= x/\x < vspan a*vspan b):letL (nmM a b z rules) propsL (x*(z+1))=letL ⟨[a,b],rules⟩ propsL x:=by
 obtain ⟨hl,he,_,_⟩:=vals_two hG hx
 have hp:0 <= x*(z+1)/\x*(z+1) < prodTo (nmM a b z rules).vars (nmM a b z rules).vars.length:=by
  rw [nm_prod];exact ⟨Int.mul_nonneg hx.1 (by omega),Int.mul_lt_mul_of_pos_right hx.2 (by omega)⟩
 have hp2:0 <= x/\x < prodTo ([a,b]:List Vr) ([a,b]:List Vr).length:=by
  show 0 <= x/\x < prodTo [a,b] 2
  rw [prod_two];exact hx
 have hv:=vals_more (rules:=rules) hG (x:=x) (y:=0) (z:=z) ⟨Int.le_refl 0,hz.1⟩;rw [Int.add_zero] at hv;unfold letL;rw [if_pos (tk_let hk' hp).1,if_pos (tk_let hk hp2).1,hv];have hpc:=(tk_zero hk).1;have hmc:=(pcode_m hpc).1;unfold pcode at hpc;rw [if_pos hmc,if_neg (by simp [propsL])] at hpc
 refine List.map_congr_left fun p hm=>?_
 obtain ⟨j,hj,rfl⟩:=List.getElem_of_mem hm;have hkc:=firstOf_zero hpc j hj;rw [List.getD_eq_getElem?_getD,List.getElem?_eq_getElem hj,Option.getD_some] at hkc
 obtain ⟨g1,g2⟩:=ex_more hl he (show -1000000 <= (0:Int)/\(0:Int) <= 1000000 by omega) hkc
 unfold holdsB
 show (decide (exC propsL[j] (valsL [a,b] x++[0])=0)&&decide (exN propsL[j] (valsL [a,b] x++[0])=1))=_
 rw [g1,g2]
theorem beg_more:begC (nmM a b z rules)=begC ⟨[a,b],rules⟩ * (z+1):=by
 show ((0*vspan a+(a.ini - a.lo))*vspan b+(b.ini - b.lo))*(z - 0+1)+(0 - 0)=((0*vspan a+(a.ini - a.lo))*vspan b+(b.ini - b.lo))*(z+1)
 rw [Int.sub_zero,Int.sub_zero,Int.add_zero]
theorem keep_more (hG:GV a b) (hr:∀ j,j < rules.length->rcode 2 (rules.getD j ru0)=0) (hz:0 <= z/\z <= 4) {l l':List (Int × Int)} {T:Tm} (hk:tkcode ⟨[a,b],rules⟩ propsL l=0) (hk':tkcode (nmM a b z rules) propsL l'=0):AllKeep (nmM a b z rules) propsL T↔AllKeep ⟨[a,b],rules⟩ propsL T:=by
 have hpr:prodTo ([a,b]:List Vr) ([a,b]:List Vr).length=vspan a*vspan b:=prod_two a b
 have nx:∀ x,0 <= x/\x < vspan a*vspan b->∀ u,u∈nextL (nmM a b z rules) (x*(z+1))↔∃ t,t∈nextL ⟨[a,b],rules⟩ x/\u=t*(z+1):=fun x hx u=>by
  have:=next_more (z:=z) hG hr hz.2 hx (y:=0) ⟨Int.le_refl 0,hz.1⟩ u;simpa only [Int.add_zero] using this
 constructor
 ·intro h path s hp
  have hst:=run_states hk hp;rw [show prodTo (Mo.mk [a,b] rules).vars (Mo.mk [a,b] rules).vars.length=_ from hpr] at hst
  have hp':PRun (nmM a b z rules) (path.map fun x=>x*(z+1)) s:=by
   have hg:∀ i,i < path.length->(path.map fun x=>x*(z+1)).getD i 0=path.getD i 0*(z+1):=fun i hi=>getD_map _ _ _ _ hi
   refine ⟨by rw [List.length_map];exact hp.lt,?_,fun i hi=>?_⟩
   ·rw [hg 0 (Nat.lt_of_le_of_lt (Nat.zero_le _) hp.lt),hp.first,beg_more]
   ·rw [List.length_map] at hi ⊢
    rw [hg _ (moAt_lt hp.lt),hg i hi];exact (nx _ (hst i hi) _).2 ⟨_,hp.step i hi,rfl⟩
  have h1:=h _ _ hp'
  have e:(path.map fun x=>x*(z+1)).map (letL (nmM a b z rules) propsL)=path.map (letL ⟨[a,b],rules⟩ propsL):=by
   rw [List.map_map];refine List.map_congr_left fun x hx=>?_
   obtain ⟨i,hi,rfl⟩:=List.getElem_of_mem hx;have hs:=hst i hi;rw [List.getD_eq_getElem?_getD,List.getElem?_eq_getElem hi,Option.getD_some] at hs
   exact let_more hG hz hk hk' hs
  rw [e] at h1;exact h1
 ·intro h path s hp
  have hz1:(0:Int) < z+1:=by omega
  have hst:∀ i,i < path.length->∃ x,(0 <= x/\x < vspan a*vspan b)/\path.getD i 0=x*(z+1):=by
   intro i
   induction i with
   | zero=>
    intro _;refine ⟨_,?_,hp.first.trans beg_more⟩
    rw [<- hpr];exact tk_beg hk
   | succ i ih=>
    intro hi;obtain ⟨x,hx,ex⟩:=ih (by omega)
    have h1:=hp.step i (by omega)
    rw [moAt_low hi,ex] at h1;obtain ⟨t,ht,et⟩:=(nx x hx _).1 h1;refine ⟨t,?_,et⟩
    rw [<- hpr] at hx ⊢;exact nextL_st (m:=⟨[a,b],rules⟩) (pcode_m (tk_zero hk).1).1 hx ht
  have hdv:∀ x:Int,x*(z+1) / (z+1)=x:=fun x=>Int.mul_ediv_cancel _ (by omega)
  have hg:∀ i,i < path.length->(path.map fun x=>x / (z+1)).getD i 0=path.getD i 0 / (z+1):=fun i hi=>getD_map _ _ _ _ hi
  have hp':PRun ⟨[a,b],rules⟩ (path.map fun x=>x / (z+1)) s:=by
   refine ⟨by rw [List.length_map];exact hp.lt,?_,fun i hi=>?_⟩
   ·rw [hg 0 (Nat.lt_of_le_of_lt (Nat.zero_le _) hp.lt),hp.first,beg_more,hdv]
   ·rw [List.length_map] at hi ⊢
    have h1:=hp.step i hi;rw [hg _ (moAt_lt hp.lt),hg i hi];obtain ⟨x,hx,ex⟩:=hst i hi;rw [ex] at h1 ⊢;obtain ⟨t,ht,et⟩:=(nx x hx _).1 h1;rw [et,hdv,hdv];exact ht
  have h1:=h _ _ hp'
  have e:(path.map fun x=>x / (z+1)).map (letL ⟨[a,b],rules⟩ propsL)=path.map (letL (nmM a b z rules) propsL):=by
   rw [List.map_map];refine List.map_congr_left fun x hx=>?_
   obtain ⟨i,hi,rfl⟩:=List.getElem_of_mem hx;obtain ⟨x,hx,ex⟩:=hst i hi;rw [List.getD_eq_getElem?_getD,List.getElem?_eq_getElem hi,Option.getD_some] at ex
   rw [Function.comp_apply,ex,hdv,let_more hG hz hk hk' hx]
  rw [e] at h1;exact h1
end
theorem nm_pcode {a b:Vr} {z:Int} {rules:List Ru} (hm:mcode (nmM a b z rules)=0):pcode (nmM a b z rules) propsL=0:=by
 unfold pcode;rw [if_pos hm,if_neg (by decide)]
 refine firstOf_none fun j hj=>?_
 have:j=0\/j=1\/j=2:=by simp [propsL] at hj;omega
 rcases this with rfl | rfl | rfl
 ·exact kcode_more (v:=2) (v':=3) (by decide) (by decide) (prop_code tp0_good (by decide) (by decide) (by decide))
 ·exact kcode_more (v:=2) (v':=3) (by decide) (by decide) (prop_code tp1_good (by decide) (by decide) (by decide))
 ·exact kcode_more (v:=2) (v':=3) (by decide) (by decide) (prop_code tp2_good (by decide) (by decide) (by decide))
theorem nm_vcheck {a b:Vr} {z:Int} {rules:List Ru} (va vr pv fv:Value) (l:List (Int × Int)) (T:Tm) (mm:Nat) (w:World) (hB:0 < w.heap.size) (hT:TabAt w) (hV:TaskV w va vr pv fv (nmM a b z rules) propsL l) (hG:GV a b) (hz:0 <= z/\z <= 4) (h5:rules.length <= 5) (hr:∀ j,j < rules.length->rcode 2 (rules.getD j ru0)=0) (hF:FOk mm l T) (hl:l.length <= 59) (hmm:mm <= 3) :
  Calls Tryz.prog 7 #[.agg #[va,vr,pv,fv]] w fun e w'=>∃ bb so sn sc lo ln lc,e=.returned (.tuple #[.agg #[.bool bb,.slice so sn sc,.slice lo ln lc],.int .i64 0])/\Below w.heap.size w w'/\Hid (∀ b1,Kp ⟨[a,b],rules⟩ T b1->b1=bb):=by
 have hmc:=nm_mcode (z:=z) hG hz (by omega) hr
 have hk0:∀ {l:List (Int × Int)} {T:Tm} {mm:Nat},FOk mm l T->l.length <= 60->mm <= 6->tkcode (nmM a b z rules) propsL l=0:=fun hF hl hm=>by
  unfold tkcode;rw [nm_pcode hmc,if_neg (by simp)]
  exact hF.code hl hm
 have hk1:=hk0 hF (by omega) (by omega)
 have hb:tkcode ⟨[a,b],rules⟩ propsL l=0:=(KTaskOk.mk (hG.mcode (by omega) hr) rfl ⟨T,hF⟩ hl (by omega):KTaskOk ⟨[a,b],rules⟩ l mm).code
 have hmore:=keep_more (T:=T) hG hr hz hb hk1;have hgv:=good_vals hF;have he:=hF.ends (by omega)
 refine (vcheck_any va vr pv fv (nmM a b z rules) propsL l w hB hT hV).mono fun e w' hx=>?_
 have fin:∀ bb:Bool,(bb=true↔AllKeep (nmM a b z rules) propsL T)->∀ b1,Kp ⟨[a,b],rules⟩ T b1->b1=bb:=fun bb h b1 h1=>by
  have h2:=(h1.1.trans hmore.symm).trans h.symm
  cases b1 <;> cases bb <;> simp_all
 rcases hx with ⟨hk,⟨K,hD,hfc⟩,h1,h2⟩ | ⟨hk,K,st,lp,A,B,hD,hL,_,_,h1,h2,_⟩ | ⟨hk,hf,_,_⟩ | ⟨hk,_,_⟩
 ·exact ⟨true,_,_,_,_,_,_,h1,h2,fin true ⟨fun _=>keep_of_none hF.wf hF.ops he hgv.1 hgv.2 hk hD (by rw [hfc];decide),fun _=>rfl⟩⟩
 ·exact ⟨false,_,_,_,_,_,_,h1,h2,fin false ⟨fun h=>(by cases h),fun h=>absurd h (not_keep hF.wf hF.ops he hgv.1 hgv.2 hk hD hL)⟩⟩
 ·have h3:0 <= vspan a*vspan b*(z+1)/\vspan a*vspan b*(z+1) <= 16*5:=⟨Int.mul_nonneg (by have:=hG.prod;omega) (by omega),Int.mul_le_mul hG.prod.2 (by omega) (by omega) (by omega)⟩
  have h6:(16:Int)*5=80:=rfl;refine absurd hf (xp_few (P:=(vspan a*vspan b*(z+1)).toNat) hk1 ?_ ?_)
  ·rw [nm_prod]
   exact (Int.toNat_of_nonneg h3.1).symm
  ·rw [hF.ahead]
   have h4:2 ^ mm <= 2 ^ 3:=Nat.pow_le_pow_right (by decide) hmm
   have h5:(vspan a*vspan b*(z+1)).toNat * 2 ^ mm <= 80*8:=Nat.mul_le_mul (by omega) (by omega)
   omega
 ·exact absurd hk1 hk
section
variable {o : Oper} {a : Act} {w : World} {Q : Exit -> Act -> World -> Prop} {m : Mo}
end
def DBox (w:World) (D:Nat) (c0 c1 c2 c3 c4 c5 c6:Value):Prop:=w.cell? ⟨D,0,none⟩=some c0/\w.cell? ⟨D,1,none⟩=some c1/\w.cell? ⟨D,2,none⟩=some c2/\w.cell? ⟨D,3,none⟩=some c3/\w.cell? ⟨D,4,none⟩=some c4/\w.cell? ⟨D,5,none⟩=some c5/\w.cell? ⟨D,6,none⟩=some c6
theorem DBox.below {w w':World} {D:Nat} {c0 c1 c2 c3 c4 c5 c6:Value} (h:DBox w D c0 c1 c2 c3 c4 c5 c6) (hb:Below w.heap.size w w'):DBox w' D c0 c1 c2 c3 c4 c5 c6:=by
 obtain ⟨h0,h1,h2,h3,h4,h5,h6⟩:=h;exact ⟨cell_later hb h0,cell_later hb h1,cell_later hb h2,cell_later hb h3,cell_later hb h4,cell_later hb h5,cell_later hb h6⟩
section
variable {m : Mo} {A B : Tm} {a b c d : Bool}
theorem kp_yes {v:Int} (h:Kp m (.leaf 11 v) a):a=true:=h.1.2 (keep_yes v)
end
end Go.Proofs.YtfnobbpbmelgnaaGreatDoor
namespace Go.Proofs.YtfnobbpbmelgnaaGreatDoor
open Go.ChangeShapes Go.WideShapes Go.ChangeAt Go.RowKit Go.Deep Go.Maps
open Terms Tm
set_option maxHeartbeats 6400000
set_option maxRecDepth 20000
def Lit (w:World) (base g:Nat) (cs:Array Value) (t:TypeId):Prop:=base <= g/\w.heap[g]? = some (.cells cs t (0,0))
theorem Lit.below {w w':World} {base g:Nat} {cs:Array Value} {t:TypeId} (h:Lit w base g cs t) (hb:Below w.heap.size w w'):Lit w' base g cs t:=
 ⟨h.1,(hb.block g (Array.getElem?_eq_some_iff.1 h.2).1).trans h.2⟩
theorem Lit.new {w:World} {base:Nat} (h:base <= w.heap.size) (cs:Array Value) (t:TypeId):Lit (w.alloc (.cells cs t)) base w.heap.size cs t:=⟨h,heap_new _ _⟩
theorem owns_put {w:World} {base g n cap s j:Nat} {e:TypeId} {xs:List Value} (h:w.ownsRow base e s (.slice (some ⟨g,0,none⟩) n cap) n xs) (y:Value):(w.setCell ⟨g,j,none⟩ y).ownsRow base e s (.slice (some ⟨g,0,none⟩) n cap) n (xs.set j y):=by
 refine ⟨by rw [List.length_set];exact h.1,?_⟩
 rcases h.2 with ⟨e1,_⟩ | ⟨g',cap',cur,e1,hb,hg,hnc,hcm,hcs,htake⟩
 ·cases e1
 ·injection e1 with e2 _ e3
  injection e2 with e2
  injection e2 with e2
  subst e2 e3;refine .inr ⟨g,cap,cur.setIfInBounds j y,rfl,hb,?_,hnc,hcm,by rw [Array.size_setIfInBounds];exact hcs,?_⟩
  ·simp [World.setCell,Array.getElem?_modify,hg]
  ·rw [Array.toList_setIfInBounds,List.take_set,htake]
def nmL (a b:Vr):Nat->List Vr
 | 0=>[a,b]
 | 1=>[nmV bQX a,b]
 | _=>[nmV bQX a,nmV bQY b]
theorem bq_x:(ByteArray.mk #[113])++bX=bQX:=by first | kernel_rfl | decide
theorem bq_y:(ByteArray.mk #[113])++bY=bQY:=by first | kernel_rfl | decide
structure NmJ (W4:World) (U B g cp:Nat) (vr pv fv:Value) (a b:Vr) (k:Nat) (w:World):Prop where
 box:w.heap[U]? = some (tkB (.slice (some ⟨g,0,none⟩) 2 cp) vr pv fv)
 row:w.ownsRow B 45 4 (.slice (some ⟨g,0,none⟩) 2 cp) 2 (vflat (nmL a b k))
 old:Below U W4 w
 ub:U < B
section
variable {W4 w : World} {U B g cp k : Nat} {vr pv fv : Value} {a b : Vr}
theorem NmJ.gb (h:NmJ W4 U B g cp vr pv fv a b k w):B <= g:=by
 rcases h.row.2 with ⟨e1,_⟩ | ⟨g',cap',cur,e1,hb,_⟩
 ·cases e1
 ·injection e1 with e2 _ e3
  injection e2 with e2
  injection e2 with e2
  subst e2;exact hb
theorem NmJ.free (h:NmJ W4 U B g cp vr pv fv a b k w) (i:Nat):w.frozen? ⟨g,i,none⟩=false:=by
 rcases h.row.2 with ⟨e1,_⟩ | ⟨g',cap',cur,e1,hb,hg,_⟩
 ·cases e1
 ·injection e1 with e2 _ e3
  injection e2 with e2
  injection e2 with e2
  subst e2;simp [World.frozen?,hg]
theorem NmJ.drew (h:NmJ W4 U B g cp vr pv fv a b k w):NmJ W4 U B g cp vr pv fv a b k w.drew:=⟨h.box,h.row,h.old.drew,h.ub⟩
theorem NmJ.name0 (h:NmJ W4 U B g cp vr pv fv a b 0 w):w.cell? ⟨g,0,none⟩=some (.string a.name)/\NmJ W4 U B g cp vr pv fv a b 1 (w.setCell ⟨g,0,none⟩ (.string bQX)):=by
 have hgb:=h.gb;have hub:=h.ub;refine ⟨by rw [h.row.cellAt 0 (by decide)];rfl,?_,owns_put h.row (.string bQX),h.old.setCell (p:=⟨g,0,none⟩) (show U <= g by omega) _,hub⟩
 rw [Below.heap_setCell _ _ _ _ (show U≠g by omega)]
 exact h.box
theorem NmJ.name1 (h:NmJ W4 U B g cp vr pv fv a b 1 w):w.cell? ⟨g,4,none⟩=some (.string b.name)/\NmJ W4 U B g cp vr pv fv a b 2 (w.setCell ⟨g,4,none⟩ (.string bQY)):=by
 have hgb:=h.gb;have hub:=h.ub;refine ⟨by rw [h.row.cellAt 4 (by decide)];rfl,?_,owns_put h.row (.string bQY),h.old.setCell (p:=⟨g,4,none⟩) (show U <= g by omega) _,hub⟩
 rw [Below.heap_setCell _ _ _ _ (show U≠g by omega)]
 exact h.box
end
theorem tkB_vars {w:World} {X:Nat} {va vr pv fv:Value} (hb:w.heap[X]? = some (tkB va vr pv fv)) (v:Value):(w.setCell ⟨X,0,none⟩ v).heap[X]? = some (tkB v vr pv fv):=by
 unfold tkB at *;simp [World.setCell,Array.getElem?_modify,hb]
def NmE (W4:World) (U:Nat) (vr pv fv:Value) (vs:List Vr) (w:World):Prop:=∃ g cp,VarsV w (.slice (some ⟨g,0,none⟩) 3 cp) vs/\w.heap[U]? = some (tkB (.slice (some ⟨g,0,none⟩) 3 cp) vr pv fv)/\Below U W4 w
def nmX (wr W4:World) (U B g cp:Nat) (vr pv fv:Value) (xs:List Value) (b:Bool) (w:World):Prop:=w.heap[U]? = some (tkB (.slice (some ⟨g,0,none⟩) 2 cp) vr pv fv)/\Below U W4 w/\wr.heap.size <= w.heap.size/\(b=false->w.ownsRow B 45 4 (.slice (some ⟨g,0,none⟩) 2 cp) 2 xs)/\U < w.heap.size
theorem nmX_keep {wr W4 w w':World} {U B g cp:Nat} {vr pv fv:Value} {xs:List Value} {b:Bool} (h:nmX wr W4 U B g cp vr pv fv xs b w) (hb:Below w.heap.size w w'):nmX wr W4 U B g cp vr pv fv xs b w':=by
 obtain ⟨h1,h2,h3,h4,h5⟩:=h;exact ⟨(hb.block U h5).trans h1,h2.trans (hb.mono (Nat.le_of_lt h5)),Nat.le_trans h3 hb.size,fun e=>owns_later (h4 e) hb (Nat.le_refl _),Nat.lt_of_lt_of_le h5 hb.size⟩
def nmP (wr:World) (U B:Nat) (va:Value) (x k:Int) (xs:List Value):Nat->Value->World->Prop
 | 2,v,_=>v=va
 | 3,v,_=>v=.int .i64 x
 | 4,v,_=>v=.int .i64 k
 | 5,v,_=>v=.agg #[.string bIdle,.int .i64 0,.int .i64 k,.int .i64 0]
 | 6,v,w=>∃ g,v=.slice (some ⟨g,0,none⟩) 1 1/\Lit w wr.heap.size g #[.string bIdle,.int .i64 0,.int .i64 k,.int .i64 0] 45
 | 7,v,w=>∃ g cp,v=.slice (some ⟨g,0,none⟩) 3 cp/\w.ownsRow B 45 4 v 3 (xs++[.string bIdle,.int .i64 0,.int .i64 k,.int .i64 0])
 | _,v,_=>v=.pointer (some ⟨U,0,none⟩)
theorem ten_cases {i:Nat} (h:i < 10):i=0\/i=1\/i=2\/i=3\/i=4\/i=5\/i=6\/i=7\/i=8\/i=9:=by omega
section
variable {wr w w' : World} {U B : Nat} {va : Value} {x k : Int} {xs : List Value}
theorem nmP_stable (i:Nat) (v:Value) (hi:i < 10) (h:nmP wr U B va x k xs i v w) (hb:Below w.heap.size w w'):nmP wr U B va x k xs i v w':=by
 rcases ten_cases hi with rfl | rfl | rfl | rfl | rfl | rfl | rfl | rfl | rfl | rfl
 case inr.inr.inr.inr.inr.inr.inl=>obtain ⟨g,h1,h2⟩:=h;exact ⟨g,h1,h2.below hb⟩
 case inr.inr.inr.inr.inr.inr.inr.inl=>obtain ⟨g,cp,h1,h2⟩:=h;exact ⟨g,cp,h1,owns_later h2 hb (Nat.le_refl _)⟩
 all_goals exact h
theorem nmP_grown {row:Option Nat} (i:Nat) (v:Value) (hi:i < 10) (h7:i≠7) (h:nmP wr U B va x k xs i v w) (hg:w.grownBy w' row) (hr:∀ g,row=some g->g < wr.heap.size):nmP wr U B va x k xs i v w':=by
 rcases ten_cases hi with rfl | rfl | rfl | rfl | rfl | rfl | rfl | rfl | rfl | rfl
 case inr.inr.inr.inr.inr.inr.inl=>
  obtain ⟨g,h1,h2,h3⟩:=h;exact ⟨g,h1,h2,(hg.block g (Array.getElem?_eq_some_iff.1 h3).1 (fun e=>by have:=hr g e.symm;omega)).trans h3⟩
 case inr.inr.inr.inr.inr.inr.inr.inl=>exact absurd rfl h7
 all_goals exact h
end
end Go.Proofs.YtfnobbpbmelgnaaGreatDoor
namespace Go.Proofs.YtfnobbpbmelgnaaGreatDoor
open Go.ChangeShapes Go.WideShapes Go.ChangeAt Go.RowKit Go.Deep
open Terms Tm
set_option maxHeartbeats 6400000
set_option maxRecDepth 20000
theorem Picked_is (n many:Int) (w:World) (hn:I64 n) (hm:0 < many) (hm2:many <= 10000) :
  Calls Tryz.prog 8 #[.int .i64 n,.int .i64 many] w fun e w'=>e=.returned (.int .i64 (pk n many))/\w'=w:=by
 have hp:=picked_is n many w hn hm hm2;generalize pk n many=r at *
 go_enter Tryz.func8,Tryz.ntmps8
 go_wp2_with (go_at_call 18;refine hp.mono ?_;rintro e w1 ⟨rfl,rfl⟩)
 go_ret
 exact ⟨rfl,rfl⟩
section
variable {o : Oper} {a : Act} {w : World} {Q : Exit -> Act -> World -> Prop} {m : Mo}
end
end Go.Proofs.YtfnobbpbmelgnaaGreatDoor
namespace Go.Proofs.YtfnobbpbmelgnaaGreatDoor
open Go.ChangeShapes Go.WideShapes Go.ChangeAt Go.RowKit Go.Deep Go.Maps
open Terms Tm
set_option maxHeartbeats 6400000
set_option maxRecDepth 20000
theorem topNames_walk (c0 c1 c2 c3 c4 c5 c6:Value) (a b:Vr) (rules:List Ru) (rawv:Value) (rs:List (Int × Int)) (x:Int) (w:World) (hB:0 < w.heap.size) (hT:TabAt w) (hG:GV a b) (hR:Raws w w.heap.size rawv rs) (hx:I64 x)
  (hmd:∀ w',Below w.heap.size w w'->Calls Tryz.prog 12 #[.agg #[c0,c1,c2,c3,c4,c5,c6]] w' fun e w2=>∃ va vr,e=.returned (.agg #[va,vr])/\Below w'.heap.size w' w2/\GModelR w2 va vr [a,b] rules) :
  Calls Tryz.prog 3 #[.agg #[c0,c1,c2,c3,c4,c5,c6],rawv,.int .i64 x] w fun e w'=>e=.returned (.bool true)/\Below w.heap.size w w':=by
 have hA1:Below w.heap.size w (w.alloc (.cells #[c0,c1,c2,c3,c4,c5,c6] 25)):=(Below.refl _ _).alloc (Nat.le_refl _) _
 have HD0:Hid (DBox (w.alloc (.cells #[c0,c1,c2,c3,c4,c5,c6] 25)) w.heap.size c0 c1 c2 c3 c4 c5 c6):=by
  show DBox _ _ _ _ _ _ _ _ _
  refine ⟨?_,?_,?_,?_,?_,?_,?_⟩ <;> simp [go_sem]
 have htk:=taskR_any c0 c1 c2 c3 c4 c5 c6 a b rules rawv rs 3 _ hG (by decide) (hR.up hA1) (fun w' h=>hmd w' (hA1.trans (h.mono hA1.size)))
 obtain ⟨ra,rn0,rc0,hra⟩:∃ a n c,rawv=.slice a n c:=by obtain ⟨⟨a,c,h,_⟩,_,_⟩:=hR;exact ⟨_,_,_,h⟩
 subst hra
 have HVc:Hid (∀ (w':World) (va vr pv fv:Value) (m:Mo) (l:List (Int × Int)) (T:Tm) (mm:Nat),Below w.heap.size w w'->TaskV w' va vr pv fv m propsL l->m.vars=[a,b]->mcode m=0->FOk mm l T->l.length <= 59->mm <= 6->Calls Tryz.prog 7 #[.agg #[va,vr,pv,fv]] w' fun e w2=>∃ bb so sn sc lo ln lc,e=.returned (.tuple #[.agg #[.bool bb,.slice so sn sc,.slice lo ln lc],.int .i64 0])/\Below w'.heap.size w' w2/\Hid (Kp m T bb)):=fun w' va vr pv fv m l T mm h hv hvars hmc hF hl hmm=>vcheck_keep va vr pv fv m a b l T mm w' (Nat.lt_of_lt_of_le hB h.size) (hT.below h hB) hv hG hvars hmc hF hl hmm
 have HH:Hid (HoldsOk w c0 c1 c2 c3 c4 c5 c6 ⟨[a,b],rules⟩):=holdsOk hB hT hG hmd;have HG:Hid (GV a b):=hG;have HPk:Hid (∀ w',Calls Tryz.prog 8 #[.int .i64 x,.int .i64 5] w' fun e w2=>e=.returned (.int .i64 (pk x 5))/\w2=w'):=fun w'=>Picked_is x 5 w' hx (by decide) (by decide)
 have HN:Hid (∀ (w':World) (va vr pv fv:Value) (l:List (Int × Int)) (T:Tm) (mm:Nat),Below w.heap.size w w'->TaskV w' va vr pv fv (nmM a b (pk x 5) rules) propsL l->rules.length <= 5->(∀ j,j < rules.length->rcode 2 (rules.getD j ru0)=0)->FOk mm l T->l.length <= 59->mm <= 3->Calls Tryz.prog 7 #[.agg #[va,vr,pv,fv]] w' fun e w2=>∃ bb so sn sc lo ln lc,e=.returned (.tuple #[.agg #[.bool bb,.slice so sn sc,.slice lo ln lc],.int .i64 0])/\Below w'.heap.size w' w2/\Hid (∀ b1,Kp ⟨[a,b],rules⟩ T b1->b1=bb)):=fun w' va vr pv fv l T mm h hv h5 hr hF hl hmm=>nm_vcheck va vr pv fv l T mm w' (Nat.lt_of_lt_of_le hB h.size) (hT.below h hB) hv hG (by have:=pk_range (n:=x) (m:=5) (by decide);omega) h5 hr hF hl hmm
 obtain ⟨iv,hiv,hv0,hv1,hv2⟩:=info_parts infoVar;clear hmd hR hT hG hx
 go_enter Tryz.func3,Tryz.ntmps3
 go_upto_region 2 with (first | (go_at_call 6;refine htk.mono ?_;rintro e w1 ⟨ao,ac,ro,rn,rc,pb,fo,fn,fc,l,T,mm,rfl,hb1,HV,HK,hmm,hfn⟩))
 have hbw1:=hA1.trans (hb1.mono hA1.size);have hbA:Below w1.heap.size w1 (w1.alloc (.cells #[.slice ao 2 ac,.slice ro rn rc,.slice (some ⟨pb,0,none⟩) 3 3,.slice fo fn fc] 34)):=(Below.refl _ _).alloc (Nat.le_refl _) _;have hbw2:=hbw1.trans (hbA.mono hbw1.size)
 have HX2:Hid ((w1.alloc (.cells #[.slice ao 2 ac,.slice ro rn rc,.slice (some ⟨pb,0,none⟩) 3 3,.slice fo fn fc] 34)).heap[w1.heap.size]? = some (tkB (.slice ao 2 ac) (.slice ro rn rc) (.slice (some ⟨pb,0,none⟩) 3 3) (.slice fo fn fc))):=(MapKept.heap_alloc w1 _).1
 have HD2:Hid (DBox (w1.alloc (.cells #[.slice ao 2 ac,.slice ro rn rc,.slice (some ⟨pb,0,none⟩) 3 3,.slice fo fn fc] 34)) w.heap.size c0 c1 c2 c3 c4 c5 c6):=(HD0.out.below hb1).below hbA
 have HV2:Hid (TaskV (w1.alloc (.cells #[.slice ao 2 ac,.slice ro rn rc,.slice (some ⟨pb,0,none⟩) 3 3,.slice fo fn fc] 34)) (.slice ao 2 ac) (.slice ro rn rc) (.slice (some ⟨pb,0,none⟩) 3 3) (.slice fo fn fc) ⟨[a,b],rules⟩ propsL l):=HV.out.below hbA;obtain ⟨⟨hmc,hr5,hrc⟩,hF,hfl,_⟩:=HK.out
 have hvc:=HVc.out _ _ _ _ _ ⟨[a,b],rules⟩ l T mm hbw2 HV2.out rfl hmc hF (by omega) (by omega)
 generalize w1.alloc (.cells #[.slice ao 2 ac,.slice ro rn rc,.slice (some ⟨pb,0,none⟩) 3 3,.slice fo fn fc] 34)=W2 at *;generalize w1.heap.size=X at *;obtain ⟨p0,p1,p2,p3⟩:=tkB_cells HX2.out;have HF:Hid (FOk mm l T/\l.length <= 59/\mm <= 3):=⟨hF,by omega,hmm⟩
 have HRc:Hid (rules.length <= 5/\∀ j,j < rules.length->rcode 2 (rules.getD j ru0)=0):=⟨hr5,hrc⟩
 clear hmc hr5 hrc hF hfl HK HV htk HD0
 go_upto_region 3 with (first | (go_at_call 7;refine hvc.mono ?_;rintro e w3 ⟨b1,so,sn,sc,lo,ln,lc,rfl,hb3,HK1⟩))
 have hbB:Below w3.heap.size w3 (w3.alloc (.cells #[.bool b1,.slice so sn sc,.slice lo ln lc] 40)):=(Below.refl _ _).alloc (Nat.le_refl _) _;have hb24:=hb3.trans (hbB.mono hb3.size);have HV4:Hid ((w3.alloc (.cells #[.bool b1,.slice so sn sc,.slice lo ln lc] 40)).cell? ⟨w3.heap.size,0,none⟩=some (.bool b1)):=by show _=_;simp [go_sem]
 generalize w3.alloc (.cells #[.bool b1,.slice so sn sc,.slice lo ln lc] 40)=W4 at *;generalize w3.heap.size=V1 at *;clear p0 p1 p2 p3 hvc;have hbX4:W4.heap[X]? = some (tkB (.slice ao 2 ac) (.slice ro rn rc) (.slice (some ⟨pb,0,none⟩) 3 3) (.slice fo fn fc)):=(hb24.block X (Array.getElem?_eq_some_iff.1 HX2.out).1).trans HX2.out
 obtain ⟨p0,p1,p2,p3⟩:=tkB_cells hbX4
 obtain ⟨p,off,rfl,hp,HVF⟩:∃ p off,ao=some ⟨p,off,none⟩/\p < W4.heap.size/\Hid (∀ w',Below W4.heap.size W4 w'->∀ ad,(some ⟨p,off,none⟩:Option Addr)=some ad->∀ j u,(vflat [a,b])[j]? = some u->w'.cell? (ad.add j)=some u):=by
  obtain ⟨ao',cap',e1,h2,h3⟩:=(HV2.out.below hb24).mo.1
  injection e1 with e2 e3 e4
  subst e2;obtain ⟨p,off,e5,h4,h5⟩:=h3 (by simp)
  refine ⟨p,off,e5,h4,fun w' hb ad he=>?_⟩
  injection he with he
  subst he;exact vflat_cells fun i hi=>(h5 i hi).below hb h4
 have hbC:Below W4.heap.size W4 (W4.alloc (.cells #[.slice (some ⟨p,off,none⟩) 2 ac,.slice ro rn rc,.slice (some ⟨pb,0,none⟩) 3 3,.slice fo fn fc] 34)):=(Below.refl _ _).alloc (Nat.le_refl _) _;have hb26:=hb24.trans (hbC.mono hb24.size)
 have HU6:Hid ((W4.alloc (.cells #[.slice (some ⟨p,off,none⟩) 2 ac,.slice ro rn rc,.slice (some ⟨pb,0,none⟩) 3 3,.slice fo fn fc] 34)).heap[W4.heap.size]? = some (tkB (.slice (some ⟨p,off,none⟩) 2 ac) (.slice ro rn rc) (.slice (some ⟨pb,0,none⟩) 3 3) (.slice fo fn fc))):=(MapKept.heap_alloc W4 _).1
 have HX6:Hid ((W4.alloc (.cells #[.slice (some ⟨p,off,none⟩) 2 ac,.slice ro rn rc,.slice (some ⟨pb,0,none⟩) 3 3,.slice fo fn fc] 34)).heap[X]? = some (tkB (.slice (some ⟨p,off,none⟩) 2 ac) (.slice ro rn rc) (.slice (some ⟨pb,0,none⟩) 3 3) (.slice fo fn fc))):=(hbC.block X (Array.getElem?_eq_some_iff.1 hbX4).1).trans hbX4
 go_upto_region 4 with fail
 generalize hW6:W4.alloc (.cells #[.slice (some ⟨p,off,none⟩) 2 ac,.slice ro rn rc,.slice (some ⟨pb,0,none⟩) 3 3,.slice fo fn fc] 34)=W6 at *;have hbU:Below W4.heap.size W4 W6:=hbC;have hUl:W4.heap.size < W6.heap.size:=(Array.getElem?_eq_some_iff.1 HU6.out).1
 generalize hUe:W4.heap.size=U at *;clear p0 p1 p2 p3;have HD4:Hid (DBox W4 w.heap.size c0 c1 c2 c3 c4 c5 c6):=HD2.out.below hb24;have hbw4:=hbw2.trans (hb24.mono hbw2.size);have HV6:Hid (TaskV W4 (.slice (some ⟨p,off,none⟩) 2 ac) (.slice ro rn rc) (.slice (some ⟨pb,0,none⟩) 3 3) (.slice fo fn fc) ⟨[a,b],rules⟩ propsL l):=HV2.out.below hb24
 obtain ⟨p0,p1,p2,p3⟩:=tkB_cells HX6.out
 have HU0:Hid (∀ w',Below W6.heap.size W6 w'->w'.cell? ⟨U,0,none⟩=some (.slice (some ⟨p,off,none⟩) 2 ac)/\w'.frozen? ⟨U,0,none⟩=false):=fun w' h=>by
  have h1:=(h.block U hUl).trans HU6.out;exact ⟨(tkB_cells h1).1,tkB_free h1 0⟩
 have HVG:Hid (∀ ad,(some ⟨p,off,none⟩:Option Addr)=some ad->∀ j u,(vflat [a,b])[j]? = some u->W6.cell? (ad.add j)=some u):=HVF.out _ (hbU)
 go_upto_region 5 with (at_builtin;refine wpList_copy rfl (.const (.slice none 0 0)) (.tmp 27) 27 rfl W6.heap.size 45 iv _ 4 40 Tryz.underlying27 hiv hv0 hv1 hv2 rfl (by decide) rfl (some ⟨p,off,none⟩) 2 ac (vflat [a,b]) rfl (fun h=>by cases h) rfl HVG.out (vflat_one _) (by decide) (by decide) (Nat.le_refl _) ?_;intro v5 w5 ho5 hg5;obtain ⟨g,cp,rfl,hg,hgl⟩:=ho5.form (by decide);obtain ⟨k0,kf⟩:=HU0.out w5 (below_of_grown hg5))
 have hJ0:NmJ W4 U W6.heap.size g cp (.slice ro rn rc) (.slice (some ⟨pb,0,none⟩) 3 3) (.slice fo fn fc) a b 0 (w5.setCell ⟨U,0,none⟩ (.slice (some ⟨g,0,none⟩) 2 cp)):=⟨tkB_vars (((below_of_grown hg5).block U hUl).trans HU6.out) _,ownsRow_setCell_below ho5 (a:=⟨U,0,none⟩) hUl _,(hbU.trans ((below_of_grown hg5).mono (Nat.le_of_lt hUl))).setCell (Nat.le_refl _) _,hUl⟩
 have HJ0:Hid (NmJ W4 U W6.heap.size g cp (.slice ro rn rc) (.slice (some ⟨pb,0,none⟩) 3 3) (.slice fo fn fc) a b 0 (w5.setCell ⟨U,0,none⟩ (.slice (some ⟨g,0,none⟩) 2 cp))):=hJ0;generalize w5.setCell ⟨U,0,none⟩ (.slice (some ⟨g,0,none⟩) 2 cp)=W7 at *;clear p0 p1 p2 p3 k0 kf HVG HU0 HVF hg5 ho5 hg hgl hbC hJ0 hb26
 go_upto_region 6 with fail
 go_loopw [11] (fun i wr=>∃ k:Nat,k <= 2/\i=.int .i64 (k:Int)/\Hid (NmJ W4 U W6.heap.size g cp (.slice ro rn rc) (.slice (some ⟨pb,0,none⟩) 3 3) (.slice fo fn fc) a b k wr)) (fun i _=>2 - (intOf i).toNat)
 case atStart=>exact ⟨0,Nat.zero_le _,rfl,HJ0⟩
 case round=>
  obtain ⟨k,hk,rfl,HR⟩:=hrel;obtain ⟨p0,p1,p2,p3⟩:=tkB_cells HR.out.box;have hfr:=HR.out.free
  by_cases hk2:k < 2
  ·rcases (show k=0\/k=1 by omega) with rfl | rfl
   ·obtain ⟨n0,hJ1⟩:=HR.out.name0
    have hsz:¬ 9223372036854775807 < 1+a.name.size:=by rw [HG.out.na];decide
    go_upto_region 8 with fail
    go_region
    go_wp2_with fail
    go_roundw
    case rel=>
     refine ⟨1,by decide,by go_num,?_⟩
     have h:=HR.out.drew.name0.2;rw [<- bq_x] at h;rw [HG.out.na];exact h
    case measure=>simp [intOf]
   ·obtain ⟨n0,hJ1⟩:=HR.out.name1
    have hsz:¬ 9223372036854775807 < 1+b.name.size:=by rw [HG.out.nb];decide
    go_upto_region 8 with fail
    go_region
    go_wp2_with fail
    go_roundw
    case rel=>
     refine ⟨2,by decide,by go_num,?_⟩
     have h:=HR.out.drew.name1.2;rw [<- bq_y] at h;rw [HG.out.nb];exact h
    case measure=>simp [intOf]
  ·obtain rfl:k=2:=by omega
   go_upto_region 9 with fail
   have HR9:Hid (NmJ W4 U W6.heap.size g cp (.slice ro rn rc) (.slice (some ⟨pb,0,none⟩) 3 3) (.slice fo fn fc) a b 2 wr):=HR;clear p0 p1 p2 p3 hfr HJ0 HR
   go_cut [] (fun wx=>Hid (NmE W4 U (.slice ro rn rc) (.slice (some ⟨pb,0,none⟩) 3 3) (.slice fo fn fc) [nmV bQX a,nmV bQY b,idV (pk x 5)] wx))
   case first=>
    rename_i J K' hJ hK';generalize ha0:Act.mk _ _=a0;have hsz:a0.tmps.size=94:=by rw [<- ha0];rfl
    have a2:a0.eval (.tmp 2)=.int .i64 x:=by rw [<- ha0];rfl
    have a10:a0.eval (.tmp 10)=.pointer (some ⟨U,0,none⟩):=by rw [<- ha0];rfl
    have hrow:=HR9.out.row;have hgr:=hrow.lt g rfl;have HGr:Hid (W6.heap.size <= g/\g < wr.heap.size):=hgr
    refine wp_anywayE (by rfl) [53,54,55,56,57,58,59,60,61,62] 10 7 (by decide) (nmX wr W4 U W6.heap.size g cp (.slice ro rn rc) (.slice (some ⟨pb,0,none⟩) 3 3) (.slice fo fn fc) (vflat (nmL a b 2))) (nmP wr U W6.heap.size (.slice (some ⟨g,0,none⟩) 2 cp) x (pk x 5) (vflat (nmL a b 2))) (by rw [hsz];rfl) ?_ ?_ ?_
    ·exact nmX_keep ⟨HR9.out.box,HR9.out.old,Nat.le_refl _,fun _=>hrow,(Array.getElem?_eq_some_iff.1 HR9.out.box).1⟩ (Below.refl _ _).drew
    ·intro i o hi0 ho q w' bd hbe hy hq
     have f:∀ t,[53,54,55,56,57,58,59,60,61,62].contains t=true->t < 94->(frm a0 [53,54,55,56,57,58,59,60,61,62] q).eval (.tmp t)=q t:=fun t h1 h2=>frm_in h1 (by rw [hsz];exact h2)
     have e2:(frm a0 [53,54,55,56,57,58,59,60,61,62] q).eval (.tmp 2)=.int .i64 x:=(frm_out rfl).trans a2;have e10:(frm a0 [53,54,55,56,57,58,59,60,61,62] q).eval (.tmp 10)=.pointer (some ⟨U,0,none⟩):=(frm_out rfl).trans a10;obtain ⟨m0,m1,m2,m3⟩:=tkB_cells hy.1
     have hJ:∀ i,i≠7->nmX wr W4 U W6.heap.size g cp (.slice ro rn rc) (.slice (some ⟨pb,0,none⟩) 3 3) (.slice fo fn fc) (vflat (nmL a b 2)) (bd||decide (i=7)) w':=fun i hi=>by rw [decide_eq_false hi,Bool.or_false];exact hy
     have hA:∀ o,Below w'.heap.size w' (w'.alloc o):=fun o=>(Below.refl _ _).alloc (Nat.le_refl _) o
     obtain ⟨ev,hev⟩:∃ ev,ev=(frm a0 [53,54,55,56,57,58,59,60,61,62] q).eval:=⟨_,rfl⟩
     have evc:∀ v,ev (.const v)=v:=fun v=>by rw [hev];rfl
     have evf:∀ n,ev (.func n)=.func (.func n) #[] #[]:=fun n=>by rw [hev];rfl
     rw [<- hev] at f e2 e10
     rcases ten_cases hi0 with rfl | rfl | rfl | rfl | rfl | rfl | rfl | rfl | rfl | rfl
     all_goals obtain rfl:=Option.some.inj ho
     ·refine op_run (w':=w') (v:=.pointer (some ⟨U,0,none⟩)) ?_ ⟨_,rfl,hJ _ (by decide),fun _ _ _ _ h=>h,rfl⟩
      rw [<- hev];simp [execOp,e10,go_sem]
     ·have e53:=(f 53 rfl (by decide)).trans (hq 0 53 rfl rfl)
      refine op_run (w':=w') (v:=.pointer (some ⟨U,0,none⟩)) ?_ ⟨_,rfl,hJ _ (by decide),fun _ _ _ _ h=>h,rfl⟩
      rw [<- hev];simp [execOp,e53,go_sem]
     ·have e54:=(f 54 rfl (by decide)).trans (hq 1 54 rfl rfl)
      refine op_run (w':=w') (v:=.slice (some ⟨g,0,none⟩) 2 cp) ?_ ⟨_,rfl,hJ _ (by decide),fun _ _ _ _ h=>h,rfl⟩
      rw [<- hev];simp [execOp,e54,m0,go_sem]
     ·refine op_run (w':=w') (v:=.int .i64 x) ?_ ⟨_,rfl,hJ _ (by decide),fun _ _ _ _ h=>h,rfl⟩
      rw [<- hev];simp [execOp,e2,go_sem]
     ·have e56:=(f 56 rfl (by decide)).trans (hq 3 56 rfl rfl)
      refine Oper.wp_mono ?_ (op_call (f:=8) (args:=#[.int .i64 x,.int .i64 5]) (post:=fun v _=>v=.int .i64 (pk x 5)) ?_ ((HPk.out w').mono ?_))
      ·rintro a' w2 ⟨v,rfl,hb2,rfl⟩
       exact ⟨_,rfl,nmX_keep (hJ _ (by decide)) hb2,fun j x hj _ h=>nmP_stable j x hj h hb2,rfl⟩
      ·rw [<- hev];simp [execOp,e56,evc,evf,go_sem]
      ·rintro e w2 ⟨rfl,rfl⟩
       exact ⟨_,rfl,Below.refl _ _,rfl⟩
     ·have e57:=(f 57 rfl (by decide)).trans (hq 4 57 rfl rfl)
      refine op_run (w':=w') (v:=.agg #[.string bIdle,.int .i64 0,.int .i64 (pk x 5),.int .i64 0]) ?_ ⟨_,rfl,hJ _ (by decide),fun _ _ _ _ h=>h,rfl⟩
      rw [<- hev];simp [execOp,e57,evc,bIdle,go_sem]
     ·have e58:=(f 58 rfl (by decide)).trans (hq 5 58 rfl rfl)
      refine op_run (v:=.slice (some ⟨w'.heap.size,0,none⟩) 1 1) (w':=w'.alloc (.cells #[.string bIdle,.int .i64 0,.int .i64 (pk x 5),.int .i64 0] 45)) ?_ ⟨_,rfl,nmX_keep (hJ _ (by decide)) (hA _),fun j x hj _ h=>nmP_stable j x hj h (hA _),⟨_,rfl,Lit.new hy.2.2.1 _ _⟩⟩
      rw [<- hev];simp [execOp,e58,go_sem]
     ·have hbf:=hbe rfl
      subst hbf;have ho2:=hy.2.2.2.1 rfl;have e55:=(f 55 rfl (by decide)).trans (hq 2 55 rfl rfl)
      obtain ⟨g2,hg59,hlit⟩:=hq 6 59 rfl rfl;have e59:=(f 59 rfl (by decide)).trans hg59
      rw [hev] at e55 e59
      refine wp_append_lies _ (.tmp 55) (.tmp 59) 27 rfl W6.heap.size 45 iv _ 4 40 Tryz.underlying27 hiv hv0 hv1 hv2 rfl (by decide) (.slice (some ⟨g,0,none⟩) 2 cp) 2 (vflat (nmL a b 2)) e55 ho2 ⟨g2,0,none⟩ 1 1 [.string bIdle,.int .i64 0,.int .i64 (pk x 5),.int .i64 0] e59 rfl (World.news_of_block hlit.2) (by intro u hu;simp at hu;rcases hu with rfl | rfl | rfl | rfl <;> rfl) (by decide) (by decide) (by decide) (by have:=HGr.out;have:=hy.2.2.1;omega) w'.heap.size rfl ?_
      intro g6 cp6 w6 ho6 hg6 hat6 hgl6;have hUb:U < W6.heap.size:=HR9.out.ub
      have hgU:∀ z,(Value.slice (some ⟨g,0,none⟩) 2 cp).ownBlock=some z->W6.heap.size <= z/\z < wr.heap.size:=fun z hz=>by
       obtain rfl:g=z:=by simpa [Value.ownBlock] using hz
       exact HGr.out
      refine ⟨_,rfl,⟨(hg6.block U hy.2.2.2.2 (fun e=>by have:=hgU U e.symm;omega)).trans hy.1,hy.2.1.grown hg6 (Nat.le_of_lt hy.2.2.2.2) (fun z hz=>by have:=hgU z hz;omega),Nat.le_trans hy.2.2.1 hg6.size,(fun h=>by cases h),Nat.lt_of_lt_of_le hy.2.2.2.2 hg6.size⟩,fun j x hj hji h=>nmP_grown j x hj hji h hg6 fun z hz=>(hgU z hz).2,⟨g6,cp6,rfl,ho6⟩⟩
     ·refine op_run (w':=w') (v:=.pointer (some ⟨U,0,none⟩)) ?_ ⟨_,rfl,hJ _ (by decide),fun _ _ _ _ h=>h,rfl⟩
      rw [<- hev];simp [execOp,e10,go_sem]
     ·have e61:=(f 61 rfl (by decide)).trans (hq 8 61 rfl rfl)
      refine op_run (w':=w') (v:=.pointer (some ⟨U,0,none⟩)) ?_ ⟨_,rfl,hJ _ (by decide),fun _ _ _ _ h=>h,rfl⟩
      rw [<- hev];simp [execOp,e61,go_sem]
    ·intro q w' hy hq
     have f:∀ q t,[53,54,55,56,57,58,59,60,61,62].contains t=true->t < 94->(frm a0 [53,54,55,56,57,58,59,60,61,62] q).eval (.tmp t)=q t:=fun q t h1 h2=>frm_in h1 (by rw [hsz];exact h2)
     obtain ⟨g6,cp6,h60,ho6⟩:=hq 7 60 (by decide) rfl
     have e60:=(f q 60 rfl (by decide)).trans h60
     have e62:=(f q 62 rfl (by decide)).trans (hq 9 62 (by decide) rfl)
     rw [h60] at ho6;obtain ⟨k0,k1,k2,k3⟩:=tkB_cells hy.1;have kf:=tkB_free hy.1 0
     show wpOps Tryz.prog _ _ [10] _ _
     rw [wpOps_cons];refine op_atR rfl rfl ?_
     refine op_skip (w':=w'.setCell ⟨U,0,none⟩ (.slice (some ⟨g6,0,none⟩) 3 cp6)) rfl ?_ ?_
     ·generalize (frm a0 [53,54,55,56,57,58,59,60,61,62] q).eval=ev at e60 e62 ⊢
      simp [execOp,e60,e62,go_sem,k0,kf]
     show K' _ _
     refine hK' _ _ ?_
     rw [<- ha0]
     go_meet
     exact ⟨g6,cp6,varsV_of_owns (l:=[nmV bQX a,nmV bQY b,idV (pk x 5)]) (ownsRow_setCell_below ho6 (a:=⟨U,0,none⟩) HR9.out.ub _),tkB_vars hy.1 _,hy.2.1.setCell (Nat.le_refl _) _⟩
   case rest=>
    obtain ⟨gy,cy,hVY,hUY,hbY⟩:=hcut.out;have hbY4:Below W4.heap.size W4 wc:=by rw [hUe];exact hbY
    have hbwY:=hbw4.trans (hbY4.mono hbw4.size);have hV4:=HV6.out.below hbY4;have hvc2:=HN.out wc (.slice (some ⟨gy,0,none⟩) 3 cy) (.slice ro rn rc) (.slice (some ⟨pb,0,none⟩) 3 3) (.slice fo fn fc) l T mm hbwY ⟨⟨hVY,hV4.mo.2⟩,hV4.ps,hV4.fo⟩ HRc.out.1 HRc.out.2 HF.out.1 HF.out.2.1 HF.out.2.2;obtain ⟨p0,p1,p2,p3⟩:=tkB_cells hUY
    have HVY:Hid (wc.cell? ⟨V1,0,none⟩=some (.bool b1)):=(hbY4.cell (p:=⟨V1,0,none⟩) (World.block_lt_of_cell? _ _ HV4.out)).trans HV4.out;have HDY:Hid (DBox wc w.heap.size c0 c1 c2 c3 c4 c5 c6):=HD4.out.below hbY4;have HBwY:Hid (Below w.heap.size w wc):=hbwY
    clear hcut hVY hUY hbY hbY4 hV4 HR9 HV6 HN HF HRc HV4 HD4 hbw4 hbU hUl hbX4 HX6 HU6 HX2 HV2 HVc hb24 hiv hv0 hv1 hv2 HPk hUe;obtain ⟨w7,rfl⟩:∃ w7,w7=wc:=⟨_,rfl⟩
    go_upto_region 11 with (first | (go_at_call 7;refine hvc2.mono ?_;rintro e w8 ⟨b2,so2,sn2,sc2,lo2,ln2,lc2,rfl,hb8,HK2⟩))
    have hbD:Below w8.heap.size w8 (w8.alloc (.cells #[.bool b2,.slice so2 sn2 sc2,.slice lo2 ln2 lc2] 40)):=(Below.refl _ _).alloc (Nat.le_refl _) _;have hb79:=hb8.trans (hbD.mono hb8.size);have HV9:Hid ((w8.alloc (.cells #[.bool b2,.slice so2 sn2 sc2,.slice lo2 ln2 lc2] 40)).cell? ⟨w8.heap.size,0,none⟩=some (.bool b2)):=by show _=_;simp [go_sem]
    generalize w8.alloc (.cells #[.bool b2,.slice so2 sn2 sc2,.slice lo2 ln2 lc2] 40)=W9 at *;generalize w8.heap.size=V2 at *;have hbw9:=HBwY.out.trans (hb79.mono HBwY.out.size);obtain ⟨q0,q1,q2,q3,q4,q5,q6⟩:=HDY.out.below hb79;have hbE:Below W9.heap.size W9 (W9.alloc (.cells #[.int .i64 11,.int .i64 0] 50)):=(Below.refl _ _).alloc (Nat.le_refl _) _
    have hho:=HH.out (W9.alloc (.cells #[.int .i64 11,.int .i64 0] 50)) (.slice (some ⟨W9.heap.size,0,none⟩) 1 1) [(11,0)] _ 0 (hbw9.trans (hbE.mono hbw9.size)) (ops_one W9 11 0) FOk.yes (by decide) (by decide)
    clear p0 p1 p2 p3 hvc2
    go_upto_region 12 with (first | (go_at_call 9;refine hho.mono ?_;rintro e w11 ⟨bb,rfl,hb11,HKp⟩))
    have hb9F:=hbE.trans (hb11.mono hbE.size);have hb7F:=hb79.trans (hb9F.mono hb79.size);have v1:=(hb7F.cell (p:=⟨V1,0,none⟩) (World.block_lt_of_cell? _ _ HVY.out)).trans HVY.out;have v2:=(hb9F.cell (p:=⟨V2,0,none⟩) (World.block_lt_of_cell? _ _ HV9.out)).trans HV9.out;have hbF:=hbw9.trans (hb9F.mono hbw9.size);obtain rfl:=kp_yes HKp.out
    obtain rfl:=HK2.out b1 HK1.out;clear hho HKp HH HV9 HVY HDY HD2 q0 q1 q2 q3 q4 q5 q6 HK1 HK2 HG
    cases b1 with
    | true=>
     go_wp2_with fail
     go_ret
     exact ⟨by first | rfl | simp,hbF⟩
    | false=>
     go_wp2_with fail
     go_ret
     exact ⟨by first | rfl | simp,hbF⟩
