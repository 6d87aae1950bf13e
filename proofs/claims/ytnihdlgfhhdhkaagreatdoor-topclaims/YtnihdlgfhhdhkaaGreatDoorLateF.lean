/- Joined texts. -/
import Derived.Test.YtnihdlgfhhdhkaaGreatDoorLateE
namespace Go.Proofs.YtnihdlgfhhdhkaaGreatDoor
open Go.ChangeShapes Go.WideShapes Go.ChangeAt Go.RowKit Go.Deep Go.Maps
open Terms Tm
set_option maxHeartbeats 6400000
set_option maxRecDepth 20000
section
variable {w w1 w2 : World} {base A lm : Nat} {S : List (Int × Int)} {N : List (List Int)} {T : List Int} {init many : Int} {sv nv tv nv' tv' : Value}
theorem AtX.appN {us:List Value} {r:List Int} {ao:Option Addr} {c:Nat} (h:AtX w1 base A lm S N T init many sv nv tv) (hus:w1.ownsRow base 27 1 nv N.length us/\us.length=N.length/\∀ i,i < N.length->∃ ao c,us.getD i (.slice none 0 0)=.slice ao (N.getD i []).length c/\zAI w1 (.slice ao (N.getD i []).length c) (N.getD i [])/\zAS w1 (.slice ao (N.getD i []).length c) 3/\∀ a,ao=some a->tv.ownBlock≠some a.block/\base <= a.block)
    (hr:zAI w1 (.slice ao r.length c) r) (hty:zAS w1 (.slice ao r.length c) 3) (hap:∀ a,ao=some a->tv.ownBlock≠some a.block/\base <= a.block) (hg:w1.grownBy w2 nv.ownBlock) (ho:w2.ownsRow base 27 1 nv' (N.length+1) (us++[.slice ao r.length c])):AtX (w2.setCell ⟨A,2,none⟩ nv') base A lm S (N++[r]) T init many sv nv' tv:=by
  obtain ⟨n1,n2,n3⟩:=hus;obtain ⟨es,cl,em⟩:=h.lies.isMap;have hc:Chg (fun i=>i=A\/nv.ownBlock=some i) w1 (w2.setCell ⟨A,2,none⟩ nv'):=((Chg.grown hg).weaken (fun i _ e=>.inr e)).trans2 (Chg.setCell w2 _ _) (fun i _ e=>.inl e)
  have hno:∀ i t,(i=A\/nv.ownBlock=some i)->TyB w1 i t->t=79\/t=27:=fun i t z ht=>by
    rcases z with rfl | e
    · exact .inl (ht.eq h.ty)
    · exact .inr (ht.eq (zAV n1 e).2)
  have hni:∀ i,(i=A\/nv.ownBlock=some i)->¬ TyB w1 i 3:=fun i z ht=>by
    rcases hno i _ z ht with e | e
    · exact absurd e (by decide)
    · exact absurd e (by decide)
  have hns:∀ i,(i=A\/nv.ownBlock=some i)->¬ TyB w1 i 59:=fun i z ht=>by
    rcases hno i _ z ht with e | e
    · exact absurd e (by decide)
    · exact absurd e (by decide)
  have hnm:∀ i,(i=A\/nv.ownBlock=some i)->i≠lm:=fun i z e=>by
    subst e
    rcases z with rfl | e
    · exact h.ty.no_map em
    · exact (zAV n1 e).2.no_map em
  have hbx:w2.heap[A]? = some (atB sv nv tv init many lm):=(hg.block A h.lt fun e=>by have:=h.ty.eq (zAV n1 e.symm).2;exact absurd this (by decide)).trans h.box
  have hA2:TyB w2 A 79:=⟨_,_,hbx⟩;refine ⟨zNu w2 hbx nv',h.bA,h.bl,h.lies.kept (hc.block lm h.lies.lt (fun z=>hnm _ z rfl)),zBE h.sp hc (fun g e z=>hns g z (zAV h.sp e).2),⟨us++[.slice ao r.length c],?_,by simp [n2],fun i hi=>?_⟩,zBE h.st hc (fun g e z=>hni g z (zAV h.st e).2)⟩
  · rw [List.length_append,List.length_singleton]
    exact zBE ho (Chg.setCell w2 _ _) (fun g e z=>by
      have h1:=(zAV ho e).2;have z':g=A:=z;subst z'
      exact absurd (h1.eq hA2) (by decide))
  · have hget:∀ (α:Type) (x y:List α) (d:α) (j:Nat),(x++y).getD j d=if j < x.length then x.getD j d else y.getD (j - x.length) d:=fun α x y d j=>by
      by_cases hj:j < x.length
      · rw [if_pos hj];simp [List.getD_eq_getElem?_getD,List.getElem?_append_left hj]
      · rw [if_neg hj];simp [List.getD_eq_getElem?_getD,List.getElem?_append_right (Nat.le_of_not_lt hj)]
    by_cases hlt:i < N.length
    · obtain ⟨ao',c',e1,e2,e3,e4⟩:=n3 i hlt
      have hz:∀ a,ao'=some a->¬ (a.block=A\/nv.ownBlock=some a.block):=fun a e z=>hni _ z (by subst e;exact e3.ty)
      rw [hget,hget,n2,if_pos hlt,if_pos hlt];exact ⟨ao',c',e1,e2.chg hc hz,e3.chg hc hz,e4⟩
    · have hi2:i=N.length:=by simp at hi;omega
      have hz:∀ a,ao=some a->¬ (a.block=A\/nv.ownBlock=some a.block):=fun a e z=>hni _ z (by subst e;exact hty.ty)
      rw [hget,hget,n2,if_neg hlt,if_neg hlt,hi2,Nat.sub_self];exact ⟨ao,c,rfl,hr.chg hc hz,hty.chg hc hz,hap⟩
theorem AtX.appT {x:Int} (h:AtX w1 base A lm S N T init many sv nv tv) (hg:w1.grownBy w2 tv.ownBlock) (ho:w2.ownsRow base 3 1 tv' (T.length+1) (zAE T++[.int .i64 x])) (hown:tv'.ownBlock=tv.ownBlock\/∃ g,tv'.ownBlock=some g/\w1.heap.size <= g):AtX (w2.setCell ⟨A,3,none⟩ tv') base A lm S N (T++[x]) init many sv nv tv':=by
 obtain ⟨us,n1,n2,n3⟩:=id h.nx;obtain ⟨es,cl,em⟩:=h.lies.isMap;have hc:Chg (fun i=>i=A\/tv.ownBlock=some i) w1 (w2.setCell ⟨A,3,none⟩ tv'):=((Chg.grown hg).weaken (fun i _ e=>.inr e)).trans2 (Chg.setCell w2 _ _) (fun i _ e=>.inl e)
 have hno:∀ i t,(i=A\/tv.ownBlock=some i)->TyB w1 i t->t=79\/t=3:=fun i t z ht=>by
  rcases z with rfl | e
  ·exact .inl (ht.eq h.ty)
  ·exact .inr (ht.eq (zAV h.st e).2)
 have hnl:∀ i,(i=A\/tv.ownBlock=some i)->¬ TyB w1 i 27:=fun i z ht=>by
  rcases hno i _ z ht with e | e
  ·exact absurd e (by decide)
  ·exact absurd e (by decide)
 have hns:∀ i,(i=A\/tv.ownBlock=some i)->¬ TyB w1 i 59:=fun i z ht=>by
  rcases hno i _ z ht with e | e
  ·exact absurd e (by decide)
  ·exact absurd e (by decide)
 have hnm:∀ i,(i=A\/tv.ownBlock=some i)->i≠lm:=fun i z e=>by
  subst e
  rcases z with rfl | e
  ·exact h.ty.no_map em
  ·exact (zAV h.st e).2.no_map em
 have hbx:w2.heap[A]? = some (atB sv nv tv init many lm):=(hg.block A h.lt fun e=>by have:=h.ty.eq (zAV h.st e.symm).2;exact absurd this (by decide)).trans h.box
 have hA2:TyB w2 A 79:=⟨_,_,hbx⟩;refine ⟨zN5 w2 hbx tv',h.bA,h.bl,h.lies.kept (hc.block lm h.lies.lt (fun z=>hnm _ z rfl)),zBE h.sp hc (fun g e z=>hns g z (zAV h.sp e).2),⟨us,zBE n1 hc (fun g e z=>hnl g z (zAV n1 e).2),n2,fun i hi=>?_⟩,?_⟩
 ·obtain ⟨ao',c',e1,e2,e3,e4⟩:=n3 i hi
  have hz:∀ a,ao'=some a->¬ (a.block=A\/tv.ownBlock=some a.block):=fun a e z=>by
   rcases z with z | z
   ·subst e
    have:=e3.ty;rw [z] at this;exact absurd (this.eq h.ty) (by decide)
   ·exact (e4 a e).1 z
  refine ⟨ao',c',e1,e2.chg hc hz,e3.chg hc hz,fun a e=>⟨fun e5=>?_,(e4 a e).2⟩⟩
  rcases hown with h1 | ⟨g,h1,h2⟩
  ·rw [h1] at e5
   exact (e4 a e).1 e5
  ·rw [h1] at e5
   injection e5 with e5
   subst e;have:=e3.ty.lt;omega
 ·have e:zAE (T++[x])=zAE T++[.int .i64 x]:=by simp [zAE]
  rw [e,List.length_append,List.length_singleton]
  exact zBE ho (Chg.setCell w2 _ _) (fun g e z=>by
   have h1:=(zAV ho e).2;have z':g=A:=z;subst z'
   exact absurd (h1.eq hA2) (by decide))
end
section
variable {Pz Pz' : Nat -> Prop} {w0 w w' : World} {B bs bl n : Nat} {va vr pv fv : Value} {m : Mo} {ps : List (List (Int × Int))} {l : List (Int × Int)} {ho : Option Addr} {hc : Nat}
theorem SvOk.chg2 {Z:Nat->Prop} (h:SvOk Pz w0 w B bs bl n va vr pv fv m ps l ho hc) (hs:Chg Z w w') (hz:∀ i,Z i->w0.heap.size <= i/\i≠B/\i≠bs/\i≠bl/\¬ TyB w i 4/\(TyB w i 3->¬ Pz i)) (hp:∀ b,b < w.heap.size->Pz b->Pz' b) (hup:∀ b,w'.heap.size <= b->Pz' b):SvOk Pz' w0 w' B bs bl n va vr pv fv m ps l ho hc:=by
 have k:=h.chg hs hz;obtain ⟨f,h1,h2⟩:=h.st;have zs:¬ Z bs:=fun z=>(hz _ z).2.2.1 rfl
 refine ⟨k.box,k.bel,k.lo1,k.lo2,k.ne,k.ah,k.aty,hup,fun a e=>hp _ (by have:=h.aty;rw [e] at this;exact this.ty.lt) (h.aP a e),⟨f,h1.chg hs zs,fun kl v hv=>?_⟩,k.li⟩
 obtain ⟨code,e1,e2,e3⟩:=h2 kl v hv;obtain ⟨lo,lc,no,nc,so,sc,g1,g2,g3,g4,g5,g6,g7,g8,g9⟩:=e3.chg hs fun i z=>(hz i z).2.2.2.2
 obtain ⟨lo',lc',no',nc',so',sc',g1',_,_,_,_,g6',g7',_,_⟩:=e3;rw [g1] at g1';simp only [Value.agg.injEq,Array.mk.injEq,List.cons.injEq,Value.slice.injEq,and_true,true_and] at g1';obtain ⟨⟨rfl,rfl⟩,⟨rfl,rfl⟩,rfl,rfl⟩:=g1'
 exact ⟨code,e1,e2,lo,lc,no,nc,so,sc,g1,g2,g3,g4,g5,g6,g7,fun a e=>by subst e;exact hp _ g6'.ty.lt (g8 a rfl),fun a e=>by subst e;exact hp _ g7'.ty.lt (g9 a rfl)⟩
end
def zNR (tv:Value):Nat->Prop:=fun b=>tv.ownBlock≠some b
structure ExW (w0 w:World) (base A lm B bs bl n:Nat) (va vr pv fv:Value) (m:Mo) (ps:List (List (Int × Int))) (l:List (Int × Int)) (ho:Option Addr) (hc:Nat) (S:List (Int × Int)) (N:List (List Int)) (T:List Int) (init many:Int) (sv nv tv:Value):Prop where
 su:SvOk (zNR tv) w0 w B bs bl n va vr pv fv m ps l ho hc
 tl:AtX w base A lm S N T init many sv nv tv
 lo:w0.heap.size <= base/\B < base/\bs < base/\bl < base
section
variable {w0 w w' w1 w2 : World} {base A lm B bs bl n n' : Nat} {va vr pv fv : Value} {m : Mo} {ps : List (List (Int × Int))} {l : List (Int × Int)} {ho : Option Addr} {hc : Nat} {S S' : List (Int × Int)} {N : List (List Int)} {T : List Int} {init many : Int} {sv sv' nv tv nv' tv' : Value}
theorem ExW.below (h:ExW w0 w base A lm B bs bl n va vr pv fv m ps l ho hc S N T init many sv nv tv) (hb:Below w.heap.size w w'):ExW w0 w' base A lm B bs bl n va vr pv fv m ps l ho hc S N T init many sv nv tv:=⟨h.su.below hb,h.tl.below hb,h.lo⟩
theorem ExW.call (h:ExW w0 w base A lm B bs bl n va vr pv fv m ps l ho hc S N T init many sv nv tv) (hs:Sk bs bl w w') (hv:SvOk (zNR tv) w0 w' B bs bl n' va vr pv fv m ps l ho hc):ExW w0 w' base A lm B bs bl n' va vr pv fv m ps l ho hc S N T init many sv nv tv:=
 ⟨hv,h.tl.sk hs h.su.two (by have:=h.tl.bl;have:=h.lo;omega) (by have:=h.tl.bl;have:=h.lo;omega),h.lo⟩
theorem ExW.far (h:ExW w0 w base A lm B bs bl n va vr pv fv m ps l ho hc S N T init many sv nv tv) {i:Nat} (hi:base <= i):w0.heap.size <= i/\i≠B/\i≠bs/\i≠bl:=by
 have:=h.lo;omega
theorem ExW.put (h:ExW w0 w base A lm B bs bl n va vr pv fv m ps l ho hc S N T init many sv nv tv) (hs:Chg (atZ A lm sv) w w') (hX:AtX w' base A lm S' N T init many sv' nv tv):ExW w0 w' base A lm B bs bl n va vr pv fv m ps l ho hc S' N T init many sv' nv tv:=by
 refine ⟨h.su.chg hs fun i z=>?_,hX,h.lo⟩
 obtain ⟨es,c,em⟩:=h.tl.lies.isMap
 rcases z with rfl | rfl | e
 ·obtain ⟨a,b,c,d⟩:=h.far h.tl.bA
  exact ⟨a,b,c,d,fun ht=>absurd (ht.eq h.tl.ty) (by decide),fun ht=>absurd (ht.eq h.tl.ty) (by decide)⟩
 ·obtain ⟨a,b,c,d⟩:=h.far h.tl.bl
  exact ⟨a,b,c,d,fun ht=>absurd em ht.no_map,fun ht=>absurd em ht.no_map⟩
 ·obtain ⟨o1,o2⟩:=zAV h.tl.sp e
  obtain ⟨a,b,c,d⟩:=h.far o1;exact ⟨a,b,c,d,fun ht=>absurd (ht.eq o2) (by decide),fun ht=>absurd (ht.eq o2) (by decide)⟩
theorem ExW.appN {us:List Value} {r:List Int} {ao:Option Addr} {c:Nat} (h:ExW w0 w1 base A lm B bs bl n va vr pv fv m ps l ho hc S N T init many sv nv tv) (hus:w1.ownsRow base 27 1 nv N.length us/\us.length=N.length/\∀ i,i < N.length->∃ ao c,us.getD i (.slice none 0 0)=.slice ao (N.getD i []).length c/\zAI w1 (.slice ao (N.getD i []).length c) (N.getD i [])/\zAS w1 (.slice ao (N.getD i []).length c) 3/\∀ a,ao=some a->tv.ownBlock≠some a.block/\base <= a.block)
  (hr:zAI w1 (.slice ao r.length c) r) (hty:zAS w1 (.slice ao r.length c) 3) (hap:∀ a,ao=some a->tv.ownBlock≠some a.block/\base <= a.block) (hg:w1.grownBy w2 nv.ownBlock) (ho':w2.ownsRow base 27 1 nv' (N.length+1) (us++[.slice ao r.length c])):ExW w0 (w2.setCell ⟨A,2,none⟩ nv') base A lm B bs bl n va vr pv fv m ps l ho hc S (N++[r]) T init many sv nv' tv:=by
 have hch:Chg (fun i=>i=A\/nv.ownBlock=some i) w1 (w2.setCell ⟨A,2,none⟩ nv'):=((Chg.grown hg).weaken (fun i _ e=>.inr e)).trans2 (Chg.setCell w2 _ _) (fun i _ e=>.inl e)
 refine ⟨h.su.chg hch fun i z=>?_,h.tl.appN hus hr hty hap hg ho',h.lo⟩
 rcases z with rfl | e
 ·obtain ⟨a,b,c,d⟩:=h.far h.tl.bA
  exact ⟨a,b,c,d,fun ht=>absurd (ht.eq h.tl.ty) (by decide),fun ht=>absurd (ht.eq h.tl.ty) (by decide)⟩
 ·obtain ⟨o1,o2⟩:=zAV hus.1 e
  obtain ⟨a,b,c,d⟩:=h.far o1;exact ⟨a,b,c,d,fun ht=>absurd (ht.eq o2) (by decide),fun ht=>absurd (ht.eq o2) (by decide)⟩
theorem ExW.appT {x:Int} (h:ExW w0 w1 base A lm B bs bl n va vr pv fv m ps l ho hc S N T init many sv nv tv) (hg:w1.grownBy w2 tv.ownBlock) (ho':w2.ownsRow base 3 1 tv' (T.length+1) (zAE T++[.int .i64 x])) (hown:tv'.ownBlock=tv.ownBlock\/∃ g,tv'.ownBlock=some g/\w1.heap.size <= g):ExW w0 (w2.setCell ⟨A,3,none⟩ tv') base A lm B bs bl n va vr pv fv m ps l ho hc S N (T++[x]) init many sv nv tv':=by
 have hch:Chg (fun i=>i=A\/tv.ownBlock=some i) w1 (w2.setCell ⟨A,3,none⟩ tv'):=((Chg.grown hg).weaken (fun i _ e=>.inr e)).trans2 (Chg.setCell w2 _ _) (fun i _ e=>.inl e)
 have hX:=h.tl.appT hg ho' hown;refine ⟨h.su.chg2 hch (fun i z=>?_) (fun b hb hp=>?_) (fun b hb e=>?_),hX,h.lo⟩
 ·rcases z with rfl | e
  ·obtain ⟨a,b,c,d⟩:=h.far h.tl.bA
   exact ⟨a,b,c,d,fun ht=>absurd (ht.eq h.tl.ty) (by decide),fun ht=>absurd (ht.eq h.tl.ty) (by decide)⟩
  ·obtain ⟨o1,o2⟩:=zAV h.tl.st e
   obtain ⟨a,b,c,d⟩:=h.far o1;exact ⟨a,b,c,d,fun ht=>absurd (ht.eq o2) (by decide),fun _ hp=>hp e⟩
 ·intro e
  rcases hown with h1 | ⟨g,h1,h2⟩
  ·rw [h1] at e
   exact hp e
  ·rw [h1] at e
   injection e with e
   omega
 ·have:=(zAV hX.st e).2.lt
  omega
end
theorem zPg:(Tryz.prog.info? 27).map (fun i=>(i.zero,i.size,i.bytes))=some (some (.slice none 0 0),1,24):=by kernel_rfl
theorem zG7 {l:List (Int × Int)} {x:List Bool} {c:Int} {y:List Bool} {st:Int} {p:Int × Int}:∀ k,p∈zCO l x c y st k->p.1=st/\∃ d:Nat,d < k/\p.2=(d:Int)/\zA7 l x c y (d:Int)=true
 | 0,h=>by simp [zCO] at h
 | k+1,h=>by
  rw [zCO] at h
  split at h
  ·next hf=>
   rw [List.mem_append,List.mem_singleton] at h
   rcases h with h | rfl
   ·obtain ⟨h1,d,h2,h3⟩:=zG7 k h
    exact ⟨h1,d,by omega,h3⟩
   ·exact ⟨rfl,k,by omega,rfl,hf⟩
  ·obtain ⟨h1,d,h2,h3⟩:=zG7 k h
   exact ⟨h1,d,by omega,h3⟩
theorem zJ6 {m:Mo} {ps:List (List (Int × Int))} {l:List (Int × Int)} {code c:Int} {p:Int × Int}:∀ i,i <= (zAB m code).length->p∈zCN m ps l code c i->p.1∈zAB m code/\∃ d:Nat,d < 2 ^ (zAA l).length/\p.2=(d:Int)/\zA7 l (zAG m ps code) c (zAG m ps p.1) (d:Int)=true
 | 0,_,h=>by simp [zCN] at h
 | i+1,hi,h=>by
  rw [zCN,List.mem_append] at h
  rcases h with h | h
  ·exact zJ6 i (by omega) h
  ·obtain ⟨h1,d,h2,h3,h4⟩:=zG7 _ h
   refine ⟨?_,d,h2,h3,by rw [h1];exact h4⟩
   rw [h1,List.getD_eq_getElem?_getD,List.getElem?_eq_getElem (by omega)]
   exact List.getElem_mem _
theorem zHu {m:Mo} {ps:List (List (Int × Int))} {l:List (Int × Int)} {code c:Int} (hm:mcode m=0) (hcr:0 <= code/\code < zAC m.vars m.vars.length) {p:Int × Int} (h:p∈zAf m ps l code c):(0 <= p.1/\p.1 < zAC m.vars m.vars.length)/\∃ d:Nat,d < 2 ^ (zAA l).length/\p.2=(d:Int):=by
 obtain ⟨h1,d,h2,h3,_⟩:=zJ6 _ (Nat.le_refl _) h;exact ⟨zET hm hcr h1,d,h2,h3⟩
theorem zJA {m:Mo} {ps:List (List (Int × Int))} {l:List (Int × Int)} {code c:Int} (hm:mcode m=0) (hcr:0 <= code/\code < zAC m.vars m.vars.length) (h6:(zAA l).length <= 6):(zAf m ps l code c).length <= 262144:=by
 have h1:=zFT (m:=m) (ps:=ps) (l:=l) (Nat.pow_le_pow_right (show 0 < 2 by decide) h6) code c (zAB m code).length
 have h2:=zHY hm hcr;unfold zAf;omega
theorem zI8 {m:Mo} {ps:List (List (Int × Int))} {l:List (Int × Int)} (hk:zAO m ps l=0) {p:Int × Int} (h:(0 <= p.1/\p.1 < zAC m.vars m.vars.length)/\∃ d:Nat,d < 2 ^ (zAA l).length/\p.2=(d:Int)):zDZ p:=by
 obtain ⟨hp0,hl0⟩:=zAx hk;obtain ⟨hm0,_⟩:=zBA hp0;obtain ⟨_,_,_,_,h6⟩:=zAl hl0;have hpr:=((zAn hm0).prod (Nat.le_refl m.vars.length)).2;have hN64:2 ^ (zAA l).length <= 64:=Nat.pow_le_pow_right (show 0 < 2 by decide) h6
 obtain ⟨h1,d,h2,h3⟩:=h;unfold zDZ;omega
def zIG (w0:World) (base A lm B bs bl n:Nat) (va vr pv fv:Value) (m:Mo) (ps:List (List (Int × Int))) (l:List (Int × Int)) (ho:Option Addr) (hc:Nat) (S:List (Int × Int)) (N:List (List Int)) (T:List Int) (init many:Int) (code:Int) (c:Nat) (e:Ending) (w':World):Prop:=
 e=.returned (.int .i64 (if 20000 < (zAW S (zAf m ps l code (c:Int))).length then 12 else 0))/\∃ sv nv tv,Hid (ExW w0 w' base A lm B bs bl (n+300001) va vr pv fv m ps l ho hc (zAW S (zAf m ps l code (c:Int))) (N++[zC1 S (zAf m ps l code (c:Int))]) (T++[zCA l (zAG m ps code) (c:Int)]) init many sv nv tv)
theorem zHw (w0 w:World) (base A lm B bs bl n:Nat) (va vr pv fv:Value) (m:Mo) (ps:List (List (Int × Int))) (l:List (Int × Int)) (ho:Option Addr) (hc:Nat) (S:List (Int × Int)) (N:List (List Int)) (T:List Int) (init many:Int) (sv nv tv:Value) (code:Int) (c:Nat) (hB:0 < w0.heap.size) (hT:zAJ w0) (hV:TaskV w0 va vr pv fv m ps l) (hk:zAO m ps l=0) (hX:ExW w0 w base A lm B bs bl n va vr pv fv m ps l ho hc S N T init many sv nv tv) (hn:n+600000 < 1000000000000) (hcr:0 <= code/\code < zAC m.vars m.vars.length) (hcN:c < 2 ^ (zAA l).length) (hzS:S.length <= 20000) (hzN:N.length <= 20000) (hzT:T.length <= 20000) :
  Calls Tryz.prog 19 #[.pointer (some ⟨A,0,none⟩),.pointer (some ⟨B,0,none⟩),.agg #[.int .i64 code,.int .i64 (c:Int)]] w (zIG w0 base A lm B bs bl n va vr pv fv m ps l ho hc S N T init many code c):=by
 obtain ⟨hp0,hl0⟩:=zAx hk;obtain ⟨hm0,_⟩:=zBA hp0;obtain ⟨_,_,_,_,h6⟩:=zAl hl0;have hpr:=((zAn hm0).prod (Nat.le_refl m.vars.length)).2;have hI:-9223372036854775808 <= code/\code <= 9223372036854775807:=by omega
 have hbl:=zJA (ps:=ps) (c:=(c:Int)) hm0 hcr h6;have hIs:∀ j,j < (zAf m ps l code (c:Int)).length->zDZ ((zAf m ps l code (c:Int)).getD j (0,0)):=fun j hj=>zI8 hk (zHu hm0 hcr (c:=(c:Int)) (ps:=ps) (by rw [List.getD_eq_getElem?_getD,List.getElem?_eq_getElem hj];exact List.getElem_mem _))
 have hw0:=zBT hm0 hcr;obtain ⟨W1,hW1⟩:∃ W1,W1=w.alloc (.cells #[.int .i64 code,.int .i64 (c:Int)] 59):=⟨_,rfl⟩
 have hb1:Below w.heap.size w W1:=by rw [hW1];exact (Below.refl _ _).alloc (Nat.le_refl _) _
 have hs1:W1.cell? ⟨w.heap.size,0,none⟩=some (.int .i64 code)/\W1.cell? ⟨w.heap.size,1,none⟩=some (.int .i64 (c:Int)):=by rw [hW1];constructor <;> simp [go_sem]
 have hX1:=hX.below hb1
 have hbe:Calls Tryz.prog 40 #[.pointer (some ⟨B,0,none⟩),.agg #[.int .i64 code,.int .i64 (c:Int)]] W1 fun e w2=>∃ so sc,e=.returned (.tuple #[.slice so (zAf m ps l code (c:Int)).length sc,.int .i64 0])/\(w2.cell? ⟨w.heap.size,0,none⟩=some (.int .i64 code)/\w2.cell? ⟨w.heap.size,1,none⟩=some (.int .i64 (c:Int)))/\Hid (ExW w0 w2 base A lm B bs bl (n+300000) va vr pv fv m ps l ho hc S N T init many sv nv tv/\SpO w2 W1.heap.size (.slice so (zAf m ps l code (c:Int)).length sc) (zAf m ps l code (c:Int))):=
  (zMV w0 W1 B bs bl n va vr pv fv m ps l ho hc code c hI hB hT hV hk hX1.su (by omega) hcr hcN).mono fun e w2 ⟨h1,h2,h3⟩=>by
   rcases h3 with ⟨_,so,sc,h4,h5⟩ | ⟨h4,_⟩
   ·exact ⟨so,sc,h4,⟨h1.cell hX1.su.two hs1.1,h1.cell hX1.su.two hs1.2⟩,hX1.call h1 h2.out,h5.out⟩
   ·exact absurd hw0 h4
 have HMe:Hid (∀ w2,ExW w0 w2 base A lm B bs bl (n+300000) va vr pv fv m ps l ho hc S N T init many sv nv tv->Calls Tryz.prog 41 #[.pointer (some ⟨B,0,none⟩),.agg #[.int .i64 code,.int .i64 (c:Int)]] w2 fun e w3=>e=.returned (.tuple #[.int .i64 (zCA l (zAG m ps code) (c:Int)),.int .i64 0])/\Hid (ExW w0 w3 base A lm B bs bl (n+300001) va vr pv fv m ps l ho hc S N T init many sv nv tv/\∀ so sc,SpO w2 W1.heap.size (.slice so (zAf m ps l code (c:Int)).length sc) (zAf m ps l code (c:Int))->SpO w3 W1.heap.size (.slice so (zAf m ps l code (c:Int)).length sc) (zAf m ps l code (c:Int)))):=fun w2 hx=>
  (zNl w0 w2 B bs bl (n+300000) va vr pv fv m ps l ho hc code c hI hB hT hV hk hx.su (by omega) hcr hcN).mono fun e w3 ⟨h1,h2,h3⟩=>⟨h1,hx.call h2 h3.out,fun so sc h=>h.sk h2 hx.su.two⟩
 have HPl:Hid (∀ w3 so sc,ExW w0 w3 base A lm B bs bl (n+300001) va vr pv fv m ps l ho hc S N T init many sv nv tv->SpO w3 W1.heap.size (.slice so (zAf m ps l code (c:Int)).length sc) (zAf m ps l code (c:Int))->Calls Tryz.prog 18 #[.pointer (some ⟨A,0,none⟩),.slice so (zAf m ps l code (c:Int)).length sc] w3.drew fun e w4=>e=.returned (.slice (some ⟨w3.heap.size,0,none⟩) (zAf m ps l code (c:Int)).length (zAf m ps l code (c:Int)).length)/\∃ us sv',w4.cell? ⟨A,2,none⟩=some nv/\(w4.alloc (.cells #[.slice (some ⟨w3.heap.size,0,none⟩) (zAf m ps l code (c:Int)).length (zAf m ps l code (c:Int)).length] 27)).cell? ⟨A,2,none⟩=some nv/\(w4.alloc (.cells #[.slice (some ⟨w3.heap.size,0,none⟩) (zAf m ps l code (c:Int)).length (zAf m ps l code (c:Int)).length] 27)).ownsRow base 27 1 nv N.length us/\base <= (w4.alloc (.cells #[.slice (some ⟨w3.heap.size,0,none⟩) (zAf m ps l code (c:Int)).length (zAf m ps l code (c:Int)).length] 27)).heap.size/\Hid (∀ g cap w9,World.ownsRow w9 base 27 1 (.slice (some ⟨g,0,none⟩) (N.length+1) cap) (N.length+1) (us++[.slice (some ⟨w3.heap.size,0,none⟩) (zAf m ps l code (c:Int)).length (zAf m ps l code (c:Int)).length])->(w4.alloc (.cells #[.slice (some ⟨w3.heap.size,0,none⟩) (zAf m ps l code (c:Int)).length (zAf m ps l code (c:Int)).length] 27)).grownBy w9 nv.ownBlock->(w9.cell? ⟨A,2,none⟩=some nv/\w9.frozen? ⟨A,2,none⟩=false)/\ExW w0 (w9.setCell ⟨A,2,none⟩ (.slice (some ⟨g,0,none⟩) (N.length+1) cap)) base A lm B bs bl (n+300001) va vr pv fv m ps l ho hc (zAW S (zAf m ps l code (c:Int))) (N++[zC1 S (zAf m ps l code (c:Int))]) T init many sv' (.slice (some ⟨g,0,none⟩) (N.length+1) cap) tv)):=fun w3 so sc hx hsp=>by
  have hbd:Below w3.heap.size w3 w3.drew:=(Below.refl _ _).drew;have hx3:=hx.below hbd;have hsp3:=hsp.later hbd (Nat.le_refl _)
  have hsep:∀ a,so=some a->¬ atZ A lm sv a.block:=fun a e z=>by
   have hge:=zJx hsp a _ _ (by rw [e])
   rcases z with z | z | z
   ·have:=hX1.tl.lt;omega
   ·have:=hX1.tl.lies.lt;omega
   ·have:=(zAV hX1.tl.sp z).2.lt;omega
  refine (zG3 w3.drew base A lm S N T init many sv nv tv _ so sc hx3.tl hsp3.v hsep hIs (by omega)).mono fun e w4 ⟨h1,sv',h2,h3,h4,h5,h6⟩=>?_
  have hx4:=hx3.put h5 h2;have hba:Below w4.heap.size w4 (w4.alloc (.cells #[.slice (some ⟨w3.heap.size,0,none⟩) (zAf m ps l code (c:Int)).length (zAf m ps l code (c:Int)).length] 27)):=(Below.refl _ _).alloc (Nat.le_refl _) _;have hx5:=hx4.below hba;obtain ⟨us,hus⟩:=id hx5.tl.nx;have hbs3:base <= w3.heap.size:=hx.tl.base_le
  refine ⟨h1,us,sv',(zBS hx4.tl.box).2.2.1,(zBS hx5.tl.box).2.2.1,hus.1,hx5.tl.base_le,fun g cap w9 g1 g2=>⟨?_,?_⟩⟩
  ·have hbx:w9.heap[A]? = some (atB sv' nv tv init many lm):=(g2.block A hx5.tl.lt fun e=>by have:=hx5.tl.ty.eq (zAV hus.1 e.symm).2;exact absurd this (by decide)).trans hx5.tl.box
   exact ⟨(zBS hbx).2.2.1,zGM hbx 2⟩
  ·have e:(zAf m ps l code (c:Int)).length=(zC1 S (zAf m ps l code (c:Int))).length:=(zEV _ _).symm
   have hr5:=h3.below hba;have ht5:=h4.below hba;have hr6:zAI (w4.alloc (.cells #[.slice (some ⟨w3.heap.size,0,none⟩) (zAf m ps l code (c:Int)).length (zAf m ps l code (c:Int)).length] 27)) (.slice (some ⟨w3.heap.size,0,none⟩) (zC1 S (zAf m ps l code (c:Int))).length (zAf m ps l code (c:Int)).length) (zC1 S (zAf m ps l code (c:Int))):=by rw [<- e];exact hr5
   have ht6:zAS (w4.alloc (.cells #[.slice (some ⟨w3.heap.size,0,none⟩) (zAf m ps l code (c:Int)).length (zAf m ps l code (c:Int)).length] 27)) (.slice (some ⟨w3.heap.size,0,none⟩) (zC1 S (zAf m ps l code (c:Int))).length (zAf m ps l code (c:Int)).length) 3:=by rw [<- e];exact ht5
   refine hx5.appN hus hr6 ht6 (fun a ea=>?_) g2 (by rw [<- e];exact g1)
   injection ea with ea
   subst ea;refine ⟨fun e2=>?_,hbs3⟩
   have:=(zAV hx.tl.st e2).2.lt;simp only at this
   omega
 clear hX hX1 hT hV hk hp0 hl0 hm0 hIs hw0;unfold zIG;generalize zAf m ps l code (c:Int)=beh at *;generalize zCA l (zAG m ps code) (c:Int)=mt at *;have HPn:Hid (∀ w' sv nv tv N T n,ExW w0 w' base A lm B bs bl n va vr pv fv m ps l ho hc (zAW S beh) N T init many sv nv tv->∃ vo vc,sv=.slice vo (zAW S beh).length vc):=fun w' sv nv tv N T n h=>h.tl.sp.shape
 have hpn:(zAW S beh).length <= 300000:=by have:=(zDL beh S).2;omega
 generalize zAW S beh=PS at *;generalize zC1 S beh=PI at *;generalize hbn:beh.length=bn at *;have HTs:Hid (∀ w' sv nv n S N,ExW w0 w' base A lm B bs bl n va vr pv fv m ps l ho hc S N T init many sv nv tv->∃ xo xc,tv=.slice xo T.length xc):=fun w' sv nv n S N h=>zAm h.tl.st
 have HNs:Hid (∀ w',ExW w0 w' base A lm B bs bl (n+300000) va vr pv fv m ps l ho hc S N T init many sv nv tv->∃ xo xc,nv=.slice xo N.length xc):=fun w' h=>by
  obtain ⟨us,h1,_⟩:=h.tl.nx;exact zAm h1
 obtain ⟨i0,hi,hz0,hz1,hz2⟩:=info_parts zPg;obtain ⟨j0,hj,jz0,jz1,jz2⟩:=info_parts zBd
 go_enter Tryz.func19,Tryz.ntmps19
 go_upto_region 7 with (first | (go_at_call 40;rw [<- hW1];refine hbe.mono ?_;rintro e w2 ⟨so,sc,rfl,⟨b0,b1⟩,HX2⟩;have hme:=HMe.out w2 HX2.out.1) | (go_at_call 41;refine hme.mono ?_;rintro e w3 ⟨rfl,HX3⟩))
 have hpl:=HPl.out w3 so sc HX3.out.1 (HX3.out.2 so sc HX2.out.2);have a2:w3.cell? ⟨A,2,none⟩=some nv:=(zBS HX3.out.1.tl.box).2.2.1;obtain ⟨no,nc,rfl⟩:=HNs.out w2 HX2.out.1;clear hbe hme HMe HPl HX2 HX3 HNs hs1 b0 b1
 go_cut [] (fun wx=>∃ sv' nv',Hid (ExW w0 wx base A lm B bs bl (n+300001) va vr pv fv m ps l ho hc PS (N++[PI]) T init many sv' nv' tv))
 case first=>
  go_region_law (first
   | (refine step_append_lies _ (by rfl) (.tmp 33) (.tmp 37) 42 (by rfl) base 27 i0 _ 1 24 Tryz.underlying42 hi hz0 hz1 hz2 (by rfl) (by decide) (.slice no N.length nc) N.length us (by rfl) hown4 ⟨w4.heap.size,0,none⟩ 1 1 [.slice (some ⟨w3.heap.size,0,none⟩) bn bn] (by rfl) (by rfl) (cell_one_new _ _ _) (by intro u hu;simp at hu;subst hu;rfl) (by decide) (by unfold maxLen;omega) (by omega) hba4 _ rfl ?_;intro g9 cap9 w9 hown hgrow hat hlt9;obtain ⟨⟨z0,zf⟩,hx9⟩:=HN4.out g9 cap9 w9 hown hgrow;have HX9:=(show Hid _ from hx9);clear hx9 hown hgrow hat)
   | (go_simp;go_at_call 18;refine hpl.mono ?_;rintro e w4 ⟨rfl,us,sv4,y0,y1,hown4,hba4,HN4⟩))
  all_goals go_wp2_with fail
  all_goals go_meet
  all_goals exact ⟨_,_,HX9⟩
 case rest=>
  obtain ⟨sv5,nv5,HX5⟩:=hcut;obtain ⟨xo,xc,rfl⟩:=HTs.out wc sv5 nv5 _ PS _ HX5.out;obtain ⟨vo5,vc5,rfl⟩:=HPn.out wc _ _ _ _ _ _ HX5.out;have hba:Below wc.heap.size wc (wc.alloc (.cells #[.int .i64 mt] 3)):=(Below.refl _ _).alloc (Nat.le_refl _) _;have hx6:=HX5.out.below hba
  have hown6:World.ownsRow (wc.alloc (.cells #[.int .i64 mt] 3)) base 3 1 (.slice xo T.length xc) T.length (zAE T):=hx6.tl.st;have hbs6:=hx6.tl.base_le;have a3:wc.cell? ⟨A,3,none⟩=some (.slice xo T.length xc):=(zBS HX5.out.tl.box).2.2.2.1
  have HT6:Hid (∀ g cap w9,World.ownsRow w9 base 3 1 (.slice (some ⟨g,0,none⟩) (T.length+1) cap) (T.length+1) (zAE T++[.int .i64 mt])->(wc.alloc (.cells #[.int .i64 mt] 3)).grownBy w9 (Value.slice xo T.length xc).ownBlock->((Value.slice xo T.length xc).ownBlock=some g\/g=(wc.alloc (.cells #[.int .i64 mt] 3)).heap.size)->(w9.cell? ⟨A,3,none⟩=some (.slice xo T.length xc)/\w9.frozen? ⟨A,3,none⟩=false)/\(w9.setCell ⟨A,3,none⟩ (.slice (some ⟨g,0,none⟩) (T.length+1) cap)).cell? ⟨A,0,none⟩=some (.slice vo5 PS.length vc5)/\Hid (ExW w0 (w9.setCell ⟨A,3,none⟩ (.slice (some ⟨g,0,none⟩) (T.length+1) cap)) base A lm B bs bl (n+300001) va vr pv fv m ps l ho hc PS (N++[PI]) (T++[mt]) init many (.slice vo5 PS.length vc5) nv5 (.slice (some ⟨g,0,none⟩) (T.length+1) cap))):=fun g cap w9 h1 h2 h3=>by
   have hbx:w9.heap[A]? = some (atB (.slice vo5 PS.length vc5) nv5 (.slice xo T.length xc) init many lm):=(h2.block A hx6.tl.lt fun e=>by have:=hx6.tl.ty.eq (zAV hx6.tl.st e.symm).2;exact absurd this (by decide)).trans hx6.tl.box
   have hxx:=hx6.appT h2 h1 (by
    rcases h3 with h | h
    ·exact .inl (by rw [h];rfl)
    ·exact .inr ⟨g,rfl,by omega⟩)
   exact ⟨⟨(zBS hbx).2.2.2.1,zGM hbx 3⟩,(zBS hxx.tl.box).1,hxx⟩
  clear hx6 HX5 HTs HPn
  by_cases hfull:20000 < PS.length
  ·have hfi:(20000:Int) < (PS.length:Int):=by omega
   go_wp2_with (first | (at_builtin;refine wpList_append_lies _ rfl (.tmp 47) (.tmp 49) 27 rfl base 3 j0 _ 1 8 Tryz.underlying27 hj jz0 jz1 jz2 rfl (by decide) (.slice xo T.length xc) T.length (zAE T) rfl hown6 ⟨wc.heap.size,0,none⟩ 1 1 [.int .i64 mt] rfl rfl (cell_one_new _ _ _) (by intro u hu;simp at hu;subst hu;rfl) (by decide) (by unfold maxLen;omega) (by omega) hbs6 _ rfl ?_;intro g9 cap9 w9 hown hgrow hat hlt9;obtain ⟨⟨z0,zf⟩,z1,HX9⟩:=HT6.out g9 cap9 w9 hown hgrow hat;clear hown hgrow hat))
   go_ret
   exact ⟨by first | rfl | simp [hfull],_,_,_,HX9⟩
  ·have hfi:¬ (20000:Int) < (PS.length:Int):=by omega
   go_wp2_with (first | (at_builtin;refine wpList_append_lies _ rfl (.tmp 47) (.tmp 49) 27 rfl base 3 j0 _ 1 8 Tryz.underlying27 hj jz0 jz1 jz2 rfl (by decide) (.slice xo T.length xc) T.length (zAE T) rfl hown6 ⟨wc.heap.size,0,none⟩ 1 1 [.int .i64 mt] rfl rfl (cell_one_new _ _ _) (by intro u hu;simp at hu;subst hu;rfl) (by decide) (by unfold maxLen;omega) (by omega) hbs6 _ rfl ?_;intro g9 cap9 w9 hown hgrow hat hlt9;obtain ⟨⟨z0,zf⟩,z1,HX9⟩:=HT6.out g9 cap9 w9 hown hgrow hat;clear hown hgrow hat))
   go_ret
   exact ⟨by first | rfl | simp [hfull],_,_,_,HX9⟩
variable {Pz : Nat -> Prop}
theorem SvOk.made {w0 w w':World} {n:Nat} {va vr pv fv:Value} {m:Mo} {ps:List (List (Int × Int))} {l:List (Int × Int)} {ho:Option Addr} {hc:Nat} (hb:Below w0.heap.size w0 w) (hb2:Below w.heap.size w w') (hn:w.heap.size <= n) (hs:SurvAt w' (n+2) va vr pv fv (.slice ho (zAA l).length hc) n (n+1))
  (ho':w'.ownsRow w.heap.size 3 1 (.slice ho (zAA l).length hc) (zAA l).length (zAE (zAA l))) (h1:w'.heap[n]? = some (.map #[] 0)) (h2:w'.heap[n+1]? = some (.map #[] 0)):SvOk (fun _=>True) w0 w' (n+2) n (n+1) 0 va vr pv fv m ps l ho hc:=by
 have:=hb.size;exact ⟨hs,hb.trans (hb2.mono hb.size),by omega,by omega,by omega,zA4 ho',zAS.owns ho',fun _ _=>trivial,fun _ _=>trivial,⟨_,zAZ.new _ h1,fun kl v h=>by simp at h⟩,⟨_,zAZ.new _ h2,fun kl v h=>by simp at h⟩⟩
end Go.Proofs.YtnihdlgfhhdhkaaGreatDoor
namespace Go.Proofs.YtnihdlgfhhdhkaaGreatDoor
open Go.ChangeShapes Go.WideShapes Go.ChangeAt Go.RowKit Go.Deep Go.Maps
open Terms Tm
set_option maxHeartbeats 6400000
set_option maxRecDepth 20000
def zCo (m:Mo) (l:List (Int × Int)) (p:Int × Int):Prop:=(0 <= p.1/\p.1 < zAC m.vars m.vars.length)/\∃ d:Nat,d < 2 ^ (zAA l).length/\p.2=(d:Int)
noncomputable def zCB (m:Mo) (ps:List (List (Int × Int))) (l:List (Int × Int)) (p:Int × Int):List (Int × Int):=zAf m ps l p.1 p.2
noncomputable def xpP (m:Mo) (ps:List (List (Int × Int))) (l:List (Int × Int)) (k:Nat):List (Int × Int):=exS (zAd m ps l) (zCB m ps l) k
noncomputable def zCL (m:Mo) (ps:List (List (Int × Int))) (l:List (Int × Int)) (k:Nat):Int × Int:=(xpP m ps l k).getD k (0,0)
noncomputable def xpN (m:Mo) (ps:List (List (Int × Int))) (l:List (Int × Int)):Nat->List (List Int)
 | 0=>[]
 | k+1=>xpN m ps l k++[zC1 (xpP m ps l k) (zCB m ps l (zCL m ps l k))]
noncomputable def xpT (m:Mo) (ps:List (List (Int × Int))) (l:List (Int × Int)):Nat->List Int
 | 0=>[]
 | k+1=>xpT m ps l k++[zCA l (zAG m ps (zCL m ps l k).1) (zCL m ps l k).2]
section
variable {m : Mo} {ps : List (List (Int × Int))} {l : List (Int × Int)}
theorem zGN (k:Nat):xpP m ps l (k+1)=zAW (xpP m ps l k) (zCB m ps l (zCL m ps l k)):=rfl
theorem zCg:∀ k,(xpN m ps l k).length=k
 | 0=>rfl
 | k+1=>by rw [xpN,List.length_append,zCg k];rfl
theorem zC7:∀ k,(xpT m ps l k).length=k
 | 0=>rfl
 | k+1=>by rw [xpT,List.length_append,zC7 k];rfl
theorem zFh {p:Int × Int}:∀ k,p∈zBk m ps l k->p.1=zB4 m/\∃ d:Nat,d < k/\p.2=(d:Int)/\tru l (zAG m ps (zB4 m)) (d:Int) 0≠true
 | 0,h=>by simp [zBk] at h
 | k+1,h=>by
  rw [zBk] at h
  split at h
  ·obtain ⟨h1,d,h2,h3⟩:=zFh k h
   exact ⟨h1,d,by omega,h3⟩
  ·next hf=>
   rw [List.mem_append,List.mem_singleton] at h
   rcases h with h | rfl
   ·obtain ⟨h1,d,h2,h3⟩:=zFh k h
    exact ⟨h1,d,by omega,h3⟩
   ·exact ⟨rfl,k,by omega,rfl,hf⟩
theorem zHv (hk:zAO m ps l=0) {p:Int × Int} (h:p∈zAd m ps l):zCo m l p:=by
 obtain ⟨h1,d,h2,h3,_⟩:=zFh _ h;exact ⟨by rw [h1];exact zGY hk,d,h2,h3⟩
theorem zMk (hk:zAO m ps l=0) {s p:Int × Int} (hs:zCo m l s) (h:p∈zCB m ps l s):zCo m l p:=zHu (zBA (zAx hk).1).1 hs.1 h
theorem zI2 (hk:zAO m ps l=0):∀ p∈xpP m ps l 0,zCo m l p:=fun p hp=>by
 rcases (zDp _ _ _).1 hp with h | h
 ·exact absurd h List.not_mem_nil
 ·exact zHv hk h
theorem zIK {k:Nat} (h:k < (xpP m ps l k).length):zCL m ps l k∈xpP m ps l k:=by
 unfold zCL;rw [List.getD_eq_getElem?_getD,List.getElem?_eq_getElem h]
 exact List.getElem_mem _
theorem zJB (hk:zAO m ps l=0) {k:Nat} (hl:k < (xpP m ps l k).length) (h:∀ p∈xpP m ps l k,zCo m l p):∀ p∈xpP m ps l (k+1),zCo m l p:=fun p hp=>by
 rw [zGN] at hp
 rcases (zDp _ _ _).1 hp with h1 | h1
 ·exact h p h1
 ·exact zMk hk (h _ (zIK hl)) h1
end
def zCa (m:Mo) (ps:List (List (Int × Int))) (l:List (Int × Int)) (K:Nat):Prop:=(xpP m ps l K).length=K/\K <= 20000/\(∀ j,j < K->j < (xpP m ps l j).length)/\∀ p∈xpP m ps l K,zCo m l p
def zG6 (m:Mo) (ps:List (List (Int × Int))) (l:List (Int × Int)):Prop:=∃ k,(∀ j,j <= k->j < (xpP m ps l j).length)/\20000 < (xpP m ps l (k+1)).length
def GrX (w:World) (base:Nat) (m:Mo) (ps:List (List (Int × Int))) (l:List (Int × Int)) (K:Nat) (sv nv tv:Value):Prop:=SpO w base sv (xpP m ps l K)/\zFB w base nv tv (xpN m ps l K)/\w.ownsRow base 3 1 tv (xpT m ps l K).length (zAE (xpT m ps l K))
def zGq (w:World) (m:Mo) (ps:List (List (Int × Int))) (l:List (Int × Int)) (e:Ending) (w':World):Prop:=
 (zAO m ps l=0/\∃ K,zCa m ps l K/\∃ sv nv tv,e=.returned (.tuple #[.agg #[sv,.int .i64 ((zAd m ps l).length:Nat),nv,tv,.int .i64 ((zAA l).length:Nat)],.int .i64 0])/\Below w.heap.size w w'/\Hid (GrX w' w.heap.size m ps l K sv nv tv))\/
 (zAO m ps l=0/\zG6 m ps l/\e=.returned (.tuple #[.agg #[.slice none 0 0,.int .i64 0,.slice none 0 0,.slice none 0 0,.int .i64 0],.int .i64 12])/\Below w.heap.size w w')\/
 (zAO m ps l≠0/\e=.returned (.tuple #[.agg #[.slice none 0 0,.int .i64 0,.slice none 0 0,.slice none 0 0,.int .i64 0],.int .i64 (zAO m ps l)])/\Below w.heap.size w w')
def grB (sv nv tv:Value) (init many:Int):Obj:=.cells #[sv,.int .i64 init,nv,tv,.int .i64 many] 44 (0,0)
section
variable {w w' : World} {X : Nat} {sv nv tv : Value} {init many : Int}
theorem zFJ (hb:w.heap[X]? = some (grB sv nv tv init many)):w.cell? ⟨X,0,none⟩=some sv/\w.cell? ⟨X,1,none⟩=some (.int .i64 init)/\w.cell? ⟨X,2,none⟩=some nv/\w.cell? ⟨X,3,none⟩=some tv/\w.cell? ⟨X,4,none⟩=some (.int .i64 many):=by
 unfold grB at hb;refine ⟨?_,?_,?_,?_,?_⟩ <;> simp [World.cell?,hb]
theorem zIa (hb:w.heap[X]? = some (grB sv nv tv init many)) (i:Nat):w.frozen? ⟨X,i,none⟩=false:=by
 unfold grB at hb;simp [World.frozen?,hb]
theorem zHP (w:World) (X:Nat) (a b c d e:Value):Chg (fun i=>i=X) w (((((w.setCell ⟨X,0,none⟩ a).setCell ⟨X,1,none⟩ b).setCell ⟨X,2,none⟩ c).setCell ⟨X,3,none⟩ d).setCell ⟨X,4,none⟩ e):=
 (((((Chg.setCell w ⟨X,0,none⟩ a).trans (Chg.setCell _ ⟨X,1,none⟩ b)).trans (Chg.setCell _ ⟨X,2,none⟩ c)).trans (Chg.setCell _ ⟨X,3,none⟩ d)).trans (Chg.setCell _ ⟨X,4,none⟩ e))
theorem GrX.chg {base K:Nat} {m:Mo} {ps:List (List (Int × Int))} {l:List (Int × Int)} (h:GrX w base m ps l K sv nv tv) (hs:Chg (fun i=>i=X) w w') (ht:TyB w X 44):GrX w' base m ps l K sv nv tv:=by
 obtain ⟨h1,h2,h3⟩:=h;obtain ⟨us,n1,_⟩:=id h2;have hno:∀ g t,TyB w g t->t≠44->g≠X:=fun g t hg hn e=>hn (hg.eq (e ▸ ht))
 exact ⟨zBE h1 hs (fun g e=>hno g _ (zAV h1 e).2 (by decide)),h2.chg hs (fun i z=>⟨fun e=>hno i _ (zAV n1 e).2 (by decide) z,fun _ _ _ _ _ hi=>hno i _ hi (by decide) z⟩),zBE h3 hs (fun g e=>hno g _ (zAV h3 e).2 (by decide))⟩
theorem zFB.mono {base base':Nat} {N:List (List Int)} (h:zFB w base nv tv N) (hb:base' <= base):zFB w base' nv tv N:=by
 obtain ⟨us,h1,h2,h3⟩:=h;refine ⟨us,zAy h1 hb,h2,fun i hi=>?_⟩
 obtain ⟨ao,c,e1,e2,e3,e4⟩:=h3 i hi;exact ⟨ao,c,e1,e2,e3,fun a e=>⟨(e4 a e).1,Nat.le_trans hb (e4 a e).2⟩⟩
end
end Go.Proofs.YtnihdlgfhhdhkaaGreatDoor
namespace Go.Proofs.YtnihdlgfhhdhkaaGreatDoor
open Go.ChangeShapes Go.WideShapes Go.ChangeAt Go.RowKit Go.Deep
open Terms
set_option maxHeartbeats 6400000
set_option maxRecDepth 20000
def zAo (a:List Int) (h:Nat->Nat->Bool) (j:Nat):Nat->Int
 | 0=>0
 | k+1=>zAo a h j k+if h (a.getD k 0).toNat j=true then 2 ^ k else 0
theorem zDw (a:List Int) (h:Nat->Nat->Bool) (j:Nat):∀ k,0 <= zAo a h j k/\zAo a h j k < 2 ^ k:=by
 intro k
 induction k with
 | zero=>simp [zAo]
 | succ k ih=>
  have h2:(0:Int) < 2 ^ k:=Int.pow_pos (by decide)
  simp only [zAo];rw [Int.pow_succ]
  split <;> omega
def zGm (W:World) (n m RB:Nat) (aao:Option Addr) (an:Nat) (a:List Int) (h:Nat->Nat->Bool):Prop:=
 (∀ k,k < an->∃ (p ab aoff:Nat),aao=some ⟨ab,aoff,none⟩/\ab < W.heap.size/\W.cell? ⟨ab,aoff+k,none⟩=some (.int .i64 (p:Int))/\p < n/\(a.getD k 0).toNat=p)/\RB < W.heap.size/\∀ q,q < n->∃ rb,W.cell? ⟨RB,q,none⟩=some (.slice (some ⟨rb,0,none⟩) m m)/\rb < W.heap.size/\∀ j,j < m->W.cell? ⟨rb,j,none⟩=some (.bool (h q j))
theorem zGm.later {W W':World} {n m RB:Nat} {aao:Option Addr} {an:Nat} {a:List Int} {h:Nat->Nat->Bool} (c:zGm W n m RB aao an a h) (hb:Below W.heap.size W W'):zGm W' n m RB aao an a h:=by
 obtain ⟨c1,c2,c3⟩:=c;refine ⟨fun k hk=>?_,Nat.lt_of_lt_of_le c2 hb.size,fun q hq=>?_⟩
 ·obtain ⟨p,ab,aoff,e1,e2,e3,e4,e5⟩:=c1 k hk
  exact ⟨p,ab,aoff,e1,Nat.lt_of_lt_of_le e2 hb.size,(hb.cell (p:=⟨ab,aoff+k,none⟩) e2).trans e3,e4,e5⟩
 ·obtain ⟨rb,e1,e2,e3⟩:=c3 q hq
  exact ⟨rb,(hb.cell (p:=⟨RB,q,none⟩) c2).trans e1,Nat.lt_of_lt_of_le e2 hb.size,fun j hj=>(hb.cell (p:=⟨rb,j,none⟩) e2).trans (e3 j hj)⟩
structure ClmJ (T:World) (m:Nat) (f:Nat->Int) (W:World):Prop where
 below:Below T.heap.size T W
 row:W.rowIs T.heap.size 3 m (fun j=>.int .i64 (f j))
theorem ClmJ.put {T:World} {m:Nat} {f:Nat->Int} {W:World} (s:ClmJ T m f W) (p:Nat) (x:Int) (g:Nat->Int) (hg:∀ j,j < m->g j=if j=p then x else f j):ClmJ T m g (W.setCell ⟨T.heap.size,p,none⟩ (.int .i64 x)):=by
 refine ⟨s.below.setCell (Nat.le_refl _) _,(s.row.set p (.int .i64 x)).congr fun i hi=>?_⟩
 rw [hg i hi]
 by_cases hip:i=p
 ·rw [if_pos hip,if_pos hip]
 ·rw [if_neg hip,if_neg hip]
theorem ClmJ.congr {T:World} {m:Nat} {f g:Nat->Int} {W:World} (s:ClmJ T m f W) (hg:∀ j,j < m->f j=g j):ClmJ T m g W:=⟨s.below,s.row.congr fun i hi=>by rw [hg i hi]⟩
theorem ClmJ.drew {T:World} {m:Nat} {f:Nat->Int} {W:World} (s:ClmJ T m f W):ClmJ T m f W.drew:=⟨s.below.drew,zAh s.row (Below.refl _ _).drew⟩
theorem zLf (b off n cap:Nat) (so lo:Option Addr) (sn sc ln lc m an:Nat) (props:Int) (a:List Int) (h:Nat->Nat->Bool) (w:World) (hm:m <= 24) (han:an <= 6)
  (hfi:∀ w0,Below w.heap.size w w0->Calls Tryz.prog 28 #[.slice (some ⟨b,off,none⟩) n cap,.agg #[.slice so sn sc,.slice lo ln lc],.int .i64 props] w0 fun e w'=>∃ B aao ac CB ccap RB,e=.returned (.tuple #[.agg #[.slice (some ⟨b,off,none⟩) n cap,.slice (some ⟨B,0,none⟩) n n,.slice aao an ac,.slice (some ⟨CB,0,none⟩) m ccap,.int .i64 (sn:Int),.slice (some ⟨RB,0,none⟩) n n],.int .i64 0])/\Below w.heap.size w w'/\Hid (zGm w' n m RB aao an a h)) :
  Calls Tryz.prog 9 #[.slice (some ⟨b,off,none⟩) n cap,.agg #[.slice so sn sc,.slice lo ln lc],.int .i64 props] w fun e w'=>∃ rb,e=.returned (.tuple #[.slice (some ⟨rb,0,none⟩) m m,.int .i64 0])/\Below w.heap.size w w'/\Hid (w'.rowIs rb 3 m (fun j=>.int .i64 (zAo a h j an))):=by
 have hmk:=run_make_row' (P:=Tryz.prog) 27 3 (.int .i64 0) 8 Tryz.underlying27 zBd rfl .i64 .i64 m (by omega) (by omega)
 have hf1:=fun o=>hfi (w.alloc o) ((Below.refl _ _).alloc (Nat.le_refl _) o)
 have HC0:Hid (∀ j,zAo a h j 0=0):=fun _=>rfl
 have HCS:Hid (∀ j k,zAo a h j (k+1)=zAo a h j k+if h (a.getD k 0).toNat j=true then 2 ^ k else 0):=fun _ _=>rfl
 have HCB:Hid (∀ j k,0 <= zAo a h j k/\zAo a h j k < 2 ^ k):=fun j k=>zDw a h j k
 generalize zAo a h=cl at *;clear hfi
 go_enter Tryz.func9,Tryz.ntmps9
 go_wp2_with (go_at_call 28;refine (hf1 _).mono ?_;rintro e w1 ⟨B,aao,ac,CB,ccap,RB,rfl,hb1,HI⟩)
 clear hf1 hmk;obtain ⟨T,hT⟩:∃ T,T=w1.alloc (.cells #[.slice (some ⟨b,off,none⟩) n cap,.slice (some ⟨B,0,none⟩) n n,.slice aao an ac,.slice (some ⟨CB,0,none⟩) m ccap,.int .i64 (sn:Int),.slice (some ⟨RB,0,none⟩) n n] 91):=⟨_,rfl⟩
 have hts:T.heap.size=w1.heap.size+1:=by rw [hT];simp
 have hTb:Below w1.heap.size w1 T:=by rw [hT];exact (Below.refl _ _).alloc (Nat.le_refl _) _
 have HTI:Hid (zGm T n m RB aao an a h):=HI.out.later hTb;have d5:T.cell? ⟨w1.heap.size,5,none⟩=some (.slice (some ⟨RB,0,none⟩) n n):=by rw [hT];simp [go_sem]
 have d2:T.cell? ⟨w1.heap.size,2,none⟩=some (.slice aao an ac):=by rw [hT];simp [go_sem]
 rw [<- hT,<- hts]
 have hU0:ClmJ T m (fun j=>cl j 0) (T.alloc (.cells (madeCells #[.int .i64 0] m) 3)):=by
  refine ⟨(Below.refl _ _).alloc (Nat.le_refl _) _,(World.rowIs_made T (.int .i64 0) m 3).congr fun i _=>by rw [HC0.out]⟩
 have HU0:Hid (ClmJ T m (fun j=>cl j 0) (T.alloc (.cells (madeCells #[.int .i64 0] m) 3))):=hU0
 have hbT:Below w.heap.size w T:=hb1.trans (hTb.mono hb1.size);have HD:Hid (∀ W,Below T.heap.size T W->W.cell? ⟨w1.heap.size,5,none⟩=some (.slice (some ⟨RB,0,none⟩) n n)):=fun W hb=>(hb.cell (p:=⟨w1.heap.size,5,none⟩) (by show w1.heap.size < _;omega)).trans d5
 have HTs:Hid (T.heap.size=w1.heap.size+1):=hts;generalize T.alloc (.cells (madeCells #[.int .i64 0] m) 3)=U0 at *;clear hT hTb hU0 d2 d5 hb1 HI hts
 go_loopw [32] (fun i wr=>∃ k:Nat,k <= an/\i=.int .i64 (k:Int)/\Hid (ClmJ T m (fun j=>cl j k) wr)) (fun i _=>an - (intOf i).toNat)
 case atStart=>exact ⟨0,Nat.zero_le _,rfl,HU0.out⟩
 case round=>
  obtain ⟨k,hk,rfl,HJ⟩:=hrel;clear HU0
  by_cases hlt:k < an
  ·have hIr:=HTI.out.later HJ.out.below
   obtain ⟨p,ab,aoff,rfl,habl,hca,hpn,hpe⟩:=hIr.1 k hlt;obtain ⟨rb,hcr,hrl,hrc⟩:=(HTI.out.2.2 p hpn);have HRow:Hid (∀ W,Below T.heap.size T W->∀ j,j < m->W.cell? ⟨rb,j,none⟩=some (.bool (h p j))):=fun W hb j hj=>(hb.cell (p:=⟨rb,j,none⟩) hrl).trans (hrc j hj)
   have hcr2:=(HJ.out.below.cell (p:=⟨RB,p,none⟩) HTI.out.2.1).trans hcr;have hd5:=HD.out wr HJ.out.below;have HS:Hid (∀ j,cl j (k+1)=cl j k+if h p j=true then 2 ^ k else 0):=fun j=>by rw [<- hpe];exact HCS.out j k
   have hk6:k < 6:=by omega
   have hps:=zE2 (k:=k) (by omega)
   have h2k:(0:Int) < 2 ^ k:=Int.pow_pos (by decide)
   have HOr:Hid (∀ j,bits BinOp.or IntKind.i64 (cl j k) (2 ^ k)=cl j k+2 ^ k):=fun j=>zIr hk6 (HCB.out j k).1 (HCB.out j k).2
   clear hIr hcr hrc HTI HCS HCB HC0 HD hpe;generalize wr=wo at *
   go_wp2_with fail
   go_loopw [43] (fun i wr=>∃ q:Nat,q <= m/\i=.int .i64 (q:Int)/\Hid (ClmJ T m (fun j=>if j < q then cl j (k+1) else cl j k) wr)) (fun i _=>m - (intOf i).toNat)
   case atStart=>exact ⟨0,Nat.zero_le _,rfl,HJ.out.congr fun j _=>by simp⟩
   case round=>
    obtain ⟨q,hq,rfl,HJq⟩:=hrel
    by_cases hlq:q < m
    ·have hcb:=HRow.out wr HJq.out.below q hlq
     have hcc:=HJq.out.row.cell hlq;have hfc:=HJq.out.row.frozen q;rw [if_neg (by omega)] at hcc
     have HOq:Hid (bits BinOp.or IntKind.i64 (cl q k) (2 ^ k)=cl q k+2 ^ k):=HOr.out q;have HSq:Hid (cl q (k+1)=cl q k+if h p q=true then 2 ^ k else 0):=HS.out q
     have HNext:Hid (ClmJ T m (fun j=>if j < q+1 then cl j (k+1) else cl j k) (wr.setCell ⟨T.heap.size,q,none⟩ (.int .i64 (cl q (k+1))))):=HJq.out.put q _ _ fun j hj=>by
      by_cases e:j=q
      ·subst e;rw [if_pos (by omega),if_pos rfl]
      ·rw [if_neg e]
       by_cases e2:j < q
       ·rw [if_pos (by omega),if_pos e2]
       ·rw [if_neg (by omega),if_neg e2]
     generalize hhv:h p q=hv at *;generalize cl q k=c0 at *
     cases hv with
     | true=>
      have HV1:Hid (cl q (k+1)=bits BinOp.or IntKind.i64 c0 (2 ^ k)):=by show _=_;rw [HSq.out,HOq.out];simp
      rw [HV1.out] at HNext;clear HSq HOq HV1 hhv
      go_wp2_with fail
      go_region
      go_wp2_with fail
      exact ⟨⟨q+1,hlq,by first | rfl | simp,HNext.out.drew⟩,by simp [intOf];omega⟩
     | false=>
      have HJ2:Hid (ClmJ T m (fun j=>if j < q+1 then cl j (k+1) else cl j k) wr):=HJq.out.congr fun j hj=>by
       by_cases e:j=q
       ·subst e
        rw [if_neg (by omega),if_pos (by omega),HS.out,hhv]
        simp
       ·by_cases e2:j < q
        ·rw [if_pos (by omega),if_pos (by omega)]
        ·rw [if_neg (by omega),if_neg (by omega)]
      clear HSq HOq HNext
      go_wp2_with fail
      exact ⟨⟨q+1,hlq,by first | rfl | simp,HJ2.out⟩,by simp [intOf];omega⟩
    ·obtain rfl:q=m:=by omega
     have HJ2:Hid (ClmJ T q (fun j=>cl j (k+1)) wr):=HJq.out.congr fun j hj=>by rw [if_pos hj]
     go_wp2_with fail
     exact ⟨⟨k+1,hlt,by first | rfl | simp,HJ2.out⟩,by simp [intOf];omega⟩
  ·obtain rfl:k=an:=by omega
   have hbel:=HJ.out.below
   go_wp2_with fail
   go_ret2
   exact ⟨_,rfl,hbT.trans (hbel.mono hbT.size),HJ.out.row⟩
end Go.Proofs.YtnihdlgfhhdhkaaGreatDoor
namespace Go.Proofs.YtnihdlgfhhdhkaaGreatDoor
open Terms
set_option maxHeartbeats 6400000
set_option maxRecDepth 20000
theorem zJz (a:List Int) (h:Nat->Nat->Bool) (j:Nat):∀ n k,k < n->zC8 (zAo a h j n) k=h (a.getD k 0).toNat j:=by
 intro n
 induction n with
 | zero=>intro k hk;omega
 | succ n ih=>
  intro k hk;obtain ⟨b0,b1⟩:=zDw a h j n;have hp:(0:Int) < 2 ^ k:=Int.pow_pos (by decide)
  by_cases e:k=n
  ·subst e
   have e1:zAo a h j (k+1)=zAo a h j k+if h (a.getD k 0).toNat j=true then 2 ^ k else 0:=rfl
   by_cases hb:h (a.getD k 0).toNat j=true
   ·rw [if_pos hb] at e1
    have:(zAo a h j k+2 ^ k) / 2 ^ k=1:=by
     rw [show zAo a h j k+2 ^ k=zAo a h j k+1*2 ^ k by omega,Int.add_mul_ediv_right _ _ (by omega),Int.ediv_eq_zero_of_lt b0 b1]
     rfl
    rw [hb,e1];unfold zC8;rw [this];rfl
   ·rw [if_neg hb,Int.add_zero] at e1
    rw [e1,Bool.eq_false_iff.2 hb];unfold zC8;rw [Int.ediv_eq_zero_of_lt b0 b1];rfl
  ·have hkn:k < n:=by omega
   rw [<- ih k hkn];have e1:zAo a h j (n+1)=zAo a h j n+if h (a.getD n 0).toNat j=true then 2 ^ n else 0:=rfl
   by_cases hb:h (a.getD n 0).toNat j=true
   ·rw [if_pos hb] at e1
    obtain ⟨d,hd⟩:∃ d,n=k+1+d:=⟨n - (k+1),by omega⟩
    have e2:(2:Int) ^ n=(2*2 ^ d)*2 ^ k:=by rw [hd,Int.pow_add,Int.pow_succ];simp [Int.mul_comm,Int.mul_left_comm,Int.mul_assoc]
    have e3:zAo a h j (n+1) / 2 ^ k % 2=zAo a h j n / 2 ^ k % 2:=by
     rw [e1,e2,Int.add_mul_ediv_right _ _ (by omega)]
     omega
    unfold zC8;rw [e3]
   ·rw [if_neg hb,Int.add_zero] at e1
    rw [e1]
theorem op_at {T:Tm} {l:List (Int × Int)} (ho:T.ops=l) {q:Nat} (hq:q < T.size):l.getD q (0,0)=((T.sub q).kind,(T.sub q).val):=by
 obtain ⟨r,hr⟩:=Tm.sub_drop T q hq;rw [ho] at hr;have h0:l.getD q (0,0)=(l.drop q).getD 0 (0,0):=by simp [List.getD_eq_getElem?_getD]
 rw [h0,hr,<- Tm.ops_head (T.sub q) (0,0)];have hne:=Tm.ops_ne (T.sub q)
 cases hx:(T.sub q).ops with
 | nil=>exact absurd hx hne
 | cons x s=>simp
theorem zJ2 {T:Tm} {q:Nat} {k v:Int} {a:Tm} (hq:q < T.size) (e:T.sub q=.un k v a):T.sub (q+1)=a:=by
 have:=Tm.sub_sub T q 1 hq (by rw [e];have:=a.size_pos;simp [Tm.size];omega)
 rw [this,e];exact Tm.sub_zero a
theorem zHJ {T:Tm} {q:Nat} {k v:Int} {a b:Tm} (hq:q < T.size) (e:T.sub q=.bi k v a b):T.sub (q+1)=a:=by
 have ha:=a.size_pos;have:=Tm.sub_sub T q 1 hq (by rw [e];simp [Tm.size];omega)
 rw [this,e]
 show (if 0 < a.size then a.sub 0 else b.sub (0 - a.size))=a
 rw [if_pos (by omega),Tm.sub_zero]
theorem zKJ {T:Tm} (hw:T.Wf) {l:List (Int × Int)} (ho:T.ops=l) {q:Nat} {k v:Int} {a b:Tm} (hq:q < T.size) (e:T.sub q=.bi k v a b):T.sub (sec l q)=b:=by
 have ha:=a.size_pos;have hb:=b.size_pos;have hf:=Tm.sub_fits T hq;rw [e] at hf;simp only [Tm.size] at hf;have h1:=(Tm.end_at hw (q:=q+1) (by omega)).1
 rw [ho,zHJ hq e] at h1;have hs:sec l q=q+(1+a.size):=by unfold sec;rw [h1];omega
 rw [hs,Tm.sub_sub T q (1+a.size) hq (by rw [e];simp only [Tm.size];omega),e,show 1+a.size=a.size+1 by omega]
 show (if a.size < a.size then a.sub a.size else b.sub (a.size - a.size))=b
 rw [if_neg (by omega),Nat.sub_self,Tm.sub_zero]
theorem zNk {T:Tm} (hw:T.Wf) {l:List (Int × Int)} (ho:T.ops=l) (hz:zAD (l.map Prod.fst)=0) (σ:Nat->Nat->Bool) (letter:List Bool) (i:Nat) (hl:∀ v:Int,0 <= v->letter.getD v.toNat false=σ i v.toNat) (hv:∀ q,q < l.length->(l.getD q (0,0)).1=13->0 <= (l.getD q (0,0)).2) (h8:∀ q,q < l.length->8 <= (l.getD q (0,0)).1) :
  ∀ d p,l.length <= p+d->p < l.length->tru l letter (zAo (zAA l) (fun q=>(T.sub q).hb σ) i (zAA l).length) p=(T.sub p).hb σ i:=by
 have hsz:T.size=l.length:=by rw [<- Tm.ops_length,ho]
 intro d
 induction d with
 | zero=>intro p h1 h2;omega
 | succ d ih=>
  intro p h1 h2;have hq:p < T.size:=by omega
  have hop:=op_at ho hq;obtain ⟨q1,q2⟩:=zDh hz h2
  cases hb:zAP (l.getD p (0,0)).1 with
  | true=>
   rw [zI6 h2 hb]
   have hlt:(zAF l p).length < (zAA l).length:=by
    have:=zCy l (p:=p+1) (n:=l.length) (by omega)
    rw [zB3 hb,List.length_append] at this;exact this
   rw [zJz _ _ _ _ _ hlt];obtain ⟨p',e1,e2,e3,e4⟩:=zB5 l l.length (zAF l p).length hlt;have e1':(zAA l).getD (zAF l p).length 0=(p':Int):=e1;rw [e1']
   have:p'=p:=by
    rcases Nat.lt_trichotomy p' p with h | h | h
    ·have:=zCy l (p:=p' + 1) (n:=p) (by omega)
     rw [zB3 e3,List.length_append] at this;simp at this;omega
    ·exact h
    ·have:=zCy l (p:=p+1) (n:=p') (by omega)
     rw [zB3 hb,List.length_append] at this;simp at this;omega
   rw [this];rfl
  | false=>
   rw [zMe h2 hb (fun h=>(q2 h).1)]
   have hwf:=Tm.sub_wf hw p;rw [hop] at hb q1 q2 ⊢;have hvp:=hv p h2;rw [hop] at hvp
   cases hT:T.sub p with
   | leaf k v=>
    rw [hT] at hb hvp hwf;simp only [Tm.kind,Tm.val] at hb hvp ⊢;unfold mkB
    by_cases k13:k=13
    ·subst k13
     rw [if_pos rfl,Tm.hb_prop];exact hl v (hvp rfl)
    ·by_cases k11:k=11
     ·subst k11
      rw [Tm.hb_yes];rfl
     ·rw [Tm.hb_no _ _ _ k13 k11]
      have hpn:pn k=0:=hwf.2;have k8:k≠8:=fun e=>by rw [e] at hpn;exact absurd hpn (by decide)
      have k9:k≠9:=fun e=>by rw [e] at hpn;exact absurd hpn (by decide)
      have k10:k≠10:=fun e=>by rw [e] at hpn;exact absurd hpn (by decide)
      simp [k13,k11,k8,k9,k10]
   | un k v a=>
    have hs1:=zJ2 hq hT;rw [hT] at hb hwf q1;simp only [Tm.kind,Tm.val] at hb q1 ⊢;have hpn:pn k=1:=hwf.2.1;have hok:okK k=true:=hwf.1
    have hk:k=10:=by
     have h14:¬ (14 <= k/\k <= 18):=by simpa [zAP] using hb
     unfold pn at hpn
     split at hpn
     ·omega
     ·split at hpn <;> omega
    subst hk;rw [ih (p+1) (by omega) (q1 (by rw [hpn];exact Nat.le_refl _)),hs1,Tm.hb_not]
    rfl
   | bi k v a b=>
    have hs1:=zHJ hq hT;have hs2:=zKJ hw ho hq hT;have h8p:=h8 p h2;rw [hop,hT] at h8p;rw [hT] at hb hwf q1 q2;simp only [Tm.kind,Tm.val] at hb q1 q2 ⊢;have hpn:pn k=2:=hwf.2.1;rw [ih (p+1) (by omega) (q1 (by omega)),ih (sec l p) (by have:=(q2 hpn).1;omega) (q2 hpn).2,hs1,hs2]
    simp only [Tm.kind] at h8p
    have hk:k=8\/k=9:=by
     have h14:¬ (14 <= k/\k <= 18):=by simpa [zAP] using hb
     unfold pn at hpn
     split at hpn
     ·omega
     ·split at hpn <;> omega
    rcases hk with rfl | rfl
    ·rw [Tm.hb_and];rfl
    ·rw [Tm.hb_or];rfl
theorem zDe {k:Int} (h:zAP k=true):k=14\/k=15\/k=16\/k=17\/k=18:=by
 have:14 <= k/\k <= 18:=by simpa [zAP] using h
 omega
theorem zGj {T:Tm} (hw:T.Wf) {l:List (Int × Int)} (ho:T.ops=l) {p:Nat} (hp:p < l.length) (hb:zAP (l.getD p (0,0)).1=true) :
  (∃ k v a,(k=14\/k=17\/k=18)/\(l.getD p (0,0)).1=k/\T.sub p=.un k v a/\T.sub (p+1)=a)\/(∃ k v a b,(k=15\/k=16)/\(l.getD p (0,0)).1=k/\T.sub p=.bi k v a b/\T.sub (p+1)=a/\T.sub (sec l p)=b):=by
 have hsz:T.size=l.length:=by rw [<- Tm.ops_length,ho]
 have hq:p < T.size:=by omega
 have hop:=op_at ho hq;have hwf:=Tm.sub_wf hw p;have hk:=zDe hb;rw [hop] at hk ⊢
 cases hT:T.sub p with
 | leaf k v=>
  rw [hT] at hk hwf;have hpn:pn k=0:=hwf.2;simp only [Tm.kind] at hk
  exfalso
  rcases hk with rfl | rfl | rfl | rfl | rfl <;> exact absurd hpn (by decide)
 | un k v a=>
  have h1:=zJ2 hq hT;rw [hT] at hk hwf;have hpn:pn k=1:=hwf.2.1;simp only [Tm.kind] at hk ⊢
  left
  refine ⟨k,v,a,?_,rfl,rfl,h1⟩
  rcases hk with rfl | rfl | rfl | rfl | rfl
  ·exact .inl rfl
  ·exact absurd hpn (by decide)
  ·exact absurd hpn (by decide)
  ·exact .inr (.inl rfl)
  ·exact .inr (.inr rfl)
 | bi k v a b=>
  have h1:=zHJ hq hT;have h2:=zKJ hw ho hq hT;rw [hT] at hk hwf;have hpn:pn k=2:=hwf.2.1;simp only [Tm.kind] at hk ⊢
  right
  refine ⟨k,v,a,b,?_,rfl,rfl,h1,h2⟩
  rcases hk with rfl | rfl | rfl | rfl | rfl
  ·exact absurd hpn (by decide)
  ·exact .inl rfl
  ·exact .inr rfl
  ·exact absurd hpn (by decide)
  ·exact absurd hpn (by decide)
theorem zMN {T:Tm} (hw:T.Wf) {l:List (Int × Int)} (ho:T.ops=l) (σ:Nat->Nat->Bool) {p:Nat} (hp:p < l.length) (hb:zAP (l.getD p (0,0)).1=true) (i:Nat) :
  (T.sub p).hb σ i=zBm (l.getD p (0,0)).1 ((T.sub (p+1)).hb σ i) ((T.sub (sec l p)).hb σ i) ((T.sub p).hb σ (i+1)) ((T.sub (p+1)).hb σ (i+1)):=by
 rcases zGj hw ho hp hb with ⟨k,v,a,hk,e1,e2,e3⟩ | ⟨k,v,a,b,hk,e1,e2,e3,e4⟩
 ·rw [e1,e2,e3]
  rcases hk with rfl | rfl | rfl
  ·rw [Tm.hb_next];rfl
  ·rw [Tm.hb_fin,zCq,<- Tm.hb_fin σ v];simp [zBm]
  ·rw [Tm.hb_glob,zCq,<- Tm.hb_glob σ v];simp [zBm]
 ·rw [e1,e2,e3,e4]
  rcases hk with rfl | rfl
  ·rw [Tm.hb_until,zCq,<- Tm.hb_until σ v];rfl
  ·rw [Tm.hb_rel,zCq,<- Tm.hb_rel σ v]
   show (_||_)=(_&&(_||_))
   cases Tm.hb σ a i <;> cases Tm.hb σ b i <;> simp
theorem zKR {T:Tm} (hw:T.Wf) {l:List (Int × Int)} (ho:T.ops=l) {ls:List (List Bool)} {s:Nat} (hs:s < ls.length) {p:Nat} (hp:p < l.length) (hb:zAP (l.getD p (0,0)).1=true) :
  ∃ i,s <= i/\i < ls.length/\zBU (l.getD p (0,0)).1 ((T.sub p).hb (sig ls s) i) ((T.sub (p+1)).hb (sig ls s) i) ((T.sub (sec l p)).hb (sig ls s) i)=false:=by
 refine Classical.byContradiction fun hno=>?_
 have hall:∀ i,s <= i->zBU (l.getD p (0,0)).1 ((T.sub p).hb (sig ls s) i) ((T.sub (p+1)).hb (sig ls s) i) ((T.sub (sec l p)).hb (sig ls s) i)=true:=fun i hi=>by
  have hm:s <= zBO s ls.length i/\zBO s ls.length i < ls.length:=⟨by unfold zBO;split <;> omega,zHL hs⟩
  refine Classical.byContradiction fun hf=>hno ⟨zBO s ls.length i,hm.1,hm.2,?_⟩
  rw [zFk hs,zFk hs,zFk hs];exact Bool.eq_false_iff.2 hf
 rcases zGj hw ho hp hb with ⟨k,v,a,hk,e1,e2,e3⟩ | ⟨k,v,a,b,hk,e1,e2,e3,e4⟩
 ·rw [e1,e2,e3] at hall
  rcases hk with rfl | rfl | rfl
  ·exact absurd (hall s (Nat.le_refl _)) (by simp [zBU])
  ·have h1:∀ i,s <= i->Tm.hb (sig ls s) (.un 17 v a) i=true/\Tm.hb (sig ls s) a i=false:=fun i hi=>by simpa [zBU] using hall i hi
   have h0:=(h1 s (Nat.le_refl _)).1;rw [Tm.hb_fin,zBP] at h0
   rcases h0 with ⟨j,hj,hu,_⟩ | ⟨hd,_⟩
   ·rw [(h1 j hj).2] at hu;cases hu
   ·cases hd
  ·have h1:∀ i,s <= i->Tm.hb (sig ls s) (.un 18 v a) i=false/\Tm.hb (sig ls s) a i=true:=fun i hi=>by simpa [zBU] using hall i hi
   have h0:=(h1 s (Nat.le_refl _)).1
   have:Tm.hb (sig ls s) (.un 18 v a) s=true:=by
    rw [Tm.hb_glob,zBP];exact .inr ⟨rfl,fun m hm=>(h1 m hm).2⟩
   rw [this] at h0;cases h0
 ·rw [e1,e2,e3,e4] at hall
  rcases hk with rfl | rfl
  ·have h1:∀ i,s <= i->Tm.hb (sig ls s) (.bi 15 v a b) i=true/\Tm.hb (sig ls s) b i=false:=fun i hi=>by simpa [zBU] using hall i hi
   have h0:=(h1 s (Nat.le_refl _)).1;rw [Tm.hb_until,zBP] at h0
   rcases h0 with ⟨j,hj,hu,_⟩ | ⟨hd,_⟩
   ·rw [(h1 j hj).2] at hu;cases hu
   ·cases hd
  ·have h1:∀ i,s <= i->Tm.hb (sig ls s) (.bi 16 v a b) i=false/\Tm.hb (sig ls s) b i=true:=fun i hi=>by simpa [zBU] using hall i hi
   have h0:=(h1 s (Nat.le_refl _)).1
   have:Tm.hb (sig ls s) (.bi 16 v a b) s=true:=by
    rw [Tm.hb_rel,zBP];exact .inr ⟨rfl,fun m hm=>(h1 m hm).2⟩
   rw [this] at h0;cases h0
theorem zBi {T:Tm} (hw:T.Wf) {l:List (Int × Int)} (ho:T.ops=l) (hz:zAD (l.map Prod.fst)=0) (hv:∀ q,q < l.length->(l.getD q (0,0)).1=13->0 <= (l.getD q (0,0)).2) (h8:∀ q,q < l.length->8 <= (l.getD q (0,0)).1) {ls:List (List Bool)} {s:Nat} {i:Nat} (hi:i < ls.length) {p:Nat} (hp:p < l.length) :
  tru l (ls.getD i []) (zAo (zAA l) (fun q=>(T.sub q).hb (sig ls s)) i (zAA l).length) p=(T.sub p).hb (sig ls s) i:=
 zNk hw ho hz (sig ls s) _ i (fun v _=>by unfold sig;rw [zCV hi]) hv h8 l.length p (by omega) hp
theorem zK6 {T:Tm} (hw:T.Wf) {l:List (Int × Int)} (ho:T.ops=l) (hz:zAD (l.map Prod.fst)=0) (hv:∀ q,q < l.length->(l.getD q (0,0)).1=13->0 <= (l.getD q (0,0)).2) (h8:∀ q,q < l.length->8 <= (l.getD q (0,0)).1) {ls:List (List Bool)} {s:Nat} (hs:s < ls.length) (mine:Nat->Int)
  (hm:∀ i,i < ls.length->mine i=zAo (zAA l) (fun q=>(T.sub q).hb (sig ls s)) i (zAA l).length) :
  (∀ i,i < ls.length->∀ p,p < l.length->zAP (l.getD p (0,0)).1=true->tru l (ls.getD i []) (mine i) p=zBm (l.getD p (0,0)).1 (tru l (ls.getD i []) (mine i) (p+1)) (tru l (ls.getD i []) (mine i) (sec l p)) (tru l (ls.getD (zBO s ls.length (i+1)) []) (mine (zBO s ls.length (i+1))) p) (tru l (ls.getD (zBO s ls.length (i+1)) []) (mine (zBO s ls.length (i+1))) (p+1)))/\
  ∀ p,p < l.length->zAP (l.getD p (0,0)).1=true->∃ i,s <= i/\i < ls.length/\zBU (l.getD p (0,0)).1 (tru l (ls.getD i []) (mine i) p) (tru l (ls.getD i []) (mine i) (p+1)) (tru l (ls.getD i []) (mine i) (sec l p))=false:=by
 have two:∀ p,p < l.length->zAP (l.getD p (0,0)).1=true->p+1 < l.length/\((l.getD p (0,0)).1=15\/(l.getD p (0,0)).1=16->sec l p < l.length):=fun p hp hb=>by
  obtain ⟨q1,q2⟩:=zDh hz hp;have hk:=zDe hb;generalize (l.getD p (0,0)).1=k at *;refine ⟨q1 (by rcases hk with rfl | rfl | rfl | rfl | rfl <;> decide),fun h=>(q2 (by rcases h with rfl | rfl <;> rfl)).2⟩
 have sec_free:∀ k (x y y' z nx:Bool),zAP k=true->(k=15\/k=16->y=y')->zBm k x y z nx=zBm k x y' z nx:=fun k x y y' z nx hb h=>by
  rcases zDe hb with rfl | rfl | rfl | rfl | rfl
  ·rfl
  ·rw [h (.inl rfl)]
  ·rw [h (.inr rfl)]
  ·rfl
  ·rfl
 have sec_free2:∀ k (a x y y':Bool),zAP k=true->(k=15\/k=16->y=y')->zBU k a x y=zBU k a x y':=fun k a x y y' hb h=>by
  rcases zDe hb with rfl | rfl | rfl | rfl | rfl
  ·rfl
  ·rw [h (.inl rfl)]
  ·rw [h (.inr rfl)]
  ·rfl
  ·rfl
 refine ⟨fun i hi p hp hb=>?_,fun p hp hb=>?_⟩
 ·obtain ⟨p1,p2⟩:=two p hp hb
  have hj:=zHL (s:=s) (n:=ls.length) (i:=i+1) hs;rw [hm i hi,hm _ hj,zBi hw ho hz hv h8 hi hp,zBi hw ho hz hv h8 hi p1,zBi hw ho hz hv h8 hj hp,zBi hw ho hz hv h8 hj p1,zFk hs,zFk hs];rw [sec_free _ _ _ ((T.sub (sec l p)).hb (sig ls s) i) _ _ hb (fun h=>zBi hw ho hz hv h8 hi (p2 h))]
  exact zMN hw ho (sig ls s) hp hb i
 ·obtain ⟨p1,p2⟩:=two p hp hb
  obtain ⟨i,a1,a2,a3⟩:=zKR hw ho hs hp hb;refine ⟨i,a1,a2,?_⟩
  rw [hm i a2,zBi hw ho hz hv h8 a2 hp,zBi hw ho hz hv h8 a2 p1,sec_free2 _ _ _ _ ((T.sub (sec l p)).hb (sig ls s) i) hb (fun h=>zBi hw ho hz hv h8 a2 (p2 h))]
  exact a3
end Go.Proofs.YtnihdlgfhhdhkaaGreatDoor
namespace Go.Proofs.YtnihdlgfhhdhkaaGreatDoor
open Go.ChangeShapes Go.WideShapes Go.ChangeAt Go.RowKit Go.Deep
open Terms
set_option maxHeartbeats 6400000
set_option maxRecDepth 20000
theorem zO2 (l:List (Int × Int)) (h:Nat->Bool):∀ k,zBy l h k=zAo (zAA l) (fun q _=>!zDN l h q) 0 k:=by
 intro k
 induction k with
 | zero=>simp [zBy,zAo]
 | succ k ih=>
  simp only [zBy,zAo,ih]
  by_cases hw:zDN l h ((zAA l).getD k 0).toNat=true
  ·rw [if_pos hw,if_neg (by rw [hw];decide)]
  ·rw [if_neg hw,if_pos (by rw [Bool.not_eq_true'] ;exact Bool.eq_false_iff.2 hw)]
theorem zOR (l:List (Int × Int)) (h:Nat->Bool) {n j:Nat} (hj:j < n):zC8 (zBy l h n) j=!zDN l h ((zAA l).getD j 0).toNat:=by
 rw [zO2,zJz _ _ _ _ _ hj]
theorem zJ3 {m:Nat} {x:List (Int × Int)} {T:Tm} (hF:FOk m x T) {q:Nat} (hq:q < x.length):zAT 3 (x.getD q (0,0))=0:=hF.good _ (by rw [List.getD_eq_getElem?_getD,List.getElem?_eq_getElem hq,Option.getD_some];exact List.getElem_mem hq)
theorem zHo {m:Nat} {x:List (Int × Int)} {T:Tm} (hF:FOk m x T):(∀ q,q < x.length->(x.getD q (0,0)).1=13->0 <= (x.getD q (0,0)).2)/\∀ q,q < x.length->8 <= (x.getD q (0,0)).1:=by
 refine ⟨fun q hq h13=>?_,fun q hq=>?_⟩
 ·have:=zJ3 hF hq
  generalize x.getD q (0,0)=o at *;unfold zAT at this;obtain ⟨k,v⟩:=o;simp only at h13
  subst h13;simp at this ⊢
  omega
 ·have:=zJ3 hF hq
  generalize x.getD q (0,0)=o at *;unfold zAT at this;obtain ⟨k,v⟩:=o;simp only at this ⊢
  by_cases h:k < 8
  ·exfalso
   revert this
   simp
   omega
  ·omega
end Go.Proofs.YtnihdlgfhhdhkaaGreatDoor
namespace Go.Proofs.YtnihdlgfhhdhkaaGreatDoor
open Go.ChangeShapes Go.WideShapes Go.ChangeAt Go.RowKit Go.Deep Go.Maps
open Terms Tm
set_option maxHeartbeats 6400000
set_option maxRecDepth 20000
def zBq (m:Mo):Int:=zA3 m.vars (zAv m.vars) m.vars.length
end Go.Proofs.YtnihdlgfhhdhkaaGreatDoor
namespace Go.Proofs.YtnihdlgfhhdhkaaGreatDoor
open Terms Tm
set_option maxHeartbeats 6400000
set_option maxRecDepth 20000
def zAc (m:Mo) (all:List Int) (k:Nat):Prop:=∀ i,i < k->all.getD (i+1) 0∈zCC m (all.getD i 0)
theorem zAc.zero (m:Mo) (all:List Int):zAc m all 0:=fun i h=>by omega
theorem zAc.succ {m:Mo} {all:List Int} {k:Nat} (h:zAc m all k) (h2:all.getD (k+1) 0∈zCC m (all.getD k 0)):zAc m all (k+1):=fun i hi=>by
 by_cases e:i=k
 ·rw [e];exact h2
 ·exact h i (by omega)
theorem zCT {m:Mo} (hm:mcode m=0) {x:Int} (hx:0 <= x/\x < zAC m.vars m.vars.length):zCC m x=zAB m x:=by unfold zCC;rw [if_pos (zBT hm hx)]
theorem zJU {m:Mo} (hm:mcode m=0) {x:Int} (hx:0 <= x/\x < zAC m.vars m.vars.length) {y:Int} (hy:y∈zAB m x):0 <= y/\y < zAC m.vars m.vars.length:=by
 have hv:=zAn hm;have h2:=((zEh _).2 y).1 hy;unfold zEC at h2
 split at h2
 ·simp at h2;rw [h2];exact hx
 ·obtain ⟨j,_,e⟩:=(zHb (Nat.le_refl _) y).1 h2
  exact zE1 hv e
theorem zAc.range {m:Mo} (hm:mcode m=0) {all:List Int} (h0:0 <= all.getD 0 0/\all.getD 0 0 < zAC m.vars m.vars.length):∀ {k:Nat},zAc m all k->0 <= all.getD k 0/\all.getD k 0 < zAC m.vars m.vars.length
 | 0,_=>h0
 | k+1,h=>by
  have h1:=zAc.range hm h0 (k:=k) (fun i hi=>h i (by omega))
  have h2:=h k (by omega)
  rw [zCT hm h1] at h2;exact zJU hm h1 h2
theorem zC5 {m:Mo} (hm:mcode m=0):0 <= zBq m/\zBq m < zAC m.vars m.vars.length:=zDK (zAn hm) (Nat.le_refl _) (zGP (zAn hm))
def rvd (ss ll:List Int):List Int:=ss++ll++[ll.getD 0 0]
theorem zDB (ss ll:List Int):(rvd ss ll).length=ss.length+ll.length+1:=by simp [rvd];omega
theorem zGI (ss ll:List Int):[ss,ll,[ll.getD 0 0]].flatten=rvd ss ll:=by simp [rvd]
theorem zM4 {ss ll:List Int} (h:ll≠[]):(rvd ss ll).getD 0 0=(ss++ll).getD 0 0:=by
 unfold rvd;have:0 < (ss++ll).length:=by rw [List.length_append];have:=List.length_pos_iff.2 h;omega
 simp only [List.getD_eq_getElem?_getD]
 rw [List.getElem?_append_left this]
open Classical in
noncomputable def zBb (m:Mo) (ss ll:List Int):Bool:=decide (mcode m=0/\ll≠[]/\(rvd ss ll).getD 0 0=zBq m/\zAc m (rvd ss ll) ((rvd ss ll).length - 1))
open Classical in
theorem zNM {m:Mo} (h:mcode m≠0) (ss ll:List Int):zBb m ss ll=false:=decide_eq_false fun h2=>h h2.1
open Classical in
theorem zHt (m:Mo) (ss:List Int):zBb m ss []=false:=decide_eq_false fun h2=>h2.2.1 rfl
open Classical in
theorem zLI {m:Mo} {ss ll:List Int} (h:(rvd ss ll).getD 0 0≠zBq m):zBb m ss ll=false:=decide_eq_false fun h2=>h h2.2.2.1
open Classical in
theorem zHm {m:Mo} {ss ll:List Int} (h:mcode m=0) (h1:ll≠[]) (h2:(rvd ss ll).getD 0 0=zBq m):zBb m ss ll=decide (zAc m (rvd ss ll) ((rvd ss ll).length - 1)):=by
 unfold zBb
 by_cases h3:zAc m (rvd ss ll) ((rvd ss ll).length - 1)
 ·rw [decide_eq_true h3];exact decide_eq_true ⟨h,h1,h2,h3⟩
 ·rw [decide_eq_false h3];exact decide_eq_false fun h4=>h3 h4.2.2.2
end Go.Proofs.YtnihdlgfhhdhkaaGreatDoor
namespace Go.Proofs.YtnihdlgfhhdhkaaGreatDoor
open Go.ChangeShapes Go.WideShapes Go.ChangeAt Go.RowKit Go.Deep
open Terms Tm
set_option maxHeartbeats 6400000
set_option maxRecDepth 20000
theorem zES {m:Mo} {ps:List (List (Int × Int))} {l:List (Int × Int)} (h:zAO m ps l=0):zBz m ps=0/\zAQ ps.length l=0:=by
 unfold zAO at h
 split at h
 ·rename_i h1
  exact absurd h h1
 ·rename_i h1
  exact ⟨Classical.not_not.1 h1,h⟩
theorem zFe {m:Mo} {ps:List (List (Int × Int))} {l:List (Int × Int)} (h:zAO m ps l=0) {c:Int} (hc:0 <= c/\c < zAC m.vars m.vars.length):zCR m ps c=0/\(zAG m ps c).length=ps.length:=by
 obtain ⟨hp,_⟩:=zES h;obtain ⟨hm,_⟩:=zBA hp;have h1:zCR m ps c=0:=by unfold zCR;rw [if_pos hp,zBT hm hc]
 refine ⟨h1,?_⟩
 unfold zAG;rw [if_pos h1,List.length_map]
open Classical in
theorem zD1 {m:Mo} {ss ll:List Int} (h:zBb m ss ll=true):(∀ i,i < ss.length->0 <= ss.getD i 0/\ss.getD i 0 < zAC m.vars m.vars.length)/\∀ i,i < ll.length->0 <= ll.getD i 0/\ll.getD i 0 < zAC m.vars m.vars.length:=by
 obtain ⟨hm,hne,hf,hl⟩:=of_decide_eq_true h;have h0:0 <= (rvd ss ll).getD 0 0/\(rvd ss ll).getD 0 0 < zAC m.vars m.vars.length:=by rw [hf];exact zC5 hm
 have hk:∀ k,k < (rvd ss ll).length->0 <= (rvd ss ll).getD k 0/\(rvd ss ll).getD k 0 < zAC m.vars m.vars.length:=fun k hk=>zAc.range hm h0 (fun i hi=>hl i (by omega))
 rw [zDB] at hk;refine ⟨fun i hi=>?_,fun i hi=>?_⟩
 ·have h1:=hk i (by omega)
  rw [show (rvd ss ll).getD i 0=ss.getD i 0 by unfold rvd;simp [List.getD_eq_getElem?_getD,List.getElem?_append_left,hi]] at h1
  exact h1
 ·have h1:=hk (ss.length+i) (by omega)
  rw [show (rvd ss ll).getD (ss.length+i) 0=ll.getD i 0 by unfold rvd;rw [List.append_assoc];simp [List.getD_eq_getElem?_getD,List.getElem?_append_right,List.getElem?_append_left,hi]] at h1
  exact h1
theorem zPS {m:Mo} {ss ll:List Int} (h:zBb m ss ll=true):1 <= ll.length:=by
 rcases Nat.eq_zero_or_pos ll.length with h0 | h0
 ·rw [List.length_eq_zero_iff.1 h0,zHt] at h;cases h
 ·exact h0
noncomputable def lets (m:Mo) (ps:List (List (Int × Int))) (cs:List Int):List (List Bool):=cs.map (zAG m ps)
theorem zCS (m:Mo) (ps:List (List (Int × Int))) (cs:List Int):(lets m ps cs).length=cs.length:=by simp [lets]
theorem zKH {m:Mo} {ps:List (List (Int × Int))} {cs:List Int} {i:Nat} (hi:i < cs.length):(lets m ps cs).getD i []=zAG m ps (cs.getD i 0):=by simp [lets,List.getD_eq_getElem?_getD,hi]
theorem zIL {m:Mo} {ps:List (List (Int × Int))} {l:List (Int × Int)} {ss ll:List Int} (hk:zAO m ps l=0) (hs:ss.length <= 12) (hl:ll.length <= 12) (h:zBb m ss ll=true):zDy ps.length l (lets m ps ss) (lets m ps ll)=0:=by
 obtain ⟨hp,hl0⟩:=zES hk;have h6:=(zBA hp).2;have hr:=zD1 h;have h1:=zPS h;unfold zDy;rw [hl0,if_neg (by simp)]
 refine zHq (by omega) (by rw [zCS,zCS];omega) ?_
 unfold zC4;rw [List.any_eq_false];intro x hx
 have hxl:x.length=ps.length:=by
  rcases List.mem_append.1 hx with hx | hx
  all_goals
   obtain ⟨y,hy,rfl⟩:=List.mem_map.1 hx;obtain ⟨i,hi,rfl⟩:=List.mem_iff_getElem.1 hy
  ·have:=hr.1 i hi
   rw [show ss.getD i 0=ss[i] by simp [List.getD_eq_getElem?_getD,hi]] at this
   exact (zFe hk this).2
  ·have:=hr.2 i hi
   rw [show ll.getD i 0=ll[i] by simp [List.getD_eq_getElem?_getD,hi]] at this
   exact (zFe hk this).2
 simp [hxl]
theorem zAM.setS {w:World} {v:Value} {l:List Bool} {p:Addr} {a:Option Addr} {n c:Nat} (h:zAM w v l) (hc:w.cell? p=some (.slice a n c)) (u:Value):zAM (w.setCell p u) v l:=by
 obtain ⟨ao,cap,rfl,h⟩:=h;refine ⟨ao,cap,rfl,fun hne=>?_⟩
 obtain ⟨b,off,rfl,hlt,hat⟩:=h hne;refine ⟨b,off,rfl,by simpa using hlt,fun i hi=>?_⟩
 have h1:=hat i hi
 have hne2:(⟨b,off+i,none⟩:Addr)≠p:=by
  intro e;rw [e,hc] at h1;simp at h1
 rw [World.cell?_setCell_other _ _ _ _ hne2.symm]
 exact h1
end Go.Proofs.YtnihdlgfhhdhkaaGreatDoor
namespace Go.Proofs.YtnihdlgfhhdhkaaGreatDoor
open Go.ChangeShapes Go.WideShapes Go.ChangeAt Go.RowKit Go.Deep Go.Maps
open Terms Tm
set_option maxHeartbeats 6400000
set_option maxRecDepth 20000
theorem zJd (va vr pv fv:Value) (m:Mo) (ps:List (List (Int × Int))) (l:List (Int × Int)) (w:World) (hB:0 < w.heap.size) (hT:zAJ w) (hV:TaskV w va vr pv fv m ps l) (hk:zAO m ps l≠0) :
  Calls Tryz.prog 6 #[.agg #[va,vr,pv,fv]] w (zGq w m ps l):=by
 unfold zGq;obtain ⟨ao,ac,rfl⟩:=hV.mo.1.shape;obtain ⟨ro,rc,rfl⟩:=hV.mo.2.shape;obtain ⟨po,pc,rfl⟩:=hV.ps.shape;obtain ⟨fo,fc,rfl,_⟩:=id hV.fo
 obtain ⟨W0,hW0⟩:∃ W0,W0=(w.alloc (.cells #[.slice ao m.vars.length ac,.slice ro m.rules.length rc,.slice po ps.length pc,.slice fo l.length fc] 35)).alloc (.cells #[.slice none 0 0,.int .i64 0,.slice none 0 0,.slice none 0 0,.int .i64 0] 44):=⟨_,rfl⟩
 have hbW:Below w.heap.size w W0:=by rw [hW0];exact ((Below.refl _ _).alloc (Nat.le_refl _) _).alloc (by simp) _
 have hzW:W0.heap.size=w.heap.size+2:=by rw [hW0];simp
 have hX0:W0.heap[w.heap.size+1]? = some (grB (.slice none 0 0) (.slice none 0 0) (.slice none 0 0) 0 0):=by
  rw [hW0];have:=(MapKept.heap_alloc (w.alloc (.cells #[.slice ao m.vars.length ac,.slice ro m.rules.length rc,.slice po ps.length pc,.slice fo l.length fc] 35)) (.cells #[.slice none 0 0,.int .i64 0,.slice none 0 0,.slice none 0 0,.int .i64 0] 44)).1;rw [World.size_alloc] at this;exact this
 have hsv:=zII _ _ _ _ m ps l W0 (Nat.lt_of_lt_of_le hB hbW.size) (hT.below hbW hB) (hV.below hbW) hk
 have HFin:Hid (∀ w1,Below W0.heap.size W0 w1->(w1.cell? ⟨w.heap.size+1,0,none⟩=some (.slice none 0 0)/\w1.cell? ⟨w.heap.size+1,1,none⟩=some (.int .i64 0)/\w1.cell? ⟨w.heap.size+1,2,none⟩=some (.slice none 0 0)/\w1.cell? ⟨w.heap.size+1,3,none⟩=some (.slice none 0 0)/\w1.cell? ⟨w.heap.size+1,4,none⟩=some (.int .i64 0))/\(∀ i,w1.frozen? ⟨w.heap.size+1,i,none⟩=false)/\Below w.heap.size w w1):=fun w1 h=>by
  have hb:=(h.block (w.heap.size+1) (by omega)).trans hX0
  exact ⟨zFJ hb,zIa hb,hbW.trans (h.mono hbW.size)⟩
 have HK:Hid (zAO m ps l≠0):=hk;generalize zAO m ps l=tc at *;generalize m.vars.length=vn at *;generalize m.rules.length=rn at *;generalize ps.length=pn at *;generalize l.length=fn at *;clear hV hT
 go_enter Tryz.func6,Tryz.ntmps6
 go_wp2_with (first | (go_at_call 16;rw [<- hW0];refine hsv.mono ?_;rintro e w1 ⟨rfl,hb1⟩;obtain ⟨⟨x0,x1,x2,x3,x4⟩,xf,hbw⟩:=HFin.out w1 hb1;have f0:=xf 0;have f1:=xf 1;have f2:=xf 2;have f3:=xf 3;have f4:=xf 4))
 have hbF:Below w.heap.size w (((((w1.setCell ⟨w.heap.size+1,0,none⟩ (.slice none 0 0)).setCell ⟨w.heap.size+1,1,none⟩ (.int .i64 0)).setCell ⟨w.heap.size+1,2,none⟩ (.slice none 0 0)).setCell ⟨w.heap.size+1,3,none⟩ (.slice none 0 0)).setCell ⟨w.heap.size+1,4,none⟩ (.int .i64 0)):=hbw.trans ((zHP w1 (w.heap.size+1) _ _ _ _ _).below (fun i e=>by omega) (by have:=hbw.size;omega))
 refine bodyPost_ret (v:=.tuple #[.agg #[.slice none 0 0,.int .i64 0,.slice none 0 0,.slice none 0 0,.int .i64 0],.int .i64 tc]) ?_ rfl (.inr (.inr ⟨HK.out,rfl,hbF⟩))
 simp [results,Tryz.results6,go_sem,x0,x1,x2,x3,x4]
theorem zNT (W0 w1 w2:World) (n:Nat) (va vr pv fv:Value) (m:Mo) (ps:List (List (Int × Int))) (l:List (Int × Int)) (ho:Option Addr) (hc:Nat) (so:Option Addr) (sc:Nat) (hk:zAO m ps l=0) (hb1:Below W0.heap.size W0 w1) (hn:W0.heap.size <= n) (hs:SurvAt w1 (n+2) va vr pv fv (.slice ho (zAA l).length hc) n (n+1)) (hor:w1.ownsRow W0.heap.size 3 1 (.slice ho (zAA l).length hc) (zAA l).length (zAE (zAA l))) (hm:w1.heap[n]? = some (.map #[] 0)/\w1.heap[n+1]? = some (.map #[] 0)) (hb2:Below w1.heap.size w1 w2) (hsp:SpO w2 w1.heap.size (.slice so (zAd m ps l).length sc) (zAd m ps l)) :
  Calls Tryz.prog 18 #[.pointer (some ⟨w2.heap.size+1,0,none⟩),.slice so (zAd m ps l).length sc] ((w2.alloc (.map #[] 0)).alloc (.cells #[.slice none 0 0,.int .i64 ((zAd m ps l).length:Nat),.slice none 0 0,.slice none 0 0,.int .i64 ((zAA l).length:Nat),.map (some w2.heap.size)] 79)) fun e w3=>∃ v sv,e=.returned v/\Hid (ExW W0 w3 w2.heap.size (w2.heap.size+1) w2.heap.size (n+2) n (n+1) (0*300001) va vr pv fv m ps l ho hc (xpP m ps l 0) (xpN m ps l 0) (xpT m ps l 0) ((zAd m ps l).length:Nat) ((zAA l).length:Nat) sv (.slice none 0 0) (.slice none 0 0)):=by
 have hbl:=zGE hk;have hv1:SvOk (fun _=>True) W0 w1 (n+2) n (n+1) 0 va vr pv fv m ps l ho hc:=SvOk.made (Below.refl _ _) hb1 hn hs hor hm.1 hm.2
 have hv2:=hv1.below hb2;have hl1:=hv2.box.lt;have hl2:n < w2.heap.size:=by omega
 obtain ⟨WA,hWA⟩:∃ WA,WA=(w2.alloc (.map #[] 0)).alloc (.cells #[.slice none 0 0,.int .i64 ((zAd m ps l).length:Nat),.slice none 0 0,.slice none 0 0,.int .i64 ((zAA l).length:Nat),.map (some w2.heap.size)] 79):=⟨_,rfl⟩
 have hbA:Below w2.heap.size w2 WA:=by rw [hWA];exact ((Below.refl _ _).alloc (Nat.le_refl _) _).alloc (by simp) _
 have hmA:WA.heap[w2.heap.size]? = some (.map #[] 0):=by
  rw [hWA,Below.heap_alloc _ _ _ (by simp)]
  exact (MapKept.heap_alloc w2 _).1
 have hxA:WA.heap[w2.heap.size+1]? = some (atB (.slice none 0 0) (.slice none 0 0) (.slice none 0 0) ((zAd m ps l).length:Nat) ((zAA l).length:Nat) w2.heap.size):=by
  rw [hWA];have:=(MapKept.heap_alloc (w2.alloc (.map #[] 0)) (.cells #[.slice none 0 0,.int .i64 ((zAd m ps l).length:Nat),.slice none 0 0,.slice none 0 0,.int .i64 ((zAA l).length:Nat),.map (some w2.heap.size)] 79)).1;rw [World.size_alloc] at this;exact this
 have hX:ExW W0 WA w2.heap.size (w2.heap.size+1) w2.heap.size (n+2) n (n+1) (0*300001) va vr pv fv m ps l ho hc [] (xpN m ps l 0) (xpT m ps l 0) ((zAd m ps l).length:Nat) ((zAA l).length:Nat) (.slice none 0 0) (.slice none 0 0) (.slice none 0 0):=by
  refine ⟨((hv2.re (Pz':=zNR (.slice none 0 0)) (fun _ _ _ e=>by simp [Value.ownBlock] at e) (fun _ _ e=>by simp [Value.ownBlock] at e)).below hbA).mono (by omega),⟨hxA,by omega,Nat.le_refl _,zBL.new hmA,SpO.nil _ _,⟨[],World.ownsRow_nil _ _ _ _,rfl,fun i hi=>by simp [xpN] at hi⟩,World.ownsRow_nil _ _ _ _⟩,?_,?_,?_,?_⟩
  ·have:=hv2.bel.size;omega
  ·omega
  ·omega
  ·omega
 have hsv:=(hsp.later hbA (Nat.le_refl _)).v;have hIs:∀ j,j < (zAd m ps l).length->zDZ ((zAd m ps l).getD j (0,0)):=fun j hj=>zI8 hk (zHv hk (by rw [List.getD_eq_getElem?_getD,List.getElem?_eq_getElem hj];exact List.getElem_mem _))
 have hsep:∀ a,so=some a->¬ atZ (w2.heap.size+1) w2.heap.size (.slice none 0 0) a.block:=fun a e z=>by
  have hlt:a.block < w2.heap.size:=by
   rcases hsp.2 with ⟨h0,_⟩ | ⟨g,cap,cur,h1,_,h3,_⟩
   ·rw [e] at h0;simp at h0
   ·rw [e] at h1
    injection h1 with h1 _ _
    injection h1 with h1
    subst h1;exact (Array.getElem?_eq_some_iff.1 h3).1
  rcases z with z | z | z
  ·omega
  ·omega
  ·simp [Value.ownBlock] at z
 rw [<- hWA];refine (zG3 WA w2.heap.size (w2.heap.size+1) w2.heap.size [] _ _ _ _ _ _ _ _ so sc hX.tl hsv hsep hIs (by simp;omega)).mono fun e w3 ⟨h1,sv',h2,h3,h4,h5,h6⟩=>?_
 exact ⟨_,sv',h1,hX.put h5 h2⟩
theorem zNf (W0 wr:World) (base A lm B bs bl k:Nat) (va vr pv fv:Value) (m:Mo) (ps:List (List (Int × Int))) (l:List (Int × Int)) (ho:Option Addr) (hc:Nat) (init many:Int) (sv nv tv:Value) (hB:0 < W0.heap.size) (hT:zAJ W0) (hV:TaskV W0 va vr pv fv m ps l) (hk:zAO m ps l=0) (hX:ExW W0 wr base A lm B bs bl (k*300001) va vr pv fv m ps l ho hc (xpP m ps l k) (xpN m ps l k) (xpT m ps l k) init many sv nv tv) (hlt:k < (xpP m ps l k).length) (hz:(xpP m ps l k).length <= 20000) (hsp:∀ p∈xpP m ps l k,zCo m l p) :
  Calls Tryz.prog 19 #[.pointer (some ⟨A,0,none⟩),.pointer (some ⟨B,0,none⟩),.agg #[.int .i64 (zCL m ps l k).1,.int .i64 (zCL m ps l k).2]] wr fun e w'=>e=.returned (.int .i64 (if 20000 < (xpP m ps l (k+1)).length then 12 else 0))/\∃ sv nv tv,Hid (ExW W0 w' base A lm B bs bl ((k+1)*300001) va vr pv fv m ps l ho hc (xpP m ps l (k+1)) (xpN m ps l (k+1)) (xpT m ps l (k+1)) init many sv nv tv):=by
 obtain ⟨h1,d,h2,h3⟩:=hsp _ (zIK hlt);have hgo:=zHw W0 wr base A lm B bs bl (k*300001) va vr pv fv m ps l ho hc (xpP m ps l k) (xpN m ps l k) (xpT m ps l k) init many sv nv tv (zCL m ps l k).1 d hB hT hV hk hX (by omega) h1 h2 hz (by rw [zCg];omega) (by rw [zC7];omega)
 unfold zIG at hgo;rw [<- h3] at hgo;refine hgo.mono fun e w' ⟨g1,sv',nv',tv',g2⟩=>⟨g1,sv',nv',tv',?_⟩
 have e1:(k+1)*300001=k*300001+300001:=by omega
 rw [e1];exact g2
theorem zLS (va vr pv fv:Value) (m:Mo) (ps:List (List (Int × Int))) (l:List (Int × Int)) (w:World) (hB:0 < w.heap.size) (hT:zAJ w) (hV:TaskV w va vr pv fv m ps l) (hk:zAO m ps l=0) :
  Calls Tryz.prog 6 #[.agg #[va,vr,pv,fv]] w (zGq w m ps l):=by
 unfold zGq;obtain ⟨ao,ac,rfl⟩:=hV.mo.1.shape;obtain ⟨ro,rc,rfl⟩:=hV.mo.2.shape;obtain ⟨po,pc,rfl⟩:=hV.ps.shape;obtain ⟨fo,fc,rfl,_⟩:=id hV.fo
 obtain ⟨W0,hW0⟩:∃ W0,W0=(w.alloc (.cells #[.slice ao m.vars.length ac,.slice ro m.rules.length rc,.slice po ps.length pc,.slice fo l.length fc] 35)).alloc (.cells #[.slice none 0 0,.int .i64 0,.slice none 0 0,.slice none 0 0,.int .i64 0] 44):=⟨_,rfl⟩
 have hbW:Below w.heap.size w W0:=by rw [hW0];exact ((Below.refl _ _).alloc (Nat.le_refl _) _).alloc (by simp) _
 have hzW:W0.heap.size=w.heap.size+2:=by rw [hW0];simp
 have hX0:W0.heap[w.heap.size+1]? = some (grB (.slice none 0 0) (.slice none 0 0) (.slice none 0 0) 0 0):=by
  rw [hW0];have:=(MapKept.heap_alloc (w.alloc (.cells #[.slice ao m.vars.length ac,.slice ro m.rules.length rc,.slice po ps.length pc,.slice fo l.length fc] 35)) (.cells #[.slice none 0 0,.int .i64 0,.slice none 0 0,.slice none 0 0,.int .i64 0] 44)).1;rw [World.size_alloc] at this;exact this
 have hB0:0 < W0.heap.size:=Nat.lt_of_lt_of_le hB hbW.size;have hT0:=hT.below hbW hB;have hV0:=hV.below hbW;have hsv:=zJE _ _ _ _ m ps l W0 hB0 hT0 hV0 hk
 have HFin:Hid (∀ w1,Below W0.heap.size W0 w1->(w1.cell? ⟨w.heap.size+1,0,none⟩=some (.slice none 0 0)/\w1.cell? ⟨w.heap.size+1,1,none⟩=some (.int .i64 0)/\w1.cell? ⟨w.heap.size+1,2,none⟩=some (.slice none 0 0)/\w1.cell? ⟨w.heap.size+1,3,none⟩=some (.slice none 0 0)/\w1.cell? ⟨w.heap.size+1,4,none⟩=some (.int .i64 0))/\(∀ i,w1.frozen? ⟨w.heap.size+1,i,none⟩=false)/\TyB w1 (w.heap.size+1) 44/\Below w.heap.size w w1):=fun w1 h=>by
  have hb:=(h.block (w.heap.size+1) (by omega)).trans hX0
  exact ⟨zFJ hb,zIa hb,⟨_,_,hb⟩,hbW.trans (h.mono hbW.size)⟩
 have HBe:Hid (∀ (w1:World) (B bs bl:Nat) (ho:Option Addr) (hcp:Nat),Below W0.heap.size W0 w1->SurvAt w1 B (.slice ao m.vars.length ac) (.slice ro m.rules.length rc) (.slice po ps.length pc) (.slice fo l.length fc) (.slice ho (zAA l).length hcp) bs bl->Calls Tryz.prog 17 #[.pointer (some ⟨B,0,none⟩)] w1 fun e w'=>∃ so sc,e=.returned (.tuple #[.slice so (zAd m ps l).length sc,.int .i64 0])/\Below w1.heap.size w1 w'/\Hid (SpO w' w1.heap.size (.slice so (zAd m ps l).length sc) (zAd m ps l))):=fun w1 B bs bl ho hcp h hs=>zMt B _ _ _ _ m ps l ho hcp bs bl w1 (Nat.lt_of_lt_of_le hB0 h.size) (hT0.below h hB0) (hV0.below h) hk hs
 have HSt:=(show Hid _ from fun (w1 w2:World) (n:Nat) (ho:Option Addr) (hc:Nat) (so:Option Addr) (sc:Nat)=>zNT W0 w1 w2 n (.slice ao m.vars.length ac) (.slice ro m.rules.length rc) (.slice po ps.length pc) (.slice fo l.length fc) m ps l ho hc so sc hk)
 have HRd:=(show Hid _ from fun (wr:World) (base A lm B bs bl k:Nat) (ho:Option Addr) (hc:Nat) (sv nv tv:Value)=>zNf W0 wr base A lm B bs bl k (.slice ao m.vars.length ac) (.slice ro m.rules.length rc) (.slice po ps.length pc) (.slice fo l.length fc) m ps l ho hc ((zAd m ps l).length:Nat) ((zAA l).length:Nat) sv nv tv hB0 hT0 hV0 hk)
 have HP0:Hid ((∀ p∈xpP m ps l 0,zCo m l p)/\(xpP m ps l 0).length <= 20000):=⟨zI2 hk,by
  have h1:=(zDL (zAd m ps l) []).2;have h2:=zGE hk;have e:xpP m ps l 0=zAW [] (zAd m ps l):=rfl;rw [e];simp at h1
  omega⟩
 have HPn:Hid (∀ k,k < (xpP m ps l k).length->(∀ p∈xpP m ps l k,zCo m l p)->∀ p∈xpP m ps l (k+1),zCo m l p):=fun k h1 h2=>zJB hk h1 h2
 have HK:Hid (zAO m ps l=0):=hk;have hbn:=zGE hk;have han:=(zAl (zAx hk).2).2.2.2.2;unfold zGV at hsv;clear hV hT hV0 hT0 hk;generalize hbl:(zAd m ps l).length=bn at *;generalize hal:(zAA l).length=an at *;generalize m.vars.length=vn at *;generalize m.rules.length=rn at *;generalize ps.length=pn at *;generalize l.length=fn at *
 have hmm:=@run_makeMap Tryz.prog
 go_enter Tryz.func6,Tryz.ntmps6
 go_upto_region 8 with (first | (go_at_call 16;rw [<- hW0];refine hsv.mono ?_;rintro e w1 ⟨n,ho,hcp,rfl,hb1,hn1,_,HS,HO,HM⟩;have hbe:=HBe.out w1 _ _ _ _ _ hb1 HS.out) | (go_at_call 17;refine hbe.mono ?_;rintro e w2 ⟨so,sc,rfl,hb2,HSp⟩;have hst:=HSt.out w1 w2 n ho hcp so sc hb1 hn1 HS.out HO.out HM.out hb2 HSp.out;have x4:=(HS.out.later hb2).c4))
 go_wp2_with (first | (go_at_call 18;refine hst.mono ?_;rintro e w3 ⟨v3,sv3,rfl,HX3⟩))
 generalize hA:w2.heap.size+1=A at *;generalize hlm:w2.heap.size=lm at *;generalize hBn:n+2=B at *;generalize hbs:n+1=bl at *;clear hst hsv hbe HSt HBe HS HO HM HSp x4 hb1 hb2 hmm hlm
 go_loopw [8] (fun i wr=>∃ k pk:Nat,i=.int .i64 k/\k <= pk/\pk <= 20000/\Hid ((xpP m ps l k).length=pk/\(∀ p∈xpP m ps l k,zCo m l p)/\∀ j,j < k->j < (xpP m ps l j).length)/\∃ vo vc nv tv,Hid (ExW W0 wr lm A lm B n bl (k*300001) (.slice ao vn ac) (.slice ro rn rc) (.slice po pn pc) (.slice fo fn fc) m ps l ho hcp (xpP m ps l k) (xpN m ps l k) (xpT m ps l k) (bn:Nat) (an:Nat) (.slice vo pk vc) nv tv)) (fun i _=>20001 - (intOf i).toNat)
 case atStart=>
  obtain ⟨vo,vc,e⟩:=HX3.out.tl.sp.shape;refine ⟨0,(xpP m ps l 0).length,rfl,Nat.zero_le _,HP0.out.2,⟨rfl,HP0.out.1,fun j hj=>by omega⟩,vo,vc,.slice none 0 0,.slice none 0 0,?_⟩
  rw [<- e];exact HX3.out
 case round=>
  obtain ⟨k,pk,rfl,hkp,hpk,HK2,vo,vc,nv,tv,HX⟩:=hrel;obtain ⟨a0,a1,a2,a3,a4,a5⟩:=zBS HX.out.tl.box
  by_cases hlt:k < pk
  ·have hki:(k:Int) < (pk:Int):=by omega
   have hlt2:k < (xpP m ps l k).length:=by rw [HK2.out.1];exact hlt
   obtain ⟨b,off,rfl,_,c0,c1⟩:=HX.out.tl.sp.v.get hlt2;have hrd:=HRd.out wr lm A lm B n bl k ho hcp _ nv tv HX.out hlt2 (by rw [HK2.out.1];exact hpk) HK2.out.2.1
   have HKn:Hid ((∀ p∈xpP m ps l (k+1),zCo m l p)/\∀ j,j < k+1->j < (xpP m ps l j).length):=⟨HPn.out k hlt2 HK2.out.2.1,fun j hj=>by
    by_cases h:j < k
    ·exact HK2.out.2.2 j h
    ·obtain rfl:j=k:=by omega
     exact hlt2⟩
   have e1:(xpP m ps l k).getD k (0,0)=zCL m ps l k:=rfl;rw [e1] at c0 c1;clear e1 HX HRd hlt2;generalize zCL m ps l k=s at *;obtain ⟨x,y⟩:=s;simp only at c0 c1 hrd
   by_cases hfull:20000 < (xpP m ps l (k+1)).length
   ·rw [if_pos hfull] at hrd
    have HFu:Hid (zG6 m ps l):=⟨k,fun j hj=>HKn.out.2 j (by omega),hfull⟩
    clear hfull HKn HK2
    go_wp2_with (first | (go_at_call 19;refine hrd.mono ?_;rintro e w4 ⟨rfl,sv4,nv4,tv4,HX4⟩;obtain ⟨⟨x0,x1,x2,x3,x4⟩,xf,_,hbw⟩:=HFin.out w4 HX4.out.su.bel;have f0:=xf 0;have f1:=xf 1;have f2:=xf 2;have f3:=xf 3;have f4:=xf 4))
    have hbF:Below w.heap.size w (((((w4.setCell ⟨w.heap.size+1,0,none⟩ (.slice none 0 0)).setCell ⟨w.heap.size+1,1,none⟩ (.int .i64 0)).setCell ⟨w.heap.size+1,2,none⟩ (.slice none 0 0)).setCell ⟨w.heap.size+1,3,none⟩ (.slice none 0 0)).setCell ⟨w.heap.size+1,4,none⟩ (.int .i64 0)):=hbw.trans ((zHP w4 (w.heap.size+1) _ _ _ _ _).below (fun i e=>by omega) (by have:=hbw.size;omega))
    refine bodyPost_ret (v:=.tuple #[.agg #[.slice none 0 0,.int .i64 0,.slice none 0 0,.slice none 0 0,.int .i64 0],.int .i64 12]) ?_ rfl (.inr (.inl ⟨HK.out,HFu.out,rfl,hbF⟩))
    simp [results,Tryz.results6,go_sem,x0,x1,x2,x3,x4]
   ·rw [if_neg hfull] at hrd
    have HLe:Hid ((xpP m ps l (k+1)).length <= 20000/\pk <= (xpP m ps l (k+1)).length):=⟨by omega,by
     rw [<- HK2.out.1]
     exact (zKL (zAd m ps l) (zCB m ps l) k).length_le⟩
    clear hfull HK2
    go_wp2_with (first | (go_at_call 19;refine hrd.mono ?_;rintro e w4 ⟨rfl,sv4,nv4,tv4,HX4⟩))
    go_roundw
    case rel=>
     obtain ⟨vo4,vc4,e⟩:=HX4.out.tl.sp.shape;refine ⟨k+1,(xpP m ps l (k+1)).length,by go_num,by have:=HLe.out.2;omega,HLe.out.1,⟨rfl,HKn.out⟩,vo4,vc4,nv4,tv4,?_⟩
     rw [<- e];exact HX4.out
    case measure=>simp [intOf];omega
  ·obtain rfl:k=pk:=by omega
   obtain ⟨⟨x0,x1,x2,x3,x4⟩,xf,hty,hbw⟩:=HFin.out wr HX.out.su.bel;have f0:=xf 0;have f1:=xf 1;have f2:=xf 2;have f3:=xf 3;have f4:=xf 4;have HDn:Hid (zCa m ps l k):=⟨HK2.out.1,hpk,HK2.out.2.2,HK2.out.2.1⟩
   have HG:Hid (GrX wr w.heap.size m ps l k (.slice vo k vc) nv tv):=by
    have hle:w.heap.size <= lm:=by have:=HX.out.lo.1;have:=hbW.size;omega
    exact ⟨zAy HX.out.tl.sp hle,HX.out.tl.nx.mono hle,zAy HX.out.tl.st hle⟩
   obtain ⟨no,nn,nc,rfl⟩:∃ no nn nc,nv=.slice no nn nc:=by
    obtain ⟨us,h1,_⟩:=HX.out.tl.nx;obtain ⟨x,y,e⟩:=zAm h1;exact ⟨_,_,_,e⟩
   obtain ⟨xo,xn,xc,rfl⟩:∃ xo xn xc,tv=.slice xo xn xc:=by
    obtain ⟨x,y,e⟩:=zAm HX.out.tl.st;exact ⟨_,_,_,e⟩
   have HBF:Hid (∀ w8,Chg (fun i=>i=w.heap.size+1) wr w8->Below w.heap.size w w8/\GrX w8 w.heap.size m ps l k (.slice vo k vc) (.slice no nn nc) (.slice xo xn xc)):=fun w8 h=>⟨hbw.trans (h.below (fun i e=>by omega) (by have:=hbw.size;omega)),HG.out.chg h hty⟩
   clear HX HK2 HRd HG hty
   go_wp2_with fail
   obtain ⟨r1,r2⟩:=HBF.out _ (zHP wr (w.heap.size+1) _ _ _ _ _);refine bodyPost_ret (v:=.tuple #[.agg #[.slice vo k vc,.int .i64 (bn:Nat),.slice no nn nc,.slice xo xn xc,.int .i64 (an:Nat)],.int .i64 0]) ?_ rfl (.inl ⟨HK.out,k,HDn.out,_,_,_,rfl,r1,r2⟩)
   simp [results,Tryz.results6,go_sem,x0,x1,x2,x3,x4]
theorem zJS (va vr pv fv:Value) (m:Mo) (ps:List (List (Int × Int))) (l:List (Int × Int)) (w:World) (hB:0 < w.heap.size) (hT:zAJ w) (hV:TaskV w va vr pv fv m ps l) :
  Calls Tryz.prog 6 #[.agg #[va,vr,pv,fv]] w (zGq w m ps l):=by
 by_cases hk:zAO m ps l=0
 ·exact zLS va vr pv fv m ps l w hB hT hV hk
 ·exact zJd va vr pv fv m ps l w hB hT hV hk
end Go.Proofs.YtnihdlgfhhdhkaaGreatDoor
namespace Go.Proofs.YtnihdlgfhhdhkaaGreatDoor
open Go.ChangeShapes Go.WideShapes Go.ChangeAt Go.RowKit Go.Deep
open Terms
set_option maxHeartbeats 6400000
set_option maxRecDepth 20000
theorem zLp {l:List Int} {k:Nat} (h:k < l.length):l.take (k+1)=l.take k++[l.getD k 0]:=by
 rw [List.take_succ_eq_append_getElem h];simp [List.getD_eq_getElem?_getD,h]
theorem zHW {l:List Int} {k:Nat} (h:k < l.length):l.getD k 0∈l:=by
 rw [List.getD_eq_getElem?_getD,List.getElem?_eq_getElem h]
 exact List.getElem_mem h
theorem zAI.atV {w:World} {ao:Option Addr} {n cap:Nat} {l:List Int} (h:zAI w (.slice ao n cap) l) {k:Nat} (hk:k < l.length):∃ b off,ao=some ⟨b,off,none⟩/\b < w.heap.size/\n=l.length/\zBJ w b off l:=by
 obtain ⟨ao',cap',e,h⟩:=h
 injection e with e1 e2 e3
 subst e1 e3;obtain ⟨b,off,e,hb,hat⟩:=h (by intro h;subst h;simp at hk)
 exact ⟨b,off,e,hb,e2,hat⟩
theorem zLC (ao:Option Addr) (cap:Nat) (l:List Int) (x:Int) (w:World) (hl:l.length <= 140737488355328) (hV:zAI w (.slice ao l.length cap) l) :
  Calls Tryz.prog 109 #[.slice ao l.length cap,.int .i64 x] w fun e w'=>∃ q:Int,e=.returned (.int .i64 q)/\w'=w/\(x∈l->0 <= q)/\(x∉l->q=-1):=by
 obtain ⟨n,hn⟩:∃ n,l.length=n:=⟨_,rfl⟩
 have H:Hid (zAI w (.slice ao l.length cap) l):=hV;rw [hn] at hl H ⊢;have HN:Hid (l.length=n):=hn;clear hV hn
 go_enter Tryz.func109,Tryz.ntmps109
 go_wp2
 go_loopw [8] (fun i wr=>∃ k:Nat,k <= n/\i=.int .i64 k/\Hid (x∉l.take k)/\wr=w) (fun i _=>n - (intOf i).toNat)
 case atStart=>exact ⟨0,Nat.zero_le _,rfl,by show ¬ _;simp,rfl⟩
 case round=>
  obtain ⟨k,hk,rfl,HT,rfl⟩:=hrel
  by_cases hlt:k < n
  ·have hlt2:k < l.length:=by rw [HN.out];exact hlt
   obtain ⟨b,off,rfl,hb,_,hat⟩:=zAI.atV H.out hlt2;have c1:=hat k hlt2
   have HS:Hid (x≠l.getD k 0->x∉l.take (k+1)):=fun h hm=>by
    rw [zLp hlt2] at hm
    rcases List.mem_append.1 hm with h2 | h2
    ·exact HT.out h2
    ·simp at h2;exact h h2
   have HM:Hid (l.getD k 0∈l):=zHW hlt2;clear hat HT;generalize l.getD k 0=y at *
   by_cases hxy:x=y
   ·subst hxy
    go_wp2
    go_ret
    exact ⟨_,rfl,rfl,fun _=>by omega,fun h=>absurd HM.out h⟩
   ·have hs:=HS.out hxy
    have HS2:Hid (x∉l.take (k+1)):=hs;clear hs HS HM
    go_wp2
    go_roundw
    case rel=>exact ⟨k+1,by omega,by go_num,HS2,by trivial⟩
    case measure=>simp [intOf];omega
  ·obtain rfl:k=n:=by omega
   have HT':Hid (x∉l):=by have h:=HT.out;rw [List.take_of_length_le (by rw [HN.out];omega)] at h;exact h
   clear HT
   go_wp2
   go_ret
   exact ⟨-1,rfl,rfl,fun h=>absurd h HT'.out,fun _=>rfl⟩
theorem zH8 (ao:Option Addr) (cap:Nat) (l:List Int) (x:Int) (w:World) (hl:l.length <= 140737488355328) (hV:zAI w (.slice ao l.length cap) l) :
  Calls Tryz.prog 71 #[.slice ao l.length cap,.int .i64 x] w fun e w'=>e=.returned (.bool (decide (x∈l)))/\w'=w:=by
 have hx:=zLC ao cap l x w hl hV;generalize l.length=n at *;clear hV
 by_cases hm:x∈l
 ·rw [show decide (x∈l)=true by simp [hm]]
  have hx2:Calls Tryz.prog 109 #[.slice ao n cap,.int .i64 x] w fun e w'=>∃ q:Int,e=.returned (.int .i64 q)/\w'=w/\0 <= q:=hx.mono fun e w' ⟨q,h1,h2,h3,_⟩=>⟨q,h1,h2,h3 hm⟩
  clear hx hm
  go_enter Tryz.func71,Tryz.ntmps71
  go_wp2_with (go_at_call 109;refine hx2.mono ?_;rintro e w1 ⟨q,rfl,rfl,h3⟩)
  go_ret
  exact ⟨by first | rfl | trivial,rfl⟩
 ·rw [show decide (x∈l)=false by simp [hm]]
  have hx2:Calls Tryz.prog 109 #[.slice ao n cap,.int .i64 x] w fun e w'=>e=.returned (.int .i64 (-1))/\w'=w:=hx.mono fun e w' ⟨q,h1,h2,_,h3⟩=>⟨by rw [h1,h3 hm],h2⟩
  clear hx hm
  go_enter Tryz.func71,Tryz.ntmps71
  go_wp2_with (go_at_call 109;refine hx2.mono ?_;rintro e w1 ⟨rfl,rfl⟩)
  go_ret
  exact ⟨by first | rfl | trivial,rfl⟩
end Go.Proofs.YtnihdlgfhhdhkaaGreatDoor
namespace Go.Proofs.YtnihdlgfhhdhkaaGreatDoor
open Go.ChangeShapes Go.WideShapes Go.ChangeAt Go.RowKit Go.Deep Go.Maps
open Terms Tm
set_option maxHeartbeats 6400000
set_option maxRecDepth 20000
theorem zKK:Keyed Tryz.prog 3:=int_keyed Tryz.underlying3
theorem zOI (w:World):(zeroValue 160).run Tryz.prog w=.ok (.agg #[.slice none 0 0]) w:=by kernel_rfl
theorem zOG {x:Int} (h:-9223372036854775808 <= x/\x <= 9223372036854775807):keyOf Tryz.prog 3 (.int .i64 x)=some (.int .i64 x):=keyOf_int_mk Tryz.underlying3 (WalkArith.wf_i64 (by omega))
theorem zAI.overMap {wr w':World} {g:Nat} {v:Value} {l:List Int} (h:zAI wr v l) (hm:∃ es c,wr.heap[g]? = some (.map es c)) (hs:Sk g g wr w'):zAI w' v l:=by
 obtain ⟨ao,cap,rfl,h⟩:=h;refine ⟨ao,cap,rfl,fun hne=>?_⟩
 obtain ⟨b,off,rfl,hlt,hat⟩:=h hne;exact ⟨b,off,rfl,Nat.lt_of_lt_of_le hlt hs.size,fun i hi=>hs.cell ⟨hm,hm⟩ (hat i hi)⟩
def zNd (wr:World) (m:Mo) (f:Lit->Option Value):Prop:=∀ kl v,f kl=some v->∃ c ao cap,kl=.int .i64 c/\v=.agg #[.slice ao (zAB m c).length cap]/\zAI wr (.slice ao (zAB m c).length cap) (zAB m c)
def zC9 (wr:World) (g n:Nat) (m:Mo):Prop:=∃ f,zAZ wr 3 g n f/\zNd wr m f
theorem zC9.lt {wr:World} {g n:Nat} {m:Mo} (h:zC9 wr g n m):g < wr.heap.size:=by obtain ⟨f,h1,_⟩:=h;exact h1.lt
theorem zAZ.more {w:World} {kt:TypeId} {b n k:Nat} {f:Lit->Option Value} (h:zAZ w kt b n f) (hk:n <= k):zAZ w kt b k f:=by
 obtain ⟨D,⟨es,c,h1,h2,h3,h4⟩,h5⟩:=h;exact ⟨D,⟨es,c,h1,h2,Nat.le_trans h3 hk,h4⟩,h5⟩
theorem zC9.below {wr w':World} {g n:Nat} {m:Mo} (h:zC9 wr g n m) (hb:Below wr.heap.size wr w'):zC9 w' g (n+1) m:=by
 obtain ⟨f,h1,h2⟩:=h;refine ⟨f,(h1.kept (hb.block _ h1.lt)).more (Nat.le_succ _),fun kl v hv=>?_⟩
 obtain ⟨c,ao,cap,e1,e2,e3⟩:=h2 kl v hv;exact ⟨c,ao,cap,e1,e2,e3.below hb⟩
theorem zC9.put {wr w3 w':World} {g n:Nat} {m:Mo} {f:Lit->Option Value} {code:Int} {ao:Option Addr} {cap:Nat} (h1:zAZ wr 3 g n f) (h2:zNd wr m f) (hb:Below wr.heap.size wr w3) (hg:w3.grownBy w' (some g))
  (hm:zAZ w' 3 g (n+1) (zDz f (.int .i64 code) (.agg #[.slice ao (zAB m code).length cap]))) (hI:zAI w3 (.slice ao (zAB m code).length cap) (zAB m code)):zC9 w' g (n+1) m/\zAI w' (.slice ao (zAB m code).length cap) (zAB m code):=by
 have hmm:∃ es c,w3.heap[g]? = some (.map es c):=(h1.kept (hb.block _ h1.lt)).isMap
 have hs:Sk g g w3 w':=Sk.grown hg (.inl rfl);refine ⟨⟨_,hm,fun kl v hv=>?_⟩,hI.overMap hmm hs⟩
 by_cases hk:kl=.int .i64 code
 ·subst hk
  rw [zDP] at hv
  cases hv
  exact ⟨code,ao,cap,rfl,rfl,hI.overMap hmm hs⟩
 ·rw [zC0 hk] at hv
  obtain ⟨c,ao',cap',e1,e2,e3⟩:=h2 kl v hv;exact ⟨c,ao',cap',e1,e2,(e3.below hb).overMap hmm hs⟩
open Classical in
theorem zJY (va vr:Value) (m:Mo) (b off cap:Nat) (cs:List Int) (w:World) (hB:0 < w.heap.size) (hT:zAJ w) (hV:zAU w va vr m) (hm:mcode m=0) (h2:2 <= cs.length) (hM:cs.length <= 1099511627776) (hcap:cs.length <= cap) (hb:b < w.heap.size) (hC:zBJ w b off cs)
  (h0:0 <= cs.getD 0 0/\cs.getD 0 0 < zAC m.vars m.vars.length) :
  Calls Tryz.prog 44 #[.agg #[va,vr],.slice (some ⟨b,off,none⟩) cs.length cap] w fun e w'=>e=.returned (.bool (decide (zAc m cs (cs.length - 1))))/\Below w.heap.size w w':=by
 obtain ⟨ao,ac,rfl⟩:=hV.1.shape;obtain ⟨ro,rc,rfl⟩:=hV.2.shape;have hP:=(zAn hm).prod (Nat.le_refl m.vars.length);obtain ⟨W1,hW1⟩:∃ W1,W1=w.alloc (.cells #[.slice ao m.vars.length ac,.slice ro m.rules.length rc] 31):=⟨_,rfl⟩
 have hb1:Below w.heap.size w W1:=by rw [hW1];exact (Below.refl _ _).alloc (Nat.le_refl _) _
 have hz1:W1.heap.size=w.heap.size+1:=by rw [hW1];simp
 have HNe:Hid (∀ (w1:World) (code:Int),Below (w.heap.size+1) W1 w1->(0 <= code/\code < zAC m.vars m.vars.length)->Calls Tryz.prog 14 #[.agg #[.slice ao m.vars.length ac,.slice ro m.rules.length rc],.int .i64 code] w1 fun e w'=>∃ no nc,e=.returned (.tuple #[.slice no (zAB m code).length nc,.int .i64 0])/\Below w1.heap.size w1 w'/\Hid (zAI w' (.slice no (zAB m code).length nc) (zAB m code)/\∀ a,no=some a->w1.heap.size <= a.block)):=fun w1 code h hcr=>by
  have h0:=hb1.trans (h.mono (Nat.le_succ _));refine (zGS _ _ m code w1 (Nat.lt_of_lt_of_le hB h0.size) (hT.below h0 hB) (hV.below h0) hm).mono fun e w' ⟨v,q1,q2,q3⟩=>?_
  have q4:=zA4 q3;rw [zCT hm hcr] at q4;obtain ⟨no,nc,rfl,hx⟩:=q4;refine ⟨no,nc,by rw [q1,zBT hm hcr],q2,⟨no,nc,rfl,hx⟩,fun a e=>?_⟩
  rcases q3.2 with ⟨e3,_⟩ | ⟨g',cap',cur',e3,e4,_⟩
  ·rw [e] at e3;cases e3
  ·rw [e] at e3
   injection e3 with e3 _ _
   injection e3 with e3
   rw [e3];exact e4
 have HCo:Hid (∀ (w1:World) (no:Option Addr) (nc:Nat) (code x:Int),(0 <= code/\code < zAC m.vars m.vars.length)->zAI w1 (.slice no (zAB m code).length nc) (zAB m code)->Calls Tryz.prog 71 #[.slice no (zAB m code).length nc,.int .i64 x] w1 fun e w'=>e=.returned (.bool (decide (x∈zAB m code)))/\w'=w1):=fun w1 no nc code x hcr hI=>zH8 no nc (zAB m code) x w1 (by have:=zFu m code;rw [zCT hm hcr] at this;have h9:=(zEI hm);omega) hI
 have HBx:Hid (∀ w1,Below (w.heap.size+1) W1 w1->w1.cell? ⟨w.heap.size,0,none⟩=some (.slice ao m.vars.length ac)/\w1.cell? ⟨w.heap.size,1,none⟩=some (.slice ro m.rules.length rc)):=fun w1 h=>by
  have hl:w.heap.size < w.heap.size+1:=Nat.lt_succ_self _;exact ⟨(h.cell (p:=⟨w.heap.size,0,none⟩) hl).trans (by rw [hW1];simp [go_sem]),(h.cell (p:=⟨w.heap.size,1,none⟩) hl).trans (by rw [hW1];simp [go_sem])⟩
 have HCs:Hid (∀ w1,Below (w.heap.size+1) W1 w1->∀ i,i < cs.length->w1.cell? ⟨b,off+i,none⟩=some (.int .i64 (cs.getD i 0))):=fun w1 h i hi=>((hb1.trans (h.mono (Nat.le_succ _))).cell (p:=⟨b,off+i,none⟩) hb).trans (hC i hi)
 have HRg:Hid (∀ k,zAc m cs k->0 <= cs.getD k 0/\cs.getD k 0 < zAC m.vars m.vars.length):=fun k h=>h.range hm h0
 have HNo:Hid (∀ k,k+1 < cs.length->(0 <= cs.getD k 0/\cs.getD k 0 < zAC m.vars m.vars.length)->cs.getD (k+1) 0∉zAB m (cs.getD k 0)->decide (zAc m cs (cs.length - 1))=false):=fun k hk hr hn=>decide_eq_false fun h=>hn (by have:=h k (by omega);rw [zCT hm hr] at this;exact this)
 have HYs:Hid (∀ k,zAc m cs k->cs.getD (k+1) 0∈zAB m (cs.getD k 0)->zAc m cs (k+1)):=fun k h h2=>h.succ (by rw [zCT hm (h.range hm h0)];exact h2)
 have HRes:Hid (∀ k,zAc m cs k->k=cs.length - 1->decide (zAc m cs (cs.length - 1))=true):=fun k h e=>by rw [<- e];exact decide_eq_true h
 have HK0:Hid (∀ w1:World,zC9 (w1.alloc (.map #[] 0)) w1.heap.size 0 m):=fun w1=>⟨fun _=>none,zAZ.new _ (MapKept.heap_alloc w1 _).1,fun kl v h=>by cases h⟩
 have HPut:Hid (∀ (w1:World) (g n:Nat) (f:Lit->Option Value) (code:Int) (v:Value),zAZ w1 3 g n f->n <= 1099511627776->(0 <= code/\code < zAC m.vars m.vars.length)->∃ w',(Instr.mapUpdate 158 (.map (some g)) (.int .i64 code) v).run Tryz.prog w1=.ok () w'/\zAZ w' 3 g (n+1) (zDz f (.int .i64 code) v)/\w1.grownBy w' (some g)):=fun w1 g n f code v h hn hcr=>h.put zKK Tryz.underlying158 (by unfold maxLen;omega) (val:=v) (zOG (by omega)) (by simp [WideAt.IsKeyLit])
 have HLk:Hid (∀ (w1:World) (g n:Nat) (f:Lit->Option Value) (code:Int),zAZ w1 3 g n f->(0 <= code/\code < zAC m.vars m.vars.length)->(Instr.lookup 158 (.map (some g)) (.int .i64 code) true).run Tryz.prog w1=.ok (.tuple #[(f (.int .i64 code)).getD (.agg #[.slice none 0 0]),.bool (f (.int .i64 code)).isSome]) w1):=fun w1 g n f code h hcr=>h.look zKK Tryz.underlying158 (zOI _) (zOG (by omega))
 generalize decide (zAc m cs (cs.length - 1))=res at *;obtain ⟨n,hn⟩:∃ n,n=cs.length:=⟨_,rfl⟩
 have HN:Hid (n=cs.length):=hn;rw [<- hn] at h2 hM hcap HCs HNo HRes ⊢;generalize m.vars.length=vn at *;generalize m.rules.length=rn at *;have hc1:¬ cap=1:=by omega
 have HKs:Hid (zC9 (W1.alloc (.map #[] 0)) (w.heap.size+1) 0 m):=by have h:=HK0.out W1;rw [hz1] at h;exact h
 have HBs:Hid (Below (w.heap.size+1) W1 (W1.alloc (.map #[] 0))):=(Below.refl _ _).alloc (by omega) _
 have HBe:Hid (∀ w1,Below (w.heap.size+1) W1 w1->Below w.heap.size w w1):=fun w1 h=>hb1.trans (h.mono (Nat.le_succ _))
 have HBn:Hid (∀ (wr:World) (v:Value) (w':World),Below (wr.heap.size+1) (wr.alloc (.cells #[v] 160)) w'->Below wr.heap.size wr w'/\w'.cell? ⟨wr.heap.size,0,none⟩=some v/\w'.frozen? ⟨wr.heap.size,0,none⟩=false):=fun wr v w' h=>by
  have hl:wr.heap.size < wr.heap.size+1:=Nat.lt_succ_self _;exact ⟨((Below.refl _ _).alloc (Nat.le_refl _) _).trans (h.mono (Nat.le_succ _)),(h.cell (p:=⟨wr.heap.size,0,none⟩) hl).trans (by simp [go_sem]),(h.frozen (p:=⟨wr.heap.size,0,none⟩) hl).trans (by simp [go_sem])⟩
 clear hT hV hC h0 hn hm hP HK0;have hmm:=@run_makeMap Tryz.prog
 go_enter Tryz.func44,Tryz.ntmps44
 go_wp2_with fail
 rw [<- hW1];clear hW1 hz1 hb1;obtain ⟨p,hp⟩:∃ p,n - 1=p:=⟨_,rfl⟩
 rw [hp];have HPn:Hid (n=p+1):=by show _=_;omega
 have hpM:p <= 1099511627776:=by omega
 rw [hp] at HRes;clear hp
 go_loopw [17] (fun i wr=>∃ k:Nat,k <= p/\i=.int .i64 (k:Int)/\Hid (zAc m cs k)/\Hid (zC9 wr (w.heap.size+1) k m)/\Hid (Below (w.heap.size+1) W1 wr)) (fun i _=>p - (intOf i).toNat)
 case atStart=>exact ⟨0,Nat.zero_le _,rfl,zAc.zero _ _,HKs,HBs⟩
 case round=>
  obtain ⟨k,hk,rfl,HL,HK,HBl⟩:=hrel
  by_cases hlt:k < p
  ·obtain ⟨f,hf,hfa⟩:=HK.out
   have hbl:=HBl.out;have hws:w.heap.size+1 <= wr.heap.size:=Nat.le_of_lt HK.out.lt;have hrg:=HRg.out k HL.out;have hpn:=HPn.out;have c0:=HCs.out wr hbl k (by omega)
   have c1:wr.cell? ⟨b,off+1+k,none⟩=_:=(congrArg (fun j=>wr.cell? ⟨b,j,none⟩) (by omega:off+1+k=off+(k+1))).trans (HCs.out wr hbl (k+1) (by omega))
   have hlk:=HLk.out wr _ _ f _ hf hrg;have HNx:Hid _:=HNo.out k (by omega) hrg
   have HYx:Hid _:=HYs.out k HL.out;have hki:(k:Int) < (p:Int):=by omega
   have hki2:(k:Int) < (n:Int):=by omega
   clear hpn HL;generalize cs.getD k 0=x at *;generalize cs.getD (k+1) 0=y at *;have HF:Hid (zAZ wr 3 (w.heap.size+1) k f/\zNd wr m f):=⟨hf,hfa⟩
   cases hfx:f (.int .i64 x) with
   | some v=>
    obtain ⟨c,no,nc,e1,e2,hI⟩:=hfa _ _ hfx
    injection e1 with _ e1
    subst e1 e2;rw [hfx] at hlk;simp only [Option.getD_some,Option.isSome_some] at hlk;have hB3:Below wr.heap.size wr (wr.alloc (.cells #[.slice no (zAB m x).length nc] 160)):=(Below.refl _ _).alloc (Nat.le_refl _) _;have hco:=HCo.out _ no nc x y hrg (hI.below hB3)
    have HKn:Hid (zC9 (wr.alloc (.cells #[.slice no (zAB m x).length nc] 160)) (w.heap.size+1) (k+1) m):=HK.out.below hB3;have HB4:Hid (Below (w.heap.size+1) W1 (wr.alloc (.cells #[.slice no (zAB m x).length nc] 160))):=hbl.trans (hB3.mono hws);clear hf hfa hfx hI hB3 HK HF;generalize (zAB m x).length=nn at *
    by_cases hy:y∈zAB m x
    ·rw [decide_eq_true hy] at hco
     have HY:Hid (zAc m cs (k+1)):=HYx.out hy;clear hy hrg HNx
     go_wp2_with (go_at_call 71;refine hco.mono ?_;rintro e w4 ⟨rfl,rfl⟩)
     go_roundw
     case rel=>exact ⟨k+1,by omega,by go_num,HY,HKn,HB4⟩
     case measure=>simp [intOf];omega
    ·rw [decide_eq_false hy] at hco
     have HR:Hid (res=false):=HNx.out hy;clear hy hrg HYx
     go_wp2_with (go_at_call 71;refine hco.mono ?_;rintro e w4 ⟨rfl,rfl⟩)
     go_ret
     exact ⟨by rw [HR.out];rfl,HBe.out _ HB4.out⟩
   | none=>
    rw [hfx] at hlk;simp only [Option.getD_none,Option.isSome_none] at hlk;have hB2:Below wr.heap.size wr (wr.alloc (.cells #[.slice none 0 0] 160)):=(Below.refl _ _).alloc (Nat.le_refl _) _;have hbl2:=hbl.trans (hB2.mono hws);have hne:=HNe.out _ x hbl2 hrg;obtain ⟨m0,m1⟩:=HBx.out _ hbl2;have HNw:=HBn.out wr (.slice none 0 0)
    have hszA:(wr.alloc (.cells #[.slice none 0 0] 160)).heap.size=wr.heap.size+1:=by simp
    have HNw:Hid (∀ w',Below (wr.alloc (.cells #[.slice none 0 0] 160)).heap.size (wr.alloc (.cells #[.slice none 0 0] 160)) w'->Below wr.heap.size wr w'/\w'.cell? ⟨wr.heap.size,0,none⟩=some (.slice none 0 0)/\w'.frozen? ⟨wr.heap.size,0,none⟩=false):=fun w' h=>HBn.out wr _ w' (by rw [hszA] at h;exact h)
    have HSt:Hid (∀ (w2:World) (no:Option Addr) (nc:Nat),Below (wr.alloc (.cells #[.slice none 0 0] 160)).heap.size (wr.alloc (.cells #[.slice none 0 0] 160)) w2->(zAI w2 (.slice no (zAB m x).length nc) (zAB m x)/\∀ a,no=some a->(wr.alloc (.cells #[.slice none 0 0] 160)).heap.size <= a.block)->∃ w4,(Instr.mapUpdate 158 (.map (some (w.heap.size+1))) (.int .i64 x) (.agg #[.slice no (zAB m x).length nc])).run Tryz.prog (w2.setCell ⟨wr.heap.size,0,none⟩ (.slice no (zAB m x).length nc))=.ok () w4/\w4.cell? ⟨wr.heap.size,0,none⟩=some (.slice no (zAB m x).length nc)/\Hid (zC9 w4 (w.heap.size+1) (k+1) m)/\Hid (Below (w.heap.size+1) W1 w4)/\zAI w4 (.slice no (zAB m x).length nc) (zAB m x)):=fun w2 no nc h hI=>by
     obtain ⟨hI,hIa⟩:=hI;obtain ⟨q1,q2,q3⟩:=HNw.out w2 h;have hB3:Below wr.heap.size wr (w2.setCell ⟨wr.heap.size,0,none⟩ (.slice no (zAB m x).length nc)):=⟨q1.os,q1.tape,q1.output,by simpa using q1.size,fun i hi=>(RowKit.Below.heap_setCell _ _ _ _ (by show i≠wr.heap.size;omega)).trans (q1.block i hi)⟩
     obtain ⟨w4,r1,r2,r3⟩:=HPut.out _ _ k f x (.agg #[.slice no (zAB m x).length nc]) (HF.out.1.kept (hB3.block _ HF.out.1.lt)) (by omega) hrg
     have hI3:zAI (w2.setCell ⟨wr.heap.size,0,none⟩ (.slice no (zAB m x).length nc)) (.slice no (zAB m x).length nc) (zAB m x):=by
      obtain ⟨ao,cap,e,hx⟩:=hI
      injection e with e1 _ e3
      subst e1 e3;refine ⟨_,_,rfl,fun hne=>?_⟩
      obtain ⟨b,off,rfl,hlt,hat⟩:=hx hne;have:=hIa _ rfl;rw [hszA] at this;exact ⟨b,off,rfl,by simpa using hlt,fun i hi=>by rw [World.cell?_setCell_other _ _ _ _ (by intro e;injection e with e _;simp at this;omega)];exact hat i hi⟩
     obtain ⟨t1,t2⟩:=zC9.put HF.out.1 HF.out.2 hB3 r3 r2 hI3;have hb3w:=hbl.trans (hB3.mono hws);have hmm:∃ es c,(w2.setCell ⟨wr.heap.size,0,none⟩ (.slice no (zAB m x).length nc)).heap[w.heap.size+1]? = some (.map es c):=(HF.out.1.kept (hB3.block _ HF.out.1.lt)).isMap
     refine ⟨w4,r1,?_,t1,hb3w.grown r3 (Nat.le_trans hws hB3.size) (fun q hq=>by injection hq with hq;omega),t2⟩
     refine (Sk.grown r3 (.inl rfl):Sk (w.heap.size+1) (w.heap.size+1) _ _).cell ⟨hmm,hmm⟩ ?_
     simp [go_sem,q2]
    have HCx:Hid (∀ (w1:World) (no:Option Addr) (nc:Nat),zAI w1 (.slice no (zAB m x).length nc) (zAB m x)->Calls Tryz.prog 71 #[.slice no (zAB m x).length nc,.int .i64 y] w1 fun e w'=>e=.returned (.bool (decide (y∈zAB m x)))/\w'=w1):=fun w1 no nc h=>HCo.out w1 no nc x y hrg h
    clear hf hfa hfx HK HF hB2 hbl2 HBx;generalize (zAB m x).length=nn at *
    by_cases hy:y∈zAB m x
    ·rw [decide_eq_true hy] at HCx
     have HY:Hid (zAc m cs (k+1)):=HYx.out hy;clear hy hrg HNx
     go_wp2_with (first | (go_at_call 14;refine hne.mono ?_;rintro e w2 ⟨no,nc,rfl,hb2,HI⟩;obtain ⟨_,g1,g2⟩:=HNw.out w2 hb2;obtain ⟨w4,hrun,g3,HKn,HB4,hI4⟩:=HSt.out w2 no nc hb2 HI.out;have hco:=HCx.out w4 no nc hI4) | (go_at_call 71;refine hco.mono ?_;rintro e w5 ⟨rfl,rfl⟩))
     go_roundw
     case rel=>exact ⟨k+1,by omega,by go_num,HY,HKn,HB4⟩
     case measure=>simp [intOf];omega
    ·rw [decide_eq_false hy] at HCx
     have HR:Hid (res=false):=HNx.out hy;clear hy hrg HYx
     go_wp2_with (first | (go_at_call 14;refine hne.mono ?_;rintro e w2 ⟨no,nc,rfl,hb2,HI⟩;obtain ⟨_,g1,g2⟩:=HNw.out w2 hb2;obtain ⟨w4,hrun,g3,HKn,HB4,hI4⟩:=HSt.out w2 no nc hb2 HI.out;have hco:=HCx.out w4 no nc hI4) | (go_at_call 71;refine hco.mono ?_;rintro e w5 ⟨rfl,rfl⟩))
     go_ret
     exact ⟨by rw [HR.out];rfl,HBe.out _ HB4.out⟩
  ·obtain rfl:k=p:=by omega
   have HR:Hid (res=true):=HRes.out k HL.out rfl;have hbe:=HBe.out _ HBl.out;clear HK HL HRes
   go_wp2
   go_ret
   exact ⟨by rw [HR.out];rfl,hbe⟩
end Go.Proofs.YtnihdlgfhhdhkaaGreatDoor
namespace Go.Proofs.YtnihdlgfhhdhkaaGreatDoor
open Go.ChangeShapes Go.WideShapes Go.ChangeAt Go.RowKit Go.Deep
open Terms
set_option maxHeartbeats 6400000
set_option maxRecDepth 20000
theorem zLa (n:Nat) (w:World) (h0:0 < n) (h24:n <= 1099511627776) :
  Calls Tryz.prog 70 #[.slice none 0 0,.int .i64 (n:Int)] w fun e w'=>∃ B cap,e=.returned (.slice (some ⟨B,0,none⟩) 0 cap)/\Below w.heap.size w w'/\w'.ownsRow w.heap.size 3 1 (.slice (some ⟨B,0,none⟩) 0 cap) 0 []:=by
 obtain ⟨i0,hi,hz0,hz1,hz2⟩:=info_parts zBd
 have hrz:∀ ty,(Builtin.append_ #[27,3] ty #[.slice none 0 0,.int .i64 (n:Int)]).run Tryz.prog w=.ok (.slice (some ⟨w.heap.size,0,none⟩) n (grownCap w n 0 3)) (w.drew.alloc (.cells (Builtin.zeroCells (Value.int .i64 0).cells n++Builtin.zeroCells (Value.int .i64 0).cells (grownCap w n 0 3 - n)) 3)):=fun ty=>
  Lib.run_append_nil_zeros w 27 3 ty 3 i0 (.int .i64 0) .i64 .i64 Tryz.underlying27 Tryz.underlying3 hi hz0 n h0 (by omega) (by omega) (by rw [hz2];omega)
 have hge:=grownCap_ge w n 0 3;have hle:=grownCap_le_maxLen w n 0 3 (by unfold maxLen;omega)
 generalize grownCap w n 0 3=G at hrz hge hle;have hG:G <= 9223372036854775807:=by unfold maxLen at hle;omega
 have hn:¬ (n:Int) < 0:=by omega
 have hn2:(n:Int) > 0:=by omega
 go_enter Tryz.func70,Tryz.ntmps70
 go_wp2_with (at_builtin;refine Lib.wpList_append_run _ rfl _ _ _ _ rfl _ _ rfl rfl _ _ (hrz _) ?_)
 go_ret
 refine ⟨_,_,rfl,(below_drewN (Below.refl _ _) 1).alloc (Nat.le_refl _) _,?_⟩
 refine ⟨rfl,.inr ⟨w.heap.size,G,Builtin.zeroCells #[Value.int .i64 0] n++Builtin.zeroCells #[Value.int .i64 0] (G - n),rfl,Nat.le_refl _,?_,Nat.zero_le _,hle,?_,by simp⟩⟩
 ·show (w.heap.push _)[w.heap.size]? = _
  simp
 ·simp [size_zeroCells]
  omega
def zCb (xs:List (List Int)) (k:Nat):List Int:=(xs.take k).flatten
theorem zLx {xs:List (List Int)} {k:Nat} (h:k < xs.length):zCb xs (k+1)=zCb xs k++xs.getD k []:=by
 unfold zCb;rw [List.take_succ_eq_append_getElem h,List.flatten_append];simp [List.getD_eq_getElem?_getD,h]
theorem zKC (xs:List (List Int)) (k:Nat):(zCb xs k).length <= xs.flatten.length:=by
 unfold zCb;have:=congrArg List.length (congrArg List.flatten (List.take_append_drop k xs));rw [List.flatten_append,List.length_append] at this;omega
theorem zJR (g:Nat) (xs:List (List Int)) (w0 w:World) (hb0:Below w0.heap.size w0 w) (h3:xs.length=3) (h0:1 <= xs.flatten.length) (hM:xs.flatten.length <= 1099511627776)
  (hX:∀ k,k < 3->∃ v,w.cell? ⟨g,k,none⟩=some v/\zGa w0 v (xs.getD k [])) :
  Calls Tryz.prog 43 #[.slice (some ⟨g,0,none⟩) 3 3] w fun e w'=>∃ B cap,e=.returned (.slice (some ⟨B,0,none⟩) xs.flatten.length cap)/\Below w.heap.size w w'/\Hid (w'.ownsRow w.heap.size 3 1 (.slice (some ⟨B,0,none⟩) xs.flatten.length cap) xs.flatten.length (zAE xs.flatten)):=by
 obtain ⟨v0,c0,_⟩:=hX 0 (by omega)
 have hg:=World.block_lt_of_cell? w ⟨g,0,none⟩ c0;clear c0;obtain ⟨i0,hi,hz0,hz1,hz2⟩:=info_parts zBd;obtain ⟨zz,hzz⟩:∃ zz:Nat->Int,zz=fun k=>((zCb xs k).length:Int):=⟨_,rfl⟩
 have HAt:Hid (∀ k,k < 3->∃ xo xn xc xl,w.cell? ⟨g,k,none⟩=some (.slice xo xn xc)/\zz (k+1)=zz k+(xn:Int)/\0 <= zz k/\zz k <= 1099511627776/\xn <= 1099511627776/\xn=xl.length/\zCb xs (k+1)=zCb xs k++xl/\(zCb xs k).length+xn <= 1099511627776/\zGa w0 (.slice xo xn xc) xl):=fun k hk=>by
  obtain ⟨v,hc,hI⟩:=hX k hk;obtain ⟨ao,cap,rfl,h1,h2⟩:=id hI;have e1:=zLx (xs:=xs) (k:=k) (by omega)
  have e2:=zKC xs k;have e3:=zKC xs (k+1);have e4:=congrArg List.length e1;rw [List.length_append] at e4
  exact ⟨ao,_,cap,xs.getD k [],hc,by rw [hzz];show ((zCb xs (k+1)).length:Int)=((zCb xs k).length:Int)+_;omega,by rw [hzz];show (0:Int) <= ((zCb xs k).length:Int);omega,by rw [hzz];show ((zCb xs k).length:Int) <= _;omega,by omega,rfl,e1,by omega,hI⟩
 have HZ0:Hid (zz 0=0):=by show _=_;rw [hzz];rfl
 have HA0:Hid (zCb xs 0=[]):=rfl;have HA3:Hid (zCb xs 3=xs.flatten):=by show _=_;unfold zCb;rw [<- h3,List.take_length]
 have HZ3:Hid (zz 3=((xs.flatten.length:Nat):Int)):=by show _=_;rw [hzz,<- HA3.out]
 have hgr:=fun w1=>zLa xs.flatten.length w1 (by omega) hM
 have HLen:Hid (xs.flatten.length=xs.flatten.length):=rfl;generalize xs.flatten=fl at *;obtain ⟨tn,htn⟩:∃ tn,tn=fl.length:=⟨_,rfl⟩
 have HTn:Hid (tn=fl.length):=htn;rw [<- htn] at hgr HLen HZ3 hM h0 ⊢;generalize zCb xs=ac at *;clear hX htn hzz h3 HLen
 go_enter Tryz.func43,Tryz.ntmps43
 go_wp2
 go_loop [3,11] (fun z i=>∃ k:Nat,k <= 3/\i=.int .i64 (k:Int)/\z=.int .i64 (zz k)) (fun _ i=>3 - (intOf i).toNat)
 case atStart=>exact ⟨0,by omega,rfl,by rw [HZ0.out]⟩
 case round=>
  obtain ⟨k,hk,rfl,rfl⟩:=hrel
  by_cases hlt:k < 3
  ·obtain ⟨xo,xn,xc,xl,hc,hz,hz00,hz12,hx12,hr⟩:=HAt.out k hlt
   clear hr;have HZ:Hid (zz (k+1)=zz k+(xn:Int)):=hz;clear hz;generalize zz k=z0 at *
   go_wp2
   go_round
   case rel=>exact ⟨k+1,hlt,by go_num,by rw [HZ.out]⟩
   case measure=>simp [intOf];omega
  ·obtain rfl:k=3:=by omega
   rw [HZ3.out]
   go_wp2_with (go_at_call 70;refine (hgr _).mono ?_;rintro e w1 ⟨B,cap,rfl,hb1,ho1⟩)
   clear hgr
   go_loopw [6,27] (fun nv i wr=>∃ k:Nat,k <= 3/\i=.int .i64 (k:Int)/\∃ B cap,nv=.slice (some ⟨B,0,none⟩) (ac k).length cap/\Hid (wr.ownsRow w.heap.size 3 1 nv (ac k).length (zAE (ac k)))/\Below w.heap.size w wr) (fun _ i _=>3 - (intOf i).toNat)
   case atStart=>exact ⟨0,by omega,rfl,B,cap,by rw [HA0.out];rfl,by rw [HA0.out];exact ho1,hb1⟩
   case round=>
    obtain ⟨k,hk,rfl,B,cap,rfl,HU,hbel⟩:=hrel
    by_cases hlt:k < 3
    ·obtain ⟨xo,xn,xc,xl,hc,_,_,_,hx12,hxn,hac,hal,hX⟩:=HAt.out k hlt
     have hcr:=(hbel.cell (p:=⟨g,k,none⟩) hg).trans hc;have hown:=HU.out;have HXN:Hid (xn=xl.length):=hxn;have HAC:Hid (ac (k+1)=ac k++xl):=hac;obtain ⟨xo',xc',hxv,hx0,hxat⟩:=hX
     injection hxv with e1 e2 e3
     subst e1 e3;obtain ⟨us,hus⟩:∃ us,us=zAE (ac k):=⟨_,rfl⟩
     have HUS:Hid (us=zAE (ac k)):=hus;obtain ⟨un,hun⟩:∃ un,un=(ac k).length:=⟨_,rfl⟩
     have HUN:Hid (un=(ac k).length):=hun;rw [<- hus,<- hun] at hown;rw [<- hun] at hal ⊢;clear hxn hac hus hun e2 HU
     cases xo with
     | none=>
      obtain ⟨hc0,hl0⟩:=hx0 rfl;have HL0:Hid (xl=[]):=hl0;have hxn0:xn=0:=by rw [HXN.out,HL0.out];rfl
      subst hxn0 hc0;clear hx0 hxat hl0
      go_wp2_with (at_builtin;refine wpList_append_own_none rfl (.tmp 31) (.tmp 32) 27 rfl w.heap.size 3 i0 1 Tryz.underlying27 hi _ _ _ rfl hown rfl ?_)
      go_roundw
      case rel=>exact ⟨k+1,hlt,by go_num,B,cap,by rw [HAC.out,HL0.out,List.append_nil,HUN.out],by show World.ownsRow _ _ _ _ _ _ _;rw [HAC.out,HL0.out,List.append_nil,<- HUN.out,<- HUS.out];exact hown,hbel⟩
      case measure=>simp [intOf];omega
     | some a=>
      have hcells:∀ j u,(zAE xl)[j]? = some u->wr.cell? (a.add j)=some u:=by
       intro j u hj;have hjl:j < xl.length:=by have:=(List.getElem?_eq_some_iff.1 hj).1;simpa [zAE] using this
       obtain ⟨b,off,e,hbl,hat⟩:=hxat (by rintro rfl;simp at hjl)
       obtain rfl:=Option.some.inj e;rw [Go.WideShapes.add_plain,(hb0.trans (hbel.mono hb0.size)).cell (p:=⟨b,off+j,none⟩) hbl,hat j hjl];simp [zAE,hjl] at hj
       simp [List.getD_eq_getElem?_getD,hjl,hj]
      have hvl:(zAE xl).length=xn*1:=by rw [HXN.out];simp [zAE]
      have hv1:=zE7 xl;have hbsz:=hbel.size;have hnb:=hown.lt;clear hx0 hxat
      go_wp2_with (at_builtin;refine wpList_append_own _ rfl (.tmp 31) (.tmp 32) 27 rfl w.heap.size 3 i0 (.int .i64 0) 1 8 Tryz.underlying27 hi hz0 hz1 hz2 rfl (by decide) (.slice (some ⟨B,0,none⟩) un cap) un us rfl hown a xn xc (zAE xl) rfl hvl hcells hv1 (by unfold maxLen;omega) (by omega) hbsz ?_;intro v' w4 hown' hgrow hne)
      have hb4:Below w.heap.size w w4:=hbel.grown hgrow hbsz (fun q hq=>(hnb q hq).1)
      obtain ⟨B4,cap4,rfl⟩:∃ B4 cap4,v'=.slice (some ⟨B4,0,none⟩) (un+xn) cap4:=by
       rcases hown'.2 with ⟨h,_⟩ | ⟨g',cap',cur',h,_⟩
       ·exact absurd (hne.1 h).1 (by simp)
       ·exact ⟨_,_,h⟩
      have HLn:Hid (un+xn=(ac (k+1)).length):=by show _=_;rw [HAC.out,List.length_append,<- HUN.out,HXN.out]
      have HU4:Hid (w4.ownsRow w.heap.size 3 1 (.slice (some ⟨B4,0,none⟩) (un+xn) cap4) (ac (k+1)).length (zAE (ac (k+1)))):=by
       show World.ownsRow _ _ _ _ _ _ _
       rw [<- HLn.out,HAC.out,show zAE (ac k++xl)=us++zAE xl by rw [HUS.out];simp [zAE]]
       exact hown'
      clear hown' hgrow hown hcells hne
      go_roundw
      case rel=>exact ⟨k+1,hlt,by go_num,B4,cap4,by rw [HLn.out],HU4,hb4⟩
      case measure=>simp [intOf];omega
    ·obtain rfl:k=3:=by omega
     have HF:Hid (wr.ownsRow w.heap.size 3 1 (.slice (some ⟨B,0,none⟩) tn cap) tn (zAE fl)):=by
      have h1:=HU.out;rw [HA3.out,<- HTn.out] at h1;exact h1
     rw [HA3.out,<- HTn.out];clear HU
     go_wp2
     go_ret
     exact ⟨_,_,rfl,hbel,HF⟩
end Go.Proofs.YtnihdlgfhhdhkaaGreatDoor
namespace Go.Proofs.YtnihdlgfhhdhkaaGreatDoor
open Go.ChangeShapes Go.WideShapes Go.ChangeAt Go.RowKit Go.Deep Go.Maps
open Terms Tm
set_option maxHeartbeats 6400000
set_option maxRecDepth 20000
def zBM (w:World) (v:Value) (l:List Int):Prop:=∃ ao cap,v=.slice ao l.length cap/\l.length <= cap/\(ao=none->cap=0/\l=[])/\(l≠[]->∃ b off,ao=some ⟨b,off,none⟩/\b < w.heap.size/\zBJ w b off l)
theorem zBM.w {w:World} {v:Value} {l:List Int} (h:zBM w v l):zGa w v l:=by
 obtain ⟨ao,cap,h1,_,h2,h3⟩:=h;exact ⟨ao,cap,h1,h2,h3⟩
theorem zBM.below {w w':World} {v:Value} {l:List Int} (h:zBM w v l) (hb:Below w.heap.size w w'):zBM w' v l:=by
 obtain ⟨ao,cap,h1,hc,h0,h⟩:=h;refine ⟨ao,cap,h1,hc,h0,fun hne=>?_⟩
 obtain ⟨b,off,e,hlt,hat⟩:=h hne;exact ⟨b,off,e,Nat.lt_of_lt_of_le hlt hb.size,fun i hi=>(hb.cell (p:=⟨b,_,none⟩) hlt).trans (hat i hi)⟩
theorem zEw {w:World} {base:Nat} {v:Value} {l:List Int} (h:w.ownsRow base 3 1 v l.length (zAE l)):zBM w v l:=by
 rcases h.2 with ⟨rfl,h0⟩ | ⟨g,cap,cur,rfl,hb,hg,hnc,hcm,hcs,htake⟩
 ·have:l=[]:=by simpa using h0
  subst this;exact ⟨none,0,rfl,Nat.le_refl _,fun _=>⟨rfl,rfl⟩,fun h=>absurd rfl h⟩
 ·refine ⟨_,cap,rfl,hnc,fun h=>by simp at h,fun _=>⟨g,0,rfl,(Array.getElem?_eq_some_iff.1 hg).1,fun i hi=>?_⟩⟩
  rw [Nat.zero_add,h.cellAt i (by omega)]
  simp [zAE,List.getD_eq_getElem?_getD,hi]
theorem zM8 (va vr sv lv:Value) (m:Mo) (w:World) (hB:0 < w.heap.size) (hT:zAJ w) (hV:zAU w va vr m) (hm:mcode m≠0) :
  Calls Tryz.prog 21 #[.agg #[va,vr],.agg #[sv,lv]] w fun e w'=>e=.returned (.tuple #[.bool false,.int .i64 (mcode m)])/\Below w.heap.size w w':=by
 obtain ⟨W2,hW2⟩:∃ W2,W2=(w.alloc (.cells #[va,vr] 31)).alloc (.cells #[sv,lv] 38):=⟨_,rfl⟩
 have hb2:Below w.heap.size w W2:=by rw [hW2];exact ((Below.refl _ _).alloc (Nat.le_refl _) _).alloc (by simp) _
 have hfi:=zDg va vr m W2 (Nat.lt_of_lt_of_le hB hb2.size) (hT.below hb2 hB) (hV.below hb2);rw [if_neg hm] at hfi;obtain ⟨ao,ac,rfl⟩:=hV.1.shape;obtain ⟨ro,rc,rfl⟩:=hV.2.shape;generalize mcode m=q at *;generalize m.vars.length=vn at *;generalize m.rules.length=rn at *;clear hT hV;rw [hW2] at hfi
 go_enter Tryz.func21,Tryz.ntmps21
 go_wp2_with (go_at_call 13;refine hfi.mono ?_;rintro e w1 ⟨rfl,hb1⟩)
 go_ret2
 rw [<- hW2] at hb1;exact ⟨rfl,hb2.trans (hb1.mono hb2.size)⟩
theorem zOq (va vr sv lv:Value) (m:Mo) (ss ll:List Int) (w:World) (hB:0 < w.heap.size) (hT:zAJ w) (hV:zAU w va vr m) (hm:mcode m=0) (hS:zBM w sv ss) (hL:zBM w lv ll) (hz:ss.length+ll.length <= 1099511627775) :
  Calls Tryz.prog 21 #[.agg #[va,vr],.agg #[sv,lv]] w fun e w'=>e=.returned (.tuple #[.bool (zBb m ss ll),.int .i64 0])/\Below w.heap.size w w':=by
 obtain ⟨W2,hW2⟩:∃ W2,W2=(w.alloc (.cells #[va,vr] 31)).alloc (.cells #[sv,lv] 38):=⟨_,rfl⟩
 have hb2:Below w.heap.size w W2:=by rw [hW2];exact ((Below.refl _ _).alloc (Nat.le_refl _) _).alloc (by simp) _
 have hz2:W2.heap.size=w.heap.size+2:=by rw [hW2];simp
 have hfi:=zDg va vr m W2 (Nat.lt_of_lt_of_le hB hb2.size) (hT.below hb2 hB) (hV.below hb2);rw [if_pos hm,hm] at hfi
 have HBx:Hid (∀ w1,Below W2.heap.size W2 w1->Below w.heap.size w w1/\w.heap.size+2 <= w1.heap.size/\w1.cell? ⟨w.heap.size,0,none⟩=some va/\w1.cell? ⟨w.heap.size,1,none⟩=some vr/\w1.cell? ⟨w.heap.size+1,0,none⟩=some sv/\w1.cell? ⟨w.heap.size+1,1,none⟩=some lv):=fun w1 h=>by
  have hl:w.heap.size < W2.heap.size:=by omega
  have hl1:w.heap.size+1 < W2.heap.size:=by omega
  refine ⟨hb2.trans (h.mono hb2.size),by have:=h.size;omega,(h.cell (p:=⟨w.heap.size,0,none⟩) hl).trans ?_,(h.cell (p:=⟨w.heap.size,1,none⟩) hl).trans ?_,(h.cell (p:=⟨w.heap.size+1,0,none⟩) hl1).trans ?_,(h.cell (p:=⟨w.heap.size+1,1,none⟩) hl1).trans ?_⟩ <;> (rw [hW2];simp [go_sem])
 by_cases hl0:ll=[]
 ·subst hl0
  rw [zHt];obtain ⟨lo,lc,rfl,_⟩:=hL;obtain ⟨ao,ac,rfl⟩:=hV.1.shape;obtain ⟨ro,rc,rfl⟩:=hV.2.shape;generalize zA3 m.vars (zAv m.vars) m.vars.length=fc at *;generalize m.vars.length=vn at *;generalize m.rules.length=rn at *;clear hT hV hS hm;rw [hW2] at hfi
  go_enter Tryz.func21,Tryz.ntmps21
  go_wp2_with (go_at_call 13;refine hfi.mono ?_;rintro e w1 ⟨rfl,hb1⟩;rw [<- hW2] at hb1;obtain ⟨hbw,_,_,_,k2,k3⟩:=HBx.out w1 hb1)
  go_ret2
  exact ⟨rfl,hbw⟩
 ·have hlp:0 < ll.length:=List.length_pos_iff.2 hl0
  have HCon:Hid (∀ (g:Nat) (w1:World) (lo:Option Addr) (lc:Nat),lv=.slice lo ll.length lc->Below w.heap.size w w1->w1.cell? ⟨g,0,none⟩=some sv->w1.cell? ⟨g,1,none⟩=some lv->w1.cell? ⟨g,2,none⟩=some (.slice lo 1 lc)->Calls Tryz.prog 43 #[.slice (some ⟨g,0,none⟩) 3 3] w1 fun e w'=>∃ B cap,e=.returned (.slice (some ⟨B,0,none⟩) (rvd ss ll).length cap)/\Below w1.heap.size w1 w'/\Hid (B < w'.heap.size/\(rvd ss ll).length <= cap/\zBJ w' B 0 (rvd ss ll))):=fun g w1 lo lc hlv hb c0 c1 c2=>by
   have h:=zJR g [ss,ll,[ll.getD 0 0]] w w1 hb rfl (by rw [zGI,zDB];omega) (by rw [zGI,zDB];omega) (fun k hk=>by
    have hk3:k=0\/k=1\/k=2:=by omega
    rcases hk3 with rfl | rfl | rfl
    ·exact ⟨sv,c0,hS.w⟩
    ·exact ⟨lv,c1,hL.w⟩
    ·refine ⟨_,c2,lo,lc,rfl,fun h=>?_,fun _=>?_⟩
     ·obtain ⟨_,_,e,_,hx,_⟩:=hL
      rw [hlv] at e
      injection e with e1 _ _
      subst e1;exact absurd (hx h).2 hl0
     ·obtain ⟨_,_,e,_,_,hx⟩:=hL
      rw [hlv] at e
      injection e with e1 _ _
      subst e1;obtain ⟨b,off,e,hlt,hat⟩:=hx hl0;refine ⟨b,off,e,hlt,fun i hi=>?_⟩
      have hi0:i=0:=by simp at hi;omega
      subst hi0
      exact hat 0 hlp)
   rw [zGI] at h;refine h.mono fun e w' ⟨B,cap,e1,e2,e3⟩=>⟨B,cap,e1,e2,?_⟩
   obtain ⟨ao,cap',e4,e5,_,e6⟩:=zEw e3.out
   injection e4 with e7 _ e8
   subst e7 e8;obtain ⟨b,off,e9,e10,e11⟩:=e6 (by simp [rvd])
   injection e9 with e9
   injection e9 with e12 e13
   subst e12 e13;exact ⟨e10,e5,e11⟩
  have HLd:Hid (∀ (B cap:Nat) (w1:World),Below w.heap.size w w1->(B < w1.heap.size/\(rvd ss ll).length <= cap/\zBJ w1 B 0 (rvd ss ll))->(rvd ss ll).getD 0 0=zBq m->Calls Tryz.prog 44 #[.agg #[va,vr],.slice (some ⟨B,0,none⟩) (rvd ss ll).length cap] w1 fun e w'=>e=.returned (.bool (zBb m ss ll))/\Below w1.heap.size w1 w'):=fun B cap w1 hb h hf=>by
   rw [zHm hm hl0 hf];exact zJY va vr m B 0 cap (rvd ss ll) w1 (Nat.lt_of_lt_of_le hB hb.size) (hT.below hb hB) (hV.below hb) hm (by rw [zDB];omega) (by rw [zDB];omega) h.2.1 h.1 h.2.2 (by rw [hf];exact zC5 hm)
  have HNo:Hid ((rvd ss ll).getD 0 0≠zBq m->zBb m ss ll=false):=fun h=>zLI h
  have hrp:0 < (rvd ss ll).length:=by rw [zDB];omega
  have hfe:zA3 m.vars (zAv m.vars) m.vars.length=zBq m:=rfl;rw [hfe] at hfi;generalize zBq m=fc at *;generalize zBb m ss ll=res at *;generalize rvd ss ll=rd at *;obtain ⟨lo,lc,rfl,hlc,_⟩:=id hL;obtain ⟨so,sc,rfl,_⟩:=id hS;obtain ⟨ao,ac,rfl⟩:=hV.1.shape;obtain ⟨ro,rc,rfl⟩:=hV.2.shape;have HC1:=fun g w1=>HCon.out g w1 lo lc rfl
  have HCon:Hid _:=HC1;clear HC1;obtain ⟨rn2,hrn2⟩:∃ x,x=rd.length:=⟨_,rfl⟩
  have HRn:Hid (rn2=rd.length):=hrn2;rw [<- hrn2] at hrp HCon HLd;generalize m.vars.length=vn at *;generalize m.rules.length=rn at *;generalize ll.length=ln at *;generalize ss.length=sn at *;have hlc1:1 <= lc:=by omega
  clear hT hV hS hL hm hl0 hfe hrn2 hz;rw [hW2] at hfi
  go_enter Tryz.func21,Tryz.ntmps21
  go_wp2_with (go_at_call 13;refine hfi.mono ?_;rintro e w1 ⟨rfl,hb1⟩;rw [<- hW2] at hb1;obtain ⟨hbw,hsz,k0,k1,k2,k3⟩:=HBx.out w1 hb1)
  have hcx:=HCon.out w1.heap.size (w1.drew.alloc (.cells #[.slice so sn sc,.slice lo ln lc,.slice lo 1 lc] 27)) (hbw.drew.alloc hbw.size _) (by simp [go_sem]) (by simp [go_sem]) (by simp [go_sem])
  have HSC:Hid (∀ w',Below w1.heap.size w1 w'->w'.cell? ⟨w.heap.size+1,0,none⟩=some (.slice so sn sc)/\w'.cell? ⟨w.heap.size+1,1,none⟩=some (.slice lo ln lc)):=fun w' h=>by
   have hl:w.heap.size+1 < w1.heap.size:=by omega
   exact ⟨(h.cell (p:=⟨w.heap.size+1,0,none⟩) hl).trans k2,(h.cell (p:=⟨w.heap.size+1,1,none⟩) hl).trans k3⟩
  have hB0:Below w1.heap.size w1 w1:=Below.refl _ _
  have HM:Hid (∀ w',Below w1.heap.size w1 w'->Below w.heap.size w w'/\w'.cell? ⟨w.heap.size,0,none⟩=some (.slice ao vn ac)/\w'.cell? ⟨w.heap.size,1,none⟩=some (.slice ro rn rc)):=fun w' h=>by
   have hl:w.heap.size < w1.heap.size:=by omega
   exact ⟨hbw.trans (h.mono hbw.size),(h.cell (p:=⟨w.heap.size,0,none⟩) hl).trans k0,(h.cell (p:=⟨w.heap.size,1,none⟩) hl).trans k1⟩
  have hlc2:(1:Int) <= (lc:Int):=by omega
  clear hfi hb1
  go_region_held3 (fun w'=>w'.cell? ⟨w.heap.size+1,0,none⟩=some (.slice so sn sc)/\w'.cell? ⟨w.heap.size+1,1,none⟩=some (.slice lo ln lc))
   (first | exact HSC.out _ hb12 | exact HSC.out _ (hB0.drew.alloc hB0.drew.size _) | exact HSC.out _ hB0.drew | exact HSC.out _ hB0)
   (first
    | (go_at_call 43;refine hcx.mono ?_;rintro e w3 ⟨B,cap,rfl,hb3,HR⟩;have hb12:Below w1.heap.size w1 w3:=(hB0.drew.alloc hB0.drew.size _).trans (hb3.mono (by simp))))
  obtain ⟨hbw3,m0,m1⟩:=HM.out w3 hb12;have hR:=HR.out;have HLd3:=HLd.out B cap w3 hbw3 hR;have cz:=hR.2.2 0 (by rw [<- HRn.out];exact hrp)
  rw [Nat.zero_add] at cz;clear hR HR
  by_cases hf:rd.getD 0 0=fc
  ·have hld:=HLd3 hf
   rw [hf] at cz;clear HLd3 hf HNo
   go_wp2_with (go_at_call 44;refine hld.mono ?_;rintro e w4 ⟨rfl,hb4⟩)
   go_ret2
   exact ⟨rfl,hbw3.trans (hb4.mono hbw3.size)⟩
  ·have HNf:Hid (res=false):=HNo.out hf
   generalize rd.getD 0 0=y at *;clear HLd3
   go_wp2_with fail
   go_ret2
   exact ⟨by rw [HNf.out];first | rfl | simp [hf],hbw3⟩
theorem zIz (va vr sv lv:Value) (m:Mo) (ss ll:List Int) (w:World) (hB:0 < w.heap.size) (hT:zAJ w) (hV:zAU w va vr m) (hS:zBM w sv ss) (hL:zBM w lv ll) (hz:ss.length+ll.length <= 1099511627775) :
  Calls Tryz.prog 21 #[.agg #[va,vr],.agg #[sv,lv]] w fun e w'=>e=.returned (.tuple #[.bool (zBb m ss ll),.int .i64 (mcode m)])/\Below w.heap.size w w':=by
 by_cases hm:mcode m=0
 ·have h:=zOq va vr sv lv m ss ll w hB hT hV hm hS hL hz
  rw [hm];exact h
 ·rw [zNM hm]
  exact zM8 va vr sv lv m w hB hT hV hm
end Go.Proofs.YtnihdlgfhhdhkaaGreatDoor
namespace Go.Proofs.YtnihdlgfhhdhkaaGreatDoor
open Go.ChangeShapes Go.WideShapes Go.ChangeAt Go.RowKit Go.Deep
open Terms Tm
set_option maxHeartbeats 6400000
set_option maxRecDepth 20000
def tp0:Tm:=.bi 7 0 (.leaf 2 0) (.leaf 1 1)
def tp1:Tm:=.bi 7 0 (.leaf 2 0) (.leaf 2 1)
def tp2:Tm:=.bi 6 0 (.leaf 2 0) (.leaf 2 1)
def zAH:List (List (Int × Int)):=[[(7,0),(2,0),(1,1)],[(7,0),(2,0),(2,1)],[(6,0),(2,0),(2,1)]]
theorem zN1:tp0.Good 2:=⟨by decide,by decide,rfl,.inr (.inl ⟨rfl,by decide,by decide⟩),.inl ⟨rfl,by decide,by decide⟩⟩
theorem zNZ:tp1.Good 2:=⟨by decide,by decide,rfl,.inr (.inl ⟨rfl,by decide,by decide⟩),.inr (.inl ⟨rfl,by decide,by decide⟩)⟩
theorem zNj:tp2.Good 2:=⟨by decide,by decide,rfl,.inr (.inl ⟨rfl,by decide,by decide⟩),.inr (.inl ⟨rfl,by decide,by decide⟩)⟩
theorem zFK {T:Tm} (hg:T.Good 2) (h60:T.size <= 60) (ht:T.typed=true) (hk:mkT T.kind=true):kcode 2 T.ops true=0:=by
 rw [zDf (by decide) (by decide) hg h60 ht,if_pos hk]
theorem zKe {m:Mo} (hm:mcode m=0) (hv:m.vars.length=2):zBz m zAH=0:=by
 unfold zBz;rw [if_pos hm,if_neg (by decide)]
 refine zBC fun j hj=>?_
 rw [hv];have:j=0\/j=1\/j=2:=by simp [zAH] at hj;omega
 rcases this with rfl | rfl | rfl
 ·exact zFK zN1 (by decide) (by decide) (by decide)
 ·exact zFK zNZ (by decide) (by decide) (by decide)
 ·exact zFK zNj (by decide) (by decide) (by decide)
section
variable {a b : Vr} {w : World} {va vr pv : Value}
end
theorem zHS (w:World) (k v:Int):zAX (w.alloc (.cells #[.int .i64 k,.int .i64 v] 106)) (.slice (some ⟨w.heap.size,0,none⟩) 1 1) [(k,v)]:=by
 refine ⟨_,1,rfl,⟨Nat.le_refl _,fun h=>by cases h⟩,fun _=>⟨w.heap.size,0,rfl,by simp,fun i hi=>?_⟩⟩
 obtain rfl:i=0:=by simpa using hi
 constructor <;> simp [go_sem]
theorem zAX.al {w:World} {v:Value} {l:List (Int × Int)} (h:zAX w v l) (o:Obj):zAX (w.alloc o) v l:=h.below ((Below.refl _ _).alloc (Nat.le_refl _) o)
theorem zJW (w:World) :
  Calls Tryz.prog 11 #[] w fun e w'=>∃ pb,e=.returned (.slice (some ⟨pb,0,none⟩) 3 3)/\Below w.heap.size w w'/\zBB w' (.slice (some ⟨pb,0,none⟩) 3 3) zAH:=by
 have tk1:=True.intro;have tk2:=True.intro;have tk3:=True.intro;have hA:∀ o1 o2 o3 o4,Below w.heap.size w ((((w.alloc o1).alloc o2).alloc o3).alloc o4):=fun o1 o2 o3 o4=>((((Below.refl _ _).alloc (Nat.le_refl _) _).alloc (by simp) _).alloc (by simp;omega) _).alloc (by simp;omega) _
 have hX:∀ o2 o3 o4,zAX ((((w.alloc (.cells #[.int .i64 2,.int .i64 0] 106)).alloc o2).alloc o3).alloc o4) (.slice (some ⟨w.heap.size,0,none⟩) 1 1) [(2,0)]:=fun o2 o3 o4=>(((zHS w 2 0).al o2).al o3).al o4
 have hY:∀ o1 o3 o4,zAX ((((w.alloc o1).alloc (.cells #[.int .i64 2,.int .i64 1] 106)).alloc o3).alloc o4) (.slice (some ⟨w.heap.size+1,0,none⟩) 1 1) [(2,1)]:=fun o1 o3 o4=>by
  have:=((zHS (w.alloc o1) 2 1).al o3).al o4;rw [World.size_alloc] at this;exact this
 have hN:∀ o1 o2 o4,zAX ((((w.alloc o1).alloc o2).alloc (.cells #[.int .i64 1,.int .i64 1] 106)).alloc o4) (.slice (some ⟨w.heap.size+1+1,0,none⟩) 1 1) [(1,1)]:=fun o1 o2 o4=>by
  have:=(zHS ((w.alloc o1).alloc o2) 1 1).al o4;rw [World.size_alloc,World.size_alloc] at this;exact this
 go_enter Tryz.func11,Tryz.ntmps11
 go_wp2_with (first | (clear tk1;go_at_call 32;refine (zHR 7 _ (.slice (some ⟨w.heap.size,0,none⟩) 1 1) (.slice (some ⟨w.heap.size+1+1,0,none⟩) 1 1) [(2,0)] [(1,1)] _ (by simp [go_sem]) (by simp [go_sem]) (by simp) (by simp) (by simp) (by simp) (hX _ _ _) (hN _ _ _)).mono ?_;rintro e w5 ⟨a1,c1,rfl,hb5,hp1⟩;have hx5:=(hX _ _ _).below hb5;have hy5:=(hY _ _ _).below hb5;have hbw5:=(hA _ _ _ _).trans (hb5.mono (hA _ _ _ _).size)) | (clear tk2;go_at_call 32;refine (zHR 7 _ (.slice (some ⟨w.heap.size,0,none⟩) 1 1) (.slice (some ⟨w.heap.size+1,0,none⟩) 1 1) [(2,0)] [(2,1)] _ (by simp [go_sem]) (by simp [go_sem]) (by simp) (by simp) (by simp) (by simp) (hx5.al _) (hy5.al _)).mono ?_;rintro e w6 ⟨a2,c2,rfl,hb6,hp2⟩;have hx6:=(hx5.al _).below hb6;have hy6:=(hy5.al _).below hb6;have hq6:=(hp1.al _).below hb6) | (clear tk3;go_at_call 32;refine (zHR 6 _ (.slice (some ⟨w.heap.size,0,none⟩) 1 1) (.slice (some ⟨w.heap.size+1,0,none⟩) 1 1) [(2,0)] [(2,1)] _ (by simp [go_sem]) (by simp [go_sem]) (by simp) (by simp) (by simp) (by simp) (hx6.al _) (hy6.al _)).mono ?_;rintro e w7 ⟨a3,c3,rfl,hb7,hp3⟩;have hq7:=(hq6.al _).below hb7;have hr7:=(hp2.al _).below hb7))
 go_ret
 have h6:Below w.heap.size w w6:=(hbw5.alloc hbw5.size _).trans (hb6.mono (hbw5.alloc hbw5.size _).size);have h7:Below w.heap.size w w7:=(h6.alloc h6.size _).trans (hb7.mono (h6.alloc h6.size _).size);refine ⟨w7.heap.size,rfl,h7.alloc h7.size _,_,3,rfl,fun _=>⟨w7.heap.size,0,rfl,by simp,fun i hi=>?_⟩⟩
 have:i=0\/i=1\/i=2:=by simp [zAH] at hi;omega
 rcases this with rfl | rfl | rfl
 ·exact ⟨_,by simp [go_sem],hq7.al _⟩
 ·exact ⟨_,by simp [go_sem],hr7.al _⟩
 ·exact ⟨_,by simp [go_sem],hp3.al _⟩
