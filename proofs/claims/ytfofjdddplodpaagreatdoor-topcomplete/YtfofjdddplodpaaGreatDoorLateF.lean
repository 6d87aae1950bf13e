/- Joined texts. -/
import Derived.Test.YtfofjdddplodpaaGreatDoorLateE
namespace Go.Proofs.YtfofjdddplodpaaGreatDoor
open Go.ChangeShapes Go.WideShapes Go.ChangeAt Go.RowKit Go.Deep Go.Maps
open Terms Tm
set_option maxHeartbeats 6400000
set_option maxRecDepth 20000
section
variable {w w1 w2 : World} {base A lm : Nat} {S : List (Int × Int)} {N : List (List Int)} {T : List Int} {init many : Int} {sv nv tv nv' tv' : Value}
theorem AtX.appN {us:List Value} {r:List Int} {ao:Option Addr} {c:Nat} (h:AtX w1 base A lm S N T init many sv nv tv) (hus:w1.ownsRow base 27 1 nv N.length us/\us.length=N.length/\∀ i,i < N.length->∃ ao c,us.getD i (.slice none 0 0)=.slice ao (N.getD i []).length c/\IntsV w1 (.slice ao (N.getD i []).length c) (N.getD i [])/\RowTy w1 (.slice ao (N.getD i []).length c) 3/\∀ a,ao=some a->tv.ownBlock≠some a.block/\base <= a.block)
    (hr:IntsV w1 (.slice ao r.length c) r) (hty:RowTy w1 (.slice ao r.length c) 3) (hap:∀ a,ao=some a->tv.ownBlock≠some a.block/\base <= a.block) (hg:w1.grownBy w2 nv.ownBlock) (ho:w2.ownsRow base 27 1 nv' (N.length+1) (us++[.slice ao r.length c])):AtX (w2.setCell ⟨A,2,none⟩ nv') base A lm S (N++[r]) T init many sv nv' tv:=by
  obtain ⟨n1,n2,n3⟩:=hus;obtain ⟨es,cl,em⟩:=h.lies.isMap;have hc:Chg (fun i=>i=A\/nv.ownBlock=some i) w1 (w2.setCell ⟨A,2,none⟩ nv'):=((Chg.grown hg).weaken (fun i _ e=>.inr e)).trans2 (Chg.setCell w2 _ _) (fun i _ e=>.inl e)
  have hno:∀ i t,(i=A\/nv.ownBlock=some i)->TyB w1 i t->t=105\/t=27:=fun i t z ht=>by
    rcases z with rfl | e
    · exact .inl (ht.eq h.ty)
    · exact .inr (ht.eq (owns_ty n1 e).2)
  have hni:∀ i,(i=A\/nv.ownBlock=some i)->¬ TyB w1 i 3:=fun i z ht=>by
    rcases hno i _ z ht with e | e
    · exact absurd e (by decide)
    · exact absurd e (by decide)
  have hns:∀ i,(i=A\/nv.ownBlock=some i)->¬ TyB w1 i 109:=fun i z ht=>by
    rcases hno i _ z ht with e | e
    · exact absurd e (by decide)
    · exact absurd e (by decide)
  have hnm:∀ i,(i=A\/nv.ownBlock=some i)->i≠lm:=fun i z e=>by
    subst e
    rcases z with rfl | e
    · exact h.ty.no_map em
    · exact (owns_ty n1 e).2.no_map em
  have hbx:w2.heap[A]? = some (atB sv nv tv init many lm):=(hg.block A h.lt fun e=>by have:=h.ty.eq (owns_ty n1 e.symm).2;exact absurd this (by decide)).trans h.box
  have hA2:TyB w2 A 105:=⟨_,_,hbx⟩;refine ⟨atB_set2 w2 hbx nv',h.bA,h.bl,h.lies.kept (hc.block lm h.lies.lt (fun z=>hnm _ z rfl)),owns_chg h.sp hc (fun g e z=>hns g z (owns_ty h.sp e).2),⟨us++[.slice ao r.length c],?_,by simp [n2],fun i hi=>?_⟩,owns_chg h.st hc (fun g e z=>hni g z (owns_ty h.st e).2)⟩
  · rw [List.length_append,List.length_singleton]
    exact owns_chg ho (Chg.setCell w2 _ _) (fun g e z=>by
      have h1:=(owns_ty ho e).2;have z':g=A:=z;subst z'
      exact absurd (h1.eq hA2) (by decide))
  · have hget:∀ (α:Type) (x y:List α) (d:α) (j:Nat),(x++y).getD j d=if j < x.length then x.getD j d else y.getD (j - x.length) d:=fun α x y d j=>by
      by_cases hj:j < x.length
      · rw [if_pos hj];simp [List.getD_eq_getElem?_getD,List.getElem?_append_left hj]
      · rw [if_neg hj];simp [List.getD_eq_getElem?_getD,List.getElem?_append_right (Nat.le_of_not_lt hj)]
    by_cases hlt:i < N.length
    · obtain ⟨ao',c',e1,e2,e3,e4⟩:=n3 i hlt
      have hz:∀ a,ao'=some a->¬ (a.block=A\/nv.ownBlock=some a.block):=fun a e z=>hni _ z (by subst e;exact e3.ty)
      rw [hget,hget,n2,if_pos hlt,if_pos hlt];exact ⟨ao',c',e1,e2.chg hc hz,e3.chg hc hz,e4⟩
    · have hi2:i=N.length:=by simp at hi;omega
      have hz:∀ a,ao=some a->¬ (a.block=A\/nv.ownBlock=some a.block):=fun a e z=>hni _ z (by subst e;exact hty.ty)
      rw [hget,hget,n2,if_neg hlt,if_neg hlt,hi2,Nat.sub_self];exact ⟨ao,c,rfl,hr.chg hc hz,hty.chg hc hz,hap⟩
theorem AtX.appT {x:Int} (h:AtX w1 base A lm S N T init many sv nv tv) (hg:w1.grownBy w2 tv.ownBlock) (ho:w2.ownsRow base 3 1 tv' (T.length+1) (ivals T++[.int .i64 x])) (hown:tv'.ownBlock=tv.ownBlock\/∃ g,tv'.ownBlock=some g/\w1.heap.size <= g):AtX (w2.setCell ⟨A,3,none⟩ tv') base A lm S N (T++[x]) init many sv nv tv':=by
 obtain ⟨us,n1,n2,n3⟩:=id h.nx;obtain ⟨es,cl,em⟩:=h.lies.isMap;have hc:Chg (fun i=>i=A\/tv.ownBlock=some i) w1 (w2.setCell ⟨A,3,none⟩ tv'):=((Chg.grown hg).weaken (fun i _ e=>.inr e)).trans2 (Chg.setCell w2 _ _) (fun i _ e=>.inl e)
 have hno:∀ i t,(i=A\/tv.ownBlock=some i)->TyB w1 i t->t=105\/t=3:=fun i t z ht=>by
  rcases z with rfl | e
  ·exact .inl (ht.eq h.ty)
  ·exact .inr (ht.eq (owns_ty h.st e).2)
 have hnl:∀ i,(i=A\/tv.ownBlock=some i)->¬ TyB w1 i 27:=fun i z ht=>by
  rcases hno i _ z ht with e | e
  ·exact absurd e (by decide)
  ·exact absurd e (by decide)
 have hns:∀ i,(i=A\/tv.ownBlock=some i)->¬ TyB w1 i 109:=fun i z ht=>by
  rcases hno i _ z ht with e | e
  ·exact absurd e (by decide)
  ·exact absurd e (by decide)
 have hnm:∀ i,(i=A\/tv.ownBlock=some i)->i≠lm:=fun i z e=>by
  subst e
  rcases z with rfl | e
  ·exact h.ty.no_map em
  ·exact (owns_ty h.st e).2.no_map em
 have hbx:w2.heap[A]? = some (atB sv nv tv init many lm):=(hg.block A h.lt fun e=>by have:=h.ty.eq (owns_ty h.st e.symm).2;exact absurd this (by decide)).trans h.box
 have hA2:TyB w2 A 105:=⟨_,_,hbx⟩;refine ⟨atB_set3 w2 hbx tv',h.bA,h.bl,h.lies.kept (hc.block lm h.lies.lt (fun z=>hnm _ z rfl)),owns_chg h.sp hc (fun g e z=>hns g z (owns_ty h.sp e).2),⟨us,owns_chg n1 hc (fun g e z=>hnl g z (owns_ty n1 e).2),n2,fun i hi=>?_⟩,?_⟩
 ·obtain ⟨ao',c',e1,e2,e3,e4⟩:=n3 i hi
  have hz:∀ a,ao'=some a->¬ (a.block=A\/tv.ownBlock=some a.block):=fun a e z=>by
   rcases z with z | z
   ·subst e
    have:=e3.ty;rw [z] at this;exact absurd (this.eq h.ty) (by decide)
   ·exact (e4 a e).1 z
  refine ⟨ao',c',e1,e2.chg hc hz,e3.chg hc hz,fun a e=>⟨fun e5=>?_,(e4 a e).2⟩⟩
  rcases hown with h1 | ⟨g,h1,h2⟩
  ·rw [h1] at e5
   exact (e4 a e).1 e5
  ·rw [h1] at e5
   injection e5 with e5
   subst e;have:=e3.ty.lt;omega
 ·have e:ivals (T++[x])=ivals T++[.int .i64 x]:=by simp [ivals]
  rw [e,List.length_append,List.length_singleton]
  exact owns_chg ho (Chg.setCell w2 _ _) (fun g e z=>by
   have h1:=(owns_ty ho e).2;have z':g=A:=z;subst z'
   exact absurd (h1.eq hA2) (by decide))
end
section
variable {Pz Pz' : Nat -> Prop} {w0 w w' : World} {B bs bl n : Nat} {va vr pv fv : Value} {m : Mo} {ps : List (List (Int × Int))} {l : List (Int × Int)} {ho : Option Addr} {hc : Nat}
theorem SvOk.chg2 {Z:Nat->Prop} (h:SvOk Pz w0 w B bs bl n va vr pv fv m ps l ho hc) (hs:Chg Z w w') (hz:∀ i,Z i->w0.heap.size <= i/\i≠B/\i≠bs/\i≠bl/\¬ TyB w i 4/\(TyB w i 3->¬ Pz i)) (hp:∀ b,b < w.heap.size->Pz b->Pz' b) (hup:∀ b,w'.heap.size <= b->Pz' b):SvOk Pz' w0 w' B bs bl n va vr pv fv m ps l ho hc:=by
 have k:=h.chg hs hz;obtain ⟨f,h1,h2⟩:=h.st;have zs:¬ Z bs:=fun z=>(hz _ z).2.2.1 rfl
 refine ⟨k.box,k.bel,k.lo1,k.lo2,k.ne,k.ah,k.aty,hup,fun a e=>hp _ (by have:=h.aty;rw [e] at this;exact this.ty.lt) (h.aP a e),⟨f,h1.chg hs zs,fun kl v hv=>?_⟩,k.li⟩
 obtain ⟨code,e1,e2,e3⟩:=h2 kl v hv;obtain ⟨lo,lc,no,nc,so,sc,g1,g2,g3,g4,g5,g6,g7,g8,g9⟩:=e3.chg hs fun i z=>(hz i z).2.2.2.2
 obtain ⟨lo',lc',no',nc',so',sc',g1',_,_,_,_,g6',g7',_,_⟩:=e3;rw [g1] at g1';simp only [Value.agg.injEq,Array.mk.injEq,List.cons.injEq,Value.slice.injEq,and_true,true_and] at g1';obtain ⟨⟨rfl,rfl⟩,⟨rfl,rfl⟩,rfl,rfl⟩:=g1'
 exact ⟨code,e1,e2,lo,lc,no,nc,so,sc,g1,g2,g3,g4,g5,g6,g7,fun a e=>by subst e;exact hp _ g6'.ty.lt (g8 a rfl),fun a e=>by subst e;exact hp _ g7'.ty.lt (g9 a rfl)⟩
end
def offT (tv:Value):Nat->Prop:=fun b=>tv.ownBlock≠some b
structure ExW (w0 w:World) (base A lm B bs bl n:Nat) (va vr pv fv:Value) (m:Mo) (ps:List (List (Int × Int))) (l:List (Int × Int)) (ho:Option Addr) (hc:Nat) (S:List (Int × Int)) (N:List (List Int)) (T:List Int) (init many:Int) (sv nv tv:Value):Prop where
 su:SvOk (offT tv) w0 w B bs bl n va vr pv fv m ps l ho hc
 tl:AtX w base A lm S N T init many sv nv tv
 lo:w0.heap.size <= base/\B < base/\bs < base/\bl < base
section
variable {w0 w w' w1 w2 : World} {base A lm B bs bl n n' : Nat} {va vr pv fv : Value} {m : Mo} {ps : List (List (Int × Int))} {l : List (Int × Int)} {ho : Option Addr} {hc : Nat} {S S' : List (Int × Int)} {N : List (List Int)} {T : List Int} {init many : Int} {sv sv' nv tv nv' tv' : Value}
theorem ExW.below (h:ExW w0 w base A lm B bs bl n va vr pv fv m ps l ho hc S N T init many sv nv tv) (hb:Below w.heap.size w w'):ExW w0 w' base A lm B bs bl n va vr pv fv m ps l ho hc S N T init many sv nv tv:=⟨h.su.below hb,h.tl.below hb,h.lo⟩
theorem ExW.call (h:ExW w0 w base A lm B bs bl n va vr pv fv m ps l ho hc S N T init many sv nv tv) (hs:Sk bs bl w w') (hv:SvOk (offT tv) w0 w' B bs bl n' va vr pv fv m ps l ho hc):ExW w0 w' base A lm B bs bl n' va vr pv fv m ps l ho hc S N T init many sv nv tv:=
 ⟨hv,h.tl.sk hs h.su.two (by have:=h.tl.bl;have:=h.lo;omega) (by have:=h.tl.bl;have:=h.lo;omega),h.lo⟩
theorem ExW.far (h:ExW w0 w base A lm B bs bl n va vr pv fv m ps l ho hc S N T init many sv nv tv) {i:Nat} (hi:base <= i):w0.heap.size <= i/\i≠B/\i≠bs/\i≠bl:=by
 have:=h.lo;omega
theorem ExW.put (h:ExW w0 w base A lm B bs bl n va vr pv fv m ps l ho hc S N T init many sv nv tv) (hs:Chg (atZ A lm sv) w w') (hX:AtX w' base A lm S' N T init many sv' nv tv):ExW w0 w' base A lm B bs bl n va vr pv fv m ps l ho hc S' N T init many sv' nv tv:=by
 refine ⟨h.su.chg hs fun i z=>?_,hX,h.lo⟩
 obtain ⟨es,c,em⟩:=h.tl.lies.isMap
 rcases z with rfl | rfl | e
 ·obtain ⟨a,b,c,d⟩:=h.far h.tl.bA
  exact ⟨a,b,c,d,fun ht=>absurd (ht.eq h.tl.ty) (by decide),fun ht=>absurd (ht.eq h.tl.ty) (by decide)⟩
 ·obtain ⟨a,b,c,d⟩:=h.far h.tl.bl
  exact ⟨a,b,c,d,fun ht=>absurd em ht.no_map,fun ht=>absurd em ht.no_map⟩
 ·obtain ⟨o1,o2⟩:=owns_ty h.tl.sp e
  obtain ⟨a,b,c,d⟩:=h.far o1;exact ⟨a,b,c,d,fun ht=>absurd (ht.eq o2) (by decide),fun ht=>absurd (ht.eq o2) (by decide)⟩
theorem ExW.appN {us:List Value} {r:List Int} {ao:Option Addr} {c:Nat} (h:ExW w0 w1 base A lm B bs bl n va vr pv fv m ps l ho hc S N T init many sv nv tv) (hus:w1.ownsRow base 27 1 nv N.length us/\us.length=N.length/\∀ i,i < N.length->∃ ao c,us.getD i (.slice none 0 0)=.slice ao (N.getD i []).length c/\IntsV w1 (.slice ao (N.getD i []).length c) (N.getD i [])/\RowTy w1 (.slice ao (N.getD i []).length c) 3/\∀ a,ao=some a->tv.ownBlock≠some a.block/\base <= a.block)
  (hr:IntsV w1 (.slice ao r.length c) r) (hty:RowTy w1 (.slice ao r.length c) 3) (hap:∀ a,ao=some a->tv.ownBlock≠some a.block/\base <= a.block) (hg:w1.grownBy w2 nv.ownBlock) (ho':w2.ownsRow base 27 1 nv' (N.length+1) (us++[.slice ao r.length c])):ExW w0 (w2.setCell ⟨A,2,none⟩ nv') base A lm B bs bl n va vr pv fv m ps l ho hc S (N++[r]) T init many sv nv' tv:=by
 have hch:Chg (fun i=>i=A\/nv.ownBlock=some i) w1 (w2.setCell ⟨A,2,none⟩ nv'):=((Chg.grown hg).weaken (fun i _ e=>.inr e)).trans2 (Chg.setCell w2 _ _) (fun i _ e=>.inl e)
 refine ⟨h.su.chg hch fun i z=>?_,h.tl.appN hus hr hty hap hg ho',h.lo⟩
 rcases z with rfl | e
 ·obtain ⟨a,b,c,d⟩:=h.far h.tl.bA
  exact ⟨a,b,c,d,fun ht=>absurd (ht.eq h.tl.ty) (by decide),fun ht=>absurd (ht.eq h.tl.ty) (by decide)⟩
 ·obtain ⟨o1,o2⟩:=owns_ty hus.1 e
  obtain ⟨a,b,c,d⟩:=h.far o1;exact ⟨a,b,c,d,fun ht=>absurd (ht.eq o2) (by decide),fun ht=>absurd (ht.eq o2) (by decide)⟩
theorem ExW.appT {x:Int} (h:ExW w0 w1 base A lm B bs bl n va vr pv fv m ps l ho hc S N T init many sv nv tv) (hg:w1.grownBy w2 tv.ownBlock) (ho':w2.ownsRow base 3 1 tv' (T.length+1) (ivals T++[.int .i64 x])) (hown:tv'.ownBlock=tv.ownBlock\/∃ g,tv'.ownBlock=some g/\w1.heap.size <= g):ExW w0 (w2.setCell ⟨A,3,none⟩ tv') base A lm B bs bl n va vr pv fv m ps l ho hc S N (T++[x]) init many sv nv tv':=by
 have hch:Chg (fun i=>i=A\/tv.ownBlock=some i) w1 (w2.setCell ⟨A,3,none⟩ tv'):=((Chg.grown hg).weaken (fun i _ e=>.inr e)).trans2 (Chg.setCell w2 _ _) (fun i _ e=>.inl e)
 have hX:=h.tl.appT hg ho' hown;refine ⟨h.su.chg2 hch (fun i z=>?_) (fun b hb hp=>?_) (fun b hb e=>?_),hX,h.lo⟩
 ·rcases z with rfl | e
  ·obtain ⟨a,b,c,d⟩:=h.far h.tl.bA
   exact ⟨a,b,c,d,fun ht=>absurd (ht.eq h.tl.ty) (by decide),fun ht=>absurd (ht.eq h.tl.ty) (by decide)⟩
  ·obtain ⟨o1,o2⟩:=owns_ty h.tl.st e
   obtain ⟨a,b,c,d⟩:=h.far o1;exact ⟨a,b,c,d,fun ht=>absurd (ht.eq o2) (by decide),fun _ hp=>hp e⟩
 ·intro e
  rcases hown with h1 | ⟨g,h1,h2⟩
  ·rw [h1] at e
   exact hp e
  ·rw [h1] at e
   injection e with e
   omega
 ·have:=(owns_ty hX.st e).2.lt
  omega
end
theorem infoIL:(Tryz.prog.info? 27).map (fun i=>(i.zero,i.size,i.bytes))=some (some (.slice none 0 0),1,24):=by kernel_rfl
theorem xfo_mem {l:List (Int × Int)} {x:List Bool} {c:Int} {y:List Bool} {st:Int} {p:Int × Int}:∀ k,p∈foTo l x c y st k->p.1=st/\∃ d:Nat,d < k/\p.2=(d:Int)/\folR l x c y (d:Int)=true
 | 0,h=>by simp [foTo] at h
 | k+1,h=>by
  rw [foTo] at h
  split at h
  ·next hf=>
   rw [List.mem_append,List.mem_singleton] at h
   rcases h with h | rfl
   ·obtain ⟨h1,d,h2,h3⟩:=xfo_mem k h
    exact ⟨h1,d,by omega,h3⟩
   ·exact ⟨rfl,k,by omega,rfl,hf⟩
  ·obtain ⟨h1,d,h2,h3⟩:=xfo_mem k h
   exact ⟨h1,d,by omega,h3⟩
theorem xbe_mem {m:Mo} {ps:List (List (Int × Int))} {l:List (Int × Int)} {code c:Int} {p:Int × Int}:∀ i,i <= (nextL m code).length->p∈behTo m ps l code c i->p.1∈nextL m code/\∃ d:Nat,d < 2 ^ (aheadL l).length/\p.2=(d:Int)/\folR l (letL m ps code) c (letL m ps p.1) (d:Int)=true
 | 0,_,h=>by simp [behTo] at h
 | i+1,hi,h=>by
  rw [behTo,List.mem_append] at h
  rcases h with h | h
  ·exact xbe_mem i (by omega) h
  ·obtain ⟨h1,d,h2,h3,h4⟩:=xfo_mem _ h
   refine ⟨?_,d,h2,h3,by rw [h1];exact h4⟩
   rw [h1,List.getD_eq_getElem?_getD,List.getElem?_eq_getElem (by omega)]
   exact List.getElem_mem _
theorem behL_spot {m:Mo} {ps:List (List (Int × Int))} {l:List (Int × Int)} {code c:Int} (hm:mcode m=0) (hcr:0 <= code/\code < prodTo m.vars m.vars.length) {p:Int × Int} (h:p∈behL m ps l code c):(0 <= p.1/\p.1 < prodTo m.vars m.vars.length)/\∃ d:Nat,d < 2 ^ (aheadL l).length/\p.2=(d:Int):=by
 obtain ⟨h1,d,h2,h3,_⟩:=xbe_mem _ (Nat.le_refl _) h;exact ⟨nextL_st hm hcr h1,d,h2,h3⟩
theorem behL_len {m:Mo} {ps:List (List (Int × Int))} {l:List (Int × Int)} {code c:Int} (hm:mcode m=0) (hcr:0 <= code/\code < prodTo m.vars m.vars.length) (h6:(aheadL l).length <= 6):(behL m ps l code c).length <= 262144:=by
 have h1:=behTo_len (m:=m) (ps:=ps) (l:=l) (Nat.pow_le_pow_right (show 0 < 2 by decide) h6) code c (nextL m code).length
 have h2:=nextL_len hm hcr;unfold behL;omega
theorem spot_I64 {m:Mo} {ps:List (List (Int × Int))} {l:List (Int × Int)} (hk:tkcode m ps l=0) {p:Int × Int} (h:(0 <= p.1/\p.1 < prodTo m.vars m.vars.length)/\∃ d:Nat,d < 2 ^ (aheadL l).length/\p.2=(d:Int)):I64s p:=by
 obtain ⟨hp0,hl0⟩:=tk_zero hk;obtain ⟨hm0,_⟩:=pcode_m hp0;obtain ⟨_,_,_,_,h6⟩:=lcode_zero hl0;have hpr:=((mcode_vars hm0).prod (Nat.le_refl m.vars.length)).2;have hN64:2 ^ (aheadL l).length <= 64:=Nat.pow_le_pow_right (show 0 < 2 by decide) h6
 obtain ⟨h1,d,h2,h3⟩:=h;unfold I64s;omega
def GoPost (w0:World) (base A lm B bs bl n:Nat) (va vr pv fv:Value) (m:Mo) (ps:List (List (Int × Int))) (l:List (Int × Int)) (ho:Option Addr) (hc:Nat) (S:List (Int × Int)) (N:List (List Int)) (T:List Int) (init many:Int) (code:Int) (c:Nat) (e:Ending) (w':World):Prop:=
 e=.returned (.int .i64 (if 20000 < (plTo S (behL m ps l code (c:Int))).length then 12 else 0))/\∃ sv nv tv,Hid (ExW w0 w' base A lm B bs bl (n+300001) va vr pv fv m ps l ho hc (plTo S (behL m ps l code (c:Int))) (N++[plIx S (behL m ps l code (c:Int))]) (T++[metN l (letL m ps code) (c:Int)]) init many sv nv tv)
theorem goThrough_any (w0 w:World) (base A lm B bs bl n:Nat) (va vr pv fv:Value) (m:Mo) (ps:List (List (Int × Int))) (l:List (Int × Int)) (ho:Option Addr) (hc:Nat) (S:List (Int × Int)) (N:List (List Int)) (T:List Int) (init many:Int) (sv nv tv:Value) (code:Int) (c:Nat) (hB:0 < w0.heap.size) (hT:TabAt w0) (hV:TaskV w0 va vr pv fv m ps l) (hk:tkcode m ps l=0) (hX:ExW w0 w base A lm B bs bl n va vr pv fv m ps l ho hc S N T init many sv nv tv) (hn:n+600000 < 1000000000000) (hcr:0 <= code/\code < prodTo m.vars m.vars.length) (hcN:c < 2 ^ (aheadL l).length) (hzS:S.length <= 20000) (hzN:N.length <= 20000) (hzT:T.length <= 20000) :
  Calls Tryz.prog 31 #[.pointer (some ⟨A,0,none⟩),.pointer (some ⟨B,0,none⟩),.agg #[.int .i64 code,.int .i64 (c:Int)]] w (GoPost w0 base A lm B bs bl n va vr pv fv m ps l ho hc S N T init many code c):=by
 obtain ⟨hp0,hl0⟩:=tk_zero hk;obtain ⟨hm0,_⟩:=pcode_m hp0;obtain ⟨_,_,_,_,h6⟩:=lcode_zero hl0;have hpr:=((mcode_vars hm0).prod (Nat.le_refl m.vars.length)).2;have hI:-9223372036854775808 <= code/\code <= 9223372036854775807:=by omega
 have hbl:=behL_len (ps:=ps) (c:=(c:Int)) hm0 hcr h6;have hIs:∀ j,j < (behL m ps l code (c:Int)).length->I64s ((behL m ps l code (c:Int)).getD j (0,0)):=fun j hj=>spot_I64 hk (behL_spot hm0 hcr (c:=(c:Int)) (ps:=ps) (by rw [List.getD_eq_getElem?_getD,List.getElem?_eq_getElem hj];exact List.getElem_mem _))
 have hw0:=wcode_yes hm0 hcr;obtain ⟨W1,hW1⟩:∃ W1,W1=w.alloc (.cells #[.int .i64 code,.int .i64 (c:Int)] 109):=⟨_,rfl⟩
 have hb1:Below w.heap.size w W1:=by rw [hW1];exact (Below.refl _ _).alloc (Nat.le_refl _) _
 have hs1:W1.cell? ⟨w.heap.size,0,none⟩=some (.int .i64 code)/\W1.cell? ⟨w.heap.size,1,none⟩=some (.int .i64 (c:Int)):=by rw [hW1];constructor <;> simp [go_sem]
 have hX1:=hX.below hb1
 have hbe:Calls Tryz.prog 56 #[.pointer (some ⟨B,0,none⟩),.agg #[.int .i64 code,.int .i64 (c:Int)]] W1 fun e w2=>∃ so sc,e=.returned (.tuple #[.slice so (behL m ps l code (c:Int)).length sc,.int .i64 0])/\(w2.cell? ⟨w.heap.size,0,none⟩=some (.int .i64 code)/\w2.cell? ⟨w.heap.size,1,none⟩=some (.int .i64 (c:Int)))/\Hid (ExW w0 w2 base A lm B bs bl (n+300000) va vr pv fv m ps l ho hc S N T init many sv nv tv/\SpO w2 W1.heap.size (.slice so (behL m ps l code (c:Int)).length sc) (behL m ps l code (c:Int))):=
  (behind_in w0 W1 B bs bl n va vr pv fv m ps l ho hc code c hI hB hT hV hk hX1.su (by omega) hcr hcN).mono fun e w2 ⟨h1,h2,h3⟩=>by
   rcases h3 with ⟨_,so,sc,h4,h5⟩ | ⟨h4,_⟩
   ·exact ⟨so,sc,h4,⟨h1.cell hX1.su.two hs1.1,h1.cell hX1.su.two hs1.2⟩,hX1.call h1 h2.out,h5.out⟩
   ·exact absurd hw0 h4
 have HMe:Hid (∀ w2,ExW w0 w2 base A lm B bs bl (n+300000) va vr pv fv m ps l ho hc S N T init many sv nv tv->Calls Tryz.prog 57 #[.pointer (some ⟨B,0,none⟩),.agg #[.int .i64 code,.int .i64 (c:Int)]] w2 fun e w3=>e=.returned (.tuple #[.int .i64 (metN l (letL m ps code) (c:Int)),.int .i64 0])/\Hid (ExW w0 w3 base A lm B bs bl (n+300001) va vr pv fv m ps l ho hc S N T init many sv nv tv/\∀ so sc,SpO w2 W1.heap.size (.slice so (behL m ps l code (c:Int)).length sc) (behL m ps l code (c:Int))->SpO w3 W1.heap.size (.slice so (behL m ps l code (c:Int)).length sc) (behL m ps l code (c:Int)))):=fun w2 hx=>
  (meets_in w0 w2 B bs bl (n+300000) va vr pv fv m ps l ho hc code c hI hB hT hV hk hx.su (by omega) hcr hcN).mono fun e w3 ⟨h1,h2,h3⟩=>⟨h1,hx.call h2 h3.out,fun so sc h=>h.sk h2 hx.su.two⟩
 have HPl:Hid (∀ w3 so sc,ExW w0 w3 base A lm B bs bl (n+300001) va vr pv fv m ps l ho hc S N T init many sv nv tv->SpO w3 W1.heap.size (.slice so (behL m ps l code (c:Int)).length sc) (behL m ps l code (c:Int))->Calls Tryz.prog 30 #[.pointer (some ⟨A,0,none⟩),.slice so (behL m ps l code (c:Int)).length sc] w3.drew fun e w4=>e=.returned (.slice (some ⟨w3.heap.size,0,none⟩) (behL m ps l code (c:Int)).length (behL m ps l code (c:Int)).length)/\∃ us sv',w4.cell? ⟨A,2,none⟩=some nv/\(w4.alloc (.cells #[.slice (some ⟨w3.heap.size,0,none⟩) (behL m ps l code (c:Int)).length (behL m ps l code (c:Int)).length] 27)).cell? ⟨A,2,none⟩=some nv/\(w4.alloc (.cells #[.slice (some ⟨w3.heap.size,0,none⟩) (behL m ps l code (c:Int)).length (behL m ps l code (c:Int)).length] 27)).ownsRow base 27 1 nv N.length us/\base <= (w4.alloc (.cells #[.slice (some ⟨w3.heap.size,0,none⟩) (behL m ps l code (c:Int)).length (behL m ps l code (c:Int)).length] 27)).heap.size/\Hid (∀ g cap w9,World.ownsRow w9 base 27 1 (.slice (some ⟨g,0,none⟩) (N.length+1) cap) (N.length+1) (us++[.slice (some ⟨w3.heap.size,0,none⟩) (behL m ps l code (c:Int)).length (behL m ps l code (c:Int)).length])->(w4.alloc (.cells #[.slice (some ⟨w3.heap.size,0,none⟩) (behL m ps l code (c:Int)).length (behL m ps l code (c:Int)).length] 27)).grownBy w9 nv.ownBlock->(w9.cell? ⟨A,2,none⟩=some nv/\w9.frozen? ⟨A,2,none⟩=false)/\ExW w0 (w9.setCell ⟨A,2,none⟩ (.slice (some ⟨g,0,none⟩) (N.length+1) cap)) base A lm B bs bl (n+300001) va vr pv fv m ps l ho hc (plTo S (behL m ps l code (c:Int))) (N++[plIx S (behL m ps l code (c:Int))]) T init many sv' (.slice (some ⟨g,0,none⟩) (N.length+1) cap) tv)):=fun w3 so sc hx hsp=>by
  have hbd:Below w3.heap.size w3 w3.drew:=(Below.refl _ _).drew;have hx3:=hx.below hbd;have hsp3:=hsp.later hbd (Nat.le_refl _)
  have hsep:∀ a,so=some a->¬ atZ A lm sv a.block:=fun a e z=>by
   have hge:=owns_ge hsp a _ _ (by rw [e])
   rcases z with z | z | z
   ·have:=hX1.tl.lt;omega
   ·have:=hX1.tl.lies.lt;omega
   ·have:=(owns_ty hX1.tl.sp z).2.lt;omega
  refine (places_any w3.drew base A lm S N T init many sv nv tv _ so sc hx3.tl hsp3.v hsep hIs (by omega)).mono fun e w4 ⟨h1,sv',h2,h3,h4,h5,h6⟩=>?_
  have hx4:=hx3.put h5 h2;have hba:Below w4.heap.size w4 (w4.alloc (.cells #[.slice (some ⟨w3.heap.size,0,none⟩) (behL m ps l code (c:Int)).length (behL m ps l code (c:Int)).length] 27)):=(Below.refl _ _).alloc (Nat.le_refl _) _;have hx5:=hx4.below hba;obtain ⟨us,hus⟩:=id hx5.tl.nx;have hbs3:base <= w3.heap.size:=hx.tl.base_le
  refine ⟨h1,us,sv',(atB_cells hx4.tl.box).2.2.1,(atB_cells hx5.tl.box).2.2.1,hus.1,hx5.tl.base_le,fun g cap w9 g1 g2=>⟨?_,?_⟩⟩
  ·have hbx:w9.heap[A]? = some (atB sv' nv tv init many lm):=(g2.block A hx5.tl.lt fun e=>by have:=hx5.tl.ty.eq (owns_ty hus.1 e.symm).2;exact absurd this (by decide)).trans hx5.tl.box
   exact ⟨(atB_cells hbx).2.2.1,atB_free hbx 2⟩
  ·have e:(behL m ps l code (c:Int)).length=(plIx S (behL m ps l code (c:Int))).length:=(plIx_len _ _).symm
   have hr5:=h3.below hba;have ht5:=h4.below hba;have hr6:IntsV (w4.alloc (.cells #[.slice (some ⟨w3.heap.size,0,none⟩) (behL m ps l code (c:Int)).length (behL m ps l code (c:Int)).length] 27)) (.slice (some ⟨w3.heap.size,0,none⟩) (plIx S (behL m ps l code (c:Int))).length (behL m ps l code (c:Int)).length) (plIx S (behL m ps l code (c:Int))):=by rw [<- e];exact hr5
   have ht6:RowTy (w4.alloc (.cells #[.slice (some ⟨w3.heap.size,0,none⟩) (behL m ps l code (c:Int)).length (behL m ps l code (c:Int)).length] 27)) (.slice (some ⟨w3.heap.size,0,none⟩) (plIx S (behL m ps l code (c:Int))).length (behL m ps l code (c:Int)).length) 3:=by rw [<- e];exact ht5
   refine hx5.appN hus hr6 ht6 (fun a ea=>?_) g2 (by rw [<- e];exact g1)
   injection ea with ea
   subst ea;refine ⟨fun e2=>?_,hbs3⟩
   have:=(owns_ty hx.tl.st e2).2.lt;simp only at this
   omega
 clear hX hX1 hT hV hk hp0 hl0 hm0 hIs hw0;unfold GoPost;generalize behL m ps l code (c:Int)=beh at *;generalize metN l (letL m ps code) (c:Int)=mt at *;have HPn:Hid (∀ w' sv nv tv N T n,ExW w0 w' base A lm B bs bl n va vr pv fv m ps l ho hc (plTo S beh) N T init many sv nv tv->∃ vo vc,sv=.slice vo (plTo S beh).length vc):=fun w' sv nv tv N T n h=>h.tl.sp.shape
 have hpn:(plTo S beh).length <= 300000:=by have:=(plTo_length beh S).2;omega
 generalize plTo S beh=PS at *;generalize plIx S beh=PI at *;generalize hbn:beh.length=bn at *;have HTs:Hid (∀ w' sv nv n S N,ExW w0 w' base A lm B bs bl n va vr pv fv m ps l ho hc S N T init many sv nv tv->∃ xo xc,tv=.slice xo T.length xc):=fun w' sv nv n S N h=>owns_slice h.tl.st
 have HNs:Hid (∀ w',ExW w0 w' base A lm B bs bl (n+300000) va vr pv fv m ps l ho hc S N T init many sv nv tv->∃ xo xc,nv=.slice xo N.length xc):=fun w' h=>by
  obtain ⟨us,h1,_⟩:=h.tl.nx;exact owns_slice h1
 obtain ⟨i0,hi,hz0,hz1,hz2⟩:=info_parts infoIL;obtain ⟨j0,hj,jz0,jz1,jz2⟩:=info_parts infoInt
 go_enter Tryz.func31,Tryz.ntmps31
 go_upto_region 7 with (first | (go_at_call 56;rw [<- hW1];refine hbe.mono ?_;rintro e w2 ⟨so,sc,rfl,⟨b0,b1⟩,HX2⟩;have hme:=HMe.out w2 HX2.out.1) | (go_at_call 57;refine hme.mono ?_;rintro e w3 ⟨rfl,HX3⟩))
 have hpl:=HPl.out w3 so sc HX3.out.1 (HX3.out.2 so sc HX2.out.2);have a2:w3.cell? ⟨A,2,none⟩=some nv:=(atB_cells HX3.out.1.tl.box).2.2.1;obtain ⟨no,nc,rfl⟩:=HNs.out w2 HX2.out.1;clear hbe hme HMe HPl HX2 HX3 HNs hs1 b0 b1
 go_cut [] (fun wx=>∃ sv' nv',Hid (ExW w0 wx base A lm B bs bl (n+300001) va vr pv fv m ps l ho hc PS (N++[PI]) T init many sv' nv' tv))
 case first=>
  go_region_law (first
   | (refine step_append_lies _ (by rfl) (.tmp 33) (.tmp 37) 54 (by rfl) base 27 i0 _ 1 24 Tryz.underlying54 hi hz0 hz1 hz2 (by rfl) (by decide) (.slice no N.length nc) N.length us (by rfl) hown4 ⟨w4.heap.size,0,none⟩ 1 1 [.slice (some ⟨w3.heap.size,0,none⟩) bn bn] (by rfl) (by rfl) (cell_one_new _ _ _) (by intro u hu;simp at hu;subst hu;rfl) (by decide) (by unfold maxLen;omega) (by omega) hba4 _ rfl ?_;intro g9 cap9 w9 hown hgrow hat hlt9;obtain ⟨⟨z0,zf⟩,hx9⟩:=HN4.out g9 cap9 w9 hown hgrow;have HX9:=(show Hid _ from hx9);clear hx9 hown hgrow hat)
   | (go_simp;go_at_call 30;refine hpl.mono ?_;rintro e w4 ⟨rfl,us,sv4,y0,y1,hown4,hba4,HN4⟩))
  all_goals go_wp2_with fail
  all_goals go_meet
  all_goals exact ⟨_,_,HX9⟩
 case rest=>
  obtain ⟨sv5,nv5,HX5⟩:=hcut;obtain ⟨xo,xc,rfl⟩:=HTs.out wc sv5 nv5 _ PS _ HX5.out;obtain ⟨vo5,vc5,rfl⟩:=HPn.out wc _ _ _ _ _ _ HX5.out;have hba:Below wc.heap.size wc (wc.alloc (.cells #[.int .i64 mt] 3)):=(Below.refl _ _).alloc (Nat.le_refl _) _;have hx6:=HX5.out.below hba
  have hown6:World.ownsRow (wc.alloc (.cells #[.int .i64 mt] 3)) base 3 1 (.slice xo T.length xc) T.length (ivals T):=hx6.tl.st;have hbs6:=hx6.tl.base_le;have a3:wc.cell? ⟨A,3,none⟩=some (.slice xo T.length xc):=(atB_cells HX5.out.tl.box).2.2.2.1
  have HT6:Hid (∀ g cap w9,World.ownsRow w9 base 3 1 (.slice (some ⟨g,0,none⟩) (T.length+1) cap) (T.length+1) (ivals T++[.int .i64 mt])->(wc.alloc (.cells #[.int .i64 mt] 3)).grownBy w9 (Value.slice xo T.length xc).ownBlock->((Value.slice xo T.length xc).ownBlock=some g\/g=(wc.alloc (.cells #[.int .i64 mt] 3)).heap.size)->(w9.cell? ⟨A,3,none⟩=some (.slice xo T.length xc)/\w9.frozen? ⟨A,3,none⟩=false)/\(w9.setCell ⟨A,3,none⟩ (.slice (some ⟨g,0,none⟩) (T.length+1) cap)).cell? ⟨A,0,none⟩=some (.slice vo5 PS.length vc5)/\Hid (ExW w0 (w9.setCell ⟨A,3,none⟩ (.slice (some ⟨g,0,none⟩) (T.length+1) cap)) base A lm B bs bl (n+300001) va vr pv fv m ps l ho hc PS (N++[PI]) (T++[mt]) init many (.slice vo5 PS.length vc5) nv5 (.slice (some ⟨g,0,none⟩) (T.length+1) cap))):=fun g cap w9 h1 h2 h3=>by
   have hbx:w9.heap[A]? = some (atB (.slice vo5 PS.length vc5) nv5 (.slice xo T.length xc) init many lm):=(h2.block A hx6.tl.lt fun e=>by have:=hx6.tl.ty.eq (owns_ty hx6.tl.st e.symm).2;exact absurd this (by decide)).trans hx6.tl.box
   have hxx:=hx6.appT h2 h1 (by
    rcases h3 with h | h
    ·exact .inl (by rw [h];rfl)
    ·exact .inr ⟨g,rfl,by omega⟩)
   exact ⟨⟨(atB_cells hbx).2.2.2.1,atB_free hbx 3⟩,(atB_cells hxx.tl.box).1,hxx⟩
  clear hx6 HX5 HTs HPn
  by_cases hfull:20000 < PS.length
  ·have hfi:(20000:Int) < (PS.length:Int):=by omega
   go_wp2_with (first | (at_builtin;refine wpList_append_lies _ rfl (.tmp 47) (.tmp 49) 27 rfl base 3 j0 _ 1 8 Tryz.underlying27 hj jz0 jz1 jz2 rfl (by decide) (.slice xo T.length xc) T.length (ivals T) rfl hown6 ⟨wc.heap.size,0,none⟩ 1 1 [.int .i64 mt] rfl rfl (cell_one_new _ _ _) (by intro u hu;simp at hu;subst hu;rfl) (by decide) (by unfold maxLen;omega) (by omega) hbs6 _ rfl ?_;intro g9 cap9 w9 hown hgrow hat hlt9;obtain ⟨⟨z0,zf⟩,z1,HX9⟩:=HT6.out g9 cap9 w9 hown hgrow hat;clear hown hgrow hat))
   go_ret
   exact ⟨by first | rfl | simp [hfull],_,_,_,HX9⟩
  ·have hfi:¬ (20000:Int) < (PS.length:Int):=by omega
   go_wp2_with (first | (at_builtin;refine wpList_append_lies _ rfl (.tmp 47) (.tmp 49) 27 rfl base 3 j0 _ 1 8 Tryz.underlying27 hj jz0 jz1 jz2 rfl (by decide) (.slice xo T.length xc) T.length (ivals T) rfl hown6 ⟨wc.heap.size,0,none⟩ 1 1 [.int .i64 mt] rfl rfl (cell_one_new _ _ _) (by intro u hu;simp at hu;subst hu;rfl) (by decide) (by unfold maxLen;omega) (by omega) hbs6 _ rfl ?_;intro g9 cap9 w9 hown hgrow hat hlt9;obtain ⟨⟨z0,zf⟩,z1,HX9⟩:=HT6.out g9 cap9 w9 hown hgrow hat;clear hown hgrow hat))
   go_ret
   exact ⟨by first | rfl | simp [hfull],_,_,_,HX9⟩
variable {Pz : Nat -> Prop}
theorem SvOk.made {w0 w w':World} {n:Nat} {va vr pv fv:Value} {m:Mo} {ps:List (List (Int × Int))} {l:List (Int × Int)} {ho:Option Addr} {hc:Nat} (hb:Below w0.heap.size w0 w) (hb2:Below w.heap.size w w') (hn:w.heap.size <= n) (hs:SurvAt w' (n+2) va vr pv fv (.slice ho (aheadL l).length hc) n (n+1))
  (ho':w'.ownsRow w.heap.size 3 1 (.slice ho (aheadL l).length hc) (aheadL l).length (ivals (aheadL l))) (h1:w'.heap[n]? = some (.map #[] 0)) (h2:w'.heap[n+1]? = some (.map #[] 0)):SvOk (fun _=>True) w0 w' (n+2) n (n+1) 0 va vr pv fv m ps l ho hc:=by
 have:=hb.size;exact ⟨hs,hb.trans (hb2.mono hb.size),by omega,by omega,by omega,intsV_of_owns ho',RowTy.owns ho',fun _ _=>trivial,fun _ _=>trivial,⟨_,MapIs.new _ h1,fun kl v h=>by simp at h⟩,⟨_,MapIs.new _ h2,fun kl v h=>by simp at h⟩⟩
end Go.Proofs.YtfofjdddplodpaaGreatDoor
namespace Go.Proofs.YtfofjdddplodpaaGreatDoor
open Go.ChangeShapes Go.WideShapes Go.ChangeAt Go.RowKit Go.Deep Go.Maps
open Terms Tm
set_option maxHeartbeats 6400000
set_option maxRecDepth 20000
def spOk (m:Mo) (l:List (Int × Int)) (p:Int × Int):Prop:=(0 <= p.1/\p.1 < prodTo m.vars m.vars.length)/\∃ d:Nat,d < 2 ^ (aheadL l).length/\p.2=(d:Int)
noncomputable def xpBh (m:Mo) (ps:List (List (Int × Int))) (l:List (Int × Int)) (p:Int × Int):List (Int × Int):=behL m ps l p.1 p.2
noncomputable def xpP (m:Mo) (ps:List (List (Int × Int))) (l:List (Int × Int)) (k:Nat):List (Int × Int):=exS (begL m ps l) (xpBh m ps l) k
noncomputable def xpAt (m:Mo) (ps:List (List (Int × Int))) (l:List (Int × Int)) (k:Nat):Int × Int:=(xpP m ps l k).getD k (0,0)
noncomputable def xpN (m:Mo) (ps:List (List (Int × Int))) (l:List (Int × Int)):Nat->List (List Int)
 | 0=>[]
 | k+1=>xpN m ps l k++[plIx (xpP m ps l k) (xpBh m ps l (xpAt m ps l k))]
noncomputable def xpT (m:Mo) (ps:List (List (Int × Int))) (l:List (Int × Int)):Nat->List Int
 | 0=>[]
 | k+1=>xpT m ps l k++[metN l (letL m ps (xpAt m ps l k).1) (xpAt m ps l k).2]
section
variable {m : Mo} {ps : List (List (Int × Int))} {l : List (Int × Int)}
theorem xpP_succ (k:Nat):xpP m ps l (k+1)=plTo (xpP m ps l k) (xpBh m ps l (xpAt m ps l k)):=rfl
theorem xpN_len:∀ k,(xpN m ps l k).length=k
 | 0=>rfl
 | k+1=>by rw [xpN,List.length_append,xpN_len k];rfl
theorem xpT_len:∀ k,(xpT m ps l k).length=k
 | 0=>rfl
 | k+1=>by rw [xpT,List.length_append,xpT_len k];rfl
theorem xbg_mem {p:Int × Int}:∀ k,p∈begTo m ps l k->p.1=begC m/\∃ d:Nat,d < k/\p.2=(d:Int)/\tru l (letL m ps (begC m)) (d:Int) 0≠true
 | 0,h=>by simp [begTo] at h
 | k+1,h=>by
  rw [begTo] at h
  split at h
  ·obtain ⟨h1,d,h2,h3⟩:=xbg_mem k h
   exact ⟨h1,d,by omega,h3⟩
  ·next hf=>
   rw [List.mem_append,List.mem_singleton] at h
   rcases h with h | rfl
   ·obtain ⟨h1,d,h2,h3⟩:=xbg_mem k h
    exact ⟨h1,d,by omega,h3⟩
   ·exact ⟨rfl,k,by omega,rfl,hf⟩
theorem begL_spot (hk:tkcode m ps l=0) {p:Int × Int} (h:p∈begL m ps l):spOk m l p:=by
 obtain ⟨h1,d,h2,h3,_⟩:=xbg_mem _ h;exact ⟨by rw [h1];exact tk_beg hk,d,h2,h3⟩
theorem xpBh_spot (hk:tkcode m ps l=0) {s p:Int × Int} (hs:spOk m l s) (h:p∈xpBh m ps l s):spOk m l p:=behL_spot (pcode_m (tk_zero hk).1).1 hs.1 h
theorem xpP_zero (hk:tkcode m ps l=0):∀ p∈xpP m ps l 0,spOk m l p:=fun p hp=>by
 rcases (plTo_iff _ _ _).1 hp with h | h
 ·exact absurd h List.not_mem_nil
 ·exact begL_spot hk h
theorem xpAt_mem {k:Nat} (h:k < (xpP m ps l k).length):xpAt m ps l k∈xpP m ps l k:=by
 unfold xpAt;rw [List.getD_eq_getElem?_getD,List.getElem?_eq_getElem h]
 exact List.getElem_mem _
theorem xpP_next (hk:tkcode m ps l=0) {k:Nat} (hl:k < (xpP m ps l k).length) (h:∀ p∈xpP m ps l k,spOk m l p):∀ p∈xpP m ps l (k+1),spOk m l p:=fun p hp=>by
 rw [xpP_succ] at hp
 rcases (plTo_iff _ _ _).1 hp with h1 | h1
 ·exact h p h1
 ·exact xpBh_spot hk (h _ (xpAt_mem hl)) h1
end
def ExDone (m:Mo) (ps:List (List (Int × Int))) (l:List (Int × Int)) (K:Nat):Prop:=(xpP m ps l K).length=K/\K <= 20000/\(∀ j,j < K->j < (xpP m ps l j).length)/\∀ p∈xpP m ps l K,spOk m l p
def ExFull (m:Mo) (ps:List (List (Int × Int))) (l:List (Int × Int)):Prop:=∃ k,(∀ j,j <= k->j < (xpP m ps l j).length)/\20000 < (xpP m ps l (k+1)).length
def GrX (w:World) (base:Nat) (m:Mo) (ps:List (List (Int × Int))) (l:List (Int × Int)) (K:Nat) (sv nv tv:Value):Prop:=SpO w base sv (xpP m ps l K)/\LsAt w base nv tv (xpN m ps l K)/\w.ownsRow base 3 1 tv (xpT m ps l K).length (ivals (xpT m ps l K))
def ExAns (w:World) (m:Mo) (ps:List (List (Int × Int))) (l:List (Int × Int)) (e:Ending) (w':World):Prop:=
 (tkcode m ps l=0/\∃ K,ExDone m ps l K/\∃ sv nv tv,e=.returned (.tuple #[.agg #[sv,.int .i64 ((begL m ps l).length:Nat),nv,tv,.int .i64 ((aheadL l).length:Nat)],.int .i64 0])/\Below w.heap.size w w'/\Hid (GrX w' w.heap.size m ps l K sv nv tv))\/
 (tkcode m ps l=0/\ExFull m ps l/\e=.returned (.tuple #[.agg #[.slice none 0 0,.int .i64 0,.slice none 0 0,.slice none 0 0,.int .i64 0],.int .i64 12])/\Below w.heap.size w w')\/
 (tkcode m ps l≠0/\e=.returned (.tuple #[.agg #[.slice none 0 0,.int .i64 0,.slice none 0 0,.slice none 0 0,.int .i64 0],.int .i64 (tkcode m ps l)])/\Below w.heap.size w w')
theorem ex_not_both {m:Mo} {ps:List (List (Int × Int))} {l:List (Int × Int)} {K:Nat} (h:ExDone m ps l K):¬ ExFull m ps l:=by
 rintro ⟨k,h1,h2⟩
 obtain ⟨d1,d2,_,_⟩:=h
 by_cases hk:k+1 <= K
 ·have:=(exS_le (begL m ps l) (xpBh m ps l) hk).length_le
  unfold xpP at h2 d1;omega
 ·have:=h1 K (by omega)
  omega
def grB (sv nv tv:Value) (init many:Int):Obj:=.cells #[sv,.int .i64 init,nv,tv,.int .i64 many] 56 (0,0)
section
variable {w w' : World} {X : Nat} {sv nv tv : Value} {init many : Int}
theorem grB_cells (hb:w.heap[X]? = some (grB sv nv tv init many)):w.cell? ⟨X,0,none⟩=some sv/\w.cell? ⟨X,1,none⟩=some (.int .i64 init)/\w.cell? ⟨X,2,none⟩=some nv/\w.cell? ⟨X,3,none⟩=some tv/\w.cell? ⟨X,4,none⟩=some (.int .i64 many):=by
 unfold grB at hb;refine ⟨?_,?_,?_,?_,?_⟩ <;> simp [World.cell?,hb]
theorem grB_free (hb:w.heap[X]? = some (grB sv nv tv init many)) (i:Nat):w.frozen? ⟨X,i,none⟩=false:=by
 unfold grB at hb;simp [World.frozen?,hb]
theorem chg_box (w:World) (X:Nat) (a b c d e:Value):Chg (fun i=>i=X) w (((((w.setCell ⟨X,0,none⟩ a).setCell ⟨X,1,none⟩ b).setCell ⟨X,2,none⟩ c).setCell ⟨X,3,none⟩ d).setCell ⟨X,4,none⟩ e):=
 (((((Chg.setCell w ⟨X,0,none⟩ a).trans (Chg.setCell _ ⟨X,1,none⟩ b)).trans (Chg.setCell _ ⟨X,2,none⟩ c)).trans (Chg.setCell _ ⟨X,3,none⟩ d)).trans (Chg.setCell _ ⟨X,4,none⟩ e))
theorem GrX.chg {base K:Nat} {m:Mo} {ps:List (List (Int × Int))} {l:List (Int × Int)} (h:GrX w base m ps l K sv nv tv) (hs:Chg (fun i=>i=X) w w') (ht:TyB w X 56):GrX w' base m ps l K sv nv tv:=by
 obtain ⟨h1,h2,h3⟩:=h;obtain ⟨us,n1,_⟩:=id h2;have hno:∀ g t,TyB w g t->t≠56->g≠X:=fun g t hg hn e=>hn (hg.eq (e ▸ ht))
 exact ⟨owns_chg h1 hs (fun g e=>hno g _ (owns_ty h1 e).2 (by decide)),h2.chg hs (fun i z=>⟨fun e=>hno i _ (owns_ty n1 e).2 (by decide) z,fun _ _ _ _ _ hi=>hno i _ hi (by decide) z⟩),owns_chg h3 hs (fun g e=>hno g _ (owns_ty h3 e).2 (by decide))⟩
theorem LsAt.mono {base base':Nat} {N:List (List Int)} (h:LsAt w base nv tv N) (hb:base' <= base):LsAt w base' nv tv N:=by
 obtain ⟨us,h1,h2,h3⟩:=h;refine ⟨us,owns_mono h1 hb,h2,fun i hi=>?_⟩
 obtain ⟨ao,c,e1,e2,e3,e4⟩:=h3 i hi;exact ⟨ao,c,e1,e2,e3,fun a e=>⟨(e4 a e).1,Nat.le_trans hb (e4 a e).2⟩⟩
end
end Go.Proofs.YtfofjdddplodpaaGreatDoor
namespace Go.Proofs.YtfofjdddplodpaaGreatDoor
open Go.ChangeShapes Go.WideShapes Go.ChangeAt Go.RowKit Go.Deep
open Terms
set_option maxHeartbeats 6400000
set_option maxRecDepth 20000
def clmTo (a:List Int) (h:Nat->Nat->Bool) (j:Nat):Nat->Int
 | 0=>0
 | k+1=>clmTo a h j k+if h (a.getD k 0).toNat j=true then 2 ^ k else 0
theorem clmTo_bounds (a:List Int) (h:Nat->Nat->Bool) (j:Nat):∀ k,0 <= clmTo a h j k/\clmTo a h j k < 2 ^ k:=by
 intro k
 induction k with
 | zero=>simp [clmTo]
 | succ k ih=>
  have h2:(0:Int) < 2 ^ k:=Int.pow_pos (by decide)
  simp only [clmTo];rw [Int.pow_succ]
  split <;> omega
end Go.Proofs.YtfofjdddplodpaaGreatDoor
namespace Go.Proofs.YtfofjdddplodpaaGreatDoor
open Terms
set_option maxHeartbeats 6400000
set_option maxRecDepth 20000
theorem bit_clm (a:List Int) (h:Nat->Nat->Bool) (j:Nat):∀ n k,k < n->bitB (clmTo a h j n) k=h (a.getD k 0).toNat j:=by
 intro n
 induction n with
 | zero=>intro k hk;omega
 | succ n ih=>
  intro k hk;obtain ⟨b0,b1⟩:=clmTo_bounds a h j n;have hp:(0:Int) < 2 ^ k:=Int.pow_pos (by decide)
  by_cases e:k=n
  ·subst e
   have e1:clmTo a h j (k+1)=clmTo a h j k+if h (a.getD k 0).toNat j=true then 2 ^ k else 0:=rfl
   by_cases hb:h (a.getD k 0).toNat j=true
   ·rw [if_pos hb] at e1
    have:(clmTo a h j k+2 ^ k) / 2 ^ k=1:=by
     rw [show clmTo a h j k+2 ^ k=clmTo a h j k+1*2 ^ k by omega,Int.add_mul_ediv_right _ _ (by omega),Int.ediv_eq_zero_of_lt b0 b1]
     rfl
    rw [hb,e1];unfold bitB;rw [this];rfl
   ·rw [if_neg hb,Int.add_zero] at e1
    rw [e1,Bool.eq_false_iff.2 hb];unfold bitB;rw [Int.ediv_eq_zero_of_lt b0 b1];rfl
  ·have hkn:k < n:=by omega
   rw [<- ih k hkn];have e1:clmTo a h j (n+1)=clmTo a h j n+if h (a.getD n 0).toNat j=true then 2 ^ n else 0:=rfl
   by_cases hb:h (a.getD n 0).toNat j=true
   ·rw [if_pos hb] at e1
    obtain ⟨d,hd⟩:∃ d,n=k+1+d:=⟨n - (k+1),by omega⟩
    have e2:(2:Int) ^ n=(2*2 ^ d)*2 ^ k:=by rw [hd,Int.pow_add,Int.pow_succ];simp [Int.mul_comm,Int.mul_left_comm,Int.mul_assoc]
    have e3:clmTo a h j (n+1) / 2 ^ k % 2=clmTo a h j n / 2 ^ k % 2:=by
     rw [e1,e2,Int.add_mul_ediv_right _ _ (by omega)]
     omega
    unfold bitB;rw [e3]
   ·rw [if_neg hb,Int.add_zero] at e1
    rw [e1]
theorem op_at {T:Tm} {l:List (Int × Int)} (ho:T.ops=l) {q:Nat} (hq:q < T.size):l.getD q (0,0)=((T.sub q).kind,(T.sub q).val):=by
 obtain ⟨r,hr⟩:=Tm.sub_drop T q hq;rw [ho] at hr;have h0:l.getD q (0,0)=(l.drop q).getD 0 (0,0):=by simp [List.getD_eq_getElem?_getD]
 rw [h0,hr,<- Tm.ops_head (T.sub q) (0,0)];have hne:=Tm.ops_ne (T.sub q)
 cases hx:(T.sub q).ops with
 | nil=>exact absurd hx hne
 | cons x s=>simp
theorem sub_one {T:Tm} {q:Nat} {k v:Int} {a:Tm} (hq:q < T.size) (e:T.sub q=.un k v a):T.sub (q+1)=a:=by
 have:=Tm.sub_sub T q 1 hq (by rw [e];have:=a.size_pos;simp [Tm.size];omega)
 rw [this,e];exact Tm.sub_zero a
theorem sub_fst {T:Tm} {q:Nat} {k v:Int} {a b:Tm} (hq:q < T.size) (e:T.sub q=.bi k v a b):T.sub (q+1)=a:=by
 have ha:=a.size_pos;have:=Tm.sub_sub T q 1 hq (by rw [e];simp [Tm.size];omega)
 rw [this,e]
 show (if 0 < a.size then a.sub 0 else b.sub (0 - a.size))=a
 rw [if_pos (by omega),Tm.sub_zero]
theorem sub_snd {T:Tm} (hw:T.Wf) {l:List (Int × Int)} (ho:T.ops=l) {q:Nat} {k v:Int} {a b:Tm} (hq:q < T.size) (e:T.sub q=.bi k v a b):T.sub (sec l q)=b:=by
 have ha:=a.size_pos;have hb:=b.size_pos;have hf:=Tm.sub_fits T hq;rw [e] at hf;simp only [Tm.size] at hf;have h1:=(Tm.end_at hw (q:=q+1) (by omega)).1
 rw [ho,sub_fst hq e] at h1;have hs:sec l q=q+(1+a.size):=by unfold sec;rw [h1];omega
 rw [hs,Tm.sub_sub T q (1+a.size) hq (by rw [e];simp only [Tm.size];omega),e,show 1+a.size=a.size+1 by omega]
 show (if a.size < a.size then a.sub a.size else b.sub (a.size - a.size))=b
 rw [if_neg (by omega),Nat.sub_self,Tm.sub_zero]
theorem line_tru {T:Tm} (hw:T.Wf) {l:List (Int × Int)} (ho:T.ops=l) (hz:endsCode (l.map Prod.fst)=0) (σ:Nat->Nat->Bool) (letter:List Bool) (i:Nat) (hl:∀ v:Int,0 <= v->letter.getD v.toNat false=σ i v.toNat) (hv:∀ q,q < l.length->(l.getD q (0,0)).1=13->0 <= (l.getD q (0,0)).2) (h8:∀ q,q < l.length->8 <= (l.getD q (0,0)).1) :
  ∀ d p,l.length <= p+d->p < l.length->tru l letter (clmTo (aheadL l) (fun q=>(T.sub q).hb σ) i (aheadL l).length) p=(T.sub p).hb σ i:=by
 have hsz:T.size=l.length:=by rw [<- Tm.ops_length,ho]
 intro d
 induction d with
 | zero=>intro p h1 h2;omega
 | succ d ih=>
  intro p h1 h2;have hq:p < T.size:=by omega
  have hop:=op_at ho hq;obtain ⟨q1,q2⟩:=part_in hz h2
  cases hb:lookB (l.getD p (0,0)).1 with
  | true=>
   rw [tru_look h2 hb]
   have hlt:(aheadTo l p).length < (aheadL l).length:=by
    have:=aheadTo_mono l (p:=p+1) (n:=l.length) (by omega)
    rw [aheadTo_yes hb,List.length_append] at this;exact this
   rw [bit_clm _ _ _ _ _ hlt];obtain ⟨p',e1,e2,e3,e4⟩:=aheadTo_get l l.length (aheadTo l p).length hlt;have e1':(aheadL l).getD (aheadTo l p).length 0=(p':Int):=e1;rw [e1']
   have:p'=p:=by
    rcases Nat.lt_trichotomy p' p with h | h | h
    ·have:=aheadTo_mono l (p:=p' + 1) (n:=p) (by omega)
     rw [aheadTo_yes e3,List.length_append] at this;simp at this;omega
    ·exact h
    ·have:=aheadTo_mono l (p:=p+1) (n:=p') (by omega)
     rw [aheadTo_yes hb,List.length_append] at this;simp at this;omega
   rw [this];rfl
  | false=>
   rw [tru_mk h2 hb (fun h=>(q2 h).1)]
   have hwf:=Tm.sub_wf hw p;rw [hop] at hb q1 q2 ⊢;have hvp:=hv p h2;rw [hop] at hvp
   cases hT:T.sub p with
   | leaf k v=>
    rw [hT] at hb hvp hwf;simp only [Tm.kind,Tm.val] at hb hvp ⊢;unfold mkB
    by_cases k13:k=13
    ·subst k13
     rw [if_pos rfl,Tm.hb_prop];exact hl v (hvp rfl)
    ·by_cases k11:k=11
     ·subst k11
      rw [Tm.hb_yes];rfl
     ·rw [Tm.hb_no _ _ _ k13 k11]
      have hpn:pn k=0:=hwf.2;have k8:k≠8:=fun e=>by rw [e] at hpn;exact absurd hpn (by decide)
      have k9:k≠9:=fun e=>by rw [e] at hpn;exact absurd hpn (by decide)
      have k10:k≠10:=fun e=>by rw [e] at hpn;exact absurd hpn (by decide)
      simp [k13,k11,k8,k9,k10]
   | un k v a=>
    have hs1:=sub_one hq hT;rw [hT] at hb hwf q1;simp only [Tm.kind,Tm.val] at hb q1 ⊢;have hpn:pn k=1:=hwf.2.1;have hok:okK k=true:=hwf.1
    have hk:k=10:=by
     have h14:¬ (14 <= k/\k <= 18):=by simpa [lookB] using hb
     unfold pn at hpn
     split at hpn
     ·omega
     ·split at hpn <;> omega
    subst hk;rw [ih (p+1) (by omega) (q1 (by rw [hpn];exact Nat.le_refl _)),hs1,Tm.hb_not]
    rfl
   | bi k v a b=>
    have hs1:=sub_fst hq hT;have hs2:=sub_snd hw ho hq hT;have h8p:=h8 p h2;rw [hop,hT] at h8p;rw [hT] at hb hwf q1 q2;simp only [Tm.kind,Tm.val] at hb q1 q2 ⊢;have hpn:pn k=2:=hwf.2.1;rw [ih (p+1) (by omega) (q1 (by omega)),ih (sec l p) (by have:=(q2 hpn).1;omega) (q2 hpn).2,hs1,hs2]
    simp only [Tm.kind] at h8p
    have hk:k=8\/k=9:=by
     have h14:¬ (14 <= k/\k <= 18):=by simpa [lookB] using hb
     unfold pn at hpn
     split at hpn
     ·omega
     ·split at hpn <;> omega
    rcases hk with rfl | rfl
    ·rw [Tm.hb_and];rfl
    ·rw [Tm.hb_or];rfl
theorem kind_cases {k:Int} (h:lookB k=true):k=14\/k=15\/k=16\/k=17\/k=18:=by
 have:14 <= k/\k <= 18:=by simpa [lookB] using h
 omega
theorem look_parts {T:Tm} (hw:T.Wf) {l:List (Int × Int)} (ho:T.ops=l) {p:Nat} (hp:p < l.length) (hb:lookB (l.getD p (0,0)).1=true) :
  (∃ k v a,(k=14\/k=17\/k=18)/\(l.getD p (0,0)).1=k/\T.sub p=.un k v a/\T.sub (p+1)=a)\/(∃ k v a b,(k=15\/k=16)/\(l.getD p (0,0)).1=k/\T.sub p=.bi k v a b/\T.sub (p+1)=a/\T.sub (sec l p)=b):=by
 have hsz:T.size=l.length:=by rw [<- Tm.ops_length,ho]
 have hq:p < T.size:=by omega
 have hop:=op_at ho hq;have hwf:=Tm.sub_wf hw p;have hk:=kind_cases hb;rw [hop] at hk ⊢
 cases hT:T.sub p with
 | leaf k v=>
  rw [hT] at hk hwf;have hpn:pn k=0:=hwf.2;simp only [Tm.kind] at hk
  exfalso
  rcases hk with rfl | rfl | rfl | rfl | rfl <;> exact absurd hpn (by decide)
 | un k v a=>
  have h1:=sub_one hq hT;rw [hT] at hk hwf;have hpn:pn k=1:=hwf.2.1;simp only [Tm.kind] at hk ⊢
  left
  refine ⟨k,v,a,?_,rfl,rfl,h1⟩
  rcases hk with rfl | rfl | rfl | rfl | rfl
  ·exact .inl rfl
  ·exact absurd hpn (by decide)
  ·exact absurd hpn (by decide)
  ·exact .inr (.inl rfl)
  ·exact .inr (.inr rfl)
 | bi k v a b=>
  have h1:=sub_fst hq hT;have h2:=sub_snd hw ho hq hT;rw [hT] at hk hwf;have hpn:pn k=2:=hwf.2.1;simp only [Tm.kind] at hk ⊢
  right
  refine ⟨k,v,a,b,?_,rfl,rfl,h1,h2⟩
  rcases hk with rfl | rfl | rfl | rfl | rfl
  ·exact absurd hpn (by decide)
  ·exact .inl rfl
  ·exact .inr rfl
  ·exact absurd hpn (by decide)
  ·exact absurd hpn (by decide)
theorem line_come {T:Tm} (hw:T.Wf) {l:List (Int × Int)} (ho:T.ops=l) (σ:Nat->Nat->Bool) {p:Nat} (hp:p < l.length) (hb:lookB (l.getD p (0,0)).1=true) (i:Nat) :
  (T.sub p).hb σ i=comeB (l.getD p (0,0)).1 ((T.sub (p+1)).hb σ i) ((T.sub (sec l p)).hb σ i) ((T.sub p).hb σ (i+1)) ((T.sub (p+1)).hb σ (i+1)):=by
 rcases look_parts hw ho hp hb with ⟨k,v,a,hk,e1,e2,e3⟩ | ⟨k,v,a,b,hk,e1,e2,e3,e4⟩
 ·rw [e1,e2,e3]
  rcases hk with rfl | rfl | rfl
  ·rw [Tm.hb_next];rfl
  ·rw [Tm.hb_fin,untB_step,<- Tm.hb_fin σ v];simp [comeB]
  ·rw [Tm.hb_glob,untB_step,<- Tm.hb_glob σ v];simp [comeB]
 ·rw [e1,e2,e3,e4]
  rcases hk with rfl | rfl
  ·rw [Tm.hb_until,untB_step,<- Tm.hb_until σ v];rfl
  ·rw [Tm.hb_rel,untB_step,<- Tm.hb_rel σ v]
   show (_||_)=(_&&(_||_))
   cases Tm.hb σ a i <;> cases Tm.hb σ b i <;> simp
theorem line_meets {T:Tm} (hw:T.Wf) {l:List (Int × Int)} (ho:T.ops=l) {ls:List (List Bool)} {s:Nat} (hs:s < ls.length) {p:Nat} (hp:p < l.length) (hb:lookB (l.getD p (0,0)).1=true) :
  ∃ i,s <= i/\i < ls.length/\waitB (l.getD p (0,0)).1 ((T.sub p).hb (sig ls s) i) ((T.sub (p+1)).hb (sig ls s) i) ((T.sub (sec l p)).hb (sig ls s) i)=false:=by
 refine Classical.byContradiction fun hno=>?_
 have hall:∀ i,s <= i->waitB (l.getD p (0,0)).1 ((T.sub p).hb (sig ls s) i) ((T.sub (p+1)).hb (sig ls s) i) ((T.sub (sec l p)).hb (sig ls s) i)=true:=fun i hi=>by
  have hm:s <= moAt s ls.length i/\moAt s ls.length i < ls.length:=⟨by unfold moAt;split <;> omega,moAt_lt hs⟩
  refine Classical.byContradiction fun hf=>hno ⟨moAt s ls.length i,hm.1,hm.2,?_⟩
  rw [hb_mo hs,hb_mo hs,hb_mo hs];exact Bool.eq_false_iff.2 hf
 rcases look_parts hw ho hp hb with ⟨k,v,a,hk,e1,e2,e3⟩ | ⟨k,v,a,b,hk,e1,e2,e3,e4⟩
 ·rw [e1,e2,e3] at hall
  rcases hk with rfl | rfl | rfl
  ·exact absurd (hall s (Nat.le_refl _)) (by simp [waitB])
  ·have h1:∀ i,s <= i->Tm.hb (sig ls s) (.un 17 v a) i=true/\Tm.hb (sig ls s) a i=false:=fun i hi=>by simpa [waitB] using hall i hi
   have h0:=(h1 s (Nat.le_refl _)).1;rw [Tm.hb_fin,untB_iff] at h0
   rcases h0 with ⟨j,hj,hu,_⟩ | ⟨hd,_⟩
   ·rw [(h1 j hj).2] at hu;cases hu
   ·cases hd
  ·have h1:∀ i,s <= i->Tm.hb (sig ls s) (.un 18 v a) i=false/\Tm.hb (sig ls s) a i=true:=fun i hi=>by simpa [waitB] using hall i hi
   have h0:=(h1 s (Nat.le_refl _)).1
   have:Tm.hb (sig ls s) (.un 18 v a) s=true:=by
    rw [Tm.hb_glob,untB_iff];exact .inr ⟨rfl,fun m hm=>(h1 m hm).2⟩
   rw [this] at h0;cases h0
 ·rw [e1,e2,e3,e4] at hall
  rcases hk with rfl | rfl
  ·have h1:∀ i,s <= i->Tm.hb (sig ls s) (.bi 15 v a b) i=true/\Tm.hb (sig ls s) b i=false:=fun i hi=>by simpa [waitB] using hall i hi
   have h0:=(h1 s (Nat.le_refl _)).1;rw [Tm.hb_until,untB_iff] at h0
   rcases h0 with ⟨j,hj,hu,_⟩ | ⟨hd,_⟩
   ·rw [(h1 j hj).2] at hu;cases hu
   ·cases hd
  ·have h1:∀ i,s <= i->Tm.hb (sig ls s) (.bi 16 v a b) i=false/\Tm.hb (sig ls s) b i=true:=fun i hi=>by simpa [waitB] using hall i hi
   have h0:=(h1 s (Nat.le_refl _)).1
   have:Tm.hb (sig ls s) (.bi 16 v a b) s=true:=by
    rw [Tm.hb_rel,untB_iff];exact .inr ⟨rfl,fun m hm=>(h1 m hm).2⟩
   rw [this] at h0;cases h0
theorem const_from {t:Nat->Bool} {i j:Nat} (h:∀ m,i <= m->m < j->t m=t (m+1)):∀ m,i <= m->m <= j->t i=t m:=by
 intro m
 induction m with
 | zero=>intro h1 _;rw [Nat.le_zero.1 h1]
 | succ m ih=>
  intro h1 h2
  by_cases e:i=m+1
  ·rw [e]
  ·rw [ih (by omega) (by omega),h m (by omega) (by omega)]
theorem unt_unique {u v t:Nat->Bool} (d:Bool) (hst:∀ i,t i=(u i||(v i&&t (i+1)))) (i:Nat):t i=untB u v d i\/∀ m,i <= m->u m=false/\v m=true/\t m=!d:=by
  by_cases hex:∃ j,i <= j/\(u j=true\/v j=false)
  · left
    obtain ⟨j0,h0,h1⟩:=hex;obtain ⟨j,hj,hp,hless⟩:=Tm.least (P:=fun j=>u j=true\/v j=false) i j0 h0 h1
    have hmid:∀ m,i <= m->m < j->u m=false/\v m=true:=fun m a b=>by
      have:=hless m a b
      constructor
      · exact Bool.eq_false_iff.2 fun e=>this (.inl e)
      · exact Classical.byContradiction fun e=>this (.inr (Bool.eq_false_iff.2 e))
    have h1:=const_from (t:=t) (i:=i) (j:=j) (fun m a b=>by have:=hmid m a b;rw [hst m,this.1,this.2];simp) j hj (Nat.le_refl _)
    have h2:=const_from (t:=untB u v d) (i:=i) (j:=j) (fun m a b=>by have:=hmid m a b;rw [untB_step u v d m,this.1,this.2];simp) j hj (Nat.le_refl _)
    rw [h1,h2,hst j,untB_step]
    rcases hp with h | h
    · rw [h];simp
    · rw [h];simp
  · have hall:∀ m,i <= m->u m=false/\v m=true:=fun m hm=>by
      constructor
      · exact Bool.eq_false_iff.2 fun e=>hex ⟨m,hm,.inl e⟩
      · exact Classical.byContradiction fun e=>hex ⟨m,hm,.inr (Bool.eq_false_iff.2 e)⟩
    have hc:∀ m,i <= m->t i=t m:=fun m hm=>const_from (t:=t) (i:=i) (j:=m) (fun k a _=>by have:=hall k a;rw [hst k,this.1,this.2];simp) m hm (Nat.le_refl _)
    by_cases e:t i=d
    · left
      rw [e,unt_stuck (u:=u) (v:=v) (d:=d) hall]
    · right
      intro m hm;refine ⟨(hall m hm).1,(hall m hm).2,?_⟩
      rw [<- hc m hm];generalize t i=x at e
      cases d <;> cases x <;> first | rfl | exact absurd rfl e
theorem line_only {T:Tm} (hw:T.Wf) {l:List (Int × Int)} (ho:T.ops=l) (hz:endsCode (l.map Prod.fst)=0) {ls:List (List Bool)} {s:Nat} (hs:s < ls.length) (t:Nat->Nat->Bool)
  (hper:∀ i p,t (moAt s ls.length i) p=t i p)
  (hmk:∀ i p,p < l.length->lookB (l.getD p (0,0)).1=false->(1 <= pn (l.getD p (0,0)).1->t i (p+1)=(T.sub (p+1)).hb (sig ls s) i)->(pn (l.getD p (0,0)).1=2->t i (sec l p)=(T.sub (sec l p)).hb (sig ls s) i)->t i p=(T.sub p).hb (sig ls s) i)
  (hfol:∀ i p,p < l.length->lookB (l.getD p (0,0)).1=true->t i p=comeB (l.getD p (0,0)).1 (t i (p+1)) (t i (sec l p)) (t (i+1) p) (t (i+1) (p+1)))
  (hmet:∀ p,p < l.length->lookB (l.getD p (0,0)).1=true->∃ i,s <= i/\i < ls.length/\waitB (l.getD p (0,0)).1 (t i p) (t i (p+1)) (t i (sec l p))=false) :
  ∀ d p,l.length <= p+d->p < l.length->∀ i,t i p=(T.sub p).hb (sig ls s) i:=by
 intro d
 induction d with
 | zero=>intro p h1 h2;omega
 | succ d ih=>
  intro p h1 h2 i;obtain ⟨q1,q2⟩:=part_in hz h2
  cases hb:lookB (l.getD p (0,0)).1 with
  | false=>exact hmk i p h2 hb (fun h=>ih (p+1) (by omega) (q1 h) i) (fun h=>ih (sec l p) (by have:=(q2 h).1;omega) (q2 h).2 i)
  | true=>
   have hnw:∀ c,(∀ m,c <= m->waitB (l.getD p (0,0)).1 (t m p) (t m (p+1)) (t m (sec l p))=true)->False:=fun c hall=>by
    obtain ⟨i0,a1,a2,a3⟩:=hmet p h2 hb
    have hj:moAt s ls.length (i0+c*(ls.length - s))=i0:=by
     unfold moAt
     split
     ·rename_i hlt
      have:c*(ls.length - s)=0:=by
       rcases Nat.eq_zero_or_pos c with h | h
       ·rw [h,Nat.zero_mul]
       ·have:ls.length - s <= c*(ls.length - s):=Nat.le_mul_of_pos_left _ h
        omega
      omega
     ·rw [show i0+c*(ls.length - s) - s=(i0 - s)+c*(ls.length - s) by omega,Nat.add_mul_mod_self_right,Nat.mod_eq_of_lt (by omega)]
      omega
    have hle:c <= i0+c*(ls.length - s):=by
     have:c*1 <= c*(ls.length - s):=Nat.mul_le_mul_left _ (by omega)
     omega
    have:=hall _ hle;rw [<- hper (i0+c*(ls.length - s)) p,<- hper (i0+c*(ls.length - s)) (p+1),<- hper (i0+c*(ls.length - s)) (sec l p),hj,a3] at this
    cases this
   rcases look_parts hw ho h2 hb with ⟨k,v,a,hk,e1,e2,e3⟩ | ⟨k,v,a,b,hk,e1,e2,e3,e4⟩
   ·have hp1:p+1 < l.length:=q1 (by rw [e1];rcases hk with rfl | rfl | rfl <;> decide)
    have ha:∀ i,t i (p+1)=Tm.hb (sig ls s) a i:=fun i=>by rw [ih (p+1) (by omega) hp1 i,e3]
    have hf:=fun i=>hfol i p h2 hb
    rw [e1] at hnw;rw [e2]
    rcases hk with rfl | rfl | rfl
    ·have:=hf i
     rw [e1] at this;rw [this,Tm.hb_next,<- ha];rfl
    ·rw [Tm.hb_fin]
     rcases unt_unique (u:=Tm.hb (sig ls s) a) (v:=fun _=>true) (t:=fun i=>t i p) false (fun i=>by show t i p=_;rw [hf i,e1,ha];rfl) i with h | h
     ·exact h
     ·exact (hnw i fun m hm=>by have:=h m hm;rw [ha,this.1,this.2.2];rfl).elim
    ·rw [Tm.hb_glob]
     rcases unt_unique (u:=fun _=>false) (v:=Tm.hb (sig ls s) a) (t:=fun i=>t i p) true (fun i=>by show t i p=_;rw [hf i,e1,ha];simp [comeB]) i with h | h
     ·exact h
     ·exact (hnw i fun m hm=>by have:=h m hm;rw [ha,this.2.1,this.2.2];rfl).elim
   ·have hp2:pn (l.getD p (0,0)).1=2:=by rw [e1];rcases hk with rfl | rfl <;> rfl
    have hp1:p+1 < l.length:=q1 (by omega)
    have ha:∀ i,t i (p+1)=Tm.hb (sig ls s) a i:=fun i=>by rw [ih (p+1) (by omega) hp1 i,e3]
    have hbb:∀ i,t i (sec l p)=Tm.hb (sig ls s) b i:=fun i=>by rw [ih (sec l p) (by have:=(q2 hp2).1;omega) (q2 hp2).2 i,e4]
    have hf:=fun i=>hfol i p h2 hb
    rw [e1] at hnw;rw [e2]
    rcases hk with rfl | rfl
    ·rw [Tm.hb_until]
     rcases unt_unique (u:=Tm.hb (sig ls s) b) (v:=Tm.hb (sig ls s) a) (t:=fun i=>t i p) false (fun i=>by show t i p=_;rw [hf i,e1,ha,hbb];rfl) i with h | h
     ·exact h
     ·exact (hnw i fun m hm=>by have:=h m hm;rw [hbb,this.1,this.2.2];cases t m (p+1) <;> rfl).elim
    ·rw [Tm.hb_rel]
     rcases unt_unique (u:=fun j=>Tm.hb (sig ls s) a j&&Tm.hb (sig ls s) b j) (v:=Tm.hb (sig ls s) b) (t:=fun i=>t i p) true (fun i=>by show t i p=_;rw [hf i,e1,ha,hbb];show (_&&(_||_))=(_||_);cases Tm.hb (sig ls s) a i <;> cases Tm.hb (sig ls s) b i <;> simp) i with h | h
     ·exact h
     ·exact (hnw i fun m hm=>by have:=h m hm;rw [hbb,this.2.1,this.2.2];cases t m (p+1) <;> rfl).elim
theorem mk_hb {T:Tm} (hw:T.Wf) {l:List (Int × Int)} (ho:T.ops=l) (σ:Nat->Nat->Bool) (letter:List Bool) (i:Nat) (hl:∀ v:Int,0 <= v->letter.getD v.toNat false=σ i v.toNat) (hv:∀ q,q < l.length->(l.getD q (0,0)).1=13->0 <= (l.getD q (0,0)).2) (h8:∀ q,q < l.length->8 <= (l.getD q (0,0)).1) {p:Nat} (h2:p < l.length) (hb:lookB (l.getD p (0,0)).1=false) {x y:Bool} (hx1:1 <= pn (l.getD p (0,0)).1->x=(T.sub (p+1)).hb σ i) (hx2:pn (l.getD p (0,0)).1=2->y=(T.sub (sec l p)).hb σ i):mkB (l.getD p (0,0)) letter x y=(T.sub p).hb σ i:=by
 have hsz:T.size=l.length:=by rw [<- Tm.ops_length,ho]
 have hq:p < T.size:=by omega
 have hop:=op_at ho hq;have hwf:=Tm.sub_wf hw p;rw [hop] at hb hx1 hx2 ⊢;have hvp:=hv p h2;rw [hop] at hvp
 cases hT:T.sub p with
 | leaf k v=>
  rw [hT] at hb hvp hwf;simp only [Tm.kind,Tm.val] at hb hvp ⊢;unfold mkB
  by_cases k13:k=13
  ·subst k13
   rw [if_pos rfl,Tm.hb_prop];exact hl v (hvp rfl)
  ·by_cases k11:k=11
   ·subst k11
    rw [Tm.hb_yes];rfl
   ·rw [Tm.hb_no _ _ _ k13 k11]
    have hpn:pn k=0:=hwf.2;have k8:k≠8:=fun e=>by rw [e] at hpn;exact absurd hpn (by decide)
    have k9:k≠9:=fun e=>by rw [e] at hpn;exact absurd hpn (by decide)
    have k10:k≠10:=fun e=>by rw [e] at hpn;exact absurd hpn (by decide)
    simp [k13,k11,k8,k9,k10]
 | un k v a=>
  have hs1:=sub_one hq hT;rw [hT] at hb hwf hx1;simp only [Tm.kind,Tm.val] at hb hx1 ⊢;have hpn:pn k=1:=hwf.2.1;have hok:okK k=true:=hwf.1
  have hk:k=10:=by
   have h14:¬ (14 <= k/\k <= 18):=by simpa [lookB] using hb
   unfold pn at hpn
   split at hpn
   ·omega
   ·split at hpn <;> omega
  subst hk;rw [hx1 (by rw [hpn];exact Nat.le_refl _),hs1,Tm.hb_not]
  rfl
 | bi k v a b=>
  have hs1:=sub_fst hq hT;have hs2:=sub_snd hw ho hq hT;have h8p:=h8 p h2;rw [hop,hT] at h8p;rw [hT] at hb hwf hx1 hx2;simp only [Tm.kind,Tm.val] at hb hx1 hx2 ⊢;have hpn:pn k=2:=hwf.2.1;rw [hx1 (by omega),hx2 hpn,hs1,hs2]
  simp only [Tm.kind] at h8p
  have hk:k=8\/k=9:=by
   have h14:¬ (14 <= k/\k <= 18):=by simpa [lookB] using hb
   unfold pn at hpn
   split at hpn
   ·omega
   ·split at hpn <;> omega
  rcases hk with rfl | rfl
  ·rw [Tm.hb_and];rfl
  ·rw [Tm.hb_or];rfl
theorem bits_eq:∀ (n:Nat) (x y:Int),0 <= x->x < 2 ^ n->0 <= y->y < 2 ^ n->(∀ k,k < n->bitB x k=bitB y k)->x=y:=by
 intro n
 induction n with
 | zero=>intro x y a b c d _;simp at b d;omega
 | succ n ih=>
  intro x y a b c d h;rw [Int.pow_succ] at b d;have h0:bitB x 0=bitB y 0:=h 0 (by omega)
  have e0:x % 2=y % 2:=by
   unfold bitB at h0;simp only [Int.pow_zero,Int.ediv_one] at h0;have hx:x % 2=0\/x % 2=1:=by omega
   have hy:y % 2=0\/y % 2=1:=by omega
   rcases hx with hx | hx <;> rcases hy with hy | hy
   ·rw [hx,hy]
   ·rw [hx,hy] at h0;simp at h0
   ·rw [hx,hy] at h0;simp at h0
   ·rw [hx,hy]
  have hh:x / 2=y / 2:=ih (x / 2) (y / 2) (by omega) (by omega) (by omega) (by omega) fun k hk=>by
   have:=h (k+1) (by omega)
   unfold bitB at this ⊢;rw [Int.pow_succ,Int.mul_comm,<- Int.ediv_ediv_of_nonneg (by decide),<- Int.ediv_ediv_of_nonneg (by decide)] at this
   exact this
  omega
theorem claims_only {T:Tm} (hw:T.Wf) {l:List (Int × Int)} (ho:T.ops=l) (hz:endsCode (l.map Prod.fst)=0) (hv:∀ q,q < l.length->(l.getD q (0,0)).1=13->0 <= (l.getD q (0,0)).2) (h8:∀ q,q < l.length->8 <= (l.getD q (0,0)).1) {ls:List (List Bool)} {s:Nat} (hs:s < ls.length) (mine:Nat->Int)
  (hm:∀ i,i < ls.length->0 <= mine i/\mine i < 2 ^ (aheadL l).length)
  (hfol:∀ i,i < ls.length->∀ p,p < l.length->lookB (l.getD p (0,0)).1=true->tru l (ls.getD i []) (mine i) p=comeB (l.getD p (0,0)).1 (tru l (ls.getD i []) (mine i) (p+1)) (tru l (ls.getD i []) (mine i) (sec l p)) (tru l (ls.getD (moAt s ls.length (i+1)) []) (mine (moAt s ls.length (i+1))) p) (tru l (ls.getD (moAt s ls.length (i+1)) []) (mine (moAt s ls.length (i+1))) (p+1)))
  (hmet:∀ p,p < l.length->lookB (l.getD p (0,0)).1=true->∃ i,s <= i/\i < ls.length/\waitB (l.getD p (0,0)).1 (tru l (ls.getD i []) (mine i) p) (tru l (ls.getD i []) (mine i) (p+1)) (tru l (ls.getD i []) (mine i) (sec l p))=false) :
  ∀ i,i < ls.length->mine i=clmTo (aheadL l) (fun q=>(T.sub q).hb (sig ls s)) i (aheadL l).length:=by
 have hmm:∀ i,moAt s ls.length (moAt s ls.length i)=moAt s ls.length i:=fun i=>moAt_low (moAt_lt hs)
 have key:=line_only hw ho hz hs (fun i p=>tru l (ls.getD (moAt s ls.length i) []) (mine (moAt s ls.length i)) p)
  (fun i p=>by simp only [hmm])
  (fun i p h2 hb hx1 hx2=>by
   obtain ⟨_,q2⟩:=part_in hz h2
   show tru _ _ _ _=_
   rw [tru_mk h2 hb (fun h=>(q2 h).1)]
   exact mk_hb hw ho (sig ls s) _ i (fun v _=>rfl) hv h8 h2 hb hx1 hx2)
  (fun i p h2 hb=>by
   have:=hfol (moAt s ls.length i) (moAt_lt hs) p h2 hb
   have e:moAt s ls.length (moAt s ls.length i+1)=moAt s ls.length (i+1):=by
    unfold moAt
    by_cases h:i < ls.length
    ·rw [if_pos h]
    ·rw [if_neg h,if_neg (show ¬ i+1 < ls.length by omega)]
     have hL:0 < ls.length - s:=by omega
     have hr:=Nat.mod_lt (i - s) hL;have e1:i+1 - s=(i - s)+1:=by omega
     rw [e1,<- Nat.mod_add_mod]
     by_cases h3:s+(i - s) % (ls.length - s)+1 < ls.length
     ·rw [if_pos h3,Nat.mod_eq_of_lt (show (i - s) % (ls.length - s)+1 < ls.length - s by omega)];omega
     ·rw [if_neg h3,show s+(i - s) % (ls.length - s)+1 - s=(i - s) % (ls.length - s)+1 by omega]
   rw [e] at this
   exact this)
  (fun p h2 hb=>by
   obtain ⟨i,a1,a2,a3⟩:=hmet p h2 hb
   exact ⟨i,a1,a2,by simp only [moAt_low a2];exact a3⟩)
 intro i hi;obtain ⟨c0,c1⟩:=clmTo_bounds (aheadL l) (fun q=>(T.sub q).hb (sig ls s)) i (aheadL l).length
 refine bits_eq _ _ _ (hm i hi).1 (hm i hi).2 c0 c1 fun k hk=>?_
 rw [bit_clm _ _ _ _ _ hk];obtain ⟨p,e1,e2,e3,e4⟩:=aheadTo_get l l.length k hk;have e1':(aheadL l).getD k 0=(p:Int):=e1;have:=key l.length p (by omega) e2 i
 simp only [moAt_low hi] at this;rw [tru_look e2 e3,e4] at this;rw [this,e1'];rfl
theorem claims_tru {T:Tm} (hw:T.Wf) {l:List (Int × Int)} (ho:T.ops=l) (hz:endsCode (l.map Prod.fst)=0) (hv:∀ q,q < l.length->(l.getD q (0,0)).1=13->0 <= (l.getD q (0,0)).2) (h8:∀ q,q < l.length->8 <= (l.getD q (0,0)).1) {ls:List (List Bool)} {s:Nat} {i:Nat} (hi:i < ls.length) {p:Nat} (hp:p < l.length) :
  tru l (ls.getD i []) (clmTo (aheadL l) (fun q=>(T.sub q).hb (sig ls s)) i (aheadL l).length) p=(T.sub p).hb (sig ls s) i:=
 line_tru hw ho hz (sig ls s) _ i (fun v _=>by unfold sig;rw [moAt_low hi]) hv h8 l.length p (by omega) hp
theorem claims_fit {T:Tm} (hw:T.Wf) {l:List (Int × Int)} (ho:T.ops=l) (hz:endsCode (l.map Prod.fst)=0) (hv:∀ q,q < l.length->(l.getD q (0,0)).1=13->0 <= (l.getD q (0,0)).2) (h8:∀ q,q < l.length->8 <= (l.getD q (0,0)).1) {ls:List (List Bool)} {s:Nat} (hs:s < ls.length) (mine:Nat->Int)
  (hm:∀ i,i < ls.length->mine i=clmTo (aheadL l) (fun q=>(T.sub q).hb (sig ls s)) i (aheadL l).length) :
  (∀ i,i < ls.length->∀ p,p < l.length->lookB (l.getD p (0,0)).1=true->tru l (ls.getD i []) (mine i) p=comeB (l.getD p (0,0)).1 (tru l (ls.getD i []) (mine i) (p+1)) (tru l (ls.getD i []) (mine i) (sec l p)) (tru l (ls.getD (moAt s ls.length (i+1)) []) (mine (moAt s ls.length (i+1))) p) (tru l (ls.getD (moAt s ls.length (i+1)) []) (mine (moAt s ls.length (i+1))) (p+1)))/\
  ∀ p,p < l.length->lookB (l.getD p (0,0)).1=true->∃ i,s <= i/\i < ls.length/\waitB (l.getD p (0,0)).1 (tru l (ls.getD i []) (mine i) p) (tru l (ls.getD i []) (mine i) (p+1)) (tru l (ls.getD i []) (mine i) (sec l p))=false:=by
 have two:∀ p,p < l.length->lookB (l.getD p (0,0)).1=true->p+1 < l.length/\((l.getD p (0,0)).1=15\/(l.getD p (0,0)).1=16->sec l p < l.length):=fun p hp hb=>by
  obtain ⟨q1,q2⟩:=part_in hz hp;have hk:=kind_cases hb;generalize (l.getD p (0,0)).1=k at *;refine ⟨q1 (by rcases hk with rfl | rfl | rfl | rfl | rfl <;> decide),fun h=>(q2 (by rcases h with rfl | rfl <;> rfl)).2⟩
 have sec_free:∀ k (x y y' z nx:Bool),lookB k=true->(k=15\/k=16->y=y')->comeB k x y z nx=comeB k x y' z nx:=fun k x y y' z nx hb h=>by
  rcases kind_cases hb with rfl | rfl | rfl | rfl | rfl
  ·rfl
  ·rw [h (.inl rfl)]
  ·rw [h (.inr rfl)]
  ·rfl
  ·rfl
 have sec_free2:∀ k (a x y y':Bool),lookB k=true->(k=15\/k=16->y=y')->waitB k a x y=waitB k a x y':=fun k a x y y' hb h=>by
  rcases kind_cases hb with rfl | rfl | rfl | rfl | rfl
  ·rfl
  ·rw [h (.inl rfl)]
  ·rw [h (.inr rfl)]
  ·rfl
  ·rfl
 refine ⟨fun i hi p hp hb=>?_,fun p hp hb=>?_⟩
 ·obtain ⟨p1,p2⟩:=two p hp hb
  have hj:=moAt_lt (s:=s) (n:=ls.length) (i:=i+1) hs;rw [hm i hi,hm _ hj,claims_tru hw ho hz hv h8 hi hp,claims_tru hw ho hz hv h8 hi p1,claims_tru hw ho hz hv h8 hj hp,claims_tru hw ho hz hv h8 hj p1,hb_mo hs,hb_mo hs];rw [sec_free _ _ _ ((T.sub (sec l p)).hb (sig ls s) i) _ _ hb (fun h=>claims_tru hw ho hz hv h8 hi (p2 h))]
  exact line_come hw ho (sig ls s) hp hb i
 ·obtain ⟨p1,p2⟩:=two p hp hb
  obtain ⟨i,a1,a2,a3⟩:=line_meets hw ho hs hp hb;refine ⟨i,a1,a2,?_⟩
  rw [hm i a2,claims_tru hw ho hz hv h8 a2 hp,claims_tru hw ho hz hv h8 a2 p1,sec_free2 _ _ _ _ ((T.sub (sec l p)).hb (sig ls s) i) hb (fun h=>claims_tru hw ho hz hv h8 a2 (p2 h))]
  exact a3
end Go.Proofs.YtfofjdddplodpaaGreatDoor
namespace Go.Proofs.YtfofjdddplodpaaGreatDoor
open Go.ChangeShapes Go.WideShapes Go.ChangeAt Go.RowKit Go.Deep
open Terms
set_option maxHeartbeats 6400000
set_option maxRecDepth 20000
theorem met_clm (l:List (Int × Int)) (h:Nat->Bool):∀ k,metTo l h k=clmTo (aheadL l) (fun q _=>!waitAt l h q) 0 k:=by
 intro k
 induction k with
 | zero=>simp [metTo,clmTo]
 | succ k ih=>
  simp only [metTo,clmTo,ih]
  by_cases hw:waitAt l h ((aheadL l).getD k 0).toNat=true
  ·rw [if_pos hw,if_neg (by rw [hw];decide)]
  ·rw [if_neg hw,if_pos (by rw [Bool.not_eq_true'] ;exact Bool.eq_false_iff.2 hw)]
theorem met_bit (l:List (Int × Int)) (h:Nat->Bool) {n j:Nat} (hj:j < n):bitB (metTo l h n) j=!waitAt l h ((aheadL l).getD j 0).toNat:=by
 rw [met_clm,bit_clm _ _ _ _ _ hj]
theorem good_at {m:Nat} {x:List (Int × Int)} {T:Tm} (hF:FOk m x T) {q:Nat} (hq:q < x.length):lopErr 3 (x.getD q (0,0))=0:=hF.good _ (by rw [List.getD_eq_getElem?_getD,List.getElem?_eq_getElem hq,Option.getD_some];exact List.getElem_mem hq)
theorem good_vals {m:Nat} {x:List (Int × Int)} {T:Tm} (hF:FOk m x T):(∀ q,q < x.length->(x.getD q (0,0)).1=13->0 <= (x.getD q (0,0)).2)/\∀ q,q < x.length->8 <= (x.getD q (0,0)).1:=by
 refine ⟨fun q hq h13=>?_,fun q hq=>?_⟩
 ·have:=good_at hF hq
  generalize x.getD q (0,0)=o at *;unfold lopErr at this;obtain ⟨k,v⟩:=o;simp only at h13
  subst h13;simp at this ⊢
  omega
 ·have:=good_at hF hq
  generalize x.getD q (0,0)=o at *;unfold lopErr at this;obtain ⟨k,v⟩:=o;simp only at this ⊢
  by_cases h:k < 8
  ·exfalso
   revert this
   simp
   omega
  ·omega
theorem ahead_mono (l:List (Int × Int)):∀ (d n:Nat),∃ r,aheadTo l (n+d)=aheadTo l n++r:=by
 intro d
 induction d with
 | zero=>intro n;exact ⟨[],by simp⟩
 | succ d ih=>
  intro n;obtain ⟨r,h⟩:=ih n;rw [show n+(d+1)=(n+d)+1 by omega]
  simp only [aheadTo]
  split
  ·exact ⟨r++[((n+d:Nat):Int)],by rw [h,List.append_assoc]⟩
  ·exact ⟨r,by rw [List.append_nil];exact h⟩
theorem ahead_at {l:List (Int × Int)} {p:Nat} (hp:p < l.length) (hb:lookB (l.getD p (0,0)).1=true):(aheadTo l p).length < (aheadL l).length/\(aheadL l).getD (aheadTo l p).length 0=(p:Int):=by
 obtain ⟨r,h⟩:=ahead_mono l (l.length - (p+1)) (p+1);rw [show p+1+(l.length - (p+1))=l.length by omega] at h
 have h1:aheadTo l (p+1)=aheadTo l p++[(p:Int)]:=by simp only [aheadTo];rw [if_pos hb]
 unfold aheadL;rw [h,h1];refine ⟨by simp,?_⟩
 simp [List.getD_eq_getElem?_getD]
end Go.Proofs.YtfofjdddplodpaaGreatDoor
namespace Go.Proofs.YtfofjdddplodpaaGreatDoor
open Go.ChangeShapes Go.WideShapes Go.ChangeAt Go.RowKit Go.Deep Go.Maps
open Terms Tm
set_option maxHeartbeats 6400000
set_option maxRecDepth 20000
def firstC (m:Mo):Int:=codeTo m.vars (initsL m.vars) m.vars.length
end Go.Proofs.YtfofjdddplodpaaGreatDoor
namespace Go.Proofs.YtfofjdddplodpaaGreatDoor
open Terms Tm
set_option maxHeartbeats 6400000
set_option maxRecDepth 20000
def LeadsTo (m:Mo) (all:List Int) (k:Nat):Prop:=∀ i,i < k->all.getD (i+1) 0∈nxtL m (all.getD i 0)
theorem LeadsTo.zero (m:Mo) (all:List Int):LeadsTo m all 0:=fun i h=>by omega
theorem LeadsTo.succ {m:Mo} {all:List Int} {k:Nat} (h:LeadsTo m all k) (h2:all.getD (k+1) 0∈nxtL m (all.getD k 0)):LeadsTo m all (k+1):=fun i hi=>by
 by_cases e:i=k
 ·rw [e];exact h2
 ·exact h i (by omega)
theorem nxtL_yes {m:Mo} (hm:mcode m=0) {x:Int} (hx:0 <= x/\x < prodTo m.vars m.vars.length):nxtL m x=nextL m x:=by unfold nxtL;rw [if_pos (wcode_yes hm hx)]
theorem nextL_range {m:Mo} (hm:mcode m=0) {x:Int} (hx:0 <= x/\x < prodTo m.vars m.vars.length) {y:Int} (hy:y∈nextL m x):0 <= y/\y < prodTo m.vars m.vars.length:=by
 have hv:=mcode_vars hm;have h2:=((upL_spec _).2 y).1 hy;unfold rawL at h2
 split at h2
 ·simp at h2;rw [h2];exact hx
 ·obtain ⟨j,_,e⟩:=(rawTo_mem (Nat.le_refl _) y).1 h2
  exact ruleDo_state hv e
theorem LeadsTo.range {m:Mo} (hm:mcode m=0) {all:List Int} (h0:0 <= all.getD 0 0/\all.getD 0 0 < prodTo m.vars m.vars.length):∀ {k:Nat},LeadsTo m all k->0 <= all.getD k 0/\all.getD k 0 < prodTo m.vars m.vars.length
 | 0,_=>h0
 | k+1,h=>by
  have h1:=LeadsTo.range hm h0 (k:=k) (fun i hi=>h i (by omega))
  have h2:=h k (by omega)
  rw [nxtL_yes hm h1] at h2;exact nextL_range hm h1 h2
theorem firstC_range {m:Mo} (hm:mcode m=0):0 <= firstC m/\firstC m < prodTo m.vars m.vars.length:=code_bounds (mcode_vars hm) (Nat.le_refl _) (inits_in (mcode_vars hm))
def rvd (ss ll:List Int):List Int:=ss++ll++[ll.getD 0 0]
theorem rvd_len (ss ll:List Int):(rvd ss ll).length=ss.length+ll.length+1:=by simp [rvd];omega
theorem rvd_flat (ss ll:List Int):[ss,ll,[ll.getD 0 0]].flatten=rvd ss ll:=by simp [rvd]
theorem rvd_zero {ss ll:List Int} (h:ll≠[]):(rvd ss ll).getD 0 0=(ss++ll).getD 0 0:=by
 unfold rvd;have:0 < (ss++ll).length:=by rw [List.length_append];have:=List.length_pos_iff.2 h;omega
 simp only [List.getD_eq_getElem?_getD]
 rw [List.getElem?_append_left this]
open Classical in
noncomputable def runB (m:Mo) (ss ll:List Int):Bool:=decide (mcode m=0/\ll≠[]/\(rvd ss ll).getD 0 0=firstC m/\LeadsTo m (rvd ss ll) ((rvd ss ll).length - 1))
open Classical in
theorem runB_bad {m:Mo} (h:mcode m≠0) (ss ll:List Int):runB m ss ll=false:=decide_eq_false fun h2=>h h2.1
open Classical in
theorem runB_none (m:Mo) (ss:List Int):runB m ss []=false:=decide_eq_false fun h2=>h2.2.1 rfl
open Classical in
theorem runB_first {m:Mo} {ss ll:List Int} (h:(rvd ss ll).getD 0 0≠firstC m):runB m ss ll=false:=decide_eq_false fun h2=>h h2.2.2.1
open Classical in
theorem runB_lead {m:Mo} {ss ll:List Int} (h:mcode m=0) (h1:ll≠[]) (h2:(rvd ss ll).getD 0 0=firstC m):runB m ss ll=decide (LeadsTo m (rvd ss ll) ((rvd ss ll).length - 1)):=by
 unfold runB
 by_cases h3:LeadsTo m (rvd ss ll) ((rvd ss ll).length - 1)
 ·rw [decide_eq_true h3];exact decide_eq_true ⟨h,h1,h2,h3⟩
 ·rw [decide_eq_false h3];exact decide_eq_false fun h4=>h3 h4.2.2.2
end Go.Proofs.YtfofjdddplodpaaGreatDoor
namespace Go.Proofs.YtfofjdddplodpaaGreatDoor
open Go.ChangeShapes Go.WideShapes Go.ChangeAt Go.RowKit Go.Deep
open Terms Tm
set_option maxHeartbeats 6400000
set_option maxRecDepth 20000
theorem tk_zeroV {m:Mo} {ps:List (List (Int × Int))} {l:List (Int × Int)} (h:tkcode m ps l=0):pcode m ps=0/\lcode ps.length l=0:=by
 unfold tkcode at h
 split at h
 ·rename_i h1
  exact absurd h h1
 ·rename_i h1
  exact ⟨Classical.not_not.1 h1,h⟩
theorem tk_letV {m:Mo} {ps:List (List (Int × Int))} {l:List (Int × Int)} (h:tkcode m ps l=0) {c:Int} (hc:0 <= c/\c < prodTo m.vars m.vars.length):letC m ps c=0/\(letL m ps c).length=ps.length:=by
 obtain ⟨hp,_⟩:=tk_zeroV h;obtain ⟨hm,_⟩:=pcode_m hp;have h1:letC m ps c=0:=by unfold letC;rw [if_pos hp,wcode_yes hm hc]
 refine ⟨h1,?_⟩
 unfold letL;rw [if_pos h1,List.length_map]
open Classical in
theorem run_range {m:Mo} {ss ll:List Int} (h:runB m ss ll=true):(∀ i,i < ss.length->0 <= ss.getD i 0/\ss.getD i 0 < prodTo m.vars m.vars.length)/\∀ i,i < ll.length->0 <= ll.getD i 0/\ll.getD i 0 < prodTo m.vars m.vars.length:=by
 obtain ⟨hm,hne,hf,hl⟩:=of_decide_eq_true h;have h0:0 <= (rvd ss ll).getD 0 0/\(rvd ss ll).getD 0 0 < prodTo m.vars m.vars.length:=by rw [hf];exact firstC_range hm
 have hk:∀ k,k < (rvd ss ll).length->0 <= (rvd ss ll).getD k 0/\(rvd ss ll).getD k 0 < prodTo m.vars m.vars.length:=fun k hk=>LeadsTo.range hm h0 (fun i hi=>hl i (by omega))
 rw [rvd_len] at hk;refine ⟨fun i hi=>?_,fun i hi=>?_⟩
 ·have h1:=hk i (by omega)
  rw [show (rvd ss ll).getD i 0=ss.getD i 0 by unfold rvd;simp [List.getD_eq_getElem?_getD,List.getElem?_append_left,hi]] at h1
  exact h1
 ·have h1:=hk (ss.length+i) (by omega)
  rw [show (rvd ss ll).getD (ss.length+i) 0=ll.getD i 0 by unfold rvd;rw [List.append_assoc];simp [List.getD_eq_getElem?_getD,List.getElem?_append_right,List.getElem?_append_left,hi]] at h1
  exact h1
theorem run_ne {m:Mo} {ss ll:List Int} (h:runB m ss ll=true):1 <= ll.length:=by
 rcases Nat.eq_zero_or_pos ll.length with h0 | h0
 ·rw [List.length_eq_zero_iff.1 h0,runB_none] at h;cases h
 ·exact h0
noncomputable def lets (m:Mo) (ps:List (List (Int × Int))) (cs:List Int):List (List Bool):=cs.map (letL m ps)
theorem lets_len (m:Mo) (ps:List (List (Int × Int))) (cs:List Int):(lets m ps cs).length=cs.length:=by simp [lets]
theorem lets_at {m:Mo} {ps:List (List (Int × Int))} {cs:List Int} {i:Nat} (hi:i < cs.length):(lets m ps cs).getD i []=letL m ps (cs.getD i 0):=by simp [lets,List.getD_eq_getElem?_getD,hi]
theorem run_word {m:Mo} {ps:List (List (Int × Int))} {l:List (Int × Int)} {ss ll:List Int} (hk:tkcode m ps l=0) (hs:ss.length <= 12) (hl:ll.length <= 12) (h:runB m ss ll=true):mocode ps.length l (lets m ps ss) (lets m ps ll)=0:=by
 obtain ⟨hp,hl0⟩:=tk_zeroV hk;have h6:=(pcode_m hp).2;have hr:=run_range h;have h1:=run_ne h;unfold mocode;rw [hl0,if_neg (by simp)]
 refine wdcode_ok (by omega) (by rw [lets_len,lets_len];omega) ?_
 unfold letBad;rw [List.any_eq_false];intro x hx
 have hxl:x.length=ps.length:=by
  rcases List.mem_append.1 hx with hx | hx
  all_goals
   obtain ⟨y,hy,rfl⟩:=List.mem_map.1 hx;obtain ⟨i,hi,rfl⟩:=List.mem_iff_getElem.1 hy
  ·have:=hr.1 i hi
   rw [show ss.getD i 0=ss[i] by simp [List.getD_eq_getElem?_getD,hi]] at this
   exact (tk_letV hk this).2
  ·have:=hr.2 i hi
   rw [show ll.getD i 0=ll[i] by simp [List.getD_eq_getElem?_getD,hi]] at this
   exact (tk_letV hk this).2
 simp [hxl]
theorem BoolsV.setS {w:World} {v:Value} {l:List Bool} {p:Addr} {a:Option Addr} {n c:Nat} (h:BoolsV w v l) (hc:w.cell? p=some (.slice a n c)) (u:Value):BoolsV (w.setCell p u) v l:=by
 obtain ⟨ao,cap,rfl,h⟩:=h;refine ⟨ao,cap,rfl,fun hne=>?_⟩
 obtain ⟨b,off,rfl,hlt,hat⟩:=h hne;refine ⟨b,off,rfl,by simpa using hlt,fun i hi=>?_⟩
 have h1:=hat i hi
 have hne2:(⟨b,off+i,none⟩:Addr)≠p:=by
  intro e;rw [e,hc] at h1;simp at h1
 rw [World.cell?_setCell_other _ _ _ _ hne2.symm]
 exact h1
end Go.Proofs.YtfofjdddplodpaaGreatDoor
namespace Go.Proofs.YtfofjdddplodpaaGreatDoor
open Go.ChangeShapes Go.WideShapes Go.ChangeAt Go.RowKit Go.Deep Go.Maps
open Terms Tm
set_option maxHeartbeats 6400000
set_option maxRecDepth 20000
theorem explore_bad (va vr pv fv:Value) (m:Mo) (ps:List (List (Int × Int))) (l:List (Int × Int)) (w:World) (hB:0 < w.heap.size) (hT:TabAt w) (hV:TaskV w va vr pv fv m ps l) (hk:tkcode m ps l≠0) :
  Calls Tryz.prog 12 #[.agg #[va,vr,pv,fv]] w (ExAns w m ps l):=by
 unfold ExAns;obtain ⟨ao,ac,rfl⟩:=hV.mo.1.shape;obtain ⟨ro,rc,rfl⟩:=hV.mo.2.shape;obtain ⟨po,pc,rfl⟩:=hV.ps.shape;obtain ⟨fo,fc,rfl,_⟩:=id hV.fo
 obtain ⟨W0,hW0⟩:∃ W0,W0=(w.alloc (.cells #[.slice ao m.vars.length ac,.slice ro m.rules.length rc,.slice po ps.length pc,.slice fo l.length fc] 35)).alloc (.cells #[.slice none 0 0,.int .i64 0,.slice none 0 0,.slice none 0 0,.int .i64 0] 56):=⟨_,rfl⟩
 have hbW:Below w.heap.size w W0:=by rw [hW0];exact ((Below.refl _ _).alloc (Nat.le_refl _) _).alloc (by simp) _
 have hzW:W0.heap.size=w.heap.size+2:=by rw [hW0];simp
 have hX0:W0.heap[w.heap.size+1]? = some (grB (.slice none 0 0) (.slice none 0 0) (.slice none 0 0) 0 0):=by
  rw [hW0];have:=(MapKept.heap_alloc (w.alloc (.cells #[.slice ao m.vars.length ac,.slice ro m.rules.length rc,.slice po ps.length pc,.slice fo l.length fc] 35)) (.cells #[.slice none 0 0,.int .i64 0,.slice none 0 0,.slice none 0 0,.int .i64 0] 56)).1;rw [World.size_alloc] at this;exact this
 have hsv:=surveyOf_bad _ _ _ _ m ps l W0 (Nat.lt_of_lt_of_le hB hbW.size) (hT.below hbW hB) (hV.below hbW) hk
 have HFin:Hid (∀ w1,Below W0.heap.size W0 w1->(w1.cell? ⟨w.heap.size+1,0,none⟩=some (.slice none 0 0)/\w1.cell? ⟨w.heap.size+1,1,none⟩=some (.int .i64 0)/\w1.cell? ⟨w.heap.size+1,2,none⟩=some (.slice none 0 0)/\w1.cell? ⟨w.heap.size+1,3,none⟩=some (.slice none 0 0)/\w1.cell? ⟨w.heap.size+1,4,none⟩=some (.int .i64 0))/\(∀ i,w1.frozen? ⟨w.heap.size+1,i,none⟩=false)/\Below w.heap.size w w1):=fun w1 h=>by
  have hb:=(h.block (w.heap.size+1) (by omega)).trans hX0
  exact ⟨grB_cells hb,grB_free hb,hbW.trans (h.mono hbW.size)⟩
 have HK:Hid (tkcode m ps l≠0):=hk;generalize tkcode m ps l=tc at *;generalize m.vars.length=vn at *;generalize m.rules.length=rn at *;generalize ps.length=pn at *;generalize l.length=fn at *;clear hV hT
 go_enter Tryz.func12,Tryz.ntmps12
 go_wp2_with (first | (go_at_call 28;rw [<- hW0];refine hsv.mono ?_;rintro e w1 ⟨rfl,hb1⟩;obtain ⟨⟨x0,x1,x2,x3,x4⟩,xf,hbw⟩:=HFin.out w1 hb1;have f0:=xf 0;have f1:=xf 1;have f2:=xf 2;have f3:=xf 3;have f4:=xf 4))
 have hbF:Below w.heap.size w (((((w1.setCell ⟨w.heap.size+1,0,none⟩ (.slice none 0 0)).setCell ⟨w.heap.size+1,1,none⟩ (.int .i64 0)).setCell ⟨w.heap.size+1,2,none⟩ (.slice none 0 0)).setCell ⟨w.heap.size+1,3,none⟩ (.slice none 0 0)).setCell ⟨w.heap.size+1,4,none⟩ (.int .i64 0)):=hbw.trans ((chg_box w1 (w.heap.size+1) _ _ _ _ _).below (fun i e=>by omega) (by have:=hbw.size;omega))
 refine bodyPost_ret (v:=.tuple #[.agg #[.slice none 0 0,.int .i64 0,.slice none 0 0,.slice none 0 0,.int .i64 0],.int .i64 tc]) ?_ rfl (.inr (.inr ⟨HK.out,rfl,hbF⟩))
 simp [results,Tryz.results12,go_sem,x0,x1,x2,x3,x4]
theorem ex_start (W0 w1 w2:World) (n:Nat) (va vr pv fv:Value) (m:Mo) (ps:List (List (Int × Int))) (l:List (Int × Int)) (ho:Option Addr) (hc:Nat) (so:Option Addr) (sc:Nat) (hk:tkcode m ps l=0) (hb1:Below W0.heap.size W0 w1) (hn:W0.heap.size <= n) (hs:SurvAt w1 (n+2) va vr pv fv (.slice ho (aheadL l).length hc) n (n+1)) (hor:w1.ownsRow W0.heap.size 3 1 (.slice ho (aheadL l).length hc) (aheadL l).length (ivals (aheadL l))) (hm:w1.heap[n]? = some (.map #[] 0)/\w1.heap[n+1]? = some (.map #[] 0)) (hb2:Below w1.heap.size w1 w2) (hsp:SpO w2 w1.heap.size (.slice so (begL m ps l).length sc) (begL m ps l)) :
  Calls Tryz.prog 30 #[.pointer (some ⟨w2.heap.size+1,0,none⟩),.slice so (begL m ps l).length sc] ((w2.alloc (.map #[] 0)).alloc (.cells #[.slice none 0 0,.int .i64 ((begL m ps l).length:Nat),.slice none 0 0,.slice none 0 0,.int .i64 ((aheadL l).length:Nat),.map (some w2.heap.size)] 105)) fun e w3=>∃ v sv,e=.returned v/\Hid (ExW W0 w3 w2.heap.size (w2.heap.size+1) w2.heap.size (n+2) n (n+1) (0*300001) va vr pv fv m ps l ho hc (xpP m ps l 0) (xpN m ps l 0) (xpT m ps l 0) ((begL m ps l).length:Nat) ((aheadL l).length:Nat) sv (.slice none 0 0) (.slice none 0 0)):=by
 have hbl:=begL_len hk;have hv1:SvOk (fun _=>True) W0 w1 (n+2) n (n+1) 0 va vr pv fv m ps l ho hc:=SvOk.made (Below.refl _ _) hb1 hn hs hor hm.1 hm.2
 have hv2:=hv1.below hb2;have hl1:=hv2.box.lt;have hl2:n < w2.heap.size:=by omega
 obtain ⟨WA,hWA⟩:∃ WA,WA=(w2.alloc (.map #[] 0)).alloc (.cells #[.slice none 0 0,.int .i64 ((begL m ps l).length:Nat),.slice none 0 0,.slice none 0 0,.int .i64 ((aheadL l).length:Nat),.map (some w2.heap.size)] 105):=⟨_,rfl⟩
 have hbA:Below w2.heap.size w2 WA:=by rw [hWA];exact ((Below.refl _ _).alloc (Nat.le_refl _) _).alloc (by simp) _
 have hmA:WA.heap[w2.heap.size]? = some (.map #[] 0):=by
  rw [hWA,Below.heap_alloc _ _ _ (by simp)]
  exact (MapKept.heap_alloc w2 _).1
 have hxA:WA.heap[w2.heap.size+1]? = some (atB (.slice none 0 0) (.slice none 0 0) (.slice none 0 0) ((begL m ps l).length:Nat) ((aheadL l).length:Nat) w2.heap.size):=by
  rw [hWA];have:=(MapKept.heap_alloc (w2.alloc (.map #[] 0)) (.cells #[.slice none 0 0,.int .i64 ((begL m ps l).length:Nat),.slice none 0 0,.slice none 0 0,.int .i64 ((aheadL l).length:Nat),.map (some w2.heap.size)] 105)).1;rw [World.size_alloc] at this;exact this
 have hX:ExW W0 WA w2.heap.size (w2.heap.size+1) w2.heap.size (n+2) n (n+1) (0*300001) va vr pv fv m ps l ho hc [] (xpN m ps l 0) (xpT m ps l 0) ((begL m ps l).length:Nat) ((aheadL l).length:Nat) (.slice none 0 0) (.slice none 0 0) (.slice none 0 0):=by
  refine ⟨((hv2.re (Pz':=offT (.slice none 0 0)) (fun _ _ _ e=>by simp [Value.ownBlock] at e) (fun _ _ e=>by simp [Value.ownBlock] at e)).below hbA).mono (by omega),⟨hxA,by omega,Nat.le_refl _,LiesAt.new hmA,SpO.nil _ _,⟨[],World.ownsRow_nil _ _ _ _,rfl,fun i hi=>by simp [xpN] at hi⟩,World.ownsRow_nil _ _ _ _⟩,?_,?_,?_,?_⟩
  ·have:=hv2.bel.size;omega
  ·omega
  ·omega
  ·omega
 have hsv:=(hsp.later hbA (Nat.le_refl _)).v;have hIs:∀ j,j < (begL m ps l).length->I64s ((begL m ps l).getD j (0,0)):=fun j hj=>spot_I64 hk (begL_spot hk (by rw [List.getD_eq_getElem?_getD,List.getElem?_eq_getElem hj];exact List.getElem_mem _))
 have hsep:∀ a,so=some a->¬ atZ (w2.heap.size+1) w2.heap.size (.slice none 0 0) a.block:=fun a e z=>by
  have hlt:a.block < w2.heap.size:=by
   rcases hsp.2 with ⟨h0,_⟩ | ⟨g,cap,cur,h1,_,h3,_⟩
   ·rw [e] at h0;simp at h0
   ·rw [e] at h1
    injection h1 with h1 _ _
    injection h1 with h1
    subst h1;exact (Array.getElem?_eq_some_iff.1 h3).1
  rcases z with z | z | z
  ·omega
  ·omega
  ·simp [Value.ownBlock] at z
 rw [<- hWA];refine (places_any WA w2.heap.size (w2.heap.size+1) w2.heap.size [] _ _ _ _ _ _ _ _ so sc hX.tl hsv hsep hIs (by simp;omega)).mono fun e w3 ⟨h1,sv',h2,h3,h4,h5,h6⟩=>?_
 exact ⟨_,sv',h1,hX.put h5 h2⟩
theorem ex_round (W0 wr:World) (base A lm B bs bl k:Nat) (va vr pv fv:Value) (m:Mo) (ps:List (List (Int × Int))) (l:List (Int × Int)) (ho:Option Addr) (hc:Nat) (init many:Int) (sv nv tv:Value) (hB:0 < W0.heap.size) (hT:TabAt W0) (hV:TaskV W0 va vr pv fv m ps l) (hk:tkcode m ps l=0) (hX:ExW W0 wr base A lm B bs bl (k*300001) va vr pv fv m ps l ho hc (xpP m ps l k) (xpN m ps l k) (xpT m ps l k) init many sv nv tv) (hlt:k < (xpP m ps l k).length) (hz:(xpP m ps l k).length <= 20000) (hsp:∀ p∈xpP m ps l k,spOk m l p) :
  Calls Tryz.prog 31 #[.pointer (some ⟨A,0,none⟩),.pointer (some ⟨B,0,none⟩),.agg #[.int .i64 (xpAt m ps l k).1,.int .i64 (xpAt m ps l k).2]] wr fun e w'=>e=.returned (.int .i64 (if 20000 < (xpP m ps l (k+1)).length then 12 else 0))/\∃ sv nv tv,Hid (ExW W0 w' base A lm B bs bl ((k+1)*300001) va vr pv fv m ps l ho hc (xpP m ps l (k+1)) (xpN m ps l (k+1)) (xpT m ps l (k+1)) init many sv nv tv):=by
 obtain ⟨h1,d,h2,h3⟩:=hsp _ (xpAt_mem hlt);have hgo:=goThrough_any W0 wr base A lm B bs bl (k*300001) va vr pv fv m ps l ho hc (xpP m ps l k) (xpN m ps l k) (xpT m ps l k) init many sv nv tv (xpAt m ps l k).1 d hB hT hV hk hX (by omega) h1 h2 hz (by rw [xpN_len];omega) (by rw [xpT_len];omega)
 unfold GoPost at hgo;rw [<- h3] at hgo;refine hgo.mono fun e w' ⟨g1,sv',nv',tv',g2⟩=>⟨g1,sv',nv',tv',?_⟩
 have e1:(k+1)*300001=k*300001+300001:=by omega
 rw [e1];exact g2
theorem explore_ok (va vr pv fv:Value) (m:Mo) (ps:List (List (Int × Int))) (l:List (Int × Int)) (w:World) (hB:0 < w.heap.size) (hT:TabAt w) (hV:TaskV w va vr pv fv m ps l) (hk:tkcode m ps l=0) :
  Calls Tryz.prog 12 #[.agg #[va,vr,pv,fv]] w (ExAns w m ps l):=by
 unfold ExAns;obtain ⟨ao,ac,rfl⟩:=hV.mo.1.shape;obtain ⟨ro,rc,rfl⟩:=hV.mo.2.shape;obtain ⟨po,pc,rfl⟩:=hV.ps.shape;obtain ⟨fo,fc,rfl,_⟩:=id hV.fo
 obtain ⟨W0,hW0⟩:∃ W0,W0=(w.alloc (.cells #[.slice ao m.vars.length ac,.slice ro m.rules.length rc,.slice po ps.length pc,.slice fo l.length fc] 35)).alloc (.cells #[.slice none 0 0,.int .i64 0,.slice none 0 0,.slice none 0 0,.int .i64 0] 56):=⟨_,rfl⟩
 have hbW:Below w.heap.size w W0:=by rw [hW0];exact ((Below.refl _ _).alloc (Nat.le_refl _) _).alloc (by simp) _
 have hzW:W0.heap.size=w.heap.size+2:=by rw [hW0];simp
 have hX0:W0.heap[w.heap.size+1]? = some (grB (.slice none 0 0) (.slice none 0 0) (.slice none 0 0) 0 0):=by
  rw [hW0];have:=(MapKept.heap_alloc (w.alloc (.cells #[.slice ao m.vars.length ac,.slice ro m.rules.length rc,.slice po ps.length pc,.slice fo l.length fc] 35)) (.cells #[.slice none 0 0,.int .i64 0,.slice none 0 0,.slice none 0 0,.int .i64 0] 56)).1;rw [World.size_alloc] at this;exact this
 have hB0:0 < W0.heap.size:=Nat.lt_of_lt_of_le hB hbW.size;have hT0:=hT.below hbW hB;have hV0:=hV.below hbW;have hsv:=surveyOf_ok _ _ _ _ m ps l W0 hB0 hT0 hV0 hk
 have HFin:Hid (∀ w1,Below W0.heap.size W0 w1->(w1.cell? ⟨w.heap.size+1,0,none⟩=some (.slice none 0 0)/\w1.cell? ⟨w.heap.size+1,1,none⟩=some (.int .i64 0)/\w1.cell? ⟨w.heap.size+1,2,none⟩=some (.slice none 0 0)/\w1.cell? ⟨w.heap.size+1,3,none⟩=some (.slice none 0 0)/\w1.cell? ⟨w.heap.size+1,4,none⟩=some (.int .i64 0))/\(∀ i,w1.frozen? ⟨w.heap.size+1,i,none⟩=false)/\TyB w1 (w.heap.size+1) 56/\Below w.heap.size w w1):=fun w1 h=>by
  have hb:=(h.block (w.heap.size+1) (by omega)).trans hX0
  exact ⟨grB_cells hb,grB_free hb,⟨_,_,hb⟩,hbW.trans (h.mono hbW.size)⟩
 have HBe:Hid (∀ (w1:World) (B bs bl:Nat) (ho:Option Addr) (hcp:Nat),Below W0.heap.size W0 w1->SurvAt w1 B (.slice ao m.vars.length ac) (.slice ro m.rules.length rc) (.slice po ps.length pc) (.slice fo l.length fc) (.slice ho (aheadL l).length hcp) bs bl->Calls Tryz.prog 29 #[.pointer (some ⟨B,0,none⟩)] w1 fun e w'=>∃ so sc,e=.returned (.tuple #[.slice so (begL m ps l).length sc,.int .i64 0])/\Below w1.heap.size w1 w'/\Hid (SpO w' w1.heap.size (.slice so (begL m ps l).length sc) (begL m ps l))):=fun w1 B bs bl ho hcp h hs=>begin_any B _ _ _ _ m ps l ho hcp bs bl w1 (Nat.lt_of_lt_of_le hB0 h.size) (hT0.below h hB0) (hV0.below h) hk hs
 have HSt:=(show Hid _ from fun (w1 w2:World) (n:Nat) (ho:Option Addr) (hc:Nat) (so:Option Addr) (sc:Nat)=>ex_start W0 w1 w2 n (.slice ao m.vars.length ac) (.slice ro m.rules.length rc) (.slice po ps.length pc) (.slice fo l.length fc) m ps l ho hc so sc hk)
 have HRd:=(show Hid _ from fun (wr:World) (base A lm B bs bl k:Nat) (ho:Option Addr) (hc:Nat) (sv nv tv:Value)=>ex_round W0 wr base A lm B bs bl k (.slice ao m.vars.length ac) (.slice ro m.rules.length rc) (.slice po ps.length pc) (.slice fo l.length fc) m ps l ho hc ((begL m ps l).length:Nat) ((aheadL l).length:Nat) sv nv tv hB0 hT0 hV0 hk)
 have HP0:Hid ((∀ p∈xpP m ps l 0,spOk m l p)/\(xpP m ps l 0).length <= 20000):=⟨xpP_zero hk,by
  have h1:=(plTo_length (begL m ps l) []).2;have h2:=begL_len hk;have e:xpP m ps l 0=plTo [] (begL m ps l):=rfl;rw [e];simp at h1
  omega⟩
 have HPn:Hid (∀ k,k < (xpP m ps l k).length->(∀ p∈xpP m ps l k,spOk m l p)->∀ p∈xpP m ps l (k+1),spOk m l p):=fun k h1 h2=>xpP_next hk h1 h2
 have HK:Hid (tkcode m ps l=0):=hk;have hbn:=begL_len hk;have han:=(lcode_zero (tk_zero hk).2).2.2.2.2;unfold SurvPost at hsv;clear hV hT hV0 hT0 hk;generalize hbl:(begL m ps l).length=bn at *;generalize hal:(aheadL l).length=an at *;generalize m.vars.length=vn at *;generalize m.rules.length=rn at *;generalize ps.length=pn at *;generalize l.length=fn at *
 have hmm:=@run_makeMap Tryz.prog
 go_enter Tryz.func12,Tryz.ntmps12
 go_upto_region 8 with (first | (go_at_call 28;rw [<- hW0];refine hsv.mono ?_;rintro e w1 ⟨n,ho,hcp,rfl,hb1,hn1,_,HS,HO,HM⟩;have hbe:=HBe.out w1 _ _ _ _ _ hb1 HS.out) | (go_at_call 29;refine hbe.mono ?_;rintro e w2 ⟨so,sc,rfl,hb2,HSp⟩;have hst:=HSt.out w1 w2 n ho hcp so sc hb1 hn1 HS.out HO.out HM.out hb2 HSp.out;have x4:=(HS.out.later hb2).c4))
 go_wp2_with (first | (go_at_call 30;refine hst.mono ?_;rintro e w3 ⟨v3,sv3,rfl,HX3⟩))
 generalize hA:w2.heap.size+1=A at *;generalize hlm:w2.heap.size=lm at *;generalize hBn:n+2=B at *;generalize hbs:n+1=bl at *;clear hst hsv hbe HSt HBe HS HO HM HSp x4 hb1 hb2 hmm hlm
 go_loopw [8] (fun i wr=>∃ k pk:Nat,i=.int .i64 k/\k <= pk/\pk <= 20000/\Hid ((xpP m ps l k).length=pk/\(∀ p∈xpP m ps l k,spOk m l p)/\∀ j,j < k->j < (xpP m ps l j).length)/\∃ vo vc nv tv,Hid (ExW W0 wr lm A lm B n bl (k*300001) (.slice ao vn ac) (.slice ro rn rc) (.slice po pn pc) (.slice fo fn fc) m ps l ho hcp (xpP m ps l k) (xpN m ps l k) (xpT m ps l k) (bn:Nat) (an:Nat) (.slice vo pk vc) nv tv)) (fun i _=>20001 - (intOf i).toNat)
 case atStart=>
  obtain ⟨vo,vc,e⟩:=HX3.out.tl.sp.shape;refine ⟨0,(xpP m ps l 0).length,rfl,Nat.zero_le _,HP0.out.2,⟨rfl,HP0.out.1,fun j hj=>by omega⟩,vo,vc,.slice none 0 0,.slice none 0 0,?_⟩
  rw [<- e];exact HX3.out
 case round=>
  obtain ⟨k,pk,rfl,hkp,hpk,HK2,vo,vc,nv,tv,HX⟩:=hrel;obtain ⟨a0,a1,a2,a3,a4,a5⟩:=atB_cells HX.out.tl.box
  by_cases hlt:k < pk
  ·have hki:(k:Int) < (pk:Int):=by omega
   have hlt2:k < (xpP m ps l k).length:=by rw [HK2.out.1];exact hlt
   obtain ⟨b,off,rfl,_,c0,c1⟩:=HX.out.tl.sp.v.get hlt2;have hrd:=HRd.out wr lm A lm B n bl k ho hcp _ nv tv HX.out hlt2 (by rw [HK2.out.1];exact hpk) HK2.out.2.1
   have HKn:Hid ((∀ p∈xpP m ps l (k+1),spOk m l p)/\∀ j,j < k+1->j < (xpP m ps l j).length):=⟨HPn.out k hlt2 HK2.out.2.1,fun j hj=>by
    by_cases h:j < k
    ·exact HK2.out.2.2 j h
    ·obtain rfl:j=k:=by omega
     exact hlt2⟩
   have e1:(xpP m ps l k).getD k (0,0)=xpAt m ps l k:=rfl;rw [e1] at c0 c1;clear e1 HX HRd hlt2;generalize xpAt m ps l k=s at *;obtain ⟨x,y⟩:=s;simp only at c0 c1 hrd
   by_cases hfull:20000 < (xpP m ps l (k+1)).length
   ·rw [if_pos hfull] at hrd
    have HFu:Hid (ExFull m ps l):=⟨k,fun j hj=>HKn.out.2 j (by omega),hfull⟩
    clear hfull HKn HK2
    go_wp2_with (first | (go_at_call 31;refine hrd.mono ?_;rintro e w4 ⟨rfl,sv4,nv4,tv4,HX4⟩;obtain ⟨⟨x0,x1,x2,x3,x4⟩,xf,_,hbw⟩:=HFin.out w4 HX4.out.su.bel;have f0:=xf 0;have f1:=xf 1;have f2:=xf 2;have f3:=xf 3;have f4:=xf 4))
    have hbF:Below w.heap.size w (((((w4.setCell ⟨w.heap.size+1,0,none⟩ (.slice none 0 0)).setCell ⟨w.heap.size+1,1,none⟩ (.int .i64 0)).setCell ⟨w.heap.size+1,2,none⟩ (.slice none 0 0)).setCell ⟨w.heap.size+1,3,none⟩ (.slice none 0 0)).setCell ⟨w.heap.size+1,4,none⟩ (.int .i64 0)):=hbw.trans ((chg_box w4 (w.heap.size+1) _ _ _ _ _).below (fun i e=>by omega) (by have:=hbw.size;omega))
    refine bodyPost_ret (v:=.tuple #[.agg #[.slice none 0 0,.int .i64 0,.slice none 0 0,.slice none 0 0,.int .i64 0],.int .i64 12]) ?_ rfl (.inr (.inl ⟨HK.out,HFu.out,rfl,hbF⟩))
    simp [results,Tryz.results12,go_sem,x0,x1,x2,x3,x4]
   ·rw [if_neg hfull] at hrd
    have HLe:Hid ((xpP m ps l (k+1)).length <= 20000/\pk <= (xpP m ps l (k+1)).length):=⟨by omega,by
     rw [<- HK2.out.1]
     exact (exS_pre (begL m ps l) (xpBh m ps l) k).length_le⟩
    clear hfull HK2
    go_wp2_with (first | (go_at_call 31;refine hrd.mono ?_;rintro e w4 ⟨rfl,sv4,nv4,tv4,HX4⟩))
    go_roundw
    case rel=>
     obtain ⟨vo4,vc4,e⟩:=HX4.out.tl.sp.shape;refine ⟨k+1,(xpP m ps l (k+1)).length,by go_num,by have:=HLe.out.2;omega,HLe.out.1,⟨rfl,HKn.out⟩,vo4,vc4,nv4,tv4,?_⟩
     rw [<- e];exact HX4.out
    case measure=>simp [intOf];omega
  ·obtain rfl:k=pk:=by omega
   obtain ⟨⟨x0,x1,x2,x3,x4⟩,xf,hty,hbw⟩:=HFin.out wr HX.out.su.bel;have f0:=xf 0;have f1:=xf 1;have f2:=xf 2;have f3:=xf 3;have f4:=xf 4;have HDn:Hid (ExDone m ps l k):=⟨HK2.out.1,hpk,HK2.out.2.2,HK2.out.2.1⟩
   have HG:Hid (GrX wr w.heap.size m ps l k (.slice vo k vc) nv tv):=by
    have hle:w.heap.size <= lm:=by have:=HX.out.lo.1;have:=hbW.size;omega
    exact ⟨owns_mono HX.out.tl.sp hle,HX.out.tl.nx.mono hle,owns_mono HX.out.tl.st hle⟩
   obtain ⟨no,nn,nc,rfl⟩:∃ no nn nc,nv=.slice no nn nc:=by
    obtain ⟨us,h1,_⟩:=HX.out.tl.nx;obtain ⟨x,y,e⟩:=owns_slice h1;exact ⟨_,_,_,e⟩
   obtain ⟨xo,xn,xc,rfl⟩:∃ xo xn xc,tv=.slice xo xn xc:=by
    obtain ⟨x,y,e⟩:=owns_slice HX.out.tl.st;exact ⟨_,_,_,e⟩
   have HBF:Hid (∀ w8,Chg (fun i=>i=w.heap.size+1) wr w8->Below w.heap.size w w8/\GrX w8 w.heap.size m ps l k (.slice vo k vc) (.slice no nn nc) (.slice xo xn xc)):=fun w8 h=>⟨hbw.trans (h.below (fun i e=>by omega) (by have:=hbw.size;omega)),HG.out.chg h hty⟩
   clear HX HK2 HRd HG hty
   go_wp2_with fail
   obtain ⟨r1,r2⟩:=HBF.out _ (chg_box wr (w.heap.size+1) _ _ _ _ _);refine bodyPost_ret (v:=.tuple #[.agg #[.slice vo k vc,.int .i64 (bn:Nat),.slice no nn nc,.slice xo xn xc,.int .i64 (an:Nat)],.int .i64 0]) ?_ rfl (.inl ⟨HK.out,k,HDn.out,_,_,_,rfl,r1,r2⟩)
   simp [results,Tryz.results12,go_sem,x0,x1,x2,x3,x4]
theorem explore_any (va vr pv fv:Value) (m:Mo) (ps:List (List (Int × Int))) (l:List (Int × Int)) (w:World) (hB:0 < w.heap.size) (hT:TabAt w) (hV:TaskV w va vr pv fv m ps l) :
  Calls Tryz.prog 12 #[.agg #[va,vr,pv,fv]] w (ExAns w m ps l):=by
 by_cases hk:tkcode m ps l=0
 ·exact explore_ok va vr pv fv m ps l w hB hT hV hk
 ·exact explore_bad va vr pv fv m ps l w hB hT hV hk
end Go.Proofs.YtfofjdddplodpaaGreatDoor
namespace Go.Proofs.YtfofjdddplodpaaGreatDoor
open Go.ChangeShapes Go.WideShapes Go.ChangeAt Go.RowKit Go.Deep
open Terms
set_option maxHeartbeats 6400000
set_option maxRecDepth 20000
theorem take_getV {l:List Int} {k:Nat} (h:k < l.length):l.take (k+1)=l.take k++[l.getD k 0]:=by
 rw [List.take_succ_eq_append_getElem h];simp [List.getD_eq_getElem?_getD,h]
theorem getD_memV {l:List Int} {k:Nat} (h:k < l.length):l.getD k 0∈l:=by
 rw [List.getD_eq_getElem?_getD,List.getElem?_eq_getElem h]
 exact List.getElem_mem h
theorem IntsV.atV {w:World} {ao:Option Addr} {n cap:Nat} {l:List Int} (h:IntsV w (.slice ao n cap) l) {k:Nat} (hk:k < l.length):∃ b off,ao=some ⟨b,off,none⟩/\b < w.heap.size/\n=l.length/\IntsAt w b off l:=by
 obtain ⟨ao',cap',e,h⟩:=h
 injection e with e1 e2 e3
 subst e1 e3;obtain ⟨b,off,e,hb,hat⟩:=h (by intro h;subst h;simp at hk)
 exact ⟨b,off,e,hb,e2,hat⟩
theorem indexV_any (ao:Option Addr) (cap:Nat) (l:List Int) (x:Int) (w:World) (hl:l.length <= 140737488355328) (hV:IntsV w (.slice ao l.length cap) l) :
  Calls Tryz.prog 77 #[.slice ao l.length cap,.int .i64 x] w fun e w'=>∃ q:Int,e=.returned (.int .i64 q)/\w'=w/\(x∈l->0 <= q)/\(x∉l->q=-1):=by
 obtain ⟨n,hn⟩:∃ n,l.length=n:=⟨_,rfl⟩
 have H:Hid (IntsV w (.slice ao l.length cap) l):=hV;rw [hn] at hl H ⊢;have HN:Hid (l.length=n):=hn;clear hV hn
 go_enter Tryz.func77,Tryz.ntmps77
 go_wp2
 go_loopw [8] (fun i wr=>∃ k:Nat,k <= n/\i=.int .i64 k/\Hid (x∉l.take k)/\wr=w) (fun i _=>n - (intOf i).toNat)
 case atStart=>exact ⟨0,Nat.zero_le _,rfl,by show ¬ _;simp,rfl⟩
 case round=>
  obtain ⟨k,hk,rfl,HT,rfl⟩:=hrel
  by_cases hlt:k < n
  ·have hlt2:k < l.length:=by rw [HN.out];exact hlt
   obtain ⟨b,off,rfl,hb,_,hat⟩:=IntsV.atV H.out hlt2;have c1:=hat k hlt2
   have HS:Hid (x≠l.getD k 0->x∉l.take (k+1)):=fun h hm=>by
    rw [take_getV hlt2] at hm
    rcases List.mem_append.1 hm with h2 | h2
    ·exact HT.out h2
    ·simp at h2;exact h h2
   have HM:Hid (l.getD k 0∈l):=getD_memV hlt2;clear hat HT;generalize l.getD k 0=y at *
   by_cases hxy:x=y
   ·subst hxy
    go_wp2
    go_ret
    exact ⟨_,rfl,rfl,fun _=>by omega,fun h=>absurd HM.out h⟩
   ·have hs:=HS.out hxy
    have HS2:Hid (x∉l.take (k+1)):=hs;clear hs HS HM
    go_wp2
    go_roundw
    case rel=>exact ⟨k+1,by omega,by go_num,HS2,by trivial⟩
    case measure=>simp [intOf];omega
  ·obtain rfl:k=n:=by omega
   have HT':Hid (x∉l):=by have h:=HT.out;rw [List.take_of_length_le (by rw [HN.out];omega)] at h;exact h
   clear HT
   go_wp2
   go_ret
   exact ⟨-1,rfl,rfl,fun h=>absurd h HT'.out,fun _=>rfl⟩
theorem containsV_any (ao:Option Addr) (cap:Nat) (l:List Int) (x:Int) (w:World) (hl:l.length <= 140737488355328) (hV:IntsV w (.slice ao l.length cap) l) :
  Calls Tryz.prog 48 #[.slice ao l.length cap,.int .i64 x] w fun e w'=>e=.returned (.bool (decide (x∈l)))/\w'=w:=by
 have hx:=indexV_any ao cap l x w hl hV;generalize l.length=n at *;clear hV
 by_cases hm:x∈l
 ·rw [show decide (x∈l)=true by simp [hm]]
  have hx2:Calls Tryz.prog 77 #[.slice ao n cap,.int .i64 x] w fun e w'=>∃ q:Int,e=.returned (.int .i64 q)/\w'=w/\0 <= q:=hx.mono fun e w' ⟨q,h1,h2,h3,_⟩=>⟨q,h1,h2,h3 hm⟩
  clear hx hm
  go_enter Tryz.func48,Tryz.ntmps48
  go_wp2_with (go_at_call 77;refine hx2.mono ?_;rintro e w1 ⟨q,rfl,rfl,h3⟩)
  go_ret
  exact ⟨by first | rfl | trivial,rfl⟩
 ·rw [show decide (x∈l)=false by simp [hm]]
  have hx2:Calls Tryz.prog 77 #[.slice ao n cap,.int .i64 x] w fun e w'=>e=.returned (.int .i64 (-1))/\w'=w:=hx.mono fun e w' ⟨q,h1,h2,_,h3⟩=>⟨by rw [h1,h3 hm],h2⟩
  clear hx hm
  go_enter Tryz.func48,Tryz.ntmps48
  go_wp2_with (go_at_call 77;refine hx2.mono ?_;rintro e w1 ⟨rfl,rfl⟩)
  go_ret
  exact ⟨by first | rfl | trivial,rfl⟩
end Go.Proofs.YtfofjdddplodpaaGreatDoor
namespace Go.Proofs.YtfofjdddplodpaaGreatDoor
open Go.ChangeShapes Go.WideShapes Go.ChangeAt Go.RowKit Go.Deep Go.Maps
open Terms Tm
set_option maxHeartbeats 6400000
set_option maxRecDepth 20000
theorem keyedIV:Keyed Tryz.prog 3:=int_keyed Tryz.underlying3
theorem zeroStV (w:World):(zeroValue 127).run Tryz.prog w=.ok (.agg #[.slice none 0 0]) w:=by kernel_rfl
theorem keyIV {x:Int} (h:-9223372036854775808 <= x/\x <= 9223372036854775807):keyOf Tryz.prog 3 (.int .i64 x)=some (.int .i64 x):=keyOf_int_mk Tryz.underlying3 (WalkArith.wf_i64 (by omega))
theorem IntsV.overMap {wr w':World} {g:Nat} {v:Value} {l:List Int} (h:IntsV wr v l) (hm:∃ es c,wr.heap[g]? = some (.map es c)) (hs:Sk g g wr w'):IntsV w' v l:=by
 obtain ⟨ao,cap,rfl,h⟩:=h;refine ⟨ao,cap,rfl,fun hne=>?_⟩
 obtain ⟨b,off,rfl,hlt,hat⟩:=h hne;exact ⟨b,off,rfl,Nat.lt_of_lt_of_le hlt hs.size,fun i hi=>hs.cell ⟨hm,hm⟩ (hat i hi)⟩
def KnAt (wr:World) (m:Mo) (f:Lit->Option Value):Prop:=∀ kl v,f kl=some v->∃ c ao cap,kl=.int .i64 c/\v=.agg #[.slice ao (nextL m c).length cap]/\IntsV wr (.slice ao (nextL m c).length cap) (nextL m c)
def KnOk (wr:World) (g n:Nat) (m:Mo):Prop:=∃ f,MapIs wr 3 g n f/\KnAt wr m f
theorem KnOk.lt {wr:World} {g n:Nat} {m:Mo} (h:KnOk wr g n m):g < wr.heap.size:=by obtain ⟨f,h1,_⟩:=h;exact h1.lt
theorem MapIs.more {w:World} {kt:TypeId} {b n k:Nat} {f:Lit->Option Value} (h:MapIs w kt b n f) (hk:n <= k):MapIs w kt b k f:=by
 obtain ⟨D,⟨es,c,h1,h2,h3,h4⟩,h5⟩:=h;exact ⟨D,⟨es,c,h1,h2,Nat.le_trans h3 hk,h4⟩,h5⟩
theorem KnOk.below {wr w':World} {g n:Nat} {m:Mo} (h:KnOk wr g n m) (hb:Below wr.heap.size wr w'):KnOk w' g (n+1) m:=by
 obtain ⟨f,h1,h2⟩:=h;refine ⟨f,(h1.kept (hb.block _ h1.lt)).more (Nat.le_succ _),fun kl v hv=>?_⟩
 obtain ⟨c,ao,cap,e1,e2,e3⟩:=h2 kl v hv;exact ⟨c,ao,cap,e1,e2,e3.below hb⟩
theorem KnOk.put {wr w3 w':World} {g n:Nat} {m:Mo} {f:Lit->Option Value} {code:Int} {ao:Option Addr} {cap:Nat} (h1:MapIs wr 3 g n f) (h2:KnAt wr m f) (hb:Below wr.heap.size wr w3) (hg:w3.grownBy w' (some g))
  (hm:MapIs w' 3 g (n+1) (fput f (.int .i64 code) (.agg #[.slice ao (nextL m code).length cap]))) (hI:IntsV w3 (.slice ao (nextL m code).length cap) (nextL m code)):KnOk w' g (n+1) m/\IntsV w' (.slice ao (nextL m code).length cap) (nextL m code):=by
 have hmm:∃ es c,w3.heap[g]? = some (.map es c):=(h1.kept (hb.block _ h1.lt)).isMap
 have hs:Sk g g w3 w':=Sk.grown hg (.inl rfl);refine ⟨⟨_,hm,fun kl v hv=>?_⟩,hI.overMap hmm hs⟩
 by_cases hk:kl=.int .i64 code
 ·subst hk
  rw [fput_same] at hv
  cases hv
  exact ⟨code,ao,cap,rfl,rfl,hI.overMap hmm hs⟩
 ·rw [fput_other hk] at hv
  obtain ⟨c,ao',cap',e1,e2,e3⟩:=h2 kl v hv;exact ⟨c,ao',cap',e1,e2,(e3.below hb).overMap hmm hs⟩
open Classical in
theorem allLead_any (va vr:Value) (m:Mo) (b off cap:Nat) (cs:List Int) (w:World) (hB:0 < w.heap.size) (hT:TabAt w) (hV:ModelV w va vr m) (hm:mcode m=0) (h2:2 <= cs.length) (hM:cs.length <= 1099511627776) (hcap:cs.length <= cap) (hb:b < w.heap.size) (hC:IntsAt w b off cs)
  (h0:0 <= cs.getD 0 0/\cs.getD 0 0 < prodTo m.vars m.vars.length) :
  Calls Tryz.prog 22 #[.agg #[va,vr],.slice (some ⟨b,off,none⟩) cs.length cap] w fun e w'=>e=.returned (.bool (decide (LeadsTo m cs (cs.length - 1))))/\Below w.heap.size w w':=by
 obtain ⟨ao,ac,rfl⟩:=hV.1.shape;obtain ⟨ro,rc,rfl⟩:=hV.2.shape;have hP:=(mcode_vars hm).prod (Nat.le_refl m.vars.length);obtain ⟨W1,hW1⟩:∃ W1,W1=w.alloc (.cells #[.slice ao m.vars.length ac,.slice ro m.rules.length rc] 31):=⟨_,rfl⟩
 have hb1:Below w.heap.size w W1:=by rw [hW1];exact (Below.refl _ _).alloc (Nat.le_refl _) _
 have hz1:W1.heap.size=w.heap.size+1:=by rw [hW1];simp
 have HNe:Hid (∀ (w1:World) (code:Int),Below (w.heap.size+1) W1 w1->(0 <= code/\code < prodTo m.vars m.vars.length)->Calls Tryz.prog 16 #[.agg #[.slice ao m.vars.length ac,.slice ro m.rules.length rc],.int .i64 code] w1 fun e w'=>∃ no nc,e=.returned (.tuple #[.slice no (nextL m code).length nc,.int .i64 0])/\Below w1.heap.size w1 w'/\Hid (IntsV w' (.slice no (nextL m code).length nc) (nextL m code)/\∀ a,no=some a->w1.heap.size <= a.block)):=fun w1 code h hcr=>by
  have h0:=hb1.trans (h.mono (Nat.le_succ _));refine (next_own _ _ m code w1 (Nat.lt_of_lt_of_le hB h0.size) (hT.below h0 hB) (hV.below h0) hm).mono fun e w' ⟨v,q1,q2,q3⟩=>?_
  have q4:=intsV_of_owns q3;rw [nxtL_yes hm hcr] at q4;obtain ⟨no,nc,rfl,hx⟩:=q4;refine ⟨no,nc,by rw [q1,wcode_yes hm hcr],q2,⟨no,nc,rfl,hx⟩,fun a e=>?_⟩
  rcases q3.2 with ⟨e3,_⟩ | ⟨g',cap',cur',e3,e4,_⟩
  ·rw [e] at e3;cases e3
  ·rw [e] at e3
   injection e3 with e3 _ _
   injection e3 with e3
   rw [e3];exact e4
 have HCo:Hid (∀ (w1:World) (no:Option Addr) (nc:Nat) (code x:Int),(0 <= code/\code < prodTo m.vars m.vars.length)->IntsV w1 (.slice no (nextL m code).length nc) (nextL m code)->Calls Tryz.prog 48 #[.slice no (nextL m code).length nc,.int .i64 x] w1 fun e w'=>e=.returned (.bool (decide (x∈nextL m code)))/\w'=w1):=fun w1 no nc code x hcr hI=>containsV_any no nc (nextL m code) x w1 (by have:=nxtL_length m code;rw [nxtL_yes hm hcr] at this;have h9:=(mcode_rules hm);omega) hI
 have HBx:Hid (∀ w1,Below (w.heap.size+1) W1 w1->w1.cell? ⟨w.heap.size,0,none⟩=some (.slice ao m.vars.length ac)/\w1.cell? ⟨w.heap.size,1,none⟩=some (.slice ro m.rules.length rc)):=fun w1 h=>by
  have hl:w.heap.size < w.heap.size+1:=Nat.lt_succ_self _;exact ⟨(h.cell (p:=⟨w.heap.size,0,none⟩) hl).trans (by rw [hW1];simp [go_sem]),(h.cell (p:=⟨w.heap.size,1,none⟩) hl).trans (by rw [hW1];simp [go_sem])⟩
 have HCs:Hid (∀ w1,Below (w.heap.size+1) W1 w1->∀ i,i < cs.length->w1.cell? ⟨b,off+i,none⟩=some (.int .i64 (cs.getD i 0))):=fun w1 h i hi=>((hb1.trans (h.mono (Nat.le_succ _))).cell (p:=⟨b,off+i,none⟩) hb).trans (hC i hi)
 have HRg:Hid (∀ k,LeadsTo m cs k->0 <= cs.getD k 0/\cs.getD k 0 < prodTo m.vars m.vars.length):=fun k h=>h.range hm h0
 have HNo:Hid (∀ k,k+1 < cs.length->(0 <= cs.getD k 0/\cs.getD k 0 < prodTo m.vars m.vars.length)->cs.getD (k+1) 0∉nextL m (cs.getD k 0)->decide (LeadsTo m cs (cs.length - 1))=false):=fun k hk hr hn=>decide_eq_false fun h=>hn (by have:=h k (by omega);rw [nxtL_yes hm hr] at this;exact this)
 have HYs:Hid (∀ k,LeadsTo m cs k->cs.getD (k+1) 0∈nextL m (cs.getD k 0)->LeadsTo m cs (k+1)):=fun k h h2=>h.succ (by rw [nxtL_yes hm (h.range hm h0)];exact h2)
 have HRes:Hid (∀ k,LeadsTo m cs k->k=cs.length - 1->decide (LeadsTo m cs (cs.length - 1))=true):=fun k h e=>by rw [<- e];exact decide_eq_true h
 have HK0:Hid (∀ w1:World,KnOk (w1.alloc (.map #[] 0)) w1.heap.size 0 m):=fun w1=>⟨fun _=>none,MapIs.new _ (MapKept.heap_alloc w1 _).1,fun kl v h=>by cases h⟩
 have HPut:Hid (∀ (w1:World) (g n:Nat) (f:Lit->Option Value) (code:Int) (v:Value),MapIs w1 3 g n f->n <= 1099511627776->(0 <= code/\code < prodTo m.vars m.vars.length)->∃ w',(Instr.mapUpdate 125 (.map (some g)) (.int .i64 code) v).run Tryz.prog w1=.ok () w'/\MapIs w' 3 g (n+1) (fput f (.int .i64 code) v)/\w1.grownBy w' (some g)):=fun w1 g n f code v h hn hcr=>h.put keyedIV Tryz.underlying125 (by unfold maxLen;omega) (val:=v) (keyIV (by omega)) (by simp [WideAt.IsKeyLit])
 have HLk:Hid (∀ (w1:World) (g n:Nat) (f:Lit->Option Value) (code:Int),MapIs w1 3 g n f->(0 <= code/\code < prodTo m.vars m.vars.length)->(Instr.lookup 125 (.map (some g)) (.int .i64 code) true).run Tryz.prog w1=.ok (.tuple #[(f (.int .i64 code)).getD (.agg #[.slice none 0 0]),.bool (f (.int .i64 code)).isSome]) w1):=fun w1 g n f code h hcr=>h.look keyedIV Tryz.underlying125 (zeroStV _) (keyIV (by omega))
 generalize decide (LeadsTo m cs (cs.length - 1))=res at *;obtain ⟨n,hn⟩:∃ n,n=cs.length:=⟨_,rfl⟩
 have HN:Hid (n=cs.length):=hn;rw [<- hn] at h2 hM hcap HCs HNo HRes ⊢;generalize m.vars.length=vn at *;generalize m.rules.length=rn at *;have hc1:¬ cap=1:=by omega
 have HKs:Hid (KnOk (W1.alloc (.map #[] 0)) (w.heap.size+1) 0 m):=by have h:=HK0.out W1;rw [hz1] at h;exact h
 have HBs:Hid (Below (w.heap.size+1) W1 (W1.alloc (.map #[] 0))):=(Below.refl _ _).alloc (by omega) _
 have HBe:Hid (∀ w1,Below (w.heap.size+1) W1 w1->Below w.heap.size w w1):=fun w1 h=>hb1.trans (h.mono (Nat.le_succ _))
 have HBn:Hid (∀ (wr:World) (v:Value) (w':World),Below (wr.heap.size+1) (wr.alloc (.cells #[v] 127)) w'->Below wr.heap.size wr w'/\w'.cell? ⟨wr.heap.size,0,none⟩=some v/\w'.frozen? ⟨wr.heap.size,0,none⟩=false):=fun wr v w' h=>by
  have hl:wr.heap.size < wr.heap.size+1:=Nat.lt_succ_self _;exact ⟨((Below.refl _ _).alloc (Nat.le_refl _) _).trans (h.mono (Nat.le_succ _)),(h.cell (p:=⟨wr.heap.size,0,none⟩) hl).trans (by simp [go_sem]),(h.frozen (p:=⟨wr.heap.size,0,none⟩) hl).trans (by simp [go_sem])⟩
 clear hT hV hC h0 hn hm hP HK0;have hmm:=@run_makeMap Tryz.prog
 go_enter Tryz.func22,Tryz.ntmps22
 go_wp2_with fail
 rw [<- hW1];clear hW1 hz1 hb1;obtain ⟨p,hp⟩:∃ p,n - 1=p:=⟨_,rfl⟩
 rw [hp];have HPn:Hid (n=p+1):=by show _=_;omega
 have hpM:p <= 1099511627776:=by omega
 rw [hp] at HRes;clear hp
 go_loopw [17] (fun i wr=>∃ k:Nat,k <= p/\i=.int .i64 (k:Int)/\Hid (LeadsTo m cs k)/\Hid (KnOk wr (w.heap.size+1) k m)/\Hid (Below (w.heap.size+1) W1 wr)) (fun i _=>p - (intOf i).toNat)
 case atStart=>exact ⟨0,Nat.zero_le _,rfl,LeadsTo.zero _ _,HKs,HBs⟩
 case round=>
  obtain ⟨k,hk,rfl,HL,HK,HBl⟩:=hrel
  by_cases hlt:k < p
  ·obtain ⟨f,hf,hfa⟩:=HK.out
   have hbl:=HBl.out;have hws:w.heap.size+1 <= wr.heap.size:=Nat.le_of_lt HK.out.lt;have hrg:=HRg.out k HL.out;have hpn:=HPn.out;have c0:=HCs.out wr hbl k (by omega)
   have c1:wr.cell? ⟨b,off+1+k,none⟩=_:=(congrArg (fun j=>wr.cell? ⟨b,j,none⟩) (by omega:off+1+k=off+(k+1))).trans (HCs.out wr hbl (k+1) (by omega))
   have hlk:=HLk.out wr _ _ f _ hf hrg;have HNx:Hid _:=HNo.out k (by omega) hrg
   have HYx:Hid _:=HYs.out k HL.out;have hki:(k:Int) < (p:Int):=by omega
   have hki2:(k:Int) < (n:Int):=by omega
   clear hpn HL;generalize cs.getD k 0=x at *;generalize cs.getD (k+1) 0=y at *;have HF:Hid (MapIs wr 3 (w.heap.size+1) k f/\KnAt wr m f):=⟨hf,hfa⟩
   cases hfx:f (.int .i64 x) with
   | some v=>
    obtain ⟨c,no,nc,e1,e2,hI⟩:=hfa _ _ hfx
    injection e1 with _ e1
    subst e1 e2;rw [hfx] at hlk;simp only [Option.getD_some,Option.isSome_some] at hlk;have hB3:Below wr.heap.size wr (wr.alloc (.cells #[.slice no (nextL m x).length nc] 127)):=(Below.refl _ _).alloc (Nat.le_refl _) _;have hco:=HCo.out _ no nc x y hrg (hI.below hB3)
    have HKn:Hid (KnOk (wr.alloc (.cells #[.slice no (nextL m x).length nc] 127)) (w.heap.size+1) (k+1) m):=HK.out.below hB3;have HB4:Hid (Below (w.heap.size+1) W1 (wr.alloc (.cells #[.slice no (nextL m x).length nc] 127))):=hbl.trans (hB3.mono hws);clear hf hfa hfx hI hB3 HK HF;generalize (nextL m x).length=nn at *
    by_cases hy:y∈nextL m x
    ·rw [decide_eq_true hy] at hco
     have HY:Hid (LeadsTo m cs (k+1)):=HYx.out hy;clear hy hrg HNx
     go_wp2_with (go_at_call 48;refine hco.mono ?_;rintro e w4 ⟨rfl,rfl⟩)
     go_roundw
     case rel=>exact ⟨k+1,by omega,by go_num,HY,HKn,HB4⟩
     case measure=>simp [intOf];omega
    ·rw [decide_eq_false hy] at hco
     have HR:Hid (res=false):=HNx.out hy;clear hy hrg HYx
     go_wp2_with (go_at_call 48;refine hco.mono ?_;rintro e w4 ⟨rfl,rfl⟩)
     go_ret
     exact ⟨by rw [HR.out];rfl,HBe.out _ HB4.out⟩
   | none=>
    rw [hfx] at hlk;simp only [Option.getD_none,Option.isSome_none] at hlk;have hB2:Below wr.heap.size wr (wr.alloc (.cells #[.slice none 0 0] 127)):=(Below.refl _ _).alloc (Nat.le_refl _) _;have hbl2:=hbl.trans (hB2.mono hws);have hne:=HNe.out _ x hbl2 hrg;obtain ⟨m0,m1⟩:=HBx.out _ hbl2;have HNw:=HBn.out wr (.slice none 0 0)
    have hszA:(wr.alloc (.cells #[.slice none 0 0] 127)).heap.size=wr.heap.size+1:=by simp
    have HNw:Hid (∀ w',Below (wr.alloc (.cells #[.slice none 0 0] 127)).heap.size (wr.alloc (.cells #[.slice none 0 0] 127)) w'->Below wr.heap.size wr w'/\w'.cell? ⟨wr.heap.size,0,none⟩=some (.slice none 0 0)/\w'.frozen? ⟨wr.heap.size,0,none⟩=false):=fun w' h=>HBn.out wr _ w' (by rw [hszA] at h;exact h)
    have HSt:Hid (∀ (w2:World) (no:Option Addr) (nc:Nat),Below (wr.alloc (.cells #[.slice none 0 0] 127)).heap.size (wr.alloc (.cells #[.slice none 0 0] 127)) w2->(IntsV w2 (.slice no (nextL m x).length nc) (nextL m x)/\∀ a,no=some a->(wr.alloc (.cells #[.slice none 0 0] 127)).heap.size <= a.block)->∃ w4,(Instr.mapUpdate 125 (.map (some (w.heap.size+1))) (.int .i64 x) (.agg #[.slice no (nextL m x).length nc])).run Tryz.prog (w2.setCell ⟨wr.heap.size,0,none⟩ (.slice no (nextL m x).length nc))=.ok () w4/\w4.cell? ⟨wr.heap.size,0,none⟩=some (.slice no (nextL m x).length nc)/\Hid (KnOk w4 (w.heap.size+1) (k+1) m)/\Hid (Below (w.heap.size+1) W1 w4)/\IntsV w4 (.slice no (nextL m x).length nc) (nextL m x)):=fun w2 no nc h hI=>by
     obtain ⟨hI,hIa⟩:=hI;obtain ⟨q1,q2,q3⟩:=HNw.out w2 h;have hB3:Below wr.heap.size wr (w2.setCell ⟨wr.heap.size,0,none⟩ (.slice no (nextL m x).length nc)):=⟨q1.os,q1.tape,q1.output,by simpa using q1.size,fun i hi=>(RowKit.Below.heap_setCell _ _ _ _ (by show i≠wr.heap.size;omega)).trans (q1.block i hi)⟩
     obtain ⟨w4,r1,r2,r3⟩:=HPut.out _ _ k f x (.agg #[.slice no (nextL m x).length nc]) (HF.out.1.kept (hB3.block _ HF.out.1.lt)) (by omega) hrg
     have hI3:IntsV (w2.setCell ⟨wr.heap.size,0,none⟩ (.slice no (nextL m x).length nc)) (.slice no (nextL m x).length nc) (nextL m x):=by
      obtain ⟨ao,cap,e,hx⟩:=hI
      injection e with e1 _ e3
      subst e1 e3;refine ⟨_,_,rfl,fun hne=>?_⟩
      obtain ⟨b,off,rfl,hlt,hat⟩:=hx hne;have:=hIa _ rfl;rw [hszA] at this;exact ⟨b,off,rfl,by simpa using hlt,fun i hi=>by rw [World.cell?_setCell_other _ _ _ _ (by intro e;injection e with e _;simp at this;omega)];exact hat i hi⟩
     obtain ⟨t1,t2⟩:=KnOk.put HF.out.1 HF.out.2 hB3 r3 r2 hI3;have hb3w:=hbl.trans (hB3.mono hws);have hmm:∃ es c,(w2.setCell ⟨wr.heap.size,0,none⟩ (.slice no (nextL m x).length nc)).heap[w.heap.size+1]? = some (.map es c):=(HF.out.1.kept (hB3.block _ HF.out.1.lt)).isMap
     refine ⟨w4,r1,?_,t1,hb3w.grown r3 (Nat.le_trans hws hB3.size) (fun q hq=>by injection hq with hq;omega),t2⟩
     refine (Sk.grown r3 (.inl rfl):Sk (w.heap.size+1) (w.heap.size+1) _ _).cell ⟨hmm,hmm⟩ ?_
     simp [go_sem,q2]
    have HCx:Hid (∀ (w1:World) (no:Option Addr) (nc:Nat),IntsV w1 (.slice no (nextL m x).length nc) (nextL m x)->Calls Tryz.prog 48 #[.slice no (nextL m x).length nc,.int .i64 y] w1 fun e w'=>e=.returned (.bool (decide (y∈nextL m x)))/\w'=w1):=fun w1 no nc h=>HCo.out w1 no nc x y hrg h
    clear hf hfa hfx HK HF hB2 hbl2 HBx;generalize (nextL m x).length=nn at *
    by_cases hy:y∈nextL m x
    ·rw [decide_eq_true hy] at HCx
     have HY:Hid (LeadsTo m cs (k+1)):=HYx.out hy;clear hy hrg HNx
     go_wp2_with (first | (go_at_call 16;refine hne.mono ?_;rintro e w2 ⟨no,nc,rfl,hb2,HI⟩;obtain ⟨_,g1,g2⟩:=HNw.out w2 hb2;obtain ⟨w4,hrun,g3,HKn,HB4,hI4⟩:=HSt.out w2 no nc hb2 HI.out;have hco:=HCx.out w4 no nc hI4) | (go_at_call 48;refine hco.mono ?_;rintro e w5 ⟨rfl,rfl⟩))
     go_roundw
     case rel=>exact ⟨k+1,by omega,by go_num,HY,HKn,HB4⟩
     case measure=>simp [intOf];omega
    ·rw [decide_eq_false hy] at HCx
     have HR:Hid (res=false):=HNx.out hy;clear hy hrg HYx
     go_wp2_with (first | (go_at_call 16;refine hne.mono ?_;rintro e w2 ⟨no,nc,rfl,hb2,HI⟩;obtain ⟨_,g1,g2⟩:=HNw.out w2 hb2;obtain ⟨w4,hrun,g3,HKn,HB4,hI4⟩:=HSt.out w2 no nc hb2 HI.out;have hco:=HCx.out w4 no nc hI4) | (go_at_call 48;refine hco.mono ?_;rintro e w5 ⟨rfl,rfl⟩))
     go_ret
     exact ⟨by rw [HR.out];rfl,HBe.out _ HB4.out⟩
  ·obtain rfl:k=p:=by omega
   have HR:Hid (res=true):=HRes.out k HL.out rfl;have hbe:=HBe.out _ HBl.out;clear HK HL HRes
   go_wp2
   go_ret
   exact ⟨by rw [HR.out];rfl,hbe⟩
end Go.Proofs.YtfofjdddplodpaaGreatDoor
namespace Go.Proofs.YtfofjdddplodpaaGreatDoor
open Go.ChangeShapes Go.WideShapes Go.ChangeAt Go.RowKit Go.Deep
open Terms
set_option maxHeartbeats 6400000
set_option maxRecDepth 20000
theorem growI_any (n:Nat) (w:World) (h0:0 < n) (h24:n <= 1099511627776) :
  Calls Tryz.prog 47 #[.slice none 0 0,.int .i64 (n:Int)] w fun e w'=>∃ B cap,e=.returned (.slice (some ⟨B,0,none⟩) 0 cap)/\Below w.heap.size w w'/\w'.ownsRow w.heap.size 3 1 (.slice (some ⟨B,0,none⟩) 0 cap) 0 []:=by
 obtain ⟨i0,hi,hz0,hz1,hz2⟩:=info_parts infoInt
 have hrz:∀ ty,(Builtin.append_ #[27,3] ty #[.slice none 0 0,.int .i64 (n:Int)]).run Tryz.prog w=.ok (.slice (some ⟨w.heap.size,0,none⟩) n (grownCap w n 0 3)) (w.drew.alloc (.cells (Builtin.zeroCells (Value.int .i64 0).cells n++Builtin.zeroCells (Value.int .i64 0).cells (grownCap w n 0 3 - n)) 3)):=fun ty=>
  Lib.run_append_nil_zeros w 27 3 ty 3 i0 (.int .i64 0) .i64 .i64 Tryz.underlying27 Tryz.underlying3 hi hz0 n h0 (by omega) (by omega) (by rw [hz2];omega)
 have hge:=grownCap_ge w n 0 3;have hle:=grownCap_le_maxLen w n 0 3 (by unfold maxLen;omega)
 generalize grownCap w n 0 3=G at hrz hge hle;have hG:G <= 9223372036854775807:=by unfold maxLen at hle;omega
 have hn:¬ (n:Int) < 0:=by omega
 have hn2:(n:Int) > 0:=by omega
 go_enter Tryz.func47,Tryz.ntmps47
 go_wp2_with (at_builtin;refine Lib.wpList_append_run _ rfl _ _ _ _ rfl _ _ rfl rfl _ _ (hrz _) ?_)
 go_ret
 refine ⟨_,_,rfl,(below_drewN (Below.refl _ _) 1).alloc (Nat.le_refl _) _,?_⟩
 refine ⟨rfl,.inr ⟨w.heap.size,G,Builtin.zeroCells #[Value.int .i64 0] n++Builtin.zeroCells #[Value.int .i64 0] (G - n),rfl,Nat.le_refl _,?_,Nat.zero_le _,hle,?_,by simp⟩⟩
 ·show (w.heap.push _)[w.heap.size]? = _
  simp
 ·simp [size_zeroCells]
  omega
def accI (xs:List (List Int)) (k:Nat):List Int:=(xs.take k).flatten
theorem accI_step {xs:List (List Int)} {k:Nat} (h:k < xs.length):accI xs (k+1)=accI xs k++xs.getD k []:=by
 unfold accI;rw [List.take_succ_eq_append_getElem h,List.flatten_append];simp [List.getD_eq_getElem?_getD,h]
theorem accI_le (xs:List (List Int)) (k:Nat):(accI xs k).length <= xs.flatten.length:=by
 unfold accI;have:=congrArg List.length (congrArg List.flatten (List.take_append_drop k xs));rw [List.flatten_append,List.length_append] at this;omega
theorem concatI_own (g:Nat) (xs:List (List Int)) (w0 w:World) (hb0:Below w0.heap.size w0 w) (h3:xs.length=3) (h0:1 <= xs.flatten.length) (hM:xs.flatten.length <= 1099511627776)
  (hX:∀ k,k < 3->∃ v,w.cell? ⟨g,k,none⟩=some v/\IntsW w0 v (xs.getD k [])) :
  Calls Tryz.prog 21 #[.slice (some ⟨g,0,none⟩) 3 3] w fun e w'=>∃ B cap,e=.returned (.slice (some ⟨B,0,none⟩) xs.flatten.length cap)/\Below w.heap.size w w'/\Hid (w'.ownsRow w.heap.size 3 1 (.slice (some ⟨B,0,none⟩) xs.flatten.length cap) xs.flatten.length (ivals xs.flatten)):=by
 obtain ⟨v0,c0,_⟩:=hX 0 (by omega)
 have hg:=World.block_lt_of_cell? w ⟨g,0,none⟩ c0;clear c0;obtain ⟨i0,hi,hz0,hz1,hz2⟩:=info_parts infoInt;obtain ⟨zz,hzz⟩:∃ zz:Nat->Int,zz=fun k=>((accI xs k).length:Int):=⟨_,rfl⟩
 have HAt:Hid (∀ k,k < 3->∃ xo xn xc xl,w.cell? ⟨g,k,none⟩=some (.slice xo xn xc)/\zz (k+1)=zz k+(xn:Int)/\0 <= zz k/\zz k <= 1099511627776/\xn <= 1099511627776/\xn=xl.length/\accI xs (k+1)=accI xs k++xl/\(accI xs k).length+xn <= 1099511627776/\IntsW w0 (.slice xo xn xc) xl):=fun k hk=>by
  obtain ⟨v,hc,hI⟩:=hX k hk;obtain ⟨ao,cap,rfl,h1,h2⟩:=id hI;have e1:=accI_step (xs:=xs) (k:=k) (by omega)
  have e2:=accI_le xs k;have e3:=accI_le xs (k+1);have e4:=congrArg List.length e1;rw [List.length_append] at e4
  exact ⟨ao,_,cap,xs.getD k [],hc,by rw [hzz];show ((accI xs (k+1)).length:Int)=((accI xs k).length:Int)+_;omega,by rw [hzz];show (0:Int) <= ((accI xs k).length:Int);omega,by rw [hzz];show ((accI xs k).length:Int) <= _;omega,by omega,rfl,e1,by omega,hI⟩
 have HZ0:Hid (zz 0=0):=by show _=_;rw [hzz];rfl
 have HA0:Hid (accI xs 0=[]):=rfl;have HA3:Hid (accI xs 3=xs.flatten):=by show _=_;unfold accI;rw [<- h3,List.take_length]
 have HZ3:Hid (zz 3=((xs.flatten.length:Nat):Int)):=by show _=_;rw [hzz,<- HA3.out]
 have hgr:=fun w1=>growI_any xs.flatten.length w1 (by omega) hM
 have HLen:Hid (xs.flatten.length=xs.flatten.length):=rfl;generalize xs.flatten=fl at *;obtain ⟨tn,htn⟩:∃ tn,tn=fl.length:=⟨_,rfl⟩
 have HTn:Hid (tn=fl.length):=htn;rw [<- htn] at hgr HLen HZ3 hM h0 ⊢;generalize accI xs=ac at *;clear hX htn hzz h3 HLen
 go_enter Tryz.func21,Tryz.ntmps21
 go_wp2
 go_loop [3,11] (fun z i=>∃ k:Nat,k <= 3/\i=.int .i64 (k:Int)/\z=.int .i64 (zz k)) (fun _ i=>3 - (intOf i).toNat)
 case atStart=>exact ⟨0,by omega,rfl,by rw [HZ0.out]⟩
 case round=>
  obtain ⟨k,hk,rfl,rfl⟩:=hrel
  by_cases hlt:k < 3
  ·obtain ⟨xo,xn,xc,xl,hc,hz,hz00,hz12,hx12,hr⟩:=HAt.out k hlt
   clear hr;have HZ:Hid (zz (k+1)=zz k+(xn:Int)):=hz;clear hz;generalize zz k=z0 at *
   go_wp2
   go_round
   case rel=>exact ⟨k+1,hlt,by go_num,by rw [HZ.out]⟩
   case measure=>simp [intOf];omega
  ·obtain rfl:k=3:=by omega
   rw [HZ3.out]
   go_wp2_with (go_at_call 47;refine (hgr _).mono ?_;rintro e w1 ⟨B,cap,rfl,hb1,ho1⟩)
   clear hgr
   go_loopw [6,27] (fun nv i wr=>∃ k:Nat,k <= 3/\i=.int .i64 (k:Int)/\∃ B cap,nv=.slice (some ⟨B,0,none⟩) (ac k).length cap/\Hid (wr.ownsRow w.heap.size 3 1 nv (ac k).length (ivals (ac k)))/\Below w.heap.size w wr) (fun _ i _=>3 - (intOf i).toNat)
   case atStart=>exact ⟨0,by omega,rfl,B,cap,by rw [HA0.out];rfl,by rw [HA0.out];exact ho1,hb1⟩
   case round=>
    obtain ⟨k,hk,rfl,B,cap,rfl,HU,hbel⟩:=hrel
    by_cases hlt:k < 3
    ·obtain ⟨xo,xn,xc,xl,hc,_,_,_,hx12,hxn,hac,hal,hX⟩:=HAt.out k hlt
     have hcr:=(hbel.cell (p:=⟨g,k,none⟩) hg).trans hc;have hown:=HU.out;have HXN:Hid (xn=xl.length):=hxn;have HAC:Hid (ac (k+1)=ac k++xl):=hac;obtain ⟨xo',xc',hxv,hx0,hxat⟩:=hX
     injection hxv with e1 e2 e3
     subst e1 e3;obtain ⟨us,hus⟩:∃ us,us=ivals (ac k):=⟨_,rfl⟩
     have HUS:Hid (us=ivals (ac k)):=hus;obtain ⟨un,hun⟩:∃ un,un=(ac k).length:=⟨_,rfl⟩
     have HUN:Hid (un=(ac k).length):=hun;rw [<- hus,<- hun] at hown;rw [<- hun] at hal ⊢;clear hxn hac hus hun e2 HU
     cases xo with
     | none=>
      obtain ⟨hc0,hl0⟩:=hx0 rfl;have HL0:Hid (xl=[]):=hl0;have hxn0:xn=0:=by rw [HXN.out,HL0.out];rfl
      subst hxn0 hc0;clear hx0 hxat hl0
      go_wp2_with (at_builtin;refine wpList_append_own_none rfl (.tmp 31) (.tmp 32) 27 rfl w.heap.size 3 i0 1 Tryz.underlying27 hi _ _ _ rfl hown rfl ?_)
      go_roundw
      case rel=>exact ⟨k+1,hlt,by go_num,B,cap,by rw [HAC.out,HL0.out,List.append_nil,HUN.out],by show World.ownsRow _ _ _ _ _ _ _;rw [HAC.out,HL0.out,List.append_nil,<- HUN.out,<- HUS.out];exact hown,hbel⟩
      case measure=>simp [intOf];omega
     | some a=>
      have hcells:∀ j u,(ivals xl)[j]? = some u->wr.cell? (a.add j)=some u:=by
       intro j u hj;have hjl:j < xl.length:=by have:=(List.getElem?_eq_some_iff.1 hj).1;simpa [ivals] using this
       obtain ⟨b,off,e,hbl,hat⟩:=hxat (by rintro rfl;simp at hjl)
       obtain rfl:=Option.some.inj e;rw [Go.WideShapes.add_plain,(hb0.trans (hbel.mono hb0.size)).cell (p:=⟨b,off+j,none⟩) hbl,hat j hjl];simp [ivals,hjl] at hj
       simp [List.getD_eq_getElem?_getD,hjl,hj]
      have hvl:(ivals xl).length=xn*1:=by rw [HXN.out];simp [ivals]
      have hv1:=ivals_one xl;have hbsz:=hbel.size;have hnb:=hown.lt;clear hx0 hxat
      go_wp2_with (at_builtin;refine wpList_append_own _ rfl (.tmp 31) (.tmp 32) 27 rfl w.heap.size 3 i0 (.int .i64 0) 1 8 Tryz.underlying27 hi hz0 hz1 hz2 rfl (by decide) (.slice (some ⟨B,0,none⟩) un cap) un us rfl hown a xn xc (ivals xl) rfl hvl hcells hv1 (by unfold maxLen;omega) (by omega) hbsz ?_;intro v' w4 hown' hgrow hne)
      have hb4:Below w.heap.size w w4:=hbel.grown hgrow hbsz (fun q hq=>(hnb q hq).1)
      obtain ⟨B4,cap4,rfl⟩:∃ B4 cap4,v'=.slice (some ⟨B4,0,none⟩) (un+xn) cap4:=by
       rcases hown'.2 with ⟨h,_⟩ | ⟨g',cap',cur',h,_⟩
       ·exact absurd (hne.1 h).1 (by simp)
       ·exact ⟨_,_,h⟩
      have HLn:Hid (un+xn=(ac (k+1)).length):=by show _=_;rw [HAC.out,List.length_append,<- HUN.out,HXN.out]
      have HU4:Hid (w4.ownsRow w.heap.size 3 1 (.slice (some ⟨B4,0,none⟩) (un+xn) cap4) (ac (k+1)).length (ivals (ac (k+1)))):=by
       show World.ownsRow _ _ _ _ _ _ _
       rw [<- HLn.out,HAC.out,show ivals (ac k++xl)=us++ivals xl by rw [HUS.out];simp [ivals]]
       exact hown'
      clear hown' hgrow hown hcells hne
      go_roundw
      case rel=>exact ⟨k+1,hlt,by go_num,B4,cap4,by rw [HLn.out],HU4,hb4⟩
      case measure=>simp [intOf];omega
    ·obtain rfl:k=3:=by omega
     have HF:Hid (wr.ownsRow w.heap.size 3 1 (.slice (some ⟨B,0,none⟩) tn cap) tn (ivals fl)):=by
      have h1:=HU.out;rw [HA3.out,<- HTn.out] at h1;exact h1
     rw [HA3.out,<- HTn.out];clear HU
     go_wp2
     go_ret
     exact ⟨_,_,rfl,hbel,HF⟩
end Go.Proofs.YtfofjdddplodpaaGreatDoor
namespace Go.Proofs.YtfofjdddplodpaaGreatDoor
open Go.ChangeShapes Go.WideShapes Go.ChangeAt Go.RowKit Go.Deep Go.Maps
open Terms Tm
set_option maxHeartbeats 6400000
set_option maxRecDepth 20000
def IntsX (w:World) (v:Value) (l:List Int):Prop:=∃ ao cap,v=.slice ao l.length cap/\l.length <= cap/\(ao=none->cap=0/\l=[])/\(l≠[]->∃ b off,ao=some ⟨b,off,none⟩/\b < w.heap.size/\IntsAt w b off l)
theorem IntsX.w {w:World} {v:Value} {l:List Int} (h:IntsX w v l):IntsW w v l:=by
 obtain ⟨ao,cap,h1,_,h2,h3⟩:=h;exact ⟨ao,cap,h1,h2,h3⟩
theorem IntsX.below {w w':World} {v:Value} {l:List Int} (h:IntsX w v l) (hb:Below w.heap.size w w'):IntsX w' v l:=by
 obtain ⟨ao,cap,h1,hc,h0,h⟩:=h;refine ⟨ao,cap,h1,hc,h0,fun hne=>?_⟩
 obtain ⟨b,off,e,hlt,hat⟩:=h hne;exact ⟨b,off,e,Nat.lt_of_lt_of_le hlt hb.size,fun i hi=>(hb.cell (p:=⟨b,_,none⟩) hlt).trans (hat i hi)⟩
theorem intsX_of_owns {w:World} {base:Nat} {v:Value} {l:List Int} (h:w.ownsRow base 3 1 v l.length (ivals l)):IntsX w v l:=by
 rcases h.2 with ⟨rfl,h0⟩ | ⟨g,cap,cur,rfl,hb,hg,hnc,hcm,hcs,htake⟩
 ·have:l=[]:=by simpa using h0
  subst this;exact ⟨none,0,rfl,Nat.le_refl _,fun _=>⟨rfl,rfl⟩,fun h=>absurd rfl h⟩
 ·refine ⟨_,cap,rfl,hnc,fun h=>by simp at h,fun _=>⟨g,0,rfl,(Array.getElem?_eq_some_iff.1 hg).1,fun i hi=>?_⟩⟩
  rw [Nat.zero_add,h.cellAt i (by omega)]
  simp [ivals,List.getD_eq_getElem?_getD,hi]
theorem runs_bad (va vr sv lv:Value) (m:Mo) (w:World) (hB:0 < w.heap.size) (hT:TabAt w) (hV:ModelV w va vr m) (hm:mcode m≠0) :
  Calls Tryz.prog 8 #[.agg #[va,vr],.agg #[sv,lv]] w fun e w'=>e=.returned (.tuple #[.bool false,.int .i64 (mcode m)])/\Below w.heap.size w w':=by
 obtain ⟨W2,hW2⟩:∃ W2,W2=(w.alloc (.cells #[va,vr] 31)).alloc (.cells #[sv,lv] 38):=⟨_,rfl⟩
 have hb2:Below w.heap.size w W2:=by rw [hW2];exact ((Below.refl _ _).alloc (Nat.le_refl _) _).alloc (by simp) _
 have hfi:=mfirst_any va vr m W2 (Nat.lt_of_lt_of_le hB hb2.size) (hT.below hb2 hB) (hV.below hb2);rw [if_neg hm] at hfi;obtain ⟨ao,ac,rfl⟩:=hV.1.shape;obtain ⟨ro,rc,rfl⟩:=hV.2.shape;generalize mcode m=q at *;generalize m.vars.length=vn at *;generalize m.rules.length=rn at *;clear hT hV;rw [hW2] at hfi
 go_enter Tryz.func8,Tryz.ntmps8
 go_wp2_with (go_at_call 15;refine hfi.mono ?_;rintro e w1 ⟨rfl,hb1⟩)
 go_ret2
 rw [<- hW2] at hb1;exact ⟨rfl,hb2.trans (hb1.mono hb2.size)⟩
theorem runs_ok (va vr sv lv:Value) (m:Mo) (ss ll:List Int) (w:World) (hB:0 < w.heap.size) (hT:TabAt w) (hV:ModelV w va vr m) (hm:mcode m=0) (hS:IntsX w sv ss) (hL:IntsX w lv ll) (hz:ss.length+ll.length <= 1099511627775) :
  Calls Tryz.prog 8 #[.agg #[va,vr],.agg #[sv,lv]] w fun e w'=>e=.returned (.tuple #[.bool (runB m ss ll),.int .i64 0])/\Below w.heap.size w w':=by
 obtain ⟨W2,hW2⟩:∃ W2,W2=(w.alloc (.cells #[va,vr] 31)).alloc (.cells #[sv,lv] 38):=⟨_,rfl⟩
 have hb2:Below w.heap.size w W2:=by rw [hW2];exact ((Below.refl _ _).alloc (Nat.le_refl _) _).alloc (by simp) _
 have hz2:W2.heap.size=w.heap.size+2:=by rw [hW2];simp
 have hfi:=mfirst_any va vr m W2 (Nat.lt_of_lt_of_le hB hb2.size) (hT.below hb2 hB) (hV.below hb2);rw [if_pos hm,hm] at hfi
 have HBx:Hid (∀ w1,Below W2.heap.size W2 w1->Below w.heap.size w w1/\w.heap.size+2 <= w1.heap.size/\w1.cell? ⟨w.heap.size,0,none⟩=some va/\w1.cell? ⟨w.heap.size,1,none⟩=some vr/\w1.cell? ⟨w.heap.size+1,0,none⟩=some sv/\w1.cell? ⟨w.heap.size+1,1,none⟩=some lv):=fun w1 h=>by
  have hl:w.heap.size < W2.heap.size:=by omega
  have hl1:w.heap.size+1 < W2.heap.size:=by omega
  refine ⟨hb2.trans (h.mono hb2.size),by have:=h.size;omega,(h.cell (p:=⟨w.heap.size,0,none⟩) hl).trans ?_,(h.cell (p:=⟨w.heap.size,1,none⟩) hl).trans ?_,(h.cell (p:=⟨w.heap.size+1,0,none⟩) hl1).trans ?_,(h.cell (p:=⟨w.heap.size+1,1,none⟩) hl1).trans ?_⟩ <;> (rw [hW2];simp [go_sem])
 by_cases hl0:ll=[]
 ·subst hl0
  rw [runB_none];obtain ⟨lo,lc,rfl,_⟩:=hL;obtain ⟨ao,ac,rfl⟩:=hV.1.shape;obtain ⟨ro,rc,rfl⟩:=hV.2.shape;generalize codeTo m.vars (initsL m.vars) m.vars.length=fc at *;generalize m.vars.length=vn at *;generalize m.rules.length=rn at *;clear hT hV hS hm;rw [hW2] at hfi
  go_enter Tryz.func8,Tryz.ntmps8
  go_wp2_with (go_at_call 15;refine hfi.mono ?_;rintro e w1 ⟨rfl,hb1⟩;rw [<- hW2] at hb1;obtain ⟨hbw,_,_,_,k2,k3⟩:=HBx.out w1 hb1)
  go_ret2
  exact ⟨rfl,hbw⟩
 ·have hlp:0 < ll.length:=List.length_pos_iff.2 hl0
  have HCon:Hid (∀ (g:Nat) (w1:World) (lo:Option Addr) (lc:Nat),lv=.slice lo ll.length lc->Below w.heap.size w w1->w1.cell? ⟨g,0,none⟩=some sv->w1.cell? ⟨g,1,none⟩=some lv->w1.cell? ⟨g,2,none⟩=some (.slice lo 1 lc)->Calls Tryz.prog 21 #[.slice (some ⟨g,0,none⟩) 3 3] w1 fun e w'=>∃ B cap,e=.returned (.slice (some ⟨B,0,none⟩) (rvd ss ll).length cap)/\Below w1.heap.size w1 w'/\Hid (B < w'.heap.size/\(rvd ss ll).length <= cap/\IntsAt w' B 0 (rvd ss ll))):=fun g w1 lo lc hlv hb c0 c1 c2=>by
   have h:=concatI_own g [ss,ll,[ll.getD 0 0]] w w1 hb rfl (by rw [rvd_flat,rvd_len];omega) (by rw [rvd_flat,rvd_len];omega) (fun k hk=>by
    have hk3:k=0\/k=1\/k=2:=by omega
    rcases hk3 with rfl | rfl | rfl
    ·exact ⟨sv,c0,hS.w⟩
    ·exact ⟨lv,c1,hL.w⟩
    ·refine ⟨_,c2,lo,lc,rfl,fun h=>?_,fun _=>?_⟩
     ·obtain ⟨_,_,e,_,hx,_⟩:=hL
      rw [hlv] at e
      injection e with e1 _ _
      subst e1;exact absurd (hx h).2 hl0
     ·obtain ⟨_,_,e,_,_,hx⟩:=hL
      rw [hlv] at e
      injection e with e1 _ _
      subst e1;obtain ⟨b,off,e,hlt,hat⟩:=hx hl0;refine ⟨b,off,e,hlt,fun i hi=>?_⟩
      have hi0:i=0:=by simp at hi;omega
      subst hi0
      exact hat 0 hlp)
   rw [rvd_flat] at h;refine h.mono fun e w' ⟨B,cap,e1,e2,e3⟩=>⟨B,cap,e1,e2,?_⟩
   obtain ⟨ao,cap',e4,e5,_,e6⟩:=intsX_of_owns e3.out
   injection e4 with e7 _ e8
   subst e7 e8;obtain ⟨b,off,e9,e10,e11⟩:=e6 (by simp [rvd])
   injection e9 with e9
   injection e9 with e12 e13
   subst e12 e13;exact ⟨e10,e5,e11⟩
  have HLd:Hid (∀ (B cap:Nat) (w1:World),Below w.heap.size w w1->(B < w1.heap.size/\(rvd ss ll).length <= cap/\IntsAt w1 B 0 (rvd ss ll))->(rvd ss ll).getD 0 0=firstC m->Calls Tryz.prog 22 #[.agg #[va,vr],.slice (some ⟨B,0,none⟩) (rvd ss ll).length cap] w1 fun e w'=>e=.returned (.bool (runB m ss ll))/\Below w1.heap.size w1 w'):=fun B cap w1 hb h hf=>by
   rw [runB_lead hm hl0 hf];exact allLead_any va vr m B 0 cap (rvd ss ll) w1 (Nat.lt_of_lt_of_le hB hb.size) (hT.below hb hB) (hV.below hb) hm (by rw [rvd_len];omega) (by rw [rvd_len];omega) h.2.1 h.1 h.2.2 (by rw [hf];exact firstC_range hm)
  have HNo:Hid ((rvd ss ll).getD 0 0≠firstC m->runB m ss ll=false):=fun h=>runB_first h
  have hrp:0 < (rvd ss ll).length:=by rw [rvd_len];omega
  have hfe:codeTo m.vars (initsL m.vars) m.vars.length=firstC m:=rfl;rw [hfe] at hfi;generalize firstC m=fc at *;generalize runB m ss ll=res at *;generalize rvd ss ll=rd at *;obtain ⟨lo,lc,rfl,hlc,_⟩:=id hL;obtain ⟨so,sc,rfl,_⟩:=id hS;obtain ⟨ao,ac,rfl⟩:=hV.1.shape;obtain ⟨ro,rc,rfl⟩:=hV.2.shape;have HC1:=fun g w1=>HCon.out g w1 lo lc rfl
  have HCon:Hid _:=HC1;clear HC1;obtain ⟨rn2,hrn2⟩:∃ x,x=rd.length:=⟨_,rfl⟩
  have HRn:Hid (rn2=rd.length):=hrn2;rw [<- hrn2] at hrp HCon HLd;generalize m.vars.length=vn at *;generalize m.rules.length=rn at *;generalize ll.length=ln at *;generalize ss.length=sn at *;have hlc1:1 <= lc:=by omega
  clear hT hV hS hL hm hl0 hfe hrn2 hz;rw [hW2] at hfi
  go_enter Tryz.func8,Tryz.ntmps8
  go_wp2_with (go_at_call 15;refine hfi.mono ?_;rintro e w1 ⟨rfl,hb1⟩;rw [<- hW2] at hb1;obtain ⟨hbw,hsz,k0,k1,k2,k3⟩:=HBx.out w1 hb1)
  have hcx:=HCon.out w1.heap.size (w1.drew.alloc (.cells #[.slice so sn sc,.slice lo ln lc,.slice lo 1 lc] 27)) (hbw.drew.alloc hbw.size _) (by simp [go_sem]) (by simp [go_sem]) (by simp [go_sem])
  have HSC:Hid (∀ w',Below w1.heap.size w1 w'->w'.cell? ⟨w.heap.size+1,0,none⟩=some (.slice so sn sc)/\w'.cell? ⟨w.heap.size+1,1,none⟩=some (.slice lo ln lc)):=fun w' h=>by
   have hl:w.heap.size+1 < w1.heap.size:=by omega
   exact ⟨(h.cell (p:=⟨w.heap.size+1,0,none⟩) hl).trans k2,(h.cell (p:=⟨w.heap.size+1,1,none⟩) hl).trans k3⟩
  have hB0:Below w1.heap.size w1 w1:=Below.refl _ _
  have HM:Hid (∀ w',Below w1.heap.size w1 w'->Below w.heap.size w w'/\w'.cell? ⟨w.heap.size,0,none⟩=some (.slice ao vn ac)/\w'.cell? ⟨w.heap.size,1,none⟩=some (.slice ro rn rc)):=fun w' h=>by
   have hl:w.heap.size < w1.heap.size:=by omega
   exact ⟨hbw.trans (h.mono hbw.size),(h.cell (p:=⟨w.heap.size,0,none⟩) hl).trans k0,(h.cell (p:=⟨w.heap.size,1,none⟩) hl).trans k1⟩
  have hlc2:(1:Int) <= (lc:Int):=by omega
  clear hfi hb1
  go_region_held3 (fun w'=>w'.cell? ⟨w.heap.size+1,0,none⟩=some (.slice so sn sc)/\w'.cell? ⟨w.heap.size+1,1,none⟩=some (.slice lo ln lc))
   (first | exact HSC.out _ hb12 | exact HSC.out _ (hB0.drew.alloc hB0.drew.size _) | exact HSC.out _ hB0.drew | exact HSC.out _ hB0)
   (first
    | (go_at_call 21;refine hcx.mono ?_;rintro e w3 ⟨B,cap,rfl,hb3,HR⟩;have hb12:Below w1.heap.size w1 w3:=(hB0.drew.alloc hB0.drew.size _).trans (hb3.mono (by simp))))
  obtain ⟨hbw3,m0,m1⟩:=HM.out w3 hb12;have hR:=HR.out;have HLd3:=HLd.out B cap w3 hbw3 hR;have cz:=hR.2.2 0 (by rw [<- HRn.out];exact hrp)
  rw [Nat.zero_add] at cz;clear hR HR
  by_cases hf:rd.getD 0 0=fc
  ·have hld:=HLd3 hf
   rw [hf] at cz;clear HLd3 hf HNo
   go_wp2_with (go_at_call 22;refine hld.mono ?_;rintro e w4 ⟨rfl,hb4⟩)
   go_ret2
   exact ⟨rfl,hbw3.trans (hb4.mono hbw3.size)⟩
  ·have HNf:Hid (res=false):=HNo.out hf
   generalize rd.getD 0 0=y at *;clear HLd3
   go_wp2_with fail
   go_ret2
   exact ⟨by rw [HNf.out];first | rfl | simp [hf],hbw3⟩
theorem runs_any (va vr sv lv:Value) (m:Mo) (ss ll:List Int) (w:World) (hB:0 < w.heap.size) (hT:TabAt w) (hV:ModelV w va vr m) (hS:IntsX w sv ss) (hL:IntsX w lv ll) (hz:ss.length+ll.length <= 1099511627775) :
  Calls Tryz.prog 8 #[.agg #[va,vr],.agg #[sv,lv]] w fun e w'=>e=.returned (.tuple #[.bool (runB m ss ll),.int .i64 (mcode m)])/\Below w.heap.size w w':=by
 by_cases hm:mcode m=0
 ·have h:=runs_ok va vr sv lv m ss ll w hB hT hV hm hS hL hz
  rw [hm];exact h
 ·rw [runB_bad hm]
  exact runs_bad va vr sv lv m w hB hT hV hm
