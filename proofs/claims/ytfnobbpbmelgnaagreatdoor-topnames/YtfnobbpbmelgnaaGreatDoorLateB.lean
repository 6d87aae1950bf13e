/- Joined texts. -/
import Derived.Test.YtfnobbpbmelgnaaGreatDoorLateA
import Derived.Lib.AppendZeros
import Derived.Laws.EntriesVeiled
import Derived.RangeFuncNested
import Derived.RangeFuncBound
import Derived.RangeFuncCalls
import Derived.RangeFuncLeaves
import Derived.Shelf.Abstract
import Derived.Shelf.RegionOpen
import Derived.OwnWalkIn
import Derived.TacticsInMore
import Derived.LoopNIn
import Derived.LoopIn
import Derived.Test.YtfnobbpbmelgnaaGreatDoorAnyOps
namespace Go.Proofs.YtfnobbpbmelgnaaGreatDoor
open Go.ChangeShapes Go.WideShapes Go.ChangeAt Go.RowKit Go.Deep
open Terms
set_option maxHeartbeats 6400000
set_option maxRecDepth 20000
def sec (l:List (Int × Int)) (p:Nat):Nat:=endAt (l.map Prod.fst) (p+1)
def bitB (claim:Int) (i:Nat):Bool:=decide (claim / 2 ^ i % 2=1)
def mkB (o:Int × Int) (letter:List Bool) (a b:Bool):Bool:=
 if o.1=13 then letter.getD o.2.toNat false else if o.1=11 then true else if o.1=10 then !a else if o.1=8 then a&&b else if o.1=9 then a||b else false
def truF (l:List (Int × Int)) (letter:List Bool) (claim:Int):Nat->Nat->Bool
 | 0,_=>false
 | f+1,p=>if lookB (l.getD p (0,0)).1=true then bitB claim (aheadTo l p).length else mkB (l.getD p (0,0)) letter (truF l letter claim f (p+1)) (truF l letter claim f (max (sec l p) (p+1)))
def tru (l:List (Int × Int)) (letter:List Bool) (claim:Int) (p:Nat):Bool:=truF l letter claim (l.length - p) p
theorem truF_fuel (l:List (Int × Int)) (letter:List Bool) (claim:Int):∀ f g p,l.length <= f+p->l.length <= g+p->p < l.length->truF l letter claim f p=truF l letter claim g p:=by
 intro f
 induction f with
 | zero=>intro g p h _ hp;omega
 | succ f ih=>
  intro g p h1 h2 hp
  cases g with
  | zero=>omega
  | succ g=>
   simp only [truF]
   have aux:∀ q,p < q->truF l letter claim f q=truF l letter claim g q:=by
    intro q hq
    by_cases hql:q < l.length
    ·exact ih g q (by omega) (by omega) hql
    ·have z:∀ f q,l.length <= q->truF l letter claim f q=false:=by
      intro f
      induction f with
      | zero=>intro q _;rfl
      | succ f ihf=>
       intro q hq;simp only [truF];rw [show l.getD q (0,0)=(0,0) by simp [List.getD_eq_getElem?_getD,hq]]
       simp [lookB,mkB]
     rw [z f q (by omega),z g q (by omega)]
   rw [aux (p+1) (by omega),aux (max (sec l p) (p+1)) (by omega)]
theorem tru_look {l:List (Int × Int)} {letter:List Bool} {claim:Int} {p:Nat} (hp:p < l.length) (h:lookB (l.getD p (0,0)).1=true):tru l letter claim p=bitB claim (aheadTo l p).length:=by
 unfold tru;obtain ⟨f,hf⟩:∃ f,l.length - p=f+1:=⟨l.length - p - 1,by omega⟩
 rw [hf];simp only [truF];rw [if_pos h]
theorem tru_mk {l:List (Int × Int)} {letter:List Bool} {claim:Int} {p:Nat} (hp:p < l.length) (h:lookB (l.getD p (0,0)).1=false) (hs:pn (l.getD p (0,0)).1=2->p+1 < sec l p):tru l letter claim p=mkB (l.getD p (0,0)) letter (tru l letter claim (p+1)) (tru l letter claim (sec l p)):=by
 unfold tru;obtain ⟨f,hf⟩:∃ f,l.length - p=f+1:=⟨l.length - p - 1,by omega⟩
 rw [hf]
 have z:∀ f q,l.length <= q->truF l letter claim f q=false:=by
  intro f
  induction f with
  | zero=>intro q _;rfl
  | succ f ihf=>
   intro q hq;simp only [truF];rw [show l.getD q (0,0)=(0,0) by simp [List.getD_eq_getElem?_getD,hq]]
   simp [lookB,mkB]
 have aux:∀ q,p < q->truF l letter claim f q=truF l letter claim (l.length - q) q:=by
  intro q hq
  by_cases hql:q < l.length
  ·exact truF_fuel l letter claim f _ q (by omega) (by omega) hql
  ·rw [z _ q (by omega),z _ q (by omega)]
 simp only [truF];rw [if_neg (by rw [h];decide),aux (p+1) (by omega)]
 by_cases h2:pn (l.getD p (0,0)).1=2
 ·rw [show max (sec l p) (p+1)=sec l p by have:=hs h2;omega,aux (sec l p) (by have:=hs h2;omega)]
 ·have hk:(l.getD p (0,0)).1≠8/\(l.getD p (0,0)).1≠9:=by
   constructor <;> intro e <;> rw [e] at h2 <;> exact absurd rfl h2
  simp only [mkB,hk.1,hk.2,if_false]
theorem aheadTo_get (l:List (Int × Int)):∀ n i,i < (aheadTo l n).length->∃ p:Nat,(aheadTo l n).getD i 0=p/\p < n/\lookB (l.getD p (0,0)).1=true/\(aheadTo l p).length=i:=by
 intro n
 induction n with
 | zero=>intro i hi;simp [aheadTo] at hi
 | succ n ih=>
  intro i hi
  cases hb:lookB (l.getD n (0,0)).1 with
  | false=>
   rw [aheadTo_no hb] at hi ⊢;obtain ⟨p,h1,h2,h3,h4⟩:=ih i hi;exact ⟨p,h1,by omega,h3,h4⟩
  | true=>
   rw [aheadTo_yes hb] at hi ⊢
   by_cases hl:i < (aheadTo l n).length
   ·obtain ⟨p,h1,h2,h3,h4⟩:=ih i hl
    refine ⟨p,?_,by omega,h3,h4⟩
    rw [<- h1];simp [List.getD_eq_getElem?_getD,List.getElem?_append_left hl]
   ·have hi':i=(aheadTo l n).length:=by simp at hi;omega
    subst hi';exact ⟨n,by simp [List.getD_eq_getElem?_getD],by omega,hb,rfl⟩
theorem aheadTo_mono (l:List (Int × Int)) {p n:Nat} (h:p <= n):(aheadTo l p).length <= (aheadTo l n).length:=by
  induction n with
  | zero => obtain rfl : p = 0 := by omega
            exact Nat.le_refl _
  | succ n ih=>
    by_cases hp:p=n+1
    · subst hp;exact Nat.le_refl _
    · have:=ih (by omega)
      simp only [aheadTo,List.length_append];omega
theorem aheadTo_lt (l:List (Int × Int)) {p n:Nat} (h:p < n) (hb:lookB (l.getD p (0,0)).1=true):(aheadTo l p).length < (aheadTo l n).length:=by
 have:=aheadTo_mono l (p:=p+1) (n:=n) (by omega)
 rw [aheadTo_yes hb] at this;simp at this;omega
theorem part_in {l:List (Int × Int)} (hz:endsCode (l.map Prod.fst)=0) {p:Nat} (hp:p < l.length) :
  (1 <= pn (l.getD p (0,0)).1->p+1 < l.length)/\(pn (l.getD p (0,0)).1=2->p+1 < sec l p/\sec l p < l.length):=by
 obtain ⟨_,hc⟩:=code_zero hz;obtain ⟨ks,hks⟩:∃ ks,ks=l.map Prod.fst:=⟨_,rfl⟩
 have hlen:ks.length=l.length:=by rw [hks,List.length_map]
 have hget:ks.getD p 0=(l.getD p (0,0)).1:=by rw [hks];simp [List.getD_eq_getElem?_getD,hp]
 have hsec:sec l p=endAt ks (p+1):=by unfold sec;rw [<- hks]
 rw [<- hks] at hc;rw [<- hget,hsec,<- hlen];obtain ⟨m,hm,hm1,hml⟩:=cnt_in ks 1 ks.length p hc (by omega)
 have ha:=cnt_at (ks:=ks) (q:=p) (by omega)
 rw [hm] at ha
 split at ha
 ·cases hr:cnt (ks.drop (p+1)) (pn (ks.getD p 0)) with
  | no e=>rw [hr] at ha;simp [R.up] at ha
  | ok m2=>
   rw [hr] at ha;simp only [R.up,R.ok.injEq] at ha;have h2:=cnt_le _ _ _ hr;rw [List.length_drop] at h2;refine ⟨fun h=>by omega,fun h=>?_⟩
   rw [h,show (2:Nat)=1+1 from rfl] at hr
   obtain ⟨a,b,hca,hcb,hab⟩:=cnt_parts hr;have h3:=cnt_le _ _ _ hca;have h4:=cnt_le _ _ _ hcb;rw [endAt_ok hca];omega
 ·simp at ha
end Go.Proofs.YtfnobbpbmelgnaaGreatDoor
namespace Go.Proofs.YtfnobbpbmelgnaaGreatDoor.Terms
namespace Tm
set_option maxHeartbeats 6400000
set_option maxRecDepth 20000
def ho (σ:Nat->Nat->Bool):Tm->Nat->Prop
 | leaf k v=>fun i=>if k=13 then σ i v.toNat=true else k=11
 | un k _ a=>fun i=>if k=10 then ¬ ho σ a i else if k=14 then ho σ a (i+1) else if k=17 then ∃ j,i <= j/\ho σ a j else ∀ j,i <= j->ho σ a j
 | bi k _ a b=>fun i=>if k=8 then ho σ a i/\ho σ b i else if k=9 then ho σ a i\/ho σ b i else if k=15 then ∃ j,i <= j/\ho σ b j/\∀ m,i <= m->m < j->ho σ a m else ∀ j,i <= j->ho σ b j\/∃ m,i <= m/\m < j/\ho σ a m
theorem ho_shift (σ:Nat->Nat->Bool) (d:Nat) (t:Tm):∀ i,ho (fun j=>σ (j+d)) t i↔ho σ t (i+d):=by
 induction t with
 | leaf k v=>intro i;simp only [ho]
 | un k v a ih=>
  intro i;simp only [ho]
  split
  ·rw [ih]
  ·split
   ·rw [ih,show i+1+d=i+d+1 by omega]
   ·split
    ·constructor
     ·rintro ⟨j,h1,h2⟩;exact ⟨j+d,by omega,(ih j).1 h2⟩
     ·rintro ⟨j,h1,h2⟩;exact ⟨j - d,by omega,(ih _).2 (by rwa [show j - d+d=j by omega])⟩
    ·constructor
     ·intro h j hj;have:=(ih _).1 (h (j - d) (by omega));rwa [show j - d+d=j by omega] at this
     ·intro h j hj;exact (ih j).2 (h (j+d) (by omega))
 | bi k v a b iha ihb=>
  intro i;simp only [ho]
  split
  ·rw [iha,ihb]
  ·split
   ·rw [iha,ihb]
   ·split
    ·constructor
     ·rintro ⟨j,h1,h2,h3⟩
      refine ⟨j+d,by omega,(ihb j).1 h2,fun m hm hmj=>?_⟩
      have:=(iha _).1 (h3 (m - d) (by omega) (by omega))
      rwa [show m - d+d=m by omega] at this
     ·rintro ⟨j,h1,h2,h3⟩
      refine ⟨j - d,by omega,(ihb _).2 (by rwa [show j - d+d=j by omega]),fun m hm hmj=>(iha m).2 (h3 (m+d) (by omega) (by omega))⟩
    ·constructor
     ·intro h j hj
      rcases h (j - d) (by omega) with h1 | ⟨m,h1,h2,h3⟩
      ·left;have:=(ihb _).1 h1;rwa [show j - d+d=j by omega] at this
      ·exact .inr ⟨m+d,by omega,by omega,(iha m).1 h3⟩
     ·intro h j hj
      rcases h (j+d) (by omega) with h1 | ⟨m,h1,h2,h3⟩
      ·exact .inl ((ihb j).2 h1)
      ·exact .inr ⟨m - d,by omega,by omega,(iha _).2 (by rwa [show m - d+d=m by omega])⟩
def Per (σ:Nat->Nat->Bool) (s L:Nat):Prop:=∀ i,s <= i->σ (i+L)=σ i
theorem ho_per {σ:Nat->Nat->Bool} {s L:Nat} (h:Per σ s L) (t:Tm) {i:Nat} (hi:s <= i):ho σ t (i+L)↔ho σ t i:=by
 have h1:=ho_shift σ (i+L) t 0;have h2:=ho_shift σ i t 0;rw [Nat.zero_add] at h1 h2;rw [<- h1,<- h2]
 have:(fun j=>σ (j+(i+L)))=fun j=>σ (j+i):=by
  funext j
  rw [show j+(i+L)=(j+i)+L by omega]
  exact h _ (by omega)
 rw [this]
open Classical in
noncomputable def hb (σ:Nat->Nat->Bool) (t:Tm) (i:Nat):Bool:=decide (ho σ t i)
open Classical in
theorem hb_iff {σ:Nat->Nat->Bool} {t:Tm} {i:Nat}:hb σ t i=true↔ho σ t i:=by unfold hb;exact decide_eq_true_iff
theorem bool_eq {x y:Bool} (h:x=true↔y=true):x=y:=by cases x <;> cases y <;> simp_all
theorem hb_per {σ:Nat->Nat->Bool} {s L:Nat} (h:Per σ s L) (t:Tm) {i:Nat} (hi:s <= i):hb σ t (i+L)=hb σ t i:=bool_eq (by rw [hb_iff,hb_iff];exact ho_per h t hi)
theorem hb_prop (σ:Nat->Nat->Bool) (v:Int) (i:Nat):hb σ (leaf 13 v) i=σ i v.toNat:=bool_eq (by rw [hb_iff];simp [ho])
theorem hb_yes (σ:Nat->Nat->Bool) (v:Int) (i:Nat):hb σ (leaf 11 v) i=true:=by rw [hb_iff];simp [ho]
theorem hb_no {k:Int} (σ:Nat->Nat->Bool) (v:Int) (i:Nat) (h1:k≠13) (h2:k≠11):hb σ (leaf k v) i=false:=by
 have:¬ hb σ (leaf k v) i=true:=by rw [hb_iff];simp [ho,h1,h2]
 simpa using this
theorem hb_not (σ:Nat->Nat->Bool) (v:Int) (a:Tm) (i:Nat):hb σ (un 10 v a) i=!hb σ a i:=bool_eq (by rw [hb_iff,Bool.not_eq_true',<- Bool.not_eq_true,hb_iff];simp [ho])
theorem hb_next (σ:Nat->Nat->Bool) (v:Int) (a:Tm) (i:Nat):hb σ (un 14 v a) i=hb σ a (i+1):=bool_eq (by rw [hb_iff,hb_iff];simp [ho])
theorem hb_and (σ:Nat->Nat->Bool) (v:Int) (a b:Tm) (i:Nat):hb σ (bi 8 v a b) i=(hb σ a i&&hb σ b i):=bool_eq (by rw [hb_iff,Bool.and_eq_true,hb_iff,hb_iff];simp [ho])
theorem hb_or (σ:Nat->Nat->Bool) (v:Int) (a b:Tm) (i:Nat):hb σ (bi 9 v a b) i=(hb σ a i||hb σ b i):=bool_eq (by rw [hb_iff,Bool.or_eq_true,hb_iff,hb_iff];simp [ho])
end Tm
def Unt (u v:Nat->Bool) (d:Bool) (i:Nat):Prop:=(∃ j,i <= j/\u j=true/\∀ m,i <= m->m < j->v m=true)\/(d=true/\∀ m,i <= m->v m=true)
theorem unt_step (u v:Nat->Bool) (d:Bool) (i:Nat):Unt u v d i↔u i=true\/(v i=true/\Unt u v d (i+1)):=by
 constructor
 ·rintro (⟨j,h1,h2,h3⟩ | ⟨h1,h2⟩)
  ·by_cases e:j=i
   ·subst e;exact .inl h2
   ·exact .inr ⟨h3 i (by omega) (by omega),.inl ⟨j,by omega,h2,fun m hm hmj=>h3 m (by omega) hmj⟩⟩
  ·exact .inr ⟨h2 i (by omega),.inr ⟨h1,fun m hm=>h2 m (by omega)⟩⟩
 ·rintro (h | ⟨h1,(⟨j,h2,h3,h4⟩ | ⟨h2,h3⟩)⟩)
  ·exact .inl ⟨i,by omega,h,fun m hm hmi=>by omega⟩
  ·refine .inl ⟨j,by omega,h3,fun m hm hmj=>?_⟩
   by_cases e:m=i
   ·subst e;exact h1
   ·exact h4 m (by omega) hmj
  ·refine .inr ⟨h2,fun m hm=>?_⟩
   by_cases e:m=i
   ·subst e;exact h1
   ·exact h3 m (by omega)
open Classical in
noncomputable def untB (u v:Nat->Bool) (d:Bool) (i:Nat):Bool:=decide (Unt u v d i)
open Classical in
theorem untB_iff {u v:Nat->Bool} {d:Bool} {i:Nat}:untB u v d i=true↔Unt u v d i:=by unfold untB;exact decide_eq_true_iff
theorem untB_step (u v:Nat->Bool) (d:Bool) (i:Nat):untB u v d i=(u i||(v i&&untB u v d (i+1))):=Tm.bool_eq (by rw [untB_iff,unt_step,Bool.or_eq_true,Bool.and_eq_true,untB_iff])
theorem unt_stuck {u v:Nat->Bool} {d:Bool} {i:Nat} (h:∀ m,i <= m->u m=false/\v m=true):untB u v d i=d:=by
 cases d with
 | true=>rw [untB_iff];exact .inr ⟨rfl,fun m hm=>(h m hm).2⟩
 | false=>
  have:¬ untB u v false i=true:=by
   rw [untB_iff]
   rintro (⟨j,h1,h2,_⟩ | ⟨h1,_⟩)
   ·rw [(h j h1).1] at h2;cases h2
   ·cases h1
  simpa using this
namespace Tm
theorem hb_fin (σ:Nat->Nat->Bool) (v:Int) (a:Tm) (i:Nat):hb σ (un 17 v a) i=untB (hb σ a) (fun _=>true) false i:=bool_eq (by
 rw [hb_iff,untB_iff];simp only [ho,Unt,show ¬ (17:Int)=10 by decide,show ¬ (17:Int)=14 by decide,if_false,if_true]
 constructor
 ·rintro ⟨j,h1,h2⟩;exact .inl ⟨j,h1,hb_iff.2 h2,fun _ _ _=>trivial⟩
 ·rintro (⟨j,h1,h2,_⟩ | ⟨h,_⟩)
  ·exact ⟨j,h1,hb_iff.1 h2⟩
  ·cases h)
theorem hb_glob (σ:Nat->Nat->Bool) (v:Int) (a:Tm) (i:Nat):hb σ (un 18 v a) i=untB (fun _=>false) (hb σ a) true i:=bool_eq (by
 rw [hb_iff,untB_iff];simp only [ho,Unt,show ¬ (18:Int)=10 by decide,show ¬ (18:Int)=14 by decide,show ¬ (18:Int)=17 by decide,if_false]
 constructor
 ·intro h;exact .inr ⟨trivial,fun m hm=>hb_iff.2 (h m hm)⟩
 ·rintro (⟨j,h1,h2,_⟩ | ⟨_,h⟩)
  ·cases h2
  ·exact fun j hj=>hb_iff.1 (h j hj))
theorem hb_until (σ:Nat->Nat->Bool) (v:Int) (a b:Tm) (i:Nat):hb σ (bi 15 v a b) i=untB (hb σ b) (hb σ a) false i:=bool_eq (by
 rw [hb_iff,untB_iff];simp only [ho,Unt,show ¬ (15:Int)=8 by decide,show ¬ (15:Int)=9 by decide,if_false,if_true]
 constructor
 ·rintro ⟨j,h1,h2,h3⟩;exact .inl ⟨j,h1,hb_iff.2 h2,fun m hm hmj=>hb_iff.2 (h3 m hm hmj)⟩
 ·rintro (⟨j,h1,h2,h3⟩ | ⟨h,_⟩)
  ·exact ⟨j,h1,hb_iff.1 h2,fun m hm hmj=>hb_iff.1 (h3 m hm hmj)⟩
  ·cases h)
theorem least {P:Nat->Prop} (i:Nat):∀ j,i <= j->P j->∃ m,i <= m/\P m/\∀ k,i <= k->k < m->¬ P k:=by
 intro j
 induction j using Nat.strongRecOn with
 | ind j ih=>
  intro hj hp
  by_cases h:∃ k,i <= k/\k < j/\P k
  ·obtain ⟨k,h1,h2,h3⟩:=h;exact ih k h2 h1 h3
  ·exact ⟨j,hj,hp,fun k h1 h2 h3=>h ⟨k,h1,h2,h3⟩⟩
theorem hb_rel (σ:Nat->Nat->Bool) (v:Int) (a b:Tm) (i:Nat):hb σ (bi 16 v a b) i=untB (fun j=>hb σ a j&&hb σ b j) (hb σ b) true i:=bool_eq (by
 rw [hb_iff,untB_iff];simp only [ho,Unt,show ¬ (16:Int)=8 by decide,show ¬ (16:Int)=9 by decide,show ¬ (16:Int)=15 by decide,if_false,Bool.and_eq_true,true_and]
 constructor
 ·intro h
  by_cases hall:∀ m,i <= m->ho σ b m
  ·exact .inr fun m hm=>hb_iff.2 (hall m hm)
  ·left
   have ⟨j,hj,hnb⟩:∃ j,i <= j/\¬ ho σ b j:=by
    by_cases hx:∃ j,i <= j/\¬ ho σ b j
    ·exact hx
    ·exact absurd (fun m hm=>Classical.byContradiction fun hn=>hx ⟨m,hm,hn⟩) hall
   obtain ⟨m,hm,hnm,hlow⟩:=least (P:=fun j=>¬ ho σ b j) i j hj hnb
   rcases h m hm with hb' | ⟨q,h1,h2,h3⟩
   ·exact absurd hb' hnm
   ·exact ⟨q,h1,⟨hb_iff.2 h3,hb_iff.2 (Classical.byContradiction fun hn=>hlow q h1 h2 hn)⟩,fun z hz hzq=>hb_iff.2 (Classical.byContradiction fun hn=>hlow z hz (by omega) hn)⟩
 ·rintro (⟨j,h1,⟨h2,h2'⟩,h3⟩ | h) q hq
  ·by_cases hl:q < j
   ·exact .inl (hb_iff.1 (h3 q hq hl))
   ·by_cases he:q=j
    ·subst he;exact .inl (hb_iff.1 h2')
    ·exact .inr ⟨j,h1,by omega,hb_iff.1 h2⟩
  ·exact .inl (hb_iff.1 (h q hq)))
end Tm
end Go.Proofs.YtfnobbpbmelgnaaGreatDoor.Terms
namespace Go.Proofs.YtfnobbpbmelgnaaGreatDoor.Terms
set_option maxHeartbeats 6400000
set_option maxRecDepth 20000
def moAt (s n i:Nat):Nat:=if i < n then i else s+(i - s) % (n - s)
theorem moAt_low {s n i:Nat} (h:i < n):moAt s n i=i:=by unfold moAt;rw [if_pos h]
theorem moAt_lt {s n i:Nat} (h:s < n):moAt s n i < n:=by
 unfold moAt
 split
 ·assumption
 ·have:=Nat.mod_lt (i - s) (show 0 < n - s by omega)
  omega
theorem moAt_back {s n i:Nat} (hs:s < n) (h:n <= i):moAt s n i=moAt s n (i - (n - s)):=by
 have hm:(i - s) % (n - s)=(i - (n - s) - s) % (n - s):=by
  rw [show i - s=(i - (n - s) - s)+(n - s) by omega,Nat.add_mod_right]
 unfold moAt;rw [if_neg (by omega),hm]
 split
 ·rw [Nat.mod_eq_of_lt (by omega)];omega
 ·rfl
theorem moAt_per {s n i:Nat} (hs:s < n) (h:s <= i):moAt s n (i+(n - s))=moAt s n i:=by
 rw [moAt_back hs (by omega),show i+(n - s) - (n - s)=i by omega]
def sig (ls:List (List Bool)) (s:Nat) (i v:Nat):Bool:=(ls.getD (moAt s ls.length i) []).getD v false
theorem sig_per {ls:List (List Bool)} {s:Nat} (hs:s < ls.length):Tm.Per (sig ls s) s (ls.length - s):=fun i hi=>by funext v;unfold sig;rw [moAt_per hs hi]
theorem hb_mo {ls:List (List Bool)} {s:Nat} (hs:s < ls.length) (t:Tm):∀ i,t.hb (sig ls s) (moAt s ls.length i)=t.hb (sig ls s) i:=by
 intro i
 induction i using Nat.strongRecOn with
 | ind i ih=>
  by_cases h:i < ls.length
  ·rw [moAt_low h]
  ·rw [moAt_back hs (by omega),ih _ (by omega)]
   have:=Tm.hb_per (sig_per hs) t (i:=i - (ls.length - s)) (by omega)
   rw [<- this,show i - (ls.length - s)+(ls.length - s)=i by omega]
namespace Tm
end Tm
end Go.Proofs.YtfnobbpbmelgnaaGreatDoor.Terms
namespace Go.Proofs.YtfnobbpbmelgnaaGreatDoor
open Terms
set_option maxHeartbeats 6400000
set_option maxRecDepth 20000
structure FOk (m:Nat) (t:List (Int × Int)) (T:Tm):Prop where
 ops:T.ops=t
 wf:T.Wf
 good:∀ o,o∈t->lopErr 3 o=0
 many:(t.filter fun o=>lookB o.1).length=m
theorem FOk.not {m:Nat} {t:List (Int × Int)} {T:Tm} (h:FOk m t T):FOk m ((10,0):: t) (.un 10 0 T):=by
 obtain ⟨h1,h2,h3,h4⟩:=h;refine ⟨by simp [Tm.ops,h1],⟨by decide,by decide,h2⟩,fun o ho=>?_,?_⟩
 ·rcases List.mem_cons.1 ho with rfl | ho
  ·rfl
  ·exact h3 o ho
 ·rw [List.filter_cons,if_neg (by decide)];exact h4
theorem FOk.tun {m:Nat} {k:Int} {t:List (Int × Int)} {T:Tm} (hk:k=14\/k=17\/k=18) (h:FOk m t T):FOk (m+1) ((k,0):: t) (.un k 0 T):=by
 obtain ⟨h1,h2,h3,h4⟩:=h;refine ⟨by simp [Tm.ops,h1],?_,fun o ho=>?_,?_⟩
 ·rcases hk with rfl | rfl | rfl <;> exact ⟨by decide,by decide,h2⟩
 ·rcases List.mem_cons.1 ho with rfl | ho
  ·rcases hk with rfl | rfl | rfl <;> rfl
  ·exact h3 o ho
 ·rw [List.filter_cons,if_pos (by rcases hk with rfl | rfl | rfl <;> decide),List.length_cons,h4]
theorem FOk.bin {m n:Nat} {k:Int} {t s:List (Int × Int)} {T S:Tm} (h8:8 <= k) (h9:k <= 9) (h:FOk m t T) (g:FOk n s S):FOk (m+n) ((k,0):: (t++s)) (.bi k 0 T S):=by
 obtain ⟨h1,h2,h3,h4⟩:=h;obtain ⟨g1,g2,g3,g4⟩:=g;have hk:k=8\/k=9:=by omega
 refine ⟨by simp [Tm.ops,h1,g1],?_,fun o ho=>?_,?_⟩
 ·rcases hk with rfl | rfl <;> exact ⟨by decide,by decide,h2,g2⟩
 ·rcases List.mem_cons.1 ho with rfl | ho
  ·rcases hk with rfl | rfl <;> rfl
  ·rcases List.mem_append.1 ho with ho | ho
   ·exact h3 o ho
   ·exact g3 o ho
 ·rw [List.filter_cons,if_neg (by rcases hk with rfl | rfl <;> decide),List.filter_append,List.length_append,h4,g4]
theorem FOk.tbi {m n:Nat} {k:Int} {t s:List (Int × Int)} {T S:Tm} (h8:15 <= k) (h9:k <= 16) (h:FOk m t T) (g:FOk n s S):FOk (m+n+1) ((k,0):: (t++s)) (.bi k 0 T S):=by
 obtain ⟨h1,h2,h3,h4⟩:=h;obtain ⟨g1,g2,g3,g4⟩:=g;have hk:k=15\/k=16:=by omega
 refine ⟨by simp [Tm.ops,h1,g1],?_,fun o ho=>?_,?_⟩
 ·rcases hk with rfl | rfl <;> exact ⟨by decide,by decide,h2,g2⟩
 ·rcases List.mem_cons.1 ho with rfl | ho
  ·rcases hk with rfl | rfl <;> rfl
  ·rcases List.mem_append.1 ho with ho | ho
   ·exact h3 o ho
   ·exact g3 o ho
 ·rw [List.filter_cons,if_pos (by rcases hk with rfl | rfl <;> decide),List.length_cons,List.filter_append,List.length_append,h4,g4]
theorem FOk.yes:FOk 0 [(11,0)] (.leaf 11 0):=⟨rfl,⟨by decide,by decide⟩,fun o ho=>by
 obtain rfl:o=(11,0):=by simpa using ho
 rfl,by decide⟩
theorem ForT.ok {m:Nat} {t:List (Int × Int)} (h:ForT 3 m t):∃ T,FOk m t T:=by
 induction h with
 | prop v h0 h1=>
  refine ⟨.leaf 13 v,rfl,⟨by decide,by decide⟩,fun o ho=>?_,by rw [List.filter_cons,if_neg (by show ¬ lookB 13=true;decide)];rfl⟩
  obtain rfl:o=(13,v):=by simpa using ho
  unfold lopErr;rw [if_neg (by show ¬ (13:Int) < 8;decide),if_neg (by simp;omega)]
 | not m a _ ih=>obtain ⟨T,hT⟩:=ih;exact ⟨_,hT.not⟩
 | bin m n k a b h8 h9 _ _ iha ihb=>obtain ⟨A,hA⟩:=iha;obtain ⟨B,hB⟩:=ihb;exact ⟨_,hA.bin h8 h9 hB⟩
 | tun m k a hk _ ih=>obtain ⟨T,hT⟩:=ih;exact ⟨_,hT.tun hk⟩
 | tbi m n k a b h8 h9 _ _ iha ihb=>obtain ⟨A,hA⟩:=iha;obtain ⟨B,hB⟩:=ihb;exact ⟨_,hA.tbi h8 h9 hB⟩
theorem ForT.ne {props:Int} {m:Nat} {t:List (Int × Int)} (h:ForT props m t):t≠[]:=by cases h <;> simp
theorem ahead_count (l:List (Int × Int)):∀ n,n <= l.length->(aheadTo l n).length=((l.take n).filter fun o=>lookB o.1).length:=by
 intro n
 induction n with
 | zero=>intro _;rfl
 | succ n ih=>
  intro hn;rw [List.take_succ_eq_append_getElem (by omega),List.filter_append,List.length_append,<- ih (by omega)]
  simp only [aheadTo,List.length_append]
  congr 1
  rw [List.getD_eq_getElem?_getD,List.getElem?_eq_getElem (by omega),Option.getD_some,List.filter_cons]
  cases lookB (l[n]).1 <;> simp
theorem FOk.ahead {m:Nat} {t:List (Int × Int)} {T:Tm} (h:FOk m t T):(aheadL t).length=m:=by
 unfold aheadL;rw [ahead_count t t.length (Nat.le_refl _),List.take_length,h.many]
theorem FOk.size {m:Nat} {t:List (Int × Int)} {T:Tm} (h:FOk m t T):T.size=t.length:=by rw [<- Tm.ops_length,h.ops]
theorem FOk.ends {m:Nat} {t:List (Int × Int)} {T:Tm} (h:FOk m t T) (hl:t.length <= 60):endsCode (t.map Prod.fst)=0:=by
 have h1:=Tm.one h.wf;rw [h.ops] at h1;unfold endsCode;rw [List.length_map,if_neg (by have:=h.size;have:=T.size_pos;omega),h1,h.size]
 simp
theorem FOk.code {m:Nat} {t:List (Int × Int)} {T:Tm} (h:FOk m t T) (hl:t.length <= 60) (hm:m <= 6):lcode 3 t=0:=by
 rw [lcode_many (by omega) (h.ends hl) (lfirst_none fun j hj=>h.good _ (by rw [List.getD_eq_getElem?_getD,List.getElem?_eq_getElem hj,Option.getD_some];exact List.getElem_mem hj)),h.ahead,if_neg (by omega)]
end Go.Proofs.YtfnobbpbmelgnaaGreatDoor
namespace Go.Proofs.YtfnobbpbmelgnaaGreatDoor
open Go.ChangeShapes Go.WideShapes Go.ChangeAt Go.RowKit Go.Deep
open Terms
set_option maxHeartbeats 6400000
set_option maxRecDepth 20000
end Go.Proofs.YtfnobbpbmelgnaaGreatDoor
set_option maxHeartbeats 6400000
set_option maxRecDepth 20000

namespace Go.Proofs.YtfnobbpbmelgnaaGreatDoor
open Go.ChangeShapes Go.WideShapes Go.ChangeAt Go.RowKit Go.Deep
open Terms
set_option maxHeartbeats 6400000
set_option maxRecDepth 20000
theorem look_any (k:Int) (w:World) :
  Calls Tryz.prog 75 #[.int .i64 k] w fun e w'=>e=.returned (.bool (lookB k))/\w'=w:=by
 by_cases h:14 <= k/\k <= 18
 ·have hk:k=14\/k=15\/k=16\/k=17\/k=18:=by omega
  clear h
  rcases hk with rfl | rfl | rfl | rfl | rfl
  all_goals
   go_enter Tryz.func75,Tryz.ntmps75
   go_wp2
   all_goals go_ret
   all_goals exact ⟨rfl,rfl⟩
 ·have hm:lookB k=false:=by simp [lookB];omega
  rw [hm];have e1:¬ k=14:=by omega
  have e2:¬ k=15:=by omega
  have e3:¬ k=16:=by omega
  have e4:¬ k=17:=by omega
  have e5:¬ k=18:=by omega
  clear hm h
  go_enter Tryz.func75,Tryz.ntmps75
  go_wp2
  all_goals go_ret
  all_goals exact ⟨rfl,rfl⟩
theorem lcheckOp_any (k v props:Int) (w:World) (h0:0 <= props) (h6:props <= 6) :
  Calls Tryz.prog 74 #[.agg #[.int .i64 k,.int .i64 v],.int .i64 props] w fun e w'=>e=.returned (.int .i64 (lopErr props (k,v)))/\Below w.heap.size w w':=by
 by_cases hk:k < 8
 ·have hx:lopErr props (k,v)=13:=by simp [lopErr,hk]
  rw [hx];clear hx
  go_enter Tryz.func74,Tryz.ntmps74
  go_wp2
  all_goals go_ret
  all_goals exact ⟨rfl,(Below.refl _ _).alloc (Nat.le_refl _) _⟩
 ·by_cases h2:k=13
  ·subst h2
   by_cases hv:0 <= v/\v <= props - 1
   ·have hx:lopErr props (13,v)=0:=by simp [lopErr];omega
    rw [hx];obtain ⟨ha,hb⟩:=hv;clear hx
    go_enter Tryz.func74,Tryz.ntmps74
    go_wp2
    all_goals go_ret
    all_goals exact ⟨rfl,(Below.refl _ _).alloc (Nat.le_refl _) _⟩
   ·have hx:lopErr props (13,v)=2:=by simp [lopErr];omega
    rw [hx];have hv':v < 0\/props - 1 < v:=by omega
    clear hx hv
    rcases hv' with hv | hv
    all_goals
     go_enter Tryz.func74,Tryz.ntmps74
     go_wp2
     all_goals go_ret
     all_goals exact ⟨rfl,(Below.refl _ _).alloc (Nat.le_refl _) _⟩
  ·by_cases hv:v=0
   ·subst hv
    have hx:lopErr props (k,0)=0:=by simp [lopErr,h2];omega
    rw [hx];clear hx
    go_enter Tryz.func74,Tryz.ntmps74
    go_wp2
    all_goals go_ret
    all_goals exact ⟨rfl,(Below.refl _ _).alloc (Nat.le_refl _) _⟩
   ·have hx:lopErr props (k,v)=2:=by simp [lopErr,h2];omega
    rw [hx];have hv':v < 0\/0 < v:=by omega
    clear hx hv
    rcases hv' with hv | hv
    all_goals
     go_enter Tryz.func74,Tryz.ntmps74
     go_wp2
     all_goals go_ret
     all_goals exact ⟨rfl,(Below.refl _ _).alloc (Nat.le_refl _) _⟩
def LReadPost (props:Int) (v:Value) (l:List (Int × Int)) (w:World) (e:Ending) (w':World):Prop:=
 Below w.heap.size w w'/\(lcode props l≠0->e=.returned (.tuple #[.agg #[.slice none 0 0,.slice none 0 0,.slice none 0 0],.int .i64 (lcode props l)]))/\
 (lcode props l=0->∃ B av,w.heap.size <= B/\e=.returned (.tuple #[.agg #[v,.slice (some ⟨B,0,none⟩) l.length l.length,av],.int .i64 0])/\w'.rowIs B 3 l.length (fun q=>.int .i64 (endAt (l.map Prod.fst) q))/\w'.ownsRow w.heap.size 3 1 av (aheadL l).length (ivals (aheadL l)))
def Three (w:World) (b:Nat) (x y z:Value):Prop:=w.cell? ⟨b,0,none⟩=some x/\w.cell? ⟨b,1,none⟩=some y/\w.cell? ⟨b,2,none⟩=some z/\w.frozen? ⟨b,0,none⟩=false/\w.frozen? ⟨b,1,none⟩=false/\w.frozen? ⟨b,2,none⟩=false/\b < w.heap.size
theorem Three.below {w w':World} {B b:Nat} {x y z:Value} (h:Three w b x y z) (hb:Below B w w') (hB:b < B):Three w' b x y z:=
 ⟨(hb.cell (p:=⟨b,0,none⟩) hB).trans h.1,(hb.cell (p:=⟨b,1,none⟩) hB).trans h.2.1,(hb.cell (p:=⟨b,2,none⟩) hB).trans h.2.2.1,(hb.frozen (p:=⟨b,0,none⟩) hB).trans h.2.2.2.1,(hb.frozen (p:=⟨b,1,none⟩) hB).trans h.2.2.2.2.1,(hb.frozen (p:=⟨b,2,none⟩) hB).trans h.2.2.2.2.2.1,Nat.lt_of_lt_of_le h.2.2.2.2.2.2 hb.size⟩
theorem Three.new (w:World) (x y z:Value) (t:TypeId):Three (w.alloc (.cells #[x,y,z] t)) w.heap.size x y z:=by
 refine ⟨?_,?_,?_,?_,?_,?_,?_⟩ <;> simp [go_sem]
theorem Three.read {w:World} {b:Nat} {x y z:Value} (h:Three w b x y z) (u0 u1 u2:Value):(w.setCell ⟨b,0,none⟩ u0).cell? ⟨b,0,none⟩=some u0/\((w.setCell ⟨b,0,none⟩ u0).setCell ⟨b,1,none⟩ u1).cell? ⟨b,1,none⟩=some u1/\(((w.setCell ⟨b,0,none⟩ u0).setCell ⟨b,1,none⟩ u1).setCell ⟨b,2,none⟩ u2).cell? ⟨b,2,none⟩=some u2:=by
 obtain ⟨k0,k1,k2,_⟩:=h;refine ⟨World.cell?_setCell_same' _ _ _ (by rw [k0];rfl),World.cell?_setCell_same' _ _ _ ?_,World.cell?_setCell_same' _ _ _ ?_⟩
 ·simp [go_sem,k1]
 ·simp [go_sem,k2]
theorem read_range (ao:Option Addr) (n cap:Nat) (props:Int) (w:World) (h:props < 0\/6 < props) :
  Calls Tryz.prog 59 #[.slice ao n cap,.int .i64 props] w fun e w'=>e=.returned (.tuple #[.agg #[.slice none 0 0,.slice none 0 0,.slice none 0 0],.int .i64 2])/\Below w.heap.size w w':=by
 rcases h with h | h
 all_goals
  go_enter Tryz.func59,Tryz.ntmps59
  go_wp2_with fail
  exact bodyPost_ret (v:=.tuple #[.agg #[.slice none 0 0,.slice none 0 0,.slice none 0 0],.int .i64 2]) (by simp [results,Tryz.results59,go_sem]) rfl ⟨rfl,by exact (Below.refl _ _).alloc (Nat.le_refl _) _⟩
theorem read_ends (v:Value) (ks:List Int) (props:Int) (w:World) (h0:0 <= props) (h6:props <= 6) (hB:0 < w.heap.size) (hT:TabAt w) (hK:Kinds w v ks) (hz:endsCode ks≠0) :
  Calls Tryz.prog 59 #[v,.int .i64 props] w fun e w'=>e=.returned (.tuple #[.agg #[.slice none 0 0,.slice none 0 0,.slice none 0 0],.int .i64 (endsCode ks)])/\Below w.heap.size w w':=by
 have hA:∀ o,Below w.heap.size w (w.alloc o):=fun o=>(Below.refl _ _).alloc (Nat.le_refl _) o
 have hKA:∀ o,Kinds (w.alloc o) v ks:=fun o=>hK.below (hA o)
 have hends:∀ o,Calls Tryz.prog 73 #[v] (w.alloc o) fun e w'=>e=.returned (.tuple #[.slice none 0 0,.int .i64 (endsCode ks)])/\Below (w.alloc o).heap.size (w.alloc o) w':=fun o=>(ends_any v ks (w.alloc o) (by simp) (hT.below (hA o) hB) (hKA o)).mono fun e w' ⟨h1,h2,_⟩=>⟨h2 hz,h1⟩
 generalize endsCode ks=x at *;obtain ⟨ao,cap,rfl,_⟩:=hK;clear hT hKA
 go_enter Tryz.func59,Tryz.ntmps59
 go_wp2_with (go_at_call 73;refine (hends _).mono ?_;rintro e w1 ⟨rfl,hb1⟩;have h3:=(Three.new w (.slice none 0 0) (.slice none 0 0) (.slice none 0 0) 130).below hb1 (by simp);obtain ⟨k0,k1,k2,f0,f1,f2,_⟩:=id h3)
 refine bodyPost_ret (v:=.tuple #[.agg #[.slice none 0 0,.slice none 0 0,.slice none 0 0],.int .i64 x]) ?_ rfl ⟨rfl,?_⟩
 ·obtain ⟨q0,q1,q2⟩:=h3.read (.slice none 0 0) (.slice none 0 0) (.slice none 0 0)
  simp [results,Tryz.results59,go_sem,q0,q1,q2]
 ·have hbw:=(hA _).trans (hb1.mono (hA _).size)
  exact ((hbw.setCell (Nat.le_refl _) _).setCell (Nat.le_refl _) _).setCell (Nat.le_refl _) _
theorem Three.set2 {w:World} {b:Nat} {x y z:Value} (h:Three w b x y z) (u:Value):Three (w.setCell ⟨b,2,none⟩ u) b x y u:=by
 obtain ⟨k0,k1,k2,f0,f1,f2,hl⟩:=h;refine ⟨?_,?_,World.cell?_setCell_same' _ _ _ (by rw [k2];rfl),?_,?_,?_,by simpa using hl⟩
 ·simp [go_sem,k0]
 ·simp [go_sem,k1]
 ·rw [World.frozen?_setCell];exact f0
 ·rw [World.frozen?_setCell];exact f1
 ·rw [World.frozen?_setCell];exact f2
theorem owns_set {w:World} {base:Nat} {e:TypeId} {s n:Nat} {v:Value} {xs:List Value} (h:w.ownsRow base e s v n xs) {p:Addr} (hp:p.block < base) (u:Value):(w.setCell p u).ownsRow base e s v n xs:=by
 obtain ⟨h1,h2⟩:=h;refine ⟨h1,?_⟩
 rcases h2 with h2 | ⟨g,cap,cur,hv,hg,hh,r⟩
 ·exact .inl h2
 ·exact .inr ⟨g,cap,cur,hv,hg,(Below.heap_setCell w p u g (by omega)).trans hh,r⟩
theorem owns_block {w:World} {base:Nat} {e:TypeId} {s n:Nat} {v:Value} {xs:List Value} (h:w.ownsRow base e s v n xs):∀ z,v.ownBlock=some z->base <= z:=by
 intro z hz
 rcases h.2 with ⟨rfl,_⟩ | ⟨g,cap,cur,rfl,hb,_⟩
 ·simp [Value.ownBlock] at hz
 ·simp [Value.ownBlock] at hz;omega
theorem owns_more {w:World} {base:Nat} {e:TypeId} {s k:Nat} {v:Value} {xs:List Value} (h:w.ownsRow base e s v (k+1) xs):∃ g cap,v=.slice (some ⟨g,0,none⟩) (k+1) cap:=by
 rcases h.2 with ⟨_,h0⟩ | ⟨g,cap,_,rfl,_⟩
 ·omega
 ·exact ⟨g,cap,rfl⟩
def AhSt (l:List (Int × Int)) (w1:World) (v ev:Value) (k:Nat) (wr:World):Prop:=Below w1.heap.size w1 wr/\∃ av,Three wr w1.heap.size v ev av/\wr.ownsRow (w1.heap.size+1) 3 1 av (aheadTo l k).length (ivals (aheadTo l k))
theorem AhSt.later {l:List (Int × Int)} {w1:World} {v ev:Value} {k:Nat} {wr w':World} (h:AhSt l w1 v ev k wr) (hb:Below wr.heap.size wr w'):AhSt l w1 v ev k w':=by
 obtain ⟨h1,av,h3,ho⟩:=h;exact ⟨h1.trans (hb.mono h1.size),av,h3.below hb h3.2.2.2.2.2.2,owns_later ho hb (Nat.le_refl _)⟩
theorem read_main (b off cap:Nat) (l:List (Int × Int)) (props:Int) (w:World) (h0:0 <= props) (h6:props <= 6) (hB:0 < w.heap.size) (hT:TabAt w) (hbl:b < w.heap.size) (hat:OpsAt w b off l) (hcap:l.length <= cap) (hz:endsCode (l.map Prod.fst)=0) :
  Calls Tryz.prog 59 #[.slice (some ⟨b,off,none⟩) l.length cap,.int .i64 props] w (LReadPost props (.slice (some ⟨b,off,none⟩) l.length cap) l w):=by
 obtain ⟨hne,h60⟩:=ends_ne hz;rw [List.length_map] at h60;have hr:¬ (props < 0\/6 < props):=by omega
 have hA:∀ o,Below w.heap.size w (w.alloc o):=fun o=>(Below.refl _ _).alloc (Nat.le_refl _) o
 have hK:Kinds w (.slice (some ⟨b,off,none⟩) l.length cap) (l.map Prod.fst):=(show OpsV w _ l from ⟨_,cap,rfl,⟨hcap,fun h=>by simp at h⟩,fun _=>⟨b,off,rfl,hbl,hat⟩⟩).kinds
 have hends:∀ o,Calls Tryz.prog 73 #[.slice (some ⟨b,off,none⟩) l.length cap] (w.alloc o) fun e w'=>Below (w.alloc o).heap.size (w.alloc o) w'/\∃ B,(w.alloc o).heap.size <= B/\e=.returned (.tuple #[.slice (some ⟨B,0,none⟩) l.length l.length,.int .i64 0])/\w'.rowIs B 3 l.length (fun q=>.int .i64 (endAt (l.map Prod.fst) q)):=fun o=>
  (ends_any _ _ (w.alloc o) (by simp) (hT.below (hA o) hB) (hK.below (hA o))).mono fun e w' ⟨h1,_,h3⟩=>⟨h1,by have:=h3 hz;rwa [List.length_map] at this⟩
 have HO:Hid (∀ i,i < l.length->(∀ j,j < i->lopErr props (l.getD j (0,0))=0)->lopErr props (l.getD i (0,0))≠0->lcode props l=lopErr props (l.getD i (0,0))):=fun i hi hj hne=>by
  have hx:=lfirst_at hi hj hne;rw [lcode_op hr hz (by rw [hx];exact hne),hx]
 have HE:Hid ((∀ j,j < l.length->lopErr props (l.getD j (0,0))=0)->lcode props l=if 6 < (aheadTo l l.length).length then 1 else 0):=fun hj=>lcode_many hr hz (lfirst_none hj)
 have HA:Hid (OpsAt w b off l):=hat;have HLd:Hid (aheadL l=aheadTo l l.length):=rfl;unfold LReadPost;obtain ⟨n,hn⟩:∃ n,n=l.length:=⟨_,rfl⟩
 have HN:Hid (n=l.length):=hn;rw [<- hn] at h60 HO HE hends HLd hcap ⊢;obtain ⟨i0,hi,hz0,hz1,hz2⟩:=info_parts infoInt;clear hat hne hz hr hn hK hT
 go_enter Tryz.func59,Tryz.ntmps59
 go_wp2_with (go_at_call 73;refine (hends _).mono ?_;rintro e w1 ⟨hb1,B,hBl,rfl,hrow⟩;have h3:=(Three.new w (.slice none 0 0) (.slice none 0 0) (.slice none 0 0) 130).below hb1 (by simp))
 have hbw1:=(hA _).trans (hb1.mono (hA _).size);have hs1:w.heap.size < w1.heap.size:=h3.2.2.2.2.2.2
 have HS0:Hid (AhSt l w1 (.slice (some ⟨b,off,none⟩) n cap) (.slice (some ⟨B,0,none⟩) n n) 0 (w1.alloc (.cells #[.slice (some ⟨b,off,none⟩) n cap,.slice (some ⟨B,0,none⟩) n n,.slice none 0 0] 130))):=⟨(Below.refl _ _).alloc (Nat.le_refl _) _,_,Three.new _ _ _ _ _,World.ownsRow_nil _ _ _ _⟩;have HRow:Hid (w1.rowIs B 3 n (fun q=>.int .i64 (endAt (l.map Prod.fst) q))):=hrow
 have HT3:Hid (Three w1 w.heap.size (.slice none 0 0) (.slice none 0 0) (.slice none 0 0)):=h3;have hBw:w.heap.size < B:=by have:=hBl;simp at this;omega
 clear hends hb1 hrow h3 hBl
 go_loopw [33] (fun i wr=>∃ k:Nat,k <= n/\i=.int .i64 k/\Hid (AhSt l w1 (.slice (some ⟨b,off,none⟩) n cap) (.slice (some ⟨B,0,none⟩) n n) k wr)/\Hid (∀ j,j < k->lopErr props (l.getD j (0,0))=0)) (fun i _=>n - (intOf i).toNat)
 case atStart=>exact ⟨0,Nat.zero_le _,rfl,HS0.out,fun j hj=>by omega⟩
 case round=>
  obtain ⟨k,hk,rfl,HSt,HJ⟩:=hrel;obtain ⟨hbel,av,h3r,hown⟩:=HSt.out;have hbw:=hbw1.trans (hbel.mono hbw1.size);have hlen:=aheadTo_length l k;have hsr:=hbel.size;obtain ⟨aao,aac,rfl⟩:=owns_slice hown
  by_cases hlt:k < n
  ·obtain ⟨c0,c1⟩:=(HA.out.below hbw hbl) k (by rw [<- HN.out];exact hlt)
   have HOi:=(show Hid _ from HO.out k hlt HJ.out)
   have HJ2:Hid (lopErr props (l.getD k (0,0))=0->∀ j,j < k+1->lopErr props (l.getD j (0,0))=0):=fun h j hj=>by
    by_cases hji:j < k
    ·exact HJ.out j hji
    ·obtain rfl:j=k:=by omega
     exact h
   have HY:Hid (lookB (l.getD k (0,0)).1=true->aheadTo l (k+1)=aheadTo l k++[(k:Int)]):=aheadTo_yes;have HNo:Hid (lookB (l.getD k (0,0)).1=false->aheadTo l (k+1)=aheadTo l k):=aheadTo_no;generalize l.getD k (0,0)=xy at c0 c1 HOi HJ2 HY HNo;obtain ⟨x,y⟩:=xy;simp only at c0 c1 HY HNo
   have hco:=fun w=>lcheckOp_any x y props w h0 h6
   have hlk:=fun w=>look_any x w
   have hAr:∀ o,Below wr.heap.size wr (wr.alloc o):=fun o=>(Below.refl _ _).alloc (Nat.le_refl _) o
   have HW2:Hid (∀ w2,Below (wr.alloc (.cells #[.int .i64 x,.int .i64 y] 50)).heap.size (wr.alloc (.cells #[.int .i64 x,.int .i64 y] 50)) w2->w2.cell? ⟨wr.heap.size,0,none⟩=some (.int .i64 x)/\AhSt l w1 (.slice (some ⟨b,off,none⟩) n cap) (.slice (some ⟨B,0,none⟩) n n) k w2/\Three w2 w.heap.size (.slice none 0 0) (.slice none 0 0) (.slice none 0 0)/\Three w2 w1.heap.size (.slice (some ⟨b,off,none⟩) n cap) (.slice (some ⟨B,0,none⟩) n n) (.slice aao (aheadTo l k).length aac)/\w2.ownsRow (w1.heap.size+1) 3 1 (.slice aao (aheadTo l k).length aac) (aheadTo l k).length (ivals (aheadTo l k))):=fun w2 hb2=>by
    have hb12:Below wr.heap.size wr w2:=(hAr _).trans (hb2.mono (hAr _).size);refine ⟨(hb2.cell (p:=⟨wr.heap.size,0,none⟩) (by simp)).trans (by simp [go_sem]),HSt.out.later hb12,(HT3.out.below hbel hs1).below hb12 (by omega),h3r.below hb12 h3r.2.2.2.2.2.2,owns_later hown hb12 (Nat.le_refl _)⟩
   obtain ⟨L,hL⟩:∃ L,L=(aheadTo l k).length:=⟨_,rfl⟩
   have HL:Hid (L=(aheadTo l k).length):=hL;rw [<- hL] at hlen HW2;clear hL HO HE HA hown h3r HSt HS0 HRow
   by_cases hze:lopErr props (x,y)=0
   ·have HJ3:=(show Hid _ from HJ2.out hze)
    rw [hze] at hco;clear hze HOi HJ2 HJ
    cases hb:lookB x with
    | true=>
     have HAh:=(show Hid _ from HY.out hb)
     rw [hb] at hlk;have h63:L+1 <= maxLen:=by unfold maxLen;omega
     have hkb:(L+1)*8 <= 140737488355328:=by omega
     clear HY HNo hb
     go_wp2_with (first | (go_at_call 74;refine (hco _).mono ?_;rintro e w2 ⟨rfl,hb2⟩;obtain ⟨c2,hst2,h3z,h3w,ho2⟩:=HW2.out w2 hb2;obtain ⟨k0,k1,k2,f0,f1,f2,hl2⟩:=id h3w;have hown2:=fun o=>ho2.alloc o;have hbase:∀ o,w1.heap.size+1 <= (w2.alloc o).heap.size:=(fun o=>by simp;omega);have kA2:∀ o,(w2.alloc o).cell? ⟨w1.heap.size,2,none⟩=some (.slice aao L aac):=(fun o=>(((Below.refl _ _).alloc (Nat.le_refl _) o).cell (p:=⟨w1.heap.size,2,none⟩) hl2).trans k2)) | (go_at_call 75;refine (hlk _).mono ?_;rintro e w3 ⟨rfl,rfl⟩) | (at_builtin;refine wpList_append_own _ rfl (.tmp 49) (.tmp 51) 36 rfl (w1.heap.size+1) 3 i0 (.int .i64 0) 1 8 Tryz.underlying36 hi hz0 hz1 hz2 rfl (by decide) _ _ _ rfl (hown2 _) ⟨_,0,none⟩ 1 1 _ rfl rfl (cell_one_new _ _ _) (by intro u hu;simp at hu;subst hu;rfl) h63 hkb (hbase _) ?_;intro v5 w5 hown5 hgrow5 _;obtain ⟨g5,cp5,rfl⟩:=owns_more hown5;have hb25:Below (w1.heap.size+1) _ w5:=((Below.refl _ _).alloc (by omega) _).grown hgrow5 (hbase _) (owns_block ho2);have h35:=h3w.below hb25 (Nat.lt_succ_self _);obtain ⟨k50,k51,k52,f50,f51,f52,hl5⟩:=id h35))
     have hb15:Below w1.heap.size w1 w5:=hst2.1.trans (hb25.mono (Nat.le_succ _));refine ⟨⟨k+1,hlt,by first | rfl | simp,⟨hb15.setCell (Nat.le_refl _) _,_,h35.set2 _,?_⟩,HJ3.out⟩,by simp [intOf];omega⟩
     rw [HAh.out,List.length_append,<- HL.out];rw [show ivals (aheadTo l k++[(k:Int)])=ivals (aheadTo l k)++[.int .i64 (k:Int)] by simp [ivals]]
     exact owns_set hown5 (Nat.lt_succ_self _) _
    | false=>
     have HAh:=(show Hid _ from HNo.out hb)
     rw [hb] at hlk;clear HY HNo hb
     go_wp2_with (first | (go_at_call 74;refine (hco _).mono ?_;rintro e w2 ⟨rfl,hb2⟩;obtain ⟨c2,hst2,h3z,h3w,ho2⟩:=HW2.out w2 hb2) | (go_at_call 75;refine (hlk _).mono ?_;rintro e w3 ⟨rfl,rfl⟩))
     obtain ⟨q1,av',q2,q3⟩:=hst2;exact ⟨⟨k+1,hlt,by first | rfl | simp,⟨q1,av',q2,by rw [HAh.out];exact q3⟩,HJ3.out⟩,by simp [intOf];omega⟩
   ·have HX:Hid (lcode props l=lopErr props (x,y)):=HOi.out hze
    generalize lopErr props (x,y)=err at hco hze HX;clear HOi HJ2 HY HNo hlk
    go_wp2_with (go_at_call 74;refine (hco _).mono ?_;rintro e w2 ⟨rfl,hb2⟩;obtain ⟨c2,hst2,h3z,h3w,ho2⟩:=HW2.out w2 hb2;obtain ⟨k0,k1,k2,f0,f1,f2,hl2⟩:=id h3z)
    refine bodyPost_ret (v:=.tuple #[.agg #[.slice none 0 0,.slice none 0 0,.slice none 0 0],.int .i64 err]) ?_ rfl ⟨?_,fun _=>by rw [HX.out],fun h=>absurd h (by rw [HX.out];exact hze)⟩
    ·obtain ⟨q0,q1,q2⟩:=h3z.read (.slice none 0 0) (.slice none 0 0) (.slice none 0 0)
     simp [results,Tryz.results59,go_sem,q0,q1,q2]
    ·have hbw2:=hbw1.trans (hst2.1.mono hbw1.size)
     exact ((hbw2.setCell (Nat.le_refl _) _).setCell (Nat.le_refl _) _).setCell (Nat.le_refl _) _
  ·have hkn:k=n:=by omega
   subst hkn;have HX:=(show Hid _ from HE.out HJ.out)
   have h3z:=HT3.out.below hbel hs1;have HRo:Hid (wr.rowIs B 3 k (fun q=>.int .i64 (endAt (l.map Prod.fst) q))):=row_later HRow.out hbel
   have HOw:Hid (wr.ownsRow (w1.heap.size+1) 3 1 (.slice aao (aheadTo l k).length aac) (aheadTo l k).length (ivals (aheadTo l k))):=hown;obtain ⟨L,hL⟩:∃ L,L=(aheadTo l k).length:=⟨_,rfl⟩
   have HL:Hid (L=(aheadTo l k).length):=hL;rw [<- hL] at hlen HX HOw h3r;obtain ⟨k0,k1,k2,f0,f1,f2,hl2⟩:=id h3r;obtain ⟨z0,z1,z2,y0,y1,y2,zl2⟩:=id h3z;clear hL HO HE HA hown HSt HS0 HRow HJ
   by_cases h6L:6 < L
   ·have HX2:Hid (lcode props l=1):=by show _=_;rw [HX.out,if_pos h6L]
    go_wp2_with fail
    refine bodyPost_ret (v:=.tuple #[.agg #[.slice none 0 0,.slice none 0 0,.slice none 0 0],.int .i64 1]) ?_ rfl ⟨?_,fun _=>by rw [HX2.out],fun h=>absurd h (by rw [HX2.out];decide)⟩
    ·obtain ⟨q0,q1,q2⟩:=h3z.read (.slice none 0 0) (.slice none 0 0) (.slice none 0 0)
     simp [results,Tryz.results59,go_sem,q0,q1,q2]
    ·exact ((hbw.setCell (Nat.le_refl _) _).setCell (Nat.le_refl _) _).setCell (Nat.le_refl _) _
   ·have HX2:Hid (lcode props l=0):=by show _=_;rw [HX.out,if_neg h6L]
    go_wp2_with fail
    refine bodyPost_ret (v:=.tuple #[.agg #[.slice (some ⟨b,off,none⟩) k cap,.slice (some ⟨B,0,none⟩) k k,.slice aao L aac],.int .i64 0]) ?_ rfl ⟨?_,fun h=>absurd HX2.out h,fun _=>⟨B,.slice aao L aac,Nat.le_of_lt hBw,rfl,?_,?_⟩⟩
    ·obtain ⟨q0,q1,q2⟩:=h3z.read (.slice (some ⟨b,off,none⟩) k cap) (.slice (some ⟨B,0,none⟩) k k) (.slice aao L aac)
     simp [results,Tryz.results59,go_sem,q0,q1,q2]
    ·exact ((hbw.setCell (Nat.le_refl _) _).setCell (Nat.le_refl _) _).setCell (Nat.le_refl _) _
    ·have hne:∀ q,B≠(⟨w.heap.size,q,none⟩:Addr).block:=fun q=>by simp;omega
     exact HRo.out.of_block ((Below.heap_setCell _ _ _ B (hne 2)).trans ((Below.heap_setCell _ _ _ B (hne 1)).trans (Below.heap_setCell _ _ _ B (hne 0))))
    ·rw [HLd.out,<- HL.out]
     exact owns_mono (owns_set (owns_set (owns_set HOw.out (by simp;omega) _) (by simp;omega) _) (by simp;omega) _) (by omega)
theorem lread_any (v:Value) (l:List (Int × Int)) (props:Int) (w:World) (hB:0 < w.heap.size) (hT:TabAt w) (hV:OpsV w v l) :
  Calls Tryz.prog 59 #[v,.int .i64 props] w (LReadPost props v l w):=by
 by_cases hr:props < 0\/6 < props
 ·obtain ⟨ao,cap,rfl,_⟩:=hV
  exact (read_range ao _ cap props w hr).mono fun e w' ⟨h1,h2⟩=>⟨h2,fun _=>by rw [lcode_range hr];exact h1,fun h=>absurd h (by rw [lcode_range hr];decide)⟩
 ·by_cases hz:endsCode (l.map Prod.fst)=0
  ·obtain ⟨hne,_⟩:=ends_ne hz
   obtain ⟨ao,cap,rfl,h0,h⟩:=hV;obtain ⟨b,off,rfl,hbl,hat⟩:=h (by rintro rfl;exact hne rfl)
   exact read_main b off cap l props w (by omega) (by omega) hB hT hbl hat h0.1 hz
  ·exact (read_ends v _ props w (by omega) (by omega) hB hT hV.kinds hz).mono fun e w' ⟨h1,h2⟩=>⟨h2,fun _=>by rw [lcode_ends hr hz];exact h1,fun h=>absurd h (by rw [lcode_ends hr hz];exact hz)⟩
theorem lcheck_any (v:Value) (l:List (Int × Int)) (props:Int) (w:World) (hB:0 < w.heap.size) (hT:TabAt w) (hV:OpsV w v l) :
  Calls Tryz.prog 58 #[v,.int .i64 props] w fun e w'=>e=.returned (.int .i64 (lcode props l))/\Below w.heap.size w w':=by
 have hrd:Calls Tryz.prog 59 #[v,.int .i64 props] w fun e w'=>Below w.heap.size w w'/\∃ ao an ac bo bn bc co cn cc,e=.returned (.tuple #[.agg #[.slice ao an ac,.slice bo bn bc,.slice co cn cc],.int .i64 (lcode props l)]):=by
  refine (lread_any v l props w hB hT hV).mono fun e w' ⟨h1,h2,h3⟩=>⟨h1,?_⟩
  by_cases hz:lcode props l=0
  ·obtain ⟨B,av,_,he,_,ho⟩:=h3 hz
   obtain ⟨aa,ac,rfl⟩:=owns_slice ho;obtain ⟨ao,cap,rfl,_⟩:=hV;exact ⟨_,_,_,_,_,_,_,_,_,by rw [hz];exact he⟩
  ·exact ⟨_,_,_,_,_,_,_,_,_,h2 hz⟩
 obtain ⟨ao,cap,rfl,_⟩:=hV;generalize lcode props l=x at *;clear hT
 go_enter Tryz.func58,Tryz.ntmps58
 go_wp2_with (go_at_call 59;refine hrd.mono ?_;rintro e w1 ⟨hb1,ao,an,ac,bo,bn,bc,co,cn,cc,rfl⟩)
 go_ret
 exact ⟨rfl,by first | exact hb1 | exact hb1.alloc hb1.size _⟩
structure PartsAt (w:World) (bh bf bp bH n B pl:Nat) (h:Nat->Bool) (l:List (Int × Int)):Prop where
 holds:w.cell? ⟨bh,0,none⟩=some (.slice (some ⟨bH,0,none⟩) n n)
 row:∀ j,j < n->w.cell? ⟨bH,j,none⟩=some (.bool (h j))
 ends : w.cell? ⟨bf, 1, none⟩ = some (.slice (some ⟨B, 0, none⟩) n n)
 erow:∀ j,j < n->w.cell? ⟨B,j,none⟩=some (.int .i64 (endAt (l.map Prod.fst) j))
 place:w.cell? ⟨bp,0,none⟩=some (.int .i64 pl)
theorem first_any (bh bp bH n pl:Nat) (x:Bool) (w:World) (hn:n <= 60) (hp:pl+1 < n) (c0:w.cell? ⟨bh,0,none⟩=some (.slice (some ⟨bH,0,none⟩) n n)) (c1:w.cell? ⟨bp,0,none⟩=some (.int .i64 pl)) (c2:w.cell? ⟨bH,pl+1,none⟩=some (.bool x)) :
  Calls Tryz.prog 100 #[.pointer (some ⟨bh,0,none⟩),.pointer (some ⟨bp,0,none⟩)] w fun e w'=>e=.returned (.bool x)/\w'=w:=by
 go_enter Tryz.func100,Tryz.ntmps100
 go_wp2_with fail
 go_ret
 exact ⟨rfl,rfl⟩
theorem second_any (bh bf bp bH n B pl s:Nat) (x:Bool) (w:World) (hn:n <= 60) (hp:pl+1 < n) (hs:s < n) (c0:w.cell? ⟨bh,0,none⟩=some (.slice (some ⟨bH,0,none⟩) n n)) (c1:w.cell? ⟨bp,0,none⟩=some (.int .i64 pl)) (c2:w.cell? ⟨bf,1,none⟩=some (.slice (some ⟨B,0,none⟩) n n)) (c3:w.cell? ⟨B,pl+1,none⟩=some (.int .i64 s)) (c4:w.cell? ⟨bH,s,none⟩=some (.bool x)) :
  Calls Tryz.prog 101 #[.pointer (some ⟨bh,0,none⟩),.pointer (some ⟨bf,0,none⟩),.pointer (some ⟨bp,0,none⟩)] w fun e w'=>e=.returned (.bool x)/\∃ q,w'=w.drewN q:=by
 go_enter Tryz.func101,Tryz.ntmps101
 go_wp2_with fail
 go_quiet (fail)
 go_wp2_with fail
 go_ret
 exact ⟨rfl,_,rfl⟩
theorem parts_any (b off cap n B bH pl:Nat) (av:Value) (h:Nat->Bool) (l:List (Int × Int)) (aao:Option Addr) (an ac:Nat) (hav:av=.slice aao an ac) (w:World) (hr:∀ j,j < n->w.cell? ⟨bH,j,none⟩=some (.bool (h j))) (hbH:bH < w.heap.size) (he:∀ j,j < n->w.cell? ⟨B,j,none⟩=some (.int .i64 (endAt (l.map Prod.fst) j))) (hbB:B < w.heap.size) :
  Calls Tryz.prog 82 #[.agg #[.slice (some ⟨b,off,none⟩) n cap,.slice (some ⟨B,0,none⟩) n n,av],.int .i64 pl,.slice (some ⟨bH,0,none⟩) n n] w fun e w'=>
   e=.returned (.tuple #[.func (.func 100) #[] #[.pointer (some ⟨w.heap.size+1+1,0,none⟩),.pointer (some ⟨w.heap.size+1,0,none⟩)],.func (.func 101) #[] #[.pointer (some ⟨w.heap.size+1+1,0,none⟩),.pointer (some ⟨w.heap.size,0,none⟩),.pointer (some ⟨w.heap.size+1,0,none⟩)]])/\Below w.heap.size w w'/\Hid (PartsAt w' (w.heap.size+1+1) w.heap.size (w.heap.size+1) bH n B pl h l):=by
 subst hav;have HR:=(show Hid _ from hr)
 have HE:=(show Hid _ from he)
 clear hr he
 go_enter Tryz.func82,Tryz.ntmps82
 go_wp2_with fail
 go_ret2
 have hb:Below w.heap.size w (((w.alloc (.cells #[.slice (some ⟨b,off,none⟩) n cap,.slice (some ⟨B,0,none⟩) n n,.slice aao an ac] 130)).alloc (.cells #[.int .i64 pl] 3)).alloc (.cells #[.slice (some ⟨bH,0,none⟩) n n] 100)):=(((Below.refl _ _).alloc (Nat.le_refl _) _).alloc (by simp) _).alloc (by simp;omega) _
 refine ⟨rfl,hb,?_⟩
 show PartsAt _ _ _ _ _ _ _ _ _ _
 constructor
 ·simp [go_sem]
 ·exact fun j hj=>(hb.cell (p:=⟨bH,j,none⟩) hbH).trans (HR.out j hj)
 ·simp [go_sem]
 ·exact fun j hj=>(hb.cell (p:=⟨B,j,none⟩) hbB).trans (HE.out j hj)
 ·simp [go_sem]
theorem PartsAt.below {w w':World} {bh bf bp bH n B pl:Nat} {h:Nat->Bool} {l:List (Int × Int)} (p:PartsAt w bh bf bp bH n B pl h l) (hb:Below w.heap.size w w') (h1:bh < w.heap.size) (h2:bf < w.heap.size) (h3:bp < w.heap.size) (h4:bH < w.heap.size) (h5:B < w.heap.size):PartsAt w' bh bf bp bH n B pl h l:=
 ⟨(hb.cell (p:=⟨bh,0,none⟩) h1).trans p.holds,fun j hj=>(hb.cell (p:=⟨bH,j,none⟩) h4).trans (p.row j hj),(hb.cell (p:=⟨bf,1,none⟩) h2).trans p.ends,fun j hj=>(hb.cell (p:=⟨B,j,none⟩) h5).trans (p.erow j hj),(hb.cell (p:=⟨bp,0,none⟩) h3).trans p.place⟩
theorem PartsAt.first {w:World} {bh bf bp bH n B pl:Nat} {h:Nat->Bool} {l:List (Int × Int)} (p:PartsAt w bh bf bp bH n B pl h l) (hn:n <= 60) (hp:pl+1 < n) (q:Nat) :
  Calls Tryz.prog 100 #[.pointer (some ⟨bh,0,none⟩),.pointer (some ⟨bp,0,none⟩)] (w.drewN q) fun e w'=>e=.returned (.bool (h (pl+1)))/\w'=w.drewN q:=
 first_any bh bp bH n pl _ _ hn hp (by simpa using p.holds) (by simpa using p.place) (by simpa using p.row _ hp)
theorem PartsAt.second {w:World} {bh bf bp bH n B pl:Nat} {h:Nat->Bool} {l:List (Int × Int)} (p:PartsAt w bh bf bp bH n B pl h l) (hn:n <= 60) (hp:pl+1 < n) (hs:sec l pl < n) (q:Nat) :
  Calls Tryz.prog 101 #[.pointer (some ⟨bh,0,none⟩),.pointer (some ⟨bf,0,none⟩),.pointer (some ⟨bp,0,none⟩)] (w.drewN q) fun e w'=>e=.returned (.bool (h (sec l pl)))/\∃ r,w'=w.drewN r:=
 (second_any bh bf bp bH n B pl (sec l pl) _ _ hn hp hs (by simpa using p.holds) (by simpa using p.place) (by simpa using p.ends) (by have:=p.erow _ hp;unfold sec;simpa using this) (by simpa using p.row _ hs)).mono fun e w' ⟨h1,r,h2⟩=>⟨h1,q+r,by rw [h2,World.drewN_drewN]⟩
theorem makes_any (k v:Int) (lo:Option Addr) (lc bh bf bp bH n B pl:Nat) (letter:List Bool) (h:Nat->Bool) (l:List (Int × Int)) (w:World) (hn:n <= 60)
  (hL:BoolsV w (.slice lo letter.length lc) letter) (hP:PartsAt w bh bf bp bH n B pl h l) (b1:bh < w.heap.size) (b2:bf < w.heap.size) (b3:bp < w.heap.size) (b4:bH < w.heap.size) (b5:B < w.heap.size)
  (h13:k=13->0 <= v/\v < letter.length) (h1:k=10\/k=8\/k=9->pl+1 < n) (h2:k=8\/k=9->sec l pl < n) :
  Calls Tryz.prog 83 #[.agg #[.int .i64 k,.int .i64 v],.slice lo letter.length lc,.func (.func 100) #[] #[.pointer (some ⟨bh,0,none⟩),.pointer (some ⟨bp,0,none⟩)],.func (.func 101) #[] #[.pointer (some ⟨bh,0,none⟩),.pointer (some ⟨bf,0,none⟩),.pointer (some ⟨bp,0,none⟩)]] w fun e w'=>
   e=.returned (.bool (mkB (k,v) letter (h (pl+1)) (h (sec l pl))))/\Below w.heap.size w w':=by
 have hA:∀ o,Below w.heap.size w (w.alloc o):=fun o=>(Below.refl _ _).alloc (Nat.le_refl _) o
 have hP':=fun o=>hP.below (hA o) b1 b2 b3 b4 b5
 by_cases e13:k=13
 ·subst e13
  obtain ⟨hv0,hv1⟩:=h13 rfl;obtain ⟨vn,rfl⟩:∃ vn:Nat,v=vn:=⟨v.toNat,by omega⟩
  obtain ⟨lo',lc',hls,hll⟩:=hL
  injection hls with e1 e2 e3
  subst e1;obtain ⟨b,off,rfl,hbl,hat⟩:=hll (by intro h;rw [h] at hv1;simp at hv1;omega)
  have hc:=fun o=>((hA o).cell (p:=⟨b,off+vn,none⟩) hbl).trans (hat vn (by omega))
  have hm:mkB (13,(vn:Int)) letter (h (pl+1)) (h (sec l pl))=letter.getD vn false:=by simp [mkB]
  rw [hm];generalize letter.getD vn false=x at hc ⊢;generalize letter.length=ln at *;have hvl:vn < ln:=by omega
  clear hm hll hat hv0 hv1 h1 h2 h13 hP hP'
  go_enter Tryz.func83,Tryz.ntmps83
  go_wp2_with fail
  go_ret
  exact ⟨rfl,hA _⟩
 ·by_cases e11:k=11
  ·subst e11
   have hm:mkB (11,v) letter (h (pl+1)) (h (sec l pl))=true:=by simp [mkB]
   rw [hm];clear hm hL h1 h2 h13 hP hP' e13
   go_enter Tryz.func83,Tryz.ntmps83
   go_wp2_with fail
   go_ret
   exact ⟨rfl,hA _⟩
  ·by_cases e10:k=10
   ·subst e10
    have hp:=h1 (.inl rfl);have hf:=fun o=>(hP' o).first hn hp 0
    have hm:mkB (10,v) letter (h (pl+1)) (h (sec l pl))=!h (pl+1):=by simp [mkB]
    rw [hm];generalize h (pl+1)=x at hf ⊢;clear hm hL h1 h2 h13 hP hP' e13 e11
    go_enter Tryz.func83,Tryz.ntmps83
    go_wp2_with (go_at_call 100;refine (hf _).mono ?_;rintro e w1 ⟨rfl,rfl⟩)
    go_ret
    exact ⟨rfl,below_drewN (hA _) 0⟩
   ·by_cases e8:k=8
    ·subst e8
     have hp:=h1 (.inr (.inl rfl));have hs:=h2 (.inl rfl);have hf:=fun o q=>(hP' o).first hn hp q
     have hf2:=fun o q=>(hP' o).second hn hp hs q
     have hm:mkB (8,v) letter (h (pl+1)) (h (sec l pl))=(h (pl+1)&&h (sec l pl)):=by simp [mkB]
     rw [hm];generalize h (pl+1)=x at hf ⊢;generalize h (sec l pl)=y at hf2 ⊢;clear hm hL h1 h2 h13 hP hP' e13 e11 e10
     cases x
     ·go_enter Tryz.func83,Tryz.ntmps83
      go_wp2_with (go_at_call 100;refine (hf _ 0).mono ?_;rintro e w1 ⟨rfl,rfl⟩)
      go_ret
      exact ⟨rfl,below_drewN (hA _) 0⟩
     ·go_enter Tryz.func83,Tryz.ntmps83
      go_wp2_with (first | (go_at_call 100;refine (hf _ 0).mono ?_;rintro e w1 ⟨rfl,rfl⟩) | (go_at_call 101;refine (hf2 _ 0).mono ?_;rintro e w1 ⟨rfl,r,rfl⟩))
      go_ret
      exact ⟨by simp,below_drewN (hA _) _⟩
    ·by_cases e9:k=9
     ·subst e9
      have hp:=h1 (.inr (.inr rfl));have hs:=h2 (.inr rfl);have hf:=fun o q=>(hP' o).first hn hp q
      have hf2:=fun o q=>(hP' o).second hn hp hs q
      have hm:mkB (9,v) letter (h (pl+1)) (h (sec l pl))=(h (pl+1)||h (sec l pl)):=by simp [mkB]
      rw [hm];generalize h (pl+1)=x at hf ⊢;generalize h (sec l pl)=y at hf2 ⊢;clear hm hL h1 h2 h13 hP hP' e13 e11 e10 e8
      cases x
      ·go_enter Tryz.func83,Tryz.ntmps83
       go_wp2_with (first | (go_at_call 100;refine (hf _ 0).mono ?_;rintro e w1 ⟨rfl,rfl⟩) | (go_at_call 101;refine (hf2 _ 0).mono ?_;rintro e w1 ⟨rfl,r,rfl⟩))
       go_ret
       exact ⟨by simp,below_drewN (hA _) _⟩
      ·go_enter Tryz.func83,Tryz.ntmps83
       go_wp2_with (go_at_call 100;refine (hf _ 0).mono ?_;rintro e w1 ⟨rfl,rfl⟩)
       go_ret
       exact ⟨rfl,below_drewN (hA _) 0⟩
     ·have hm:mkB (k,v) letter (h (pl+1)) (h (sec l pl))=false:=by simp [mkB,e13,e11,e10,e8,e9]
      rw [hm];clear hm hL h1 h2 h13 hP hP'
      go_enter Tryz.func83,Tryz.ntmps83
      go_wp2_with fail
      go_ret
      exact ⟨rfl,hA _⟩
end Go.Proofs.YtfnobbpbmelgnaaGreatDoor
namespace Go.Proofs.YtfnobbpbmelgnaaGreatDoor
open Go.ChangeShapes Go.WideShapes Go.ChangeAt Go.RowKit Go.Deep Go.Shelf
open Terms
set_option maxHeartbeats 6400000
set_option maxRecDepth 20000
attribute [local go_sem] Oper.semAt_some
def backAt {n:Nat} (h:0 < n) (j:Nat):Fin n:=⟨n - 1 - j,by omega⟩
def backTo {n:Nat} (h:0 < n) (k:Nat):List (Fin n):=(List.range k).map (backAt h)
theorem backTo_succ {n:Nat} (h:0 < n) (k:Nat):backTo h (k+1)=backTo h k++[backAt h k]:=by simp [backTo,List.range_succ]
theorem backTo_length {n:Nat} (h:0 < n) (k:Nat):(backTo h k).length=k:=by simp [backTo]
def backEnc (l:List (Int × Int)) (n:Nat) (x:Fin n):Array Value:=#[.int .i64 (x.1:Int),.agg #[.int .i64 (l.getD x.1 (0,0)).1,.int .i64 (l.getD x.1 (0,0)).2]]
def BackK (n₀ Bs:Nat) (A B:World):Prop:=Below n₀ A B/\B.heap[Bs]? = A.heap[Bs]?
set_option maxRecDepth 100000 in
theorem back1_in (F:Fence) (m:Nat) (h7:F.fn 99) (hro:F.round=none) (hm:1 <= m) (L Bs n₀ b off n cap:Nat) (l:List (Int × Int)) (h0n:0 < n) (h60:n <= 60) (hnl:n=l.length) (hb:b < n₀) (J Jx:List (Fin n)->World->Prop)
  (hY:∀ pre x W,J pre W->pre.length < n->YieldAt F (m - 1) Tryz.prog L (backEnc l n x) W fun e W'=>
   (e=.returned (.bool true)/\J (pre++[x]) W'/\BackK n₀ Bs W W')\/(e=.returned (.bool false)/\Jx (pre++[x]) W'))
  (W:World) (hBs:W.cell? ⟨Bs,0,none⟩=some (.slice (some ⟨b,off,none⟩) n cap)) (hc:OpsAt W b off l) (h0:J [] W) :
  CallsIn F m Tryz.prog 99 #[.func (.yield L) #[] #[],.pointer (some ⟨Bs,0,none⟩)] W fun e W'=>(∃ v,e=.returned v)/\
   ((∃ ys,ys=backTo h0n n/\J ys W')\/(∃ pre,(∃ k,k <= n/\pre=backTo h0n k)/\Jx pre W')):=by
 refine callsIn_of_wp Tryz.func99 rfl h7 ?_ hro
 simp only [Tryz.ntmps99,List.size_toArray,List.length_cons,List.length_nil,Nat.reduceAdd,Nat.reduceSub,Array.replicate_succ,Array.replicate_zero,List.push_toArray,List.append_toArray,List.nil_append,List.cons_append];have HC:Hid (OpsAt W b off l):=hc;have HN:Hid (n=l.length):=hnl;clear hc hnl
 gi_wp2
 gi_loopw [3] (fun i wr=>∃ k:Nat,k <= n/\i=.int .i64 ((n:Int) - 1 - k)/\J (backTo h0n k) wr/\BackK n₀ Bs W wr)
  (fun i _=>(intOf i+1).toNat)
 case atStart=>exact ⟨0,Nat.zero_le _,by first | rfl | simp,h0,Below.refl _ _,rfl⟩
 case round=>
  obtain ⟨k,hk,rfl,hJs,hnx,hbx⟩:=hrel;have hcb:wr.cell? ⟨Bs,0,none⟩=some (.slice (some ⟨b,off,none⟩) n cap):=(World.cell?_of_block (w:=W) hbx).trans hBs
  by_cases hlt:k < n
  ·obtain ⟨p,hp⟩:∃ p:Nat,p=n - 1 - k:=⟨_,rfl⟩
   have hpi:(n:Int) - 1 - k=(p:Int):=by omega
   have hpn:p < n:=by omega
   obtain ⟨c0,c1⟩:=(HC.out.below hnx hb) p (by rw [<- HN.out];exact hpn)
   obtain ⟨fn,tmps,assign,body,hy,hR⟩:=hY _ (backAt h0n k) wr hJs (by rw [backTo_length];exact hlt)
   have hba:(backAt h0n k).1=p:=hp.symm;simp only [backEnc,hba] at hy;rw [hpi];have HPI:Hid ((n:Int) - 1 - k=(p:Int)):=hpi;clear hp hpi hba;generalize l.getD p (0,0)=xy at c0 c1 hy;obtain ⟨x,y⟩:=xy;simp only at c0 c1 hy
   gi_wp2
   refine hR.mono ?_
   rintro e W3 (⟨rfl,hJ3,hk3,hk4⟩ | ⟨rfl,hJx3⟩)
   ·gi_wp2
    go_roundw
    case rel=>exact ⟨k+1,by omega,by have:=HPI.out;first | (congr 1;omega) | (simp;omega),by rw [backTo_succ];exact hJ3,hnx.trans hk3,hk4.trans hbx⟩
    case measure=>have:=HPI.out;first | (simp [intOf];omega) | simp [intOf]
   ·gi_wp2
    refine bodyPost_ret (results_none rfl _ _ _) rfl ?_
    exact ⟨⟨_,rfl⟩,.inr ⟨_,⟨k+1,by omega,(backTo_succ _ _).symm⟩,hJx3⟩⟩
  ·obtain rfl:k=n:=by omega
   have hpi:(k:Int) - 1 - k=-1:=by omega
   rw [hpi]
   gi_wp2
   go_end0
   exact ⟨⟨_,rfl⟩,.inl ⟨_,rfl,hJs⟩⟩
theorem back_in (F:Fence) (m:Nat) (h5:F.fn 81) (hro:F.round=none) (a:Option Addr) (len cap:Nat) (w:World) :
  CallsIn F m Tryz.prog 81 #[.slice a len cap] w fun e w'=>e=.returned (.func (.func 99) #[] #[.pointer (some ⟨w.heap.size,0,none⟩)])/\w'=w.alloc (.cells #[.slice a len cap] 32):=by
 refine callsIn_of_wp Tryz.func81 rfl h5 ?_ hro
 simp only [Tryz.ntmps81,List.size_toArray,List.length_cons,List.length_nil,Nat.reduceAdd,Nat.reduceSub,Array.replicate_succ,Array.replicate_zero,List.push_toArray,List.append_toArray,List.nil_append,List.cons_append]
 gi_wp2
 go_ret
 exact ⟨rfl,rfl⟩
theorem back_stops (F:Fence) (m:Nat) (h7:F.fn 99) (hro:F.round=none) (hm:1 <= m) (Bs n₀ b off n cap:Nat) (l:List (Int × Int)) (h0n:0 < n) (h60:n <= 60) (hnl:n=l.length) (hb:b < n₀) (w:World) (hBs:Bs < w.heap.size) (hn₀:n₀ <= w.heap.size)
  (hc:w.cell? ⟨Bs,0,none⟩=some (.slice (some ⟨b,off,none⟩) n cap)) (hI:OpsAt w b off l) :
  SeqStopsK F m Tryz.prog 99 #[.pointer (some ⟨Bs,0,none⟩)] (backEnc l n) (BackK n₀ Bs) (fun ys=>ys=backTo h0n n)
   (fun pre=>∃ k,k <= n/\pre=backTo h0n k) n w:=fun L J Jx W hW _ _ hY h0=>
 back1_in F m h7 hro hm L Bs n₀ b off n cap l h0n h60 hnl hb J Jx hY W ((hW.cell (p:=⟨Bs,0,none⟩) hBs).trans hc) (hI.below (hW.mono hn₀) hb) h0
theorem backK_t {n₀ Bs:Nat} {A B C:World} (h:BackK n₀ Bs A B) (k:BackK n₀ Bs B C):BackK n₀ Bs A C:=⟨h.1.trans k.1,k.2.trans h.2⟩
theorem backK_b {n₀ Bs:Nat} {w:World} (hn:n₀ <= w.heap.size) (hB:Bs < w.heap.size) (W:World) (l:Nat) (o o':Obj) (hl:w.heap.size <= l) (h:W.heap[l]? = some o) (h1:o.isCells=false) (h2:o.isWalk=false):BackK n₀ Bs W (W.putObj l o'):=
 ⟨belowK_b hn W l o o' hl h h1 h2,(belowK_b (n₀:=Bs+1) (w:=w) hB W l o o' hl h h1 h2).block Bs (Nat.lt_succ_self _)⟩
end Go.Proofs.YtfnobbpbmelgnaaGreatDoor
namespace Go.Proofs.YtfnobbpbmelgnaaGreatDoor
open Go.ChangeShapes Go.WideShapes Go.ChangeAt Go.RowKit Go.Deep Go.Shelf
set_option maxHeartbeats 6400000
set_option maxRecDepth 20000
theorem upon_in {P:Program} (L n:Nat) {o:Oper} {a:Act} {next:Act->World->Prop} {Q:Exit->Act->World->Prop} {r:Result Next} (h:o.upon P a next Q r):o.uponIn (Fence.wide.inRound L) n P a next Q r:=by
 have hd:∀ m:Nat,(Fence.wide.inRound L).depth.isSome=true->1 <= m:=fun m h=>by simp [Fence.wide,Fence.inRound] at h
 cases r with
 | halt x w'=>cases x <;> first | exact h | exact h.elim
 | ok x w'=>
  cases x with
  | value v=>exact h
  | skip=>exact h
  | defer d=>exact h
  | enter f args=>exact ⟨hd _,CallsIn.inRound L ((callsIn_wide.2 h).mono fun e w'' he=>by cases e <;> exact he)⟩
  | row row args=>exact ⟨hd _,fun c cs _=>by obtain ⟨v,w'',h1,h2⟩:=h c cs;exact ⟨v,w'',h1,stepsIn_wide.2 h2⟩⟩
  | _=>exact (h:False).elim
theorem any_in {P:Program} (L n:Nat) {md:Region.Mode} {ops:Array Oper} {Q:Exit->Act->World->Prop} (hd:∀ (i:Nat) (o:Oper),ops[i]? = some o->∀ c,o.op≠Op.defer c) (hQ:LetsOut Q->False) :
  ∀ (fuel:Nat) (listed:Array Bool) (a:Act) (w:World),wpAny P md ops Q fuel listed a w->wpAnyIn (Fence.wide.inRound L) n P md ops Q fuel listed a w:=by
 intro fuel
 induction fuel with
 | zero=>intro listed a w h;exact h
 | succ fuel ih=>
  intro listed a w h;refine ⟨h.1,fun i hi=>?_⟩
  have h1:=wpOp_mono (K':=wpAnyIn (Fence.wide.inRound L) n P md ops Q fuel (listed.setIfInBounds i true)) (fun a' w' h'=>ih _ a' w' h') (h.2 i hi)
  unfold wpOp at h1;unfold wpOpIn
  cases ho:ops[i]? with
  | none=>simp only [ho] at h1 ⊢;exact h1
  | some o=>
   simp only [ho] at h1 ⊢
   split
   ·rename_i hw
    rw [if_pos hw] at h1
    rcases h1 with h1 | ⟨_,h1⟩
    ·refine ⟨fun f _=>trivial,?_⟩
     rw [Oper.semAt_eq _ _ _ (hd i o ho)];exact upon_in L n h1
    ·exact (hQ h1).elim
   ·rename_i hw
    rw [if_neg hw] at h1;exact ⟨fun f _=>trivial,h1⟩
theorem region_round {P:Program} {L n id:Nat} {ops:Array Oper} {Q:Exit->Act->World->Prop} {a:Act} {w:World} (S:World->Prop) (hm:P.follows .mixedOrders=true) (hd:∀ (i:Nat) (o:Oper),ops[i]? = some o->∀ c,o.op≠Op.defer c) (hQ:LetsOut Q->False)
  (h:wpAnyH P .any ops Q S ops.size (Array.replicate ops.size false) a w.drew):(Code.region id ops true).wpIn (Fence.wide.inRound L) n P Q a w:=
 wpIn_region_any hm (any_in L n hd hQ _ _ _ _ (wpAny_of_held _ _ _ _ h))
theorem wpOp_call {P:Program} {ops:Array Oper} {Q:Exit->Act->World->Prop} {i:Nat} {K:Act->World->Prop} {a:Act} {w:World} {o:Oper} {f:FuncId} {args:Array Value} {R:Ending->World->Prop} (hi:ops[i]? = some o) (hw:Region.wanted o (yielded ops a.tmps)=true) (hr:(execOp a.eval o).run P w=.ok (.enter f args) w) (h:Calls P f args w R)
  (hR:∀ e w',R e w'->∃ v,e=.returned v/\K (a.put o.dst v) w'):wpOp P ops Q i K a w:=by
 unfold wpOp;simp only [hi];rw [if_pos hw];refine Or.inl ?_
 unfold Oper.wp;rw [hr];refine h.mono fun e w' he=>?_
 obtain ⟨v,rfl,hk⟩:=hR e w' he;exact hk
theorem wpOp_skip {P:Program} {ops:Array Oper} {Q:Exit->Act->World->Prop} {i:Nat} {K:Act->World->Prop} {a:Act} {w w':World} {o:Oper} (hi:ops[i]? = some o) (hw:Region.wanted o (yielded ops a.tmps)=true) (hr:(execOp a.eval o).run P w=.ok .skip w') (h:K (a.put o.dst undef) w'):wpOp P ops Q i K a w:=by
 unfold wpOp;simp only [hi];rw [if_pos hw];refine Or.inl ?_
 unfold Oper.wp;rw [hr];exact h
end Go.Proofs.YtfnobbpbmelgnaaGreatDoor
namespace Go.Proofs.YtfnobbpbmelgnaaGreatDoor
open Go.ChangeShapes Go.WideShapes Go.ChangeAt Go.RowKit Go.Deep Go.Shelf
open Terms
set_option maxHeartbeats 6400000
set_option maxRecDepth 20000
attribute [local go_sem] Oper.semAt_some
end Go.Proofs.YtfnobbpbmelgnaaGreatDoor
namespace Go.Proofs.YtfnobbpbmelgnaaGreatDoor
open Go.ChangeShapes Go.WideShapes Go.ChangeAt Go.RowKit Go.Deep Go.Shelf
open Terms
set_option maxHeartbeats 6400000
set_option maxRecDepth 20000
end Go.Proofs.YtfnobbpbmelgnaaGreatDoor
namespace Go.Proofs.YtfnobbpbmelgnaaGreatDoor
open Go.ChangeShapes Go.WideShapes Go.ChangeAt Go.RowKit Go.Deep
open Terms
set_option maxHeartbeats 6400000
set_option maxRecDepth 20000
theorem lahead_own (v:Value) (l:List (Int × Int)) (props:Int) (w:World) (hB:0 < w.heap.size) (hT:TabAt w) (hV:OpsV w v l) (hc:lcode props l=0) :
  Calls Tryz.prog 43 #[v,.int .i64 props] w fun e w'=>∃ ao ac,e=.returned (.tuple #[.slice ao (aheadL l).length ac,.int .i64 0])/\Below w.heap.size w w'/\Hid (w'.ownsRow w.heap.size 3 1 (.slice ao (aheadL l).length ac) (aheadL l).length (ivals (aheadL l))):=by
 have hrd:Calls Tryz.prog 59 #[v,.int .i64 props] w fun e w'=>Below w.heap.size w w'/\∃ ao an ac bo bn bc co cc,e=.returned (.tuple #[.agg #[.slice ao an ac,.slice bo bn bc,.slice co (aheadL l).length cc],.int .i64 0])/\Hid (w'.ownsRow w.heap.size 3 1 (.slice co (aheadL l).length cc) (aheadL l).length (ivals (aheadL l))):=by
  refine (lread_any v l props w hB hT hV).mono fun e w' ⟨h1,h2,h3⟩=>⟨h1,?_⟩
  obtain ⟨B,av,_,he,_,ho⟩:=h3 hc;obtain ⟨aa,ac,rfl⟩:=owns_slice ho;obtain ⟨ao,cap,rfl,_⟩:=hV;exact ⟨_,_,_,_,_,_,_,_,he,ho⟩
 obtain ⟨ao,cap,rfl,_⟩:=hV;generalize (aheadL l).length=an at *;clear hT hc
 go_enter Tryz.func43,Tryz.ntmps43
 go_wp2_with (go_at_call 59;refine hrd.mono ?_;rintro e w1 ⟨hb1,ao,bn,ac,bo,bm,bc,co,cc,rfl,HI⟩)
 go_ret2
 exact ⟨_,_,rfl,by first | exact hb1 | exact hb1.alloc hb1.size _,by first | exact HI.out | exact HI.out.alloc _⟩
end Go.Proofs.YtfnobbpbmelgnaaGreatDoor
namespace Go.Proofs.YtfnobbpbmelgnaaGreatDoor
open Go.ChangeShapes Go.WideShapes Go.ChangeAt Go.RowKit Go.Deep Go.Shelf
open Terms
set_option maxHeartbeats 6400000
set_option maxRecDepth 20000
attribute [local go_sem] Oper.semAt_some
end Go.Proofs.YtfnobbpbmelgnaaGreatDoor
namespace Go.Proofs.YtfnobbpbmelgnaaGreatDoor
open Go.ChangeShapes Go.WideShapes Go.ChangeAt Go.RowKit Go.Deep
open Terms
set_option maxHeartbeats 6400000
set_option maxRecDepth 20000
end Go.Proofs.YtfnobbpbmelgnaaGreatDoor
namespace Go.Proofs.YtfnobbpbmelgnaaGreatDoor
open Go.ChangeShapes Go.WideShapes Go.ChangeAt Go.RowKit Go.Deep Go.Joins
open Terms
set_option maxHeartbeats 6400000
set_option maxRecDepth 20000
section
variable {H : Type} {enc : TypeId × Value -> H} {W : World}
end
end Go.Proofs.YtfnobbpbmelgnaaGreatDoor
namespace Go.Proofs.YtfnobbpbmelgnaaGreatDoor
open Go.ChangeShapes Go.WideShapes Go.ChangeAt Go.RowKit Go.Deep
open Terms
set_option maxHeartbeats 6400000
set_option maxRecDepth 20000
end Go.Proofs.YtfnobbpbmelgnaaGreatDoor
namespace Go.Proofs.YtfnobbpbmelgnaaGreatDoor
open Go.ChangeShapes Go.WideShapes Go.ChangeAt Go.RowKit Go.Deep Go.Joins
open Terms
set_option maxHeartbeats 6400000
set_option maxRecDepth 20000
theorem Raws.up {w w':World} {v:Value} {rs:List (Int × Int)} (h:Raws w w.heap.size v rs) (hb:Below w.heap.size w w'):Raws w' w'.heap.size v rs:=by
 obtain ⟨⟨ao,cap,hv,h1⟩,h2,h3⟩:=h;refine ⟨⟨ao,cap,hv,fun hne=>?_⟩,h2,h3⟩
 obtain ⟨b,off,ha,hlt,hat⟩:=h1 hne;exact ⟨b,off,ha,Nat.lt_of_lt_of_le hlt hb.size,hat.below hb hlt⟩
section
variable {H : Type} {enc : TypeId × Value -> H} {W : World}
end
end Go.Proofs.YtfnobbpbmelgnaaGreatDoor
namespace Go.Proofs.YtfnobbpbmelgnaaGreatDoor
open Go.ChangeShapes Go.WideShapes Go.ChangeAt Go.RowKit Go.Deep
open Terms Tm
set_option maxHeartbeats 6400000
set_option maxRecDepth 20000
noncomputable def tkcode (m:Mo) (ps:List (List (Int × Int))) (l:List (Int × Int)):Int:=if pcode m ps≠0 then pcode m ps else lcode ps.length l
structure TaskV (w:World) (va vr pv fv:Value) (m:Mo) (ps:List (List (Int × Int))) (l:List (Int × Int)):Prop where
 mo:ModelV w va vr m
 ps:TermsV w pv ps
 fo:OpsV w fv l
theorem TaskV.below {w w':World} {va vr pv fv:Value} {m:Mo} {ps:List (List (Int × Int))} {l:List (Int × Int)} (h:TaskV w va vr pv fv m ps l) (hb:Below w.heap.size w w'):TaskV w' va vr pv fv m ps l:=⟨h.mo.below hb,h.ps.below hb,h.fo.below hb⟩
theorem pcheck_any (va vr pv fv:Value) (m:Mo) (ps:List (List (Int × Int))) (l:List (Int × Int)) (w:World) (hB:0 < w.heap.size) (hT:TabAt w) (hV:TaskV w va vr pv fv m ps l) :
  Calls Tryz.prog 42 #[.agg #[va,vr,pv,fv]] w fun e w'=>e=.returned (.int .i64 (tkcode m ps l))/\Below w.heap.size w w':=by
 have hA:∀ o,Below w.heap.size w (w.alloc o):=fun o=>(Below.refl _ _).alloc (Nat.le_refl _) o
 have HP:Hid (∀ w1,Below w.heap.size w w1->Calls Tryz.prog 57 #[.agg #[va,vr],pv] w1 fun e w'=>e=.returned (.int .i64 (pcode m ps))/\Below w1.heap.size w1 w'):=fun w1 h=>mprops_any va vr pv m ps w1 (Nat.lt_of_lt_of_le hB h.size) (hT.below h hB) (hV.mo.below h) (hV.ps.below h)
 have HL:Hid (∀ w1,Below w.heap.size w w1->Calls Tryz.prog 58 #[fv,.int .i64 (ps.length:Int)] w1 fun e w'=>e=.returned (.int .i64 (lcode ps.length l))/\Below w1.heap.size w1 w'):=fun w1 h=>lcheck_any fv l ps.length w1 (Nat.lt_of_lt_of_le hB h.size) (hT.below h hB) (hV.fo.below h)
 unfold tkcode;obtain ⟨ao,ac,rfl⟩:=hV.mo.1.shape;obtain ⟨ro,rc,rfl⟩:=hV.mo.2.shape;obtain ⟨po,pc,rfl⟩:=hV.ps.shape;obtain ⟨fo,fc,rfl,_⟩:=id hV.fo;generalize pcode m ps=x at *;generalize lcode ps.length l=y at *;generalize m.vars.length=vn at *;generalize m.rules.length=rn at *;generalize ps.length=pn at *;generalize l.length=fn at *;clear hV hT
 have hp:=HP.out _ (hA (.cells #[.slice ao vn ac,.slice ro rn rc,.slice po pn pc,.slice fo fn fc] 34))
 have HB:Hid (∀ w1,Below (w.heap.size+1) (w.alloc (.cells #[.slice ao vn ac,.slice ro rn rc,.slice po pn pc,.slice fo fn fc] 34)) w1->w1.cell? ⟨w.heap.size,2,none⟩=some (.slice po pn pc)/\w1.cell? ⟨w.heap.size,3,none⟩=some (.slice fo fn fc)):=fun w1 h=>⟨(h.cell (p:=⟨w.heap.size,2,none⟩) (Nat.lt_succ_self _)).trans (by simp [go_sem]),(h.cell (p:=⟨w.heap.size,3,none⟩) (Nat.lt_succ_self _)).trans (by simp [go_sem])⟩
 by_cases hx:x=0
 ·subst hx
  rw [if_neg (by simp)]
  go_enter Tryz.func42,Tryz.ntmps42
  go_wp2_with (first | (go_at_call 57;refine hp.mono ?_;rintro e w1 ⟨rfl,hb1⟩;have hbw:=(hA _).trans (hb1.mono (hA _).size);have hq:=HB.out w1 (by simpa using hb1);have k0:=hq.1;have k1:=hq.2;have hl:=HL.out w1 hbw) | (go_at_call 58;refine hl.mono ?_;rintro e w2 ⟨rfl,hb2⟩))
  go_ret
  exact ⟨rfl,hbw.trans (hb2.mono hbw.size)⟩
 ·rw [if_pos hx]
  go_enter Tryz.func42,Tryz.ntmps42
  go_wp2_with (go_at_call 57;refine hp.mono ?_;rintro e w1 ⟨rfl,hb1⟩;have hbw:=(hA _).trans (hb1.mono (hA _).size))
  go_ret
  exact ⟨rfl,hbw⟩
theorem tk_zero {m:Mo} {ps:List (List (Int × Int))} {l:List (Int × Int)} (h:tkcode m ps l=0):pcode m ps=0/\lcode ps.length l=0:=by
 unfold tkcode at h
 split at h
 ·rename_i h1
  exact absurd h h1
 ·rename_i h1
  exact ⟨by simpa using h1,h⟩
structure SurvAt (w:World) (B:Nat) (va vr pv fv av:Value) (bs bl:Nat):Prop where
 lt:B < w.heap.size
 c0:w.cell? ⟨B,0,none⟩=some va
 c1:w.cell? ⟨B,1,none⟩=some vr
 c2:w.cell? ⟨B,2,none⟩=some pv
 c3:w.cell? ⟨B,3,none⟩=some fv
 c4:w.cell? ⟨B,4,none⟩=some av
 c5:w.cell? ⟨B,5,none⟩=some (.map (some bs))
 c6:w.cell? ⟨B,6,none⟩=some (.map (some bl))
theorem SurvAt.later {w w':World} {B:Nat} {va vr pv fv av:Value} {bs bl:Nat} (h:SurvAt w B va vr pv fv av bs bl) (hb:Below w.heap.size w w'):SurvAt w' B va vr pv fv av bs bl:=
 ⟨Nat.lt_of_lt_of_le h.lt hb.size,(hb.cell (p:=⟨B,0,none⟩) h.lt).trans h.c0,(hb.cell (p:=⟨B,1,none⟩) h.lt).trans h.c1,(hb.cell (p:=⟨B,2,none⟩) h.lt).trans h.c2,(hb.cell (p:=⟨B,3,none⟩) h.lt).trans h.c3,(hb.cell (p:=⟨B,4,none⟩) h.lt).trans h.c4,(hb.cell (p:=⟨B,5,none⟩) h.lt).trans h.c5,(hb.cell (p:=⟨B,6,none⟩) h.lt).trans h.c6⟩
theorem SurvAt.new (w:World) (va vr pv fv av:Value) (t:TypeId):SurvAt (((w.alloc (.map #[] 0)).alloc (.map #[] 0)).alloc (.cells #[va,vr,pv,fv,av,.map (some w.heap.size),.map (some (w.heap.size+1))] t)) (w.heap.size+2) va vr pv fv av w.heap.size (w.heap.size+1):=by
 have e:w.heap.size+2=((w.alloc (.map #[] 0)).alloc (.map #[] 0)).heap.size:=by simp
 rw [e];refine ⟨by simp,?_,?_,?_,?_,?_,?_,?_⟩ <;> simp [go_sem]
theorem maps_new (w:World) (o:Obj):(((w.alloc (.map #[] 0)).alloc (.map #[] 0)).alloc o).heap[w.heap.size]? = some (.map #[] 0)/\(((w.alloc (.map #[] 0)).alloc (.map #[] 0)).alloc o).heap[w.heap.size+1]? = some (.map #[] 0):=by
 have h1:=(MapKept.heap_alloc w (.map #[] 0)).1;have h2:=(MapKept.heap_alloc (w.alloc (.map #[] 0)) (.map #[] 0)).1;have b1:Below (w.alloc (.map #[] 0)).heap.size (w.alloc (.map #[] 0)) (((w.alloc (.map #[] 0)).alloc (.map #[] 0)).alloc o):=((Below.refl _ _).alloc (Nat.le_refl _) _).alloc (by simp) _
 have b2:Below ((w.alloc (.map #[] 0)).alloc (.map #[] 0)).heap.size ((w.alloc (.map #[] 0)).alloc (.map #[] 0)) (((w.alloc (.map #[] 0)).alloc (.map #[] 0)).alloc o):=(Below.refl _ _).alloc (Nat.le_refl _) _;refine ⟨(b1.block _ (by simp)).trans h1,?_⟩
 rw [World.size_alloc] at h2;exact (b2.block _ (by simp)).trans h2
def SurvPost (w:World) (va vr pv fv:Value) (l:List (Int × Int)) (e:Ending) (w':World):Prop:=
 ∃ n ao ac,e=.returned (.tuple #[.pointer (some ⟨n+2,0,none⟩),.int .i64 0])/\Below w.heap.size w w'/\w.heap.size <= n/\w'.heap.size=n+3/\Hid (SurvAt w' (n+2) va vr pv fv (.slice ao (aheadL l).length ac) n (n+1))/\Hid (w'.ownsRow w.heap.size 3 1 (.slice ao (aheadL l).length ac) (aheadL l).length (ivals (aheadL l)))/\Hid (w'.heap[n]? = some (.map #[] 0)/\w'.heap[n+1]? = some (.map #[] 0))
theorem surveyOf_ok (va vr pv fv:Value) (m:Mo) (ps:List (List (Int × Int))) (l:List (Int × Int)) (w:World) (hB:0 < w.heap.size) (hT:TabAt w) (hV:TaskV w va vr pv fv m ps l) (hc:tkcode m ps l=0) :
  Calls Tryz.prog 25 #[.agg #[va,vr,pv,fv]] w (SurvPost w va vr pv fv l):=by
 have hA:∀ o,Below w.heap.size w (w.alloc o):=fun o=>(Below.refl _ _).alloc (Nat.le_refl _) o
 obtain ⟨_,hl0⟩:=tk_zero hc;obtain ⟨ao,ac,rfl⟩:=hV.mo.1.shape;obtain ⟨ro,rc,rfl⟩:=hV.mo.2.shape;obtain ⟨po,pc,rfl⟩:=hV.ps.shape;obtain ⟨fo,fc,rfl,_⟩:=id hV.fo
 have HC:Hid (∀ w1,Below w.heap.size w w1->Calls Tryz.prog 42 #[.agg #[.slice ao m.vars.length ac,.slice ro m.rules.length rc,.slice po ps.length pc,.slice fo l.length fc]] w1 fun e w'=>e=.returned (.int .i64 0)/\Below w1.heap.size w1 w'):=fun w1 h=>by
  have:=pcheck_any _ _ _ _ m ps l w1 (Nat.lt_of_lt_of_le hB h.size) (hT.below h hB) (hV.below h);rw [hc] at this;exact this
 have HL:Hid (∀ w1,Below w.heap.size w w1->Calls Tryz.prog 43 #[.slice fo l.length fc,.int .i64 (ps.length:Int)] w1 fun e w'=>∃ ho hc,e=.returned (.tuple #[.slice ho (aheadL l).length hc,.int .i64 0])/\Below w1.heap.size w1 w'/\Hid (w'.ownsRow w1.heap.size 3 1 (.slice ho (aheadL l).length hc) (aheadL l).length (ivals (aheadL l)))):=fun w1 h=>lahead_own _ l ps.length w1 (Nat.lt_of_lt_of_le hB h.size) (hT.below h hB) (hV.fo.below h) hl0
 unfold SurvPost;generalize ivals (aheadL l)=av at *;generalize (aheadL l).length=an at *;generalize m.vars.length=vn at *;generalize m.rules.length=rn at *;generalize ps.length=pn at *;generalize l.length=fn at *;clear hV hT hc hl0;have hp:=HC.out _ (hA (.cells #[.slice ao vn ac,.slice ro rn rc,.slice po pn pc,.slice fo fn fc] 34))
 have HB:Hid (∀ w1,Below (w.heap.size+1) (w.alloc (.cells #[.slice ao vn ac,.slice ro rn rc,.slice po pn pc,.slice fo fn fc] 34)) w1->w1.cell? ⟨w.heap.size,0,none⟩=some (.slice ao vn ac)/\w1.cell? ⟨w.heap.size,1,none⟩=some (.slice ro rn rc)/\w1.cell? ⟨w.heap.size,2,none⟩=some (.slice po pn pc)/\w1.cell? ⟨w.heap.size,3,none⟩=some (.slice fo fn fc)):=fun w1 h=>⟨(h.cell (p:=⟨w.heap.size,0,none⟩) (Nat.lt_succ_self _)).trans (by simp [go_sem]),(h.cell (p:=⟨w.heap.size,1,none⟩) (Nat.lt_succ_self _)).trans (by simp [go_sem]),(h.cell (p:=⟨w.heap.size,2,none⟩) (Nat.lt_succ_self _)).trans (by simp [go_sem]),(h.cell (p:=⟨w.heap.size,3,none⟩) (Nat.lt_succ_self _)).trans (by simp [go_sem])⟩
 have hmm:=@run_makeMap Tryz.prog
 go_enter Tryz.func25,Tryz.ntmps25
 go_wp2_with (first | (go_at_call 42;refine hp.mono ?_;rintro e w1 ⟨rfl,hb1⟩;have hbw:=(hA _).trans (hb1.mono (hA _).size);have hq:=HB.out w1 (by simpa using hb1);obtain ⟨k0,k1,k2,k3⟩:=hq;have hl:=HL.out w1 hbw) | (go_at_call 43;refine hl.mono ?_;rintro e w2 ⟨ho,hc,rfl,hb2,HO⟩;have hbw2:=hbw.trans (hb2.mono hbw.size);obtain ⟨j0,j1,j2,j3⟩:=HB.out w2 (by have:=hb1.trans (hb2.mono hb1.size);simpa using this)))
 go_ret2
 have hm1:Below w.heap.size w ((w2.alloc (.map #[] 0)).alloc (.map #[] 0)):=(hbw2.alloc hbw2.size _).alloc (by have:=hbw2.size;simp;omega) _
 refine ⟨w2.heap.size,ho,hc,by rfl,hm1.alloc hm1.size _,hbw2.size,by simp,SurvAt.new w2 _ _ _ _ _ _,?_,?_⟩
 ·exact (((owns_mono HO.out hbw.size).alloc _).alloc _).alloc _
 ·exact maps_new w2 _
theorem surveyOf_bad (va vr pv fv:Value) (m:Mo) (ps:List (List (Int × Int))) (l:List (Int × Int)) (w:World) (hB:0 < w.heap.size) (hT:TabAt w) (hV:TaskV w va vr pv fv m ps l) (hc:tkcode m ps l≠0) :
  Calls Tryz.prog 25 #[.agg #[va,vr,pv,fv]] w fun e w'=>e=.returned (.tuple #[.pointer none,.int .i64 (tkcode m ps l)])/\Below w.heap.size w w':=by
 have hA:∀ o,Below w.heap.size w (w.alloc o):=fun o=>(Below.refl _ _).alloc (Nat.le_refl _) o
 obtain ⟨ao,ac,rfl⟩:=hV.mo.1.shape;obtain ⟨ro,rc,rfl⟩:=hV.mo.2.shape;obtain ⟨po,pc,rfl⟩:=hV.ps.shape;obtain ⟨fo,fc,rfl,_⟩:=id hV.fo;have hp:=pcheck_any _ _ _ _ m ps l _ (Nat.lt_of_lt_of_le hB (hA (.cells #[.slice ao m.vars.length ac,.slice ro m.rules.length rc,.slice po ps.length pc,.slice fo l.length fc] 34)).size) (hT.below (hA _) hB) (hV.below (hA _))
 generalize tkcode m ps l=c at *;generalize m.vars.length=vn at *;generalize m.rules.length=rn at *;generalize ps.length=pn at *;generalize l.length=fn at *;clear hV hT
 go_enter Tryz.func25,Tryz.ntmps25
 go_wp2_with (first | (go_at_call 42;refine hp.mono ?_;rintro e w1 ⟨rfl,hb1⟩;have hbw:=(hA _).trans (hb1.mono (hA _).size)))
 go_ret2
 exact ⟨rfl,hbw⟩
theorem claims_any (B:Nat) (va vr pv fv:Value) (ao:Option Addr) (an ac bs bl:Nat) (w:World) (h6:an <= 6) (hS:SurvAt w B va vr pv fv (.slice ao an ac) bs bl) :
  Calls Tryz.prog 46 #[.pointer (some ⟨B,0,none⟩)] w fun e w'=>e=.returned (.int .i64 ((2 ^ an:Nat):Int))/\w'=w:=by
 have c4:=hS.c4;clear hS
 rcases (show an=0\/an=1\/an=2\/an=3\/an=4\/an=5\/an=6 by omega) with rfl | rfl | rfl | rfl | rfl | rfl | rfl
 all_goals
  go_enter Tryz.func46,Tryz.ntmps46
  go_wp2
  go_ret
  exact ⟨rfl,rfl⟩
end Go.Proofs.YtfnobbpbmelgnaaGreatDoor
namespace Go.Proofs.YtfnobbpbmelgnaaGreatDoor
open Go.ChangeShapes Go.WideShapes Go.ChangeAt Go.RowKit Go.Deep
set_option maxHeartbeats 6400000
set_option maxRecDepth 20000
theorem infoSpot:(Tryz.prog.info? 97).map (fun i=>(i.zero,i.size,i.bytes))=some (some (.agg #[.int .i64 0,.int .i64 0]),2,16):=by kernel_rfl
def SpO (w:World) (base:Nat) (v:Value) (l:List (Int × Int)):Prop:=w.ownsRow base 97 2 v l.length (flat l)
theorem SpO.nil (w:World) (base:Nat):SpO w base (.slice none 0 0) []:=World.ownsRow_nil _ _ _ _
theorem SpO.later {w w':World} {base B:Nat} {v:Value} {l:List (Int × Int)} (h:SpO w base v l) (hb:Below B w w') (hB:w.heap.size <= B):SpO w' base v l:=owns_later h hb hB
theorem SpO.shape {w:World} {base:Nat} {v:Value} {l:List (Int × Int)} (h:SpO w base v l):∃ ao cap,v=.slice ao l.length cap:=owns_slice h
def SpV (w:World) (v:Value) (l:List (Int × Int)):Prop:=∃ ao cap,v=.slice ao l.length cap/\(l≠[]->∃ b off,ao=some ⟨b,off,none⟩/\b < w.heap.size/\OpsAt w b off l)
theorem SpV.nil (w:World):SpV w (.slice none 0 0) []:=⟨none,0,rfl,fun h=>absurd rfl h⟩
theorem SpO.v {w:World} {base:Nat} {v:Value} {l:List (Int × Int)} (h:SpO w base v l):SpV w v l:=by
 rcases h.2 with ⟨rfl,h0⟩ | ⟨g,cap,cur,rfl,hb,hg,hnc,hcm,hcs,htake⟩
 ·have:l=[]:=by simpa using h0
  subst this;exact SpV.nil w
 ·refine ⟨_,cap,rfl,fun _=>⟨g,0,rfl,(Array.getElem?_eq_some_iff.1 hg).1,fun i hi=>?_⟩⟩
  obtain ⟨f0,f1⟩:=flat_get l i hi;rw [World.ownsRow.cellAt h _ (by omega),World.ownsRow.cellAt h _ (by omega)]
  simpa using ⟨f0,f1⟩
section
variable {W : World}
theorem push_sp {ops:Array Oper} {rest:List Oper} {o:Oper} {a:Act} {Q:Exit->Act->World->Prop} (y z:Int) (hgd:o.guard=none) (s x:Operand)
  (ho:o.op=.call { callee:=.builtin .append,args:=#[s,x],argTypes:=#[61,61]})
  (base n cap:Nat) (vo:Option Addr) (l:List (Int × Int)) (hl:l.length=n) (hs:a.eval s=.slice vo n cap) (hown:SpO W base (.slice vo n cap) l) (hx:a.eval x=.slice (some ⟨W.heap.size,0,none⟩) 1 1)
  (hsz:(n+1)*16 <= 140737488355328) (hbase:base <= W.heap.size)
  (h:∀ vo' cap' w',SpO w' base (.slice vo' (n+1) cap') (l++[(y,z)])->Below base W w'->(W.alloc (.cells #[.int .i64 y,.int .i64 z] 97)).grownBy w' (Value.slice vo n cap).ownBlock->wpList Tryz.prog ops Q rest (a.put o.dst (.slice vo' (n+1) cap')) w'):wpList Tryz.prog ops Q (o:: rest) a (W.alloc (.cells #[.int .i64 y,.int .i64 z] 97)):=by
 subst hl;obtain ⟨i0,hi,hz0,hz1,hz2⟩:=info_parts infoSpot;have hown':W.ownsRow base 97 2 (.slice vo l.length cap) l.length (flat l):=hown
 refine wpList_append_own _ hgd s x 61 ho base 97 i0 (.agg #[.int .i64 0,.int .i64 0]) 2 16 Tryz.underlying61 hi hz0 hz1 hz2 rfl (by decide) (.slice vo l.length cap) l.length (flat l) hs (hown'.alloc _) ⟨W.heap.size,0,none⟩ 1 1 [.int .i64 y,.int .i64 z] hx rfl (two_new _ _ _ _) (by intro u hu;simp at hu;rcases hu with rfl | rfl <;> rfl) (by unfold maxLen;omega) hsz (Nat.le_trans hbase (by simp)) ?_
 intro v' w4 hown' hgrow _;obtain ⟨a4,c4,rfl⟩:=owns_slice hown';refine h a4 c4 w4 ?_ (((Below.refl base W).alloc hbase _).grown hgrow (Nat.le_trans hbase (by simp)) (fun q hq=>(World.ownsRow.lt hown q hq).1)) hgrow
 unfold SpO;rw [flat_append,List.length_append];exact hown'
end
end Go.Proofs.YtfnobbpbmelgnaaGreatDoor
namespace Go.Proofs.YtfnobbpbmelgnaaGreatDoor
open Go.ChangeShapes Go.WideShapes Go.ChangeAt Go.RowKit Go.Deep Go.Shelf
open Terms
set_option maxHeartbeats 6400000
set_option maxRecDepth 20000
attribute [local go_sem] Oper.semAt_some
def iniB (l:List (Int × Int)) (claim:Int) (k:Nat) (j:Nat):Bool:=if lookB (l.getD j (0,0)).1=true/\(aheadTo l j).length < k then bitB claim (aheadTo l j).length else false
def stepB (l:List (Int × Int)) (letter:List Bool) (h:Nat->Bool) (p:Nat):Nat->Bool:=if lookB (l.getD p (0,0)).1=true then h else fun j=>if j=p then mkB (l.getD p (0,0)) letter (h (p+1)) (h (sec l p)) else h j
def foldB (l:List (Int × Int)) (letter:List Bool) (h:Nat->Bool) {n:Nat} (xs:List (Fin n)):Nat->Bool:=xs.foldl (fun h x=>stepB l letter h x.1) h
theorem foldB_snoc (l:List (Int × Int)) (letter:List Bool) (h:Nat->Bool) {n:Nat} (xs:List (Fin n)) (x:Fin n):foldB l letter h (xs++[x])=stepB l letter (foldB l letter h xs) x.1:=by simp [foldB]
theorem foldB_done {l:List (Int × Int)} {letter:List Bool} {claim:Int} (hz:endsCode (l.map Prod.fst)=0) {n:Nat} (h0n:0 < n) (hn:n=l.length) :
  ∀ k,k <= n->∀ j,j < n->foldB l letter (iniB l claim (aheadL l).length) (backTo h0n k) j=if n - k <= j then tru l letter claim j else iniB l claim (aheadL l).length j:=by
 intro k
 induction k with
 | zero=>
  intro _ j hj;rw [if_neg (by omega)]
  simp [backTo,foldB]
 | succ k ih=>
  intro hk j hj;have ih':=ih (by omega)
  rw [backTo_succ,foldB_snoc];have hp:(backAt h0n k).1=n - 1 - k:=rfl;rw [hp];obtain ⟨p,hpe⟩:∃ p,p=n - 1 - k:=⟨_,rfl⟩
  rw [<- hpe];have hpl:p < l.length:=by omega
  unfold stepB
  cases hb:lookB (l.getD p (0,0)).1 with
  | true=>
   rw [if_pos rfl,ih' j hj]
   by_cases hjp:j=p
   ·subst hjp
    rw [if_neg (by omega),if_pos (by omega),tru_look hpl hb]
    unfold iniB;exact if_pos ⟨hb,aheadTo_lt l hpl hb⟩
   ·by_cases hle:n - k <= j
    ·rw [if_pos hle,if_pos (by omega)]
    ·rw [if_neg hle,if_neg (by omega)]
  | false=>
   rw [if_neg (by decide)]
   by_cases hjp:j=p
   ·subst hjp
    rw [if_pos rfl,if_pos (by omega)]
    obtain ⟨h1,h2⟩:=part_in hz hpl;rw [tru_mk hpl hb (fun h=>(h2 h).1)]
    have hpn:=pn_le (l.getD j (0,0)).1
    by_cases p2:pn (l.getD j (0,0)).1=2
    ·obtain ⟨s1,s2⟩:=h2 p2
     have s0:=h1 (by omega)
     rw [ih' (j+1) (by omega),ih' (sec l j) (by omega),if_pos (by omega),if_pos (by omega)]
    ·have hk89:(l.getD j (0,0)).1≠8/\(l.getD j (0,0)).1≠9:=by
      constructor <;> intro e <;> rw [e] at p2 <;> exact absurd rfl p2
     by_cases p1:pn (l.getD j (0,0)).1=1
     ·have s0:=h1 (by omega)
      rw [ih' (j+1) (by omega),if_pos (by omega)]
      simp only [mkB,hk89.1,hk89.2,if_false]
     ·have hk10:(l.getD j (0,0)).1≠10:=by intro e;rw [e] at p1;exact absurd rfl p1
      simp only [mkB,hk89.1,hk89.2,hk10,if_false]
   ·rw [if_neg hjp,ih' j hj]
    by_cases hle:n - k <= j
    ·rw [if_pos hle,if_pos (by omega)]
    ·rw [if_neg hle,if_neg (by omega)]
structure TrSt (w:World) (fo ev av lv:Value) (n:Nat) (h:Nat->Bool) (W0s:Nat) (W:World):Prop where
 three:Three W w.heap.size fo ev av
 letter:W.cell? ⟨w.heap.size+1,0,none⟩=some lv
 holds:W.cell? ⟨w.heap.size+1+1+1,0,none⟩=some (.slice (some ⟨w.heap.size+1+1,0,none⟩) n n)
 row:W.rowIs (w.heap.size+1+1) 4 n (fun j=>.bool (h j))
 below:Below w.heap.size w W
 size:W0s <= W.heap.size
theorem TrSt.later {w:World} {fo ev av lv:Value} {n:Nat} {h:Nat->Bool} {s B:Nat} {W W':World} (t:TrSt w fo ev av lv n h s W) (hb:Below B W W') (hB:w.heap.size+4 <= B):TrSt w fo ev av lv n h s W':=
 ⟨t.three.below hb (by omega),(hb.cell (p:=⟨w.heap.size+1,0,none⟩) (by simp;omega)).trans t.letter,(hb.cell (p:=⟨w.heap.size+1+1+1,0,none⟩) (by simp;omega)).trans t.holds,t.row.of_block (hb.block _ (by omega)),t.below.trans (hb.mono (by omega)),Nat.le_trans t.size hb.size⟩
theorem TrSt.congr {w:World} {fo ev av lv:Value} {n:Nat} {h h':Nat->Bool} {s:Nat} {W:World} (t:TrSt w fo ev av lv n h s W) (e:∀ j,j < n->h j=h' j):TrSt w fo ev av lv n h' s W:=
 ⟨t.three,t.letter,t.holds,t.row.congr fun j hj=>by rw [e j hj],t.below,t.size⟩
theorem TrSt.put {w:World} {fo ev av lv:Value} {n:Nat} {h:Nat->Bool} {s:Nat} {W:World} (t:TrSt w fo ev av lv n h s W) (p:Nat) (x:Bool):TrSt w fo ev av lv n (fun j=>if j=p then x else h j) s (W.setCell ⟨w.heap.size+1+1,p,none⟩ (.bool x)):=by
 have hb:∀ k,k≠w.heap.size+1+1->(W.setCell ⟨w.heap.size+1+1,p,none⟩ (.bool x)).heap[k]? = W.heap[k]?:=fun k hk=>Below.heap_setCell W _ _ k hk
 have hc:∀ k q,k≠w.heap.size+1+1->(W.setCell ⟨w.heap.size+1+1,p,none⟩ (.bool x)).cell? ⟨k,q,none⟩=W.cell? ⟨k,q,none⟩:=fun k q hk=>World.cell?_of_block (w:=W) (hb k hk)
 have hf:∀ q,(W.setCell ⟨w.heap.size+1+1,p,none⟩ (.bool x)).frozen? ⟨w.heap.size,q,none⟩=W.frozen? ⟨w.heap.size,q,none⟩:=fun q=>by rw [World.frozen?_setCell]
 obtain ⟨k0,k1,k2,f0,f1,f2,hl⟩:=t.three;refine ⟨⟨(hc _ _ (by omega)).trans k0,(hc _ _ (by omega)).trans k1,(hc _ _ (by omega)).trans k2,(hf 0).trans f0,(hf 1).trans f1,(hf 2).trans f2,by simpa using hl⟩,(hc _ _ (by omega)).trans t.letter,(hc _ _ (by omega)).trans t.holds,?_,t.below.setCell (by simp;omega) _,by simpa using t.size⟩
 refine (t.row.set p (.bool x)).congr fun i _=>?_
 by_cases hip:i=p
 ·rw [if_pos hip,if_pos hip]
 ·rw [if_neg hip,if_neg hip]
theorem TrSt.drew {w:World} {fo ev av lv:Value} {n:Nat} {h:Nat->Bool} {s:Nat} {W:World} (t:TrSt w fo ev av lv n h s W):TrSt w fo ev av lv n h s W.drew:=
 ⟨⟨t.three.1,t.three.2.1,t.three.2.2.1,t.three.2.2.2.1,t.three.2.2.2.2.1,t.three.2.2.2.2.2.1,t.three.2.2.2.2.2.2⟩,t.letter,t.holds,t.row.of_block rfl,t.below.drew,t.size⟩
theorem bits_small:∀ c,c < 64->(bits BinOp.and IntKind.i64 ((c:Nat):Int) 1 == 1)=decide (((c:Nat):Int) % 2=1):=by decide
theorem bits_bitB {claim:Int} {k:Nat} (h0:0 <= claim) (h:claim < 64):(bits BinOp.and IntKind.i64 (claim / 2 ^ k) 1 == 1)=bitB claim k:=by
 have h2:(0:Int) < 2 ^ k:=Int.pow_pos (by decide)
 have h3:0 <= claim / 2 ^ k:=Int.ediv_nonneg h0 (Int.le_of_lt h2);have h4:claim / 2 ^ k <= claim:=Int.ediv_le_self _ h0;obtain ⟨c,hc⟩:∃ c:Nat,claim / 2 ^ k=c:=⟨(claim / 2 ^ k).toNat,by omega⟩
 unfold bitB;rw [hc];exact bits_small c (by omega)
theorem iniB_step {l:List (Int × Int)} {claim:Int} {k p:Nat} (hlk:lookB (l.getD p (0,0)).1=true) (hpi:(aheadTo l p).length=k) (j:Nat):(if j=p then bitB claim k else iniB l claim k j)=iniB l claim (k+1) j:=by
 unfold iniB
 by_cases hjp:j=p
 ·subst hjp
  rw [if_pos rfl,if_pos ⟨hlk,by omega⟩,hpi]
 ·rw [if_neg hjp]
  by_cases hb:lookB (l.getD j (0,0)).1=true
  ·have hne:(aheadTo l j).length≠k:=by
    intro e
    rcases Nat.lt_or_gt_of_ne hjp with h | h
    ·have:=aheadTo_lt l h hb;omega
    ·have:=aheadTo_lt l h hlk;omega
   by_cases hl:(aheadTo l j).length < k
   ·rw [if_pos ⟨hb,hl⟩,if_pos ⟨hb,by omega⟩]
   ·rw [if_neg (fun h=>hl h.2),if_neg (fun h=>by have:=h.2;omega)]
  ·rw [if_neg (fun h=>hb h.1),if_neg (fun h=>hb h.1)]
theorem truths_out (fv lv:Value) (fo ev:Value) (aao:Option Addr) (an ac:Nat) (claim:Int) (lo:Option Addr) (ln lc:Nat) (oo eo:Option Addr) (on oc en ec:Nat) (hfo:fo=.slice oo on oc) (hev:ev=.slice eo en ec) (hlv:lv=.slice lo ln lc) (hfv:fv=.agg #[fo,ev,.slice aao an ac]) (h6:an <= 6) (w:World) (h:claim < 0\/2 ^ an <= claim) :
  Calls Tryz.prog 65 #[fv,lv,.int .i64 claim] w fun e w'=>e=.returned (.tuple #[.slice none 0 0,.int .i64 2])/\Below w.heap.size w w':=by
 subst hfo hev hlv hfv;have hb:∀ o o',Below w.heap.size w ((w.alloc o).alloc o'):=fun o o'=>((Below.refl _ _).alloc (Nat.le_refl _) o).alloc (by simp) o'
 rcases h with h | h
 ·go_enter Tryz.func65,Tryz.ntmps65
  go_wp2_with fail
  go_ret2
  exact ⟨rfl,hb _ _⟩
 ·have h0:0 <= claim:=by have:(0:Int) < 2 ^ an:=Int.pow_pos (by decide);omega
  have hcase:an=0\/an=1\/an=2\/an=3\/an=4\/an=5\/an=6:=by omega
  clear h6
  rcases hcase with rfl | rfl | rfl | rfl | rfl | rfl | rfl
  all_goals
   simp only [Int.reducePow] at h
   go_enter Tryz.func65,Tryz.ntmps65
   go_wp2_with fail
   go_ret2
   exact ⟨rfl,hb _ _⟩
end Go.Proofs.YtfnobbpbmelgnaaGreatDoor
namespace Go.Proofs.YtfnobbpbmelgnaaGreatDoor
open Go.ChangeShapes Go.WideShapes Go.ChangeAt Go.RowKit Go.Deep Go.Shelf
open Terms
set_option maxHeartbeats 6400000
set_option maxRecDepth 20000
attribute [local go_sem] Oper.semAt_some
def trAct (p3 p4 p8 p11 p12 r0 r1 r2 r5 r6 r7 r9 r10 r13 r14 r15 r16 r17 r18 r19 r20 r21 r22 r23 r24 r25 r26 r27 r28 r29 r30 r31 r32 r33 r34 r35 r36 r37 r38 r39 r40 r41 r42 r43 r44 r45 r46 r47 r48 r49 r50 r51 r52 r53 r54 r55 r56 r57 r58 r59 r60 r61 r62 r63 r64 r65 r66 r67 r68 r69 r70:Value):Act:={ tmps:=#[r0,r1,r2,p3,p4,r5,r6,r7,p8,r9,r10,p11,p12,r13,r14,r15,r16,r17,r18,r19,r20,r21,r22,r23,r24,r25,r26,r27,r28,r29,r30,r31,r32,r33,r34,r35,r36,r37,r38,r39,r40,r41,r42,r43,r44,r45,r46,r47,r48,r49,r50,r51,r52,r53,r54,r55,r56,r57,r58,r59,r60,r61,r62,r63,r64,r65,r66,r67,r68,r69,r70],defers:=[]}
def TrAx (w:World) (s:Nat) (o:Int × Int) (p:Nat) (a':Act) (W:World):Prop:=∃ Bx,s <= Bx/\W.cell? ⟨Bx,0,none⟩=some (.int .i64 o.1)/\W.cell? ⟨Bx,1,none⟩=some (.int .i64 o.2)/\∃ r0 r1 r2 r5 r6 r7 r9 r10 r13 r14 r15 r16 r17 r18 r19 r20 r21 r22 r23 r24 r25 r26 r27 r28 r29 r30 r31 r32 r33 r34 r35 r36 r37 r38 r39 r40 r41 r42 r43 r44 r45 r46 r47 r48 r49 r50 r51 r52 r53 r54 r55 r56 r57 r58 r59 r60 r61 r62 r63 r64 r65 r66 r67 r68 r69 r70:Value,a'=trAct (.pointer (some ⟨w.heap.size,0,none⟩)) (.pointer (some ⟨w.heap.size+1,0,none⟩)) (.pointer (some ⟨w.heap.size+1+1+1,0,none⟩)) (.int .i64 (p:Int)) (.pointer (some ⟨Bx,0,none⟩)) r0 r1 r2 r5 r6 r7 r9 r10 r13 r14 r15 r16 r17 r18 r19 r20 r21 r22 r23 r24 r25 r26 r27 r28 r29 r30 r31 r32 r33 r34 r35 r36 r37 r38 r39 r40 r41 r42 r43 r44 r45 r46 r47 r48 r49 r50 r51 r52 r53 r54 r55 r56 r57 r58 r59 r60 r61 r62 r63 r64 r65 r66 r67 r68 r69 r70
theorem keeps_of_below {B:Nat} {W W':World} (h:Below W.heap.size W W'):KeepsFrom B W W':=⟨h.size,fun k _ _ hk _=>(h.block k (Array.getElem?_eq_some_iff.1 hk).1).trans hk⟩
set_option maxRecDepth 100000 in
theorem truths_in (b off cap n B:Nat) (aao:Option Addr) (an ac:Nat) (lo:Option Addr) (ln lc:Nat) (l:List (Int × Int)) (letter:List Bool) (claim:Int) (w:World) (h0n:0 < n) (h60:n <= 60) (hn:n=l.length) (hz:endsCode (l.map Prod.fst)=0) (hops:OpsAt w b off l) (hbl:b < w.heap.size)
  (hrow:w.rowIs B 3 n (fun q=>.int .i64 (endAt (l.map Prod.fst) q))) (han:an=(aheadL l).length) (hav:IntsV w (.slice aao an ac) (aheadL l)) (h6:an <= 6) (hln:ln=letter.length) (hL:BoolsV w (.slice lo ln lc) letter) (hlf:lfirst ln l=0) (h0:0 <= claim) (h1:claim < 2 ^ an) :
  Calls Tryz.prog 65 #[.agg #[.slice (some ⟨b,off,none⟩) n cap,.slice (some ⟨B,0,none⟩) n n,.slice aao an ac],.slice lo ln lc,.int .i64 claim] w fun e w'=>∃ bH,e=.returned (.tuple #[.slice (some ⟨bH,0,none⟩) n n,.int .i64 0])/\Below w.heap.size w w'/\Hid (w'.rowIs bH 4 n (fun j=>.bool (tru l letter claim j)))/\w.heap.size <= bH:=by
 refine (callsIn_wide (n:=8)).1 ?_
 refine callsIn_of_wp_marks Tryz.func65 rfl trivial ?_ rfl
 simp only [Tryz.ntmps65,List.size_toArray,List.length_cons,List.length_nil,Nat.reduceAdd,Nat.reduceSub,Array.replicate_succ,Array.replicate_zero,List.push_toArray,List.append_toArray,List.nil_append,List.cons_append];have hmk:=run_make_row' (P:=Tryz.prog) 100 4 (.bool false) 1 Tryz.underlying100 infoBool rfl .i64 .i64 n (by omega) (by omega)
 have HO:Hid (OpsAt w b off l):=hops;have HN:Hid (n=l.length):=hn;have HR:Hid (w.rowIs B 3 n (fun q=>.int .i64 (endAt (l.map Prod.fst) q))):=hrow
 have HAN:Hid (an=(aheadL l).length):=han;have HAV:Hid (IntsV w (.slice aao an ac) (aheadL l)):=hav;have HLN:Hid (ln=letter.length):=hln;have HL:Hid (BoolsV w (.slice lo ln lc) letter):=hL;have HLF:Hid (lfirst ln l=0):=hlf;have HZ:Hid (endsCode (l.map Prod.fst)=0):=hz;clear hops hn hrow han hav hln hL hlf hz
 have hcase:an=0\/an=1\/an=2\/an=3\/an=4\/an=5\/an=6:=by omega
 have hsh:(2:Int) ^ an <= 64:=by rcases hcase with rfl | rfl | rfl | rfl | rfl | rfl | rfl <;> decide
 clear hcase
 gi_wp2
 have HS0:Hid (TrSt w (.slice (some ⟨b,off,none⟩) n cap) (.slice (some ⟨B,0,none⟩) n n) (.slice aao an ac) (.slice lo ln lc) n (iniB l claim 0) 0 ((((w.alloc (.cells #[.slice (some ⟨b,off,none⟩) n cap,.slice (some ⟨B,0,none⟩) n n,.slice aao an ac] 130)).alloc (.cells #[.slice lo ln lc] 100)).alloc (.cells (madeCells #[.bool false] n) 4)).alloc (.cells #[.slice (some ⟨w.heap.size+1+1,0,none⟩) n n] 100))):=by
  have r:=World.rowIs_made ((w.alloc (.cells #[.slice (some ⟨b,off,none⟩) n cap,.slice (some ⟨B,0,none⟩) n n,.slice aao an ac] 130)).alloc (.cells #[.slice lo ln lc] 100)) (.bool false) n 4;simp only [World.size_alloc] at r
  have hB3:∀ o1 o2 o3 o4,Below (w.heap.size+1) (w.alloc o1) ((((w.alloc o1).alloc o2).alloc o3).alloc o4):=fun o1 o2 o3 o4=>(((Below.refl _ _).alloc (by simp) o2).alloc (by simp) o3).alloc (by simp) o4
  exact ⟨(Three.new w _ _ _ _).below (hB3 _ _ _ _) (Nat.lt_succ_self _),by simp [go_sem],by simp [go_sem],(r.of_block (Below.heap_alloc _ _ _ r.lt)).congr (fun j _=>by simp [iniB]),((((Below.refl _ _).alloc (Nat.le_refl _) _).alloc (by simp) _).alloc (by simp;omega) _).alloc (by simp;omega) _,Nat.zero_le _⟩
 gi_loopw [32] (fun i wr=>∃ k:Nat,k <= an/\i=.int .i64 k/\Hid (TrSt w (.slice (some ⟨b,off,none⟩) n cap) (.slice (some ⟨B,0,none⟩) n n) (.slice aao an ac) (.slice lo ln lc) n (iniB l claim k) 0 wr)) (fun i _=>an - (intOf i).toNat)
 case atStart=>
  exact ⟨0,Nat.zero_le _,rfl,HS0.out⟩
 case round=>
  obtain ⟨k,hk,rfl,HSt⟩:=hrel;have hst:=HSt.out
  by_cases hlt:k < an
  ·obtain ⟨p,hp,hpn,hlk,hpi⟩:=aheadTo_get l l.length k (by have:=HAN.out;unfold aheadL at this;omega)
   obtain ⟨ao',cap',hsl,hai⟩:=HAV.out
   injection hsl with e1 e2 e3
   subst e1;obtain ⟨ab,aoff,rfl,habl,haat⟩:=hai (by intro h;have:=HAN.out;rw [h] at this;simp at this;omega)
   have hca:=(hst.below.cell (p:=⟨ab,aoff+k,none⟩) habl).trans (haat k (by rw [<- HAN.out];exact hlt))
   have hca':wr.cell? ⟨ab,aoff+k,none⟩=some (.int .i64 (p:Int)):=by rw [hca];exact congrArg (fun z=>some (Value.int .i64 z)) hp
   have hch:=hst.holds;have hf:=hst.row.frozen p;have hpn':p < n:=by rw [HN.out];exact hpn
   have hcp:=hst.row.cell hpn';obtain ⟨t0,t1,t2,_⟩:=hst.three;have HP:Hid (lookB (l.getD p (0,0)).1=true/\(aheadTo l p).length=k):=⟨hlk,hpi⟩;clear hp hpn hlk hpi hai haat hca e2 e3;have hmx:Tryz.prog.follows .mixedOrders=true:=by kernel_rfl
   gi_wp2
   gi_region_o
   all_goals gi_wp2
   refine ⟨⟨k+1,hlt,by first | rfl | simp,?_⟩,by simp [intOf];omega⟩
   rw [bits_bitB h0 (by omega)]
   exact ((hst.put p (bitB claim k)).congr (fun j _=>iniB_step HP.out.1 HP.out.2 j)).drew
  ·obtain rfl:k=an:=by omega
   have HAL:Hid (k=(aheadL l).length):=HAN.out;obtain ⟨t0,t1,t2,_⟩:=hst.three;generalize wr=W1 at *;clear hmk HS0 hlt hk HAV
   gi_wp2_with (refine ⟨trivial,?_⟩;gi_at_call 81;refine (back_in Fence.wide _ trivial rfl _ _ _ _).mono ?_;rintro e w' ⟨rfl,rfl⟩)
   have hs3:w.heap.size+4 <= W1.heap.size:=by have:=World.block_lt_of_cell? W1 ⟨w.heap.size+1+1+1,0,none⟩ hst.holds;simp at this;omega
   refine wpIn_rangeFunc_ownH rfl (by decide) (gf:=99) (lb:=#[.pointer (some ⟨W1.heap.size,0,none⟩)]) rfl trivial (enters_of Tryz.func99 (by kernel_rfl) rfl)
    (back_stops Fence.wide 7 trivial rfl (by decide) W1.heap.size w.heap.size b off n cap l h0n h60 HN.out hbl _ (by simp) (by simp;omega) (by simp [go_sem]) (HO.out.below (hst.below.alloc hst.below.size _) hbl)) backK_t (backK_b (by simp;omega) (by simp)) (Below.refl _ _) (fun _=>rfl)
    (fun pre W=>TrSt w (.slice (some ⟨b,off,none⟩) n cap) (.slice (some ⟨B,0,none⟩) n n) (.slice aao k ac) (.slice lo ln lc) n (foldB l letter (iniB l claim k) pre) (W1.heap.size+1) W)
    (fun _ _ _=>False)
    (fun s A Bw row hs hg hr=>hs.later (B:=W1.heap.size+1) ((Below.refl _ _).grown hg hs.size (fun z e=>by have:=(hr z e).1;simp at this;omega)) (by omega))
    (fun _ _ _ _ _ hs _ _=>hs)
    ?h0 (fun x=>TrAx w (W1.heap.size+1) (l.getD x.1 (0,0)) x.1) (fun x a' _ X Y row hs hg hr=>by obtain ⟨Bx,h1,h2,h3,h4⟩:=hs;exact ⟨Bx,h1,cell_kept h2 hg (fun r e=>(hr r e).2),cell_kept h3 hg (fun r e=>(hr r e).2),h4⟩)
    ?assign ?body ?done ?stop
   case h0=>
    have t:=hst.later ((Below.refl W1.heap.size W1).alloc (Nat.le_refl _) (.cells #[.slice (some ⟨b,off,none⟩) n cap] 32)) (by omega)
    exact ⟨t.three,t.letter,t.holds,t.row,t.below,by simp⟩
   case assign=>
    rintro L pre x W K hi hK
    have hsz:=hi.size;unfold backEnc
    gi_wp2
    refine hK _ _ ?ka ?kb ?kc ?kd
    case ka=>exact (KeepsOthers.alloc _ _).from _
    case kb=>exact ⟨(Below.refl _ W).alloc hi.below.size _,Below.heap_alloc _ _ _ (by omega)⟩
    case kc=>exact hi.later ((Below.refl W.heap.size W).alloc (Nat.le_refl _) _) (by omega)
    case kd=>exact ⟨W.heap.size,by omega,by simp [go_sem],by simp [go_sem],_,_,_,_,_,_,_,_,_,_,_,_,_,_,_,_,_,_,_,_,_,_,_,_,_,_,_,_,_,_,_,_,_,_,_,_,_,_,_,_,_,_,_,_,_,_,_,_,_,_,_,_,_,_,_,_,_,_,_,_,_,_,_,_,_,_,rfl⟩
   case body=>
    rintro L pre x a' W hl ⟨r,hr⟩ hi ⟨Bx,hBx,cx0,cx1,r0,r1,r2,r5,r6,r7,r9,r10,r13,r14,r15,r16,r17,r18,r19,r20,r21,r22,r23,r24,r25,r26,r27,r28,r29,r30,r31,r32,r33,r34,r35,r36,r37,r38,r39,r40,r41,r42,r43,r44,r45,r46,r47,r48,r49,r50,r51,r52,r53,r54,r55,r56,r57,r58,r59,r60,r61,r62,r63,r64,r65,r66,r67,r68,r69,r70,rfl⟩ hlen
    have hsz:=hi.size;have hfa:=lfirst_all HLF.out x.1 (by rw [<- HN.out];exact x.2)
    obtain ⟨hp1,hp2⟩:=part_in HZ.out (p:=x.1) (by rw [<- HN.out];exact x.2)
    have HSt:Hid (TrSt w (.slice (some ⟨b,off,none⟩) n cap) (.slice (some ⟨B,0,none⟩) n n) (.slice aao k ac) (.slice lo ln lc) n (foldB l letter (iniB l claim k) pre) (W1.heap.size+1) W):=hi;have HNx:=foldB_snoc l letter (iniB l claim k) pre x;unfold stepB at HNx
    have HNx':Hid (foldB l letter (iniB l claim k) (pre++[x])=if lookB (l.getD x.1 (0,0)).1=true then foldB l letter (iniB l claim k) pre else fun j=>if j=x.1 then mkB (l.getD x.1 (0,0)) letter (foldB l letter (iniB l claim k) pre (x.1+1)) (foldB l letter (iniB l claim k) pre (sec l x.1)) else foldB l letter (iniB l claim k) pre j):=HNx
    clear HNx;obtain ⟨nx,hnx⟩:∃ nx,foldB l letter (iniB l claim k) (pre++[x])=nx:=⟨_,rfl⟩
    have HNX:Hid (foldB l letter (iniB l claim k) (pre++[x])=nx):=hnx;rw [hnx] at HNx';clear hnx;generalize foldB l letter (iniB l claim k) pre=h at *;obtain ⟨p,hpn⟩:=x;simp only at cx0 cx1 hfa hp1 hp2 HNx'
    generalize l.getD p (0,0)=xy at *;obtain ⟨kx,vx⟩:=xy;simp only at cx0 cx1 hfa hp1 hp2 HNx'
    have hlk:=fun w=>look_any kx w
    have hBxl:Bx < W.heap.size:=World.block_lt_of_cell? W ⟨Bx,0,none⟩ cx0;have hmx:Tryz.prog.follows .mixedOrders=true:=by kernel_rfl
    unfold trAct
    cases hb:lookB kx with
    | true=>
     have HE:Hid (nx=h):=by show _=_;rw [HNx'.out,if_pos hb]
     rw [hb] at hlk;clear hb HNx' hp1 hp2 hfa
     gi_wp2_with (refine ⟨trivial,?_⟩;gi_at_call 75;refine (CallsIn.inRound L (callsIn_wide.2 (hlk _))).mono ?_;rintro e w2 ⟨rfl,rfl⟩)
     refine ⟨KeepsFrom.refl _ _,⟨Below.refl _ _,rfl⟩,?_⟩
     show TrSt w _ _ _ _ n (foldB l letter (iniB l claim k) (pre++[⟨p,hpn⟩])) _ _
     rw [HNX.out,HE.out];exact HSt.out
    | false=>
     have HE:Hid (nx=fun j=>if j=p then mkB (kx,vx) letter (h (p+1)) (h (sec l p)) else h j):=by show _=_;rw [HNx'.out,if_neg (by rw [hb];decide)]
     rw [hb] at hlk;have hop:lopErr (ln:Int) (kx,vx)=0:=hfa
     have hk8:8 <= kx:=by
      simp only [lopErr] at hop
      split at hop
      ·omega
      ·omega
     have h13:kx=13->0 <= vx/\vx < letter.length:=fun e=>by
      simp only [lopErr] at hop;rw [if_neg (by omega),if_pos e] at hop
      split at hop
      ·omega
      ·have:=HLN.out;omega
     have hpr:kx=10\/kx=8\/kx=9->p+1 < n:=fun e=>by rw [HN.out];exact hp1 (by rcases e with rfl | rfl | rfl <;> decide)
     have hps:kx=8\/kx=9->sec l p < n:=fun e=>by rw [HN.out];exact (hp2 (by rcases e with rfl | rfl <;> decide)).2
     have hBl:B < w.heap.size:=HR.out.lt;have hpa:=parts_any b off cap n B (w.heap.size+1+1) p _ h l aao k ac rfl W (fun j hj=>hi.row.cell hj) hi.row.lt (fun j hj=>(hi.below.cell (p:=⟨B,j,none⟩) hBl).trans (HR.out.cell hj)) (Nat.lt_of_lt_of_le hBl hi.below.size)
     obtain ⟨t0,t1,t2,_⟩:=hi.three;have hch:=hi.holds;have hcl:=hi.letter
     have HMk:Hid (∀ w2,Below W.heap.size W w2->PartsAt w2 (W.heap.size+1+1) W.heap.size (W.heap.size+1) (w.heap.size+1+1) n B p h l->Calls Tryz.prog 83 #[.agg #[.int .i64 kx,.int .i64 vx],.slice lo ln lc,.func (.func 100) #[] #[.pointer (some ⟨W.heap.size+1+1,0,none⟩),.pointer (some ⟨W.heap.size+1,0,none⟩)],.func (.func 101) #[] #[.pointer (some ⟨W.heap.size+1+1,0,none⟩),.pointer (some ⟨W.heap.size,0,none⟩),.pointer (some ⟨W.heap.size+1,0,none⟩)]] w2.drew fun e w'=>
       e=.returned (.bool (mkB (kx,vx) letter (h (p+1)) (h (sec l p))))/\Below W.heap.size W w'/\w'.cell? ⟨w.heap.size+1+1+1,0,none⟩=some (.slice (some ⟨w.heap.size+1+1,0,none⟩) n n)/\w'.cell? ⟨w.heap.size+1+1,p,none⟩=some (.bool (h p))/\w'.frozen? ⟨w.heap.size+1+1,p,none⟩=false):=fun w2 hb2 hP=>by
      have hlt:W.heap.size+1+1 < w2.heap.size:=World.block_lt_of_cell? w2 ⟨W.heap.size+1+1,0,none⟩ hP.holds;have hbd:Below W.heap.size W w2.drew:=hb2.drew;have hPd:PartsAt w2.drew (W.heap.size+1+1) W.heap.size (W.heap.size+1) (w.heap.size+1+1) n B p h l:=⟨hP.holds,hP.row,hP.ends,hP.erow,hP.place⟩
      have hLd:BoolsV w2.drew (.slice lo letter.length lc) letter:=by rw [<- HLN.out];exact (HL.out.below hi.below).below hbd
      have hsw:w2.drew.heap.size=w2.heap.size:=rfl;have hrl:=hi.row.lt;rw [HLN.out];refine (makes_any kx vx lo lc _ _ _ _ n B p letter h l w2.drew h60 hLd hPd (by omega) (by omega) (by omega) (by omega) (by omega) h13 hpr hps).mono fun e w' ⟨he,hb⟩=>?_
      have hbf:Below W.heap.size W w':=hbd.trans (hb.mono (by omega))
      exact ⟨he,hbf,(hbf.cell (p:=⟨w.heap.size+1+1+1,0,none⟩) (World.block_lt_of_cell? W _ hch)).trans hch,(hbf.cell (p:=⟨w.heap.size+1+1,p,none⟩) hrl).trans (hi.row.cell hpn),(hbf.frozen (p:=⟨w.heap.size+1+1,p,none⟩) hrl).trans (hi.row.frozen p)⟩
     generalize mkB (kx,vx) letter (h (p+1)) (h (sec l p))=tv at HMk HE
     have HC2:Hid (∀ w2,Below W.heap.size W w2->w2.cell? ⟨w.heap.size+1+1+1,0,none⟩=some (.slice (some ⟨w.heap.size+1+1,0,none⟩) n n)/\w2.cell? ⟨w.heap.size+1,0,none⟩=some (.slice lo ln lc)/\w2.cell? ⟨Bx,0,none⟩=some (.int .i64 kx)/\w2.cell? ⟨Bx,1,none⟩=some (.int .i64 vx)):=fun w2 hb=>⟨(hb.cell (p:=⟨w.heap.size+1+1+1,0,none⟩) (World.block_lt_of_cell? W _ hch)).trans hch,(hb.cell (p:=⟨w.heap.size+1,0,none⟩) (World.block_lt_of_cell? W _ hcl)).trans hcl,(hb.cell (p:=⟨Bx,0,none⟩) hBxl).trans cx0,(hb.cell (p:=⟨Bx,1,none⟩) hBxl).trans cx1⟩
     clear hb HNx' hp1 hp2 hfa hop h13 hpr hps hi
     gi_wp2_with (first | (refine ⟨trivial,?_⟩;gi_at_call 75;refine (CallsIn.inRound L (callsIn_wide.2 (hlk _))).mono ?_;rintro e wz ⟨rfl,hwz⟩;obtain rfl:=hwz.symm) | (refine ⟨trivial,?_⟩;gi_at_call 82;refine (CallsIn.inRound L (callsIn_wide.2 hpa)).mono ?_;rintro e w2 ⟨rfl,hb2,HP2⟩;obtain ⟨d0,d1,d2,d3⟩:=HC2.out w2 hb2;have hma:=HMk.out w2 hb2 HP2.out))
     refine region_round (fun w'=>w'.cell? ⟨w.heap.size+1+1+1,0,none⟩=some (.slice (some ⟨w.heap.size+1+1,0,none⟩) n n)/\w'.cell? ⟨w.heap.size+1,0,none⟩=some (.slice lo ln lc)/\w'.cell? ⟨Bx,0,none⟩=some (.int .i64 kx)/\w'.cell? ⟨Bx,1,none⟩=some (.int .i64 vx)) hmx ?nd ?nl ?_
     case nd=>
      intro i o ho c;have hi:i < 9:=(Array.getElem?_eq_some_iff.1 ho).1
      have hc:i=0\/i=1\/i=2\/i=3\/i=4\/i=5\/i=6\/i=7\/i=8:=by omega
      rcases hc with rfl | rfl | rfl | rfl | rfl | rfl | rfl | rfl | rfl <;> (obtain rfl:=Option.some.inj ho;exact fun h=>by cases h)
     case nl=>exact fun ⟨_,_,h⟩=>h
     have hS2:w2.drew.cell? ⟨w.heap.size+1+1+1,0,none⟩=some (.slice (some ⟨w.heap.size+1+1,0,none⟩) n n)/\w2.drew.cell? ⟨w.heap.size+1,0,none⟩=some (.slice lo ln lc)/\w2.drew.cell? ⟨Bx,0,none⟩=some (.int .i64 kx)/\w2.drew.cell? ⟨Bx,1,none⟩=some (.int .i64 vx):=⟨d0,d1,d2,d3⟩
     refine wpAnyH_take (i:=0) (v:=.slice (some ⟨w.heap.size+1+1,0,none⟩) n n) rfl (by kernel_rfl) (by kernel_rfl) (by kernel_rfl) (fun _ _ _ h=>h) (Or.inl ⟨by rfl,fun wq hSw=>by obtain ⟨q0,q1,q2,q3⟩:=hSw;go_simp⟩) hS2 ?_
     simp only [Act.put,List.setIfInBounds_toArray];refine wpAnyH_take (i:=1) (v:=.int .i64 (p:Int)) rfl (by kernel_rfl) (by kernel_rfl) (by kernel_rfl) (fun _ _ _ h=>h) (Or.inl ⟨by rfl,fun wq hSw=>by obtain ⟨q0,q1,q2,q3⟩:=hSw;go_simp⟩) hS2 ?_
     simp only [Act.put];refine wpAnyH_take (i:=2) (v:=.agg #[.int .i64 kx,.int .i64 vx]) rfl (by kernel_rfl) (by kernel_rfl) (by kernel_rfl) (fun _ _ _ h=>h) (Or.inl ⟨by rfl,fun wq hSw=>by obtain ⟨q0,q1,q2,q3⟩:=hSw;go_simp⟩) hS2 ?_
     simp only [Act.put];refine wpAnyH_take (i:=3) (v:=.slice lo ln lc) rfl (by kernel_rfl) (by kernel_rfl) (by kernel_rfl) (fun _ _ _ h=>h) (Or.inl ⟨by rfl,fun wq hSw=>by obtain ⟨q0,q1,q2,q3⟩:=hSw;go_simp⟩) hS2 ?_
     simp only [Act.put];refine wpAnyH_take (i:=4) (v:=.func (.func 100) #[] #[.pointer (some ⟨W.heap.size+1+1,0,none⟩),.pointer (some ⟨W.heap.size+1,0,none⟩)]) rfl (by kernel_rfl) (by kernel_rfl) (by kernel_rfl) (fun _ _ _ h=>h) (Or.inl ⟨by rfl,fun wq hSw=>by obtain ⟨q0,q1,q2,q3⟩:=hSw;go_simp⟩) hS2 ?_
     simp only [Act.put];refine wpAnyH_take (i:=5) (v:=.func (.func 101) #[] #[.pointer (some ⟨W.heap.size+1+1,0,none⟩),.pointer (some ⟨W.heap.size,0,none⟩),.pointer (some ⟨W.heap.size+1,0,none⟩)]) rfl (by kernel_rfl) (by kernel_rfl) (by kernel_rfl) (fun _ _ _ h=>h) (Or.inl ⟨by rfl,fun wq hSw=>by obtain ⟨q0,q1,q2,q3⟩:=hSw;go_simp⟩) hS2 ?_
     simp only [Act.put];refine wpAnyH_all (rs:=[6]) (by kernel_rfl) (by decide) ?_
     intro i hi;obtain rfl:i=6:=by simpa using hi
     refine wpOp_call rfl (by rfl) (by go_simp) hma ?_
     rintro e w3 ⟨rfl,hb3,g0,g1,g2⟩
     obtain ⟨e0,e1,e2,e3⟩:=HC2.out w3 hb3;refine ⟨_,rfl,⟨e0,e1,e2,e3⟩,?_⟩
     simp only [Act.put];refine wpAnyH_take (i:=7) (v:=.pointer (some ⟨w.heap.size+1+1,p,none⟩)) rfl (by kernel_rfl) (by kernel_rfl) (by kernel_rfl) (fun _ _ _ h=>h) (Or.inl ⟨by rfl,fun wq _=>by go_simp⟩) ⟨e0,e1,e2,e3⟩ ?_
     simp only [Act.put];refine wpAnyH_all (rs:=[8]) (by kernel_rfl) (by decide) ?_
     intro i hi;obtain rfl:i=8:=by simpa using hi
     have hco:∀ z q,z≠w.heap.size+1+1->(w3.setCell ⟨w.heap.size+1+1,p,none⟩ (.bool tv)).cell? ⟨z,q,none⟩=w3.cell? ⟨z,q,none⟩:=fun z q hz=>World.cell?_of_block (w:=w3) (Below.heap_setCell w3 _ _ z hz)
     refine wpOp_skip (w':=w3.setCell ⟨w.heap.size+1+1,p,none⟩ (.bool tv)) rfl (by rfl) (by go_simp) ⟨⟨(hco _ _ (by omega)).trans e0,(hco _ _ (by omega)).trans e1,(hco _ _ (by omega)).trans e2,(hco _ _ (by omega)).trans e3⟩,?_⟩
     refine wpAnyH_done (by kernel_rfl) ?_ _
     have hW4:w.heap.size+4 <= W.heap.size:=by omega
     refine ⟨(keeps_of_below hb3).trans ((KeepsOthers.setCell _ _ _).from _),⟨(hb3.mono HSt.out.below.size).setCell (by simp;omega) _,(Below.heap_setCell w3 _ _ W1.heap.size (by simp;omega)).trans (hb3.block _ (by omega))⟩,?_⟩
     show TrSt w _ _ _ _ n (foldB l letter (iniB l claim k) (pre++[⟨p,hpn⟩])) _ _
     rw [HNX.out,HE.out];exact (HSt.out.later hb3 hW4).put p tv
   case done=>
    rintro D xs W hD rfl hi hK
    have hch:=hi.holds;have HT:Hid (TrSt w (.slice (some ⟨b,off,none⟩) n cap) (.slice (some ⟨B,0,none⟩) n n) (.slice aao k ac) (.slice lo ln lc) n (tru l letter claim) (W1.heap.size+1) W):=hi.congr (fun j hj=>by rw [HAL.out,foldB_done HZ.out h0n HN.out n (Nat.le_refl _) j hj,if_pos (by omega)])
    clear hi
    gi_wp2
    refine ⟨by simp,.inl ⟨_,_,rfl,run_takeDeferred hK,?_⟩⟩
    have hb':Below (W1.heap.size+1) W (W.putObj D (.deferred none)):=belowK_b (w:=W1.alloc (.cells #[.slice (some ⟨b,off,none⟩) n cap] 32)) (by simp) W D _ _ hD hK rfl rfl
    have t':=HT.out.later hb' (by omega)
    exact ⟨_,results_tmp2 rfl _ _ _,_,rfl,t'.below,t'.row,by omega⟩
   case stop=>
    rintro D c pre W _ _ h _
    exact h.elim
end Go.Proofs.YtfnobbpbmelgnaaGreatDoor
namespace Go.Proofs.YtfnobbpbmelgnaaGreatDoor
open Go.ChangeShapes Go.WideShapes Go.ChangeAt Go.RowKit Go.Deep
open Terms
set_option maxHeartbeats 6400000
set_option maxRecDepth 20000
def WholeAt (w:World) (v:Value) (B:Nat) (av:Value) (l:List (Int × Int)):Prop:=
 ∃ b off cap,v=.slice (some ⟨b,off,none⟩) l.length cap/\b < w.heap.size/\OpsAt w b off l/\w.rowIs B 3 l.length (fun q=>.int .i64 (endAt (l.map Prod.fst) q))/\IntsV w av (aheadL l)
theorem WholeAt.below {w w':World} {v:Value} {B:Nat} {av:Value} {l:List (Int × Int)} (h:WholeAt w v B av l) (hb:Below w.heap.size w w'):WholeAt w' v B av l:=by
 obtain ⟨b,off,cap,h1,h2,h3,h4,h5⟩:=h;exact ⟨b,off,cap,h1,Nat.lt_of_lt_of_le h2 hb.size,h3.below hb h2,row_later h4 hb,h5.below hb⟩
def ClaimNo (l:List (Int × Int)) (claim:Int):Prop:=claim < 0\/2 ^ (aheadL l).length <= claim
def MethPost (l:List (Int × Int)) (letter:List Bool) (claim:Int) (w:World) (e:Ending) (w':World):Prop:=
 Below w.heap.size w w'/\(ClaimNo l claim->e=.returned (.tuple #[.slice none 0 0,.int .i64 2]))/\(¬ ClaimNo l claim->∃ bH,e=.returned (.tuple #[.slice (some ⟨bH,0,none⟩) l.length l.length,.int .i64 0])/\w'.rowIs bH 4 l.length (fun j=>.bool (tru l letter claim j)))
theorem meth_any (v:Value) (B:Nat) (av lv:Value) (l:List (Int × Int)) (letter:List Bool) (claim:Int) (w:World) (hc:lcode letter.length l=0) (hV:WholeAt w v B av l) (hL:BoolsV w lv letter) :
  Calls Tryz.prog 65 #[.agg #[v,.slice (some ⟨B,0,none⟩) l.length l.length,av],lv,.int .i64 claim] w (MethPost l letter claim w):=by
 obtain ⟨hp0,hp6,hz,hlf,h6⟩:=lcode_zero hc;obtain ⟨hne,h60⟩:=ends_ne hz;rw [List.length_map] at h60;obtain ⟨b,off,cap,rfl,hbl,hat,hrow,hav⟩:=hV;obtain ⟨aao,ac,rfl,ha⟩:=id hav;obtain ⟨lo,lc,rfl,hl⟩:=id hL
 by_cases hcl:ClaimNo l claim
 ·exact (truths_out _ _ _ _ aao _ ac claim lo _ lc (some ⟨b,off,none⟩) (some ⟨B,0,none⟩) l.length cap l.length l.length rfl rfl rfl rfl h6 w hcl).mono fun e w' ⟨h1,h2⟩=>⟨h2,fun _=>h1,fun h=>absurd hcl h⟩
 ·have h0n:0 < l.length:=by
   cases l with
   | nil=>exact absurd rfl hne
   | cons _ _=>simp
  refine (truths_in b off cap l.length B aao _ ac lo _ lc l letter claim w h0n h60 rfl hz hat hbl hrow rfl hav h6 rfl hL hlf (by unfold ClaimNo at hcl;omega) (by unfold ClaimNo at hcl;omega)).mono fun e w' ⟨bH,h1,h2,h3,_⟩=>⟨h2,fun h=>absurd h hcl,fun _=>⟨bH,h1,h3.out⟩⟩
noncomputable def tcode (l:List (Int × Int)) (letter:List Bool) (claim:Int):Int:=by classical exact if lcode letter.length l=0 then (if ClaimNo l claim then 2 else 0) else lcode letter.length l
noncomputable def truL (l:List (Int × Int)) (letter:List Bool) (claim:Int):List Bool:=if tcode l letter claim=0 then (List.range l.length).map (tru l letter claim) else []
theorem tcode_bad {l:List (Int × Int)} {letter:List Bool} {claim:Int} (h:lcode letter.length l≠0):tcode l letter claim=lcode letter.length l:=by unfold tcode;rw [if_neg h]
theorem tcode_no {l:List (Int × Int)} {letter:List Bool} {claim:Int} (h:lcode letter.length l=0) (h2:ClaimNo l claim):tcode l letter claim=2:=by unfold tcode;rw [if_pos h,if_pos h2]
theorem tcode_ok {l:List (Int × Int)} {letter:List Bool} {claim:Int} (h:lcode letter.length l=0) (h2:¬ ClaimNo l claim):tcode l letter claim=0:=by unfold tcode;rw [if_pos h,if_neg h2]
theorem boolsV_tru {w:World} {bH:Nat} {l:List (Int × Int)} {letter:List Bool} {claim:Int} (h:w.rowIs bH 4 l.length (fun j=>.bool (tru l letter claim j))):BoolsV w (.slice (some ⟨bH,0,none⟩) l.length l.length) ((List.range l.length).map (tru l letter claim)):=by
 have h2:=boolsV_of_row (w:=w) (B:=bH) (l:=(List.range l.length).map (tru l letter claim)) (by
  rw [List.length_map,List.length_range]
  exact h.congr fun j hj=>by simp [List.getD_eq_getElem?_getD,hj])
 rwa [List.length_map,List.length_range] at h2
theorem lread2 (v:Value) (l:List (Int × Int)) (props:Int) (w:World) (hB:0 < w.heap.size) (hT:TabAt w) (hV:OpsV w v l) :
  Calls Tryz.prog 59 #[v,.int .i64 props] w fun e w'=>Below w.heap.size w w'/\(lcode props l≠0->e=.returned (.tuple #[.agg #[.slice none 0 0,.slice none 0 0,.slice none 0 0],.int .i64 (lcode props l)]))/\(lcode props l=0->∃ B aao ac,e=.returned (.tuple #[.agg #[v,.slice (some ⟨B,0,none⟩) l.length l.length,.slice aao (aheadL l).length ac],.int .i64 0])/\Hid (WholeAt w' v B (.slice aao (aheadL l).length ac) l)):=by
 refine (lread_any v l props w hB hT hV).mono fun e w' ⟨h1,h2,h3⟩=>⟨h1,h2,fun hz=>?_⟩
 obtain ⟨B,av,_,he,hrow,ho⟩:=h3 hz;obtain ⟨aao,ac,rfl⟩:=owns_slice ho;obtain ⟨_,_,hze,_,_⟩:=lcode_zero hz;obtain ⟨hne,_⟩:=ends_ne hze
 obtain ⟨b,off,hat⟩:∃ b off,(∃ cap,v=.slice (some ⟨b,off,none⟩) l.length cap)/\b < w'.heap.size/\OpsAt w' b off l:=by
  obtain ⟨ao,cap,rfl,_,h⟩:=hV.below h1;obtain ⟨b,off,rfl,hlt,hat⟩:=h (by rintro rfl;exact hne rfl)
  exact ⟨b,off,⟨cap,rfl⟩,hlt,hat⟩
 obtain ⟨⟨cap,hv⟩,hlt,hat⟩:=hat;exact ⟨B,aao,ac,he,b,off,cap,hv,hlt,hat,hrow,intsV_of_owns ho⟩
theorem ltruths_any (v lv:Value) (l:List (Int × Int)) (letter:List Bool) (claim:Int) (w:World) (hB:0 < w.heap.size) (hT:TabAt w) (hV:OpsV w v l) (hL:BoolsV w lv letter) :
    Calls Tryz.prog 47 #[v,lv,.int .i64 claim] w fun e w'=>∃ v',e=.returned (.tuple #[v',.int .i64 (tcode l letter claim)])/\Below w.heap.size w w'/\BoolsV w' v' (truL l letter claim):=by
  have hrd:=lread2 v l letter.length w hB hT hV;obtain ⟨lo,lc,rfl,hl⟩:=id hL;obtain ⟨oo,oc,rfl,_⟩:=id hV
  by_cases hc:lcode letter.length l=0
  · have HM:Hid (∀ w1 B aao ac,Below w.heap.size w w1->WholeAt w1 (.slice oo l.length oc) B (.slice aao (aheadL l).length ac) l->∀ o,Calls Tryz.prog 65 #[.agg #[.slice oo l.length oc,.slice (some ⟨B,0,none⟩) l.length l.length,.slice aao (aheadL l).length ac],.slice lo letter.length lc,.int .i64 claim] (w1.alloc o) fun e w'=>∃ ro rn rc,e=.returned (.tuple #[.slice ro rn rc,.int .i64 (tcode l letter claim)])/\Below w1.heap.size w1 w'/\Hid (BoolsV w' (.slice ro rn rc) (truL l letter claim))):=fun w1 B aao ac hb hW o=>by
      have hA:Below w1.heap.size w1 (w1.alloc o):=(Below.refl _ _).alloc (Nat.le_refl _) o;refine (meth_any _ B _ _ l letter claim (w1.alloc o) hc (hW.below hA) ((hL.below hb).below hA)).mono fun e w' ⟨h1,h2,h3⟩=>?_
      have h1':=hA.trans (h1.mono hA.size)
      by_cases hn:ClaimNo l claim
      · exact ⟨none,0,0,by rw [tcode_no hc hn];exact h2 hn,h1',by show BoolsV _ _ _;unfold truL;rw [tcode_no hc hn];exact ⟨none,0,rfl,fun h=>absurd rfl h⟩⟩
      · obtain ⟨bH,he,hr⟩:=h3 hn
        exact ⟨_,_,_,by rw [tcode_ok hc hn];exact he,h1',by show BoolsV _ _ _;unfold truL;rw [tcode_ok hc hn];exact boolsV_tru hr⟩
    have hrd2:Calls Tryz.prog 59 #[.slice oo l.length oc,.int .i64 (letter.length:Int)] w fun e w'=>Below w.heap.size w w'/\∃ B aao ac,e=.returned (.tuple #[.agg #[.slice oo l.length oc,.slice (some ⟨B,0,none⟩) l.length l.length,.slice aao (aheadL l).length ac],.int .i64 0])/\Hid (WholeAt w' (.slice oo l.length oc) B (.slice aao (aheadL l).length ac) l):=hrd.mono fun e w' ⟨h1,_,h3⟩=>⟨h1,h3 hc⟩
    generalize tcode l letter claim=x at *;generalize truL l letter claim=res at *;generalize (aheadL l).length=an at *;generalize letter.length=ln at *;generalize l.length=n at *;clear hrd hT hV hL hl hc
    go_enter Tryz.func47,Tryz.ntmps47
    go_wp2_with (first | (go_at_call 59;refine hrd2.mono ?_;rintro e w1 ⟨hb1,B,aao,ac,rfl,HW⟩;have hme:=HM.out w1 B aao ac hb1 HW.out) | (go_at_call 65;refine (hme _).mono ?_;rintro e w2 ⟨ro,rn,rc,rfl,hb2,HR⟩))
    go_ret2
    exact ⟨_,rfl,hb1.trans (hb2.mono hb1.size),HR.out⟩
  · have hrd2:Calls Tryz.prog 59 #[.slice oo l.length oc,.int .i64 (letter.length:Int)] w fun e w'=>Below w.heap.size w w'/\e=.returned (.tuple #[.agg #[.slice none 0 0,.slice none 0 0,.slice none 0 0],.int .i64 (lcode letter.length l)]):=hrd.mono fun e w' ⟨h1,h2,_⟩=>⟨h1,h2 hc⟩
    have HX:Hid (tcode l letter claim=lcode letter.length l/\truL l letter claim=[]):=⟨tcode_bad hc,by unfold truL;rw [if_neg (by rw [tcode_bad hc];exact hc)]⟩
    rw [HX.out.1,HX.out.2];generalize lcode letter.length l=x at *;generalize letter.length=ln at *;generalize l.length=n at *;clear hrd hT hV hL hl HX
    go_enter Tryz.func47,Tryz.ntmps47
    go_wp2_with (go_at_call 59;refine hrd2.mono ?_;rintro e w1 ⟨hb1,rfl⟩)
    go_ret2
    exact ⟨_,rfl,by first | exact hb1 | exact hb1.alloc hb1.size _,none,0,rfl,fun h=>absurd rfl h⟩
end Go.Proofs.YtfnobbpbmelgnaaGreatDoor
namespace Go.Proofs.YtfnobbpbmelgnaaGreatDoor
open Go.ChangeShapes Go.WideShapes Go.ChangeAt Go.RowKit Go.Deep
open Terms Tm
set_option maxHeartbeats 6400000
set_option maxRecDepth 20000
def begC (m:Mo):Int:=codeTo m.vars (initsL m.vars) m.vars.length
noncomputable def begTo (m:Mo) (ps:List (List (Int × Int))) (l:List (Int × Int)):Nat->List (Int × Int)
 | 0=>[]
 | k+1=>if tru l (letL m ps (begC m)) (k:Int) 0=true then begTo m ps l k else begTo m ps l k++[(begC m,(k:Int))]
noncomputable def begL (m:Mo) (ps:List (List (Int × Int))) (l:List (Int × Int)):List (Int × Int):=begTo m ps l (2 ^ (aheadL l).length)
theorem begTo_len (m:Mo) (ps:List (List (Int × Int))) (l:List (Int × Int)):∀ k,(begTo m ps l k).length <= k
 | 0=>Nat.le_refl _
 | k+1=>by
  rw [begTo];have:=begTo_len m ps l k
  split
  ·omega
  ·rw [List.length_append,List.length_singleton];omega
theorem begL_len {m:Mo} {ps:List (List (Int × Int))} {l:List (Int × Int)} (h:tkcode m ps l=0):(begL m ps l).length <= 64:=by
 have h6:=(lcode_zero (tk_zero h).2).2.2.2.2;have:=begTo_len m ps l (2 ^ (aheadL l).length);have h2:2 ^ (aheadL l).length <= 2 ^ 6:=Nat.pow_le_pow_right (by decide) h6
 unfold begL;omega
theorem tk_let {m:Mo} {ps:List (List (Int × Int))} {l:List (Int × Int)} (h:tkcode m ps l=0) {c:Int} (hc:0 <= c/\c < prodTo m.vars m.vars.length):letC m ps c=0/\(letL m ps c).length=ps.length:=by
 obtain ⟨hp,_⟩:=tk_zero h;obtain ⟨hm,_⟩:=pcode_m hp;have h1:letC m ps c=0:=by unfold letC;rw [if_pos hp,wcode_yes hm hc]
 refine ⟨h1,?_⟩
 unfold letL;rw [if_pos h1,List.length_map]
theorem tk_beg {m:Mo} {ps:List (List (Int × Int))} {l:List (Int × Int)} (h:tkcode m ps l=0):0 <= begC m/\begC m < prodTo m.vars m.vars.length:=by
 obtain ⟨hp,_⟩:=tk_zero h;obtain ⟨hm,_⟩:=pcode_m hp;exact code_bounds (mcode_vars hm) (Nat.le_refl _) (fun i hi=>inits_in (mcode_vars hm) i hi)
theorem tk_tru {m:Mo} {ps:List (List (Int × Int))} {l:List (Int × Int)} (h:tkcode m ps l=0) {c:Int} (hc:0 <= c/\c < prodTo m.vars m.vars.length) {k:Nat} (hk:k < 2 ^ (aheadL l).length) :
  tcode l (letL m ps c) (k:Int)=0/\truL l (letL m ps c) (k:Int)=(List.range l.length).map (tru l (letL m ps c) (k:Int)):=by
 have h1:=(tk_let h hc).2
 have h2:tcode l (letL m ps c) (k:Int)=0:=by
  refine tcode_ok (by rw [h1];exact (tk_zero h).2) fun hn=>?_
  unfold ClaimNo at hn;have:((2 ^ (aheadL l).length:Nat):Int)=(2:Int) ^ (aheadL l).length:=by push_cast;rfl
  rcases hn with hn | hn
  ·omega
  ·rw [<- this] at hn;omega
 exact ⟨h2,by unfold truL;rw [if_pos h2]⟩
theorem tk_ne {m:Mo} {ps:List (List (Int × Int))} {l:List (Int × Int)} (h:tkcode m ps l=0):0 < l.length:=by
 obtain ⟨_,_,hz,_,_⟩:=lcode_zero (tk_zero h).2;have:=(ends_ne hz).1
 rcases Nat.eq_zero_or_pos l.length with h0 | h0
 ·rw [List.length_eq_zero_iff.1 h0] at this
  simp at this
 ·exact h0
theorem begin_any (B:Nat) (va vr pv fv:Value) (m:Mo) (ps:List (List (Int × Int))) (l:List (Int × Int)) (ho:Option Addr) (hcp bs bl:Nat) (w:World) (hB:0 < w.heap.size) (hT:TabAt w) (hV:TaskV w va vr pv fv m ps l) (hc:tkcode m ps l=0)
  (hS:SurvAt w B va vr pv fv (.slice ho (aheadL l).length hcp) bs bl) :
  Calls Tryz.prog 26 #[.pointer (some ⟨B,0,none⟩)] w fun e w'=>∃ so sc,e=.returned (.tuple #[.slice so (begL m ps l).length sc,.int .i64 0])/\Below w.heap.size w w'/\Hid (SpO w' w.heap.size (.slice so (begL m ps l).length sc) (begL m ps l)):=by
 obtain ⟨hp0,hl0⟩:=tk_zero hc;obtain ⟨hm0,_⟩:=pcode_m hp0;have h6:=(lcode_zero hl0).2.2.2.2;have hne:=tk_ne hc;have hnei:(0:Int) < (l.length:Int):=by omega
 obtain ⟨ao,ac,rfl⟩:=hV.mo.1.shape;obtain ⟨ro,rc,rfl⟩:=hV.mo.2.shape;obtain ⟨po,pc,rfl⟩:=hV.ps.shape;obtain ⟨fo,fc,rfl,_⟩:=id hV.fo
 have hfi:Calls Tryz.prog 44 #[.agg #[.slice ao m.vars.length ac,.slice ro m.rules.length rc]] w fun e w'=>e=.returned (.tuple #[.int .i64 (begC m),.int .i64 0])/\Below w.heap.size w w':=by
  have:=mfirst_any _ _ m w hB hT hV.mo;rw [if_pos hm0,hm0] at this;exact this
 have HLe:Hid (∀ w1,Below w.heap.size w w1->Calls Tryz.prog 45 #[.agg #[.slice ao m.vars.length ac,.slice ro m.rules.length rc],.slice po ps.length pc,.int .i64 (begC m)] w1 fun e w'=>∃ lo lc,e=.returned (.tuple #[.slice lo ps.length lc,.int .i64 0])/\Below w1.heap.size w1 w'/\Hid (BoolsV w' (.slice lo ps.length lc) (letL m ps (begC m)))):=fun w1 h=>by
  refine (letter_any _ _ _ m ps (begC m) w1 (Nat.lt_of_lt_of_le hB h.size) (hT.below h hB) (hV.mo.below h) (hV.ps.below h)).mono fun e w' ⟨v,h1,h2,h3⟩=>?_
  obtain ⟨t1,t2⟩:=tk_let hc (tk_beg hc);obtain ⟨lo,lc,rfl,hx⟩:=h3;rw [t2] at h1;exact ⟨lo,lc,by rw [h1,t1],h2,⟨lo,lc,by rw [t2],hx⟩⟩
 have HTr:Hid (∀ (k:Nat) (lv:Value) (w1:World),k < 2 ^ (aheadL l).length->Below w.heap.size w w1->BoolsV w1 lv (letL m ps (begC m))->Calls Tryz.prog 47 #[.slice fo l.length fc,lv,.int .i64 (k:Int)] w1 fun e w'=>∃ b off c,e=.returned (.tuple #[.slice (some ⟨b,off,none⟩) l.length c,.int .i64 0])/\Below w1.heap.size w1 w'/\w'.cell? ⟨b,off,none⟩=some (.bool (tru l (letL m ps (begC m)) (k:Int) 0))):=fun k lv w1 hk h hl=>by
  refine (ltruths_any _ lv l (letL m ps (begC m)) (k:Int) w1 (Nat.lt_of_lt_of_le hB h.size) (hT.below h hB) (hV.fo.below h) hl).mono fun e w' ⟨v,h1,h2,h3⟩=>?_
  obtain ⟨t1,t2⟩:=tk_tru hc (tk_beg hc) hk;rw [t2] at h3;have hn:=tk_ne hc;obtain ⟨lo,lc,rfl,hx⟩:=h3;obtain ⟨b,off,rfl,_,hat⟩:=hx (by intro h0;have:=congrArg List.length h0;rw [List.length_map,List.length_range,List.length_nil] at this;omega)
  have c0:=hat 0 (by simpa using hn)
  refine ⟨b,off,lc,by rw [h1,t1];simp,h2,?_⟩
  rw [Nat.add_zero] at c0;rw [c0];simp [List.getD_eq_getElem?_getD,hn]
 have HS:Hid (∀ w1,Below w.heap.size w w1->SurvAt w1 B (.slice ao m.vars.length ac) (.slice ro m.rules.length rc) (.slice po ps.length pc) (.slice fo l.length fc) (.slice ho (aheadL l).length hcp) bs bl):=fun w1 h=>hS.later h
 have hcl:=fun w1 (h:Below w.heap.size w w1)=>claims_any B _ _ _ _ ho _ hcp bs bl w1 h6 (hS.later h)
 have HCl:Hid (∀ w1,Below w.heap.size w w1->Calls Tryz.prog 46 #[.pointer (some ⟨B,0,none⟩)] w1 fun e w'=>e=.returned (.int .i64 ((2 ^ (aheadL l).length:Nat):Int))/\w'=w1):=hcl
 obtain ⟨_,s0,s1,s2,s3,s4,s5,s6⟩:=id hS;have hq64:2 ^ (aheadL l).length <= 64:=Nat.pow_le_pow_right (show 0 < 2 by decide) h6
 have HNil:Hid (begTo m ps l 0=[]):=rfl;have HSt:Hid (∀ k,begTo m ps l (k+1)=if tru l (letL m ps (begC m)) (k:Int) 0=true then begTo m ps l k else begTo m ps l k++[(begC m,(k:Int))]):=fun k=>rfl
 have HLen:Hid (∀ k,(begTo m ps l k).length <= k):=begTo_len m ps l
 unfold begL;generalize begTo m ps l=bg at *;generalize letL m ps (begC m)=lt at *;generalize begC m=first at *;generalize m.vars.length=vn at *;generalize m.rules.length=rn at *;generalize ps.length=pn at *;generalize (aheadL l).length=an at *;generalize 2 ^ an=N at *
 have HTru:Hid (∀ k:Nat,tru l lt (k:Int) 0=true\/tru l lt (k:Int) 0=false):=fun k=>by cases tru l lt (k:Int) 0 <;> simp
 generalize hfn:l.length=fn at *;clear hV hT hc hl0 hp0 hm0 hS hcl h6 hfn
 go_enter Tryz.func26,Tryz.ntmps26
 go_wp2_with (first | (go_at_call 44;refine hfi.mono ?_;rintro e w1 ⟨rfl,hb1⟩;obtain ⟨_,p0,p1,p2,p3,p4,p5,p6⟩:=HS.out w1 hb1;have hle:=HLe.out _ hb1.drew))
 have HSB:Hid (∀ w2,Below w1.heap.size w1 w2->w2.cell? ⟨B,0,none⟩=some (.slice ao vn ac)/\w2.cell? ⟨B,1,none⟩=some (.slice ro rn rc)/\w2.cell? ⟨B,2,none⟩=some (.slice po pn pc)):=fun w2 h=>by
  obtain ⟨_,q0,q1,q2,_,_,_,_⟩:=HS.out w2 (hb1.trans (h.mono hb1.size));exact ⟨q0,q1,q2⟩
 have hB0:Below w1.heap.size w1 w1:=Below.refl _ _;have hBw:=hB0.drew
 go_region_held3 (fun w'=>w'.cell? ⟨B,0,none⟩=some (.slice ao vn ac)/\w'.cell? ⟨B,1,none⟩=some (.slice ro rn rc)/\w'.cell? ⟨B,2,none⟩=some (.slice po pn pc))
  (first | exact HSB.out _ hb12 | exact HSB.out _ hBw | exact HSB.out _ hB0)
  (first
   | (go_at_call 45;refine hle.mono ?_;rintro e w2 ⟨lo,lc,rfl,hb2,HLv⟩;have hb12:=hBw.trans (hb2.mono hBw.size)))
 have hw2:=hb1.trans (hb12.mono hb1.size);have hcl:=HCl.out w2 hw2;clear hle hfi HLe HSB p0 p1 p2 p3 p4 p5 p6 s0 s1 s2 s3 s4 s5 s6;have HLet:Hid (∀ w3,Below w2.heap.size w2 w3->BoolsV w3 (.slice lo pn lc) lt):=fun w3 h=>HLv.out.below h
 go_wp2_with (first | (go_at_call 46;refine hcl.mono ?_;rintro e w3 ⟨rfl,rfl⟩))
 go_loopw [7,43] (fun u i wr=>∃ k:Nat,k <= N/\i=.int .i64 k/\(∃ so sn sc,u=.slice so sn sc/\sn <= k/\Hid ((bg k).length=sn/\SpO wr w3.heap.size (.slice so sn sc) (bg k)))/\Below w3.heap.size w3 wr) (fun _ i _=>N - (intOf i).toNat)
 case atStart=>exact ⟨0,Nat.zero_le _,rfl,⟨none,0,0,rfl,Nat.le_refl _,by rw [HNil.out];rfl,by rw [HNil.out];exact SpO.nil _ _⟩,Below.refl _ _⟩
 case round=>
  obtain ⟨k,hk,rfl,⟨so,sn,sc,rfl,hsn,HSp⟩,hbr3⟩:=hrel;have hbr:=hw2.trans (hbr3.mono hw2.size);have HBo:=(show Hid _ from HLet.out wr hbr3)
  obtain ⟨_,p0,p1,p2,p3,p4,p5,p6⟩:=HS.out wr hbr
  by_cases hkN:k < N
  ·have htr:=HTr.out k _ wr hkN hbr HBo.out
   have hst:=HSt.out k;have HSk:Hid (∀ w4,Below wr.heap.size wr w4->SpO w4 w3.heap.size (.slice so sn sc) (bg k)):=fun w4 h=>HSp.out.2.later h (Nat.le_refl _)
   have HSl:Hid ((bg k).length=sn):=HSp.out.1
   rcases HTru.out k with ht | ht
   ·rw [ht] at htr hst
    rw [if_pos rfl] at hst;have HE:Hid (bg (k+1)=bg k):=hst;clear hst ht HBo HSp
    go_wp2_with (first | (go_at_call 47;refine htr.mono ?_;rintro e w4 ⟨b,off,c,rfl,hb4,d0⟩;have hbw4:=hbr3.trans (hb4.mono hbr3.size)))
    go_roundw
    case rel=>exact ⟨k+1,by omega,by go_num,⟨so,sn,sc,rfl,by omega,by rw [HE.out];exact HSl.out,by rw [HE.out];exact HSk.out _ hb4⟩,hbw4⟩
    case measure=>simp [intOf];omega
   ·rw [ht] at htr hst
    rw [if_neg (by simp)] at hst
    have HE:Hid (bg (k+1)=bg k++[(first,(k:Int))]):=hst;have hsz:w.heap.size <= wr.heap.size:=hbr.size;clear hst ht HBo HSp
    go_wp2_with (first | (go_at_call 47;refine htr.mono ?_;rintro e w4 ⟨b,off,c,rfl,hb4,d0⟩;have hbw4:=hbr3.trans (hb4.mono hbr3.size);have hsp:=HSk.out _ hb4;have hs4:=hbw4.size) | (at_builtin;refine push_sp first (k:Int) rfl _ _ rfl w3.heap.size sn sc so (bg k) HSl.out rfl hsp rfl (by omega) hs4 ?_;intro vo5 cap5 w5 ho5 hb5 hg5;have HO5:Hid (SpO w5 w3.heap.size (.slice vo5 (sn+1) cap5) (bg k++[(first,(k:Int))])):=ho5;have hbw5:=hbw4.trans hb5;clear ho5 hg5 hsp))
    go_roundw
    case rel=>exact ⟨k+1,by omega,by go_num,⟨vo5,sn+1,cap5,rfl,by omega,by rw [HE.out,List.length_append,HSl.out];rfl,by rw [HE.out];exact HO5.out⟩,hbw5⟩
    case measure=>simp [intOf];omega
  ·obtain rfl:k=N:=by omega
   have HSl:Hid ((bg k).length=sn):=HSp.out.1;have HSk:Hid (SpO wr w.heap.size (.slice so sn sc) (bg k)):=owns_mono HSp.out.2 hw2.size;clear HSp HBo
   go_wp2_with fail
   go_ret2
   refine ⟨so,sc,by rw [HSl.out];rfl,hbr,by rw [HSl.out];exact HSk.out⟩
theorem rcode_guard {r:Ru} (h:rcode 2 r=0):r.guard≠[]:=by
 intro e
 have hx:∀ t,xcode 2 [] t≠0:=fun t=>by
  unfold xcode;rw [if_neg (by decide)]
  have:endsCode (([]:List (Int × Int)).map Prod.fst)≠0:=fun h0=>(ends_ne h0).1 rfl
  rw [if_pos this];exact this
 unfold rcode at h;rw [e] at h
 have hk:kcode 2 [] true≠0:=by
  unfold kcode;rw [if_neg (hx _)];exact hx _
 split at h
 ·exact absurd h (by decide)
 ·exact hk h
structure NilTo (g:Nat) (w w':World):Prop where
 size:w.heap.size <= w'.heap.size
 nil:∀ i v,w.cell? ⟨g,i,none⟩=some v->v=.slice none 0 0
 block:∀ b,b≠g->w'.heap[b]? = w.heap[b]?
theorem NilTo.ne {g:Nat} {w w':World} (h:NilTo g w w') {b i:Nat} {v:Value} (hc:w.cell? ⟨b,i,none⟩=some v) (hv:v≠.slice none 0 0):b≠g:=by
 rintro rfl
 exact hv (h.nil i v hc)
theorem NilTo.cell {g:Nat} {w w':World} (h:NilTo g w w') {b:Nat} (hb:b≠g) (i:Nat):w'.cell? ⟨b,i,none⟩=w.cell? ⟨b,i,none⟩:=World.cell?_of_block (h.block b hb)
theorem OpsV.nilTo {g:Nat} {w w':World} {v:Value} {l:List (Int × Int)} (h:OpsV w v l) (hn:NilTo g w w'):OpsV w' v l:=by
 obtain ⟨ao,cap,rfl,h0,h⟩:=h;refine ⟨ao,cap,rfl,h0,fun hne=>?_⟩
 obtain ⟨b,off,rfl,hlt,hat⟩:=h hne;refine ⟨b,off,rfl,Nat.lt_of_lt_of_le hlt hn.size,fun i hi=>?_⟩
 have hb:=hn.ne (hat i hi).1 (by simp)
 exact ⟨(hn.cell hb _).trans (hat i hi).1,(hn.cell hb _).trans (hat i hi).2⟩
theorem VarsV.nilTo {g:Nat} {w w':World} {v:Value} {l:List Vr} (h:VarsV w v l) (hn:NilTo g w w'):VarsV w' v l:=SlV.imp h hn.size fun b off i _ _ hi=>by
 obtain ⟨h1,h2,h3,h4⟩:=hi;have hb:=hn.ne h2 (by simp)
 exact ⟨(hn.cell hb _).trans h1,(hn.cell hb _).trans h2,(hn.cell hb _).trans h3,(hn.cell hb _).trans h4⟩
theorem SetsV.nilTo {g:Nat} {w w':World} {v:Value} {l:List St} (h:SetsV w v l) (hn:NilTo g w w'):SetsV w' v l:=SlV.imp h hn.size fun b off i _ _ hi=>by
 obtain ⟨h1,u,h2,h3⟩:=hi;have hb:=hn.ne h1 (by simp)
 exact ⟨(hn.cell hb _).trans h1,u,(hn.cell hb _).trans h2,h3.nilTo hn⟩
theorem RulesV.nilTo {g:Nat} {w w':World} {v:Value} {l:List Ru} (h:RulesV w v l) (hg:∀ j,j < l.length->(l.getD j ru0).guard≠[]) (hn:NilTo g w w'):RulesV w' v l:=SlV.imp h hn.size fun b off i _ hi hx=>by
 obtain ⟨⟨u,h1,h2⟩,u',h3,h4⟩:=hx
 have hb:=hn.ne h1 (by
  obtain ⟨ao,cap,rfl,⟨_,h0⟩,_⟩:=h2;intro e
  injection e with e _ _
  exact hg i hi (h0 e).2)
 exact ⟨⟨u,(hn.cell hb _).trans h1,h2.nilTo hn⟩,u',(hn.cell hb _).trans h3,h4.nilTo hn⟩
theorem TermsV.nilTo {g:Nat} {w w':World} {v:Value} {ts:List (List (Int × Int))} (h:TermsV w v ts) (hg:∀ j,j < ts.length->ts.getD j []≠[]) (hn:NilTo g w w'):TermsV w' v ts:=by
 obtain ⟨ao,cap,rfl,h⟩:=h;refine ⟨ao,cap,rfl,fun hne=>?_⟩
 obtain ⟨b,off,rfl,hlt,hat⟩:=h hne;refine ⟨b,off,rfl,Nat.lt_of_lt_of_le hlt hn.size,fun i hi=>?_⟩
 obtain ⟨u,h1,h2⟩:=hat i hi
 have hb:=hn.ne h1 (by
  obtain ⟨ao,cap,rfl,⟨_,h0⟩,_⟩:=h2;intro e
  injection e with e _ _
  exact hg i hi (h0 e).2)
 exact ⟨u,(hn.cell hb _).trans h1,h2.nilTo hn⟩
structure KTaskOk (m:Mo) (l:List (Int × Int)) (mm:Nat):Prop where
 mo:mcode m=0
 vars:m.vars.length=2
 fo:∃ T,FOk mm l T
 len:l.length <= 59
 many:mm <= 6
theorem KTaskOk.code {m:Mo} {l:List (Int × Int)} {mm:Nat} (h:KTaskOk m l mm):tkcode m propsL l=0:=by
 obtain ⟨T,hT⟩:=h.fo;unfold tkcode;rw [props_code h.mo h.vars,if_neg (by simp)]
 exact hT.code (by have:=h.len;omega) h.many
section
variable {m : Mo} {l : List (Int × Int)} {mm : Nat}
end
