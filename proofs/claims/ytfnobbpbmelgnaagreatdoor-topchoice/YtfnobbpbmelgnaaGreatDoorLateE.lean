/- Joined texts. -/
import Derived.Test.YtfnobbpbmelgnaaGreatDoorLateD
namespace Go.Proofs.YtfnobbpbmelgnaaGreatDoor
open Terms
set_option maxHeartbeats 6400000
set_option maxRecDepth 20000
theorem bit_clm (a:List Int) (h:Nat->Nat->Bool) (j:Nat):∀ n k,k < n->bitB (clmTo a h j n) k=h (a.getD k 0).toNat j:=by
 intro n
 induction n with
 | zero=>intro k hk;omega
 | succ n ih=>
  intro k hk;obtain ⟨b0,b1⟩:=clmTo_bounds a h j n;have hp:(0:Int) < 2 ^ k:=Int.pow_pos (by decide)
  by_cases e:k=n
  ·subst e
   have e1:clmTo a h j (k+1)=clmTo a h j k+if h (a.getD k 0).toNat j=true then 2 ^ k else 0:=rfl
   by_cases hb:h (a.getD k 0).toNat j=true
   ·rw [if_pos hb] at e1
    have:(clmTo a h j k+2 ^ k) / 2 ^ k=1:=by
     rw [show clmTo a h j k+2 ^ k=clmTo a h j k+1*2 ^ k by omega,Int.add_mul_ediv_right _ _ (by omega),Int.ediv_eq_zero_of_lt b0 b1]
     rfl
    rw [hb,e1];unfold bitB;rw [this];rfl
   ·rw [if_neg hb,Int.add_zero] at e1
    rw [e1,Bool.eq_false_iff.2 hb];unfold bitB;rw [Int.ediv_eq_zero_of_lt b0 b1];rfl
  ·have hkn:k < n:=by omega
   rw [<- ih k hkn];have e1:clmTo a h j (n+1)=clmTo a h j n+if h (a.getD n 0).toNat j=true then 2 ^ n else 0:=rfl
   by_cases hb:h (a.getD n 0).toNat j=true
   ·rw [if_pos hb] at e1
    obtain ⟨d,hd⟩:∃ d,n=k+1+d:=⟨n - (k+1),by omega⟩
    have e2:(2:Int) ^ n=(2*2 ^ d)*2 ^ k:=by rw [hd,Int.pow_add,Int.pow_succ];simp [Int.mul_comm,Int.mul_left_comm,Int.mul_assoc]
    have e3:clmTo a h j (n+1) / 2 ^ k % 2=clmTo a h j n / 2 ^ k % 2:=by
     rw [e1,e2,Int.add_mul_ediv_right _ _ (by omega)]
     omega
    unfold bitB;rw [e3]
   ·rw [if_neg hb,Int.add_zero] at e1
    rw [e1]
theorem op_at {T:Tm} {l:List (Int × Int)} (ho:T.ops=l) {q:Nat} (hq:q < T.size):l.getD q (0,0)=((T.sub q).kind,(T.sub q).val):=by
 obtain ⟨r,hr⟩:=Tm.sub_drop T q hq;rw [ho] at hr;have h0:l.getD q (0,0)=(l.drop q).getD 0 (0,0):=by simp [List.getD_eq_getElem?_getD]
 rw [h0,hr,<- Tm.ops_head (T.sub q) (0,0)];have hne:=Tm.ops_ne (T.sub q)
 cases hx:(T.sub q).ops with
 | nil=>exact absurd hx hne
 | cons x s=>simp
theorem sub_one {T:Tm} {q:Nat} {k v:Int} {a:Tm} (hq:q < T.size) (e:T.sub q=.un k v a):T.sub (q+1)=a:=by
 have:=Tm.sub_sub T q 1 hq (by rw [e];have:=a.size_pos;simp [Tm.size];omega)
 rw [this,e];exact Tm.sub_zero a
theorem sub_fst {T:Tm} {q:Nat} {k v:Int} {a b:Tm} (hq:q < T.size) (e:T.sub q=.bi k v a b):T.sub (q+1)=a:=by
 have ha:=a.size_pos;have:=Tm.sub_sub T q 1 hq (by rw [e];simp [Tm.size];omega)
 rw [this,e]
 show (if 0 < a.size then a.sub 0 else b.sub (0 - a.size))=a
 rw [if_pos (by omega),Tm.sub_zero]
theorem sub_snd {T:Tm} (hw:T.Wf) {l:List (Int × Int)} (ho:T.ops=l) {q:Nat} {k v:Int} {a b:Tm} (hq:q < T.size) (e:T.sub q=.bi k v a b):T.sub (sec l q)=b:=by
 have ha:=a.size_pos;have hb:=b.size_pos;have hf:=Tm.sub_fits T hq;rw [e] at hf;simp only [Tm.size] at hf;have h1:=(Tm.end_at hw (q:=q+1) (by omega)).1
 rw [ho,sub_fst hq e] at h1;have hs:sec l q=q+(1+a.size):=by unfold sec;rw [h1];omega
 rw [hs,Tm.sub_sub T q (1+a.size) hq (by rw [e];simp only [Tm.size];omega),e,show 1+a.size=a.size+1 by omega]
 show (if a.size < a.size then a.sub a.size else b.sub (a.size - a.size))=b
 rw [if_neg (by omega),Nat.sub_self,Tm.sub_zero]
theorem line_tru {T:Tm} (hw:T.Wf) {l:List (Int × Int)} (ho:T.ops=l) (hz:endsCode (l.map Prod.fst)=0) (σ:Nat->Nat->Bool) (letter:List Bool) (i:Nat) (hl:∀ v:Int,0 <= v->letter.getD v.toNat false=σ i v.toNat) (hv:∀ q,q < l.length->(l.getD q (0,0)).1=13->0 <= (l.getD q (0,0)).2) (h8:∀ q,q < l.length->8 <= (l.getD q (0,0)).1) :
  ∀ d p,l.length <= p+d->p < l.length->tru l letter (clmTo (aheadL l) (fun q=>(T.sub q).hb σ) i (aheadL l).length) p=(T.sub p).hb σ i:=by
 have hsz:T.size=l.length:=by rw [<- Tm.ops_length,ho]
 intro d
 induction d with
 | zero=>intro p h1 h2;omega
 | succ d ih=>
  intro p h1 h2;have hq:p < T.size:=by omega
  have hop:=op_at ho hq;obtain ⟨q1,q2⟩:=part_in hz h2
  cases hb:lookB (l.getD p (0,0)).1 with
  | true=>
   rw [tru_look h2 hb]
   have hlt:(aheadTo l p).length < (aheadL l).length:=by
    have:=aheadTo_mono l (p:=p+1) (n:=l.length) (by omega)
    rw [aheadTo_yes hb,List.length_append] at this;exact this
   rw [bit_clm _ _ _ _ _ hlt];obtain ⟨p',e1,e2,e3,e4⟩:=aheadTo_get l l.length (aheadTo l p).length hlt;have e1':(aheadL l).getD (aheadTo l p).length 0=(p':Int):=e1;rw [e1']
   have:p'=p:=by
    rcases Nat.lt_trichotomy p' p with h | h | h
    ·have:=aheadTo_mono l (p:=p' + 1) (n:=p) (by omega)
     rw [aheadTo_yes e3,List.length_append] at this;simp at this;omega
    ·exact h
    ·have:=aheadTo_mono l (p:=p+1) (n:=p') (by omega)
     rw [aheadTo_yes hb,List.length_append] at this;simp at this;omega
   rw [this];rfl
  | false=>
   rw [tru_mk h2 hb (fun h=>(q2 h).1)]
   have hwf:=Tm.sub_wf hw p;rw [hop] at hb q1 q2 ⊢;have hvp:=hv p h2;rw [hop] at hvp
   cases hT:T.sub p with
   | leaf k v=>
    rw [hT] at hb hvp hwf;simp only [Tm.kind,Tm.val] at hb hvp ⊢;unfold mkB
    by_cases k13:k=13
    ·subst k13
     rw [if_pos rfl,Tm.hb_prop];exact hl v (hvp rfl)
    ·by_cases k11:k=11
     ·subst k11
      rw [Tm.hb_yes];rfl
     ·rw [Tm.hb_no _ _ _ k13 k11]
      have hpn:pn k=0:=hwf.2;have k8:k≠8:=fun e=>by rw [e] at hpn;exact absurd hpn (by decide)
      have k9:k≠9:=fun e=>by rw [e] at hpn;exact absurd hpn (by decide)
      have k10:k≠10:=fun e=>by rw [e] at hpn;exact absurd hpn (by decide)
      simp [k13,k11,k8,k9,k10]
   | un k v a=>
    have hs1:=sub_one hq hT;rw [hT] at hb hwf q1;simp only [Tm.kind,Tm.val] at hb q1 ⊢;have hpn:pn k=1:=hwf.2.1;have hok:okK k=true:=hwf.1
    have hk:k=10:=by
     have h14:¬ (14 <= k/\k <= 18):=by simpa [lookB] using hb
     unfold pn at hpn
     split at hpn
     ·omega
     ·split at hpn <;> omega
    subst hk;rw [ih (p+1) (by omega) (q1 (by rw [hpn];exact Nat.le_refl _)),hs1,Tm.hb_not]
    rfl
   | bi k v a b=>
    have hs1:=sub_fst hq hT;have hs2:=sub_snd hw ho hq hT;have h8p:=h8 p h2;rw [hop,hT] at h8p;rw [hT] at hb hwf q1 q2;simp only [Tm.kind,Tm.val] at hb q1 q2 ⊢;have hpn:pn k=2:=hwf.2.1;rw [ih (p+1) (by omega) (q1 (by omega)),ih (sec l p) (by have:=(q2 hpn).1;omega) (q2 hpn).2,hs1,hs2]
    simp only [Tm.kind] at h8p
    have hk:k=8\/k=9:=by
     have h14:¬ (14 <= k/\k <= 18):=by simpa [lookB] using hb
     unfold pn at hpn
     split at hpn
     ·omega
     ·split at hpn <;> omega
    rcases hk with rfl | rfl
    ·rw [Tm.hb_and];rfl
    ·rw [Tm.hb_or];rfl
theorem kind_cases {k:Int} (h:lookB k=true):k=14\/k=15\/k=16\/k=17\/k=18:=by
 have:14 <= k/\k <= 18:=by simpa [lookB] using h
 omega
theorem look_parts {T:Tm} (hw:T.Wf) {l:List (Int × Int)} (ho:T.ops=l) {p:Nat} (hp:p < l.length) (hb:lookB (l.getD p (0,0)).1=true) :
  (∃ k v a,(k=14\/k=17\/k=18)/\(l.getD p (0,0)).1=k/\T.sub p=.un k v a/\T.sub (p+1)=a)\/(∃ k v a b,(k=15\/k=16)/\(l.getD p (0,0)).1=k/\T.sub p=.bi k v a b/\T.sub (p+1)=a/\T.sub (sec l p)=b):=by
 have hsz:T.size=l.length:=by rw [<- Tm.ops_length,ho]
 have hq:p < T.size:=by omega
 have hop:=op_at ho hq;have hwf:=Tm.sub_wf hw p;have hk:=kind_cases hb;rw [hop] at hk ⊢
 cases hT:T.sub p with
 | leaf k v=>
  rw [hT] at hk hwf;have hpn:pn k=0:=hwf.2;simp only [Tm.kind] at hk
  exfalso
  rcases hk with rfl | rfl | rfl | rfl | rfl <;> exact absurd hpn (by decide)
 | un k v a=>
  have h1:=sub_one hq hT;rw [hT] at hk hwf;have hpn:pn k=1:=hwf.2.1;simp only [Tm.kind] at hk ⊢
  left
  refine ⟨k,v,a,?_,rfl,rfl,h1⟩
  rcases hk with rfl | rfl | rfl | rfl | rfl
  ·exact .inl rfl
  ·exact absurd hpn (by decide)
  ·exact absurd hpn (by decide)
  ·exact .inr (.inl rfl)
  ·exact .inr (.inr rfl)
 | bi k v a b=>
  have h1:=sub_fst hq hT;have h2:=sub_snd hw ho hq hT;rw [hT] at hk hwf;have hpn:pn k=2:=hwf.2.1;simp only [Tm.kind] at hk ⊢
  right
  refine ⟨k,v,a,b,?_,rfl,rfl,h1,h2⟩
  rcases hk with rfl | rfl | rfl | rfl | rfl
  ·exact absurd hpn (by decide)
  ·exact .inl rfl
  ·exact .inr rfl
  ·exact absurd hpn (by decide)
  ·exact absurd hpn (by decide)
theorem line_come {T:Tm} (hw:T.Wf) {l:List (Int × Int)} (ho:T.ops=l) (σ:Nat->Nat->Bool) {p:Nat} (hp:p < l.length) (hb:lookB (l.getD p (0,0)).1=true) (i:Nat) :
  (T.sub p).hb σ i=comeB (l.getD p (0,0)).1 ((T.sub (p+1)).hb σ i) ((T.sub (sec l p)).hb σ i) ((T.sub p).hb σ (i+1)) ((T.sub (p+1)).hb σ (i+1)):=by
 rcases look_parts hw ho hp hb with ⟨k,v,a,hk,e1,e2,e3⟩ | ⟨k,v,a,b,hk,e1,e2,e3,e4⟩
 ·rw [e1,e2,e3]
  rcases hk with rfl | rfl | rfl
  ·rw [Tm.hb_next];rfl
  ·rw [Tm.hb_fin,untB_step,<- Tm.hb_fin σ v];simp [comeB]
  ·rw [Tm.hb_glob,untB_step,<- Tm.hb_glob σ v];simp [comeB]
 ·rw [e1,e2,e3,e4]
  rcases hk with rfl | rfl
  ·rw [Tm.hb_until,untB_step,<- Tm.hb_until σ v];rfl
  ·rw [Tm.hb_rel,untB_step,<- Tm.hb_rel σ v]
   show (_||_)=(_&&(_||_))
   cases Tm.hb σ a i <;> cases Tm.hb σ b i <;> simp
theorem line_meets {T:Tm} (hw:T.Wf) {l:List (Int × Int)} (ho:T.ops=l) {ls:List (List Bool)} {s:Nat} (hs:s < ls.length) {p:Nat} (hp:p < l.length) (hb:lookB (l.getD p (0,0)).1=true) :
  ∃ i,s <= i/\i < ls.length/\waitB (l.getD p (0,0)).1 ((T.sub p).hb (sig ls s) i) ((T.sub (p+1)).hb (sig ls s) i) ((T.sub (sec l p)).hb (sig ls s) i)=false:=by
 refine Classical.byContradiction fun hno=>?_
 have hall:∀ i,s <= i->waitB (l.getD p (0,0)).1 ((T.sub p).hb (sig ls s) i) ((T.sub (p+1)).hb (sig ls s) i) ((T.sub (sec l p)).hb (sig ls s) i)=true:=fun i hi=>by
  have hm:s <= moAt s ls.length i/\moAt s ls.length i < ls.length:=⟨by unfold moAt;split <;> omega,moAt_lt hs⟩
  refine Classical.byContradiction fun hf=>hno ⟨moAt s ls.length i,hm.1,hm.2,?_⟩
  rw [hb_mo hs,hb_mo hs,hb_mo hs];exact Bool.eq_false_iff.2 hf
 rcases look_parts hw ho hp hb with ⟨k,v,a,hk,e1,e2,e3⟩ | ⟨k,v,a,b,hk,e1,e2,e3,e4⟩
 ·rw [e1,e2,e3] at hall
  rcases hk with rfl | rfl | rfl
  ·exact absurd (hall s (Nat.le_refl _)) (by simp [waitB])
  ·have h1:∀ i,s <= i->Tm.hb (sig ls s) (.un 17 v a) i=true/\Tm.hb (sig ls s) a i=false:=fun i hi=>by simpa [waitB] using hall i hi
   have h0:=(h1 s (Nat.le_refl _)).1;rw [Tm.hb_fin,untB_iff] at h0
   rcases h0 with ⟨j,hj,hu,_⟩ | ⟨hd,_⟩
   ·rw [(h1 j hj).2] at hu;cases hu
   ·cases hd
  ·have h1:∀ i,s <= i->Tm.hb (sig ls s) (.un 18 v a) i=false/\Tm.hb (sig ls s) a i=true:=fun i hi=>by simpa [waitB] using hall i hi
   have h0:=(h1 s (Nat.le_refl _)).1
   have:Tm.hb (sig ls s) (.un 18 v a) s=true:=by
    rw [Tm.hb_glob,untB_iff];exact .inr ⟨rfl,fun m hm=>(h1 m hm).2⟩
   rw [this] at h0;cases h0
 ·rw [e1,e2,e3,e4] at hall
  rcases hk with rfl | rfl
  ·have h1:∀ i,s <= i->Tm.hb (sig ls s) (.bi 15 v a b) i=true/\Tm.hb (sig ls s) b i=false:=fun i hi=>by simpa [waitB] using hall i hi
   have h0:=(h1 s (Nat.le_refl _)).1;rw [Tm.hb_until,untB_iff] at h0
   rcases h0 with ⟨j,hj,hu,_⟩ | ⟨hd,_⟩
   ·rw [(h1 j hj).2] at hu;cases hu
   ·cases hd
  ·have h1:∀ i,s <= i->Tm.hb (sig ls s) (.bi 16 v a b) i=false/\Tm.hb (sig ls s) b i=true:=fun i hi=>by simpa [waitB] using hall i hi
   have h0:=(h1 s (Nat.le_refl _)).1
   have:Tm.hb (sig ls s) (.bi 16 v a b) s=true:=by
    rw [Tm.hb_rel,untB_iff];exact .inr ⟨rfl,fun m hm=>(h1 m hm).2⟩
   rw [this] at h0;cases h0
theorem const_from {t:Nat->Bool} {i j:Nat} (h:∀ m,i <= m->m < j->t m=t (m+1)):∀ m,i <= m->m <= j->t i=t m:=by
 intro m
 induction m with
 | zero=>intro h1 _;rw [Nat.le_zero.1 h1]
 | succ m ih=>
  intro h1 h2
  by_cases e:i=m+1
  ·rw [e]
  ·rw [ih (by omega) (by omega),h m (by omega) (by omega)]
theorem unt_unique {u v t:Nat->Bool} (d:Bool) (hst:∀ i,t i=(u i||(v i&&t (i+1)))) (i:Nat):t i=untB u v d i\/∀ m,i <= m->u m=false/\v m=true/\t m=!d:=by
  by_cases hex:∃ j,i <= j/\(u j=true\/v j=false)
  · left
    obtain ⟨j0,h0,h1⟩:=hex;obtain ⟨j,hj,hp,hless⟩:=Tm.least (P:=fun j=>u j=true\/v j=false) i j0 h0 h1
    have hmid:∀ m,i <= m->m < j->u m=false/\v m=true:=fun m a b=>by
      have:=hless m a b
      constructor
      · exact Bool.eq_false_iff.2 fun e=>this (.inl e)
      · exact Classical.byContradiction fun e=>this (.inr (Bool.eq_false_iff.2 e))
    have h1:=const_from (t:=t) (i:=i) (j:=j) (fun m a b=>by have:=hmid m a b;rw [hst m,this.1,this.2];simp) j hj (Nat.le_refl _)
    have h2:=const_from (t:=untB u v d) (i:=i) (j:=j) (fun m a b=>by have:=hmid m a b;rw [untB_step u v d m,this.1,this.2];simp) j hj (Nat.le_refl _)
    rw [h1,h2,hst j,untB_step]
    rcases hp with h | h
    · rw [h];simp
    · rw [h];simp
  · have hall:∀ m,i <= m->u m=false/\v m=true:=fun m hm=>by
      constructor
      · exact Bool.eq_false_iff.2 fun e=>hex ⟨m,hm,.inl e⟩
      · exact Classical.byContradiction fun e=>hex ⟨m,hm,.inr (Bool.eq_false_iff.2 e)⟩
    have hc:∀ m,i <= m->t i=t m:=fun m hm=>const_from (t:=t) (i:=i) (j:=m) (fun k a _=>by have:=hall k a;rw [hst k,this.1,this.2];simp) m hm (Nat.le_refl _)
    by_cases e:t i=d
    · left
      rw [e,unt_stuck (u:=u) (v:=v) (d:=d) hall]
    · right
      intro m hm;refine ⟨(hall m hm).1,(hall m hm).2,?_⟩
      rw [<- hc m hm];generalize t i=x at e
      cases d <;> cases x <;> first | rfl | exact absurd rfl e
theorem line_only {T:Tm} (hw:T.Wf) {l:List (Int × Int)} (ho:T.ops=l) (hz:endsCode (l.map Prod.fst)=0) {ls:List (List Bool)} {s:Nat} (hs:s < ls.length) (t:Nat->Nat->Bool)
  (hper:∀ i p,t (moAt s ls.length i) p=t i p)
  (hmk:∀ i p,p < l.length->lookB (l.getD p (0,0)).1=false->(1 <= pn (l.getD p (0,0)).1->t i (p+1)=(T.sub (p+1)).hb (sig ls s) i)->(pn (l.getD p (0,0)).1=2->t i (sec l p)=(T.sub (sec l p)).hb (sig ls s) i)->t i p=(T.sub p).hb (sig ls s) i)
  (hfol:∀ i p,p < l.length->lookB (l.getD p (0,0)).1=true->t i p=comeB (l.getD p (0,0)).1 (t i (p+1)) (t i (sec l p)) (t (i+1) p) (t (i+1) (p+1)))
  (hmet:∀ p,p < l.length->lookB (l.getD p (0,0)).1=true->∃ i,s <= i/\i < ls.length/\waitB (l.getD p (0,0)).1 (t i p) (t i (p+1)) (t i (sec l p))=false) :
  ∀ d p,l.length <= p+d->p < l.length->∀ i,t i p=(T.sub p).hb (sig ls s) i:=by
 intro d
 induction d with
 | zero=>intro p h1 h2;omega
 | succ d ih=>
  intro p h1 h2 i;obtain ⟨q1,q2⟩:=part_in hz h2
  cases hb:lookB (l.getD p (0,0)).1 with
  | false=>exact hmk i p h2 hb (fun h=>ih (p+1) (by omega) (q1 h) i) (fun h=>ih (sec l p) (by have:=(q2 h).1;omega) (q2 h).2 i)
  | true=>
   have hnw:∀ c,(∀ m,c <= m->waitB (l.getD p (0,0)).1 (t m p) (t m (p+1)) (t m (sec l p))=true)->False:=fun c hall=>by
    obtain ⟨i0,a1,a2,a3⟩:=hmet p h2 hb
    have hj:moAt s ls.length (i0+c*(ls.length - s))=i0:=by
     unfold moAt
     split
     ·rename_i hlt
      have:c*(ls.length - s)=0:=by
       rcases Nat.eq_zero_or_pos c with h | h
       ·rw [h,Nat.zero_mul]
       ·have:ls.length - s <= c*(ls.length - s):=Nat.le_mul_of_pos_left _ h
        omega
      omega
     ·rw [show i0+c*(ls.length - s) - s=(i0 - s)+c*(ls.length - s) by omega,Nat.add_mul_mod_self_right,Nat.mod_eq_of_lt (by omega)]
      omega
    have hle:c <= i0+c*(ls.length - s):=by
     have:c*1 <= c*(ls.length - s):=Nat.mul_le_mul_left _ (by omega)
     omega
    have:=hall _ hle;rw [<- hper (i0+c*(ls.length - s)) p,<- hper (i0+c*(ls.length - s)) (p+1),<- hper (i0+c*(ls.length - s)) (sec l p),hj,a3] at this
    cases this
   rcases look_parts hw ho h2 hb with ⟨k,v,a,hk,e1,e2,e3⟩ | ⟨k,v,a,b,hk,e1,e2,e3,e4⟩
   ·have hp1:p+1 < l.length:=q1 (by rw [e1];rcases hk with rfl | rfl | rfl <;> decide)
    have ha:∀ i,t i (p+1)=Tm.hb (sig ls s) a i:=fun i=>by rw [ih (p+1) (by omega) hp1 i,e3]
    have hf:=fun i=>hfol i p h2 hb
    rw [e1] at hnw;rw [e2]
    rcases hk with rfl | rfl | rfl
    ·have:=hf i
     rw [e1] at this;rw [this,Tm.hb_next,<- ha];rfl
    ·rw [Tm.hb_fin]
     rcases unt_unique (u:=Tm.hb (sig ls s) a) (v:=fun _=>true) (t:=fun i=>t i p) false (fun i=>by show t i p=_;rw [hf i,e1,ha];rfl) i with h | h
     ·exact h
     ·exact (hnw i fun m hm=>by have:=h m hm;rw [ha,this.1,this.2.2];rfl).elim
    ·rw [Tm.hb_glob]
     rcases unt_unique (u:=fun _=>false) (v:=Tm.hb (sig ls s) a) (t:=fun i=>t i p) true (fun i=>by show t i p=_;rw [hf i,e1,ha];simp [comeB]) i with h | h
     ·exact h
     ·exact (hnw i fun m hm=>by have:=h m hm;rw [ha,this.2.1,this.2.2];rfl).elim
   ·have hp2:pn (l.getD p (0,0)).1=2:=by rw [e1];rcases hk with rfl | rfl <;> rfl
    have hp1:p+1 < l.length:=q1 (by omega)
    have ha:∀ i,t i (p+1)=Tm.hb (sig ls s) a i:=fun i=>by rw [ih (p+1) (by omega) hp1 i,e3]
    have hbb:∀ i,t i (sec l p)=Tm.hb (sig ls s) b i:=fun i=>by rw [ih (sec l p) (by have:=(q2 hp2).1;omega) (q2 hp2).2 i,e4]
    have hf:=fun i=>hfol i p h2 hb
    rw [e1] at hnw;rw [e2]
    rcases hk with rfl | rfl
    ·rw [Tm.hb_until]
     rcases unt_unique (u:=Tm.hb (sig ls s) b) (v:=Tm.hb (sig ls s) a) (t:=fun i=>t i p) false (fun i=>by show t i p=_;rw [hf i,e1,ha,hbb];rfl) i with h | h
     ·exact h
     ·exact (hnw i fun m hm=>by have:=h m hm;rw [hbb,this.1,this.2.2];cases t m (p+1) <;> rfl).elim
    ·rw [Tm.hb_rel]
     rcases unt_unique (u:=fun j=>Tm.hb (sig ls s) a j&&Tm.hb (sig ls s) b j) (v:=Tm.hb (sig ls s) b) (t:=fun i=>t i p) true (fun i=>by show t i p=_;rw [hf i,e1,ha,hbb];show (_&&(_||_))=(_||_);cases Tm.hb (sig ls s) a i <;> cases Tm.hb (sig ls s) b i <;> simp) i with h | h
     ·exact h
     ·exact (hnw i fun m hm=>by have:=h m hm;rw [hbb,this.2.1,this.2.2];cases t m (p+1) <;> rfl).elim
theorem mk_hb {T:Tm} (hw:T.Wf) {l:List (Int × Int)} (ho:T.ops=l) (σ:Nat->Nat->Bool) (letter:List Bool) (i:Nat) (hl:∀ v:Int,0 <= v->letter.getD v.toNat false=σ i v.toNat) (hv:∀ q,q < l.length->(l.getD q (0,0)).1=13->0 <= (l.getD q (0,0)).2) (h8:∀ q,q < l.length->8 <= (l.getD q (0,0)).1) {p:Nat} (h2:p < l.length) (hb:lookB (l.getD p (0,0)).1=false) {x y:Bool} (hx1:1 <= pn (l.getD p (0,0)).1->x=(T.sub (p+1)).hb σ i) (hx2:pn (l.getD p (0,0)).1=2->y=(T.sub (sec l p)).hb σ i):mkB (l.getD p (0,0)) letter x y=(T.sub p).hb σ i:=by
 have hsz:T.size=l.length:=by rw [<- Tm.ops_length,ho]
 have hq:p < T.size:=by omega
 have hop:=op_at ho hq;have hwf:=Tm.sub_wf hw p;rw [hop] at hb hx1 hx2 ⊢;have hvp:=hv p h2;rw [hop] at hvp
 cases hT:T.sub p with
 | leaf k v=>
  rw [hT] at hb hvp hwf;simp only [Tm.kind,Tm.val] at hb hvp ⊢;unfold mkB
  by_cases k13:k=13
  ·subst k13
   rw [if_pos rfl,Tm.hb_prop];exact hl v (hvp rfl)
  ·by_cases k11:k=11
   ·subst k11
    rw [Tm.hb_yes];rfl
   ·rw [Tm.hb_no _ _ _ k13 k11]
    have hpn:pn k=0:=hwf.2;have k8:k≠8:=fun e=>by rw [e] at hpn;exact absurd hpn (by decide)
    have k9:k≠9:=fun e=>by rw [e] at hpn;exact absurd hpn (by decide)
    have k10:k≠10:=fun e=>by rw [e] at hpn;exact absurd hpn (by decide)
    simp [k13,k11,k8,k9,k10]
 | un k v a=>
  have hs1:=sub_one hq hT;rw [hT] at hb hwf hx1;simp only [Tm.kind,Tm.val] at hb hx1 ⊢;have hpn:pn k=1:=hwf.2.1;have hok:okK k=true:=hwf.1
  have hk:k=10:=by
   have h14:¬ (14 <= k/\k <= 18):=by simpa [lookB] using hb
   unfold pn at hpn
   split at hpn
   ·omega
   ·split at hpn <;> omega
  subst hk;rw [hx1 (by rw [hpn];exact Nat.le_refl _),hs1,Tm.hb_not]
  rfl
 | bi k v a b=>
  have hs1:=sub_fst hq hT;have hs2:=sub_snd hw ho hq hT;have h8p:=h8 p h2;rw [hop,hT] at h8p;rw [hT] at hb hwf hx1 hx2;simp only [Tm.kind,Tm.val] at hb hx1 hx2 ⊢;have hpn:pn k=2:=hwf.2.1;rw [hx1 (by omega),hx2 hpn,hs1,hs2]
  simp only [Tm.kind] at h8p
  have hk:k=8\/k=9:=by
   have h14:¬ (14 <= k/\k <= 18):=by simpa [lookB] using hb
   unfold pn at hpn
   split at hpn
   ·omega
   ·split at hpn <;> omega
  rcases hk with rfl | rfl
  ·rw [Tm.hb_and];rfl
  ·rw [Tm.hb_or];rfl
theorem bits_eq:∀ (n:Nat) (x y:Int),0 <= x->x < 2 ^ n->0 <= y->y < 2 ^ n->(∀ k,k < n->bitB x k=bitB y k)->x=y:=by
 intro n
 induction n with
 | zero=>intro x y a b c d _;simp at b d;omega
 | succ n ih=>
  intro x y a b c d h;rw [Int.pow_succ] at b d;have h0:bitB x 0=bitB y 0:=h 0 (by omega)
  have e0:x % 2=y % 2:=by
   unfold bitB at h0;simp only [Int.pow_zero,Int.ediv_one] at h0;have hx:x % 2=0\/x % 2=1:=by omega
   have hy:y % 2=0\/y % 2=1:=by omega
   rcases hx with hx | hx <;> rcases hy with hy | hy
   ·rw [hx,hy]
   ·rw [hx,hy] at h0;simp at h0
   ·rw [hx,hy] at h0;simp at h0
   ·rw [hx,hy]
  have hh:x / 2=y / 2:=ih (x / 2) (y / 2) (by omega) (by omega) (by omega) (by omega) fun k hk=>by
   have:=h (k+1) (by omega)
   unfold bitB at this ⊢;rw [Int.pow_succ,Int.mul_comm,<- Int.ediv_ediv_of_nonneg (by decide),<- Int.ediv_ediv_of_nonneg (by decide)] at this
   exact this
  omega
theorem claims_only {T:Tm} (hw:T.Wf) {l:List (Int × Int)} (ho:T.ops=l) (hz:endsCode (l.map Prod.fst)=0) (hv:∀ q,q < l.length->(l.getD q (0,0)).1=13->0 <= (l.getD q (0,0)).2) (h8:∀ q,q < l.length->8 <= (l.getD q (0,0)).1) {ls:List (List Bool)} {s:Nat} (hs:s < ls.length) (mine:Nat->Int)
  (hm:∀ i,i < ls.length->0 <= mine i/\mine i < 2 ^ (aheadL l).length)
  (hfol:∀ i,i < ls.length->∀ p,p < l.length->lookB (l.getD p (0,0)).1=true->tru l (ls.getD i []) (mine i) p=comeB (l.getD p (0,0)).1 (tru l (ls.getD i []) (mine i) (p+1)) (tru l (ls.getD i []) (mine i) (sec l p)) (tru l (ls.getD (moAt s ls.length (i+1)) []) (mine (moAt s ls.length (i+1))) p) (tru l (ls.getD (moAt s ls.length (i+1)) []) (mine (moAt s ls.length (i+1))) (p+1)))
  (hmet:∀ p,p < l.length->lookB (l.getD p (0,0)).1=true->∃ i,s <= i/\i < ls.length/\waitB (l.getD p (0,0)).1 (tru l (ls.getD i []) (mine i) p) (tru l (ls.getD i []) (mine i) (p+1)) (tru l (ls.getD i []) (mine i) (sec l p))=false) :
  ∀ i,i < ls.length->mine i=clmTo (aheadL l) (fun q=>(T.sub q).hb (sig ls s)) i (aheadL l).length:=by
 have hmm:∀ i,moAt s ls.length (moAt s ls.length i)=moAt s ls.length i:=fun i=>moAt_low (moAt_lt hs)
 have key:=line_only hw ho hz hs (fun i p=>tru l (ls.getD (moAt s ls.length i) []) (mine (moAt s ls.length i)) p)
  (fun i p=>by simp only [hmm])
  (fun i p h2 hb hx1 hx2=>by
   obtain ⟨_,q2⟩:=part_in hz h2
   show tru _ _ _ _=_
   rw [tru_mk h2 hb (fun h=>(q2 h).1)]
   exact mk_hb hw ho (sig ls s) _ i (fun v _=>rfl) hv h8 h2 hb hx1 hx2)
  (fun i p h2 hb=>by
   have:=hfol (moAt s ls.length i) (moAt_lt hs) p h2 hb
   have e:moAt s ls.length (moAt s ls.length i+1)=moAt s ls.length (i+1):=by
    unfold moAt
    by_cases h:i < ls.length
    ·rw [if_pos h]
    ·rw [if_neg h,if_neg (show ¬ i+1 < ls.length by omega)]
     have hL:0 < ls.length - s:=by omega
     have hr:=Nat.mod_lt (i - s) hL;have e1:i+1 - s=(i - s)+1:=by omega
     rw [e1,<- Nat.mod_add_mod]
     by_cases h3:s+(i - s) % (ls.length - s)+1 < ls.length
     ·rw [if_pos h3,Nat.mod_eq_of_lt (show (i - s) % (ls.length - s)+1 < ls.length - s by omega)];omega
     ·rw [if_neg h3,show s+(i - s) % (ls.length - s)+1 - s=(i - s) % (ls.length - s)+1 by omega]
   rw [e] at this
   exact this)
  (fun p h2 hb=>by
   obtain ⟨i,a1,a2,a3⟩:=hmet p h2 hb
   exact ⟨i,a1,a2,by simp only [moAt_low a2];exact a3⟩)
 intro i hi;obtain ⟨c0,c1⟩:=clmTo_bounds (aheadL l) (fun q=>(T.sub q).hb (sig ls s)) i (aheadL l).length
 refine bits_eq _ _ _ (hm i hi).1 (hm i hi).2 c0 c1 fun k hk=>?_
 rw [bit_clm _ _ _ _ _ hk];obtain ⟨p,e1,e2,e3,e4⟩:=aheadTo_get l l.length k hk;have e1':(aheadL l).getD k 0=(p:Int):=e1;have:=key l.length p (by omega) e2 i
 simp only [moAt_low hi] at this;rw [tru_look e2 e3,e4] at this;rw [this,e1'];rfl
theorem claims_tru {T:Tm} (hw:T.Wf) {l:List (Int × Int)} (ho:T.ops=l) (hz:endsCode (l.map Prod.fst)=0) (hv:∀ q,q < l.length->(l.getD q (0,0)).1=13->0 <= (l.getD q (0,0)).2) (h8:∀ q,q < l.length->8 <= (l.getD q (0,0)).1) {ls:List (List Bool)} {s:Nat} {i:Nat} (hi:i < ls.length) {p:Nat} (hp:p < l.length) :
  tru l (ls.getD i []) (clmTo (aheadL l) (fun q=>(T.sub q).hb (sig ls s)) i (aheadL l).length) p=(T.sub p).hb (sig ls s) i:=
 line_tru hw ho hz (sig ls s) _ i (fun v _=>by unfold sig;rw [moAt_low hi]) hv h8 l.length p (by omega) hp
theorem claims_fit {T:Tm} (hw:T.Wf) {l:List (Int × Int)} (ho:T.ops=l) (hz:endsCode (l.map Prod.fst)=0) (hv:∀ q,q < l.length->(l.getD q (0,0)).1=13->0 <= (l.getD q (0,0)).2) (h8:∀ q,q < l.length->8 <= (l.getD q (0,0)).1) {ls:List (List Bool)} {s:Nat} (hs:s < ls.length) (mine:Nat->Int)
  (hm:∀ i,i < ls.length->mine i=clmTo (aheadL l) (fun q=>(T.sub q).hb (sig ls s)) i (aheadL l).length) :
  (∀ i,i < ls.length->∀ p,p < l.length->lookB (l.getD p (0,0)).1=true->tru l (ls.getD i []) (mine i) p=comeB (l.getD p (0,0)).1 (tru l (ls.getD i []) (mine i) (p+1)) (tru l (ls.getD i []) (mine i) (sec l p)) (tru l (ls.getD (moAt s ls.length (i+1)) []) (mine (moAt s ls.length (i+1))) p) (tru l (ls.getD (moAt s ls.length (i+1)) []) (mine (moAt s ls.length (i+1))) (p+1)))/\
  ∀ p,p < l.length->lookB (l.getD p (0,0)).1=true->∃ i,s <= i/\i < ls.length/\waitB (l.getD p (0,0)).1 (tru l (ls.getD i []) (mine i) p) (tru l (ls.getD i []) (mine i) (p+1)) (tru l (ls.getD i []) (mine i) (sec l p))=false:=by
 have two:∀ p,p < l.length->lookB (l.getD p (0,0)).1=true->p+1 < l.length/\((l.getD p (0,0)).1=15\/(l.getD p (0,0)).1=16->sec l p < l.length):=fun p hp hb=>by
  obtain ⟨q1,q2⟩:=part_in hz hp;have hk:=kind_cases hb;generalize (l.getD p (0,0)).1=k at *;refine ⟨q1 (by rcases hk with rfl | rfl | rfl | rfl | rfl <;> decide),fun h=>(q2 (by rcases h with rfl | rfl <;> rfl)).2⟩
 have sec_free:∀ k (x y y' z nx:Bool),lookB k=true->(k=15\/k=16->y=y')->comeB k x y z nx=comeB k x y' z nx:=fun k x y y' z nx hb h=>by
  rcases kind_cases hb with rfl | rfl | rfl | rfl | rfl
  ·rfl
  ·rw [h (.inl rfl)]
  ·rw [h (.inr rfl)]
  ·rfl
  ·rfl
 have sec_free2:∀ k (a x y y':Bool),lookB k=true->(k=15\/k=16->y=y')->waitB k a x y=waitB k a x y':=fun k a x y y' hb h=>by
  rcases kind_cases hb with rfl | rfl | rfl | rfl | rfl
  ·rfl
  ·rw [h (.inl rfl)]
  ·rw [h (.inr rfl)]
  ·rfl
  ·rfl
 refine ⟨fun i hi p hp hb=>?_,fun p hp hb=>?_⟩
 ·obtain ⟨p1,p2⟩:=two p hp hb
  have hj:=moAt_lt (s:=s) (n:=ls.length) (i:=i+1) hs;rw [hm i hi,hm _ hj,claims_tru hw ho hz hv h8 hi hp,claims_tru hw ho hz hv h8 hi p1,claims_tru hw ho hz hv h8 hj hp,claims_tru hw ho hz hv h8 hj p1,hb_mo hs,hb_mo hs];rw [sec_free _ _ _ ((T.sub (sec l p)).hb (sig ls s) i) _ _ hb (fun h=>claims_tru hw ho hz hv h8 hi (p2 h))]
  exact line_come hw ho (sig ls s) hp hb i
 ·obtain ⟨p1,p2⟩:=two p hp hb
  obtain ⟨i,a1,a2,a3⟩:=line_meets hw ho hs hp hb;refine ⟨i,a1,a2,?_⟩
  rw [hm i a2,claims_tru hw ho hz hv h8 a2 hp,claims_tru hw ho hz hv h8 a2 p1,sec_free2 _ _ _ _ ((T.sub (sec l p)).hb (sig ls s) i) hb (fun h=>claims_tru hw ho hz hv h8 a2 (p2 h))]
  exact a3
end Go.Proofs.YtfnobbpbmelgnaaGreatDoor
namespace Go.Proofs.YtfnobbpbmelgnaaGreatDoor
open Go.ChangeShapes Go.WideShapes Go.ChangeAt Go.RowKit Go.Deep
open Terms
set_option maxHeartbeats 6400000
set_option maxRecDepth 20000
theorem met_clm (l:List (Int × Int)) (h:Nat->Bool):∀ k,metTo l h k=clmTo (aheadL l) (fun q _=>!waitAt l h q) 0 k:=by
 intro k
 induction k with
 | zero=>simp [metTo,clmTo]
 | succ k ih=>
  simp only [metTo,clmTo,ih]
  by_cases hw:waitAt l h ((aheadL l).getD k 0).toNat=true
  ·rw [if_pos hw,if_neg (by rw [hw];decide)]
  ·rw [if_neg hw,if_pos (by rw [Bool.not_eq_true'] ;exact Bool.eq_false_iff.2 hw)]
theorem met_bit (l:List (Int × Int)) (h:Nat->Bool) {n j:Nat} (hj:j < n):bitB (metTo l h n) j=!waitAt l h ((aheadL l).getD j 0).toNat:=by
 rw [met_clm,bit_clm _ _ _ _ _ hj]
theorem ahead_mono (l:List (Int × Int)):∀ (d n:Nat),∃ r,aheadTo l (n+d)=aheadTo l n++r:=by
 intro d
 induction d with
 | zero=>intro n;exact ⟨[],by simp⟩
 | succ d ih=>
  intro n;obtain ⟨r,h⟩:=ih n;rw [show n+(d+1)=(n+d)+1 by omega]
  simp only [aheadTo]
  split
  ·exact ⟨r++[((n+d:Nat):Int)],by rw [h,List.append_assoc]⟩
  ·exact ⟨r,by rw [List.append_nil];exact h⟩
theorem ahead_at {l:List (Int × Int)} {p:Nat} (hp:p < l.length) (hb:lookB (l.getD p (0,0)).1=true):(aheadTo l p).length < (aheadL l).length/\(aheadL l).getD (aheadTo l p).length 0=(p:Int):=by
 obtain ⟨r,h⟩:=ahead_mono l (l.length - (p+1)) (p+1);rw [show p+1+(l.length - (p+1))=l.length by omega] at h
 have h1:aheadTo l (p+1)=aheadTo l p++[(p:Int)]:=by simp only [aheadTo];rw [if_pos hb]
 unfold aheadL;rw [h,h1];refine ⟨by simp,?_⟩
 simp [List.getD_eq_getElem?_getD]
section
variable {o : Oper} {a : Act} {w : World} {Q : Exit -> Act -> World -> Prop}
end
end Go.Proofs.YtfnobbpbmelgnaaGreatDoor
namespace Go.Proofs.YtfnobbpbmelgnaaGreatDoor
set_option maxHeartbeats 6400000
set_option maxRecDepth 20000
section
variable {nx : Int -> List Int} {A W : Int -> Prop}
end
section
variable {f g : Nat -> Bool} {N c : Nat}
end
section
variable {nx : Int -> List Int} {A W : Int -> Prop} {N c : Nat} {f : Nat -> Bool}
end
end Go.Proofs.YtfnobbpbmelgnaaGreatDoor
namespace Go.Proofs.YtfnobbpbmelgnaaGreatDoor
open Go.ChangeShapes Go.WideShapes Go.ChangeAt Go.RowKit Go.Deep Go.Maps
open Terms Tm
set_option maxHeartbeats 6400000
set_option maxRecDepth 20000
end Go.Proofs.YtfnobbpbmelgnaaGreatDoor
namespace Go.Proofs.YtfnobbpbmelgnaaGreatDoor
open Terms Tm
set_option maxHeartbeats 6400000
set_option maxRecDepth 20000
end Go.Proofs.YtfnobbpbmelgnaaGreatDoor
namespace Go.Proofs.YtfnobbpbmelgnaaGreatDoor
open Go.ChangeShapes Go.WideShapes Go.ChangeAt Go.RowKit Go.Deep
open Terms Tm
set_option maxHeartbeats 6400000
set_option maxRecDepth 20000
section
variable {a b : Vr} {rules : List Ru} {c : Int} (hG : GV a b) (hc : 0 <= c /\ c < vspan a * vspan b) (h5 : rules.length <= 5) (hr : ∀ j, j < rules.length -> rcode 2 (rules.getD j ru0) = 0)
include hG hc h5 hr
end
end Go.Proofs.YtfnobbpbmelgnaaGreatDoor
/-
  Rules that are copied and put together anew: how they lie; literals; operations of a region in whatever order.
-/
namespace Go.Proofs.YtfnobbpbmelgnaaGreatDoor
open Go.ChangeShapes Go.WideShapes Go.ChangeAt Go.RowKit Go.Deep
open Terms Tm
/-- the cells of rules, by their two slices. -/
def ruFlat (l:List (Value × Value)):List Value:=l.flatMap fun p=>[p.1,p.2]
def pr0:Value × Value:=(.nilIface,.nilIface)
set_option maxRecDepth 20000 in
theorem ruFlat_length:∀ l:List (Value × Value),(ruFlat l).length=l.length*2
  | []=>rfl
  | p:: l=>by
    have:ruFlat (p:: l)=[p.1,p.2]++ruFlat l:=rfl
    rw [this,List.length_append,ruFlat_length l];simp;omega
set_option maxRecDepth 20000 in
theorem ruFlat_at:∀ (l:List (Value × Value)) (j:Nat),j < l.length→(ruFlat l)[j*2]? = some (l.getD j pr0).1∧(ruFlat l)[j*2+1]? = some (l.getD j pr0).2
  | [],j,h=>by simp at h
  | p:: l,0,_=>⟨rfl,rfl⟩
  | p:: l,j+1,h=>by
    have:=ruFlat_at l j (by simpa using h)
    rw [show (j+1)*2=j*2+1+1 by omega]
    exact this
/-- each rule's two slices. -/
structure RuPairs (w:World) (l:List (Value × Value)) (rules:List Ru):Prop where
  len:l.length=rules.length
  g:∀ i,i < rules.length→OpsV w (l.getD i pr0).1 (rules.getD i ru0).guard
  s:∀ i,i < rules.length→SetsV w (l.getD i pr0).2 (rules.getD i ru0).sets
set_option maxRecDepth 20000 in
theorem RuPairs.below {w w':World} {l:List (Value × Value)} {rules:List Ru} (h:RuPairs w l rules) (hb:Below w.heap.size w w'):RuPairs w' l rules:=
  ⟨h.len,fun i hi=>(h.g i hi).below hb,fun i hi=>(h.s i hi).below hb⟩
set_option maxRecDepth 20000 in
theorem RuPairs.app {w:World} {l l2:List (Value × Value)} {r r2:List Ru} (h:RuPairs w l r) (h2:RuPairs w l2 r2):RuPairs w (l++l2) (r++r2):=by
  have e:=h.len
  have key:∀ i,i < (r++r2).length→(i < r.length∧(l++l2).getD i pr0=l.getD i pr0∧(r++r2).getD i ru0=r.getD i ru0)∨(∃ k,k < r2.length∧(l++l2).getD i pr0=l2.getD k pr0∧(r++r2).getD i ru0=r2.getD k ru0):=fun i hi=>by
    by_cases hlt:i < r.length
    · left
      refine ⟨hlt,?_,?_⟩
      · rw [List.getD_eq_getElem?_getD,List.getD_eq_getElem?_getD,List.getElem?_append_left (by omega)]
      · rw [List.getD_eq_getElem?_getD,List.getD_eq_getElem?_getD,List.getElem?_append_left hlt]
    · right
      refine ⟨i - r.length,by rw [List.length_append] at hi;omega,?_,?_⟩
      · rw [List.getD_eq_getElem?_getD,List.getD_eq_getElem?_getD,List.getElem?_append_right (by omega),e]
      · rw [List.getD_eq_getElem?_getD,List.getD_eq_getElem?_getD,List.getElem?_append_right (by omega)]
  refine ⟨by rw [List.length_append,List.length_append,h.len,h2.len],fun i hi=>?_,fun i hi=>?_⟩
  · rcases key i hi with ⟨h3,h4,h5⟩ | ⟨k,h3,h4,h5⟩
    · rw [h4,h5];exact h.g i h3
    · rw [h4,h5];exact h2.g k h3
  · rcases key i hi with ⟨h3,h4,h5⟩ | ⟨k,h3,h4,h5⟩
    · rw [h4,h5];exact h.s i h3
    · rw [h4,h5];exact h2.s k h3
set_option maxRecDepth 20000 in
theorem RuPairs.nil (w:World):RuPairs w [] []:=⟨rfl,fun i hi=>by simp at hi,fun i hi=>by simp at hi⟩
set_option maxRecDepth 20000 in
theorem RuPairs.cons {w:World} {x y:Value} {l:List (Value × Value)} {r:Ru} {rs:List Ru} (hg:OpsV w x r.guard) (hs:SetsV w y r.sets) (h:RuPairs w l rs):RuPairs w ((x,y):: l) (r:: rs):=by
  refine ⟨by simp [h.len],fun i hi=>?_,fun i hi=>?_⟩
  · match i,hi with
    | 0,_=>exact hg
    | i+1,hi=>exact h.g i (by simpa using hi)
  · match i,hi with
    | 0,_=>exact hs
    | i+1,hi=>exact h.s i (by simpa using hi)
set_option maxRecDepth 20000 in
theorem ruFlat_app (l l2:List (Value × Value)):ruFlat (l++l2)=ruFlat l++ruFlat l2:=by simp [ruFlat]
set_option maxRecDepth 20000 in
theorem opsV_slice {w:World} {v:Value} {l:List (Int × Int)} (h:OpsV w v l):∃ ao c,v=.slice ao l.length c:=by
  obtain ⟨ao,c,rfl,_⟩:=h;exact ⟨ao,c,rfl⟩
set_option maxRecDepth 20000 in
theorem setsV_slice {w:World} {v:Value} {l:List St} (h:SetsV w v l):∃ ao c,v=.slice ao l.length c:=by
  obtain ⟨ao,c,rfl,_⟩:=h;exact ⟨ao,c,rfl⟩
set_option maxRecDepth 20000 in
theorem RuPairs.one {w:World} {l:List (Value × Value)} {rules:List Ru} (h:RuPairs w l rules):∀ u∈ruFlat l,u.oneCell'=true:=by
  intro u hu
  unfold ruFlat at hu
  obtain ⟨p,hp,hu⟩:=List.mem_flatMap.1 hu
  obtain ⟨i,hi,he⟩:=List.getElem_of_mem hp
  have hg:=h.g i (by rw [← h.len];exact hi)
  have hs:=h.s i (by rw [← h.len];exact hi)
  rw [List.getD_eq_getElem?_getD,List.getElem?_eq_getElem hi] at hg hs
  simp only [Option.getD_some,he] at hg hs
  simp only [List.mem_cons,List.not_mem_nil,or_false] at hu
  rcases hu with rfl | rfl
  · obtain ⟨_,_,e⟩:=opsV_slice hg;rw [e];rfl
  · obtain ⟨_,_,e⟩:=setsV_slice hs;rw [e];rfl
set_option maxRecDepth 20000 in
/-- a model's rules, as their two slices each. -/
theorem rules_pairs {W:World} {ro:Option Addr} {rn rc:Nat} {rules:List Ru} (h:RulesV W (.slice ro rn rc) rules):∃ l,RuPairs W l rules∧rules.length=rn∧(ro=none→rc=0∧rn=0)∧∀ w',Below W.heap.size W w'→∀ ad,ro=some ad→∀ j u,(ruFlat l)[j]? = some u→w'.cell? (ad.add j)=some u:=by
  obtain ⟨ao,cap,e,h1,h2⟩:=h
  injection e with e1 e2 e3
  subst e1 e2 e3
  by_cases hp:0 < rules.length
  · obtain ⟨rb,roff,rfl,hb,hc⟩:=h2 hp
    have hcell:∀ i,i < rules.length→∃ x y,W.cell? ⟨rb,roff+i*2,none⟩=some x∧W.cell? ⟨rb,roff+i*2+1,none⟩=some y∧OpsV W x (rules.getD i ru0).guard∧SetsV W y (rules.getD i ru0).sets:=fun i hi=>by
      obtain ⟨⟨u,h3,h4⟩,u',h5,h6⟩:=hc i hi
      exact ⟨u,u',h3,h5,h4,h6⟩
    let f:Nat→Value × Value:=fun i=>((W.cell? ⟨rb,roff+i*2,none⟩).getD .nilIface,(W.cell? ⟨rb,roff+i*2+1,none⟩).getD .nilIface)
    have hf:∀ i,i < rules.length→((List.range rules.length).map f).getD i pr0=f i:=fun i hi=>by
      rw [List.getD_eq_getElem?_getD,List.getElem?_map,List.getElem?_range hi];rfl
    refine ⟨(List.range rules.length).map f,⟨by simp,fun i hi=>?_,fun i hi=>?_⟩,rfl,(fun h=>by cases h),fun w' hbw ad he j u hj=>?_⟩
    · rw [hf i hi]
      obtain ⟨x,y,h3,h4,h5,h6⟩:=hcell i hi
      show OpsV W ((W.cell? ⟨rb,roff+i*2,none⟩).getD .nilIface) _
      rw [h3];exact h5
    · rw [hf i hi]
      obtain ⟨x,y,h3,h4,h5,h6⟩:=hcell i hi
      show SetsV W ((W.cell? ⟨rb,roff+i*2+1,none⟩).getD .nilIface) _
      rw [h4];exact h6
    · injection he with he
      subst he
      have hjl:j < (ruFlat ((List.range rules.length).map f)).length:=by
        rcases Nat.lt_or_ge j (ruFlat ((List.range rules.length).map f)).length with h | h
        · exact h
        · rw [List.getElem?_eq_none h] at hj;cases hj
      rw [ruFlat_length] at hjl
      have hlen:((List.range rules.length).map f).length=rules.length:=by simp
      have hadd:(⟨rb,roff,none⟩:Addr).add j=⟨rb,roff+j,none⟩:=by simp [Addr.add]
      rw [hadd,hbw.cell (p:=⟨rb,roff+j,none⟩) hb]
      have hk:j / 2 < rules.length:=by omega
      obtain ⟨q1,q2⟩:=ruFlat_at ((List.range rules.length).map f) (j / 2) (by omega)
      obtain ⟨x,y,h3,h4,_,_⟩:=hcell (j / 2) hk
      rw [hf _ hk] at q1 q2
      rcases Nat.mod_two_eq_zero_or_one j with hm | hm
      · have hjj:j / 2*2=j:=by omega
        rw [hjj] at q1 h3
        rw [q1] at hj
        injection hj with hj
        rw [← hj,h3]
        show some x=some ((W.cell? ⟨rb,roff+j / 2*2,none⟩).getD .nilIface)
        rw [hjj,h3];rfl
      · have hjj:j / 2*2+1=j:=by omega
        rw [hjj] at q2
        rw [show roff+j / 2*2+1=roff+j by omega] at h4
        rw [q2] at hj
        injection hj with hj
        rw [← hj,h4]
        show some y=some ((W.cell? ⟨rb,roff+j / 2*2+1,none⟩).getD .nilIface)
        rw [show roff+j / 2*2+1=roff+j by omega,h4];rfl
  · have h0:rules=[]:=List.length_eq_zero_iff.1 (by omega)
    subst h0
    exact ⟨[],RuPairs.nil _,rfl,h1.2,fun w' _ ad _ j u hj=>by simp [ruFlat] at hj⟩
set_option maxRecDepth 20000 in
theorem pairs_rules {w:World} {base n:Nat} {v:Value} {l:List (Value × Value)} {rules:List Ru} (h:w.ownsRow base 57 2 v n (ruFlat l)) (hn:n=rules.length) (hp:RuPairs w l rules):RulesV w v rules:=by
  subst hn
  rcases h.2 with ⟨rfl,h0⟩ | ⟨g,cap,cur,rfl,hb,hg,hnc,hcm,hcs,htake⟩
  · exact ⟨none,0,by rw [h0],⟨by omega,fun _=>⟨rfl,h0⟩⟩,fun h=>by omega⟩
  · refine ⟨_,cap,rfl,⟨hnc,fun h=>by simp at h⟩,fun _=>⟨g,0,rfl,(Array.getElem?_eq_some_iff.1 hg).1,fun i hi=>?_⟩⟩
    obtain ⟨f0,f1⟩:=ruFlat_at l i (by rw [hp.len];exact hi)
    refine ⟨⟨_,?_,hp.g i hi⟩,_,?_,hp.s i hi⟩
    · rw [Nat.zero_add,h.cellAt _ (by omega)];exact f0
    · rw [Nat.zero_add,h.cellAt _ (by omega)];exact f1

set_option maxRecDepth 20000 in
/-- an op that is written out. -/
theorem ops_lit {w:World} {g:Nat} {k x:Int} {t:TypeId} {fr:Nat × Nat} (h:w.heap[g]? = some (.cells #[.int .i64 k,.int .i64 x] t fr)):OpsV w (.slice (some ⟨g,0,none⟩) 1 1) [(k,x)]:=by
  have hlt:g < w.heap.size:=(Array.getElem?_eq_some_iff.1 h).1
  refine ⟨_,1,rfl,⟨by simp,fun e=>by cases e⟩,fun _=>⟨g,0,rfl,hlt,fun i hi=>?_⟩⟩
  have h0:i=0:=by simp at hi;omega
  subst h0
  constructor
  · simp [World.cell?,h]
  · simp [World.cell?,h]
set_option maxRecDepth 20000 in
theorem sets_nil (w:World):SetsV w (.slice none 0 0) []:=⟨none,0,rfl,⟨by simp,fun _=>⟨rfl,rfl⟩⟩,fun h=>by simp at h⟩
set_option maxRecDepth 20000 in
theorem sets_one {w:World} {g:Nat} {i:Int} {v:Value} {l:List (Int × Int)} {t:TypeId} {fr:Nat × Nat} (h:w.heap[g]? = some (.cells #[.int .i64 i,v] t fr)) (hv:OpsV w v l):SetsV w (.slice (some ⟨g,0,none⟩) 1 1) [⟨i,l⟩]:=by
  have hlt:g < w.heap.size:=(Array.getElem?_eq_some_iff.1 h).1
  refine ⟨_,1,rfl,⟨by simp,fun e=>by cases e⟩,fun _=>⟨g,0,rfl,hlt,fun j hj=>?_⟩⟩
  have h0:j=0:=by simp at hj;omega
  subst h0
  exact ⟨by simp [World.cell?,h],v,by simp [World.cell?,h],hv⟩
set_option maxRecDepth 20000 in
theorem sets_two {w:World} {g:Nat} {i j:Int} {v u:Value} {l k:List (Int × Int)} {t:TypeId} {fr:Nat × Nat} (h:w.heap[g]? = some (.cells #[.int .i64 i,v,.int .i64 j,u] t fr)) (hv:OpsV w v l) (hu:OpsV w u k):SetsV w (.slice (some ⟨g,0,none⟩) 2 2) [⟨i,l⟩,⟨j,k⟩]:=by
  have hlt:g < w.heap.size:=(Array.getElem?_eq_some_iff.1 h).1
  refine ⟨_,2,rfl,⟨by simp,fun e=>by cases e⟩,fun _=>⟨g,0,rfl,hlt,fun n hn=>?_⟩⟩
  have h0:n=0∨n=1:=by simp at hn;omega
  rcases h0 with rfl | rfl
  · exact ⟨by simp [World.cell?,h],v,by simp [World.cell?,h],hv⟩
  · exact ⟨by simp [World.cell?,h],u,by simp [World.cell?,h],hu⟩
set_option maxRecDepth 20000 in
theorem heap_keep (w:World) (o:Obj) {b:Nat} {x:Obj} (h:w.heap[b]? = some x):(w.alloc o).heap[b]? = some x:=
  (Below.heap_alloc w o b (Array.getElem?_eq_some_iff.1 h).1).trans h
set_option maxRecDepth 20000 in
theorem heap_grown {u w:World} {row:Option Nat} (hg:u.grownBy w row) {b:Nat} {x:Obj} (h:u.heap[b]? = some x) (hne:row≠some b):w.heap[b]? = some x:=
  (hg.block b (Array.getElem?_eq_some_iff.1 h).1 (fun e=>hne e.symm)).trans h
end Go.Proofs.YtfnobbpbmelgnaaGreatDoor
namespace Go.Proofs.YtfnobbpbmelgnaaGreatDoor
open Go.ChangeShapes Go.WideShapes Go.ChangeAt Go.RowKit Go.Deep Go.Maps
open Terms Tm
set_option maxHeartbeats 6400000
set_option maxRecDepth 20000
def tkB (va vr pv fv:Value):Obj:=.cells #[va,vr,pv,fv] 34 (0,0)
theorem tkB_cells {w:World} {X:Nat} {va vr pv fv:Value} (hb:w.heap[X]? = some (tkB va vr pv fv)):w.cell? ⟨X,0,none⟩=some va/\w.cell? ⟨X,1,none⟩=some vr/\w.cell? ⟨X,2,none⟩=some pv/\w.cell? ⟨X,3,none⟩=some fv:=by
 unfold tkB at hb;refine ⟨?_,?_,?_,?_⟩ <;> simp [World.cell?,hb]
theorem tkB_free {w:World} {X:Nat} {va vr pv fv:Value} (hb:w.heap[X]? = some (tkB va vr pv fv)) (i:Nat):w.frozen? ⟨X,i,none⟩=false:=by
 unfold tkB at hb;simp [World.frozen?,hb]
theorem tkB_set {w:World} {X:Nat} {va vr pv fv:Value} (hb:w.heap[X]? = some (tkB va vr pv fv)) (v:Value):(w.setCell ⟨X,3,none⟩ v).heap[X]? = some (tkB va vr pv v):=by
 unfold tkB at *;simp [World.setCell,Array.getElem?_modify,hb]
section
variable {w1 wx w' : World} {X : Nat} {va vr pv : Value} {fo : Option Addr} {fn fc : Nat} {m : Mo} {l : List (Int × Int)}
end
