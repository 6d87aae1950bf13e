/- Joined texts. -/
import Derived.Test.YtiimhhjkgeepjaaGreatDoorLateD
import Derived.Lib.AppendZeros
import Derived.Laws.EntriesVeiled
namespace Go.Proofs.YtiimhhjkgeepjaaGreatDoor
open Terms
set_option maxHeartbeats 6400000
set_option maxRecDepth 20000
theorem zTI {T:Tm} (hw:T.Wf) {l:List (Int × Int)} (ho:T.ops=l) (σ:Nat->Nat->Bool) (letter:List Bool) (i:Nat) (hl:∀ v:Int,0 <= v->letter.getD v.toNat false=σ i v.toNat) (hv:∀ q,q < l.length->(l.getD q (0,0)).1=13->0 <= (l.getD q (0,0)).2) (h8:∀ q,q < l.length->8 <= (l.getD q (0,0)).1) {p:Nat} (h2:p < l.length) (hb:zAP (l.getD p (0,0)).1=false) {x y:Bool} (hx1:1 <= pn (l.getD p (0,0)).1->x=(T.sub (p+1)).hb σ i) (hx2:pn (l.getD p (0,0)).1=2->y=(T.sub (sec l p)).hb σ i):mkB (l.getD p (0,0)) letter x y=(T.sub p).hb σ i:=by
 have hsz:T.size=l.length:=by rw [<- Tm.ops_length,ho]
 have hq:p < T.size:=by omega
 have hop:=op_at ho hq;have hwf:=Tm.sub_wf hw p;rw [hop] at hb hx1 hx2 ⊢;have hvp:=hv p h2;rw [hop] at hvp
 cases hT:T.sub p with
 | leaf k v=>
  rw [hT] at hb hvp hwf;simp only [Tm.kind,Tm.val] at hb hvp ⊢;unfold mkB
  by_cases k13:k=13
  ·subst k13
   rw [if_pos rfl,Tm.hb_prop];exact hl v (hvp rfl)
  ·by_cases k11:k=11
   ·subst k11
    rw [Tm.hb_yes];rfl
   ·rw [Tm.hb_no _ _ _ k13 k11]
    have hpn:pn k=0:=hwf.2;have k8:k≠8:=fun e=>by rw [e] at hpn;exact absurd hpn (by decide)
    have k9:k≠9:=fun e=>by rw [e] at hpn;exact absurd hpn (by decide)
    have k10:k≠10:=fun e=>by rw [e] at hpn;exact absurd hpn (by decide)
    simp [k13,k11,k8,k9,k10]
 | un k v a=>
  have hs1:=zIZ hq hT;rw [hT] at hb hwf hx1;simp only [Tm.kind,Tm.val] at hb hx1 ⊢;have hpn:pn k=1:=hwf.2.1;have hok:okK k=true:=hwf.1
  have hk:k=10:=by
   have h14:¬ (14 <= k/\k <= 18):=by simpa [zAP] using hb
   unfold pn at hpn
   split at hpn
   ·omega
   ·split at hpn <;> omega
  subst hk;rw [hx1 (by rw [hpn];exact Nat.le_refl _),hs1,Tm.hb_not]
  rfl
 | bi k v a b=>
  have hs1:=zGm hq hT;have hs2:=zIx hw ho hq hT;have h8p:=h8 p h2;rw [hop,hT] at h8p;rw [hT] at hb hwf hx1 hx2;simp only [Tm.kind,Tm.val] at hb hx1 hx2 ⊢;have hpn:pn k=2:=hwf.2.1;rw [hx1 (by omega),hx2 hpn,hs1,hs2]
  simp only [Tm.kind] at h8p
  have hk:k=8\/k=9:=by
   have h14:¬ (14 <= k/\k <= 18):=by simpa [zAP] using hb
   unfold pn at hpn
   split at hpn
   ·omega
   ·split at hpn <;> omega
  rcases hk with rfl | rfl
  ·rw [Tm.hb_and];rfl
  ·rw [Tm.hb_or];rfl
theorem zRQ:∀ (n:Nat) (x y:Int),0 <= x->x < 2 ^ n->0 <= y->y < 2 ^ n->(∀ k,k < n->zCH x k=zCH y k)->x=y:=by
 intro n
 induction n with
 | zero=>intro x y a b c d _;simp at b d;omega
 | succ n ih=>
  intro x y a b c d h;rw [Int.pow_succ] at b d;have h0:zCH x 0=zCH y 0:=h 0 (by omega)
  have e0:x % 2=y % 2:=by
   unfold zCH at h0;simp only [Int.pow_zero,Int.ediv_one] at h0;have hx:x % 2=0\/x % 2=1:=by omega
   have hy:y % 2=0\/y % 2=1:=by omega
   rcases hx with hx | hx <;> rcases hy with hy | hy
   ·rw [hx,hy]
   ·rw [hx,hy] at h0;simp at h0
   ·rw [hx,hy] at h0;simp at h0
   ·rw [hx,hy]
  have hh:x / 2=y / 2:=ih (x / 2) (y / 2) (by omega) (by omega) (by omega) (by omega) fun k hk=>by
   have:=h (k+1) (by omega)
   unfold zCH at this ⊢;rw [Int.pow_succ,Int.mul_comm,<- Int.ediv_ediv_of_nonneg (by decide),<- Int.ediv_ediv_of_nonneg (by decide)] at this
   exact this
  omega
theorem zLZ {T:Tm} (hw:T.Wf) {l:List (Int × Int)} (ho:T.ops=l) (hz:zAE (l.map Prod.fst)=0) (hv:∀ q,q < l.length->(l.getD q (0,0)).1=13->0 <= (l.getD q (0,0)).2) (h8:∀ q,q < l.length->8 <= (l.getD q (0,0)).1) {ls:List (List Bool)} {s:Nat} (hs:s < ls.length) (mine:Nat->Int)
  (hm:∀ i,i < ls.length->0 <= mine i/\mine i < 2 ^ (zAA l).length)
  (hfol:∀ i,i < ls.length->∀ p,p < l.length->zAP (l.getD p (0,0)).1=true->tru l (ls.getD i []) (mine i) p=zBm (l.getD p (0,0)).1 (tru l (ls.getD i []) (mine i) (p+1)) (tru l (ls.getD i []) (mine i) (sec l p)) (tru l (ls.getD (zAY s ls.length (i+1)) []) (mine (zAY s ls.length (i+1))) p) (tru l (ls.getD (zAY s ls.length (i+1)) []) (mine (zAY s ls.length (i+1))) (p+1)))
  (hmet:∀ p,p < l.length->zAP (l.getD p (0,0)).1=true->∃ i,s <= i/\i < ls.length/\zBT (l.getD p (0,0)).1 (tru l (ls.getD i []) (mine i) p) (tru l (ls.getD i []) (mine i) (p+1)) (tru l (ls.getD i []) (mine i) (sec l p))=false) :
  ∀ i,i < ls.length->mine i=zBN (zAA l) (fun q=>(T.sub q).hb (sig ls s)) i (zAA l).length:=by
 have hmm:∀ i,zAY s ls.length (zAY s ls.length i)=zAY s ls.length i:=fun i=>zBe (zDY hs)
 have key:=zO8 hw ho hz hs (fun i p=>tru l (ls.getD (zAY s ls.length i) []) (mine (zAY s ls.length i)) p)
  (fun i p=>by simp only [hmm])
  (fun i p h2 hb hx1 hx2=>by
   obtain ⟨_,q2⟩:=zDZ hz h2
   show tru _ _ _ _=_
   rw [zKu h2 hb (fun h=>(q2 h).1)]
   exact zTI hw ho (sig ls s) _ i (fun v _=>rfl) hv h8 h2 hb hx1 hx2)
  (fun i p h2 hb=>by
   have:=hfol (zAY s ls.length i) (zDY hs) p h2 hb
   have e:zAY s ls.length (zAY s ls.length i+1)=zAY s ls.length (i+1):=by
    unfold zAY
    by_cases h:i < ls.length
    ·rw [if_pos h]
    ·rw [if_neg h,if_neg (show ¬ i+1 < ls.length by omega)]
     have hL:0 < ls.length - s:=by omega
     have hr:=Nat.mod_lt (i - s) hL;have e1:i+1 - s=(i - s)+1:=by omega
     rw [e1,<- Nat.mod_add_mod]
     by_cases h3:s+(i - s) % (ls.length - s)+1 < ls.length
     ·rw [if_pos h3,Nat.mod_eq_of_lt (show (i - s) % (ls.length - s)+1 < ls.length - s by omega)];omega
     ·rw [if_neg h3,show s+(i - s) % (ls.length - s)+1 - s=(i - s) % (ls.length - s)+1 by omega]
   rw [e] at this
   exact this)
  (fun p h2 hb=>by
   obtain ⟨i,a1,a2,a3⟩:=hmet p h2 hb
   exact ⟨i,a1,a2,by simp only [zBe a2];exact a3⟩)
 intro i hi;obtain ⟨c0,c1⟩:=zES (zAA l) (fun q=>(T.sub q).hb (sig ls s)) i (zAA l).length
 refine zRQ _ _ _ (hm i hi).1 (hm i hi).2 c0 c1 fun k hk=>?_
 rw [zIr _ _ _ _ _ hk];obtain ⟨p,e1,e2,e3,e4⟩:=zCV l l.length k hk;have e1':(zAA l).getD k 0=(p:Int):=e1;have:=key l.length p (by omega) e2 i
 simp only [zBe hi] at this;rw [zHW e2 e3,e4] at this;rw [this,e1'];rfl
theorem zBs {T:Tm} (hw:T.Wf) {l:List (Int × Int)} (ho:T.ops=l) (hz:zAE (l.map Prod.fst)=0) (hv:∀ q,q < l.length->(l.getD q (0,0)).1=13->0 <= (l.getD q (0,0)).2) (h8:∀ q,q < l.length->8 <= (l.getD q (0,0)).1) {ls:List (List Bool)} {s:Nat} {i:Nat} (hi:i < ls.length) {p:Nat} (hp:p < l.length) :
  tru l (ls.getD i []) (zBN (zAA l) (fun q=>(T.sub q).hb (sig ls s)) i (zAA l).length) p=(T.sub p).hb (sig ls s) i:=
 zP9 hw ho hz (sig ls s) _ i (fun v _=>by unfold sig;rw [zBe hi]) hv h8 l.length p (by omega) hp
theorem zNk {T:Tm} (hw:T.Wf) {l:List (Int × Int)} (ho:T.ops=l) (hz:zAE (l.map Prod.fst)=0) (hv:∀ q,q < l.length->(l.getD q (0,0)).1=13->0 <= (l.getD q (0,0)).2) (h8:∀ q,q < l.length->8 <= (l.getD q (0,0)).1) {ls:List (List Bool)} {s:Nat} (hs:s < ls.length) (mine:Nat->Int)
  (hm:∀ i,i < ls.length->mine i=zBN (zAA l) (fun q=>(T.sub q).hb (sig ls s)) i (zAA l).length) :
  (∀ i,i < ls.length->∀ p,p < l.length->zAP (l.getD p (0,0)).1=true->tru l (ls.getD i []) (mine i) p=zBm (l.getD p (0,0)).1 (tru l (ls.getD i []) (mine i) (p+1)) (tru l (ls.getD i []) (mine i) (sec l p)) (tru l (ls.getD (zAY s ls.length (i+1)) []) (mine (zAY s ls.length (i+1))) p) (tru l (ls.getD (zAY s ls.length (i+1)) []) (mine (zAY s ls.length (i+1))) (p+1)))/\
  ∀ p,p < l.length->zAP (l.getD p (0,0)).1=true->∃ i,s <= i/\i < ls.length/\zBT (l.getD p (0,0)).1 (tru l (ls.getD i []) (mine i) p) (tru l (ls.getD i []) (mine i) (p+1)) (tru l (ls.getD i []) (mine i) (sec l p))=false:=by
 have two:∀ p,p < l.length->zAP (l.getD p (0,0)).1=true->p+1 < l.length/\((l.getD p (0,0)).1=15\/(l.getD p (0,0)).1=16->sec l p < l.length):=fun p hp hb=>by
  obtain ⟨q1,q2⟩:=zDZ hz hp;have hk:=zEQ hb;generalize (l.getD p (0,0)).1=k at *;refine ⟨q1 (by rcases hk with rfl | rfl | rfl | rfl | rfl <;> decide),fun h=>(q2 (by rcases h with rfl | rfl <;> rfl)).2⟩
 have sec_free:∀ k (x y y' z nx:Bool),zAP k=true->(k=15\/k=16->y=y')->zBm k x y z nx=zBm k x y' z nx:=fun k x y y' z nx hb h=>by
  rcases zEQ hb with rfl | rfl | rfl | rfl | rfl
  ·rfl
  ·rw [h (.inl rfl)]
  ·rw [h (.inr rfl)]
  ·rfl
  ·rfl
 have sec_free2:∀ k (a x y y':Bool),zAP k=true->(k=15\/k=16->y=y')->zBT k a x y=zBT k a x y':=fun k a x y y' hb h=>by
  rcases zEQ hb with rfl | rfl | rfl | rfl | rfl
  ·rfl
  ·rw [h (.inl rfl)]
  ·rw [h (.inr rfl)]
  ·rfl
  ·rfl
 refine ⟨fun i hi p hp hb=>?_,fun p hp hb=>?_⟩
 ·obtain ⟨p1,p2⟩:=two p hp hb
  have hj:=zDY (s:=s) (n:=ls.length) (i:=i+1) hs;rw [hm i hi,hm _ hj,zBs hw ho hz hv h8 hi hp,zBs hw ho hz hv h8 hi p1,zBs hw ho hz hv h8 hj hp,zBs hw ho hz hv h8 hj p1,zGt hs,zGt hs];rw [sec_free _ _ _ ((T.sub (sec l p)).hb (sig ls s) i) _ _ hb (fun h=>zBs hw ho hz hv h8 hi (p2 h))]
  exact zO2 hw ho (sig ls s) hp hb i
 ·obtain ⟨p1,p2⟩:=two p hp hb
  obtain ⟨i,a1,a2,a3⟩:=zMa hw ho hs hp hb;refine ⟨i,a1,a2,?_⟩
  rw [hm i a2,zBs hw ho hz hv h8 a2 hp,zBs hw ho hz hv h8 a2 p1,sec_free2 _ _ _ _ ((T.sub (sec l p)).hb (sig ls s) i) hb (fun h=>zBs hw ho hz hv h8 a2 (p2 h))]
  exact a3
end Go.Proofs.YtiimhhjkgeepjaaGreatDoor
namespace Go.Proofs.YtiimhhjkgeepjaaGreatDoor
open Go.ChangeShapes Go.WideShapes Go.ChangeAt Go.RowKit Go.Deep
open Terms
set_option maxHeartbeats 6400000
set_option maxRecDepth 20000
theorem zRo (l:List (Int × Int)) (h:Nat->Bool):∀ k,zCP l h k=zBN (zAA l) (fun q _=>!zDk l h q) 0 k:=by
 intro k
 induction k with
 | zero=>simp [zCP,zBN]
 | succ k ih=>
  simp only [zCP,zBN,ih]
  by_cases hw:zDk l h ((zAA l).getD k 0).toNat=true
  ·rw [if_pos hw,if_neg (by rw [hw];decide)]
  ·rw [if_neg hw,if_pos (by rw [Bool.not_eq_true'] ;exact Bool.eq_false_iff.2 hw)]
theorem zL4 (l:List (Int × Int)) (h:Nat->Bool) {n j:Nat} (hj:j < n):zCH (zCP l h n) j=!zDk l h ((zAA l).getD j 0).toNat:=by
 rw [zRo,zIr _ _ _ _ _ hj]
inductive ForT (props:Int):Nat->List (Int × Int)->Prop
 | prop (v:Int):0 <= v->v < props->ForT props 0 [(13,v)]
 | not (m:Nat) (a:List (Int × Int)):ForT props m a->ForT props m ((10,0):: a)
 | bin (m n:Nat) (k:Int) (a b:List (Int × Int)):8 <= k->k <= 9->ForT props m a->ForT props n b->ForT props (m+n) ((k,0):: (a++b))
 | tun (m:Nat) (k:Int) (a:List (Int × Int)):k=14\/k=17\/k=18->ForT props m a->ForT props (m+1) ((k,0):: a)
 | tbi (m n:Nat) (k:Int) (a b:List (Int × Int)):15 <= k->k <= 16->ForT props m a->ForT props n b->ForT props (m+n+1) ((k,0):: (a++b))
theorem zAO.factsF {w:World} {G:Nat} {rawv:Value} {at':Nat} {vars props tempo:Int} {l:List (Int × Int)} (h:zAO w G rawv at' vars props tempo l) :
  w.cell? ⟨G,1,none⟩=some (.int .i64 at')/\w.cell? ⟨G,3,none⟩=some (.int .i64 props)/\w.cell? ⟨G,4,none⟩=some (.int .i64 tempo)/\w.frozen? ⟨G,4,none⟩=false/\G < w.heap.size:=by
 obtain ⟨outv,hh,ho⟩:=h;obtain ⟨_,a,b,_,f,c⟩:=zEC hh;exact ⟨a,by simp [World.cell?,hh],by simp [World.cell?,hh],f 4,c⟩
theorem zAO.setTempo {w:World} {G:Nat} {rawv:Value} {at':Nat} {vars props tempo:Int} {l:List (Int × Int)} (h:zAO w G rawv at' vars props tempo l) (n:Int):zAO (w.setCell ⟨G,4,none⟩ (.int .i64 n)) G rawv at' vars props n l:=by
 obtain ⟨outv,hh,ho⟩:=h;refine ⟨outv,by simp [World.setCell,Array.getElem?_modify,hh],?_⟩
 exact ownsRow_setCell_below ho (by simp) _
def zFy (G:Nat) (rawv:Value) (at':Nat) (vars props:Int) (tempo:Nat) (l:List (Int × Int)) (d:Nat) (w:World) (e:Ending) (w':World):Prop:=
 ∃ t m,e=.returned (.tuple #[])/\ForT props m t/\m <= tempo/\(at' + t.length <= at' + 1\/at' + t.length <= 13+d)/\t.length+1 <= 2 ^ (d+1)/\zAO w' G rawv (at' + t.length) vars props ((tempo - m:Nat):Int) (l++t)/\Below G w w'
theorem zSr (d:Nat):2 <= 2 ^ (d+1):=by
 have:2 ^ (d+1)=2*2 ^ d:=by rw [Nat.pow_succ,Nat.mul_comm]
 have:0 < 2 ^ d:=Nat.two_pow_pos d;omega
theorem zHl {G:Nat} {rawv:Value} {at':Nat} {vars props:Int} {tempo:Nat} {q:Int} {l:List (Int × Int)} {d:Nat} {w w5:World} (h0:0 <= q) (h1:q < props) (hb:Below G w w5) (hg:zAO w5 G rawv (at' + 1) vars props (tempo:Int) (l++[(13,q)])):zFy G rawv at' vars props tempo l d w (.returned (.tuple #[])) w5:=
 ⟨[(13,q)],0,rfl,.prop _ h0 h1,Nat.zero_le _,.inl (by simp),by have:=zSr d;simpa using this,by simpa using hg,hb⟩
theorem zKT {G:Nat} {rawv:Value} {at':Nat} {vars props:Int} {tempo m:Nat} {l:List (Int × Int)} {d:Nat} {w w5:World} {ta:List (Int × Int)} (hta:ForT props m ta) (hm:m <= tempo)
  (hn:at' + 1+ta.length <= 13+(d+1)) (h2:ta.length+1 <= 2 ^ (d+1)) (hb:Below G w w5) (hg:zAO w5 G rawv (at' + 1+ta.length) vars props ((tempo - m:Nat):Int) (l++[(10,0)]++ta)):zFy G rawv at' vars props tempo l (d+1) w (.returned (.tuple #[])) w5:=by
 have e1:at' + ((10,(0:Int)):: ta:List (Int × Int)).length=at' + 1+ta.length:=by simp;omega
 have e2:l++(10,(0:Int)):: ta=l++[(10,0)]++ta:=by simp
 have e3:2 ^ (d+1+1)=2*2 ^ (d+1):=by rw [Nat.pow_succ,Nat.mul_comm]
 refine ⟨(10,0):: ta,m,rfl,.not _ _ hta,hm,?_,?_,?_,hb⟩
 ·rw [e1];omega
 ·simp only [List.length_cons];rw [e3];omega
 ·rw [e1,e2];exact hg
theorem zKZ {G:Nat} {rawv:Value} {at':Nat} {vars props:Int} {tempo m n:Nat} {K:Int} {l:List (Int × Int)} {d:Nat} {w w5:World} {ta tb:List (Int × Int)} (hta:ForT props m ta) (htb:ForT props n tb) (h8:8 <= K) (h9:K <= 9) (hm:m <= tempo) (hn':n <= tempo - m)
  (hn:at' + 1+ta.length+tb.length <= 13+(d+1)) (h2:ta.length+1 <= 2 ^ (d+1)) (h3:tb.length+1 <= 2 ^ (d+1)) (hb:Below G w w5) (hg:zAO w5 G rawv (at' + 1+ta.length+tb.length) vars props ((tempo - m - n:Nat):Int) (l++[(K,0)]++ta++tb)):zFy G rawv at' vars props tempo l (d+1) w (.returned (.tuple #[])) w5:=by
 have e1:at' + ((K,(0:Int)):: (ta++tb)).length=at' + 1+ta.length+tb.length:=by simp;omega
 have e2:l++(K,(0:Int)):: (ta++tb)=l++[(K,0)]++ta++tb:=by simp
 have e3:2 ^ (d+1+1)=2*2 ^ (d+1):=by rw [Nat.pow_succ,Nat.mul_comm]
 refine ⟨(K,0):: (ta++tb),m+n,rfl,.bin _ _ _ _ _ h8 h9 hta htb,by omega,?_,?_,?_,hb⟩
 ·rw [e1];omega
 ·simp only [List.length_cons,List.length_append];rw [e3];omega
 ·rw [e1,e2,show tempo - (m+n)=tempo - m - n by omega];exact hg
theorem zPx {G:Nat} {rawv:Value} {at':Nat} {vars props:Int} {tempo m:Nat} {K:Int} {l:List (Int × Int)} {d:Nat} {w w5:World} {ta:List (Int × Int)} (hta:ForT props m ta) (hK:K=14\/K=17\/K=18) (ht:0 < tempo) (hm:m <= tempo - 1)
  (hn:at' + 1+ta.length <= 13+(d+1)) (h2:ta.length+1 <= 2 ^ (d+1)) (hb:Below G w w5) (hg:zAO w5 G rawv (at' + 1+ta.length) vars props ((tempo - 1 - m:Nat):Int) (l++[(K,0)]++ta)):zFy G rawv at' vars props tempo l (d+1) w (.returned (.tuple #[])) w5:=by
 have e1:at' + ((K,(0:Int)):: ta:List (Int × Int)).length=at' + 1+ta.length:=by simp;omega
 have e2:l++(K,(0:Int)):: ta=l++[(K,0)]++ta:=by simp
 have e3:2 ^ (d+1+1)=2*2 ^ (d+1):=by rw [Nat.pow_succ,Nat.mul_comm]
 refine ⟨(K,0):: ta,m+1,rfl,.tun _ _ _ hK hta,by omega,?_,?_,?_,hb⟩
 ·rw [e1];omega
 ·simp only [List.length_cons];rw [e3];omega
 ·rw [e1,e2,show tempo - (m+1)=tempo - 1 - m by omega];exact hg
theorem zQy {G:Nat} {rawv:Value} {at':Nat} {vars props:Int} {tempo m n:Nat} {K:Int} {l:List (Int × Int)} {d:Nat} {w w5:World} {ta tb:List (Int × Int)} (hta:ForT props m ta) (htb:ForT props n tb) (h8:15 <= K) (h9:K <= 16) (ht:0 < tempo) (hm:m <= tempo - 1) (hn':n <= tempo - 1 - m)
  (hn:at' + 1+ta.length+tb.length <= 13+(d+1)) (h2:ta.length+1 <= 2 ^ (d+1)) (h3:tb.length+1 <= 2 ^ (d+1)) (hb:Below G w w5) (hg:zAO w5 G rawv (at' + 1+ta.length+tb.length) vars props ((tempo - 1 - m - n:Nat):Int) (l++[(K,0)]++ta++tb)):zFy G rawv at' vars props tempo l (d+1) w (.returned (.tuple #[])) w5:=by
 have e1:at' + ((K,(0:Int)):: (ta++tb)).length=at' + 1+ta.length+tb.length:=by simp;omega
 have e2:l++(K,(0:Int)):: (ta++tb)=l++[(K,0)]++ta++tb:=by simp
 have e3:2 ^ (d+1+1)=2*2 ^ (d+1):=by rw [Nat.pow_succ,Nat.mul_comm]
 refine ⟨(K,0):: (ta++tb),m+n+1,rfl,.tbi _ _ _ _ _ h8 h9 hta htb,by omega,?_,?_,?_,hb⟩
 ·rw [e1];omega
 ·simp only [List.length_cons,List.length_append];rw [e3];omega
 ·rw [e1,e2,show tempo - (m+n+1)=tempo - 1 - m - n by omega];exact hg
theorem zGg (G:Nat) (rawv:Value) (rs:List (Int × Int)) (at':Nat) (vars props:Int) (tempo:Nat) (l:List (Int × Int)) (d:Nat) (w:World) (hat:at' <= 60) (hl:l.length <= 60) (hp1:1 <= props) (hp2:props <= 100) (hd:d <= 100) (hleaf:d=0\/12 <= at')
  (hR:Raws w G rawv rs) (h:zAO w G rawv at' vars props (tempo:Int) l) :
  Calls Tryz.prog 12 #[.pointer (some ⟨G,0,none⟩),.int .i64 d] w (zFy G rawv at' vars props tempo l d w):=by
 have htake:=zKt G rawv rs at' vars props tempo l w (by omega) hR h
 have hlt:G < w.heap.size:=h.factsF.2.2.2.2;clear hR h
 have htst:((d:Int) == 0)=true\/((d:Int) == 0)=false/\decide ((12:Int) < (at':Int)+1)=true:=by
  by_cases h0:d=0
  ·left;simp [h0]
  ·right;simp;omega
 clear hleaf
 rcases htst with hd0 | ⟨hd0,h10⟩
 all_goals
  go_enter Tryz.func12,Tryz.ntmps12
  go_wp2_with (first | (go_at_call 26;refine htake.mono ?_;rintro e w1 ⟨k,v,hk,hv,rfl,hg1,hb1⟩;obtain ⟨d1,d3,d4,f4,dlt⟩:=hg1.factsF;have hg2:=hg1.alloc (.cells #[.int .i64 k,.int .i64 v] 85)) | (go_at_call 13;refine (zDE _ _ _ (by assumption) (by decide) (by decide)).mono ?_;rintro e w2 ⟨r,hr0,hr1,rfl,rfl⟩) | (go_at_call 27;refine (zBi G rawv (at' + 1) vars props tempo _ _ l _ (by omega) hg2).mono ?_;rintro e w3 ⟨rfl,hg3,hb3⟩))
  have hgd:zAO (w1.alloc (.cells #[.int .i64 k,.int .i64 v] 85)).drew G rawv (at' + 1) vars props tempo l:=hg2;clear hg1 hg2 htake
  go_region_with (first | (go_at_call 13;refine (zDE _ _ _ (by assumption) (by omega) (by omega)).mono ?_;rintro e w2 ⟨q,hq0,hq1,rfl,rfl⟩) | (go_at_call 27;refine (zBi G rawv (at' + 1) vars props tempo _ _ l _ (by omega) hgd).mono ?_;rintro e w3 ⟨rfl,hg3,hb3⟩))
  all_goals
   go_wp2_with fail
   go_end0
   exact zHl hq0 hq1 ((hb1.alloc (Nat.le_of_lt dlt) _).drew.trans hb3) hg3
theorem zLu (G:Nat) (rawv:Value) (rs:List (Int × Int)) (vars props:Int) (hp1:1 <= props) (hp2:props <= 100) (d:Nat):∀ (at':Nat) (tempo:Nat) (l:List (Int × Int)) (w:World),d <= 5->tempo <= 100->at' <= 40->l.length=at'->Raws w G rawv rs->zAO w G rawv at' vars props (tempo:Int) l->
  Calls Tryz.prog 12 #[.pointer (some ⟨G,0,none⟩),.int .i64 d] w (zFy G rawv at' vars props tempo l d w):=by
 induction d with
 | zero=>intro at' tempo l w _ _ ha hl hR h;exact zGg G rawv rs at' vars props tempo l 0 w (by omega) (by omega) hp1 hp2 (by omega) (.inl rfl) hR h
 | succ d ih=>
  intro at' tempo l w hd htm ha hl hR h
  by_cases hleaf:12 <= at'
  ·exact zGg G rawv rs at' vars props tempo l (d+1) w (by omega) (by omega) hp1 hp2 (by omega) (.inr hleaf) hR h
  have htake:=zKt G rawv rs at' vars props tempo l w (by omega) hR h
  have hlt:G < w.heap.size:=h.factsF.2.2.2.2;have HR:Hid (Raws w G rawv rs):=hR;have HL:Hid (l.length=at'):=hl;have hl98:l.length <= 40:=by omega
  clear hR h hl;have hat10:at' < 12:=by omega
  have hdd:((d+1:Nat):Int)=(d:Int)+1:=by omega
  rw [hdd];have hd0:((d:Int)+1 == 0)=false:=by simp;omega
  have h10:decide ((12:Int) < (at':Int)+1)=false:=by simp;omega
  clear hdd hleaf
  by_cases ht0:tempo=0
  ·have htt:(((tempo:Nat):Int) == 0)=true:=by simp;omega
   clear ht0
   go_enter Tryz.func12,Tryz.ntmps12
   go_wp2_with (first | (go_at_call 26;refine htake.mono ?_;rintro e w1 ⟨k,v,hk,hv,rfl,hg1,hb1⟩;obtain ⟨d1,d3,d4,f4,dlt⟩:=hg1.factsF;have hg2:=hg1.alloc (.cells #[.int .i64 k,.int .i64 v] 85)) | (go_at_call 13;refine (zDE _ _ _ (by assumption) (by decide) (by decide)).mono ?_;rintro e w2 ⟨r,hr0,hr1,rfl,rfl⟩;have hcs:r <= 8\/r=9\/r=10\/r=11\/r=12\/13 <= r:=(by omega);rcases hcs with h9 | rfl | rfl | rfl | rfl | h13) | (go_at_call 27;refine (zBi G rawv (at' + 1) vars props tempo _ _ l _ (by omega) hg2).mono ?_;rintro e w3 ⟨rfl,hg3,hb3⟩))
   ·have hgd:zAO (w1.alloc (.cells #[.int .i64 k,.int .i64 v] 85)).drew G rawv (at' + 1) vars props tempo l:=hg2
    clear hg1 hg2 htake ih
    go_region_with (first | (go_at_call 13;refine (zDE _ _ _ (by assumption) (by omega) (by omega)).mono ?_;rintro e w2 ⟨q,hq0,hq1,rfl,rfl⟩) | (go_at_call 27;refine (zBi G rawv (at' + 1) vars props tempo _ _ l _ (by omega) hgd).mono ?_;rintro e w3 ⟨rfl,hg3,hb3⟩))
    all_goals
     go_wp2_with fail
     go_end0
     exact zHl hq0 hq1 ((hb1.alloc (Nat.le_of_lt dlt) _).drew.trans hb3) hg3
   all_goals
    have hb13:=(hb1.alloc (Nat.le_of_lt dlt) (.cells #[.int .i64 k,.int .i64 v] 85)).trans hb3;have hn1:=ih (at' + 1) tempo _ w3 (by omega) (by omega) (by omega) (by rw [List.length_append,HL.out];rfl) (HR.out.below hb13) hg3
    clear hg1 hg2 htake
    go_wp2_with (go_at_call 12;refine hn1.mono ?_;rintro e w4 ⟨ta,m,rfl,hta,hm,ha14,h2a,hg4,hb4⟩;have H2a:=(show Hid _ from h2a);clear h2a)
    first
     | (go_end0;exact zKT hta hm (by omega) H2a.out (hb13.trans hb4) hg4)
     | (have hb14:=hb13.trans hb4;have hn2:=ih (at' + 1+ta.length) (tempo - m) _ w4 (by omega) (by omega) (by omega) (by rw [List.length_append,List.length_append,HL.out];rfl) (HR.out.below hb14) hg4;clear hn1 ih;go_wp2_with (go_at_call 12;refine hn2.mono ?_;rintro e w5 ⟨tb,n,rfl,htb,hn,hb14',h2b,hg5,hb5⟩);go_end0;exact zKZ hta htb (by omega) (by omega) hm hn (by omega) H2a.out h2b (hb14.trans hb5) hg5)
  ·have htt:(((tempo:Nat):Int) == 0)=false:=by simp;omega
   have HT0:Hid (0 < tempo):=by show 0 < tempo;omega
   have HTI:Hid ((tempo:Int) - 1=((tempo - 1:Nat):Int)):=by show _=_;omega
   go_enter Tryz.func12,Tryz.ntmps12
   go_wp2_with (first | (go_at_call 26;refine htake.mono ?_;rintro e w1 ⟨k,v,hk,hv,rfl,hg1,hb1⟩;obtain ⟨d1,d3,d4,f4,dlt⟩:=hg1.factsF;have hg2:=hg1.alloc (.cells #[.int .i64 k,.int .i64 v] 85)) | (go_at_call 13;refine (zDE _ _ _ (by assumption) (by decide) (by decide)).mono ?_;rintro e w2 ⟨r,hr0,hr1,rfl,rfl⟩;have hcs:r <= 8\/r=9\/r=10\/r=11\/r=12\/13 <= r:=(by omega);rcases hcs with h9 | rfl | rfl | rfl | rfl | h13) | (go_at_call 27;refine (zBi G rawv (at' + 1) vars props tempo _ _ l _ (by omega) hg2).mono ?_;rintro e w3 ⟨rfl,hg3,hb3⟩))
   ·have hgd:zAO (w1.alloc (.cells #[.int .i64 k,.int .i64 v] 85)).drew G rawv (at' + 1) vars props tempo l:=hg2
    clear hg1 hg2 htake ih
    go_region_with (first | (go_at_call 13;refine (zDE _ _ _ (by assumption) (by omega) (by omega)).mono ?_;rintro e w2 ⟨q,hq0,hq1,rfl,rfl⟩) | (go_at_call 27;refine (zBi G rawv (at' + 1) vars props tempo _ _ l _ (by omega) hgd).mono ?_;rintro e w3 ⟨rfl,hg3,hb3⟩))
    all_goals
     go_wp2_with fail
     go_end0
     exact zHl hq0 hq1 ((hb1.alloc (Nat.le_of_lt dlt) _).drew.trans hb3) hg3
   ·have hb13:=(hb1.alloc (Nat.le_of_lt dlt) (.cells #[.int .i64 k,.int .i64 v] 85)).trans hb3
    have hn1:=ih (at' + 1) tempo _ w3 (by omega) (by omega) (by omega) (by rw [List.length_append,HL.out];rfl) (HR.out.below hb13) hg3
    clear hg1 hg2 htake ih
    go_wp2_with (go_at_call 12;refine hn1.mono ?_;rintro e w4 ⟨ta,m,rfl,hta,hm,ha14,h2a,hg4,hb4⟩;have H2a:=(show Hid _ from h2a);clear h2a)
    go_end0
    exact zKT hta hm (by omega) H2a.out (hb13.trans hb4) hg4
   ·have hb13:=(hb1.alloc (Nat.le_of_lt dlt) (.cells #[.int .i64 k,.int .i64 v] 85)).trans hb3
    have hn1:=ih (at' + 1) tempo _ w3 (by omega) (by omega) (by omega) (by rw [List.length_append,HL.out];rfl) (HR.out.below hb13) hg3
    clear hg1 hg2 htake
    go_wp2_with (go_at_call 12;refine hn1.mono ?_;rintro e w4 ⟨ta,m,rfl,hta,hm,ha14,h2a,hg4,hb4⟩;have H2a:=(show Hid _ from h2a);clear h2a)
    have hb14:=hb13.trans hb4;have hn2:=ih (at' + 1+ta.length) (tempo - m) _ w4 (by omega) (by omega) (by omega) (by rw [List.length_append,List.length_append,HL.out];rfl) (HR.out.below hb14) hg4
    clear hn1 ih
    go_wp2_with (go_at_call 12;refine hn2.mono ?_;rintro e w5 ⟨tb,n,rfl,htb,hn,hb14',h2b,hg5,hb5⟩)
    go_end0
    exact zKZ hta htb (by omega) (by omega) hm hn (by omega) H2a.out h2b (hb14.trans hb5) hg5
   iterate 4
    ·have hgt:=((hg1.setTempo ((tempo:Int) - 1)).alloc (.cells #[.int .i64 k,.int .i64 v] 85)).alloc (.cells #[.int .i64 14,.int .i64 17,.int .i64 18,.int .i64 17] 3)
     have hbt:=((hb1.setCell (p:=⟨G,4,none⟩) (Nat.le_refl _) (.int .i64 ((tempo:Int) - 1))).alloc (by simp;omega) (.cells #[.int .i64 k,.int .i64 v] 85)).alloc (by simp;omega) (.cells #[.int .i64 14,.int .i64 17,.int .i64 18,.int .i64 17] 3)
     have hpt:=fun kk=>zBi G rawv (at' + 1) vars props ((tempo:Int) - 1) kk 0 l _ (by omega) hgt
     clear hg1 hg2 htake hgt
     go_wp2_with (go_at_call 27;refine (hpt _).mono ?_;rintro e w3 ⟨rfl,hg3,hb3⟩)
     have hb13:=hbt.trans hb3;rw [HTI.out] at hg3;clear hpt;have hn1:=ih (at' + 1) (tempo - 1) _ w3 (by omega) (by omega) (by omega) (by rw [List.length_append,HL.out];rfl) (HR.out.below hb13) hg3
     clear ih
     go_wp2_with (go_at_call 12;refine hn1.mono ?_;rintro e w4 ⟨ta,m,rfl,hta,hm,ha14,h2a,hg4,hb4⟩;have H2a:=(show Hid _ from h2a);clear h2a)
     go_end0
     exact zPx hta (by decide) HT0.out hm (by omega) H2a.out (hb13.trans hb4) hg4
   ·have hgt:=(hg1.setTempo ((tempo:Int) - 1)).alloc (.cells #[.int .i64 k,.int .i64 v] 85)
    have hbt:=(hb1.setCell (p:=⟨G,4,none⟩) (Nat.le_refl _) (.int .i64 ((tempo:Int) - 1))).alloc (by simp;omega) (.cells #[.int .i64 k,.int .i64 v] 85)
    have hpt:=fun kk=>zBi G rawv (at' + 1) vars props ((tempo:Int) - 1) kk 0 l _ (by omega) hgt
    clear hg1 hg2 htake hgt
    go_wp2_with (go_at_call 27;refine (hpt _).mono ?_;rintro e w3 ⟨rfl,hg3,hb3⟩)
    have hb13:=hbt.trans hb3;rw [HTI.out] at hg3;clear hpt;have hn1:=ih (at' + 1) (tempo - 1) _ w3 (by omega) (by omega) (by omega) (by rw [List.length_append,HL.out];rfl) (HR.out.below hb13) hg3
    go_wp2_with (go_at_call 12;refine hn1.mono ?_;rintro e w4 ⟨ta,m,rfl,hta,hm,ha14,h2a,hg4,hb4⟩;have H2a:=(show Hid _ from h2a);clear h2a)
    have hb14:=hb13.trans hb4;have hn2:=ih (at' + 1+ta.length) ((tempo - 1) - m) _ w4 (by omega) (by omega) (by omega) (by rw [List.length_append,List.length_append,HL.out];rfl) (HR.out.below hb14) hg4
    clear hn1 ih
    go_wp2_with (go_at_call 12;refine hn2.mono ?_;rintro e w5 ⟨tb,n,rfl,htb,hn,hb14',h2b,hg5,hb5⟩)
    go_end0
    exact zQy hta htb (by omega) (by omega) HT0.out hm hn (by omega) H2a.out h2b (hb14.trans hb5) hg5
theorem zMk (w:World) (rawv:Value) (vars props tempo:Int) :
  zAO (w.alloc (.cells #[rawv,.int .i64 0,.int .i64 vars,.int .i64 props,.int .i64 tempo,.slice none 0 0] 54)) w.heap.size rawv 0 vars props tempo []:=
 ⟨_,blk_alloc_new _ _,World.ownsRow_nil _ _ _ _⟩
theorem zJf (rawv:Value) (rs:List (Int × Int)) (props:Int) (tempo:Nat) (w:World) (hp1:1 <= props) (hp2:props <= 100) (ht:tempo <= 100) (hR:Raws w w.heap.size rawv rs) :
  Calls Tryz.prog 4 #[rawv,.int .i64 props,.int .i64 (tempo:Int)] w fun e w'=>∃ a c t m,e=.returned (.slice a t.length c)/\ForT props m t/\m <= tempo/\t.length <= 17/\zAR w' (.slice a t.length c) t/\Below w.heap.size w w':=by
 have hb0:=(Below.refl w.heap.size w).alloc (Nat.le_refl _) (.cells #[rawv,.int .i64 0,.int .i64 0,.int .i64 props,.int .i64 (tempo:Int),.slice none 0 0] 54);have htr:=zLu w.heap.size rawv rs 0 props hp1 hp2 4 0 tempo [] _ (by omega) ht (by omega) rfl (hR.below hb0) (zMk w rawv 0 props tempo)
 obtain ⟨ra,rn,rc,hra⟩:∃ a n c,rawv=.slice a n c:=by obtain ⟨⟨a,c,h,_⟩,_,_⟩:=hR;exact ⟨_,_,_,h⟩
 subst hra;clear hR
 go_enter Tryz.func4,Tryz.ntmps4
 go_wp2_with (go_at_call 12;refine htr.mono ?_;rintro e w1 ⟨t,m,rfl,ht,hm,hlen,_,hg1,hb1⟩;obtain ⟨outv,hh,ho⟩:=hg1;obtain ⟨_,_,_,c5,_,hlt⟩:=zEC hh)
 go_ret
 rw [List.nil_append] at ho;obtain ⟨a,c,rfl⟩:=zAU ho;exact ⟨a,c,t,m,rfl,ht,hm,by omega,zCy ho,hb0.trans hb1⟩
end Go.Proofs.YtiimhhjkgeepjaaGreatDoor
namespace Go.Proofs.YtiimhhjkgeepjaaGreatDoor
open Terms
set_option maxHeartbeats 6400000
set_option maxRecDepth 20000
structure FOk (m:Nat) (t:List (Int × Int)) (T:Tm):Prop where
 ops:T.ops=t
 wf:T.Wf
 good:∀ o,o∈t->zAc 3 o=0
 many:(t.filter fun o=>zAP o.1).length=m
theorem FOk.not {m:Nat} {t:List (Int × Int)} {T:Tm} (h:FOk m t T):FOk m ((10,0):: t) (.un 10 0 T):=by
 obtain ⟨h1,h2,h3,h4⟩:=h;refine ⟨by simp [Tm.ops,h1],⟨by decide,by decide,h2⟩,fun o ho=>?_,?_⟩
 ·rcases List.mem_cons.1 ho with rfl | ho
  ·rfl
  ·exact h3 o ho
 ·rw [List.filter_cons,if_neg (by decide)];exact h4
theorem FOk.tun {m:Nat} {k:Int} {t:List (Int × Int)} {T:Tm} (hk:k=14\/k=17\/k=18) (h:FOk m t T):FOk (m+1) ((k,0):: t) (.un k 0 T):=by
 obtain ⟨h1,h2,h3,h4⟩:=h;refine ⟨by simp [Tm.ops,h1],?_,fun o ho=>?_,?_⟩
 ·rcases hk with rfl | rfl | rfl <;> exact ⟨by decide,by decide,h2⟩
 ·rcases List.mem_cons.1 ho with rfl | ho
  ·rcases hk with rfl | rfl | rfl <;> rfl
  ·exact h3 o ho
 ·rw [List.filter_cons,if_pos (by rcases hk with rfl | rfl | rfl <;> decide),List.length_cons,h4]
theorem FOk.bin {m n:Nat} {k:Int} {t s:List (Int × Int)} {T S:Tm} (h8:8 <= k) (h9:k <= 9) (h:FOk m t T) (g:FOk n s S):FOk (m+n) ((k,0):: (t++s)) (.bi k 0 T S):=by
 obtain ⟨h1,h2,h3,h4⟩:=h;obtain ⟨g1,g2,g3,g4⟩:=g;have hk:k=8\/k=9:=by omega
 refine ⟨by simp [Tm.ops,h1,g1],?_,fun o ho=>?_,?_⟩
 ·rcases hk with rfl | rfl <;> exact ⟨by decide,by decide,h2,g2⟩
 ·rcases List.mem_cons.1 ho with rfl | ho
  ·rcases hk with rfl | rfl <;> rfl
  ·rcases List.mem_append.1 ho with ho | ho
   ·exact h3 o ho
   ·exact g3 o ho
 ·rw [List.filter_cons,if_neg (by rcases hk with rfl | rfl <;> decide),List.filter_append,List.length_append,h4,g4]
theorem FOk.tbi {m n:Nat} {k:Int} {t s:List (Int × Int)} {T S:Tm} (h8:15 <= k) (h9:k <= 16) (h:FOk m t T) (g:FOk n s S):FOk (m+n+1) ((k,0):: (t++s)) (.bi k 0 T S):=by
 obtain ⟨h1,h2,h3,h4⟩:=h;obtain ⟨g1,g2,g3,g4⟩:=g;have hk:k=15\/k=16:=by omega
 refine ⟨by simp [Tm.ops,h1,g1],?_,fun o ho=>?_,?_⟩
 ·rcases hk with rfl | rfl <;> exact ⟨by decide,by decide,h2,g2⟩
 ·rcases List.mem_cons.1 ho with rfl | ho
  ·rcases hk with rfl | rfl <;> rfl
  ·rcases List.mem_append.1 ho with ho | ho
   ·exact h3 o ho
   ·exact g3 o ho
 ·rw [List.filter_cons,if_pos (by rcases hk with rfl | rfl <;> decide),List.length_cons,List.filter_append,List.length_append,h4,g4]
theorem FOk.yes:FOk 0 [(11,0)] (.leaf 11 0):=⟨rfl,⟨by decide,by decide⟩,fun o ho=>by
 obtain rfl:o=(11,0):=by simpa using ho
 rfl,by decide⟩
theorem ForT.ok {m:Nat} {t:List (Int × Int)} (h:ForT 3 m t):∃ T,FOk m t T:=by
 induction h with
 | prop v h0 h1=>
  refine ⟨.leaf 13 v,rfl,⟨by decide,by decide⟩,fun o ho=>?_,by rw [List.filter_cons,if_neg (by show ¬ zAP 13=true;decide)];rfl⟩
  obtain rfl:o=(13,v):=by simpa using ho
  unfold zAc;rw [if_neg (by show ¬ (13:Int) < 8;decide),if_neg (by simp;omega)]
 | not m a _ ih=>obtain ⟨T,hT⟩:=ih;exact ⟨_,hT.not⟩
 | bin m n k a b h8 h9 _ _ iha ihb=>obtain ⟨A,hA⟩:=iha;obtain ⟨B,hB⟩:=ihb;exact ⟨_,hA.bin h8 h9 hB⟩
 | tun m k a hk _ ih=>obtain ⟨T,hT⟩:=ih;exact ⟨_,hT.tun hk⟩
 | tbi m n k a b h8 h9 _ _ iha ihb=>obtain ⟨A,hA⟩:=iha;obtain ⟨B,hB⟩:=ihb;exact ⟨_,hA.tbi h8 h9 hB⟩
theorem ForT.ne {props:Int} {m:Nat} {t:List (Int × Int)} (h:ForT props m t):t≠[]:=by cases h <;> simp
theorem zLX (l:List (Int × Int)):∀ n,n <= l.length->(zAF l n).length=((l.take n).filter fun o=>zAP o.1).length:=by
 intro n
 induction n with
 | zero=>intro _;rfl
 | succ n ih=>
  intro hn;rw [List.take_succ_eq_append_getElem (by omega),List.filter_append,List.length_append,<- ih (by omega)]
  simp only [zAF,List.length_append]
  congr 1
  rw [List.getD_eq_getElem?_getD,List.getElem?_eq_getElem (by omega),Option.getD_some,List.filter_cons]
  cases zAP (l[n]).1 <;> simp
theorem FOk.ahead {m:Nat} {t:List (Int × Int)} {T:Tm} (h:FOk m t T):(zAA t).length=m:=by
 unfold zAA;rw [zLX t t.length (Nat.le_refl _),List.take_length,h.many]
theorem FOk.size {m:Nat} {t:List (Int × Int)} {T:Tm} (h:FOk m t T):T.size=t.length:=by rw [<- Tm.ops_length,h.ops]
theorem FOk.ends {m:Nat} {t:List (Int × Int)} {T:Tm} (h:FOk m t T) (hl:t.length <= 60):zAE (t.map Prod.fst)=0:=by
 have h1:=Tm.one h.wf;rw [h.ops] at h1;unfold zAE;rw [List.length_map,if_neg (by have:=h.size;have:=T.size_pos;omega),h1,h.size]
 simp
theorem FOk.code {m:Nat} {t:List (Int × Int)} {T:Tm} (h:FOk m t T) (hl:t.length <= 60) (hm:m <= 6):zAV 3 t=0:=by
 rw [zFV (by omega) (h.ends hl) (zHA fun j hj=>h.good _ (by rw [List.getD_eq_getElem?_getD,List.getElem?_eq_getElem hj,Option.getD_some];exact List.getElem_mem hj)),h.ahead,if_neg (by omega)]
end Go.Proofs.YtiimhhjkgeepjaaGreatDoor
namespace Go.Proofs.YtiimhhjkgeepjaaGreatDoor
open Go.ChangeShapes Go.WideShapes Go.ChangeAt Go.RowKit Go.Deep
open Terms
set_option maxHeartbeats 6400000
set_option maxRecDepth 20000
theorem zMR {m:Nat} {x:List (Int × Int)} {T:Tm} (hF:FOk m x T) {q:Nat} (hq:q < x.length):zAc 3 (x.getD q (0,0))=0:=hF.good _ (by rw [List.getD_eq_getElem?_getD,List.getElem?_eq_getElem hq,Option.getD_some];exact List.getElem_mem hq)
theorem zN4 {m:Nat} {x:List (Int × Int)} {T:Tm} (hF:FOk m x T):(∀ q,q < x.length->(x.getD q (0,0)).1=13->0 <= (x.getD q (0,0)).2)/\∀ q,q < x.length->8 <= (x.getD q (0,0)).1:=by
 refine ⟨fun q hq h13=>?_,fun q hq=>?_⟩
 ·have:=zMR hF hq
  generalize x.getD q (0,0)=o at *;unfold zAc at this;obtain ⟨k,v⟩:=o;simp only at h13
  subst h13;simp at this ⊢
  omega
 ·have:=zMR hF hq
  generalize x.getD q (0,0)=o at *;unfold zAc at this;obtain ⟨k,v⟩:=o;simp only at this ⊢
  by_cases h:k < 8
  ·exfalso
   revert this
   simp
   omega
  ·omega
theorem zMq (l:List (Int × Int)):∀ (d n:Nat),∃ r,zAF l (n+d)=zAF l n++r:=by
 intro d
 induction d with
 | zero=>intro n;exact ⟨[],by simp⟩
 | succ d ih=>
  intro n;obtain ⟨r,h⟩:=ih n;rw [show n+(d+1)=(n+d)+1 by omega]
  simp only [zAF]
  split
  ·exact ⟨r++[((n+d:Nat):Int)],by rw [h,List.append_assoc]⟩
  ·exact ⟨r,by rw [List.append_nil];exact h⟩
theorem zQl {l:List (Int × Int)} {p:Nat} (hp:p < l.length) (hb:zAP (l.getD p (0,0)).1=true):(zAF l p).length < (zAA l).length/\(zAA l).getD (zAF l p).length 0=(p:Int):=by
 obtain ⟨r,h⟩:=zMq l (l.length - (p+1)) (p+1);rw [show p+1+(l.length - (p+1))=l.length by omega] at h
 have h1:zAF l (p+1)=zAF l p++[(p:Int)]:=by simp only [zAF];rw [if_pos hb]
 unfold zAA;rw [h,h1];refine ⟨by simp,?_⟩
 simp [List.getD_eq_getElem?_getD]
end Go.Proofs.YtiimhhjkgeepjaaGreatDoor
namespace Go.Proofs.YtiimhhjkgeepjaaGreatDoor
open Go.ChangeShapes Go.WideShapes Go.ChangeAt Go.RowKit Go.Deep Go.Maps
open Terms Tm
set_option maxHeartbeats 6400000
set_option maxRecDepth 20000
def zCD (m:Mo):Int:=zBF m.vars (zA7 m.vars) m.vars.length
end Go.Proofs.YtiimhhjkgeepjaaGreatDoor
namespace Go.Proofs.YtiimhhjkgeepjaaGreatDoor
open Terms Tm
set_option maxHeartbeats 6400000
set_option maxRecDepth 20000
def zAk (m:Mo) (all:List Int) (k:Nat):Prop:=∀ i,i < k->all.getD (i+1) 0∈zCl m (all.getD i 0)
theorem zAk.zero (m:Mo) (all:List Int):zAk m all 0:=fun i h=>by omega
theorem zAk.succ {m:Mo} {all:List Int} {k:Nat} (h:zAk m all k) (h2:all.getD (k+1) 0∈zCl m (all.getD k 0)):zAk m all (k+1):=fun i hi=>by
 by_cases e:i=k
 ·rw [e];exact h2
 ·exact h i (by omega)
theorem zCz {m:Mo} (hm:mcode m=0) {x:Int} (hx:0 <= x/\x < zAC m.vars m.vars.length):zCl m x=zAB m x:=by unfold zCl;rw [if_pos (zBk hm hx)]
theorem zLN {m:Mo} (hm:mcode m=0) {x:Int} (hx:0 <= x/\x < zAC m.vars m.vars.length) {y:Int} (hy:y∈zAB m x):0 <= y/\y < zAC m.vars m.vars.length:=by
 have hv:=zAt hm;have h2:=((zDq _).2 y).1 hy;unfold zEH at h2
 split at h2
 ·simp at h2;rw [h2];exact hx
 ·obtain ⟨j,_,e⟩:=(zI7 (Nat.le_refl _) y).1 h2
  exact zGI hv e
theorem zAk.range {m:Mo} (hm:mcode m=0) {all:List Int} (h0:0 <= all.getD 0 0/\all.getD 0 0 < zAC m.vars m.vars.length):∀ {k:Nat},zAk m all k->0 <= all.getD k 0/\all.getD k 0 < zAC m.vars m.vars.length
 | 0,_=>h0
 | k+1,h=>by
  have h1:=zAk.range hm h0 (k:=k) (fun i hi=>h i (by omega))
  have h2:=h k (by omega)
  rw [zCz hm h1] at h2;exact zLN hm h1 h2
theorem zDg {m:Mo} (hm:mcode m=0):0 <= zCD m/\zCD m < zAC m.vars m.vars.length:=zD4 (zAt hm) (Nat.le_refl _) (zHV (zAt hm))
def rvd (ss ll:List Int):List Int:=ss++ll++[ll.getD 0 0]
theorem zDt (ss ll:List Int):(rvd ss ll).length=ss.length+ll.length+1:=by simp [rvd];omega
theorem zHZ (ss ll:List Int):[ss,ll,[ll.getD 0 0]].flatten=rvd ss ll:=by simp [rvd]
theorem zPs {ss ll:List Int} (h:ll≠[]):(rvd ss ll).getD 0 0=(ss++ll).getD 0 0:=by
 unfold rvd;have:0 < (ss++ll).length:=by rw [List.length_append];have:=List.length_pos_iff.2 h;omega
 simp only [List.getD_eq_getElem?_getD]
 rw [List.getElem?_append_left this]
open Classical in
noncomputable def zCa (m:Mo) (ss ll:List Int):Bool:=decide (mcode m=0/\ll≠[]/\(rvd ss ll).getD 0 0=zCD m/\zAk m (rvd ss ll) ((rvd ss ll).length - 1))
open Classical in
theorem zQJ {m:Mo} (h:mcode m≠0) (ss ll:List Int):zCa m ss ll=false:=decide_eq_false fun h2=>h h2.1
open Classical in
theorem zI6 (m:Mo) (ss:List Int):zCa m ss []=false:=decide_eq_false fun h2=>h2.2.1 rfl
open Classical in
theorem zMr {m:Mo} {ss ll:List Int} (h:(rvd ss ll).getD 0 0≠zCD m):zCa m ss ll=false:=decide_eq_false fun h2=>h h2.2.2.1
open Classical in
theorem zJL {m:Mo} {ss ll:List Int} (h:mcode m=0) (h1:ll≠[]) (h2:(rvd ss ll).getD 0 0=zCD m):zCa m ss ll=decide (zAk m (rvd ss ll) ((rvd ss ll).length - 1)):=by
 unfold zCa
 by_cases h3:zAk m (rvd ss ll) ((rvd ss ll).length - 1)
 ·rw [decide_eq_true h3];exact decide_eq_true ⟨h,h1,h2,h3⟩
 ·rw [decide_eq_false h3];exact decide_eq_false fun h4=>h3 h4.2.2.2
end Go.Proofs.YtiimhhjkgeepjaaGreatDoor
namespace Go.Proofs.YtiimhhjkgeepjaaGreatDoor
open Go.ChangeShapes Go.WideShapes Go.ChangeAt Go.RowKit Go.Deep
open Terms
set_option maxHeartbeats 6400000
set_option maxRecDepth 20000
def zNa:Value:=.slice none 0 0
def zBX (w:World) (us:List Value) (ls:List (List Bool)):Prop:=us.length=ls.length/\∀ i,i < ls.length->zAQ w (us.getD i zNa) (ls.getD i [])
theorem zBX.below {w w':World} {us:List Value} {ls:List (List Bool)} (h:zBX w us ls) (hb:Below w.heap.size w w'):zBX w' us ls:=⟨h.1,fun i hi=>(h.2 i hi).below hb⟩
theorem zBX.nil (w:World):zBX w [] []:=⟨rfl,fun i hi=>by simp at hi⟩
theorem zKr {α:Type} (a b:List α) (d:α) (i:Nat):(a++b).getD i d=if i < a.length then a.getD i d else b.getD (i - a.length) d:=by
 by_cases h:i < a.length
 ·rw [if_pos h];simp [List.getD_eq_getElem?_getD,List.getElem?_append_left h]
 ·rw [if_neg h];simp [List.getD_eq_getElem?_getD,List.getElem?_append_right (Nat.le_of_not_lt h)]
theorem zBX.append {w:World} {us us':List Value} {ls ls':List (List Bool)} (h:zBX w us ls) (h':zBX w us' ls'):zBX w (us++us') (ls++ls'):=by
 refine ⟨by simp [h.1,h'.1],fun i hi=>?_⟩
 rw [zKr,zKr,h.1]
 split
 ·rename_i hl;exact h.2 i hl
 ·rename_i hl;exact h'.2 _ (by simp at hi;omega)
theorem zBX.one {w:World} {us:List Value} {ls:List (List Bool)} (h:zBX w us ls):∀ u∈us,u.oneCell'=true:=by
 intro u hu;obtain ⟨i,hi,rfl⟩:=List.getElem_of_mem hu;have:=h.2 i (by rw [<- h.1];exact hi)
 obtain ⟨ao,cap,hv,_⟩:=this;rw [List.getD_eq_getElem?_getD,List.getElem?_eq_getElem hi] at hv
 simp only [Option.getD_some] at hv;rw [hv];rfl
def zAS (w:World) (v:Value) (ls:List (List Bool)):Prop:=∃ us ao cap,v=.slice ao ls.length cap/\(ao=none->cap=0/\ls=[])/\zBX w us ls/\(ls≠[]->∃ b off,ao=some ⟨b,off,none⟩/\b < w.heap.size/\∀ i,i < ls.length->w.cell? ⟨b,off+i,none⟩=some (us.getD i zNa))
theorem zAS.below {w w':World} {v:Value} {ls:List (List Bool)} (h:zAS w v ls) (hb:Below w.heap.size w w'):zAS w' v ls:=by
 obtain ⟨us,ao,cap,rfl,h0,hu,h⟩:=h;refine ⟨us,ao,cap,rfl,h0,hu.below hb,fun hne=>?_⟩
 obtain ⟨b,off,rfl,hlt,hat⟩:=h hne;exact ⟨b,off,rfl,Nat.lt_of_lt_of_le hlt hb.size,fun i hi=>(hb.cell (p:=⟨b,_,none⟩) hlt).trans (hat i hi)⟩
theorem zAS.shape {w:World} {v:Value} {ls:List (List Bool)} (h:zAS w v ls):∃ ao cap,v=.slice ao ls.length cap:=by
 obtain ⟨_,ao,cap,rfl,_⟩:=h;exact ⟨_,_,rfl⟩
theorem zAS.at {w:World} {ao:Option Addr} {cap n:Nat} {ls:List (List Bool)} (h:zAS w (.slice ao n cap) ls) {i:Nat} (hi:i < ls.length):∃ b off,ao=some ⟨b,off,none⟩/\b < w.heap.size/\∃ u,w.cell? ⟨b,off+i,none⟩=some u/\zAQ w u (ls.getD i []):=by
 obtain ⟨us,ao',cap',hv,_,hu,h⟩:=h
 injection hv with e1 e2 e3
 subst e1;obtain ⟨b,off,e,hlt,hat⟩:=h (by rintro rfl;simp at hi)
 exact ⟨b,off,e,hlt,_,hat i hi,hu.2 i hi⟩
theorem zEY {w:World} {base:Nat} {v:Value} {us:List Value} {ls:List (List Bool)} (h:w.ownsRow base 104 1 v us.length us) (hu:zBX w us ls):zAS w v ls:=by
 have hlen:=hu.1
 rcases h.2 with ⟨rfl,h0⟩ | ⟨g,cap,cur,rfl,hb,hg,hnc,hcm,hcs,htake⟩
 ·have:ls=[]:=List.length_eq_zero_iff.1 (by omega)
  subst this;exact ⟨us,none,0,rfl,fun _=>⟨rfl,rfl⟩,hu,fun h=>absurd rfl h⟩
 ·refine ⟨us,_,cap,by rw [hlen],fun h=>by simp at h,hu,fun _=>⟨g,0,rfl,(Array.getElem?_eq_some_iff.1 hg).1,fun i hi=>?_⟩⟩
  rw [Nat.zero_add,h.cellAt i (by omega)]
  simp [List.getD_eq_getElem?_getD,show i < us.length by omega]
theorem zEw:(Tryz.prog.info? 104).map (fun i=>(i.zero,i.size,i.bytes))=some (some (.slice none 0 0),1,24):=by kernel_rfl
theorem zPt (n:Nat) (w:World) (h0:0 < n) (h24:n <= 24) :
  Calls Tryz.prog 123 #[.slice none 0 0,.int .i64 (n:Int)] w fun e w'=>∃ B cap,e=.returned (.slice (some ⟨B,0,none⟩) 0 cap)/\Below w.heap.size w w'/\w'.ownsRow w.heap.size 104 1 (.slice (some ⟨B,0,none⟩) 0 cap) 0 []:=by
 obtain ⟨i0,hi,hz0,hz1,hz2⟩:=info_parts zEw
 have hrz:∀ ty,(Builtin.append_ #[78,3] ty #[.slice none 0 0,.int .i64 (n:Int)]).run Tryz.prog w=.ok (.slice (some ⟨w.heap.size,0,none⟩) n (grownCap w n 0 104)) (w.drew.alloc (.cells (Builtin.zeroCells (Value.slice none 0 0).cells n++Builtin.zeroCells (Value.slice none 0 0).cells (grownCap w n 0 104 - n)) 104)):=fun ty=>
  Lib.run_append_nil_zeros w 78 3 ty 104 i0 (.slice none 0 0) .i64 .i64 Tryz.underlying78 Tryz.underlying3 hi hz0 n h0 (by omega) (by omega) (by rw [hz2];omega)
 have hge:=grownCap_ge w n 0 104;have hle:=grownCap_le_maxLen w n 0 104 (by unfold maxLen;omega)
 generalize grownCap w n 0 104=G at hrz hge hle;have hG:G <= 9223372036854775807:=by unfold maxLen at hle;omega
 have hn:¬ (n:Int) < 0:=by omega
 have hn2:(n:Int) > 0:=by omega
 go_enter Tryz.func123,Tryz.ntmps123
 go_wp2_with (at_builtin;refine Lib.wpList_append_run _ rfl _ _ _ _ rfl _ _ rfl rfl _ _ (hrz _) ?_)
 go_ret
 refine ⟨_,_,rfl,(below_drewN (Below.refl _ _) 1).alloc (Nat.le_refl _) _,?_⟩
 refine ⟨rfl,.inr ⟨w.heap.size,G,Builtin.zeroCells #[Value.slice none 0 0] n++Builtin.zeroCells #[Value.slice none 0 0] (G - n),rfl,Nat.le_refl _,?_,Nat.zero_le _,hle,?_,by simp⟩⟩
 ·show (w.heap.push _)[w.heap.size]? = _
  simp
 ·simp [size_zeroCells]
  omega
def zDx (ss ll:List (List Bool)) (k:Nat):List (List Bool):=if k=0 then [] else if k=1 then ss else ss++ll
def zL (a b:Nat) (k:Nat):Int:=if k=0 then 0 else if k=1 then (a:Int) else (a:Int)+(b:Int)
theorem zPI {w0 w:World} {g:Nat} {so lo:Option Addr} {sn ln sc lc:Nat} {ss ll:List (List Bool)} (hsn:sn=ss.length) (hln:ln=ll.length) (h1:sn <= 12) (h2:ln <= 12) (hS:zAS w0 (.slice so sn sc) ss) (hL:zAS w0 (.slice lo ln lc) ll) (c0:w.cell? ⟨g,0,none⟩=some (.slice so sn sc)) (c1:w.cell? ⟨g,1,none⟩=some (.slice lo ln lc)) {k:Nat} (hk:k < 2) :
  ∃ xo xn xc xl,w.cell? ⟨g,k,none⟩=some (.slice xo xn xc)/\zL sn ln (k+1)=zL sn ln k+(xn:Int)/\0 <= zL sn ln k/\zL sn ln k <= 12/\xn <= 12/\xn=xl.length/\zDx ss ll (k+1)=zDx ss ll k++xl/\(zDx ss ll k).length <= 12/\zAS w0 (.slice xo xn xc) xl:=by
 have hk2:k=0\/k=1:=by omega
 rcases hk2 with rfl | rfl
 ·exact ⟨so,sn,sc,ss,c0,by simp [zL],by simp [zL],by simp [zL],h1,hsn,by simp [zDx],by simp [zDx],hS⟩
 ·exact ⟨lo,ln,lc,ll,c1,by simp [zL],by simp [zL],by simp [zL];omega,h2,hln,by simp [zDx],by simp [zDx];omega,hL⟩
theorem zMn {w:World} {b off:Nat} {us:List Value} {xl:List (List Bool)} (hu:zBX w us xl) (h:∀ i,i < xl.length->w.cell? ⟨b,off+i,none⟩=some (us.getD i zNa)):∀ j u,us[j]? = some u->w.cell? ((⟨b,off,none⟩:Addr).add j)=some u:=by
 intro j u hj;have hlt:=(List.getElem?_eq_some_iff.1 hj).1
 rw [Go.WideShapes.add_plain,h j (by rw [<- hu.1];exact hlt),List.getD_eq_getElem?_getD,hj]
 rfl
theorem zHr (g:Nat) (sv lv:Value) (ss ll:List (List Bool)) (w0 w:World) (hb0:Below w0.heap.size w0 w) (h1:ss.length <= 12) (h2:ll.length <= 12) (h0:1 <= ll.length) (hS:zAS w0 sv ss) (hL:zAS w0 lv ll) (c0:w.cell? ⟨g,0,none⟩=some sv) (c1:w.cell? ⟨g,1,none⟩=some lv) :
  Calls Tryz.prog 93 #[.slice (some ⟨g,0,none⟩) 2 2] w fun e w'=>∃ B cap,e=.returned (.slice (some ⟨B,0,none⟩) (ss.length+ll.length) cap)/\Below w.heap.size w w'/\Hid (∃ us,w'.ownsRow w.heap.size 104 1 (.slice (some ⟨B,0,none⟩) (ss.length+ll.length) cap) us.length us/\zBX w0 us (ss++ll)):=by
 have hg:=World.block_lt_of_cell? w ⟨g,0,none⟩ c0;obtain ⟨i0,hi,hz0,hz1,hz2⟩:=info_parts zEw;obtain ⟨so,sc,rfl⟩:=hS.shape;obtain ⟨lo,lc,rfl⟩:=hL.shape
 have HAt:Hid (∀ k,k < 2->∃ xo xn xc xl,w.cell? ⟨g,k,none⟩=some (.slice xo xn xc)/\zL ss.length ll.length (k+1)=zL ss.length ll.length k+(xn:Int)/\0 <= zL ss.length ll.length k/\zL ss.length ll.length k <= 12/\xn <= 12/\xn=xl.length/\zDx ss ll (k+1)=zDx ss ll k++xl/\(zDx ss ll k).length <= 12/\zAS w0 (.slice xo xn xc) xl):=fun k hk=>zPI rfl rfl h1 h2 hS hL c0 c1 hk
 have HZ0:Hid (zL ss.length ll.length 0=0):=rfl;have HZ2:Hid (zL ss.length ll.length 2=((ss.length+ll.length:Nat):Int)):=by show _=_;simp [zL]
 have HA0:Hid (zDx ss ll 0=[]):=rfl;have HA2:Hid (zDx ss ll 2=ss++ll):=rfl;have hgr:=fun w1=>zPt (ss.length+ll.length) w1 (by omega) (by omega)
 have HLen:Hid ((ss++ll).length=ss.length+ll.length):=List.length_append;obtain ⟨tn,htn⟩:∃ tn,tn=ss.length+ll.length:=⟨_,rfl⟩
 rw [<- htn] at hgr HLen HZ2 ⊢;have ht24:tn <= 24:=by omega
 have ht0:0 < tn:=by omega
 generalize zL ss.length ll.length=zz at *;generalize zDx ss ll=ac at *;clear hS hL c0 c1 h1 h2 h0 htn
 go_enter Tryz.func93,Tryz.ntmps93
 go_wp2
 go_loop [3,11] (fun z i=>∃ k:Nat,k <= 2/\i=.int .i64 (k:Int)/\z=.int .i64 (zz k)) (fun _ i=>2 - (intOf i).toNat)
 case atStart=>exact ⟨0,by omega,rfl,by rw [HZ0.out]⟩
 case round=>
  obtain ⟨k,hk,rfl,rfl⟩:=hrel
  by_cases hlt:k < 2
  ·obtain ⟨xo,xn,xc,xl,hc,hz,hz00,hz12,hx12,hr⟩:=HAt.out k hlt
   clear hr;have HZ:Hid (zz (k+1)=zz k+(xn:Int)):=hz;clear hz;generalize zz k=z0 at *
   go_wp2
   go_round
   case rel=>exact ⟨k+1,hlt,by go_num,by rw [HZ.out]⟩
   case measure=>simp [intOf];omega
  ·obtain rfl:k=2:=by omega
   rw [HZ2.out]
   go_wp2_with (go_at_call 123;refine (hgr _).mono ?_;rintro e w1 ⟨B,cap,rfl,hb1,ho1⟩)
   clear hgr
   go_loopw [6,27] (fun nv i wr=>∃ k:Nat,k <= 2/\i=.int .i64 (k:Int)/\∃ B cap,nv=.slice (some ⟨B,0,none⟩) (ac k).length cap/\Hid (∃ us,wr.ownsRow w.heap.size 104 1 nv us.length us/\zBX w0 us (ac k))/\Below w.heap.size w wr) (fun _ i _=>2 - (intOf i).toNat)
   case atStart=>exact ⟨0,by omega,rfl,B,cap,by rw [HA0.out];rfl,⟨[],ho1,by rw [HA0.out];exact zBX.nil _⟩,hb1⟩
   case round=>
    obtain ⟨k,hk,rfl,B,cap,rfl,HU,hbel⟩:=hrel
    by_cases hlt:k < 2
    ·obtain ⟨xo,xn,xc,xl,hc,_,_,_,hx12,hxn,hac,hal,hX⟩:=HAt.out k hlt
     have hcr:=(hbel.cell (p:=⟨g,k,none⟩) hg).trans hc;obtain ⟨us,hown,hus⟩:=HU.out;have HUS:Hid (zBX w0 us (ac k)):=hus;have HXN:Hid (xn=xl.length):=hxn;have HAC:Hid (ac (k+1)=ac k++xl):=hac;have hul:us.length=(ac k).length:=hus.1;obtain ⟨vs,xo',xc',hxv,hx0,hvs,hxat⟩:=hX
     injection hxv with e1 e2 e3
     subst e1 e3;rw [<- hul] at hal hown ⊢;clear hxn hac hus e2 HU hul
     cases xo with
     | none=>
      obtain ⟨hc0,hl0⟩:=hx0 rfl;have HL0:Hid (xl=[]):=hl0;have hxn0:xn=0:=by rw [HXN.out,HL0.out];rfl
      subst hxn0 hc0;clear hx0 hxat hl0 hvs
      go_wp2_with (at_builtin;refine wpList_append_own_none rfl (.tmp 31) (.tmp 32) 78 rfl w.heap.size 104 i0 1 Tryz.underlying78 hi _ _ _ rfl hown rfl ?_)
      go_roundw
      case rel=>exact ⟨k+1,hlt,by go_num,B,cap,by rw [HAC.out,HL0.out,List.append_nil,<- HUS.out.1],⟨us,hown,by rw [HAC.out,HL0.out,List.append_nil];exact HUS.out⟩,hbel⟩
      case measure=>simp [intOf];omega
     | some a=>
      have hcells:∀ j u,vs[j]? = some u->wr.cell? (a.add j)=some u:=by
       intro j u hj;have hjl:j < xl.length:=by rw [<- hvs.1];exact (List.getElem?_eq_some_iff.1 hj).1
       obtain ⟨b,off,e,hbl,hat⟩:=hxat (by rintro rfl;simp at hjl)
       obtain rfl:=Option.some.inj e;have:=zMn hvs hat j u hj;rw [Go.WideShapes.add_plain] at this ⊢;exact ((hb0.trans (hbel.mono hb0.size)).cell (p:=⟨b,off+j,none⟩) hbl).trans this
      have HVS:Hid (zBX w0 vs xl):=hvs;have hvl:vs.length=xn*1:=by rw [hvs.1,HXN.out];omega
      have hv1:=hvs.one;have hbsz:=hbel.size;have hnb:=hown.lt;clear hx0 hxat hvs
      go_wp2_with (at_builtin;refine wpList_append_own _ rfl (.tmp 31) (.tmp 32) 78 rfl w.heap.size 104 i0 (.slice none 0 0) 1 24 Tryz.underlying78 hi hz0 hz1 hz2 rfl (by decide) (.slice (some ⟨B,0,none⟩) us.length cap) us.length us rfl hown a xn xc vs rfl hvl hcells hv1 (by unfold maxLen;omega) (by omega) hbsz ?_;intro v' w4 hown' hgrow hne)
      have hb4:Below w.heap.size w w4:=hbel.grown hgrow hbsz (fun q hq=>(hnb q hq).1)
      have hlen4:(us++vs).length=us.length+xn:=by rw [List.length_append];omega
      obtain ⟨B4,cap4,rfl⟩:∃ B4 cap4,v'=.slice (some ⟨B4,0,none⟩) (us.length+xn) cap4:=by
       rcases hown'.2 with ⟨h,_⟩ | ⟨g',cap',cur',h,_⟩
       ·exact absurd (hne.1 h).1 (by simp)
       ·exact ⟨_,_,h⟩
      have HLn:Hid (us.length+xn=(ac (k+1)).length):=by show _=_;rw [HAC.out,List.length_append,<- HUS.out.1,HXN.out]
      have HU4:Hid (∃ zs,w4.ownsRow w.heap.size 104 1 (.slice (some ⟨B4,0,none⟩) (us.length+xn) cap4) zs.length zs/\zBX w0 zs (ac (k+1))):=⟨us++vs,by rw [hlen4];exact hown',by rw [HAC.out];exact HUS.out.append HVS.out⟩
      clear hown' hgrow hown hcells hne
      go_roundw
      case rel=>exact ⟨k+1,hlt,by go_num,B4,cap4,by rw [HLn.out],HU4,hb4⟩
      case measure=>simp [intOf];omega
    ·obtain rfl:k=2:=by omega
     have HF:Hid (∃ us,wr.ownsRow w.heap.size 104 1 (.slice (some ⟨B,0,none⟩) tn cap) us.length us/\zBX w0 us (ss++ll)):=by
      obtain ⟨us,h1,h2⟩:=HU.out;rw [HA2.out] at h1 h2;rw [HLen.out] at h1;exact ⟨us,h1,h2⟩
     rw [HA2.out,HLen.out];clear HU
     go_wp2
     go_ret
     exact ⟨_,_,rfl,hbel,HF⟩
theorem zM7 (g:Nat) (sv lv:Value) (ss ll:List (List Bool)) (w:World) (h1:ss.length <= 12) (h2:ll.length <= 12) (h0:1 <= ll.length) (hS:zAS w sv ss) (hL:zAS w lv ll) (c0:w.cell? ⟨g,0,none⟩=some sv) (c1:w.cell? ⟨g,1,none⟩=some lv) :
  Calls Tryz.prog 93 #[.slice (some ⟨g,0,none⟩) 2 2] w fun e w'=>∃ B cap,e=.returned (.slice (some ⟨B,0,none⟩) (ss.length+ll.length) cap)/\Below w.heap.size w w'/\Hid (zAS w' (.slice (some ⟨B,0,none⟩) (ss.length+ll.length) cap) (ss++ll)):=
 (zHr g sv lv ss ll w w (Below.refl _ _) h1 h2 h0 hS hL c0 c1).mono fun e w' ⟨B,cap,e1,e2,e3⟩=>by
  obtain ⟨us,e4,e5⟩:=e3.out;exact ⟨B,cap,e1,e2,zEY e4 (e5.below e2)⟩
theorem zNB (sv lv:Value) (ss ll:List (List Bool)) (props:Int) (w:World) (hzs:ss.length <= 140737488355328) (hzl:ll.length <= 140737488355328) (hS:zAS w sv ss) (hL:zAS w lv ll) :
    Calls Tryz.prog 92 #[.agg #[sv,lv],.int .i64 props] w fun e w'=>e=.returned (.int .i64 (zCM props ss ll))/\Below w.heap.size w w':=by
  have hA:∀ o,Below w.heap.size w (w.alloc o):=fun o=>(Below.refl _ _).alloc (Nat.le_refl _) o
  obtain ⟨so,sc,rfl⟩:=hS.shape;obtain ⟨lo,lc,rfl⟩:=hL.shape
  by_cases hr:props < 0\/6 < props
  · rw [zGA hr]
    generalize ss.length=sn at *;generalize ll.length=ln at *;clear hS hL
    rcases hr with hr | hr
    all_goals
      go_enter Tryz.func92,Tryz.ntmps92
      go_wp2
      go_ret
      exact ⟨rfl,hA _⟩
  · have hp0:0 <= props:=by omega
    have hp6:props <= 6:=by omega
    by_cases hs:12 < ss.length\/ll.length < 1\/12 < ll.length
    · rw [zHN hr hs]
      have hs3:12 < ss.length\/(ss.length <= 12/\ll.length < 1)\/(ss.length <= 12/\1 <= ll.length/\12 < ll.length):=by omega
      generalize ss.length=sn at *;generalize ll.length=ln at *;clear hS hL hr hs
      rcases hs3 with h1 | ⟨h1,h2⟩ | ⟨h1,h2,h3⟩
      · have h1':(12:Int) < (sn:Int):=by omega
        go_enter Tryz.func92,Tryz.ntmps92
        go_wp2
        go_ret
        exact ⟨rfl,hA _⟩
      · have h1':¬ (12:Int) < (sn:Int):=by omega
        have h2':(ln:Int) < 1:=by omega
        go_enter Tryz.func92,Tryz.ntmps92
        go_wp2
        go_ret
        exact ⟨rfl,hA _⟩
      · have h1':¬ (12:Int) < (sn:Int):=by omega
        have h2':¬ (ln:Int) < 1:=by omega
        have h3':(12:Int) < (ln:Int):=by omega
        go_enter Tryz.func92,Tryz.ntmps92
        go_wp2
        go_ret
        exact ⟨rfl,hA _⟩
    · have hs1:ss.length <= 12:=by omega
      have hl1:1 <= ll.length:=by omega
      have hl2:ll.length <= 12:=by omega
      have hA2:∀ o o',Below w.heap.size w ((w.alloc o).alloc o'):=fun o o'=>(hA o).alloc (by simp) o'
      have hco:Calls Tryz.prog 93 #[.slice (some ⟨w.heap.size+1,0,none⟩) 2 2] ((w.alloc (.cells #[.slice so ss.length sc,.slice lo ll.length lc] 83)).alloc (.cells #[.slice so ss.length sc,.slice lo ll.length lc] 78)) fun e w'=>∃ B cap,e=.returned (.slice (some ⟨B,0,none⟩) (ss.length+ll.length) cap)/\Below w.heap.size w w'/\Hid (zAS w' (.slice (some ⟨B,0,none⟩) (ss.length+ll.length) cap) (ss++ll)):=
        (zM7 (w.heap.size+1) _ _ ss ll _ hs1 hl2 hl1 (hS.below (hA2 _ _)) (hL.below (hA2 _ _)) (by simp [go_sem]) (by simp [go_sem])).mono fun e w' ⟨B,cap,h1,h2,h3⟩=>⟨B,cap,h1,(hA2 _ _).trans (h2.mono (by simp;omega)),h3⟩
      have HOk:=fun h=>(show Hid _ from zJH (ss:=ss) (ll:=ll) hr hs h)
      have HFo:=fun h=>(show Hid _ from zHC (ss:=ss) (ll:=ll) hr hs h)
      have HLen:Hid ((ss++ll).length=ss.length+ll.length):=List.length_append;generalize zCM props ss ll=wc at *;obtain ⟨n,hn⟩:∃ n,n=ss.length+ll.length:=⟨_,rfl⟩
      rw [<- hn] at hco HLen;have hn24:n <= 24:=by omega
      generalize ss.length=sn at *;generalize ll.length=ln at *;have HN:Hid (n=sn+ln):=hn;clear hS hL hr hs hn hA2;have g1:¬ (12:Int) < (sn:Int):=by omega
      have g2:¬ (ln:Int) < 1:=by omega
      have g3:¬ (12:Int) < (ln:Int):=by omega
      go_enter Tryz.func92,Tryz.ntmps92
      go_wp2_with (go_at_call 93;refine hco.mono ?_;rintro e w1 ⟨B,cap,rfl,hb1,HL⟩)
      clear hco
      go_loop [36] (fun i=>∃ k:Nat,k <= n/\i=.int .i64 (k:Int)/\Hid (∀ j,j < k->(((ss++ll).getD j []).length:Int)=props)) (fun i=>n - (intOf i).toNat)
      case atStart=>exact ⟨0,Nat.zero_le _,rfl,fun j hj=>absurd hj (Nat.not_lt_zero _)⟩
      case round=>
        obtain ⟨k,hk,rfl,HAll⟩:=hrel
        by_cases hlt:k < n
        · obtain ⟨b,off,hbo,_,u,hcu,hbu⟩:=HL.out.at (i:=k) (by rw [HLen.out];exact hlt)
          obtain ⟨rfl,rfl⟩:B=b/\0=off:=by simpa using hbo
          obtain ⟨uo,uc,rfl,_⟩:=hbu;simp only [Nat.zero_add] at hcu
          by_cases hx:(((ss++ll).getD k []).length:Int)=props
          · have HNx:Hid (∀ j,j < k+1->(((ss++ll).getD j []).length:Int)=props):=fun j hj=>by
              by_cases hjk:j < k
              · exact HAll.out j hjk
              · obtain rfl:j=k:=by omega
                exact hx
            generalize ((ss++ll).getD k []).length=xn at *;clear HAll
            go_wp2
            go_round
            case rel=>exact ⟨k+1,hlt,by go_num,HNx⟩
            case measure=>simp [intOf];omega
          · have HW:Hid (wc=3):=(HFo (zJS (by rw [HLen.out];exact hlt) hx)).out
            generalize ((ss++ll).getD k []).length=xn at *;clear HAll
            go_wp2
            go_ret
            rw [HW.out];exact ⟨rfl,hb1⟩
        · obtain rfl:k=n:=by omega
          have HW:Hid (wc=0):=(HOk (zK9 fun i hi=>HAll.out i (by rw [HLen.out] at hi;exact hi))).out
          go_wp2
          go_ret
          rw [HW.out];exact ⟨rfl,hb1⟩
structure TabIn (w:World) (bt bp b off n cap B:Nat) (aao:Option Addr) (an ac lb m lcap s R p:Nat) (l:List (Int × Int)) (ls:List (List Bool)) (h:Nat->Nat->Bool):Prop where
 c0:w.cell? ⟨bt,0,none⟩=some (.slice (some ⟨b,off,none⟩) n cap)
 c1:w.cell? ⟨bt,1,none⟩=some (.slice (some ⟨B,0,none⟩) n n)
 c2:w.cell? ⟨bt,2,none⟩=some (.slice aao an ac)
 c3:w.cell? ⟨bt,3,none⟩=some (.slice (some ⟨lb,0,none⟩) m lcap)
 c4:w.cell? ⟨bt,4,none⟩=some (.int .i64 (s:Int))
 c5:w.cell? ⟨bt,5,none⟩=some (.slice (some ⟨R,0,none⟩) n n)
 cp:w.cell? ⟨bp,0,none⟩=some (.int .i64 (p:Int))
 ends : ∀ j, j < n -> w.cell? ⟨B, j, none⟩ = some (.int .i64 (zAi (l.map Prod.fst) j : Int))
 lets:zAS w (.slice (some ⟨lb,0,none⟩) m lcap) ls
 rows:∀ q,p < q->q < n->∃ rb ro rc,w.cell? ⟨R,q,none⟩=some (.slice (some ⟨rb,ro,none⟩) m rc)/\rb < w.heap.size/\∀ j,j < m->w.cell? ⟨rb,ro+j,none⟩=some (.bool (h q j))
 hbt:bt < w.heap.size
 hbp:bp < w.heap.size
 hB:B < w.heap.size
 hR:R < w.heap.size
 hm:ls.length=m
 hn:n <= 60
 hm24:m <= 24
 hs:s < m
theorem TabIn.below {w w':World} {bt bp b off n cap B:Nat} {aao:Option Addr} {an ac lb m lcap s R p:Nat} {l:List (Int × Int)} {ls:List (List Bool)} {h:Nat->Nat->Bool} (t:TabIn w bt bp b off n cap B aao an ac lb m lcap s R p l ls h) (hb:Below w.heap.size w w'):TabIn w' bt bp b off n cap B aao an ac lb m lcap s R p l ls h:=
 ⟨(hb.cell (p:=⟨bt,0,none⟩) t.hbt).trans t.c0,(hb.cell (p:=⟨bt,1,none⟩) t.hbt).trans t.c1,(hb.cell (p:=⟨bt,2,none⟩) t.hbt).trans t.c2,(hb.cell (p:=⟨bt,3,none⟩) t.hbt).trans t.c3,(hb.cell (p:=⟨bt,4,none⟩) t.hbt).trans t.c4,(hb.cell (p:=⟨bt,5,none⟩) t.hbt).trans t.c5,(hb.cell (p:=⟨bp,0,none⟩) t.hbp).trans t.cp,fun j hj=>(hb.cell (p:=⟨B,j,none⟩) t.hB).trans (t.ends j hj),t.lets.below hb,fun q h1 h2=>by
  obtain ⟨rb,ro,rc,e1,e2,e3⟩:=t.rows q h1 h2;exact ⟨rb,ro,rc,(hb.cell (p:=⟨R,q,none⟩) t.hR).trans e1,Nat.lt_of_lt_of_le e2 hb.size,fun j hj=>(hb.cell (p:=⟨rb,ro+j,none⟩) e2).trans (e3 j hj)⟩,
  Nat.lt_of_lt_of_le t.hbt hb.size,Nat.lt_of_lt_of_le t.hbp hb.size,Nat.lt_of_lt_of_le t.hB hb.size,Nat.lt_of_lt_of_le t.hR hb.size,t.hm,t.hn,t.hm24,t.hs⟩
theorem zDW (w:World) (bt bp b off n cap B:Nat) (aao:Option Addr) (an ac lb m lcap s R p:Nat) (l:List (Int × Int)) (ls:List (List Bool)) (h:Nat->Nat->Bool) (mo:Nat) (hT:TabIn w bt bp b off n cap B aao an ac lb m lcap s R p l ls h) (hp:p+1 < n) (hmo:mo < m) :
  Calls Tryz.prog 126 #[.int .i64 (mo:Int),.pointer (some ⟨bt,0,none⟩),.pointer (some ⟨bp,0,none⟩)] w fun e w'=>e=.returned (.bool (h (p+1) mo))/\w'=w:=by
 obtain ⟨rb,ro,rc,e1,e2,e3⟩:=hT.rows (p+1) (by omega) hp
 have e4:=e3 mo hmo;have c5:=hT.c5;have cp:=hT.cp;have hn:=hT.hn;have hm:=hT.hm24;generalize h (p+1) mo=x at *;clear e3 hT
 go_enter Tryz.func126,Tryz.ntmps126
 go_wp2_with fail
 go_ret
 exact ⟨rfl,rfl⟩
theorem zFr (w:World) (bt bp b off n cap B:Nat) (aao:Option Addr) (an ac lb m lcap s R p:Nat) (l:List (Int × Int)) (ls:List (List Bool)) (h:Nat->Nat->Bool) (mo:Nat) (hT:TabIn w bt bp b off n cap B aao an ac lb m lcap s R p l ls h) (hp:p+1 < n) (hs1:p < sec l p) (hs2:sec l p < n) (hmo:mo < m) :
  Calls Tryz.prog 127 #[.int .i64 (mo:Int),.pointer (some ⟨bt,0,none⟩),.pointer (some ⟨bp,0,none⟩)] w fun e w'=>e=.returned (.bool (h (sec l p) mo))/\∃ q,w'=w.drewN q:=by
 obtain ⟨rb,ro,rc,e1,e2,e3⟩:=hT.rows (sec l p) hs1 hs2;have e4:=e3 mo hmo;have c5:=hT.c5;have c1:=hT.c1;have cp:=hT.cp;have hn:=hT.hn;have hm:=hT.hm24;have ce:w.cell? ⟨B,p+1,none⟩=some (.int .i64 (sec l p:Int)):=hT.ends (p+1) hp;generalize h (sec l p) mo=x at *;generalize sec l p=sn at *;clear e3 hT
 go_enter Tryz.func127,Tryz.ntmps127
 go_wp2_with fail
 go_quiet (fail)
 go_wp2_with fail
 go_ret
 exact ⟨rfl,_,rfl⟩
theorem zSf (w:World) (bt bp b off n cap B:Nat) (aao:Option Addr) (an ac lb m lcap s R p:Nat) (l:List (Int × Int)) (ls:List (List Bool)) (h:Nat->Nat->Bool) (bo:Nat) (v:Int) (x:Bool) (mo:Nat) (hT:TabIn w bt bp b off n cap B aao an ac lb m lcap s R p l ls h) (hmo:mo < m) (ho:w.cell? ⟨bo,1,none⟩=some (.int .i64 v)) (hv0:0 <= v) (hv:v < ((ls.getD mo []).length:Int)) :
  Calls Tryz.prog 128 #[.int .i64 (mo:Int),.bool x,.pointer (some ⟨bt,0,none⟩),.pointer (some ⟨bo,0,none⟩)] w fun e w'=>e=.returned (.bool ((ls.getD mo []).getD v.toNat false))/\∃ q,w'=w.drewN q:=by
 obtain ⟨lb',lo,e0,hlb,u,hcu,hbu⟩:=hT.lets.at (i:=mo) (by rw [hT.hm];exact hmo)
 obtain ⟨rfl,rfl⟩:lb=lb'/\0=lo:=by simpa using e0
 obtain ⟨uo,uc,rfl,hu⟩:=hbu;obtain ⟨ub,uoff,rfl,hubl,hat⟩:=hu (by intro hh;rw [hh] at hv;simp at hv;omega)
 obtain ⟨vn,rfl⟩:∃ vn:Nat,v=vn:=⟨v.toNat,by omega⟩
 have cu:=hat vn (by omega)
 have c3:=hT.c3;have hm:=hT.hm24;simp only [Int.toNat_natCast,Nat.zero_add] at *;generalize (ls.getD mo []).getD vn false=y at *;generalize (ls.getD mo []).length=xn at *;have hvn:vn < xn:=by omega
 clear hat hu hT e0
 go_enter Tryz.func128,Tryz.ntmps128
 go_wp2_with fail
 go_quiet (fail)
 go_wp2_with fail
 go_ret
 exact ⟨rfl,_,rfl⟩
theorem zJA (b off n cap B:Nat) (aao:Option Addr) (an ac lb m lcap s R:Nat) (now:Nat) (w:World) (hm:m <= 24) (hnow:now < m) :
  Calls Tryz.prog 125 #[.agg #[.slice (some ⟨b,off,none⟩) n cap,.slice (some ⟨B,0,none⟩) n n,.slice aao an ac,.slice (some ⟨lb,0,none⟩) m lcap,.int .i64 (s:Int),.slice (some ⟨R,0,none⟩) n n],.int .i64 (now:Int)] w fun e w'=>e=.returned (.int .i64 ((if now=m - 1 then s else now+1:Nat):Int))/\Below w.heap.size w w':=by
 have hA:∀ o,Below w.heap.size w (w.alloc o):=fun o=>(Below.refl _ _).alloc (Nat.le_refl _) o
 by_cases hl:now=m - 1
 ·rw [if_pos hl]
  have hl':(now:Int)=(m:Int) - 1:=by omega
  rw [hl'];clear hl hl' hnow
  go_enter Tryz.func125,Tryz.ntmps125
  go_wp2_with fail
  go_ret
  exact ⟨rfl,hA _⟩
 ·rw [if_neg hl]
  have hl':¬ (now:Int)=(m:Int) - 1:=by omega
  clear hl
  go_enter Tryz.func125,Tryz.ntmps125
  go_wp2_with fail
  go_ret
  exact ⟨by simp,hA _⟩
def zNs (w:World) (F:Value) (m:Nat) (u v:Nat->Bool):Prop:=∃ f caps,F=.func (.func f) #[] caps/\(∀ args w,(callFunc f args).run Tryz.prog w=.ok (.enter f args) w)/\∀ w',Below w.heap.size w w'->∀ (now:Nat) (x:Bool),now < m->Calls Tryz.prog f (#[.int .i64 (now:Int),.bool x]++caps) w' fun e w2=>e=.returned (.bool (u now||(v now&&x)))/\Below w'.heap.size w' w2
structure FunIn (w:World) (bt bp bf bs:Nat):Prop where
 f1:w.cell? ⟨bf,0,none⟩=some (.func (.func 126) #[] #[.pointer (some ⟨bt,0,none⟩),.pointer (some ⟨bp,0,none⟩)])
 f2:w.cell? ⟨bs,0,none⟩=some (.func (.func 127) #[] #[.pointer (some ⟨bt,0,none⟩),.pointer (some ⟨bp,0,none⟩)])
 hbf:bf < w.heap.size
 hbs:bs < w.heap.size
theorem FunIn.below {w w':World} {bt bp bf bs:Nat} (t:FunIn w bt bp bf bs) (hb:Below w.heap.size w w'):FunIn w' bt bp bf bs:=
 ⟨(hb.cell (p:=⟨bf,0,none⟩) t.hbf).trans t.f1,(hb.cell (p:=⟨bs,0,none⟩) t.hbs).trans t.f2,Nat.lt_of_lt_of_le t.hbf hb.size,Nat.lt_of_lt_of_le t.hbs hb.size⟩
theorem zS4 (w:World) (bt bp b off n cap B:Nat) (aao:Option Addr) (an ac lb m lcap s R p:Nat) (l:List (Int × Int)) (ls:List (List Bool)) (h:Nat->Nat->Bool) (bf bs:Nat) (now:Nat) (x:Bool) (hT:TabIn w bt bp b off n cap B aao an ac lb m lcap s R p l ls h) (hF:FunIn w bt bp bf bs) (hp:p+1 < n) (hnow:now < m) :
  Calls Tryz.prog 130 #[.int .i64 (now:Int),.bool x,.pointer (some ⟨bf,0,none⟩)] w fun e w'=>e=.returned (.bool (!h (p+1) now))/\w'=w:=by
 have hf:=zDW w bt bp b off n cap B aao an ac lb m lcap s R p l ls h now hT hp hnow;have f1:=hF.f1;generalize h (p+1) now=y at *;clear hT hF
 cases y
 all_goals
  go_enter Tryz.func130,Tryz.ntmps130
  go_wp2_with (go_at_call 126;refine hf.mono ?_;rintro e w1 ⟨rfl,hw1⟩;obtain rfl:=hw1.symm)
  go_ret
  exact ⟨by first | rfl | simp,rfl⟩
theorem zSz (w:World) (bt bp b off n cap B:Nat) (aao:Option Addr) (an ac lb m lcap s R p:Nat) (l:List (Int × Int)) (ls:List (List Bool)) (h:Nat->Nat->Bool) (bf bs:Nat) (now:Nat) (x:Bool) (hT:TabIn w bt bp b off n cap B aao an ac lb m lcap s R p l ls h) (hF:FunIn w bt bp bf bs) (hp:p+1 < n) (hnow:now < m) :
  Calls Tryz.prog 134 #[.int .i64 (now:Int),.bool x,.pointer (some ⟨bf,0,none⟩)] w fun e w'=>e=.returned (.bool (h (p+1) now||x))/\w'=w:=by
 have hf:=zDW w bt bp b off n cap B aao an ac lb m lcap s R p l ls h now hT hp hnow;have f1:=hF.f1;generalize h (p+1) now=y at *;clear hT hF
 cases y
 all_goals
  go_enter Tryz.func134,Tryz.ntmps134
  go_wp2_with (go_at_call 126;refine hf.mono ?_;rintro e w1 ⟨rfl,hw1⟩;obtain rfl:=hw1.symm)
  go_ret
  exact ⟨by first | rfl | simp,rfl⟩
theorem zRv (w:World) (bt bp b off n cap B:Nat) (aao:Option Addr) (an ac lb m lcap s R p:Nat) (l:List (Int × Int)) (ls:List (List Bool)) (h:Nat->Nat->Bool) (bf bs:Nat) (now:Nat) (x:Bool) (hT:TabIn w bt bp b off n cap B aao an ac lb m lcap s R p l ls h) (hF:FunIn w bt bp bf bs) (hp:p+1 < n) (hnow:now < m) :
  Calls Tryz.prog 135 #[.int .i64 (now:Int),.bool x,.pointer (some ⟨bf,0,none⟩)] w fun e w'=>e=.returned (.bool (h (p+1) now&&x))/\w'=w:=by
 have hf:=zDW w bt bp b off n cap B aao an ac lb m lcap s R p l ls h now hT hp hnow;have f1:=hF.f1;generalize h (p+1) now=y at *;clear hT hF
 cases y
 all_goals
  go_enter Tryz.func135,Tryz.ntmps135
  go_wp2_with (go_at_call 126;refine hf.mono ?_;rintro e w1 ⟨rfl,hw1⟩;obtain rfl:=hw1.symm)
  go_ret
  exact ⟨by first | rfl | simp,rfl⟩
theorem zTC (w:World) (bt bp b off n cap B:Nat) (aao:Option Addr) (an ac lb m lcap s R p:Nat) (l:List (Int × Int)) (ls:List (List Bool)) (h:Nat->Nat->Bool) (bf bs:Nat) (now:Nat) (x:Bool) (hT:TabIn w bt bp b off n cap B aao an ac lb m lcap s R p l ls h) (hF:FunIn w bt bp bf bs) (hp:p+1 < n) (hs1:p < sec l p) (hs2:sec l p < n) (hnow:now < m) :
  Calls Tryz.prog 131 #[.int .i64 (now:Int),.bool x,.pointer (some ⟨bf,0,none⟩),.pointer (some ⟨bs,0,none⟩)] w fun e w'=>e=.returned (.bool (h (p+1) now&&h (sec l p) now))/\∃ q,w'=w.drewN q:=by
 have hf:=fun q=>zDW (w.drewN q) bt bp b off n cap B aao an ac lb m lcap s R p l ls h now (hT.below (below_drewN (Below.refl _ _) q)) hp hnow
 have hs:=fun q=>zFr (w.drewN q) bt bp b off n cap B aao an ac lb m lcap s R p l ls h now (hT.below (below_drewN (Below.refl _ _) q)) hp hs1 hs2 hnow
 have f1:=hF.f1;have f2:=hF.f2;generalize h (p+1) now=y at *;generalize h (sec l p) now=z at *;clear hT hF
 cases y <;> cases z
 all_goals
  go_enter Tryz.func131,Tryz.ntmps131
  go_wp2_with (first | (go_at_call 126;first | (refine (hf 0).mono ?_;rintro e w1 ⟨rfl,hw1⟩;obtain rfl:=hw1.symm) | (refine (hf _).mono ?_;rintro e w1 ⟨rfl,hw1⟩;obtain rfl:=hw1.symm)) | (go_at_call 127;first | (refine (hs 0).mono ?_;rintro e w1 ⟨rfl,q1,rfl⟩) | (refine (hs _).mono ?_;rintro e w1 ⟨rfl,q1,rfl⟩)))
  go_ret
  exact ⟨by first | rfl | simp,by first | exact ⟨0,rfl⟩ | exact ⟨_,rfl⟩ | exact ⟨_,World.drewN_drewN _ _ _⟩ | (exact ⟨_,by simp only [World.drewN_drewN];rfl⟩)⟩
theorem zSa (w:World) (bt bp b off n cap B:Nat) (aao:Option Addr) (an ac lb m lcap s R p:Nat) (l:List (Int × Int)) (ls:List (List Bool)) (h:Nat->Nat->Bool) (bf bs:Nat) (now:Nat) (x:Bool) (hT:TabIn w bt bp b off n cap B aao an ac lb m lcap s R p l ls h) (hF:FunIn w bt bp bf bs) (hp:p+1 < n) (hs1:p < sec l p) (hs2:sec l p < n) (hnow:now < m) :
  Calls Tryz.prog 132 #[.int .i64 (now:Int),.bool x,.pointer (some ⟨bf,0,none⟩),.pointer (some ⟨bs,0,none⟩)] w fun e w'=>e=.returned (.bool (h (p+1) now||h (sec l p) now))/\∃ q,w'=w.drewN q:=by
 have hf:=fun q=>zDW (w.drewN q) bt bp b off n cap B aao an ac lb m lcap s R p l ls h now (hT.below (below_drewN (Below.refl _ _) q)) hp hnow
 have hs:=fun q=>zFr (w.drewN q) bt bp b off n cap B aao an ac lb m lcap s R p l ls h now (hT.below (below_drewN (Below.refl _ _) q)) hp hs1 hs2 hnow
 have f1:=hF.f1;have f2:=hF.f2;generalize h (p+1) now=y at *;generalize h (sec l p) now=z at *;clear hT hF
 cases y <;> cases z
 all_goals
  go_enter Tryz.func132,Tryz.ntmps132
  go_wp2_with (first | (go_at_call 126;first | (refine (hf 0).mono ?_;rintro e w1 ⟨rfl,hw1⟩;obtain rfl:=hw1.symm) | (refine (hf _).mono ?_;rintro e w1 ⟨rfl,hw1⟩;obtain rfl:=hw1.symm)) | (go_at_call 127;first | (refine (hs 0).mono ?_;rintro e w1 ⟨rfl,q1,rfl⟩) | (refine (hs _).mono ?_;rintro e w1 ⟨rfl,q1,rfl⟩)))
  go_ret
  exact ⟨by first | rfl | simp,by first | exact ⟨0,rfl⟩ | exact ⟨_,rfl⟩ | exact ⟨_,World.drewN_drewN _ _ _⟩ | (exact ⟨_,by simp only [World.drewN_drewN];rfl⟩)⟩
theorem zSA (w:World) (bt bp b off n cap B:Nat) (aao:Option Addr) (an ac lb m lcap s R p:Nat) (l:List (Int × Int)) (ls:List (List Bool)) (h:Nat->Nat->Bool) (bf bs:Nat) (now:Nat) (x:Bool) (hT:TabIn w bt bp b off n cap B aao an ac lb m lcap s R p l ls h) (hF:FunIn w bt bp bf bs) (hp:p+1 < n) (hs1:p < sec l p) (hs2:sec l p < n) (hnow:now < m) :
  Calls Tryz.prog 136 #[.int .i64 (now:Int),.bool x,.pointer (some ⟨bs,0,none⟩),.pointer (some ⟨bf,0,none⟩)] w fun e w'=>e=.returned (.bool (h (sec l p) now||(h (p+1) now&&x)))/\∃ q,w'=w.drewN q:=by
 have hf:=fun q=>zDW (w.drewN q) bt bp b off n cap B aao an ac lb m lcap s R p l ls h now (hT.below (below_drewN (Below.refl _ _) q)) hp hnow
 have hs:=fun q=>zFr (w.drewN q) bt bp b off n cap B aao an ac lb m lcap s R p l ls h now (hT.below (below_drewN (Below.refl _ _) q)) hp hs1 hs2 hnow
 have f1:=hF.f1;have f2:=hF.f2;generalize h (p+1) now=y at *;generalize h (sec l p) now=z at *;clear hT hF
 cases y <;> cases z
 all_goals
  go_enter Tryz.func136,Tryz.ntmps136
  go_wp2_with (first | (go_at_call 126;first | (refine (hf 0).mono ?_;rintro e w1 ⟨rfl,hw1⟩;obtain rfl:=hw1.symm) | (refine (hf _).mono ?_;rintro e w1 ⟨rfl,hw1⟩;obtain rfl:=hw1.symm)) | (go_at_call 127;first | (refine (hs 0).mono ?_;rintro e w1 ⟨rfl,q1,rfl⟩) | (refine (hs _).mono ?_;rintro e w1 ⟨rfl,q1,rfl⟩)))
  go_ret
  exact ⟨by first | rfl | simp,by first | exact ⟨0,rfl⟩ | exact ⟨_,rfl⟩ | exact ⟨_,World.drewN_drewN _ _ _⟩ | (exact ⟨_,by simp only [World.drewN_drewN];rfl⟩)⟩
theorem zSV (w:World) (bt bp b off n cap B:Nat) (aao:Option Addr) (an ac lb m lcap s R p:Nat) (l:List (Int × Int)) (ls:List (List Bool)) (h:Nat->Nat->Bool) (bf bs:Nat) (now:Nat) (x:Bool) (hT:TabIn w bt bp b off n cap B aao an ac lb m lcap s R p l ls h) (hF:FunIn w bt bp bf bs) (hp:p+1 < n) (hs1:p < sec l p) (hs2:sec l p < n) (hnow:now < m) :
  Calls Tryz.prog 137 #[.int .i64 (now:Int),.bool x,.pointer (some ⟨bs,0,none⟩),.pointer (some ⟨bf,0,none⟩)] w fun e w'=>e=.returned (.bool (h (sec l p) now&&(h (p+1) now||x)))/\∃ q,w'=w.drewN q:=by
 have hf:=fun q=>zDW (w.drewN q) bt bp b off n cap B aao an ac lb m lcap s R p l ls h now (hT.below (below_drewN (Below.refl _ _) q)) hp hnow
 have hs:=fun q=>zFr (w.drewN q) bt bp b off n cap B aao an ac lb m lcap s R p l ls h now (hT.below (below_drewN (Below.refl _ _) q)) hp hs1 hs2 hnow
 have f1:=hF.f1;have f2:=hF.f2;generalize h (p+1) now=y at *;generalize h (sec l p) now=z at *;clear hT hF
 cases y <;> cases z
 all_goals
  go_enter Tryz.func137,Tryz.ntmps137
  go_wp2_with (first | (go_at_call 126;first | (refine (hf 0).mono ?_;rintro e w1 ⟨rfl,hw1⟩;obtain rfl:=hw1.symm) | (refine (hf _).mono ?_;rintro e w1 ⟨rfl,hw1⟩;obtain rfl:=hw1.symm)) | (go_at_call 127;first | (refine (hs 0).mono ?_;rintro e w1 ⟨rfl,q1,rfl⟩) | (refine (hs _).mono ?_;rintro e w1 ⟨rfl,q1,rfl⟩)))
  go_ret
  exact ⟨by first | rfl | simp,by first | exact ⟨0,rfl⟩ | exact ⟨_,rfl⟩ | exact ⟨_,World.drewN_drewN _ _ _⟩ | (exact ⟨_,by simp only [World.drewN_drewN];rfl⟩)⟩
theorem zSd (w:World) (bt bp b off n cap B:Nat) (aao:Option Addr) (an ac lb m lcap s R p:Nat) (l:List (Int × Int)) (ls:List (List Bool)) (h:Nat->Nat->Bool) (bf bs:Nat) (now:Nat) (x:Bool) (hT:TabIn w bt bp b off n cap B aao an ac lb m lcap s R p l ls h) (hF:FunIn w bt bp bf bs) (hp:p+1 < n) (hnow:now < m) :
  Calls Tryz.prog 133 #[.int .i64 (now:Int),.bool x,.pointer (some ⟨bf,0,none⟩),.pointer (some ⟨bt,0,none⟩)] w fun e w'=>e=.returned (.bool (h (p+1) (if now=m - 1 then s else now+1)))/\Below w.heap.size w w':=by
 have haf:=fun w1=>zJA b off n cap B aao an ac lb m lcap s R now w1 hT.hm24 hnow
 have hlt:(if now=m - 1 then s else now+1) < m:=by have:=hT.hs;split <;> omega
 generalize (if now=m - 1 then s else now+1)=nx at *
 have HF:Hid (∀ w1,Below w.heap.size w w1->Calls Tryz.prog 126 #[.int .i64 (nx:Int),.pointer (some ⟨bt,0,none⟩),.pointer (some ⟨bp,0,none⟩)] w1 fun e w'=>e=.returned (.bool (h (p+1) nx))/\w'=w1):=fun w1 hb=>zDW w1 bt bp b off n cap B aao an ac lb m lcap s R p l ls h nx (hT.below hb) hp hlt
 have HS:Hid (∀ w1,Below w.heap.size w w1->w1.cell? ⟨bf,0,none⟩=some (.func (.func 126) #[] #[.pointer (some ⟨bt,0,none⟩),.pointer (some ⟨bp,0,none⟩)])/\w1.cell? ⟨bt,0,none⟩=some (.slice (some ⟨b,off,none⟩) n cap)/\w1.cell? ⟨bt,1,none⟩=some (.slice (some ⟨B,0,none⟩) n n)/\w1.cell? ⟨bt,2,none⟩=some (.slice aao an ac)/\w1.cell? ⟨bt,3,none⟩=some (.slice (some ⟨lb,0,none⟩) m lcap)/\w1.cell? ⟨bt,4,none⟩=some (.int .i64 (s:Int))/\w1.cell? ⟨bt,5,none⟩=some (.slice (some ⟨R,0,none⟩) n n)/\Below w.heap.size w w1):=fun w1 hb=>by
  have t:=hT.below hb;exact ⟨(hF.below hb).f1,t.c0,t.c1,t.c2,t.c3,t.c4,t.c5,hb⟩
 have hS:=HS.out;have hB0:Below w.heap.size w w:=Below.refl _ _;generalize h (p+1) nx=y at *;clear hT hF
 go_enter Tryz.func133,Tryz.ntmps133
 go_wp2_with fail
 go_region_held3 (fun w'=>w'.cell? ⟨bf,0,none⟩=some (.func (.func 126) #[] #[.pointer (some ⟨bt,0,none⟩),.pointer (some ⟨bp,0,none⟩)])/\w'.cell? ⟨bt,0,none⟩=some (.slice (some ⟨b,off,none⟩) n cap)/\w'.cell? ⟨bt,1,none⟩=some (.slice (some ⟨B,0,none⟩) n n)/\w'.cell? ⟨bt,2,none⟩=some (.slice aao an ac)/\w'.cell? ⟨bt,3,none⟩=some (.slice (some ⟨lb,0,none⟩) m lcap)/\w'.cell? ⟨bt,4,none⟩=some (.int .i64 (s:Int))/\w'.cell? ⟨bt,5,none⟩=some (.slice (some ⟨R,0,none⟩) n n)/\Below w.heap.size w w')
  (exact hS _ (by first | exact hB0 | exact hB0.drew | exact hb4))
  (first | (go_at_call 125;refine (haf _).mono ?_;rintro e w4 ⟨rfl,hb4'⟩;have hb4:=hB0.drew.trans (hb4'.mono hB0.drew.size)) | (go_at_call 126;refine (HF.out _ hb4).mono ?_;rintro e w5 ⟨rfl,hw5⟩;obtain rfl:=hw5.symm))
 go_wp2_with fail
 go_ret
 exact ⟨rfl,hb4⟩
theorem zSx (w:World) (now:Nat) (x:Bool):Calls Tryz.prog 129 #[.int .i64 (now:Int),.bool x] w fun e w'=>e=.returned (.bool true)/\w'=w:=by
 go_enter Tryz.func129,Tryz.ntmps129
 go_wp2_with fail
 go_ret
 exact ⟨rfl,rfl⟩
theorem zRb (w:World) (now:Nat) (x:Bool):Calls Tryz.prog 138 #[.int .i64 (now:Int),.bool x] w fun e w'=>e=.returned (.bool false)/\w'=w:=by
 go_enter Tryz.func138,Tryz.ntmps138
 go_wp2_with fail
 go_ret
 exact ⟨rfl,rfl⟩
theorem zRh (b off n cap B:Nat) (aao:Option Addr) (an ac lb m lcap s R p:Nat) (v:Int) (w:World) (hp:p < n) (c0:w.cell? ⟨b,off+p*2,none⟩=some (.int .i64 13)) (c1:w.cell? ⟨b,off+p*2+1,none⟩=some (.int .i64 v)) :
  Calls Tryz.prog 96 #[.agg #[.slice (some ⟨b,off,none⟩) n cap,.slice (some ⟨B,0,none⟩) n n,.slice aao an ac,.slice (some ⟨lb,0,none⟩) m lcap,.int .i64 (s:Int),.slice (some ⟨R,0,none⟩) n n],.int .i64 (p:Int)] w fun e w'=>e=.returned (.func (.func 128) #[] #[.pointer (some ⟨w.heap.size,0,none⟩),.pointer (some ⟨w.heap.size+1+1,0,none⟩)])/\w'=(((((w.alloc (.cells #[.slice (some ⟨b,off,none⟩) n cap,.slice (some ⟨B,0,none⟩) n n,.slice aao an ac,.slice (some ⟨lb,0,none⟩) m lcap,.int .i64 (s:Int),.slice (some ⟨R,0,none⟩) n n] 152)).alloc (.cells #[.int .i64 (p:Int)] 3)).alloc (.cells #[.int .i64 13,.int .i64 v] 69)).alloc (.cells #[.func (.func 126) #[] #[.pointer (some ⟨w.heap.size,0,none⟩),.pointer (some ⟨w.heap.size+1,0,none⟩)]] 138)).alloc (.cells #[.func (.func 127) #[] #[.pointer (some ⟨w.heap.size,0,none⟩),.pointer (some ⟨w.heap.size+1,0,none⟩)]] 138)):=by
 have hb:=World.block_lt_of_cell? w ⟨b,off+p*2,none⟩ c0
 go_enter Tryz.func96,Tryz.ntmps96
 go_wp2_with fail
 go_ret
 exact ⟨rfl,rfl⟩
theorem zRw (b off n cap B:Nat) (aao:Option Addr) (an ac lb m lcap s R p:Nat) (v:Int) (w:World) (hp:p < n) (c0:w.cell? ⟨b,off+p*2,none⟩=some (.int .i64 11)) (c1:w.cell? ⟨b,off+p*2+1,none⟩=some (.int .i64 v)) :
  Calls Tryz.prog 96 #[.agg #[.slice (some ⟨b,off,none⟩) n cap,.slice (some ⟨B,0,none⟩) n n,.slice aao an ac,.slice (some ⟨lb,0,none⟩) m lcap,.int .i64 (s:Int),.slice (some ⟨R,0,none⟩) n n],.int .i64 (p:Int)] w fun e w'=>e=.returned (.func (.func 129) #[] #[])/\w'=(((((w.alloc (.cells #[.slice (some ⟨b,off,none⟩) n cap,.slice (some ⟨B,0,none⟩) n n,.slice aao an ac,.slice (some ⟨lb,0,none⟩) m lcap,.int .i64 (s:Int),.slice (some ⟨R,0,none⟩) n n] 152)).alloc (.cells #[.int .i64 (p:Int)] 3)).alloc (.cells #[.int .i64 11,.int .i64 v] 69)).alloc (.cells #[.func (.func 126) #[] #[.pointer (some ⟨w.heap.size,0,none⟩),.pointer (some ⟨w.heap.size+1,0,none⟩)]] 138)).alloc (.cells #[.func (.func 127) #[] #[.pointer (some ⟨w.heap.size,0,none⟩),.pointer (some ⟨w.heap.size+1,0,none⟩)]] 138)):=by
 have hb:=World.block_lt_of_cell? w ⟨b,off+p*2,none⟩ c0
 go_enter Tryz.func96,Tryz.ntmps96
 go_wp2_with fail
 go_ret
 exact ⟨rfl,rfl⟩
theorem zRS (b off n cap B:Nat) (aao:Option Addr) (an ac lb m lcap s R p:Nat) (v:Int) (w:World) (hp:p < n) (c0:w.cell? ⟨b,off+p*2,none⟩=some (.int .i64 10)) (c1:w.cell? ⟨b,off+p*2+1,none⟩=some (.int .i64 v)) :
  Calls Tryz.prog 96 #[.agg #[.slice (some ⟨b,off,none⟩) n cap,.slice (some ⟨B,0,none⟩) n n,.slice aao an ac,.slice (some ⟨lb,0,none⟩) m lcap,.int .i64 (s:Int),.slice (some ⟨R,0,none⟩) n n],.int .i64 (p:Int)] w fun e w'=>e=.returned (.func (.func 130) #[] #[.pointer (some ⟨w.heap.size+1+1+1,0,none⟩)])/\w'=(((((w.alloc (.cells #[.slice (some ⟨b,off,none⟩) n cap,.slice (some ⟨B,0,none⟩) n n,.slice aao an ac,.slice (some ⟨lb,0,none⟩) m lcap,.int .i64 (s:Int),.slice (some ⟨R,0,none⟩) n n] 152)).alloc (.cells #[.int .i64 (p:Int)] 3)).alloc (.cells #[.int .i64 10,.int .i64 v] 69)).alloc (.cells #[.func (.func 126) #[] #[.pointer (some ⟨w.heap.size,0,none⟩),.pointer (some ⟨w.heap.size+1,0,none⟩)]] 138)).alloc (.cells #[.func (.func 127) #[] #[.pointer (some ⟨w.heap.size,0,none⟩),.pointer (some ⟨w.heap.size+1,0,none⟩)]] 138)):=by
 have hb:=World.block_lt_of_cell? w ⟨b,off+p*2,none⟩ c0
 go_enter Tryz.func96,Tryz.ntmps96
 go_wp2_with fail
 go_ret
 exact ⟨rfl,rfl⟩
theorem zS1 (b off n cap B:Nat) (aao:Option Addr) (an ac lb m lcap s R p:Nat) (v:Int) (w:World) (hp:p < n) (c0:w.cell? ⟨b,off+p*2,none⟩=some (.int .i64 8)) (c1:w.cell? ⟨b,off+p*2+1,none⟩=some (.int .i64 v)) :
  Calls Tryz.prog 96 #[.agg #[.slice (some ⟨b,off,none⟩) n cap,.slice (some ⟨B,0,none⟩) n n,.slice aao an ac,.slice (some ⟨lb,0,none⟩) m lcap,.int .i64 (s:Int),.slice (some ⟨R,0,none⟩) n n],.int .i64 (p:Int)] w fun e w'=>e=.returned (.func (.func 131) #[] #[.pointer (some ⟨w.heap.size+1+1+1,0,none⟩),.pointer (some ⟨w.heap.size+1+1+1+1,0,none⟩)])/\w'=(((((w.alloc (.cells #[.slice (some ⟨b,off,none⟩) n cap,.slice (some ⟨B,0,none⟩) n n,.slice aao an ac,.slice (some ⟨lb,0,none⟩) m lcap,.int .i64 (s:Int),.slice (some ⟨R,0,none⟩) n n] 152)).alloc (.cells #[.int .i64 (p:Int)] 3)).alloc (.cells #[.int .i64 8,.int .i64 v] 69)).alloc (.cells #[.func (.func 126) #[] #[.pointer (some ⟨w.heap.size,0,none⟩),.pointer (some ⟨w.heap.size+1,0,none⟩)]] 138)).alloc (.cells #[.func (.func 127) #[] #[.pointer (some ⟨w.heap.size,0,none⟩),.pointer (some ⟨w.heap.size+1,0,none⟩)]] 138)):=by
 have hb:=World.block_lt_of_cell? w ⟨b,off+p*2,none⟩ c0
 go_enter Tryz.func96,Tryz.ntmps96
 go_wp2_with fail
 go_ret
 exact ⟨rfl,rfl⟩
theorem zSq (b off n cap B:Nat) (aao:Option Addr) (an ac lb m lcap s R p:Nat) (v:Int) (w:World) (hp:p < n) (c0:w.cell? ⟨b,off+p*2,none⟩=some (.int .i64 9)) (c1:w.cell? ⟨b,off+p*2+1,none⟩=some (.int .i64 v)) :
  Calls Tryz.prog 96 #[.agg #[.slice (some ⟨b,off,none⟩) n cap,.slice (some ⟨B,0,none⟩) n n,.slice aao an ac,.slice (some ⟨lb,0,none⟩) m lcap,.int .i64 (s:Int),.slice (some ⟨R,0,none⟩) n n],.int .i64 (p:Int)] w fun e w'=>e=.returned (.func (.func 132) #[] #[.pointer (some ⟨w.heap.size+1+1+1,0,none⟩),.pointer (some ⟨w.heap.size+1+1+1+1,0,none⟩)])/\w'=(((((w.alloc (.cells #[.slice (some ⟨b,off,none⟩) n cap,.slice (some ⟨B,0,none⟩) n n,.slice aao an ac,.slice (some ⟨lb,0,none⟩) m lcap,.int .i64 (s:Int),.slice (some ⟨R,0,none⟩) n n] 152)).alloc (.cells #[.int .i64 (p:Int)] 3)).alloc (.cells #[.int .i64 9,.int .i64 v] 69)).alloc (.cells #[.func (.func 126) #[] #[.pointer (some ⟨w.heap.size,0,none⟩),.pointer (some ⟨w.heap.size+1,0,none⟩)]] 138)).alloc (.cells #[.func (.func 127) #[] #[.pointer (some ⟨w.heap.size,0,none⟩),.pointer (some ⟨w.heap.size+1,0,none⟩)]] 138)):=by
 have hb:=World.block_lt_of_cell? w ⟨b,off+p*2,none⟩ c0
 go_enter Tryz.func96,Tryz.ntmps96
 go_wp2_with fail
 go_ret
 exact ⟨rfl,rfl⟩
theorem zRR (b off n cap B:Nat) (aao:Option Addr) (an ac lb m lcap s R p:Nat) (v:Int) (w:World) (hp:p < n) (c0:w.cell? ⟨b,off+p*2,none⟩=some (.int .i64 14)) (c1:w.cell? ⟨b,off+p*2+1,none⟩=some (.int .i64 v)) :
  Calls Tryz.prog 96 #[.agg #[.slice (some ⟨b,off,none⟩) n cap,.slice (some ⟨B,0,none⟩) n n,.slice aao an ac,.slice (some ⟨lb,0,none⟩) m lcap,.int .i64 (s:Int),.slice (some ⟨R,0,none⟩) n n],.int .i64 (p:Int)] w fun e w'=>e=.returned (.func (.func 133) #[] #[.pointer (some ⟨w.heap.size+1+1+1,0,none⟩),.pointer (some ⟨w.heap.size,0,none⟩)])/\w'=(((((w.alloc (.cells #[.slice (some ⟨b,off,none⟩) n cap,.slice (some ⟨B,0,none⟩) n n,.slice aao an ac,.slice (some ⟨lb,0,none⟩) m lcap,.int .i64 (s:Int),.slice (some ⟨R,0,none⟩) n n] 152)).alloc (.cells #[.int .i64 (p:Int)] 3)).alloc (.cells #[.int .i64 14,.int .i64 v] 69)).alloc (.cells #[.func (.func 126) #[] #[.pointer (some ⟨w.heap.size,0,none⟩),.pointer (some ⟨w.heap.size+1,0,none⟩)]] 138)).alloc (.cells #[.func (.func 127) #[] #[.pointer (some ⟨w.heap.size,0,none⟩),.pointer (some ⟨w.heap.size+1,0,none⟩)]] 138)):=by
 have hb:=World.block_lt_of_cell? w ⟨b,off+p*2,none⟩ c0
 go_enter Tryz.func96,Tryz.ntmps96
 go_wp2_with fail
 go_ret
 exact ⟨rfl,rfl⟩
theorem zSX (b off n cap B:Nat) (aao:Option Addr) (an ac lb m lcap s R p:Nat) (v:Int) (w:World) (hp:p < n) (c0:w.cell? ⟨b,off+p*2,none⟩=some (.int .i64 17)) (c1:w.cell? ⟨b,off+p*2+1,none⟩=some (.int .i64 v)) :
  Calls Tryz.prog 96 #[.agg #[.slice (some ⟨b,off,none⟩) n cap,.slice (some ⟨B,0,none⟩) n n,.slice aao an ac,.slice (some ⟨lb,0,none⟩) m lcap,.int .i64 (s:Int),.slice (some ⟨R,0,none⟩) n n],.int .i64 (p:Int)] w fun e w'=>e=.returned (.func (.func 134) #[] #[.pointer (some ⟨w.heap.size+1+1+1,0,none⟩)])/\w'=(((((w.alloc (.cells #[.slice (some ⟨b,off,none⟩) n cap,.slice (some ⟨B,0,none⟩) n n,.slice aao an ac,.slice (some ⟨lb,0,none⟩) m lcap,.int .i64 (s:Int),.slice (some ⟨R,0,none⟩) n n] 152)).alloc (.cells #[.int .i64 (p:Int)] 3)).alloc (.cells #[.int .i64 17,.int .i64 v] 69)).alloc (.cells #[.func (.func 126) #[] #[.pointer (some ⟨w.heap.size,0,none⟩),.pointer (some ⟨w.heap.size+1,0,none⟩)]] 138)).alloc (.cells #[.func (.func 127) #[] #[.pointer (some ⟨w.heap.size,0,none⟩),.pointer (some ⟨w.heap.size+1,0,none⟩)]] 138)):=by
 have hb:=World.block_lt_of_cell? w ⟨b,off+p*2,none⟩ c0
 go_enter Tryz.func96,Tryz.ntmps96
 go_wp2_with fail
 go_ret
 exact ⟨rfl,rfl⟩
theorem zRn (b off n cap B:Nat) (aao:Option Addr) (an ac lb m lcap s R p:Nat) (v:Int) (w:World) (hp:p < n) (c0:w.cell? ⟨b,off+p*2,none⟩=some (.int .i64 18)) (c1:w.cell? ⟨b,off+p*2+1,none⟩=some (.int .i64 v)) :
  Calls Tryz.prog 96 #[.agg #[.slice (some ⟨b,off,none⟩) n cap,.slice (some ⟨B,0,none⟩) n n,.slice aao an ac,.slice (some ⟨lb,0,none⟩) m lcap,.int .i64 (s:Int),.slice (some ⟨R,0,none⟩) n n],.int .i64 (p:Int)] w fun e w'=>e=.returned (.func (.func 135) #[] #[.pointer (some ⟨w.heap.size+1+1+1,0,none⟩)])/\w'=(((((w.alloc (.cells #[.slice (some ⟨b,off,none⟩) n cap,.slice (some ⟨B,0,none⟩) n n,.slice aao an ac,.slice (some ⟨lb,0,none⟩) m lcap,.int .i64 (s:Int),.slice (some ⟨R,0,none⟩) n n] 152)).alloc (.cells #[.int .i64 (p:Int)] 3)).alloc (.cells #[.int .i64 18,.int .i64 v] 69)).alloc (.cells #[.func (.func 126) #[] #[.pointer (some ⟨w.heap.size,0,none⟩),.pointer (some ⟨w.heap.size+1,0,none⟩)]] 138)).alloc (.cells #[.func (.func 127) #[] #[.pointer (some ⟨w.heap.size,0,none⟩),.pointer (some ⟨w.heap.size+1,0,none⟩)]] 138)):=by
 have hb:=World.block_lt_of_cell? w ⟨b,off+p*2,none⟩ c0
 go_enter Tryz.func96,Tryz.ntmps96
 go_wp2_with fail
 go_ret
 exact ⟨rfl,rfl⟩
theorem zRz (b off n cap B:Nat) (aao:Option Addr) (an ac lb m lcap s R p:Nat) (v:Int) (w:World) (hp:p < n) (c0:w.cell? ⟨b,off+p*2,none⟩=some (.int .i64 15)) (c1:w.cell? ⟨b,off+p*2+1,none⟩=some (.int .i64 v)) :
  Calls Tryz.prog 96 #[.agg #[.slice (some ⟨b,off,none⟩) n cap,.slice (some ⟨B,0,none⟩) n n,.slice aao an ac,.slice (some ⟨lb,0,none⟩) m lcap,.int .i64 (s:Int),.slice (some ⟨R,0,none⟩) n n],.int .i64 (p:Int)] w fun e w'=>e=.returned (.func (.func 136) #[] #[.pointer (some ⟨w.heap.size+1+1+1+1,0,none⟩),.pointer (some ⟨w.heap.size+1+1+1,0,none⟩)])/\w'=(((((w.alloc (.cells #[.slice (some ⟨b,off,none⟩) n cap,.slice (some ⟨B,0,none⟩) n n,.slice aao an ac,.slice (some ⟨lb,0,none⟩) m lcap,.int .i64 (s:Int),.slice (some ⟨R,0,none⟩) n n] 152)).alloc (.cells #[.int .i64 (p:Int)] 3)).alloc (.cells #[.int .i64 15,.int .i64 v] 69)).alloc (.cells #[.func (.func 126) #[] #[.pointer (some ⟨w.heap.size,0,none⟩),.pointer (some ⟨w.heap.size+1,0,none⟩)]] 138)).alloc (.cells #[.func (.func 127) #[] #[.pointer (some ⟨w.heap.size,0,none⟩),.pointer (some ⟨w.heap.size+1,0,none⟩)]] 138)):=by
 have hb:=World.block_lt_of_cell? w ⟨b,off+p*2,none⟩ c0
 go_enter Tryz.func96,Tryz.ntmps96
 go_wp2_with fail
 go_ret
 exact ⟨rfl,rfl⟩
theorem zSE (b off n cap B:Nat) (aao:Option Addr) (an ac lb m lcap s R p:Nat) (v:Int) (w:World) (hp:p < n) (c0:w.cell? ⟨b,off+p*2,none⟩=some (.int .i64 16)) (c1:w.cell? ⟨b,off+p*2+1,none⟩=some (.int .i64 v)) :
  Calls Tryz.prog 96 #[.agg #[.slice (some ⟨b,off,none⟩) n cap,.slice (some ⟨B,0,none⟩) n n,.slice aao an ac,.slice (some ⟨lb,0,none⟩) m lcap,.int .i64 (s:Int),.slice (some ⟨R,0,none⟩) n n],.int .i64 (p:Int)] w fun e w'=>e=.returned (.func (.func 137) #[] #[.pointer (some ⟨w.heap.size+1+1+1+1,0,none⟩),.pointer (some ⟨w.heap.size+1+1+1,0,none⟩)])/\w'=(((((w.alloc (.cells #[.slice (some ⟨b,off,none⟩) n cap,.slice (some ⟨B,0,none⟩) n n,.slice aao an ac,.slice (some ⟨lb,0,none⟩) m lcap,.int .i64 (s:Int),.slice (some ⟨R,0,none⟩) n n] 152)).alloc (.cells #[.int .i64 (p:Int)] 3)).alloc (.cells #[.int .i64 16,.int .i64 v] 69)).alloc (.cells #[.func (.func 126) #[] #[.pointer (some ⟨w.heap.size,0,none⟩),.pointer (some ⟨w.heap.size+1,0,none⟩)]] 138)).alloc (.cells #[.func (.func 127) #[] #[.pointer (some ⟨w.heap.size,0,none⟩),.pointer (some ⟨w.heap.size+1,0,none⟩)]] 138)):=by
 have hb:=World.block_lt_of_cell? w ⟨b,off+p*2,none⟩ c0
 go_enter Tryz.func96,Tryz.ntmps96
 go_wp2_with fail
 go_ret
 exact ⟨rfl,rfl⟩
theorem zRy (b off n cap B:Nat) (aao:Option Addr) (an ac lb m lcap s R p:Nat) (v:Int) (w:World) (hp:p < n) (c0:w.cell? ⟨b,off+p*2,none⟩=some (.int .i64 12)) (c1:w.cell? ⟨b,off+p*2+1,none⟩=some (.int .i64 v)) :
  Calls Tryz.prog 96 #[.agg #[.slice (some ⟨b,off,none⟩) n cap,.slice (some ⟨B,0,none⟩) n n,.slice aao an ac,.slice (some ⟨lb,0,none⟩) m lcap,.int .i64 (s:Int),.slice (some ⟨R,0,none⟩) n n],.int .i64 (p:Int)] w fun e w'=>e=.returned (.func (.func 138) #[] #[])/\w'=(((((w.alloc (.cells #[.slice (some ⟨b,off,none⟩) n cap,.slice (some ⟨B,0,none⟩) n n,.slice aao an ac,.slice (some ⟨lb,0,none⟩) m lcap,.int .i64 (s:Int),.slice (some ⟨R,0,none⟩) n n] 152)).alloc (.cells #[.int .i64 (p:Int)] 3)).alloc (.cells #[.int .i64 12,.int .i64 v] 69)).alloc (.cells #[.func (.func 126) #[] #[.pointer (some ⟨w.heap.size,0,none⟩),.pointer (some ⟨w.heap.size+1,0,none⟩)]] 138)).alloc (.cells #[.func (.func 127) #[] #[.pointer (some ⟨w.heap.size,0,none⟩),.pointer (some ⟨w.heap.size+1,0,none⟩)]] 138)):=by
 have hb:=World.block_lt_of_cell? w ⟨b,off+p*2,none⟩ c0
 go_enter Tryz.func96,Tryz.ntmps96
 go_wp2_with fail
 go_ret
 exact ⟨rfl,rfl⟩
structure TabAll (w:World) (b off n cap B:Nat) (aao:Option Addr) (an ac lb m lcap s R p:Nat) (l:List (Int × Int)) (ls:List (List Bool)) (h:Nat->Nat->Bool):Prop where
 ends : ∀ j, j < n -> w.cell? ⟨B, j, none⟩ = some (.int .i64 (zAi (l.map Prod.fst) j : Int))
 lets:zAS w (.slice (some ⟨lb,0,none⟩) m lcap) ls
 rows:∀ q,p < q->q < n->∃ rb ro rc,w.cell? ⟨R,q,none⟩=some (.slice (some ⟨rb,ro,none⟩) m rc)/\rb < w.heap.size/\∀ j,j < m->w.cell? ⟨rb,ro+j,none⟩=some (.bool (h q j))
 hB:B < w.heap.size
 hR:R < w.heap.size
 hm:ls.length=m
 hn:n <= 60
 hm24:m <= 24
 hs:s < m
theorem zK7 (b off n cap B:Nat) (aao:Option Addr) (an ac lb m lcap s R p:Nat) (k v:Int) (w:World):Below w.heap.size w (((((w.alloc (.cells #[.slice (some ⟨b,off,none⟩) n cap,.slice (some ⟨B,0,none⟩) n n,.slice aao an ac,.slice (some ⟨lb,0,none⟩) m lcap,.int .i64 (s:Int),.slice (some ⟨R,0,none⟩) n n] 152)).alloc (.cells #[.int .i64 (p:Int)] 3)).alloc (.cells #[.int .i64 k,.int .i64 v] 69)).alloc (.cells #[.func (.func 126) #[] #[.pointer (some ⟨w.heap.size,0,none⟩),.pointer (some ⟨w.heap.size+1,0,none⟩)]] 138)).alloc (.cells #[.func (.func 127) #[] #[.pointer (some ⟨w.heap.size,0,none⟩),.pointer (some ⟨w.heap.size+1,0,none⟩)]] 138)):=
 (((((Below.refl _ _).alloc (Nat.le_refl _) _).alloc (by simp) _).alloc (by simp;omega) _).alloc (by simp;omega) _).alloc (by simp;omega) _
theorem zCE (b off n cap B:Nat) (aao:Option Addr) (an ac lb m lcap s R p:Nat) (l:List (Int × Int)) (ls:List (List Bool)) (h:Nat->Nat->Bool) (k v:Int) (w:World) (hT:TabAll w b off n cap B aao an ac lb m lcap s R p l ls h) (W:World) (hW:W=(((((w.alloc (.cells #[.slice (some ⟨b,off,none⟩) n cap,.slice (some ⟨B,0,none⟩) n n,.slice aao an ac,.slice (some ⟨lb,0,none⟩) m lcap,.int .i64 (s:Int),.slice (some ⟨R,0,none⟩) n n] 152)).alloc (.cells #[.int .i64 (p:Int)] 3)).alloc (.cells #[.int .i64 k,.int .i64 v] 69)).alloc (.cells #[.func (.func 126) #[] #[.pointer (some ⟨w.heap.size,0,none⟩),.pointer (some ⟨w.heap.size+1,0,none⟩)]] 138)).alloc (.cells #[.func (.func 127) #[] #[.pointer (some ⟨w.heap.size,0,none⟩),.pointer (some ⟨w.heap.size+1,0,none⟩)]] 138))) :
  TabIn W w.heap.size (w.heap.size+1) b off n cap B aao an ac lb m lcap s R p l ls h/\FunIn W w.heap.size (w.heap.size+1) (w.heap.size+1+1+1) (w.heap.size+1+1+1+1)/\W.cell? ⟨w.heap.size+1+1,1,none⟩=some (.int .i64 v)/\Below w.heap.size w W:=by
 have hb:Below w.heap.size w W:=by rw [hW];exact zK7 b off n cap B aao an ac lb m lcap s R p k v w
 have hz:W.heap.size=w.heap.size+1+1+1+1+1:=by rw [hW];simp
 refine ⟨⟨?_,?_,?_,?_,?_,?_,?_,fun j hj=>(hb.cell (p:=⟨B,j,none⟩) hT.hB).trans (hT.ends j hj),hT.lets.below hb,fun q h1 h2=>?_,by omega,by omega,by have:=hT.hB;omega,by have:=hT.hR;omega,hT.hm,hT.hn,hT.hm24,hT.hs⟩,⟨?_,?_,by omega,by omega⟩,?_,hb⟩
 ·rw [hW];simp [go_sem]
 ·rw [hW];simp [go_sem]
 ·rw [hW];simp [go_sem]
 ·rw [hW];simp [go_sem]
 ·rw [hW];simp [go_sem]
 ·rw [hW];simp [go_sem]
 ·rw [hW];simp [go_sem]
 ·obtain ⟨rb,ro,rc,e1,e2,e3⟩:=hT.rows q h1 h2
  exact ⟨rb,ro,rc,(hb.cell (p:=⟨R,q,none⟩) hT.hR).trans e1,by omega,fun j hj=>(hb.cell (p:=⟨rb,ro+j,none⟩) e2).trans (e3 j hj)⟩
 ·rw [hW];simp [go_sem]
 ·rw [hW];simp [go_sem]
 ·rw [hW];simp [go_sem]
def zIz (w:World) (m:Nat) (u v:Nat->Bool) (e:Ending) (w':World):Prop:=∃ f caps,e=.returned (.func (.func f) #[] caps)/\Below w.heap.size w w'/\zNs w' (.func (.func f) #[] caps) m u v
theorem zRc (b off n cap B:Nat) (aao:Option Addr) (an ac lb m lcap s R p:Nat) (l:List (Int × Int)) (ls:List (List Bool)) (t:Tm) (props:Int) (w:World) (hw:t.Wf) (hl:t.ops=l) (hln:l.length=n) (hat:zA4 w b off l) (hp:p < n) (hpr:∀ q,q < n->zAc props (l.getD q (0,0))=0) (hls:∀ i,i < ls.length->((ls.getD i []).length:Int)=props)
  (hT:TabAll w b off n cap B aao an ac lb m lcap s R p l ls (fun q=>(t.sub q).hb (sig ls s))) :
  Calls Tryz.prog 96 #[.agg #[.slice (some ⟨b,off,none⟩) n cap,.slice (some ⟨B,0,none⟩) n n,.slice aao an ac,.slice (some ⟨lb,0,none⟩) m lcap,.int .i64 (s:Int),.slice (some ⟨R,0,none⟩) n n],.int .i64 (p:Int)] w (zIz w m ((t.sub p).uT (sig ls s)) ((t.sub p).vT (sig ls s))):=by
 have hsz:t.size=n:=by rw [<- t.ops_length,hl,hln]
 have hpt:p < t.size:=by omega
 have hop:=t.op_at hpt (0,0);rw [hl] at hop;obtain ⟨c0,c1⟩:=hat p (by omega)
 have he:=hpr p hp;rw [hop] at c0 c1 he;simp only at c0 c1
 have hsw:=Tm.sub_wf hw p;have hki:=fun i (hi:i < (t.sub p).kids.length)=>Tm.kid_in hw hpt hi
 have hss:s < ls.length:=by rw [hT.hm];exact hT.hs
 have hmo:∀ (x:Tm) now,now < m->x.hb (sig ls s) (if now=m - 1 then s else now+1)=x.hb (sig ls s) (now+1):=fun x now hnow=>by
  by_cases hl1:now=m - 1
  ·rw [if_pos hl1,<- zGt hss x (now+1),hT.hm,zGX hT.hs (by omega),show now+1 - (m - s)=s by have:=hT.hs;omega,zBe hT.hs]
  ·rw [if_neg hl1]
 have hsec:sec l p=zAi (t.ops.map Prod.fst) (p+1):=by unfold sec;rw [hl]
 cases hx:t.sub p with
 | leaf k v=>
  rw [hx] at c0 c1 he hsw;simp only [Tm.kind,Tm.val] at c0 c1 he
  have hk:k=13\/k=11\/k=12:=by
   obtain ⟨h1,h2⟩:=hsw;simp only [okK,decide_eq_true_eq] at h1;simp only [zAc] at he;simp only [pn] at h2
   split at he
   ·omega
   ·split at h2
    ·omega
    ·split at h2 <;> omega
  rcases hk with rfl | rfl | rfl
  ·have hv:0 <= v/\v < props:=by
    by_cases hh:v < 0\/props - 1 < v
    ·exfalso;simp [zAc,hh] at he
    ·omega
   refine (zRh b off n cap B aao an ac lb m lcap s R p v w hp c0 c1).mono fun e w' ⟨h1,h2⟩=>?_
   obtain ⟨t5,f5,co,hb5⟩:=zCE b off n cap B aao an ac lb m lcap s R p l ls _ 13 v w hT w' h2;refine ⟨_,_,h1,hb5,_,_,rfl,fun args w=>by simp [go_sem],fun w2 hb2 now x hnow=>?_⟩
   refine (zSf w2 _ _ b off n cap B aao an ac lb m lcap s R p l ls _ _ v x now (t5.below hb2) hnow ((hb2.cell (p:=⟨w.heap.size+1+1,1,none⟩) (by have:=f5.hbf;show w.heap.size+1+1 < _;omega)).trans co) hv.1 (by rw [hls now (by rw [hT.hm];exact hnow)];exact hv.2)).mono fun e w3 ⟨h3,q,h4⟩=>⟨?_,h4 ▸ below_drewN (Below.refl _ _) q⟩
   rw [h3];simp only [Tm.uT,Tm.vT,Bool.false_and,Bool.or_false,Tm.hb_prop,sig];rw [zBe (by rw [hT.hm];exact hnow)]
  ·refine (zRw b off n cap B aao an ac lb m lcap s R p v w hp c0 c1).mono fun e w' ⟨h1,h2⟩=>?_
   obtain ⟨t5,f5,co,hb5⟩:=zCE b off n cap B aao an ac lb m lcap s R p l ls _ 11 v w hT w' h2;refine ⟨_,_,h1,hb5,_,_,rfl,fun args w=>by simp [go_sem],fun w2 hb2 now x hnow=>?_⟩
   refine (zSx w2 now x).mono fun e w3 ⟨h3,h4⟩=>⟨?_,h4 ▸ Below.refl _ _⟩
   rw [h3];simp only [Tm.uT,Tm.vT,Bool.false_and,Bool.or_false,Tm.hb_yes]
  ·refine (zRy b off n cap B aao an ac lb m lcap s R p v w hp c0 c1).mono fun e w' ⟨h1,h2⟩=>?_
   obtain ⟨t5,f5,co,hb5⟩:=zCE b off n cap B aao an ac lb m lcap s R p l ls _ 12 v w hT w' h2;refine ⟨_,_,h1,hb5,_,_,rfl,fun args w=>by simp [go_sem],fun w2 hb2 now x hnow=>?_⟩
   refine (zRb w2 now x).mono fun e w3 ⟨h3,h4⟩=>⟨?_,h4 ▸ Below.refl _ _⟩
   rw [h3];simp only [Tm.uT,Tm.vT,Bool.false_and,Bool.or_false];rw [Tm.hb_no _ _ _ (by decide) (by decide)]
 | un k v a=>
  rw [hx] at c0 c1 he hsw hki;simp only [Tm.kind,Tm.val] at c0 c1 he;obtain ⟨k1,k2,_⟩:=hki 0 (by simp [Tm.kids])
  rw [Tm.koff_zero] at k1 k2;have hp1:p+1 < n:=by omega
  have ha:t.sub (p+1)=a:=k2
  have hk:k=10\/k=14\/k=17\/k=18:=by
   obtain ⟨h1,h2,_⟩:=hsw;simp only [pn] at h2
   split at h2
   ·omega
   ·split at h2 <;> omega
  rcases hk with rfl | rfl | rfl | rfl
  ·refine (zRS b off n cap B aao an ac lb m lcap s R p v w hp c0 c1).mono fun e w' ⟨h1,h2⟩=>?_
   obtain ⟨t5,f5,co,hb5⟩:=zCE b off n cap B aao an ac lb m lcap s R p l ls _ 10 v w hT w' h2;refine ⟨_,_,h1,hb5,_,_,rfl,fun args w=>by simp [go_sem],fun w2 hb2 now x hnow=>?_⟩
   refine (zS4 w2 _ _ b off n cap B aao an ac lb m lcap s R p l ls _ _ _ now x (t5.below hb2) (f5.below hb2) hp1 hnow).mono fun e w3 ⟨h3,h4⟩=>⟨?_,h4 ▸ Below.refl _ _⟩
   rw [h3];simp only [Tm.uT,Tm.vT,Bool.false_and,Bool.or_false,Tm.hb_not,ha,show ¬ (10:Int)=17 by decide,show ¬ (10:Int)=18 by decide,if_false]
  ·refine (zRR b off n cap B aao an ac lb m lcap s R p v w hp c0 c1).mono fun e w' ⟨h1,h2⟩=>?_
   obtain ⟨t5,f5,co,hb5⟩:=zCE b off n cap B aao an ac lb m lcap s R p l ls _ 14 v w hT w' h2;refine ⟨_,_,h1,hb5,_,_,rfl,fun args w=>by simp [go_sem],fun w2 hb2 now x hnow=>?_⟩
   refine (zSd w2 _ _ b off n cap B aao an ac lb m lcap s R p l ls _ _ _ now x (t5.below hb2) (f5.below hb2) hp1 hnow).mono fun e w3 ⟨h3,h4⟩=>⟨?_,h4⟩
   rw [h3];simp only [Tm.uT,Tm.vT,Bool.false_and,Bool.or_false,Tm.hb_next,ha,show ¬ (14:Int)=17 by decide,show ¬ (14:Int)=18 by decide,if_false,hmo a now hnow]
  ·refine (zSX b off n cap B aao an ac lb m lcap s R p v w hp c0 c1).mono fun e w' ⟨h1,h2⟩=>?_
   obtain ⟨t5,f5,co,hb5⟩:=zCE b off n cap B aao an ac lb m lcap s R p l ls _ 17 v w hT w' h2;refine ⟨_,_,h1,hb5,_,_,rfl,fun args w=>by simp [go_sem],fun w2 hb2 now x hnow=>?_⟩
   refine (zSz w2 _ _ b off n cap B aao an ac lb m lcap s R p l ls _ _ _ now x (t5.below hb2) (f5.below hb2) hp1 hnow).mono fun e w3 ⟨h3,h4⟩=>⟨?_,h4 ▸ Below.refl _ _⟩
   rw [h3];simp only [Tm.uT,Tm.vT,ha,if_true,Bool.true_and]
  ·refine (zRn b off n cap B aao an ac lb m lcap s R p v w hp c0 c1).mono fun e w' ⟨h1,h2⟩=>?_
   obtain ⟨t5,f5,co,hb5⟩:=zCE b off n cap B aao an ac lb m lcap s R p l ls _ 18 v w hT w' h2;refine ⟨_,_,h1,hb5,_,_,rfl,fun args w=>by simp [go_sem],fun w2 hb2 now x hnow=>?_⟩
   refine (zRv w2 _ _ b off n cap B aao an ac lb m lcap s R p l ls _ _ _ now x (t5.below hb2) (f5.below hb2) hp1 hnow).mono fun e w3 ⟨h3,h4⟩=>⟨?_,h4 ▸ Below.refl _ _⟩
   rw [h3];simp only [Tm.uT,Tm.vT,ha,show ¬ (18:Int)=17 by decide,if_false,if_true,Bool.false_or]
 | bi k v a b'=>
  rw [hx] at c0 c1 he hsw hki;simp only [Tm.kind,Tm.val] at c0 c1 he;obtain ⟨k1,k2,k3,k4,k5,k6⟩:=hki 0 (by simp [Tm.kids])
  obtain ⟨j1,j2,_⟩:=hki 1 (by simp [Tm.kids])
  rw [Tm.koff_zero] at k1 k2 k3;have hp1:p+1 < n:=by omega
  have ha:t.sub (p+1)=a:=k2;have hse:sec l p=p+(Tm.bi k v a b').koff 1:=by rw [hsec];exact k3
  have hs1:p < sec l p:=by rw [hse,Tm.koff];omega
  have hs2:sec l p < n:=by rw [hse];omega
  have hb':t.sub (sec l p)=b':=by rw [hse];exact j2
  have hk:k=8\/k=9\/k=15\/k=16:=by
   obtain ⟨h1,h2,_⟩:=hsw;simp only [zAc] at he;simp only [pn] at h2
   split at he
   ·omega
   ·split at h2
    ·omega
    ·split at h2
     ·omega
     ·omega
  rcases hk with rfl | rfl | rfl | rfl
  ·refine (zS1 b off n cap B aao an ac lb m lcap s R p v w hp c0 c1).mono fun e w' ⟨h1,h2⟩=>?_
   obtain ⟨t5,f5,co,hb5⟩:=zCE b off n cap B aao an ac lb m lcap s R p l ls _ 8 v w hT w' h2;refine ⟨_,_,h1,hb5,_,_,rfl,fun args w=>by simp [go_sem],fun w2 hb2 now x hnow=>?_⟩
   refine (zTC w2 _ _ b off n cap B aao an ac lb m lcap s R p l ls _ _ _ now x (t5.below hb2) (f5.below hb2) hp1 hs1 hs2 hnow).mono fun e w3 ⟨h3,q,h4⟩=>⟨?_,h4 ▸ below_drewN (Below.refl _ _) q⟩
   rw [h3];simp only [Tm.uT,Tm.vT,Bool.false_and,Bool.or_false,Tm.hb_and,ha,hb',show ¬ (8:Int)=15 by decide,show ¬ (8:Int)=16 by decide,if_false]
  ·refine (zSq b off n cap B aao an ac lb m lcap s R p v w hp c0 c1).mono fun e w' ⟨h1,h2⟩=>?_
   obtain ⟨t5,f5,co,hb5⟩:=zCE b off n cap B aao an ac lb m lcap s R p l ls _ 9 v w hT w' h2;refine ⟨_,_,h1,hb5,_,_,rfl,fun args w=>by simp [go_sem],fun w2 hb2 now x hnow=>?_⟩
   refine (zSa w2 _ _ b off n cap B aao an ac lb m lcap s R p l ls _ _ _ now x (t5.below hb2) (f5.below hb2) hp1 hs1 hs2 hnow).mono fun e w3 ⟨h3,q,h4⟩=>⟨?_,h4 ▸ below_drewN (Below.refl _ _) q⟩
   rw [h3];simp only [Tm.uT,Tm.vT,Bool.false_and,Bool.or_false,Tm.hb_or,ha,hb',show ¬ (9:Int)=15 by decide,show ¬ (9:Int)=16 by decide,if_false]
  ·refine (zRz b off n cap B aao an ac lb m lcap s R p v w hp c0 c1).mono fun e w' ⟨h1,h2⟩=>?_
   obtain ⟨t5,f5,co,hb5⟩:=zCE b off n cap B aao an ac lb m lcap s R p l ls _ 15 v w hT w' h2;refine ⟨_,_,h1,hb5,_,_,rfl,fun args w=>by simp [go_sem],fun w2 hb2 now x hnow=>?_⟩
   refine (zSA w2 _ _ b off n cap B aao an ac lb m lcap s R p l ls _ _ _ now x (t5.below hb2) (f5.below hb2) hp1 hs1 hs2 hnow).mono fun e w3 ⟨h3,q,h4⟩=>⟨?_,h4 ▸ below_drewN (Below.refl _ _) q⟩
   rw [h3];simp only [Tm.uT,Tm.vT,ha,hb',if_true]
  ·refine (zSE b off n cap B aao an ac lb m lcap s R p v w hp c0 c1).mono fun e w' ⟨h1,h2⟩=>?_
   obtain ⟨t5,f5,co,hb5⟩:=zCE b off n cap B aao an ac lb m lcap s R p l ls _ 16 v w hT w' h2;refine ⟨_,_,h1,hb5,_,_,rfl,fun args w=>by simp [go_sem],fun w2 hb2 now x hnow=>?_⟩
   refine (zSV w2 _ _ b off n cap B aao an ac lb m lcap s R p l ls _ _ _ now x (t5.below hb2) (f5.below hb2) hp1 hs1 hs2 hnow).mono fun e w3 ⟨h3,q,h4⟩=>⟨?_,h4 ▸ below_drewN (Below.refl _ _) q⟩
   rw [h3];simp only [Tm.uT,Tm.vT,ha,hb',show ¬ (16:Int)=15 by decide,if_false,if_true]
   congr 2
   generalize a.hb (sig ls s) now=y;generalize b'.hb (sig ls s) now=z
   cases y <;> cases z <;> rfl
def rnd (u v:Nat->Bool) (m s:Nat) (r:Nat->Bool) (k:Nat):Nat->Bool:=fun j=>if m - k <= j then stp u v (r s) (m - j) j else r j
theorem zJ1 {u v:Nat->Bool} {m s:Nat} {r:Nat->Bool} {j:Nat} (hj:j < m):rnd u v m s r 0 j=r j:=by unfold rnd;rw [if_neg (by omega)]
theorem zLz {u v:Nat->Bool} {m s:Nat} {r:Nat->Bool} {j:Nat}:rnd u v m s r m j=stp u v (r s) (m - j) j:=by unfold rnd;rw [if_pos (by omega)]
theorem zP5 {u v:Nat->Bool} {m s:Nat} {r:Nat->Bool} {k:Nat} (hs:s < m) (hk:k < m) (j:Nat) (hj:j < m) :
  (if j=m - 1 - k then (u (m - 1 - k)||(v (m - 1 - k)&&rnd u v m s r k (if m - 1 - k=m - 1 then s else m - 1 - k+1))) else rnd u v m s r k j)=rnd u v m s r (k+1) j:=by
 by_cases hjk:j=m - 1 - k
 ·rw [if_pos hjk]
  have e:rnd u v m s r (k+1) j=stp u v (r s) (m - j) j:=by unfold rnd;rw [if_pos (by omega)]
  rw [e,show m - j=k+1 by omega,<- hjk]
  simp only [stp]
  congr 2
  by_cases hk0:k=0
  ·subst hk0
   rw [if_pos (by omega),zJ1 hs]
   rfl
  ·rw [if_neg (by omega)]
   unfold rnd;rw [if_pos (by omega),show m - (j+1)=k by omega]
 ·rw [if_neg hjk]
  unfold rnd
  by_cases h1:m - k <= j
  ·rw [if_pos h1,if_pos (by omega)]
  ·rw [if_neg h1,if_neg (by omega)]
def zC7 (u v:Nat->Bool) (m s:Nat) (d:Bool):Nat->Nat->Bool
 | 0=>fun j=>if j=s then d else false
 | c+1=>rnd u v m s (zC7 u v m s d c) m
theorem zMe (u v:Nat->Bool) {m s:Nat} (d:Bool) (j:Nat):zC7 u v m s d 2 j=stp u v (stp u v d (m - s) s) (m - j) j:=by
 simp only [zC7];rw [zLz,zLz,if_pos rfl]
structure SeSt (w:World) (x0 x1 x2 x3 x4 x5:Value) (m:Nat) (r:Nat->Bool) (W:World):Prop where
 c0:W.cell? ⟨w.heap.size,0,none⟩=some x0
 c1:W.cell? ⟨w.heap.size,1,none⟩=some x1
 c2:W.cell? ⟨w.heap.size,2,none⟩=some x2
 c3:W.cell? ⟨w.heap.size,3,none⟩=some x3
 c4:W.cell? ⟨w.heap.size,4,none⟩=some x4
 c5:W.cell? ⟨w.heap.size,5,none⟩=some x5
 row:W.rowIs (w.heap.size+1) 4 m (fun j=>.bool (r j))
 below:Below w.heap.size w W
theorem SeSt.later {w:World} {x0 x1 x2 x3 x4 x5:Value} {m:Nat} {r:Nat->Bool} {W W':World} (t:SeSt w x0 x1 x2 x3 x4 x5 m r W) (hb:Below W.heap.size W W'):SeSt w x0 x1 x2 x3 x4 x5 m r W':=by
 have hl:w.heap.size < W.heap.size:=World.block_lt_of_cell? W ⟨w.heap.size,0,none⟩ t.c0
 exact ⟨(hb.cell (p:=⟨w.heap.size,0,none⟩) hl).trans t.c0,(hb.cell (p:=⟨w.heap.size,1,none⟩) hl).trans t.c1,(hb.cell (p:=⟨w.heap.size,2,none⟩) hl).trans t.c2,(hb.cell (p:=⟨w.heap.size,3,none⟩) hl).trans t.c3,(hb.cell (p:=⟨w.heap.size,4,none⟩) hl).trans t.c4,(hb.cell (p:=⟨w.heap.size,5,none⟩) hl).trans t.c5,zAp t.row hb,t.below.trans (hb.mono t.below.size)⟩
theorem SeSt.congr {w:World} {x0 x1 x2 x3 x4 x5:Value} {m:Nat} {r r':Nat->Bool} {W:World} (t:SeSt w x0 x1 x2 x3 x4 x5 m r W) (e:∀ j,j < m->r j=r' j):SeSt w x0 x1 x2 x3 x4 x5 m r' W:=
 ⟨t.c0,t.c1,t.c2,t.c3,t.c4,t.c5,t.row.congr fun j hj=>by rw [e j hj],t.below⟩
theorem SeSt.put {w:World} {x0 x1 x2 x3 x4 x5:Value} {m:Nat} {r:Nat->Bool} {W:World} (t:SeSt w x0 x1 x2 x3 x4 x5 m r W) (p:Nat) (x:Bool):SeSt w x0 x1 x2 x3 x4 x5 m (fun j=>if j=p then x else r j) (W.setCell ⟨w.heap.size+1,p,none⟩ (.bool x)):=by
 have hc:∀ q,(W.setCell ⟨w.heap.size+1,p,none⟩ (.bool x)).cell? ⟨w.heap.size,q,none⟩=W.cell? ⟨w.heap.size,q,none⟩:=fun q=>World.cell?_of_block (w:=W) (Below.heap_setCell W _ _ _ (by simp))
 refine ⟨(hc 0).trans t.c0,(hc 1).trans t.c1,(hc 2).trans t.c2,(hc 3).trans t.c3,(hc 4).trans t.c4,(hc 5).trans t.c5,?_,t.below.setCell (by simp) _⟩
 refine (t.row.set p (.bool x)).congr fun i _=>?_
 by_cases hip:i=p
 ·rw [if_pos hip,if_pos hip]
 ·rw [if_neg hip,if_neg hip]
theorem zNr (b off n cap B:Nat) (aao:Option Addr) (an ac lb m lcap s R:Nat) (d:Bool) (f:FuncId) (caps:Array Value) (u v:Nat->Bool) (w:World) (hm:m <= 24) (hs:s < m) (hF:zNs w (.func (.func f) #[] caps) m u v) :
  Calls Tryz.prog 95 #[.agg #[.slice (some ⟨b,off,none⟩) n cap,.slice (some ⟨B,0,none⟩) n n,.slice aao an ac,.slice (some ⟨lb,0,none⟩) m lcap,.int .i64 (s:Int),.slice (some ⟨R,0,none⟩) n n],.bool d,.func (.func f) #[] caps] w fun e w'=>e=.returned (.slice (some ⟨w.heap.size+1,0,none⟩) m m)/\Below w.heap.size w w'/\Hid (w'.rowIs (w.heap.size+1) 4 m (fun j=>.bool (stp u v (stp u v d (m - s) s) (m - j) j))):=by
 have hmk:=run_make_row' (P:=Tryz.prog) 104 4 (.bool false) 1 Tryz.underlying104 zFf rfl .i64 .i64 m (by omega) (by omega)
 obtain ⟨f',caps',e1,hen,hlaw⟩:=hF
 injection e1 with e1 e2 e3
 injection e1 with e1
 subst e1 e3;clear e2;have HLaw:Hid (∀ w',Below w.heap.size w w'->∀ (now:Nat) (x:Bool),now < m->Calls Tryz.prog f (#[.int .i64 (now:Int),.bool x]++caps) w' fun e w2=>e=.returned (.bool (u now||(v now&&x)))/\Below w'.heap.size w' w2):=hlaw
 have haf:=fun (now:Nat) w1 (h:now < m)=>zJA b off n cap B aao an ac lb m lcap s R now w1 hm h
 have HR0:Hid (∀ j,zC7 u v m s d 0 j=if j=s then d else false):=fun _=>rfl
 have HRS:Hid (∀ c,zC7 u v m s d (c+1)=rnd u v m s (zC7 u v m s d c) m):=fun _=>rfl
 have HRD:Hid (∀ j,zC7 u v m s d 2 j=stp u v (stp u v d (m - s) s) (m - j) j):=zMe u v d
 have HST:Hid (∀ r k,k < m->∀ j,j < m->(if j=m - 1 - k then (u (m - 1 - k)||(v (m - 1 - k)&&rnd u v m s r k (if m - 1 - k=m - 1 then s else m - 1 - k+1))) else rnd u v m s r k j)=rnd u v m s r (k+1) j):=fun r k hk j hj=>zP5 hs hk j hj
 clear hlaw;have hsm:(s:Int) < (m:Int):=by omega
 have hrow0:((w.alloc (.cells #[.slice (some ⟨b,off,none⟩) n cap,.slice (some ⟨B,0,none⟩) n n,.slice aao an ac,.slice (some ⟨lb,0,none⟩) m lcap,.int .i64 (s:Int),.slice (some ⟨R,0,none⟩) n n] 152)).alloc (.cells (madeCells #[.bool false] m) 4)).rowIs (w.heap.size+1) 4 m (fun _=>.bool false):=by
  have r:=World.rowIs_made (w.alloc (.cells #[.slice (some ⟨b,off,none⟩) n cap,.slice (some ⟨B,0,none⟩) n n,.slice aao an ac,.slice (some ⟨lb,0,none⟩) m lcap,.int .i64 (s:Int),.slice (some ⟨R,0,none⟩) n n] 152)) (.bool false) m 4;simpa using r
 have hc0:=hrow0.cell hs;have hf0:=hrow0.frozen s
 have HS0:Hid (SeSt w (.slice (some ⟨b,off,none⟩) n cap) (.slice (some ⟨B,0,none⟩) n n) (.slice aao an ac) (.slice (some ⟨lb,0,none⟩) m lcap) (.int .i64 (s:Int)) (.slice (some ⟨R,0,none⟩) n n) m (fun _=>false) ((w.alloc (.cells #[.slice (some ⟨b,off,none⟩) n cap,.slice (some ⟨B,0,none⟩) n n,.slice aao an ac,.slice (some ⟨lb,0,none⟩) m lcap,.int .i64 (s:Int),.slice (some ⟨R,0,none⟩) n n] 152)).alloc (.cells (madeCells #[.bool false] m) 4))):=
  ⟨by simp [go_sem],by simp [go_sem],by simp [go_sem],by simp [go_sem],by simp [go_sem],by simp [go_sem],hrow0,((Below.refl _ _).alloc (Nat.le_refl _) _).alloc (by simp) _⟩
 clear hrow0
 go_enter Tryz.func95,Tryz.ntmps95
 go_wp2_with fail
 have HS1:=(show Hid _ from HS0.out.put s d)
 have HS2:Hid (SeSt w (.slice (some ⟨b,off,none⟩) n cap) (.slice (some ⟨B,0,none⟩) n n) (.slice aao an ac) (.slice (some ⟨lb,0,none⟩) m lcap) (.int .i64 (s:Int)) (.slice (some ⟨R,0,none⟩) n n) m (zC7 u v m s d 0) ((w.alloc (.cells #[.slice (some ⟨b,off,none⟩) n cap,.slice (some ⟨B,0,none⟩) n n,.slice aao an ac,.slice (some ⟨lb,0,none⟩) m lcap,.int .i64 (s:Int),.slice (some ⟨R,0,none⟩) n n] 152)).alloc (.cells ((madeCells #[.bool false] m).setIfInBounds s (.bool d)) 4))):=by
  have t:=HS1.out.congr (r':=zC7 u v m s d 0) fun j _=>by rw [HR0.out]
  rw [World.setCell_alloc_at _ _ _ _ _ (by simp)] at t
  exact t
 clear HS0 HS1 hc0 hf0 hmk
 go_loopw [18] (fun i wr=>∃ c:Nat,c <= 2/\i=.int .i64 (c:Int)/\Hid (SeSt w (.slice (some ⟨b,off,none⟩) n cap) (.slice (some ⟨B,0,none⟩) n n) (.slice aao an ac) (.slice (some ⟨lb,0,none⟩) m lcap) (.int .i64 (s:Int)) (.slice (some ⟨R,0,none⟩) n n) m (zC7 u v m s d c) wr)) (fun i _=>2 - (intOf i).toNat)
 case atStart=>exact ⟨0,by omega,rfl,HS2.out⟩
 case round=>
  obtain ⟨c,hc,rfl,HSt⟩:=hrel
  by_cases hlt:c < 2
  ·have HR1:Hid (zC7 u v m s d (c+1)=rnd u v m s (zC7 u v m s d c) m):=HRS.out c
   generalize zC7 u v m s d c=r at *;generalize wr=wo at *
   go_wp2_with fail
   rw [show decide ((c:Int) < 2)=true by simp;omega]
   go_loopw [8] (fun i wr=>∃ k:Nat,k <= m/\i=.int .i64 ((m:Int) - 1 - (k:Int))/\Hid (SeSt w (.slice (some ⟨b,off,none⟩) n cap) (.slice (some ⟨B,0,none⟩) n n) (.slice aao an ac) (.slice (some ⟨lb,0,none⟩) m lcap) (.int .i64 (s:Int)) (.slice (some ⟨R,0,none⟩) n n) m (rnd u v m s r k) wr)) (fun i _=>(intOf i+1).toNat)
   case atStart=>exact ⟨0,by omega,by simp,HSt.out.congr fun j hj=>(zJ1 hj).symm⟩
   case round=>
    obtain ⟨k,hk,rfl,HSr⟩:=hrel
    by_cases hlk:k < m
    ·obtain ⟨now,hnow⟩:∃ now:Nat,now=m - 1 - k:=⟨_,rfl⟩
     have hni:(m:Int) - 1 - (k:Int)=(now:Int):=by omega
     have hnm:now < m:=by omega
     rw [hni];have HNI:Hid ((m:Int) - 1 - (k:Int)=(now:Int)):=hni;have hst:=HSr.out;have hax:(if now=m - 1 then s else now+1) < m:=by split <;> omega
     have HPut:Hid (∀ W x,SeSt w (.slice (some ⟨b,off,none⟩) n cap) (.slice (some ⟨B,0,none⟩) n n) (.slice aao an ac) (.slice (some ⟨lb,0,none⟩) m lcap) (.int .i64 (s:Int)) (.slice (some ⟨R,0,none⟩) n n) m (rnd u v m s r k) W->x=rnd u v m s r k (if now=m - 1 then s else now+1)->SeSt w (.slice (some ⟨b,off,none⟩) n cap) (.slice (some ⟨B,0,none⟩) n n) (.slice aao an ac) (.slice (some ⟨lb,0,none⟩) m lcap) (.int .i64 (s:Int)) (.slice (some ⟨R,0,none⟩) n n) m (rnd u v m s r (k+1)) (W.setCell ⟨w.heap.size+1,now,none⟩ (.bool (u now||(v now&&x))))):=fun W x h e=>(h.put now _).congr fun j hj=>by
      have:=HST.out r k hlk j hj;rw [<- hnow] at this;rw [e];exact this
     have haf1:=fun w1=>haf now w1 hnm
     generalize (if now=m - 1 then s else now+1)=ax at *
     obtain ⟨c0,c1,c2,c3,c4,c5,hrow,hbel⟩:=hst
     have HAf:Hid (∀ w1,Below wr.heap.size wr w1->w1.cell? ⟨w.heap.size+1,ax,none⟩=some (.bool (rnd u v m s r k ax))/\w1.cell? ⟨w.heap.size+1,now,none⟩=some (.bool (rnd u v m s r k now))/\w1.frozen? ⟨w.heap.size+1,now,none⟩=false/\(∀ x,Calls Tryz.prog f (#[.int .i64 (now:Int),.bool x]++caps) w1 fun e w2=>e=.returned (.bool (u now||(v now&&x)))/\Below w1.heap.size w1 w2)):=fun w1 hb=>by
      have t:=HSr.out.later hb;exact ⟨t.row.cell hax,t.row.cell hnm,t.row.frozen now,fun x=>HLaw.out w1 t.below now x hnm⟩
     have HLat:Hid (∀ w1 w2,Below wr.heap.size wr w1->Below w1.heap.size w1 w2->SeSt w (.slice (some ⟨b,off,none⟩) n cap) (.slice (some ⟨B,0,none⟩) n n) (.slice aao an ac) (.slice (some ⟨lb,0,none⟩) m lcap) (.int .i64 (s:Int)) (.slice (some ⟨R,0,none⟩) n n) m (rnd u v m s r k) w2):=fun w1 w2 h1 h2=>(HSr.out.later h1).later h2
     clear hnow hni hrow HST HLaw haf HSt HS2 HRS HRD HR0;generalize hxe:rnd u v m s r k ax=xv at *;generalize rnd u v m s r k now=xw at *;clear hxe
     go_wp2_with (first | (go_at_call 125;refine (haf1 _).mono ?_;rintro e w4 ⟨rfl,hb4⟩;obtain ⟨d0,d1,d2,hl4⟩:=HAf.out w4 hb4;have hl5:=hl4 xv) | (refine hl5.mono ?_;rintro e w5 ⟨rfl,hb5⟩;obtain ⟨g0,g1,g2,_⟩:=HAf.out w5 (hb4.trans (hb5.mono hb4.size))))
     have HFin:Hid (SeSt w (.slice (some ⟨b,off,none⟩) n cap) (.slice (some ⟨B,0,none⟩) n n) (.slice aao an ac) (.slice (some ⟨lb,0,none⟩) m lcap) (.int .i64 (s:Int)) (.slice (some ⟨R,0,none⟩) n n) m (rnd u v m s r (k+1)) (w5.setCell ⟨w.heap.size+1,now,none⟩ (.bool (u now||(v now&&xv))))):=HPut.out w5 xv (HLat.out w4 w5 hb4 hb5) rfl
     go_roundw
     case rel=>exact ⟨k+1,hlk,by have:=HNI.out;congr 1;omega,HFin⟩
     case measure=>have:=HNI.out;first | (simp [intOf];done) | (simp [intOf];omega)
    ·obtain rfl:k=m:=by omega
     go_wp2_with fail
     exact ⟨⟨c+1,hlt,by first | rfl | simp,by rw [HR1.out];exact HSr.out⟩,by simp [intOf];omega⟩
  ·obtain rfl:c=2:=by omega
   have HF:Hid (Below w.heap.size w wr/\wr.rowIs (w.heap.size+1) 4 m (fun j=>.bool (stp u v (stp u v d (m - s) s) (m - j) j))):=⟨HSt.out.below,HSt.out.row.congr fun j _=>by rw [HRD.out]⟩
   clear HSt HS2
   go_wp2_with fail
   go_ret
   exact ⟨rfl,HF.out.1,HF.out.2⟩
structure Six (w:World) (b:Nat) (x0 x1 x2 x3 x4 x5:Value):Prop where
 k0:w.cell? ⟨b,0,none⟩=some x0
 f0:w.frozen? ⟨b,0,none⟩=false
 k1:w.cell? ⟨b,1,none⟩=some x1
 f1:w.frozen? ⟨b,1,none⟩=false
 k2:w.cell? ⟨b,2,none⟩=some x2
 f2:w.frozen? ⟨b,2,none⟩=false
 k3:w.cell? ⟨b,3,none⟩=some x3
 f3:w.frozen? ⟨b,3,none⟩=false
 k4:w.cell? ⟨b,4,none⟩=some x4
 f4:w.frozen? ⟨b,4,none⟩=false
 k5:w.cell? ⟨b,5,none⟩=some x5
 f5:w.frozen? ⟨b,5,none⟩=false
 hl:b < w.heap.size
theorem Six.below {w w':World} {B b:Nat} {x0 x1 x2 x3 x4 x5:Value} (h:Six w b x0 x1 x2 x3 x4 x5) (hb:Below B w w') (hB:b < B):Six w' b x0 x1 x2 x3 x4 x5:=
 ⟨(hb.cell (p:=⟨b,0,none⟩) hB).trans h.k0,(hb.frozen (p:=⟨b,0,none⟩) hB).trans h.f0,(hb.cell (p:=⟨b,1,none⟩) hB).trans h.k1,(hb.frozen (p:=⟨b,1,none⟩) hB).trans h.f1,(hb.cell (p:=⟨b,2,none⟩) hB).trans h.k2,(hb.frozen (p:=⟨b,2,none⟩) hB).trans h.f2,(hb.cell (p:=⟨b,3,none⟩) hB).trans h.k3,(hb.frozen (p:=⟨b,3,none⟩) hB).trans h.f3,(hb.cell (p:=⟨b,4,none⟩) hB).trans h.k4,(hb.frozen (p:=⟨b,4,none⟩) hB).trans h.f4,(hb.cell (p:=⟨b,5,none⟩) hB).trans h.k5,(hb.frozen (p:=⟨b,5,none⟩) hB).trans h.f5,Nat.lt_of_lt_of_le h.hl hb.size⟩
theorem Six.new (w:World) (x0 x1 x2 x3 x4 x5:Value) (t:TypeId):Six (w.alloc (.cells #[x0,x1,x2,x3,x4,x5] t)) w.heap.size x0 x1 x2 x3 x4 x5:=
 ⟨by simp [go_sem],by simp [go_sem],by simp [go_sem],by simp [go_sem],by simp [go_sem],by simp [go_sem],by simp [go_sem],by simp [go_sem],by simp [go_sem],by simp [go_sem],by simp [go_sem],by simp [go_sem],by simp⟩
theorem Six.read {w:World} {b:Nat} {x0 x1 x2 x3 x4 x5:Value} (h:Six w b x0 x1 x2 x3 x4 x5) (u0 u1 u2 u3 u4 u5:Value):((w.setCell ⟨b,0,none⟩ u0)).cell? ⟨b,0,none⟩=some u0/\(((w.setCell ⟨b,0,none⟩ u0).setCell ⟨b,1,none⟩ u1)).cell? ⟨b,1,none⟩=some u1/\((((w.setCell ⟨b,0,none⟩ u0).setCell ⟨b,1,none⟩ u1).setCell ⟨b,2,none⟩ u2)).cell? ⟨b,2,none⟩=some u2/\(((((w.setCell ⟨b,0,none⟩ u0).setCell ⟨b,1,none⟩ u1).setCell ⟨b,2,none⟩ u2).setCell ⟨b,3,none⟩ u3)).cell? ⟨b,3,none⟩=some u3/\((((((w.setCell ⟨b,0,none⟩ u0).setCell ⟨b,1,none⟩ u1).setCell ⟨b,2,none⟩ u2).setCell ⟨b,3,none⟩ u3).setCell ⟨b,4,none⟩ u4)).cell? ⟨b,4,none⟩=some u4/\(((((((w.setCell ⟨b,0,none⟩ u0).setCell ⟨b,1,none⟩ u1).setCell ⟨b,2,none⟩ u2).setCell ⟨b,3,none⟩ u3).setCell ⟨b,4,none⟩ u4).setCell ⟨b,5,none⟩ u5)).cell? ⟨b,5,none⟩=some u5:=by
 obtain ⟨k0,_,k1,_,k2,_,k3,_,k4,_,k5,_,_⟩:=h;refine ⟨World.cell?_setCell_same' _ _ _ ?_,World.cell?_setCell_same' _ _ _ ?_,World.cell?_setCell_same' _ _ _ ?_,World.cell?_setCell_same' _ _ _ ?_,World.cell?_setCell_same' _ _ _ ?_,World.cell?_setCell_same' _ _ _ ?_⟩
 ·simp [go_sem,k0]
 ·simp [go_sem,k1]
 ·simp [go_sem,k2]
 ·simp [go_sem,k3]
 ·simp [go_sem,k4]
 ·simp [go_sem,k5]
end Go.Proofs.YtiimhhjkgeepjaaGreatDoor
namespace Go.Proofs.YtiimhhjkgeepjaaGreatDoor
open Go.ChangeShapes Go.WideShapes Go.ChangeAt Go.RowKit Go.Deep Go.Shelf
open Terms
set_option maxHeartbeats 6400000
set_option maxRecDepth 20000
attribute [local go_sem] Oper.semAt_some
def zGz (l:List (Int × Int)) (n k:Nat):Array Value:=#[.int .i64 ((n - 1 - k:Nat):Int),.agg #[.int .i64 (l.getD (n - 1 - k) (0,0)).1,.int .i64 (l.getD (n - 1 - k) (0,0)).2]]
set_option maxRecDepth 100000 in
theorem zSB (m:Nat) (L Bs n₀ b off n cap:Nat) (l:List (Int × Int)) (hnl:n=l.length) (h60:n <= 60) (hb:b < n₀) (J:Nat->World->Prop)
  (hY:∀ k W,k < n->J k W->YieldAt Fence.wide (m - 1) Tryz.prog L (zGz l n k) W fun e W'=>e=.returned (.bool true)/\J (k+1) W'/\zDm n₀ Bs W W')
  (W:World) (hBs:W.cell? ⟨Bs,0,none⟩=some (.slice (some ⟨b,off,none⟩) n cap)) (hc:zA4 W b off l) (h0:J 0 W) :
  CallsIn Fence.wide m Tryz.prog 124 #[.func (.yield L) #[] #[],.pointer (some ⟨Bs,0,none⟩)] W fun e W'=>(∃ v,e=.returned v)/\J n W':=by
 refine callsIn_of_wp Tryz.func124 rfl trivial ?_ rfl
 simp only [Tryz.ntmps124,List.size_toArray,List.length_cons,List.length_nil,Nat.reduceAdd,Nat.reduceSub,Array.replicate_succ,Array.replicate_zero,List.push_toArray,List.append_toArray,List.nil_append,List.cons_append];have HC:Hid (zA4 W b off l):=hc;have HN:Hid (n=l.length):=hnl;clear hc hnl
 gi_wp2
 gi_loopw [3] (fun i wr=>∃ k:Nat,k <= n/\i=.int .i64 ((n:Int) - 1 - k)/\J k wr/\zDm n₀ Bs W wr) (fun i _=>(intOf i+1).toNat)
 case atStart=>exact ⟨0,Nat.zero_le _,by first | rfl | simp,h0,Below.refl _ _,rfl⟩
 case round=>
  obtain ⟨k,hk,rfl,hJs,hnx,hbx⟩:=hrel;have hcb:wr.cell? ⟨Bs,0,none⟩=some (.slice (some ⟨b,off,none⟩) n cap):=(World.cell?_of_block (w:=W) hbx).trans hBs
  by_cases hlt:k < n
  ·obtain ⟨p,hp⟩:∃ p:Nat,p=n - 1 - k:=⟨_,rfl⟩
   have hpi:(n:Int) - 1 - k=(p:Int):=by omega
   have hpn:p < n:=by omega
   obtain ⟨c0,c1⟩:=(HC.out.below hnx hb) p (by rw [<- HN.out];exact hpn)
   obtain ⟨fn,tmps,assign,body,hy,hR⟩:=hY k wr hlt hJs;simp only [zGz,<- hp] at hy;rw [hpi];have HPI:Hid ((n:Int) - 1 - k=(p:Int)):=hpi;clear hp hpi;generalize l.getD p (0,0)=xy at c0 c1 hy;obtain ⟨x,y⟩:=xy;simp only at c0 c1 hy
   gi_wp2
   refine ⟨fun h=>by simp [Fence.wide] at h,hR.mono ?_⟩
   rintro e W3 ⟨rfl,hJ3,hk3,hk4⟩
   gi_wp2
   go_roundw
   case rel=>exact ⟨k+1,by omega,by have:=HPI.out;first | (congr 1;omega) | (simp;omega),hJ3,hnx.trans hk3,hk4.trans hbx⟩
   case measure=>have:=HPI.out;first | (simp [intOf];omega) | simp [intOf]
  ·obtain rfl:k=n:=by omega
   have hpi:(k:Int) - 1 - k=-1:=by omega
   rw [hpi]
   gi_wp2
   go_end0
   exact ⟨⟨_,rfl⟩,hJs⟩
def zQa (B:Nat) (Kp:World->World->Prop) (J:World->Prop) (W:World):Exit->Act->World->Prop
 | .normal,_,W'=>KeepsFrom B W W'/\Kp W W'/\J W'
 | _,_,_=>False
theorem zQN {P:Program} {g:Operand} {ps:Array Tmp} {assign body:Code} {Q:Exit->Act->World->Prop} {a:Act} {w:World} {m gf N:Nat} {lb:Array Value}
  (hm:1 <= m) (hg:a.eval g=.func (.func gf) #[] lb) (eg:∀ args w,(callFunc gf args).run P w=.ok (.enter gf args) w) (arg:Nat->Array Value) (hps:∀ k,(arg k).size=ps.size) (Kp:World->World->Prop)
  (hseq:∀ (l:Nat) (J:Nat->World->Prop) (W:World),Below w.heap.size w W->(∀ k W1,k < N->J k W1->YieldAt Fence.wide (m - 1 - 1) P l (arg k) W1 fun e W'=>e=.returned (.bool true)/\J (k+1) W'/\Kp W1 W')->J 0 W->CallsIn Fence.wide (m - 1) P gf (#[.func (.yield l) #[] #[]]++lb) W fun e W'=>(∃ v,e=.returned v)/\J N W')
  (hKt:∀ {A B C:World},Kp A B->Kp B C->Kp A C) (hKb:∀ (W:World) (l:Nat) (o o':Obj),w.heap.size <= l->W.heap[l]? = some o->o.isCells=false->o.isWalk=false->Kp W (W.putObj l o'))
  (I:Nat->World->Prop) (hI:OwnFrom w.heap.size I) (h0:I 0 w) (Ax:Nat->Act->World->Prop) (hAx:∀ k a',OwnFrom w.heap.size (fun (_:Unit) W=>Ax k a' W))
  (hassign:∀ (l k:Nat) (W:World) (K:Act->World->Prop),k < N->I k W->(∀ a' W',KeepsFrom w.heap.size W W'->Kp W W'->I k W'->Ax k a' W'->K a' W')->
   assign.wpIn (Fence.wide.inRound l) (m - 1 - 1) P (Exit.then K (fun _ _ _=>False)) { tmps:=(ps.zip (arg k)).foldl (fun t (p,v)=>t.setIfInBounds p v) a.tmps,defers:=[]} W)
  (hbody:∀ (l k:Nat) (a':Act) (W:World),k < N->I k W->Ax k a' W->body.wpIn (Fence.wide.inRound l) (m - 1 - 1) P (zQa w.heap.size Kp (I (k+1)) W) a' W)
  (hdone:∀ (D:Nat) (W:World),w.heap.size <= D->I N W->W.heap[D]? = some (.deferred (some []))->Q .normal { a with defers:={ target:=.collected D,args:=#[]}:: a.defers} W) :
  (Code.rangeFunc g ps assign body).wpIn Fence.wide m P Q a w:=by
 refine wpIn_rangeFunc ?_
 intro fn hfn;rw [show Fence.wide.round=none from rfl]
 obtain ⟨mk,hmk⟩:∃ mk:LoopState->Loop,mk=fun st=>{ state:=st,pending:=none,fn,tmps:=a.tmps,params:=ps,assign,body,defers:=w.heap.size}:=⟨_,rfl⟩
 obtain ⟨X,hX⟩:∃ X,X=(w.alloc (.deferred (some []))).alloc (.loop (mk .ready)):=⟨_,rfl⟩
 obtain ⟨R,hR⟩:∃ R,R=w.heap.size+1:=⟨_,rfl⟩
 have hXR:X.heap[R]? = some (.loop (mk .ready)):=by
  have:=World.alloc_heap_new (w.alloc (.deferred (some []))) (.loop (mk .ready));rw [World.size_alloc,<- hX,<- hR] at this;exact this
 have hXD:X.heap[w.heap.size]? = some (.deferred (some [])):=by
  rw [hX];exact (Below.heap_alloc _ _ _ (by simp)).trans (World.alloc_heap_new w _)
 have hXI:I 0 X:=by rw [hX];exact hI.alloc _ (hI.alloc _ h0)
 have hXB:Below w.heap.size w X:=by rw [hX];exact ((Below.refl _ w).alloc (Nat.le_refl _) _).alloc (by simp) _
 refine ⟨R,[{ target:=.collected w.heap.size,args:=#[]}],X,{ target:=.fn (.func gf) lb,args:=#[.func (.yield R) #[] #[]]},X,gf,#[.func (.yield R) #[] #[]]++lb,X,?_,?_,?_,?_,fun _=>hm,?_⟩
 ·rw [hX,hR,hmk];exact run_enterLoop_outer _ _ _ _ _
 ·simp only [resolve,hg]
  simp [go_sem]
 ·intro f' _;trivial
 ·simp [invoke,go_sem,eg]
 refine (hseq R (fun k W=>I k W/\W.heap[R]? = some (.loop (mk .ready))/\W.heap[w.heap.size]? = some (.deferred (some []))) X hXB ?_ ⟨hXI,hXR,hXD⟩).mono ?_
 ·rintro k W hkN ⟨hi,hl,hd⟩
  have hy:=run_yield (P:=P) (args:=arg k) hl (by rw [hmk];exact hps k)
  rw [hmk] at hy;refine ⟨fn,_,assign,body,hy,roundIn_of_wpIn hfn (hassign _ k W _ hkN hi ?_)⟩
  intro a' V hf hp hiV hax;have hlV:=hf.same _ _ (by omega) hl rfl
  have hdV:=hf.same _ _ (Nat.le_refl _) hd rfl;have hRV:R < V.heap.size:=(Array.getElem?_eq_some_iff.1 hlV).1
  refine ⟨_,run_beginRound hlV (by rw [hmk]),?_⟩
  obtain ⟨U,hU⟩:∃ U,U=V.putObj R (.loop { mk .ready with state:=.busy}):=⟨_,rfl⟩
  have hUR:U.heap[R]? = some (.loop { mk .ready with state:=.busy}):=by rw [hU];exact World.putObj_heap_same hRV
  have hUD:U.heap[w.heap.size]? = some (.deferred (some [])):=by rw [hU];exact (World.putObj_heap_other (by omega)).trans hdV
  have hUK:Kp V U:=by rw [hU];exact hKb _ _ _ _ (by omega) hlV rfl rfl
  have hUI:I k U:=by rw [hU];exact hI.putObj _ hiV (by omega) hlV rfl
  have hUA:Ax k a' U:=by rw [hU];exact (hAx k a').putObj (s:=()) _ hax (by omega) hlV rfl
  rw [<- hU];refine wpIn_mono (hbody _ k a' U hkN hUI hUA) ?_
  rintro e a3 Z hz
  cases e with
  | normal=>
   obtain ⟨hfZ,hpZ,hiZ⟩:=hz;have hlZ:=hfZ.same _ _ (by omega) hUR rfl
   have hdZ:=hfZ.same _ _ (Nat.le_refl _) hUD rfl;have hr:=run_endRound (P:=P) none hlZ;have hRZ:R < Z.heap.size:=(Array.getElem?_eq_some_iff.1 hlZ).1
   refine ⟨_,_,hr,rfl,⟨hI.putObj _ hiZ (by omega) hlZ rfl,?_,(World.putObj_heap_other (by omega)).trans hdZ⟩,hKt hp (hKt (hKt hUK hpZ) (hKb _ _ _ _ (by omega) hlZ rfl rfl))⟩
   rw [World.putObj_heap_same hRZ,hmk];rfl
  | _=>exact hz.elim
 ·rintro e W2 ⟨⟨v,rfl⟩,hi,hl,hd⟩
  exact ⟨none,_,by have:=run_endLoop (P:=P) hl (by rw [hmk];simp);rw [hmk] at this;exact this,hdone _ _ (Nat.le_refl _) (hI.putObj _ hi (by omega) hl rfl) ((World.putObj_heap_other (by omega)).trans hd)⟩
