import Derived.Test.YtfnobbpbmelgnaaGreatDoorRow
import Derived.Deep.RegionWith
namespace Go.Proofs.YtfnobbpbmelgnaaGreatDoor
open Go.ChangeShapes Go.WideShapes Go.ChangeAt Go.RowKit Go.Deep
open Terms
set_option maxHeartbeats 6400000
set_option maxRecDepth 20000
def I64 (n:Int):Prop:=-9223372036854775808 <= n/\n <= 9223372036854775807
theorem neg_rem {x m:Int} (hx:x <= 0) (hm:0 < m):0 <= -(x.tmod m)/\-(x.tmod m) < m:=by
 rw [<- Int.neg_tmod,Int.tmod_eq_emod_of_nonneg (by omega)]
 exact ⟨Int.emod_nonneg _ (by omega),Int.emod_lt_of_pos _ hm⟩
def pk (n m:Int):Int:=if n < 0 then -((n+1).tmod m) else n % m
theorem pk_range {n m:Int} (hm:0 < m):0 <= pk n m/\pk n m < m:=by
 unfold pk
 split
 ·exact neg_rem (by omega) hm
 ·exact ⟨Int.emod_nonneg _ (by omega),Int.emod_lt_of_pos _ hm⟩
theorem picked_is (n many:Int) (w:World) (hn:I64 n) (hm:0 < many) (hm2:many <= 10000) :
  Calls Tryz.prog 18 #[.int .i64 n,.int .i64 many] w fun e w'=>e=.returned (.int .i64 (pk n many))/\w'=w:=by
 obtain ⟨h1,h2⟩:=hn
 by_cases h0:n < 0
 ·have hne:¬ many=0:=by omega
  rw [show pk n many=-((n+1).tmod many) by unfold pk;rw [if_pos h0]]
  go_enter Tryz.func18,Tryz.ntmps18
  go_wp2
  go_ret
  exact ⟨rfl,rfl⟩
 ·have hne:¬ many=0:=by omega
  rw [show pk n many=n % many by unfold pk;rw [if_neg h0]]
  go_enter Tryz.func18,Tryz.ntmps18
  go_wp2
  go_ret
  exact ⟨rfl,rfl⟩
theorem picked_any (n many:Int) (w:World) (hn:I64 n) (hm:0 < many) (hm2:many <= 100) :
  Calls Tryz.prog 18 #[.int .i64 n,.int .i64 many] w fun e w'=>∃ r,0 <= r/\r < many/\e=.returned (.int .i64 r)/\w'=w:=
 (picked_is n many w hn hm (by omega)).mono fun _ _ ⟨h1,h2⟩=>⟨_,(pk_range hm).1,(pk_range hm).2,h1,h2⟩
structure Raws (w:World) (G:Nat) (v:Value) (rs:List (Int × Int)):Prop where
 shape:∃ ao cap,v=.slice ao rs.length cap/\(rs≠[]->∃ b off,ao=some ⟨b,off,none⟩/\b < G/\OpsAt w b off rs)
 len:rs.length <= 140737488355328
 range:∀ i,i < rs.length->I64 (rs.getD i (0,0)).1/\I64 (rs.getD i (0,0)).2
theorem Raws.below {w w':World} {G:Nat} {v:Value} {rs:List (Int × Int)} (h:Raws w G v rs) (hb:Below G w w'):Raws w' G v rs:=by
 obtain ⟨⟨ao,cap,hv,h1⟩,h2,h3⟩:=h;refine ⟨⟨ao,cap,hv,fun hne=>?_⟩,h2,h3⟩
 obtain ⟨b,off,ha,hlt,hat⟩:=h1 hne;exact ⟨b,off,ha,hlt,hat.below hb hlt⟩
def GrownAt (w:World) (G:Nat) (rawv:Value) (at':Nat) (vars props tempo:Int) (l:List (Int × Int)):Prop:=
 ∃ outv,w.heap[G]? = some (.cells #[rawv,.int .i64 at',.int .i64 vars,.int .i64 props,.int .i64 tempo,outv] 80 (0,0))/\w.ownsRow (G+1) 50 2 outv l.length (flat l)
theorem gcells {w:World} {G:Nat} {rawv outv:Value} {at':Nat} {vars props tempo:Int} (hh:w.heap[G]? = some (.cells #[rawv,.int .i64 at',.int .i64 vars,.int .i64 props,.int .i64 tempo,outv] 80 (0,0))) :
  w.cell? ⟨G,0,none⟩=some rawv/\w.cell? ⟨G,1,none⟩=some (.int .i64 at')/\w.cell? ⟨G,2,none⟩=some (.int .i64 vars)/\w.cell? ⟨G,5,none⟩=some outv/\(∀ i,w.frozen? ⟨G,i,none⟩=false)/\G < w.heap.size:=by
 refine ⟨?_,?_,?_,?_,fun i=>?_,(Array.getElem?_eq_some_iff.1 hh).1⟩
 ·simp [World.cell?,hh]
 ·simp [World.cell?,hh]
 ·simp [World.cell?,hh]
 ·simp [World.cell?,hh]
 ·simp [World.frozen?,hh]
theorem GrownAt.later {w w':World} {G:Nat} {rawv:Value} {at':Nat} {vars props tempo:Int} {l:List (Int × Int)} (h:GrownAt w G rawv at' vars props tempo l) (hb:Below w.heap.size w w'):GrownAt w' G rawv at' vars props tempo l:=by
 obtain ⟨outv,hh,ho⟩:=h;have hlt:=(Array.getElem?_eq_some_iff.1 hh).1
 refine ⟨outv,(hb.block G hlt).trans hh,ho.1,?_⟩
 rcases ho.2 with h2 | ⟨g,cap,cur,hv,hg,hhh,r⟩
 ·exact .inl h2
 ·exact .inr ⟨g,cap,cur,hv,hg,(hb.block g ((Array.getElem?_eq_some_iff.1 hhh).1)).trans hhh,r⟩
theorem put_block {w wa w':World} {G:Nat} {rawv:Value} {at':Nat} {vars props tempo:Int} {n:Nat} {xs:List Value} {outv:Value} (hh:w.heap[G]? = some (.cells #[rawv,.int .i64 at',.int .i64 vars,.int .i64 props,.int .i64 tempo,outv] 80 (0,0)))
  (ho:w.ownsRow (G+1) 50 2 outv n xs) (ha:∃ o,wa=w.alloc o) (hg:wa.grownBy w' outv.ownBlock) :
  w'.heap[G]? = some (.cells #[rawv,.int .i64 at',.int .i64 vars,.int .i64 props,.int .i64 tempo,outv] 80 (0,0))/\Below G w w':=by
 obtain ⟨o,rfl⟩:=ha;have hlt:=(Array.getElem?_eq_some_iff.1 hh).1
 have hrow:∀ k,outv.ownBlock=some k->G+1 <= k:=fun k hk=>(ho.lt k hk).1
 constructor
 ·rw [hg.block G (by simp;omega) (fun e=>by have:=hrow G e.symm;omega)]
  rw [Below.heap_alloc _ _ _ hlt];exact hh
 ·exact ((Below.refl G w).alloc (by omega) _).grown hg (by simp;omega) (fun k hk=>by have:=hrow k hk;omega)
theorem put_end {w':World} {G:Nat} {rawv:Value} {at':Nat} {vars props tempo:Int} {l:List (Int × Int)} {outv v':Value} {x:Int × Int} (hh':w'.heap[G]? = some (.cells #[rawv,.int .i64 at',.int .i64 vars,.int .i64 props,.int .i64 tempo,outv] 80 (0,0)))
  (ho':w'.ownsRow (G+1) 50 2 v' (l.length+1) (flat l++[.int .i64 x.1,.int .i64 x.2])):GrownAt (w'.setCell ⟨G,5,none⟩ v') G rawv at' vars props tempo (l++[x]):=by
 refine ⟨v',by simp [World.setCell,Array.getElem?_modify,hh'],?_⟩
 refine ownsRow_setCell_below ?_ (by simp) _
 have e:flat (l++[x])=flat l++[.int .i64 x.1,.int .i64 x.2]:=by simp [flat]
 rw [e];simpa using ho'
theorem put_any (G:Nat) (rawv:Value) (at':Nat) (vars props tempo kind value:Int) (l:List (Int × Int)) (w:World) (hl:l.length <= 100) (h:GrownAt w G rawv at' vars props tempo l) :
  Calls Tryz.prog 41 #[.pointer (some ⟨G,0,none⟩),.int .i64 kind,.int .i64 value] w fun e w'=>e=.returned (.tuple #[])/\GrownAt w' G rawv at' vars props tempo (l++[(kind,value)])/\Below G w w':=by
 obtain ⟨i0,hi,hz0,hz1,hz2⟩:=info_parts infoOp;obtain ⟨outv,hh,ho⟩:=h
 obtain ⟨ao,cap,rfl⟩:∃ ao cap,outv=.slice ao l.length cap:=by
  rcases ho.2 with ⟨rfl,h0⟩ | ⟨g,cap,cur,rfl,_⟩
  ·exact ⟨none,0,by rw [h0]⟩
  ·exact ⟨_,_,rfl⟩
 obtain ⟨_,_,_,c5,hf,hlt⟩:=gcells hh;have hf5:=hf 5;have HH:Hid (w.heap[G]? = some (.cells #[rawv,.int .i64 at',.int .i64 vars,.int .i64 props,.int .i64 tempo,.slice ao l.length cap] 80 (0,0))):=hh;clear hh hf
 go_enter Tryz.func41,Tryz.ntmps41
 go_wp2_with (at_builtin;refine wpList_append_own _ rfl (.tmp 10) (.tmp 14) 32 rfl (G+1) 50 i0 (.agg #[.int .i64 0,.int .i64 0]) 2 16 Tryz.underlying32 hi hz0 hz1 hz2 rfl (by decide) _ _ _ rfl (ho.alloc _) ⟨_,0,none⟩ 1 1 [.int .i64 kind,.int .i64 value] rfl rfl (two_new _ _ _ _) ?c2 ?c3 ?c4 ?c5 ?_)
 case c2=>intro u hu;simp at hu;rcases hu with rfl | rfl <;> rfl
 case c3=>unfold maxLen;omega
 case c4=>omega
 case c5=>simp;omega
 intro v' w4 hown' hgrow _;obtain ⟨hh4,hb4⟩:=put_block HH.out ho ⟨_,rfl⟩ hgrow;obtain ⟨_,_,_,d5,df,_⟩:=gcells hh4;have df5:=df 5
 obtain ⟨ao',cap',rfl⟩:∃ ao cap,v'=.slice ao (l.length+1) cap:=by
  rcases hown'.2 with ⟨rfl,h0⟩ | ⟨g,cap,cur,rfl,_⟩
  ·omega
  ·exact ⟨_,_,rfl⟩
 have hend:=put_end (x:=(kind,value)) hh4 hown';clear hown' hgrow ho hh4 df
 go_wp2
 go_end0
 exact ⟨rfl,hend,hb4.setCell (Nat.le_refl _) _⟩
theorem take_end {w w5:World} {G:Nat} {rawv:Value} {at':Nat} {vars props tempo:Int} {l:List (Int × Int)} (h:GrownAt w G rawv at' vars props tempo l) (hb:Below w.heap.size w w5) (x y:Value) :
  GrownAt (((w5.setCell ⟨G,1,none⟩ (.int .i64 ((at':Int)+1))).setCell ⟨w.heap.size,0,none⟩ x).setCell ⟨w.heap.size,1,none⟩ y) G rawv (at' + 1) vars props tempo l/\Below G w (((w5.setCell ⟨G,1,none⟩ (.int .i64 ((at':Int)+1))).setCell ⟨w.heap.size,0,none⟩ x).setCell ⟨w.heap.size,1,none⟩ y):=by
 have h5:=h.later hb;obtain ⟨outv,hh,ho⟩:=h;obtain ⟨outv',hh5,ho5⟩:=h5;have hlt:=(Array.getElem?_eq_some_iff.1 hh).1
 have e:outv'=outv:=by
  rw [hb.block G hlt,hh] at hh5;simp at hh5
  exact hh5.symm
 subst e;refine ⟨⟨outv',?_,?_⟩,?_⟩
 ·rw [Below.heap_setCell _ _ _ _ (by simp;omega),Below.heap_setCell _ _ _ _ (by simp;omega)]
  simp [World.setCell,Array.getElem?_modify,hh5]
 ·refine ⟨ho.1,?_⟩
  rcases ho.2 with h2 | ⟨g,cap,cur,hv,hg,hhh,r⟩
  ·exact .inl h2
  ·have hgl:=(Array.getElem?_eq_some_iff.1 hhh).1
   refine .inr ⟨g,cap,cur,hv,hg,?_,r⟩
   rw [Below.heap_setCell _ _ _ _ (by simp;omega),Below.heap_setCell _ _ _ _ (by simp;omega),Below.heap_setCell _ _ _ _ (by simp;omega),hb.block g hgl]
   exact hhh
 ·exact (((hb.mono (B':=G) (by omega)).setCell (p:=⟨G,1,none⟩) (Nat.le_refl _) _).setCell (p:=⟨w.heap.size,0,none⟩) (by simp;omega) _).setCell (p:=⟨w.heap.size,1,none⟩) (by simp;omega) _
theorem take_is (G:Nat) (rawv:Value) (rs:List (Int × Int)) (at':Nat) (vars props tempo:Int) (l:List (Int × Int)) (w:World) (hat:at' <= 100) (hR:Raws w G rawv rs) (h:GrownAt w G rawv at' vars props tempo l) :
  Calls Tryz.prog 40 #[.pointer (some ⟨G,0,none⟩)] w fun e w'=>∃ k v,Hid (rs.getD at' (0,0)=(k,v))/\I64 k/\I64 v/\e=.returned (.agg #[.int .i64 k,.int .i64 v])/\GrownAt w' G rawv (at' + 1) vars props tempo l/\Below G w w':=by
 have H:Hid (GrownAt w G rawv at' vars props tempo l):=h;obtain ⟨outv,hh,ho⟩:=h;obtain ⟨⟨rao,rcap,rfl,hcells⟩,hlen,hrange⟩:=hR;obtain ⟨c0,c1,_,_,hf,hlt⟩:=gcells hh;have hf1:=hf 1;obtain ⟨n,hn⟩:∃ n,rs.length=n:=⟨_,rfl⟩
 rw [hn] at c0 hlen;clear hh ho hf
 by_cases hin:at' < n
 ·obtain ⟨b,off,rfl,hbG,hat2⟩:=hcells (by intro h;subst h;simp at hn;omega)
  obtain ⟨d0,d1⟩:=hat2 at' (by omega)
  obtain ⟨k1,k2⟩:=hrange at' (by omega)
  obtain ⟨x,y,hxy⟩:∃ x y,rs.getD at' (0,0)=(x,y):=⟨_,_,rfl⟩
  rw [hxy] at d0 d1 k1 k2;have HXY:Hid (rs.getD at' (0,0)=(x,y)):=hxy;simp only at d0 d1 k1 k2
  clear hxy;clear hcells hrange hat2;have hbs:b < w.heap.size:=by omega
  go_enter Tryz.func40,Tryz.ntmps40
  go_wp2_with fail
  go_quiet (fail)
  go_wp2_with fail
  go_region
  go_wp2_with fail
  have hb5:=(((((Below.refl w.heap.size w).alloc (Nat.le_refl _) (.cells #[.int .i64 0,.int .i64 0] 106)).alloc (by simp) (.cells #[.int .i64 0,.int .i64 0] 106))))
  obtain ⟨e1,e2⟩:=take_end H.out (((below_drewN hb5 (nq+1)).setCell (p:=⟨w.heap.size+1,0,none⟩) (by simp) (.int .i64 x)).setCell (p:=⟨w.heap.size+1,1,none⟩) (by simp) (.int .i64 y)) (.int .i64 x) (.int .i64 y)
  exact bodyPost_ret (v:=.agg #[.int .i64 x,.int .i64 y]) (by simp [results,Tryz.results40,go_sem]) rfl ⟨x,y,HXY,k1,k2,rfl,e1,e2⟩
 ·clear hcells hrange
  have HXY:Hid (rs.getD at' (0,0)=(0,0)):=by
   show rs.getD at' (0,0)=(0,0)
   rw [List.getD_eq_getElem?_getD,List.getElem?_eq_none (by omega)]
   rfl
  go_enter Tryz.func40,Tryz.ntmps40
  go_wp2_with fail
  go_quiet (fail)
  go_wp2_with fail
  have hb5:=(((((Below.refl w.heap.size w).alloc (Nat.le_refl _) (.cells #[.int .i64 0,.int .i64 0] 106)).alloc (by simp) (.cells #[.int .i64 0,.int .i64 0] 106))))
  obtain ⟨e1,e2⟩:=take_end H.out (below_drewN hb5 nq) (.int .i64 0) (.int .i64 0);exact bodyPost_ret (v:=.agg #[.int .i64 0,.int .i64 0]) (by simp [results,Tryz.results40,go_sem]) rfl ⟨0,0,HXY,by unfold I64;omega,by unfold I64;omega,rfl,e1,e2⟩
theorem take_any (G:Nat) (rawv:Value) (rs:List (Int × Int)) (at':Nat) (vars props tempo:Int) (l:List (Int × Int)) (w:World) (hat:at' <= 100) (hR:Raws w G rawv rs) (h:GrownAt w G rawv at' vars props tempo l) :
  Calls Tryz.prog 40 #[.pointer (some ⟨G,0,none⟩)] w fun e w'=>∃ k v,I64 k/\I64 v/\e=.returned (.agg #[.int .i64 k,.int .i64 v])/\GrownAt w' G rawv (at' + 1) vars props tempo l/\Below G w w':=
 (take_is G rawv rs at' vars props tempo l w hat hR h).mono fun _ _ ⟨k,v,_,h1⟩=>⟨k,v,h1⟩
theorem take_kv (G:Nat) (rawv:Value) (rs:List (Int × Int)) (at':Nat) (vars props tempo:Int) (l:List (Int × Int)) (w:World) (hat:at' <= 100) (hR:Raws w G rawv rs) (h:GrownAt w G rawv at' vars props tempo l) {k v:Int} (hkv:rs.getD at' (0,0)=(k,v)) :
  Calls Tryz.prog 40 #[.pointer (some ⟨G,0,none⟩)] w fun e w'=>e=.returned (.agg #[.int .i64 k,.int .i64 v])/\GrownAt w' G rawv (at' + 1) vars props tempo l/\Below G w w':=
 (take_is G rawv rs at' vars props tempo l w hat hR h).mono fun _ _ ⟨k',v',h0,_,_,h1⟩=>by
  have e:=h0.out;rw [hkv] at e
  injection e with e1 e2
  subst e1 e2;exact h1
theorem Raws.I64 {w:World} {G:Nat} {rawv:Value} {rs:List (Int × Int)} (hR:Raws w G rawv rs) {at':Nat} {k v:Int} (hkv:rs.getD at' (0,0)=(k,v)):I64 k/\I64 v:=by
 by_cases h:at' < rs.length
 ·have:=hR.range at' h
  rw [hkv] at this;exact this
 ·rw [List.getD_eq_getElem?_getD,List.getElem?_eq_none (by omega)] at hkv
  injection hkv with e1 e2
  subst e1 e2;unfold Go.Proofs.YtfnobbpbmelgnaaGreatDoor.I64;omega
inductive NumT (vars:Int):Nat->List (Int × Int)->Prop
 | var (d:Nat) (v:Int):0 <= v->v < vars->NumT vars d [(2,v)]
 | num (d:Nat) (v:Int):-4 <= v->v <= 4->NumT vars d [(1,v)]
 | bin (d:Nat) (k:Int) (a b:List (Int × Int)):3 <= k->k <= 5->NumT vars d a->NumT vars d b->NumT vars (d+1) ((k,0):: (a++b))
inductive TruT (vars:Int):Nat->List (Int × Int)->Prop
 | lit (d:Nat) (k:Int):11 <= k->k <= 12->TruT vars d [(k,0)]
 | cmp (d:Nat) (k:Int) (a b:List (Int × Int)):6 <= k->k <= 7->NumT vars 1 a->NumT vars 1 b->TruT vars d ((k,0):: (a++b))
 | not (d:Nat) (a:List (Int × Int)):TruT vars d a->TruT vars (d+1) ((10,0):: a)
 | bin (d:Nat) (k:Int) (a b:List (Int × Int)):8 <= k->k <= 9->TruT vars d a->TruT vars d b->TruT vars (d+1) ((k,0):: (a++b))
theorem NumT.len {vars:Int} {d:Nat} {t:List (Int × Int)} (h:NumT vars d t):1 <= t.length/\t.length+1 <= 2 ^ (d+1):=by
  induction h with
  | var d v _ _ => have : 2 ^ (d + 1) = 2 * 2 ^ d := by rw [Nat.pow_succ, Nat.mul_comm]
                   have:0 < 2 ^ d:=Nat.two_pow_pos d
                   simp;omega
  | num d v _ _ => have : 2 ^ (d + 1) = 2 * 2 ^ d := by rw [Nat.pow_succ, Nat.mul_comm]
                   have:0 < 2 ^ d:=Nat.two_pow_pos d
                   simp;omega
  | bin d k a b _ _ _ _ iha ihb=>
    have:2 ^ (d+1+1)=2*2 ^ (d+1):=by rw [Nat.pow_succ,Nat.mul_comm]
    simp;omega
def gkN (rs:List (Int × Int)) (d at':Nat):Int:=if d=0\/14 <= at' then pk (rs.getD at' (0,0)).1 2 else pk (rs.getD at' (0,0)).1 5
def gnuF (rs:List (Int × Int)) (vars:Int):Nat->Nat->List (Int × Int)
 | 0,at'=>if gkN rs 0 at'=1 then [(2,pk (rs.getD at' (0,0)).2 vars)] else [(1,pk (rs.getD at' (0,0)).2 9 - 4)]
 | d+1,at'=>if gkN rs (d+1) at'=1 then [(2,pk (rs.getD at' (0,0)).2 vars)] else if gkN rs (d+1) at' < 2 then [(1,pk (rs.getD at' (0,0)).2 9 - 4)] else (3+gkN rs (d+1) at' - 2,0):: (gnuF rs vars d (at' + 1)++gnuF rs vars d (at' + 1+(gnuF rs vars d (at' + 1)).length))
theorem gnuF_leaf {rs:List (Int × Int)} {vars:Int} {d at':Nat} {k v:Int} (hleaf:d=0\/14 <= at') (hkv:rs.getD at' (0,0)=(k,v)):gnuF rs vars d at'=if pk k 2=1 then [(2,pk v vars)] else [(1,pk v 9 - 4)]:=by
 have hk:gkN rs d at'=pk k 2:=by unfold gkN;rw [if_pos hleaf,hkv]
 have:=pk_range (n:=k) (m:=2) (by decide)
 cases d with
 | zero=>rw [gnuF,hk,hkv]
 | succ d=>rw [gnuF,hk,hkv,if_pos (show pk k 2 < 2 by omega)]
theorem gnuF_more {rs:List (Int × Int)} {vars:Int} {d at':Nat} {k v:Int} (hat:¬ 14 <= at') (hkv:rs.getD at' (0,0)=(k,v)):gnuF rs vars (d+1) at'=if pk k 5=1 then [(2,pk v vars)] else if pk k 5 < 2 then [(1,pk v 9 - 4)] else (3+pk k 5 - 2,0):: (gnuF rs vars d (at' + 1)++gnuF rs vars d (at' + 1+(gnuF rs vars d (at' + 1)).length)):=by
 have hk:gkN rs (d+1) at'=pk k 5:=by unfold gkN;rw [if_neg (by omega),hkv]
 rw [gnuF,hk,hkv]
def GrewN (G:Nat) (rawv:Value) (rs:List (Int × Int)) (at':Nat) (vars props tempo:Int) (l:List (Int × Int)) (d:Nat) (w:World) (e:Ending) (w':World):Prop:=
 ∃ t,e=.returned (.tuple #[])/\NumT vars d t/\(14 <= at'->t.length=1)/\GrownAt w' G rawv (at' + t.length) vars props tempo (l++t)/\Below G w w'/\Hid (t=gnuF rs vars d at')
theorem GrownAt.facts {w:World} {G:Nat} {rawv:Value} {at':Nat} {vars props tempo:Int} {l:List (Int × Int)} (h:GrownAt w G rawv at' vars props tempo l) :
  w.cell? ⟨G,1,none⟩=some (.int .i64 at')/\w.cell? ⟨G,2,none⟩=some (.int .i64 vars)/\G < w.heap.size:=by
 obtain ⟨outv,hh,ho⟩:=h;obtain ⟨_,a,b,_,_,c⟩:=gcells hh;exact ⟨a,b,c⟩
theorem GrownAt.alloc {w:World} {G:Nat} {rawv:Value} {at':Nat} {vars props tempo:Int} {l:List (Int × Int)} (h:GrownAt w G rawv at' vars props tempo l) (o:Obj):GrownAt (w.alloc o) G rawv at' vars props tempo l:=h.later ((Below.refl _ _).alloc (Nat.le_refl _) _)
theorem number_leaf (G:Nat) (rawv:Value) (rs:List (Int × Int)) (at':Nat) (vars props tempo:Int) (l:List (Int × Int)) (d:Nat) (w:World) (hat:at' <= 98) (hl:l.length <= 98) (hv1:1 <= vars) (hv2:vars <= 100) (hd:d <= 100) (hleaf:d=0\/14 <= at')
  (hR:Raws w G rawv rs) (h:GrownAt w G rawv at' vars props tempo l) :
  Calls Tryz.prog 39 #[.pointer (some ⟨G,0,none⟩),.int .i64 d] w (GrewN G rawv rs at' vars props tempo l d w):=by
 obtain ⟨k,v,hkv⟩:∃ k v,rs.getD at' (0,0)=(k,v):=⟨_,_,rfl⟩
 have htake:=take_kv G rawv rs at' vars props tempo l w (by omega) hR h hkv
 have hlt:G < w.heap.size:=h.facts.2.2;obtain ⟨ik,iv⟩:=hR.I64 hkv;have HF:Hid (gnuF rs vars d at'=if pk k 2=1 then [(2,pk v vars)] else [(1,pk v 9 - 4)]):=gnuF_leaf hleaf hkv
 have hp5:=fun w=>picked_is k 5 w ik (by decide) (by decide)
 have hp2:=fun w=>picked_is k 2 w ik (by decide) (by decide)
 have hp9:=fun w=>picked_is v 9 w iv (by decide) (by decide)
 have hpv:=fun w=>picked_is v vars w iv (by omega) (by omega)
 have r5:=pk_range (n:=k) (m:=5) (by decide)
 have r2:=pk_range (n:=k) (m:=2) (by decide)
 have r9:=pk_range (n:=v) (m:=9) (by decide)
 have rv:=pk_range (n:=v) (m:=vars) (by omega)
 generalize pk k 5=p5 at *;generalize pk k 2=p2 at *;generalize pk v 9=p9 at *;generalize pk v vars=pv at *;clear hR h hkv
 by_cases hd0:d=0
 ·subst hd0
  clear hleaf
  go_enter Tryz.func39,Tryz.ntmps39
  go_wp2_with (first | (go_at_call 40;refine htake.mono ?_;rintro e w1 ⟨rfl,hg1,hb1⟩;obtain ⟨d1,d2,dlt⟩:=hg1.facts;have hg2:=hg1.alloc (.cells #[.int .i64 k,.int .i64 v] 106)) | (go_at_call_of 18 (Value.int IntKind.i64 5);refine (hp5 _).mono ?_;rintro e w2 ⟨rfl,rfl⟩) | (go_at_call_of 18 (Value.int IntKind.i64 2);refine (hp2 _).mono ?_;rintro e w2 ⟨rfl,rfl⟩) | (go_at_call_of 18 (Value.int IntKind.i64 9);refine (hp9 _).mono ?_;rintro e w2 ⟨rfl,rfl⟩) | (go_at_call 41;refine (put_any G rawv (at' + 1) vars props tempo _ _ l _ (by omega) hg2).mono ?_;rintro e w3 ⟨rfl,hg3,hb3⟩))
  ·have hgd:GrownAt (w1.alloc (.cells #[.int .i64 k,.int .i64 v] 106)).drew G rawv (at' + 1) vars props tempo l:=hg2
   clear hg1 hg2 htake
   go_region_with (first | (go_at_call 18;refine (hpv _).mono ?_;rintro e w2 ⟨rfl,rfl⟩) | (go_at_call 41;refine (put_any G rawv (at' + 1) vars props tempo _ _ l _ (by omega) hgd).mono ?_;rintro e w3 ⟨rfl,hg3,hb3⟩))
   all_goals
    go_wp2_with fail
    go_end0
    exact ⟨[(2,pv)],rfl,.var _ _ rv.1 rv.2,fun _=>rfl,hg3,(hb1.alloc (Nat.le_of_lt dlt) _).drew.trans hb3,by show _=_;rw [HF.out,if_pos (by omega)]⟩
  ·go_end0
   exact ⟨[(1,p9 - 4)],rfl,.num _ _ (by omega) (by omega),fun _=>rfl,hg3,(hb1.alloc (Nat.le_of_lt dlt) _).trans hb3,by show _=_;rw [HF.out,if_neg (by omega)]⟩
 ·have hleaf':14 <= at':=by omega
  clear hleaf
  go_enter Tryz.func39,Tryz.ntmps39
  go_wp2_with (first | (go_at_call 40;refine htake.mono ?_;rintro e w1 ⟨rfl,hg1,hb1⟩;obtain ⟨d1,d2,dlt⟩:=hg1.facts;have hg2:=hg1.alloc (.cells #[.int .i64 k,.int .i64 v] 106)) | (go_at_call_of 18 (Value.int IntKind.i64 5);refine (hp5 _).mono ?_;rintro e w2 ⟨rfl,rfl⟩) | (go_at_call_of 18 (Value.int IntKind.i64 2);refine (hp2 _).mono ?_;rintro e w2 ⟨rfl,rfl⟩) | (go_at_call_of 18 (Value.int IntKind.i64 9);refine (hp9 _).mono ?_;rintro e w2 ⟨rfl,rfl⟩) | (go_at_call 41;refine (put_any G rawv (at' + 1) vars props tempo _ _ l _ (by omega) hg2).mono ?_;rintro e w3 ⟨rfl,hg3,hb3⟩))
  ·have hgd:GrownAt (w1.alloc (.cells #[.int .i64 k,.int .i64 v] 106)).drew G rawv (at' + 1) vars props tempo l:=hg2
   clear hg1 hg2 htake
   go_region_with (first | (go_at_call 18;refine (hpv _).mono ?_;rintro e w2 ⟨rfl,rfl⟩) | (go_at_call 41;refine (put_any G rawv (at' + 1) vars props tempo _ _ l _ (by omega) hgd).mono ?_;rintro e w3 ⟨rfl,hg3,hb3⟩))
   all_goals
    go_wp2_with fail
    go_end0
    exact ⟨[(2,pv)],rfl,.var _ _ rv.1 rv.2,fun _=>rfl,hg3,(hb1.alloc (Nat.le_of_lt dlt) _).drew.trans hb3,by show _=_;rw [HF.out,if_pos (by omega)]⟩
  ·go_end0
   exact ⟨[(1,p9 - 4)],rfl,.num _ _ (by omega) (by omega),fun _=>rfl,hg3,(hb1.alloc (Nat.le_of_lt dlt) _).trans hb3,by show _=_;rw [HF.out,if_neg (by omega)]⟩
