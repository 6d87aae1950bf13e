import Derived.Test.YtfnobbpbmelgnaaGreatDoorGrown
namespace Go.Proofs.YtfnobbpbmelgnaaGreatDoor
open Go.ChangeShapes Go.WideShapes Go.ChangeAt Go.RowKit Go.Deep
open Terms
set_option maxHeartbeats 6400000
set_option maxRecDepth 20000
theorem number_any (G:Nat) (rawv:Value) (rs:List (Int × Int)) (vars props tempo:Int) (hv1:1 <= vars) (hv2:vars <= 100) (d:Nat):∀ (at':Nat) (l:List (Int × Int)) (w:World),d <= 100->at' + 2 ^ (d+1) <= 100->l.length+2 ^ (d+1) <= 100->Raws w G rawv rs->GrownAt w G rawv at' vars props tempo l->
    Calls Tryz.prog 39 #[.pointer (some ⟨G,0,none⟩),.int .i64 d] w (GrewN G rawv rs at' vars props tempo l d w):=by
  induction d with
  | zero=>intro at' l w _ ha hl hR h;exact number_leaf G rawv rs at' vars props tempo l 0 w (by omega) (by omega) hv1 hv2 (by omega) (.inl rfl) hR h
  | succ d ih=>
    intro at' l w hd ha hl hR h;have hpw:2 ^ (d+1+1)=2*2 ^ (d+1):=by rw [Nat.pow_succ,Nat.mul_comm]
    have hpos : 2 ≤ 2 ^ (d + 1) := by have : 2 ^ (d + 1) = 2 * 2 ^ d := by rw [Nat.pow_succ, Nat.mul_comm]
                                      have:0 < 2 ^ d:=Nat.two_pow_pos d;omega
    rw [hpw] at ha hl
    by_cases hleaf:14 <= at'
    · exact number_leaf G rawv rs at' vars props tempo l (d+1) w (by omega) (by omega) hv1 hv2 hd (.inr hleaf) hR h
    obtain ⟨k,v,hkv⟩:∃ k v,rs.getD at' (0,0)=(k,v):=⟨_,_,rfl⟩
    have htake:=take_kv G rawv rs at' vars props tempo l w (by omega) hR h hkv
    have hlt:G < w.heap.size:=h.facts.2.2;obtain ⟨P,hP⟩:∃ P,P=2 ^ (d+1):=⟨_,rfl⟩
    have HP:Hid (∀ t,NumT vars d t->1 <= t.length/\t.length+1 <= P):=fun t ht=>by rw [hP];exact ht.len
    rw [<- hP] at ha hl hpos ih;have HR:Hid (Raws w G rawv rs):=hR;obtain ⟨ik,iv⟩:=hR.I64 hkv;have HF:Hid (gnuF rs vars (d+1) at'=if pk k 5=1 then [(2,pk v vars)] else if pk k 5 < 2 then [(1,pk v 9 - 4)] else (3+pk k 5 - 2,0):: (gnuF rs vars d (at' + 1)++gnuF rs vars d (at' + 1+(gnuF rs vars d (at' + 1)).length))):=gnuF_more hleaf hkv
    have hp5:=fun w=>picked_is k 5 w ik (by decide) (by decide)
    have hp9:=fun w=>picked_is v 9 w iv (by decide) (by decide)
    have hpv:=fun w=>picked_is v vars w iv (by omega) (by omega)
    have r5:=pk_range (n:=k) (m:=5) (by decide)
    have r9:=pk_range (n:=v) (m:=9) (by decide)
    have rv:=pk_range (n:=v) (m:=vars) (by omega)
    generalize pk k 5=p5 at *;generalize pk v 9=p9 at *;generalize pk v vars=pv at *;clear hR h hP hpw hkv;have hat14:at' < 14:=by omega
    have hl98:l.length <= 98:=by omega
    have hdd:((d+1:Nat):Int)=(d:Int)+1:=by omega
    rw [hdd];have hd0:((d:Int)+1 == 0)=false:=by simp;omega
    have h14:decide ((14:Int) < (at':Int)+1)=false:=by simp;omega
    clear hdd
    go_enter Tryz.func39,Tryz.ntmps39
    go_wp2_with (first | (go_at_call 40;refine htake.mono ?_;rintro e w1 ⟨rfl,hg1,hb1⟩;obtain ⟨d1,d2,dlt⟩:=hg1.facts;have hg2:=hg1.alloc (.cells #[.int .i64 k,.int .i64 v] 106)) | (go_at_call_of 18 (Value.int IntKind.i64 5);refine (hp5 _).mono ?_;rintro e w2 ⟨rfl,rfl⟩) | (go_at_call_of 18 (Value.int IntKind.i64 9);refine (hp9 _).mono ?_;rintro e w2 ⟨rfl,rfl⟩) | (go_at_call 41;refine (put_any G rawv (at' + 1) vars props tempo _ _ l _ (by omega) hg2).mono ?_;rintro e w3 ⟨rfl,hg3,hb3⟩))
    · have hgd:GrownAt (w1.alloc (.cells #[.int .i64 k,.int .i64 v] 106)).drew G rawv (at' + 1) vars props tempo l:=hg2
      clear hg1 hg2 htake ih
      go_region_with (first | (go_at_call 18;refine (hpv _).mono ?_;rintro e w2 ⟨rfl,rfl⟩) | (go_at_call 41;refine (put_any G rawv (at' + 1) vars props tempo _ _ l _ (by omega) hgd).mono ?_;rintro e w3 ⟨rfl,hg3,hb3⟩))
      all_goals
        go_wp2_with fail
        go_end0
        exact ⟨[(2,pv)],rfl,.var _ _ rv.1 rv.2,fun _=>rfl,hg3,(hb1.alloc (Nat.le_of_lt dlt) _).drew.trans hb3,by show _=_;rw [HF.out,if_pos (by omega)]⟩
    · go_end0
      exact ⟨[(1,p9 - 4)],rfl,.num _ _ (by omega) (by omega),fun _=>rfl,hg3,(hb1.alloc (Nat.le_of_lt dlt) _).trans hb3,by show _=_;rw [HF.out,if_neg (by omega),if_pos (by omega)]⟩
    · have hb13:=(hb1.alloc (Nat.le_of_lt dlt) (.cells #[.int .i64 k,.int .i64 v] 106)).trans hb3
      have hn1:=ih (at' + 1) _ w3 (by omega) (by omega) (by simp;omega) (HR.out.below hb13) hg3
      clear hg1 hg2 htake
      go_wp2_with (go_at_call 39;refine hn1.mono ?_;rintro e w4 ⟨ta,rfl,hta,_,hg4,hb4,HTa⟩)
      have hla:=HP.out ta hta;have hb14:=hb13.trans hb4;have hn2:=ih (at' + 1+ta.length) _ w4 (by omega) (by omega) (by simp;omega) (HR.out.below hb14) hg4
      clear hn1
      go_wp2_with (go_at_call 39;refine hn2.mono ?_;rintro e w5 ⟨tb,rfl,htb,_,hg5,hb5,HTb⟩)
      go_end0
      refine ⟨(3+p5 - 2,0):: (ta++tb),rfl,.bin _ _ _ _ (by omega) (by omega) hta htb,fun h=>by omega,?_,hb14.trans hb5,?_⟩
      · have e1:at' + ((3+p5 - 2,(0:Int)):: (ta++tb)).length=at' + 1+ta.length+tb.length:=by simp;omega
        have e2:l++(3+p5 - 2,(0:Int)):: (ta++tb)=l++[(3+p5 - 2,0)]++ta++tb:=by simp
        rw [e1,e2];exact hg5
      · show _=_;rw [HF.out,if_neg (by omega),if_neg (by omega),<- HTa.out,<- HTb.out]
def gcmF (rs:List (Int × Int)) (vars:Int) (at':Nat):List (Int × Int):=gnuF rs vars 1 at'++gnuF rs vars 1 (at' + (gnuF rs vars 1 at').length)
def gkT (rs:List (Int × Int)) (d at':Nat):Int:=if d=0\/10 <= at' then pk (rs.getD at' (0,0)).1 3 else pk (rs.getD at' (0,0)).1 9
def gruF (rs:List (Int × Int)) (vars:Int):Nat->Nat->List (Int × Int)
 | 0,at'=>if gkT rs 0 at'=0 then [(11+pk (rs.getD at' (0,0)).2 2,0)] else (6+gkT rs 0 at' % 2,0):: gcmF rs vars (at' + 1)
 | d+1,at'=>if gkT rs (d+1) at'=0 then [(11+pk (rs.getD at' (0,0)).2 2,0)] else if gkT rs (d+1) at' <= 4 then (6+gkT rs (d+1) at' % 2,0):: gcmF rs vars (at' + 1) else if gkT rs (d+1) at'=5 then (10,0):: gruF rs vars d (at' + 1) else (8+gkT rs (d+1) at' % 2,0):: (gruF rs vars d (at' + 1)++gruF rs vars d (at' + 1+(gruF rs vars d (at' + 1)).length))
theorem gruF_leaf {rs:List (Int × Int)} {vars:Int} {d at':Nat} {k v:Int} (hleaf:d=0\/10 <= at') (hkv:rs.getD at' (0,0)=(k,v)):gruF rs vars d at'=if pk k 3=0 then [(11+pk v 2,0)] else (6+pk k 3 % 2,0):: gcmF rs vars (at' + 1):=by
 have hk:gkT rs d at'=pk k 3:=by unfold gkT;rw [if_pos hleaf,hkv]
 have:=pk_range (n:=k) (m:=3) (by decide)
 cases d with
 | zero=>rw [gruF,hk,hkv]
 | succ d=>rw [gruF,hk,hkv,if_pos (show pk k 3 <= 4 by omega)]
theorem gruF_more {rs:List (Int × Int)} {vars:Int} {d at':Nat} {k v:Int} (hat:¬ 10 <= at') (hkv:rs.getD at' (0,0)=(k,v)):gruF rs vars (d+1) at'=if pk k 9=0 then [(11+pk v 2,0)] else if pk k 9 <= 4 then (6+pk k 9 % 2,0):: gcmF rs vars (at' + 1) else if pk k 9=5 then (10,0):: gruF rs vars d (at' + 1) else (8+pk k 9 % 2,0):: (gruF rs vars d (at' + 1)++gruF rs vars d (at' + 1+(gruF rs vars d (at' + 1)).length)):=by
 have hk:gkT rs (d+1) at'=pk k 9:=by unfold gkT;rw [if_neg (by omega),hkv]
 rw [gruF,hk,hkv]
def GrewT (G:Nat) (rawv:Value) (rs:List (Int × Int)) (at':Nat) (vars props tempo:Int) (l:List (Int × Int)) (d:Nat) (w:World) (e:Ending) (w':World):Prop:=
 ∃ t,e=.returned (.tuple #[])/\TruT vars d t/\(at' + t.length <= at' + 3\/at' + t.length <= 17+3*d)/\GrownAt w' G rawv (at' + t.length) vars props tempo (l++t)/\Below G w w'/\Hid (t=gruF rs vars d at')
theorem cmp_end {G:Nat} {rawv:Value} {rs:List (Int × Int)} {at':Nat} {vars props tempo K:Int} {l:List (Int × Int)} {d:Nat} {w w5:World} {ta tb:List (Int × Int)} (hta:NumT vars 1 ta) (htb:NumT vars 1 tb) (h6:6 <= K) (h7:K <= 7)
  (hn:at' + 1+ta.length+tb.length <= at' + 3\/at' + 1+ta.length+tb.length <= 17) (hb:Below G w w5) (hg:GrownAt w5 G rawv (at' + 1+ta.length+tb.length) vars props tempo (l++[(K,0)]++ta++tb)) {K':Int} (HF:gruF rs vars d at'=(K',0):: gcmF rs vars (at' + 1)) (hK:K=K') (HTa:Hid (ta=gnuF rs vars 1 (at' + 1))) (HTb:Hid (tb=gnuF rs vars 1 (at' + 1+ta.length))):GrewT G rawv rs at' vars props tempo l d w (.returned (.tuple #[])) w5:=by
 have e1:at' + ((K,(0:Int)):: (ta++tb)).length=at' + 1+ta.length+tb.length:=by simp;omega
 have e2:l++(K,(0:Int)):: (ta++tb)=l++[(K,0)]++ta++tb:=by simp
 refine ⟨(K,0):: (ta++tb),rfl,.cmp _ _ _ _ h6 h7 hta htb,?_,?_,hb,?_⟩
 ·rw [e1];omega
 ·rw [e1,e2];exact hg
 ·show _=_;rw [HF,gcmF,<- HTa.out,<- HTb.out,hK]
theorem truth_leaf (G:Nat) (rawv:Value) (rs:List (Int × Int)) (at':Nat) (vars props tempo:Int) (l:List (Int × Int)) (d:Nat) (w:World) (hat:at' <= 60) (hl:l.length <= 60) (hv1:1 <= vars) (hv2:vars <= 100) (hd:d <= 100) (hleaf:d=0\/10 <= at')
  (hR:Raws w G rawv rs) (h:GrownAt w G rawv at' vars props tempo l) :
  Calls Tryz.prog 38 #[.pointer (some ⟨G,0,none⟩),.int .i64 d] w (GrewT G rawv rs at' vars props tempo l d w):=by
 obtain ⟨k,v,hkv⟩:∃ k v,rs.getD at' (0,0)=(k,v):=⟨_,_,rfl⟩
 have htake:=take_kv G rawv rs at' vars props tempo l w (by omega) hR h hkv
 have hlt:G < w.heap.size:=h.facts.2.2;have HR:Hid (Raws w G rawv rs):=hR;obtain ⟨ik,iv⟩:=hR.I64 hkv;have HF:Hid (gruF rs vars d at'=if pk k 3=0 then [(11+pk v 2,0)] else (6+pk k 3 % 2,0):: gcmF rs vars (at' + 1)):=gruF_leaf hleaf hkv
 have hp9:=fun w=>picked_is k 9 w ik (by decide) (by decide)
 have hp3:=fun w=>picked_is k 3 w ik (by decide) (by decide)
 have hp2:=fun w=>picked_is v 2 w iv (by decide) (by decide)
 have r9:=pk_range (n:=k) (m:=9) (by decide)
 have r3:=pk_range (n:=k) (m:=3) (by decide)
 have r2:=pk_range (n:=v) (m:=2) (by decide)
 generalize pk k 9=p9 at *;generalize pk k 3=p3 at *;generalize pk v 2=p2 at *;clear hR h hkv
 have htst:((d:Int) == 0)=true\/((d:Int) == 0)=false/\decide ((10:Int) < (at':Int)+1)=true:=by
  by_cases h0:d=0
  ·left;simp [h0]
  ·right;simp;omega
 clear hleaf
 rcases htst with hd0 | ⟨hd0,h10⟩
 all_goals
  go_enter Tryz.func38,Tryz.ntmps38
  go_wp2_with (first | (go_at_call 40;refine htake.mono ?_;rintro e w1 ⟨rfl,hg1,hb1⟩;obtain ⟨d1,d2,dlt⟩:=hg1.facts;have hg2:=hg1.alloc (.cells #[.int .i64 k,.int .i64 v] 106)) | (go_at_call_of 18 (Value.int IntKind.i64 9);refine (hp9 _).mono ?_;rintro e w2 ⟨rfl,rfl⟩) | (go_at_call_of 18 (Value.int IntKind.i64 3);refine (hp3 _).mono ?_;rintro e w2 ⟨rfl,rfl⟩) | (go_at_call_of 18 (Value.int IntKind.i64 2);refine (hp2 _).mono ?_;rintro e w2 ⟨rfl,rfl⟩) | (go_at_call 41;refine (put_any G rawv (at' + 1) vars props tempo _ _ l _ (by omega) hg2).mono ?_;rintro e w3 ⟨rfl,hg3,hb3⟩))
  ·go_end0
   simp only [beq_iff_eq,beq_eq_false_iff_ne,ne_eq] at *;exact ⟨[(11+p2,0)],rfl,.lit _ _ (by omega) (by omega),.inl (by simp),hg3,(hb1.alloc (Nat.le_of_lt dlt) _).trans hb3,by show _=_;rw [HF.out,if_pos (by omega)]⟩
  all_goals
   have hb13:=(hb1.alloc (Nat.le_of_lt dlt) (.cells #[.int .i64 k,.int .i64 v] 106)).trans hb3;have hn1:=number_any G rawv rs vars props tempo hv1 hv2 1 (at' + 1) _ w3 (by omega) (by omega) (by simp;omega) (HR.out.below hb13) hg3
   clear hg1 hg2 htake
   go_wp2_with (go_at_call 39;refine hn1.mono ?_;rintro e w4 ⟨ta,rfl,hta,ha14,hg4,hb4,HTa⟩)
   have hla:=hta.len;have hb14:=hb13.trans hb4;have hn2:=number_any G rawv rs vars props tempo hv1 hv2 1 (at' + 1+ta.length) _ w4 (by omega) (by omega) (by simp;omega) (HR.out.below hb14) hg4
   clear hn1
   go_wp2_with (go_at_call 39;refine hn2.mono ?_;rintro e w5 ⟨tb,rfl,htb,hb14',hg5,hb5,HTb⟩)
   have hlb:=htb.len
   go_end0
   simp only [beq_iff_eq,beq_eq_false_iff_ne,ne_eq] at *;exact cmp_end hta htb (by omega) (by omega) (by omega) (hb14.trans hb5) hg5 (by show _=_;rw [HF.out,if_neg (by omega)]) (by omega) HTa HTb
theorem not_end {G:Nat} {rawv:Value} {rs:List (Int × Int)} {at':Nat} {vars props tempo:Int} {l:List (Int × Int)} {d:Nat} {w w5:World} {ta:List (Int × Int)} (hta:TruT vars d ta)
  (hn:at' + 1+ta.length <= 17+3*(d+1)) (hb:Below G w w5) (hg:GrownAt w5 G rawv (at' + 1+ta.length) vars props tempo (l++[(10,0)]++ta)) (HF:gruF rs vars (d+1) at'=(10,0):: gruF rs vars d (at' + 1)) (HTa:Hid (ta=gruF rs vars d (at' + 1))):GrewT G rawv rs at' vars props tempo l (d+1) w (.returned (.tuple #[])) w5:=by
 have e1:at' + ((10,(0:Int)):: ta:List (Int × Int)).length=at' + 1+ta.length:=by simp;omega
 have e2:l++(10,(0:Int)):: ta=l++[(10,0)]++ta:=by simp
 refine ⟨(10,0):: ta,rfl,.not _ _ hta,?_,?_,hb,?_⟩
 ·rw [e1];omega
 ·rw [e1,e2];exact hg
 ·show _=_;rw [HF,<- HTa.out]
theorem bin_end {G:Nat} {rawv:Value} {rs:List (Int × Int)} {at':Nat} {vars props tempo K:Int} {l:List (Int × Int)} {d:Nat} {w w5:World} {ta tb:List (Int × Int)} (hta:TruT vars d ta) (htb:TruT vars d tb) (h6:8 <= K) (h7:K <= 9)
  (hn:at' + 1+ta.length+tb.length <= 17+3*(d+1)) (hb:Below G w w5) (hg:GrownAt w5 G rawv (at' + 1+ta.length+tb.length) vars props tempo (l++[(K,0)]++ta++tb)) {K':Int} (HF:gruF rs vars (d+1) at'=(K',0):: (gruF rs vars d (at' + 1)++gruF rs vars d (at' + 1+(gruF rs vars d (at' + 1)).length))) (hK:K=K') (HTa:Hid (ta=gruF rs vars d (at' + 1))) (HTb:Hid (tb=gruF rs vars d (at' + 1+ta.length))):GrewT G rawv rs at' vars props tempo l (d+1) w (.returned (.tuple #[])) w5:=by
 have e1:at' + ((K,(0:Int)):: (ta++tb)).length=at' + 1+ta.length+tb.length:=by simp;omega
 have e2:l++(K,(0:Int)):: (ta++tb)=l++[(K,0)]++ta++tb:=by simp
 refine ⟨(K,0):: (ta++tb),rfl,.bin _ _ _ _ h6 h7 hta htb,?_,?_,hb,?_⟩
 ·rw [e1];omega
 ·rw [e1,e2];exact hg
 ·show _=_;rw [HF,<- HTa.out,<- HTb.out,hK]
theorem truth_any (G:Nat) (rawv:Value) (rs:List (Int × Int)) (vars props tempo:Int) (hv1:1 <= vars) (hv2:vars <= 100) (d:Nat):∀ (at':Nat) (l:List (Int × Int)) (w:World),d <= 5->at' <= 40->l.length=at'->Raws w G rawv rs->GrownAt w G rawv at' vars props tempo l->
  Calls Tryz.prog 38 #[.pointer (some ⟨G,0,none⟩),.int .i64 d] w (GrewT G rawv rs at' vars props tempo l d w):=by
 induction d with
 | zero=>intro at' l w _ ha hl hR h;exact truth_leaf G rawv rs at' vars props tempo l 0 w (by omega) (by omega) hv1 hv2 (by omega) (.inl rfl) hR h
 | succ d ih=>
  intro at' l w hd ha hl hR h
  by_cases hleaf:10 <= at'
  ·exact truth_leaf G rawv rs at' vars props tempo l (d+1) w (by omega) (by omega) hv1 hv2 (by omega) (.inr hleaf) hR h
  obtain ⟨k,v,hkv⟩:∃ k v,rs.getD at' (0,0)=(k,v):=⟨_,_,rfl⟩
  have htake:=take_kv G rawv rs at' vars props tempo l w (by omega) hR h hkv
  have hlt:G < w.heap.size:=h.facts.2.2;have HR:Hid (Raws w G rawv rs):=hR;have HL:Hid (l.length=at'):=hl;have hl98:l.length <= 40:=by omega
  obtain ⟨ik,iv⟩:=hR.I64 hkv;have HF:Hid (gruF rs vars (d+1) at'=if pk k 9=0 then [(11+pk v 2,0)] else if pk k 9 <= 4 then (6+pk k 9 % 2,0):: gcmF rs vars (at' + 1) else if pk k 9=5 then (10,0):: gruF rs vars d (at' + 1) else (8+pk k 9 % 2,0):: (gruF rs vars d (at' + 1)++gruF rs vars d (at' + 1+(gruF rs vars d (at' + 1)).length))):=gruF_more hleaf hkv
  have hp9:=fun w=>picked_is k 9 w ik (by decide) (by decide)
  have hp2:=fun w=>picked_is v 2 w iv (by decide) (by decide)
  have r9:=pk_range (n:=k) (m:=9) (by decide)
  have r2:=pk_range (n:=v) (m:=2) (by decide)
  generalize pk k 9=p9 at *;generalize pk v 2=p2 at *;clear hR h hl hkv;have hat10:at' < 10:=by omega
  have hdd:((d+1:Nat):Int)=(d:Int)+1:=by omega
  rw [hdd];have hd0:((d:Int)+1 == 0)=false:=by simp;omega
  have h10:decide ((10:Int) < (at':Int)+1)=false:=by simp;omega
  clear hdd hleaf
  go_enter Tryz.func38,Tryz.ntmps38
  go_wp2_with (first | (go_at_call 40;refine htake.mono ?_;rintro e w1 ⟨rfl,hg1,hb1⟩;obtain ⟨d1,d2,dlt⟩:=hg1.facts;have hg2:=hg1.alloc (.cells #[.int .i64 k,.int .i64 v] 106)) | (go_at_call_of 18 (Value.int IntKind.i64 9);refine (hp9 _).mono ?_;rintro e w2 ⟨rfl,rfl⟩) | (go_at_call_of 18 (Value.int IntKind.i64 2);refine (hp2 _).mono ?_;rintro e w2 ⟨rfl,rfl⟩) | (go_at_call 41;refine (put_any G rawv (at' + 1) vars props tempo _ _ l _ (by omega) hg2).mono ?_;rintro e w3 ⟨rfl,hg3,hb3⟩))
  ·go_end0
   simp only [beq_iff_eq,beq_eq_false_iff_ne,ne_eq] at *;exact ⟨[(11+p2,0)],rfl,.lit _ _ (by omega) (by omega),.inl (by simp),hg3,(hb1.alloc (Nat.le_of_lt dlt) _).trans hb3,by show _=_;rw [HF.out,if_pos (by omega)]⟩
  ·have hb13:=(hb1.alloc (Nat.le_of_lt dlt) (.cells #[.int .i64 k,.int .i64 v] 106)).trans hb3
   have hn1:=number_any G rawv rs vars props tempo hv1 hv2 1 (at' + 1) _ w3 (by omega) (by omega) (by simp;omega) (HR.out.below hb13) hg3
   clear hg1 hg2 htake ih
   go_wp2_with (go_at_call 39;refine hn1.mono ?_;rintro e w4 ⟨ta,rfl,hta,ha14,hg4,hb4,HTa⟩)
   have hla:=hta.len;have hb14:=hb13.trans hb4;have hn2:=number_any G rawv rs vars props tempo hv1 hv2 1 (at' + 1+ta.length) _ w4 (by omega) (by omega) (by simp;omega) (HR.out.below hb14) hg4
   clear hn1
   go_wp2_with (go_at_call 39;refine hn2.mono ?_;rintro e w5 ⟨tb,rfl,htb,hb14',hg5,hb5,HTb⟩)
   have hlb:=htb.len
   go_end0
   simp only [beq_iff_eq,beq_eq_false_iff_ne,ne_eq] at *;exact cmp_end hta htb (by omega) (by omega) (by omega) (hb14.trans hb5) hg5 (by show _=_;rw [HF.out,if_neg (by omega),if_pos (by omega)]) (by omega) HTa HTb
  ·have hb13:=(hb1.alloc (Nat.le_of_lt dlt) (.cells #[.int .i64 k,.int .i64 v] 106)).trans hb3
   have hn1:=number_any G rawv rs vars props tempo hv1 hv2 1 (at' + 1) _ w3 (by omega) (by omega) (by simp;omega) (HR.out.below hb13) hg3
   clear hg1 hg2 htake ih
   go_wp2_with (go_at_call 39;refine hn1.mono ?_;rintro e w4 ⟨ta,rfl,hta,ha14,hg4,hb4,HTa⟩)
   have hla:=hta.len;have hb14:=hb13.trans hb4;have hn2:=number_any G rawv rs vars props tempo hv1 hv2 1 (at' + 1+ta.length) _ w4 (by omega) (by omega) (by simp;omega) (HR.out.below hb14) hg4
   clear hn1
   go_wp2_with (go_at_call 39;refine hn2.mono ?_;rintro e w5 ⟨tb,rfl,htb,hb14',hg5,hb5,HTb⟩)
   have hlb:=htb.len
   go_end0
   simp only [beq_iff_eq,beq_eq_false_iff_ne,ne_eq] at *;exact cmp_end hta htb (by omega) (by omega) (by omega) (hb14.trans hb5) hg5 (by show _=_;rw [HF.out,if_neg (by omega),if_pos (by omega)]) (by omega) HTa HTb
  ·have hb13:=(hb1.alloc (Nat.le_of_lt dlt) (.cells #[.int .i64 k,.int .i64 v] 106)).trans hb3
   have hn1:=number_any G rawv rs vars props tempo hv1 hv2 1 (at' + 1) _ w3 (by omega) (by omega) (by simp;omega) (HR.out.below hb13) hg3
   clear hg1 hg2 htake ih
   go_wp2_with (go_at_call 39;refine hn1.mono ?_;rintro e w4 ⟨ta,rfl,hta,ha14,hg4,hb4,HTa⟩)
   have hla:=hta.len;have hb14:=hb13.trans hb4;have hn2:=number_any G rawv rs vars props tempo hv1 hv2 1 (at' + 1+ta.length) _ w4 (by omega) (by omega) (by simp;omega) (HR.out.below hb14) hg4
   clear hn1
   go_wp2_with (go_at_call 39;refine hn2.mono ?_;rintro e w5 ⟨tb,rfl,htb,hb14',hg5,hb5,HTb⟩)
   have hlb:=htb.len
   go_end0
   simp only [beq_iff_eq,beq_eq_false_iff_ne,ne_eq] at *;exact cmp_end hta htb (by omega) (by omega) (by omega) (hb14.trans hb5) hg5 (by show _=_;rw [HF.out,if_neg (by omega),if_pos (by omega)]) (by omega) HTa HTb
  ·have hb13:=(hb1.alloc (Nat.le_of_lt dlt) (.cells #[.int .i64 k,.int .i64 v] 106)).trans hb3
   have hn1:=number_any G rawv rs vars props tempo hv1 hv2 1 (at' + 1) _ w3 (by omega) (by omega) (by simp;omega) (HR.out.below hb13) hg3
   clear hg1 hg2 htake ih
   go_wp2_with (go_at_call 39;refine hn1.mono ?_;rintro e w4 ⟨ta,rfl,hta,ha14,hg4,hb4,HTa⟩)
   have hla:=hta.len;have hb14:=hb13.trans hb4;have hn2:=number_any G rawv rs vars props tempo hv1 hv2 1 (at' + 1+ta.length) _ w4 (by omega) (by omega) (by simp;omega) (HR.out.below hb14) hg4
   clear hn1
   go_wp2_with (go_at_call 39;refine hn2.mono ?_;rintro e w5 ⟨tb,rfl,htb,hb14',hg5,hb5,HTb⟩)
   have hlb:=htb.len
   go_end0
   simp only [beq_iff_eq,beq_eq_false_iff_ne,ne_eq] at *;exact cmp_end hta htb (by omega) (by omega) (by omega) (hb14.trans hb5) hg5 (by show _=_;rw [HF.out,if_neg (by omega),if_pos (by omega)]) (by omega) HTa HTb
  ·have hb13:=(hb1.alloc (Nat.le_of_lt dlt) (.cells #[.int .i64 k,.int .i64 v] 106)).trans hb3
   have hn1:=ih (at' + 1) _ w3 (by omega) (by omega) (by rw [List.length_append,HL.out];rfl) (HR.out.below hb13) hg3
   clear hg1 hg2 htake ih
   go_wp2_with (go_at_call 38;refine hn1.mono ?_;rintro e w4 ⟨ta,rfl,hta,ha14,hg4,hb4,HTa⟩)
   go_end0
   simp only [beq_iff_eq,beq_eq_false_iff_ne,ne_eq] at *;exact not_end hta (by omega) (hb13.trans hb4) hg4 (by show _=_;rw [HF.out,if_neg (by omega),if_neg (by omega),if_pos (by omega)]) HTa
  ·have hb13:=(hb1.alloc (Nat.le_of_lt dlt) (.cells #[.int .i64 k,.int .i64 v] 106)).trans hb3
   have hn1:=ih (at' + 1) _ w3 (by omega) (by omega) (by rw [List.length_append,HL.out];rfl) (HR.out.below hb13) hg3
   clear hg1 hg2 htake
   go_wp2_with (go_at_call 38;refine hn1.mono ?_;rintro e w4 ⟨ta,rfl,hta,ha14,hg4,hb4,HTa⟩)
   have hb14:=hb13.trans hb4;have hn2:=ih (at' + 1+ta.length) _ w4 (by omega) (by omega) (by rw [List.length_append,List.length_append,HL.out];rfl) (HR.out.below hb14) hg4
   clear hn1 ih
   go_wp2_with (go_at_call 38;refine hn2.mono ?_;rintro e w5 ⟨tb,rfl,htb,hb14',hg5,hb5,HTb⟩)
   go_end0
   simp only [beq_eq_false_iff_ne,ne_eq] at *;exact bin_end hta htb (by omega) (by omega) (by omega) (hb14.trans hb5) hg5 (by show _=_;rw [HF.out,if_neg (by omega),if_neg (by omega),if_neg (by omega)]) (by omega) HTa HTb
theorem grown_new (w:World) (rawv:Value) (vars props tempo:Int) :
  GrownAt (w.alloc (.cells #[rawv,.int .i64 0,.int .i64 vars,.int .i64 props,.int .i64 tempo,.slice none 0 0] 80)) w.heap.size rawv 0 vars props tempo []:=
 ⟨_,blk_alloc_new _ _,World.ownsRow_nil _ _ _ _⟩
theorem truthFn_any (rawv:Value) (rs:List (Int × Int)) (vars:Int) (w:World) (hv1:1 <= vars) (hv2:vars <= 100) (hR:Raws w w.heap.size rawv rs) :
  Calls Tryz.prog 22 #[rawv,.int .i64 vars] w fun e w'=>∃ v t,e=.returned v/\TruT vars 3 t/\t.length <= 26/\w'.ownsRow (w.heap.size+1) 50 2 v t.length (flat t)/\Below w.heap.size w w'/\Hid (t=gruF rs vars 3 0):=by
 have hb0:=(Below.refl w.heap.size w).alloc (Nat.le_refl _) (.cells #[rawv,.int .i64 0,.int .i64 vars,.int .i64 0,.int .i64 0,.slice none 0 0] 80);have htr:=truth_any w.heap.size rawv rs vars 0 0 hv1 hv2 3 0 [] _ (by omega) (by omega) rfl (hR.below hb0) (grown_new w rawv vars 0 0)
 obtain ⟨ra,rn,rc,hra⟩:∃ a n c,rawv=.slice a n c:=by obtain ⟨⟨a,c,h,_⟩,_,_⟩:=hR;exact ⟨_,_,_,h⟩
 subst hra;clear hR
 go_enter Tryz.func22,Tryz.ntmps22
 go_wp2_with (go_at_call 38;refine htr.mono ?_;rintro e w1 ⟨t,rfl,ht,hlen,hg1,hb1,HTt⟩;obtain ⟨outv,hh,ho⟩:=hg1;obtain ⟨_,_,_,c5,_,hlt⟩:=gcells hh)
 go_ret
 exact ⟨_,t,rfl,ht,by omega,by simpa using ho,hb0.trans hb1,HTt⟩
