import Derived.Test.YtehfhemidmfffaaGreatDoorGrown
open Go renaming World→X,Value→U
open Go.Ending renaming returned→V
open Go.IntKind renaming i64→Z
open Go.Obj renaming cells→Y
open Go.RowKit renaming Hid→T
open Go.Value renaming int→W
namespace Go.Proofs.YtehfhemidmfffaaGreatDoor
open _root_.List renaming length_append→qF
open _root_.Nat renaming le_of_lt→qU,mul_comm→jK,pow_succ→jL
open Go.Proofs.Tryz renaming prog→qA
open Go.ChangeShapes Go.WideShapes Go.ChangeAt Go.RowKit Go.Deep
open Terms
open IntKind renaming i64→aY
set_option maxHeartbeats 6400000
set_option maxRecDepth 20000
theorem DP (G:Nat) (rawv:U) (rs:List (Int × Int)) (vars props tempo:Int) (hv1:1 <= vars) (hv2:vars <= 100) (d:Nat):∀ (at':Nat) (l:List (Int × Int)) (w:X),d <= 100->at' + 2 ^ (d+1) <= 100->l.length+2 ^ (d+1) <= 100->Raws w G rawv rs->GrownAt w G rawv at' vars props tempo l->
    Calls qA 49 #[.pointer (some ⟨G,0,none⟩),.int Z d] w (KY G rawv rs at' vars props tempo l d w):=by
  induction d with
  |zero=>intro at' l w _ ha hl hR h;exact MZ G rawv rs at' vars props tempo l 0 w (by omega) (by omega) hv1 hv2 (by omega) (.inl rfl) hR h
  |succ d ih=>
    intro at' l w hd ha hl hR h;have hpw:2^(d+1+1)=2*2^(d+1):=by rw[jL,jK]
    have hpos : 2 ≤ 2 ^ (d + 1) := by have : 2 ^ (d + 1) = 2 * 2 ^ d := by rw [jL, jK]
                                      have:0<2^d:=Nat.two_pow_pos d;omega
    rw[hpw]at ha hl;by_cases hleaf:14<=at'
    . exact MZ G rawv rs at' vars props tempo l (d+1) w (by omega) (by omega) hv1 hv2 hd (.inr hleaf) hR h
    obtain⟨k,v,hkv⟩:∃k v,rs.getD at' (0,0)=(k,v):=⟨_,_,rfl⟩;have htake:=Hx G rawv rs at' vars props tempo l w (by omega) hR h hkv;have hlt:G<w.heap.size:=h.facts.2.2;obtain⟨P,hP⟩:∃P,P=2^(d+1):=⟨_,rfl⟩;have HP:T (∀t,NumT vars d t->1<=t.length/\t.length+1<=P):=fun t ht=>by rw[hP];exact ht.len
    rw[<-hP]at ha hl hpos ih;have HR:T (Raws w G rawv rs):=hR;obtain⟨ik,iv⟩:=hR.I64 hkv;have HF:T (BM rs vars (d+1) at'=if pk k 5=1 then [(2,pk v vars)]else if pk k 5<2 then [(1,pk v 9-4)]else(3+pk k 5-2,0)::(BM rs vars d (at'+1)++BM rs vars d (at'+1+(BM rs vars d (at'+1)).length))):=Q9 hleaf hkv;have hp5:=fun w=>B9 k 5 w ik (by decide) (by decide);have hp9:=fun w=>B9 v 9 w iv (by decide) (by decide);have hpv:=fun w=>B9 v vars w iv (by omega) (by omega);have r5:=BJ (n:=k) (m:=5) (by decide);have r9:=BJ (n:=v) (m:=9) (by decide);have rv:=BJ (n:=v) (m:=vars) (by omega);generalize pk k 5=p5 at *;generalize pk v 9=p9 at *;generalize pk v vars=pv at *;clear hR h hP hpw hkv;have hat14:at'<14:=by omega
    have hl98:l.length<=98:=by omega
    have hdd:((d+1:Nat):Int)=(d:Int)+1:=by omega
    rw[hdd];have hd0:((d:Int)+1 == 0)=false:=by simp;omega
    have h14:decide ((14:Int)<(at':Int)+1)=false:=by simp;omega
    clear hdd;go_enter Tryz.func49,Tryz.ntmps49;go_wp2_with (first|(go_at_call 50;refine htake.mono ?_;rintro e w1 ⟨rfl,hg1,hb1⟩;obtain⟨d1,d2,dlt⟩:=hg1.facts;have hg2:=hg1.alloc (Y #[W Z k,.int Z v] 132))|(go_at_call_of 21 (Value.int aY 5);refine(hp5 _).mono ?_;rintro e w2 ⟨rfl,rfl⟩)|(go_at_call_of 21 (Value.int aY 9);refine(hp9 _).mono ?_;rintro e w2 ⟨rfl,rfl⟩)|(go_at_call 51;refine(CS G rawv (at'+1) vars props tempo _ _ l _ (by omega) hg2).mono ?_;rintro e w3 ⟨rfl,hg3,hb3⟩))
    . have hgd:GrownAt (w1.alloc (Y #[W Z k,.int Z v] 132)).drew G rawv (at'+1) vars props tempo l:=hg2
      clear hg1 hg2 htake ih;go_region_with (first|(go_at_call 21;refine(hpv _).mono ?_;rintro e w2 ⟨rfl,rfl⟩)|(go_at_call 51;refine(CS G rawv (at'+1) vars props tempo _ _ l _ (by omega) hgd).mono ?_;rintro e w3 ⟨rfl,hg3,hb3⟩))
      all_goals
        go_wp2_with fail
        go_end0
        exact⟨[(2,pv)],rfl,.var _ _ rv.1 rv.2,fun _=>rfl,hg3,(hb1.alloc (qU dlt) _).drew.trans hb3,by show _=_;rw[HF.out,aj (by omega)]⟩
    . go_end0
      exact⟨[(1,p9-4)],rfl,.num _ _ (by omega) (by omega),fun _=>rfl,hg3,(hb1.alloc (qU dlt) _).trans hb3,by show _=_;rw[HF.out,ak (by omega),aj (by omega)]⟩
    . have hb13:=(hb1.alloc (qU dlt) (Y #[W Z k,.int Z v] 132)).trans hb3
      have hn1:=ih (at'+1) _ w3 (by omega) (by omega) (by simp;omega) (HR.out.below hb13) hg3;clear hg1 hg2 htake;go_wp2_with (go_at_call 49;refine hn1.mono ?_;rintro e w4 ⟨ta,rfl,hta,_,hg4,hb4,HTa⟩)
      have hla:=HP.out ta hta;have hb14:=hb13.trans hb4;have hn2:=ih (at'+1+ta.length) _ w4 (by omega) (by omega) (by simp;omega) (HR.out.below hb14) hg4;clear hn1;go_wp2_with (go_at_call 49;refine hn2.mono ?_;rintro e w5 ⟨tb,rfl,htb,_,hg5,hb5,HTb⟩)
      go_end0
      refine⟨(3+p5-2,0)::(ta++tb),rfl,.bin _ _ _ _ (by omega) (by omega) hta htb,fun h=>by omega,?_,hb14.trans hb5,?_⟩
      . have e1:at'+((3+p5-2,(0:Int))::(ta++tb)).length=at'+1+ta.length+tb.length:=by simp;omega
        have e2:l++(3+p5-2,(0:Int))::(ta++tb)=l++[(3+p5-2,0)]++ta++tb:=by simp
        rw[e1,e2];exact hg5
      . show _=_;rw[HF.out,ak (by omega),ak (by omega),<-HTa.out,<-HTb.out]
def D6(rs:am)(vars:Int)(at':Nat):am:=BM rs vars 1 at'++BM rs vars 1 (at'+(BM rs vars 1 at').length)
def gkT(rs:am)(d at':Nat):Int:=if d=0\/10<=at' then pk (rs.getD at' (0,0)).1 3 else pk (rs.getD at' (0,0)).1 9
def A3(rs:am)(vars:Int):Nat->Nat->am
 |0,at'=>if gkT rs 0 at'=0 then [(11+pk (rs.getD at' (0,0)).2 2,0)]else(6+gkT rs 0 at' % 2,0)::D6 rs vars (at'+1)
 |d+1,at'=>if gkT rs (d+1) at'=0 then [(11+pk (rs.getD at' (0,0)).2 2,0)]else if gkT rs (d+1) at'<=4 then(6+gkT rs (d+1) at' % 2,0)::D6 rs vars (at'+1)else if gkT rs (d+1) at'=5 then(10,0)::A3 rs vars d (at'+1)else(8+gkT rs (d+1) at' % 2,0)::(A3 rs vars d (at'+1)++A3 rs vars d (at'+1+(A3 rs vars d (at'+1)).length))
theorem RD{rs:am}{vars:Int}{d at':Nat}{k v:Int}(hleaf:d=0\/10<=at')(hkv:rs.getD at' (0,0)=(k,v)):A3 rs vars d at'=if pk k 3=0 then [(11+pk v 2,0)]else(6+pk k 3 % 2,0)::D6 rs vars (at'+1):=by
 have hk:gkT rs d at'=pk k 3:=by unfold gkT;rw[aj hleaf,hkv]
 have:=BJ (n:=k) (m:=3) (by decide);cases d with
 |zero=>rw[A3,hk,hkv]
 |succ d=>rw[A3,hk,hkv,aj (show pk k 3<=4 by omega)]
theorem RE{rs:am}{vars:Int}{d at':Nat}{k v:Int}(hat:¬10<=at')(hkv:rs.getD at' (0,0)=(k,v)):A3 rs vars (d+1) at'=if pk k 9=0 then [(11+pk v 2,0)]else if pk k 9<=4 then(6+pk k 9 % 2,0)::D6 rs vars (at'+1)else if pk k 9=5 then(10,0)::A3 rs vars d (at'+1)else(8+pk k 9 % 2,0)::(A3 rs vars d (at'+1)++A3 rs vars d (at'+1+(A3 rs vars d (at'+1)).length)):=by
 have hk:gkT rs (d+1) at'=pk k 9:=by unfold gkT;rw[ak (by omega),hkv]
 rw[A3,hk,hkv]
def FY(G:Nat)(rawv:U)(rs:am)(at':Nat)(vars props tempo:Int)(l:am)(d:Nat)(w:X)(e:Ending)(w':X):Prop:=
 ∃t,e=V (.tuple #[])/\TruT vars d t/\(at'+t.length<=at'+3\/at'+t.length<=17+3*d)/\GrownAt w' G rawv (at'+t.length) vars props tempo (l++t)/\Below G w w'/\T (t=A3 rs vars d at')
theorem Fd{G:Nat}{rawv:U}{rs:am}{at':Nat}{vars props tempo K:Int}{l:am}{d:Nat}{w w5:X}{ta tb:am}(hta:NumT vars 1 ta)(htb:NumT vars 1 tb)(h6:6<=K)(h7:K<=7)
  (hn:at'+1+ta.length+tb.length<=at'+3\/at'+1+ta.length+tb.length<=17) (hb:Below G w w5) (hg:GrownAt w5 G rawv (at'+1+ta.length+tb.length) vars props tempo (l++[(K,0)]++ta++tb)) {K':Int} (HF:A3 rs vars d at'=(K',0)::D6 rs vars (at'+1)) (hK:K=K') (HTa:T (ta=BM rs vars 1 (at'+1))) (HTb:T (tb=BM rs vars 1 (at'+1+ta.length))):FY G rawv rs at' vars props tempo l d w (V (.tuple #[])) w5:=by
 have e1:at'+((K,(0:Int))::(ta++tb)).length=at'+1+ta.length+tb.length:=by simp;omega
 have e2:l++(K,(0:Int))::(ta++tb)=l++[(K,0)]++ta++tb:=by simp
 refine⟨(K,0)::(ta++tb),rfl,.cmp _ _ _ _ h6 h7 hta htb,?_,?_,hb,?_⟩
 .rw[e1];omega
 .rw[e1,e2];exact hg
 .show _=_;rw[HF,D6,<-HTa.out,<-HTb.out,hK]
theorem N1(G:Nat)(rawv:U)(rs:am)(at':Nat)(vars props tempo:Int)(l:am)(d:Nat)(w:X)(hat:at'<=60)(hl:l.length<=60)(hv1:1<=vars)(hv2:vars<=100)(hd:d<=100)(hleaf:d=0\/10<=at')
  (hR:Raws w G rawv rs) (h:GrownAt w G rawv at' vars props tempo l) :
  Calls qA 48 #[.pointer (some ⟨G,0,none⟩),.int Z d] w (FY G rawv rs at' vars props tempo l d w):=by
 obtain⟨k,v,hkv⟩:∃k v,rs.getD at' (0,0)=(k,v):=⟨_,_,rfl⟩;have htake:=Hx G rawv rs at' vars props tempo l w (by omega) hR h hkv;have hlt:G<w.heap.size:=h.facts.2.2;have HR:T (Raws w G rawv rs):=hR;obtain⟨ik,iv⟩:=hR.I64 hkv;have HF:T (A3 rs vars d at'=if pk k 3=0 then [(11+pk v 2,0)]else(6+pk k 3 % 2,0)::D6 rs vars (at'+1)):=RD hleaf hkv;have hp9:=fun w=>B9 k 9 w ik (by decide) (by decide);have hp3:=fun w=>B9 k 3 w ik (by decide) (by decide);have hp2:=fun w=>B9 v 2 w iv (by decide) (by decide);have r9:=BJ (n:=k) (m:=9) (by decide);have r3:=BJ (n:=k) (m:=3) (by decide);have r2:=BJ (n:=v) (m:=2) (by decide);generalize pk k 9=p9 at *;generalize pk k 3=p3 at *;generalize pk v 2=p2 at *;clear hR h hkv
 have htst:((d:Int) == 0)=true\/((d:Int) == 0)=false/\decide ((10:Int)<(at':Int)+1)=true:=by
  by_cases h0:d=0
  .left;simp[h0]
  .right;simp;omega
 clear hleaf;rcases htst with hd0|⟨hd0,h10⟩;all_goals
  go_enter Tryz.func48,Tryz.ntmps48;go_wp2_with (first|(go_at_call 50;refine htake.mono ?_;rintro e w1 ⟨rfl,hg1,hb1⟩;obtain⟨d1,d2,dlt⟩:=hg1.facts;have hg2:=hg1.alloc (Y #[W Z k,.int Z v] 132))|(go_at_call_of 21 (Value.int aY 9);refine(hp9 _).mono ?_;rintro e w2 ⟨rfl,rfl⟩)|(go_at_call_of 21 (Value.int aY 3);refine(hp3 _).mono ?_;rintro e w2 ⟨rfl,rfl⟩)|(go_at_call_of 21 (Value.int aY 2);refine(hp2 _).mono ?_;rintro e w2 ⟨rfl,rfl⟩)|(go_at_call 51;refine(CS G rawv (at'+1) vars props tempo _ _ l _ (by omega) hg2).mono ?_;rintro e w3 ⟨rfl,hg3,hb3⟩))
  .go_end0
   simp only[beq_iff_eq,beq_eq_false_iff_ne,ne_eq]at *;exact⟨[(11+p2,0)],rfl,.lit _ _ (by omega) (by omega),.inl (by simp),hg3,(hb1.alloc (qU dlt) _).trans hb3,by show _=_;rw[HF.out,aj (by omega)]⟩
  all_goals
   have hb13:=(hb1.alloc (qU dlt) (Y #[W Z k,.int Z v] 132)).trans hb3;have hn1:=DP G rawv rs vars props tempo hv1 hv2 1 (at'+1) _ w3 (by omega) (by omega) (by simp;omega) (HR.out.below hb13) hg3;clear hg1 hg2 htake;go_wp2_with (go_at_call 49;refine hn1.mono ?_;rintro e w4 ⟨ta,rfl,hta,ha14,hg4,hb4,HTa⟩)
   have hla:=hta.len;have hb14:=hb13.trans hb4;have hn2:=DP G rawv rs vars props tempo hv1 hv2 1 (at'+1+ta.length) _ w4 (by omega) (by omega) (by simp;omega) (HR.out.below hb14) hg4;clear hn1;go_wp2_with (go_at_call 49;refine hn2.mono ?_;rintro e w5 ⟨tb,rfl,htb,hb14',hg5,hb5,HTb⟩)
   have hlb:=htb.len;go_end0
   simp only[beq_iff_eq,beq_eq_false_iff_ne,ne_eq]at *;exact Fd hta htb (by omega) (by omega) (by omega) (hb14.trans hb5) hg5 (by show _=_;rw[HF.out,ak (by omega)]) (by omega) HTa HTb
theorem TM{G:Nat}{rawv:U}{rs:am}{at':Nat}{vars props tempo:Int}{l:am}{d:Nat}{w w5:X}{ta:am}(hta:TruT vars d ta)
  (hn:at'+1+ta.length<=17+3*(d+1)) (hb:Below G w w5) (hg:GrownAt w5 G rawv (at'+1+ta.length) vars props tempo (l++[(10,0)]++ta)) (HF:A3 rs vars (d+1) at'=(10,0)::A3 rs vars d (at'+1)) (HTa:T (ta=A3 rs vars d (at'+1))):FY G rawv rs at' vars props tempo l (d+1) w (V (.tuple #[])) w5:=by
 have e1:at'+((10,(0:Int))::ta:am).length=at'+1+ta.length:=by simp;omega
 have e2:l++(10,(0:Int))::ta=l++[(10,0)]++ta:=by simp
 refine⟨(10,0)::ta,rfl,.not _ _ hta,?_,?_,hb,?_⟩
 .rw[e1];omega
 .rw[e1,e2];exact hg
 .show _=_;rw[HF,<-HTa.out]
theorem PF{G:Nat}{rawv:U}{rs:am}{at':Nat}{vars props tempo K:Int}{l:am}{d:Nat}{w w5:X}{ta tb:am}(hta:TruT vars d ta)(htb:TruT vars d tb)(h6:8<=K)(h7:K<=9)
  (hn:at'+1+ta.length+tb.length<=17+3*(d+1)) (hb:Below G w w5) (hg:GrownAt w5 G rawv (at'+1+ta.length+tb.length) vars props tempo (l++[(K,0)]++ta++tb)) {K':Int} (HF:A3 rs vars (d+1) at'=(K',0)::(A3 rs vars d (at'+1)++A3 rs vars d (at'+1+(A3 rs vars d (at'+1)).length))) (hK:K=K') (HTa:T (ta=A3 rs vars d (at'+1))) (HTb:T (tb=A3 rs vars d (at'+1+ta.length))):FY G rawv rs at' vars props tempo l (d+1) w (V (.tuple #[])) w5:=by
 have e1:at'+((K,(0:Int))::(ta++tb)).length=at'+1+ta.length+tb.length:=by simp;omega
 have e2:l++(K,(0:Int))::(ta++tb)=l++[(K,0)]++ta++tb:=by simp
 refine⟨(K,0)::(ta++tb),rfl,.bin _ _ _ _ h6 h7 hta htb,?_,?_,hb,?_⟩
 .rw[e1];omega
 .rw[e1,e2];exact hg
 .show _=_;rw[HF,<-HTa.out,<-HTb.out,hK]
theorem WW(G:Nat)(rawv:U)(rs:am)(vars props tempo:Int)(hv1:1<=vars)(hv2:vars<=100)(d:Nat):∀(at':Nat) (l:am) (w:X),d<=5->at'<=40->l.length=at'->Raws w G rawv rs->GrownAt w G rawv at' vars props tempo l->
  Calls qA 48 #[.pointer (some ⟨G,0,none⟩),.int Z d] w (FY G rawv rs at' vars props tempo l d w):=by
 induction d with
 |zero=>intro at' l w _ ha hl hR h;exact N1 G rawv rs at' vars props tempo l 0 w (by omega) (by omega) hv1 hv2 (by omega) (.inl rfl) hR h
 |succ d ih=>
  intro at' l w hd ha hl hR h;by_cases hleaf:10<=at'
  .exact N1 G rawv rs at' vars props tempo l (d+1) w (by omega) (by omega) hv1 hv2 (by omega) (.inr hleaf) hR h
  obtain⟨k,v,hkv⟩:∃k v,rs.getD at' (0,0)=(k,v):=⟨_,_,rfl⟩;have htake:=Hx G rawv rs at' vars props tempo l w (by omega) hR h hkv;have hlt:G<w.heap.size:=h.facts.2.2;have HR:T (Raws w G rawv rs):=hR;have HL:T (l.length=at'):=hl;have hl98:l.length<=40:=by omega
  obtain⟨ik,iv⟩:=hR.I64 hkv;have HF:T (A3 rs vars (d+1) at'=if pk k 9=0 then [(11+pk v 2,0)]else if pk k 9<=4 then(6+pk k 9 % 2,0)::D6 rs vars (at'+1)else if pk k 9=5 then(10,0)::A3 rs vars d (at'+1)else(8+pk k 9 % 2,0)::(A3 rs vars d (at'+1)++A3 rs vars d (at'+1+(A3 rs vars d (at'+1)).length))):=RE hleaf hkv;have hp9:=fun w=>B9 k 9 w ik (by decide) (by decide);have hp2:=fun w=>B9 v 2 w iv (by decide) (by decide);have r9:=BJ (n:=k) (m:=9) (by decide);have r2:=BJ (n:=v) (m:=2) (by decide);generalize pk k 9=p9 at *;generalize pk v 2=p2 at *;clear hR h hl hkv;have hat10:at'<10:=by omega
  have hdd:((d+1:Nat):Int)=(d:Int)+1:=by omega
  rw[hdd];have hd0:((d:Int)+1 == 0)=false:=by simp;omega
  have h10:decide ((10:Int)<(at':Int)+1)=false:=by simp;omega
  clear hdd hleaf;go_enter Tryz.func48,Tryz.ntmps48;go_wp2_with (first|(go_at_call 50;refine htake.mono ?_;rintro e w1 ⟨rfl,hg1,hb1⟩;obtain⟨d1,d2,dlt⟩:=hg1.facts;have hg2:=hg1.alloc (Y #[W Z k,.int Z v] 132))|(go_at_call_of 21 (Value.int aY 9);refine(hp9 _).mono ?_;rintro e w2 ⟨rfl,rfl⟩)|(go_at_call_of 21 (Value.int aY 2);refine(hp2 _).mono ?_;rintro e w2 ⟨rfl,rfl⟩)|(go_at_call 51;refine(CS G rawv (at'+1) vars props tempo _ _ l _ (by omega) hg2).mono ?_;rintro e w3 ⟨rfl,hg3,hb3⟩))
  .go_end0
   simp only[beq_iff_eq,beq_eq_false_iff_ne,ne_eq]at *;exact⟨[(11+p2,0)],rfl,.lit _ _ (by omega) (by omega),.inl (by simp),hg3,(hb1.alloc (qU dlt) _).trans hb3,by show _=_;rw[HF.out,aj (by omega)]⟩
  .have hb13:=(hb1.alloc (qU dlt) (Y #[W Z k,.int Z v] 132)).trans hb3;have hn1:=DP G rawv rs vars props tempo hv1 hv2 1 (at'+1) _ w3 (by omega) (by omega) (by simp;omega) (HR.out.below hb13) hg3;clear hg1 hg2 htake ih;go_wp2_with (go_at_call 49;refine hn1.mono ?_;rintro e w4 ⟨ta,rfl,hta,ha14,hg4,hb4,HTa⟩)
   have hla:=hta.len;have hb14:=hb13.trans hb4;have hn2:=DP G rawv rs vars props tempo hv1 hv2 1 (at'+1+ta.length) _ w4 (by omega) (by omega) (by simp;omega) (HR.out.below hb14) hg4;clear hn1;go_wp2_with (go_at_call 49;refine hn2.mono ?_;rintro e w5 ⟨tb,rfl,htb,hb14',hg5,hb5,HTb⟩)
   have hlb:=htb.len;go_end0
   simp only[beq_iff_eq,beq_eq_false_iff_ne,ne_eq]at *;exact Fd hta htb (by omega) (by omega) (by omega) (hb14.trans hb5) hg5 (by show _=_;rw[HF.out,ak (by omega),aj (by omega)]) (by omega) HTa HTb
  .have hb13:=(hb1.alloc (qU dlt) (Y #[W Z k,.int Z v] 132)).trans hb3;have hn1:=DP G rawv rs vars props tempo hv1 hv2 1 (at'+1) _ w3 (by omega) (by omega) (by simp;omega) (HR.out.below hb13) hg3;clear hg1 hg2 htake ih;go_wp2_with (go_at_call 49;refine hn1.mono ?_;rintro e w4 ⟨ta,rfl,hta,ha14,hg4,hb4,HTa⟩)
   have hla:=hta.len;have hb14:=hb13.trans hb4;have hn2:=DP G rawv rs vars props tempo hv1 hv2 1 (at'+1+ta.length) _ w4 (by omega) (by omega) (by simp;omega) (HR.out.below hb14) hg4;clear hn1;go_wp2_with (go_at_call 49;refine hn2.mono ?_;rintro e w5 ⟨tb,rfl,htb,hb14',hg5,hb5,HTb⟩)
   have hlb:=htb.len;go_end0
   simp only[beq_iff_eq,beq_eq_false_iff_ne,ne_eq]at *;exact Fd hta htb (by omega) (by omega) (by omega) (hb14.trans hb5) hg5 (by show _=_;rw[HF.out,ak (by omega),aj (by omega)]) (by omega) HTa HTb
  .have hb13:=(hb1.alloc (qU dlt) (Y #[W Z k,.int Z v] 132)).trans hb3;have hn1:=DP G rawv rs vars props tempo hv1 hv2 1 (at'+1) _ w3 (by omega) (by omega) (by simp;omega) (HR.out.below hb13) hg3;clear hg1 hg2 htake ih;go_wp2_with (go_at_call 49;refine hn1.mono ?_;rintro e w4 ⟨ta,rfl,hta,ha14,hg4,hb4,HTa⟩)
   have hla:=hta.len;have hb14:=hb13.trans hb4;have hn2:=DP G rawv rs vars props tempo hv1 hv2 1 (at'+1+ta.length) _ w4 (by omega) (by omega) (by simp;omega) (HR.out.below hb14) hg4;clear hn1;go_wp2_with (go_at_call 49;refine hn2.mono ?_;rintro e w5 ⟨tb,rfl,htb,hb14',hg5,hb5,HTb⟩)
   have hlb:=htb.len;go_end0
   simp only[beq_iff_eq,beq_eq_false_iff_ne,ne_eq]at *;exact Fd hta htb (by omega) (by omega) (by omega) (hb14.trans hb5) hg5 (by show _=_;rw[HF.out,ak (by omega),aj (by omega)]) (by omega) HTa HTb
  .have hb13:=(hb1.alloc (qU dlt) (Y #[W Z k,.int Z v] 132)).trans hb3;have hn1:=DP G rawv rs vars props tempo hv1 hv2 1 (at'+1) _ w3 (by omega) (by omega) (by simp;omega) (HR.out.below hb13) hg3;clear hg1 hg2 htake ih;go_wp2_with (go_at_call 49;refine hn1.mono ?_;rintro e w4 ⟨ta,rfl,hta,ha14,hg4,hb4,HTa⟩)
   have hla:=hta.len;have hb14:=hb13.trans hb4;have hn2:=DP G rawv rs vars props tempo hv1 hv2 1 (at'+1+ta.length) _ w4 (by omega) (by omega) (by simp;omega) (HR.out.below hb14) hg4;clear hn1;go_wp2_with (go_at_call 49;refine hn2.mono ?_;rintro e w5 ⟨tb,rfl,htb,hb14',hg5,hb5,HTb⟩)
   have hlb:=htb.len;go_end0
   simp only[beq_iff_eq,beq_eq_false_iff_ne,ne_eq]at *;exact Fd hta htb (by omega) (by omega) (by omega) (hb14.trans hb5) hg5 (by show _=_;rw[HF.out,ak (by omega),aj (by omega)]) (by omega) HTa HTb
  .have hb13:=(hb1.alloc (qU dlt) (Y #[W Z k,.int Z v] 132)).trans hb3;have hn1:=ih (at'+1) _ w3 (by omega) (by omega) (by rw[qF,HL.out];rfl) (HR.out.below hb13) hg3;clear hg1 hg2 htake ih;go_wp2_with (go_at_call 48;refine hn1.mono ?_;rintro e w4 ⟨ta,rfl,hta,ha14,hg4,hb4,HTa⟩)
   go_end0
   simp only[beq_iff_eq,beq_eq_false_iff_ne,ne_eq]at *;exact TM hta (by omega) (hb13.trans hb4) hg4 (by show _=_;rw[HF.out,ak (by omega),ak (by omega),aj (by omega)]) HTa
  .have hb13:=(hb1.alloc (qU dlt) (Y #[W Z k,.int Z v] 132)).trans hb3;have hn1:=ih (at'+1) _ w3 (by omega) (by omega) (by rw[qF,HL.out];rfl) (HR.out.below hb13) hg3;clear hg1 hg2 htake;go_wp2_with (go_at_call 48;refine hn1.mono ?_;rintro e w4 ⟨ta,rfl,hta,ha14,hg4,hb4,HTa⟩)
   have hb14:=hb13.trans hb4;have hn2:=ih (at'+1+ta.length) _ w4 (by omega) (by omega) (by rw[qF,qF,HL.out];rfl) (HR.out.below hb14) hg4;clear hn1 ih;go_wp2_with (go_at_call 48;refine hn2.mono ?_;rintro e w5 ⟨tb,rfl,htb,hb14',hg5,hb5,HTb⟩)
   go_end0
   simp only[beq_eq_false_iff_ne,ne_eq]at *;exact PF hta htb (by omega) (by omega) (by omega) (hb14.trans hb5) hg5 (by show _=_;rw[HF.out,ak (by omega),ak (by omega),ak (by omega)]) (by omega) HTa HTb
theorem Lf(w:X)(rawv:U)(vars props tempo:Int) :
  GrownAt (w.alloc (Y #[rawv,.int Z 0,.int Z vars,.int Z props,.int Z tempo,.slice none 0 0] 104)) w.heap.size rawv 0 vars props tempo []:=
 ⟨_,blk_alloc_new _ _,World.ownsRow_nil _ _ _ _⟩
theorem WV(rawv:U)(rs:am)(vars:Int)(w:X)(hv1:1<=vars)(hv2:vars<=100)(hR:Raws w w.heap.size rawv rs) :
  Calls qA 24 #[rawv,.int Z vars] w fun e w'=>∃v t,e=V v/\TruT vars 3 t/\t.length<=26/\w'.ownsRow (w.heap.size+1) 100 2 v t.length (flat t)/\Below w.heap.size w w'/\T (t=A3 rs vars 3 0):=by
 have hb0:=(Below.refl w.heap.size w).alloc (Nat.le_refl _) (Y #[rawv,.int Z 0,.int Z vars,.int Z 0,.int Z 0,.slice none 0 0] 104);have htr:=WW w.heap.size rawv rs vars 0 0 hv1 hv2 3 0 [] _ (by omega) (by omega) rfl (hR.below hb0) (Lf w rawv vars 0 0);obtain⟨ra,rn,rc,hra⟩:∃a n c,rawv=.slice a n c:=by obtain⟨⟨a,c,h,_⟩,_,_⟩:=hR;exact⟨_,_,_,h⟩
 subst hra;clear hR;go_enter Tryz.func24,Tryz.ntmps24;go_wp2_with (go_at_call 48;refine htr.mono ?_;rintro e w1 ⟨t,rfl,ht,hlen,hg1,hb1,HTt⟩;obtain⟨outv,hh,ho⟩:=hg1;obtain⟨_,_,_,c5,_,hlt⟩:=D5 hh)
 go_ret;exact⟨_,t,rfl,ht,by omega,by simpa using ho,hb0.trans hb1,HTt⟩
