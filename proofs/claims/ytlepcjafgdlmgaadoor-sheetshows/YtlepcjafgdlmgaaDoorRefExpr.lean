import Derived.Test.YtlepcjafgdlmgaaDoorRefSplit
import Derived.Test.YtlepcjafgdlmgaaDoorCodes
import Derived.Deep.RegionHeld3
namespace Go.Proofs.YtlepcjafgdlmgaaDoor
open Go.ChangeShapes Go.WideShapes Go.ChangeAt Go.RowKit Go.Deep
open Terms Tm
set_option maxHeartbeats 6400000
set_option maxRecDepth 20000
theorem in_any (n low high:Int) (w:World) :
  Calls Tryd.prog 42 #[.int .i64 n,.int .i64 low,.int .i64 high] w fun e w'=>e=.returned (.bool (decide (low <= n/\n <= high)))/\w'=w:=by
 by_cases h1:low <= n
 ·by_cases h2:n <= high
  ·rw [show decide (low <= n/\n <= high)=true by simp [h1,h2]]
   go_enter Tryd.func42,Tryd.ntmps42
   go_wp2
   all_goals go_ret
   all_goals exact ⟨rfl,rfl⟩
  ·rw [show decide (low <= n/\n <= high)=false by simp [h2]]
   go_enter Tryd.func42,Tryd.ntmps42
   go_wp2
   all_goals go_ret
   all_goals exact ⟨rfl,rfl⟩
 ·rw [show decide (low <= n/\n <= high)=false by simp [h1]]
  go_enter Tryd.func42,Tryd.ntmps42
  go_wp2
  all_goals go_ret
  all_goals exact ⟨rfl,rfl⟩
theorem rmakesTruth_any (k:Int) (w:World) :
  Calls Tryd.prog 71 #[.int .i64 k] w fun e w'=>e=.returned (.bool (mkT k))/\w'=w:=by
 have hin:=fun w=>in_any k 6 12 w
 rw [show decide (6 <= k/\k <= 12)=mkT k from rfl] at hin
 generalize mkT k=bb at *
 go_enter Tryd.func71,Tryd.ntmps71
 go_wp2_with (go_at_call 42;refine (hin _).mono ?_;rintro e w1 ⟨rfl,rfl⟩)
 go_ret
 exact ⟨rfl,rfl⟩
theorem rtakesTruth_any (k:Int) (w:World) :
  Calls Tryd.prog 83 #[.int .i64 k] w fun e w'=>e=.returned (.bool (tkT k))/\w'=w:=by
 have hin:=fun w=>in_any k 8 10 w
 rw [show decide (8 <= k/\k <= 10)=tkT k from rfl] at hin
 generalize tkT k=bb at *
 go_enter Tryd.func83,Tryd.ntmps83
 go_wp2_with (go_at_call 42;refine (hin _).mono ?_;rintro e w1 ⟨rfl,rfl⟩)
 go_ret
 exact ⟨rfl,rfl⟩
theorem seg_app {α:Type} (x l r:List α):seg (x++(l++r)) x.length (x.length+l.length)=l:=by
 simp [seg]
theorem splitL_tree {t:Tm} (h:t.Wf) (h60:t.size <= 60):splitL t.ops=t.kids.map ops:=by
 unfold splitL;rw [if_pos (tree_code h h60)];have hk:(t.ops.map Prod.fst).getD 0 0=t.kind:=by cases t <;> rfl
 rw [hk,<- kids_pn h]
 cases t with
 | leaf k v=>rfl
 | un k v a=>
  obtain ⟨_,_,ha⟩:=h;have p0:pos ((un k v a).ops.map Prod.fst) 0=1:=pos_zero _
  have p1:pos ((un k v a).ops.map Prod.fst) 1=1+a.ops.length:=by
   refine pos_ok ?_
   show cnt (a.ops.map Prod.fst) 1=_
   rw [Tm.one ha,ops_length]
  show (List.range 1).map _=[a.ops]
  simp only [List.range_succ,List.range_zero,List.nil_append,List.map_cons,List.map_nil,p0,p1];rw [show (un k v a).ops=[(k,v)]++(a.ops++[]) by simp [ops]]
  rw [show seg ([(k,v)]++(a.ops++[])) 1 (1+a.ops.length)=a.ops from seg_app [(k,v)] a.ops []]
 | bi k v a b=>
  obtain ⟨_,_,ha,hb⟩:=h;have hd:((bi k v a b).ops.map Prod.fst).drop 1=a.ops.map Prod.fst++(b.ops.map Prod.fst++[]):=by simp [ops]
  have p0:pos ((bi k v a b).ops.map Prod.fst) 0=1:=pos_zero _
  have p1:pos ((bi k v a b).ops.map Prod.fst) 1=1+a.ops.length:=by
   refine pos_ok ?_
   rw [hd,count ha,cnt_zero,ops_length];simp [R.up]
  have p2:pos ((bi k v a b).ops.map Prod.fst) 2=1+a.ops.length+b.ops.length:=by
   rw [pos_ok (m:=a.size+b.size) ?_,ops_length,ops_length]
   ·omega
   rw [hd,count ha,count hb,cnt_zero];simp [R.up];omega
  show (List.range 2).map _=[a.ops,b.ops]
  simp only [List.range_succ,List.range_zero,List.nil_append,List.map_append,List.map_cons,List.map_nil,p0,p1,p2];rw [show (bi k v a b).ops=[(k,v)]++(a.ops++b.ops) by simp [ops]]
  rw [show seg ([(k,v)]++(a.ops++b.ops)) 1 (1+a.ops.length)=a.ops from seg_app [(k,v)] a.ops b.ops]
  have e:[(k,v)]++(a.ops++b.ops)=([(k,v)]++a.ops)++(b.ops++[]):=by simp
  rw [e,show seg (([(k,v)]++a.ops)++(b.ops++[])) (1+a.ops.length) (1+a.ops.length+b.ops.length)=b.ops by
   have:=seg_app ([(k,v)]++a.ops) b.ops []
   rwa [show ([(k,v)]++a.ops).length=1+a.ops.length by simp;omega] at this]
  rfl
theorem typed_any (vars:Int) (d:Nat):∀ (t:Tm) (v:Value) (w:World),t.size <= d->t.size <= 60->t.Good vars->OpsV w v t.ops->
  Calls Tryd.prog 70 #[v] w fun e w'=>e=.returned (.int .i64 (if t.typed=true then 0 else 5))/\Below w.heap.size w w':=by
 induction d with
 | zero=>intro t v w hd;have:=t.size_pos;omega
 | succ d ih=>
  intro t v w hd h60 hg hV;have hsp:=splitOf_any v t.ops w hV;rw [splitL_tree hg.wf h60,tree_code hg.wf h60] at hsp;obtain ⟨ao,cap,rfl,_,h⟩:=hV;obtain ⟨b,off,rfl,hlt,hat⟩:=h t.ops_ne;have hc:=(hat 0 (by rw [ops_length];exact t.size_pos)).1
  rw [t.ops_head,Nat.zero_mul,Nat.add_zero] at hc;simp only at hc
  have hlen:0 < t.ops.length:=by rw [ops_length];exact t.size_pos
  have HTK:=(show Hid _ from t.typed_kids)
  have HG:Hid (t.Good vars):=hg;have hk2:=t.kids_le
  have HS:Hid (∀ i,i < t.kids.length->(t.kids.getD i t).size <= d/\(t.kids.getD i t).size <= 60):=fun i hi=>by
   have:=t.kid_at hi;omega
  obtain ⟨np,hnp⟩:∃ np,np=t.kids.length:=⟨_,rfl⟩
  have HNP:Hid (np=t.kids.length):=hnp;rw [<- hnp] at hk2;obtain ⟨n,hn⟩:∃ n,n=t.ops.length:=⟨_,rfl⟩
  rw [<- hn] at hsp hlen ⊢;have htk:=fun w=>rtakesTruth_any t.kind w
  have HK0:Hid (∃ k,k=t.kind):=⟨_,rfl⟩
  obtain ⟨k0,hk0⟩:∃ k0,k0=t.kind:=⟨_,rfl⟩
  rw [<- hk0] at hc htk;have HK:Hid (k0=t.kind):=hk0;clear h hat hnp hn hk0 HK0 hg
  go_enter Tryd.func70,Tryd.ntmps70
  go_wp2_with (go_at_call 82;refine hsp.mono ?_;rintro e w1 ⟨tv,rfl,hb1,ht⟩;obtain ⟨tao,tcap,htv,htat⟩:=ht;rw [List.length_map,<- HNP.out] at htv;subst htv)
  have HT:=(show Hid _ from htat)
  clear htat hsp
  go_loopw [5] (fun c wr=>∃ i:Nat,i <= np/\c=.int .i64 i/\Below w1.heap.size w1 wr/\Hid (∀ j,j < i->mkT (t.kids.getD j t).kind=tkT t.kind/\(t.kids.getD j t).typed=true)) (fun c _=>np - (intOf c).toNat)
  case atStart=>exact ⟨0,Nat.zero_le _,rfl,Below.refl _ _,fun j hj=>by omega⟩
  case round=>
   obtain ⟨i,hi,rfl,hbel,HJ⟩:=hrel;have hbw:=hb1.trans (hbel.mono hb1.size);have hsz:=hbel.size;have hsz1:=hb1.size
   by_cases hlti:i < np
   ·have hltk:i < t.kids.length:=by rw [<- HNP.out];exact hlti
    obtain ⟨tb,toff,rfl,hbl,hcs⟩:=HT.out (by intro h;have:=congrArg List.length h;rw [List.length_map] at this;simp at this;rw [this] at hltk;simp at hltk)
    obtain ⟨u,hu,hou⟩:=hcs i (by rw [List.length_map];exact hltk)
    have hgd:(t.kids.map ops).getD i []=(t.kids.getD i t).ops:=by
     rw [List.getD_eq_getElem?_getD,List.getElem?_map,List.getD_eq_getElem?_getD,List.getElem?_eq_getElem hltk]
     rfl
    rw [hgd] at hou;obtain ⟨hs1,hs2⟩:=HS.out i hltk;have hgk:=HG.out.kid hltk;have HTi:=(show Hid _ from fun h=>HTK.out.1 h i hltk)
    have HJ2:Hid (mkT (t.kids.getD i t).kind=tkT t.kind->(t.kids.getD i t).typed=true->∀ j,j < i+1->mkT (t.kids.getD j t).kind=tkT t.kind/\(t.kids.getD j t).typed=true):=fun h1 h2 j hj=>by
     by_cases hji:j < i
     ·exact HJ.out j hji
     ·obtain rfl:j=i:=by omega
      exact ⟨h1,h2⟩
    generalize t.kids.getD i t=s at *;have hrec:=fun w' (hw':Below wr.heap.size wr w')=>ih s u w' hs1 hs2 hgk ((hou.below hbel).below hw')
    have hou':=hou.below hbel;obtain ⟨uao,ucap,rfl,_,hh⟩:=hou';obtain ⟨ub,uoff,rfl,hubl,huat⟩:=hh s.ops_ne;have huc:=(huat 0 (by rw [ops_length];exact s.size_pos)).1
    rw [s.ops_head,Nat.zero_mul,Nat.add_zero] at huc;simp only at huc
    have hulen:0 < s.ops.length:=by rw [ops_length];exact s.size_pos
    have hcu:=(hbel.cell (p:=⟨tb,toff+i,none⟩) hbl).trans hu;have hcw:=(hbw.cell (p:=⟨b,off,none⟩) hlt).trans hc;have hmk:=fun w=>rmakesTruth_any s.kind w
    have HKS:Hid (∃ k,k=s.kind):=⟨_,rfl⟩
    obtain ⟨k1,hk1⟩:∃ k1,k1=s.kind:=⟨_,rfl⟩
    have HK1:Hid (k1=s.kind):=hk1;rw [<- hk1] at huc hmk;obtain ⟨un,hun⟩:∃ un,un=s.ops.length:=⟨_,rfl⟩
    rw [<- hun] at hcu hulen hrec;clear hgd hou hu hcs hh huat hk1 HKS hun hgk hs1 hs2
    by_cases hfit:mkT k1=tkT k0
    ·rw [hfit] at hmk
     have HFIT:Hid (mkT s.kind=tkT t.kind):=by rw [<- HK1.out,<- HK.out];exact hfit
     clear hfit;generalize tkT k0=bb at hmk htk
     have hS:∀ w',Below wr.heap.size wr w'->w'.cell? ⟨tb,toff+i,none⟩=some (.slice (some ⟨ub,uoff,none⟩) un ucap)/\w'.cell? ⟨ub,uoff,none⟩=some (.int .i64 k1)/\w'.cell? ⟨b,off,none⟩=some (.int .i64 k0)/\Below wr.heap.size wr w':=fun w' hw'=>
      ⟨(hw'.cell (p:=⟨tb,toff+i,none⟩) (by simp only;omega)).trans hcu,(hw'.cell (p:=⟨ub,uoff,none⟩) hubl).trans huc,(hw'.cell (p:=⟨b,off,none⟩) (by simp only;omega)).trans hcw,hw'⟩
     have hi0:(0:Int) <= (i:Int):=Int.natCast_nonneg _;have hi1:(i:Int) < (np:Int):=by omega
     have HBE:Hid (Below w1.heap.size w1 wr):=hbel;have hB0:Below wr.heap.size wr wr:=Below.refl _ _
     by_cases hts:s.typed=true
     ·rw [if_pos hts] at hrec
      have HJ3:=(show Hid _ from HJ2.out HFIT.out hts)
      clear hts HJ2 HTi hbel hbw
      go_wp2_with fail
      go_region_held3 (fun w'=>w'.cell? ⟨tb,toff+i,none⟩=some (.slice (some ⟨ub,uoff,none⟩) un ucap)/\w'.cell? ⟨ub,uoff,none⟩=some (.int .i64 k1)/\w'.cell? ⟨b,off,none⟩=some (.int .i64 k0)/\Below wr.heap.size wr w')
       (exact hS _ (by first | exact hB0 | exact hB0.drew | exact hB0.drew.trans hb2))
       (first | (go_at_call 71;refine (hmk _).mono ?_;rintro e w2 ⟨rfl,rfl⟩) | (go_at_call 83;refine (htk _).mono ?_;rintro e w2 ⟨rfl,rfl⟩) | (go_at_call 70;refine (hrec _ hB0.drew).mono ?_;rintro e w2 ⟨rfl,hb2⟩))
      go_wp2_with fail
      go_roundw
      case rel=>exact ⟨i+1,by omega,by go_num,HBE.out.trans ((hB0.drew.trans hb2).mono HBE.out.size),HJ3⟩
      case measure=>simp [intOf];omega
     ·rw [if_neg hts] at hrec
      have HX:Hid (¬ t.typed=true):=fun h=>hts (HTi.out h).2
      clear hts HJ2 HTi hbel hbw
      go_wp2_with fail
      go_region_held3 (fun w'=>w'.cell? ⟨tb,toff+i,none⟩=some (.slice (some ⟨ub,uoff,none⟩) un ucap)/\w'.cell? ⟨ub,uoff,none⟩=some (.int .i64 k1)/\w'.cell? ⟨b,off,none⟩=some (.int .i64 k0)/\Below wr.heap.size wr w')
       (exact hS _ (by first | exact hB0 | exact hB0.drew | exact hB0.drew.trans hb2))
       (first | (go_at_call 71;refine (hmk _).mono ?_;rintro e w2 ⟨rfl,rfl⟩) | (go_at_call 83;refine (htk _).mono ?_;rintro e w2 ⟨rfl,rfl⟩) | (go_at_call 70;refine (hrec _ hB0.drew).mono ?_;rintro e w2 ⟨rfl,hb2⟩))
      go_wp2_with fail
      go_ret
      exact ⟨by first | rfl | (rw [if_neg HX.out];rfl),hb1.trans ((HBE.out.trans ((hB0.drew.trans hb2).mono HBE.out.size)).mono hb1.size)⟩
    ·have HX:Hid (¬ t.typed=true):=fun h=>hfit (by rw [HK1.out,HK.out];exact (HTi.out h).1)
     have HBE:Hid (Below w1.heap.size w1 wr):=hbel;have hne:(mkT k1 == tkT k0)=false:=by simpa using hfit
     have hi0:(0:Int) <= (i:Int):=Int.natCast_nonneg _;have hi1:(i:Int) < (np:Int):=by omega
     clear HTi HJ2 hbel hbw hrec;generalize tkT k0=bb at *;generalize mkT k1=ba at *
     go_wp2_with fail
     go_quiet ((first | (go_at_call 71;exact Calls.quiet_of_same (hmk _)) | (go_at_call 83;exact Calls.quiet_of_same (htk _))))
     go_wp2_with fail
     go_ret
     exact ⟨by first | rfl | (rw [if_neg HX.out];rfl),hb1.trans ((below_drewN HBE.out _).mono hb1.size)⟩
   ·have hin:i=np:=by omega
    have HX:Hid (t.typed=true):=HTK.out.2 (fun j hj=>HJ.out j (by rw [hin,HNP.out];exact hj))
    clear hlti hi;subst hin
    go_wp2_with fail
    go_ret
    exact ⟨by first | rfl | (rw [if_pos HX.out];rfl),hbw⟩
