import Derived.Test.YtlepcjafgdlmgaaDoorLogicOp
import Derived.Test.YtlepcjafgdlmgaaDoorCodes
import Derived.Deep.AppendLies
namespace Go.Proofs.YtlepcjafgdlmgaaDoor
open Go.ChangeShapes Go.WideShapes Go.ChangeAt Go.RowKit Go.Deep
open Terms
set_option maxHeartbeats 6400000
set_option maxRecDepth 20000
def LReadPost (props:Int) (v:Value) (l:List (Int × Int)) (w:World) (e:Ending) (w':World):Prop:=
 Below w.heap.size w w'/\(lcode props l≠0->e=.returned (.tuple #[.agg #[.slice none 0 0,.slice none 0 0,.slice none 0 0],.int .i64 (lcode props l)]))/\
 (lcode props l=0->∃ B av,w.heap.size <= B/\e=.returned (.tuple #[.agg #[v,.slice (some ⟨B,0,none⟩) l.length l.length,av],.int .i64 0])/\w'.rowIs B 3 l.length (fun q=>.int .i64 (endAt (l.map Prod.fst) q))/\w'.ownsRow w.heap.size 3 1 av (aheadL l).length (ivals (aheadL l)))
def Three (w:World) (b:Nat) (x y z:Value):Prop:=w.cell? ⟨b,0,none⟩=some x/\w.cell? ⟨b,1,none⟩=some y/\w.cell? ⟨b,2,none⟩=some z/\w.frozen? ⟨b,0,none⟩=false/\w.frozen? ⟨b,1,none⟩=false/\w.frozen? ⟨b,2,none⟩=false/\b < w.heap.size
theorem Three.below {w w':World} {B b:Nat} {x y z:Value} (h:Three w b x y z) (hb:Below B w w') (hB:b < B):Three w' b x y z:=
 ⟨(hb.cell (p:=⟨b,0,none⟩) hB).trans h.1,(hb.cell (p:=⟨b,1,none⟩) hB).trans h.2.1,(hb.cell (p:=⟨b,2,none⟩) hB).trans h.2.2.1,(hb.frozen (p:=⟨b,0,none⟩) hB).trans h.2.2.2.1,(hb.frozen (p:=⟨b,1,none⟩) hB).trans h.2.2.2.2.1,(hb.frozen (p:=⟨b,2,none⟩) hB).trans h.2.2.2.2.2.1,Nat.lt_of_lt_of_le h.2.2.2.2.2.2 hb.size⟩
theorem Three.new (w:World) (x y z:Value) (t:TypeId):Three (w.alloc (.cells #[x,y,z] t)) w.heap.size x y z:=by
 refine ⟨?_,?_,?_,?_,?_,?_,?_⟩ <;> simp [go_sem]
theorem Three.read {w:World} {b:Nat} {x y z:Value} (h:Three w b x y z) (u0 u1 u2:Value):(w.setCell ⟨b,0,none⟩ u0).cell? ⟨b,0,none⟩=some u0/\((w.setCell ⟨b,0,none⟩ u0).setCell ⟨b,1,none⟩ u1).cell? ⟨b,1,none⟩=some u1/\(((w.setCell ⟨b,0,none⟩ u0).setCell ⟨b,1,none⟩ u1).setCell ⟨b,2,none⟩ u2).cell? ⟨b,2,none⟩=some u2:=by
 obtain ⟨k0,k1,k2,_⟩:=h;refine ⟨World.cell?_setCell_same' _ _ _ (by rw [k0];rfl),World.cell?_setCell_same' _ _ _ ?_,World.cell?_setCell_same' _ _ _ ?_⟩
 ·simp [go_sem,k1]
 ·simp [go_sem,k2]
theorem read_range (ao:Option Addr) (n cap:Nat) (props:Int) (w:World) (h:props < 0\/6 < props) :
  Calls Tryd.prog 34 #[.slice ao n cap,.int .i64 props] w fun e w'=>e=.returned (.tuple #[.agg #[.slice none 0 0,.slice none 0 0,.slice none 0 0],.int .i64 2])/\Below w.heap.size w w':=by
 rcases h with h | h
 all_goals
  go_enter Tryd.func34,Tryd.ntmps34
  go_wp2_with fail
  exact bodyPost_ret (v:=.tuple #[.agg #[.slice none 0 0,.slice none 0 0,.slice none 0 0],.int .i64 2]) (by simp [results,Tryd.results34,go_sem]) rfl ⟨rfl,by exact (Below.refl _ _).alloc (Nat.le_refl _) _⟩
theorem read_ends (v:Value) (ks:List Int) (props:Int) (w:World) (h0:0 <= props) (h6:props <= 6) (hB:0 < w.heap.size) (hT:TabAt w) (hK:Kinds w v ks) (hz:endsCode ks≠0) :
  Calls Tryd.prog 34 #[v,.int .i64 props] w fun e w'=>e=.returned (.tuple #[.agg #[.slice none 0 0,.slice none 0 0,.slice none 0 0],.int .i64 (endsCode ks)])/\Below w.heap.size w w':=by
 have hA:∀ o,Below w.heap.size w (w.alloc o):=fun o=>(Below.refl _ _).alloc (Nat.le_refl _) o
 have hKA:∀ o,Kinds (w.alloc o) v ks:=fun o=>hK.below (hA o)
 have hends:∀ o,Calls Tryd.prog 49 #[v] (w.alloc o) fun e w'=>e=.returned (.tuple #[.slice none 0 0,.int .i64 (endsCode ks)])/\Below (w.alloc o).heap.size (w.alloc o) w':=fun o=>(ends_any v ks (w.alloc o) (by simp) (hT.below (hA o) hB) (hKA o)).mono fun e w' ⟨h1,h2,_⟩=>⟨h2 hz,h1⟩
 generalize endsCode ks=x at *;obtain ⟨ao,cap,rfl,_⟩:=hK;clear hT hKA
 go_enter Tryd.func34,Tryd.ntmps34
 go_wp2_with (go_at_call 49;refine (hends _).mono ?_;rintro e w1 ⟨rfl,hb1⟩;have h3:=(Three.new w (.slice none 0 0) (.slice none 0 0) (.slice none 0 0) 82).below hb1 (by simp);obtain ⟨k0,k1,k2,f0,f1,f2,_⟩:=id h3)
 refine bodyPost_ret (v:=.tuple #[.agg #[.slice none 0 0,.slice none 0 0,.slice none 0 0],.int .i64 x]) ?_ rfl ⟨rfl,?_⟩
 ·obtain ⟨q0,q1,q2⟩:=h3.read (.slice none 0 0) (.slice none 0 0) (.slice none 0 0)
  simp [results,Tryd.results34,go_sem,q0,q1,q2]
 ·have hbw:=(hA _).trans (hb1.mono (hA _).size)
  exact ((hbw.setCell (Nat.le_refl _) _).setCell (Nat.le_refl _) _).setCell (Nat.le_refl _) _
theorem Three.set2 {w:World} {b:Nat} {x y z:Value} (h:Three w b x y z) (u:Value):Three (w.setCell ⟨b,2,none⟩ u) b x y u:=by
 obtain ⟨k0,k1,k2,f0,f1,f2,hl⟩:=h;refine ⟨?_,?_,World.cell?_setCell_same' _ _ _ (by rw [k2];rfl),?_,?_,?_,by simpa using hl⟩
 ·simp [go_sem,k0]
 ·simp [go_sem,k1]
 ·rw [World.frozen?_setCell];exact f0
 ·rw [World.frozen?_setCell];exact f1
 ·rw [World.frozen?_setCell];exact f2
theorem owns_set {w:World} {base:Nat} {e:TypeId} {s n:Nat} {v:Value} {xs:List Value} (h:w.ownsRow base e s v n xs) {p:Addr} (hp:p.block < base) (u:Value):(w.setCell p u).ownsRow base e s v n xs:=by
 obtain ⟨h1,h2⟩:=h;refine ⟨h1,?_⟩
 rcases h2 with h2 | ⟨g,cap,cur,hv,hg,hh,r⟩
 ·exact .inl h2
 ·exact .inr ⟨g,cap,cur,hv,hg,(Below.heap_setCell w p u g (by omega)).trans hh,r⟩
theorem owns_block {w:World} {base:Nat} {e:TypeId} {s n:Nat} {v:Value} {xs:List Value} (h:w.ownsRow base e s v n xs):∀ z,v.ownBlock=some z->base <= z:=by
 intro z hz
 rcases h.2 with ⟨rfl,_⟩ | ⟨g,cap,cur,rfl,hb,_⟩
 ·simp [Value.ownBlock] at hz
 ·simp [Value.ownBlock] at hz;omega
theorem owns_more {w:World} {base:Nat} {e:TypeId} {s k:Nat} {v:Value} {xs:List Value} (h:w.ownsRow base e s v (k+1) xs):∃ g cap,v=.slice (some ⟨g,0,none⟩) (k+1) cap:=by
 rcases h.2 with ⟨_,h0⟩ | ⟨g,cap,_,rfl,_⟩
 ·omega
 ·exact ⟨g,cap,rfl⟩
def AhSt (l:List (Int × Int)) (w1:World) (v ev:Value) (k:Nat) (wr:World):Prop:=Below w1.heap.size w1 wr/\∃ av,Three wr w1.heap.size v ev av/\wr.ownsRow (w1.heap.size+1) 3 1 av (aheadTo l k).length (ivals (aheadTo l k))
theorem AhSt.later {l:List (Int × Int)} {w1:World} {v ev:Value} {k:Nat} {wr w':World} (h:AhSt l w1 v ev k wr) (hb:Below wr.heap.size wr w'):AhSt l w1 v ev k w':=by
 obtain ⟨h1,av,h3,ho⟩:=h;exact ⟨h1.trans (hb.mono h1.size),av,h3.below hb h3.2.2.2.2.2.2,owns_later ho hb (Nat.le_refl _)⟩
theorem read_main (b off cap:Nat) (l:List (Int × Int)) (props:Int) (w:World) (h0:0 <= props) (h6:props <= 6) (hB:0 < w.heap.size) (hT:TabAt w) (hbl:b < w.heap.size) (hat:OpsAt w b off l) (hcap:l.length <= cap) (hz:endsCode (l.map Prod.fst)=0) :
  Calls Tryd.prog 34 #[.slice (some ⟨b,off,none⟩) l.length cap,.int .i64 props] w (LReadPost props (.slice (some ⟨b,off,none⟩) l.length cap) l w):=by
 obtain ⟨hne,h60⟩:=ends_ne hz;rw [List.length_map] at h60;have hr:¬ (props < 0\/6 < props):=by omega
 have hA:∀ o,Below w.heap.size w (w.alloc o):=fun o=>(Below.refl _ _).alloc (Nat.le_refl _) o
 have hK:Kinds w (.slice (some ⟨b,off,none⟩) l.length cap) (l.map Prod.fst):=(show OpsV w _ l from ⟨_,cap,rfl,⟨hcap,fun h=>by simp at h⟩,fun _=>⟨b,off,rfl,hbl,hat⟩⟩).kinds
 have hends:∀ o,Calls Tryd.prog 49 #[.slice (some ⟨b,off,none⟩) l.length cap] (w.alloc o) fun e w'=>Below (w.alloc o).heap.size (w.alloc o) w'/\∃ B,(w.alloc o).heap.size <= B/\e=.returned (.tuple #[.slice (some ⟨B,0,none⟩) l.length l.length,.int .i64 0])/\w'.rowIs B 3 l.length (fun q=>.int .i64 (endAt (l.map Prod.fst) q)):=fun o=>
  (ends_any _ _ (w.alloc o) (by simp) (hT.below (hA o) hB) (hK.below (hA o))).mono fun e w' ⟨h1,_,h3⟩=>⟨h1,by have:=h3 hz;rwa [List.length_map] at this⟩
 have HO:Hid (∀ i,i < l.length->(∀ j,j < i->lopErr props (l.getD j (0,0))=0)->lopErr props (l.getD i (0,0))≠0->lcode props l=lopErr props (l.getD i (0,0))):=fun i hi hj hne=>by
  have hx:=lfirst_at hi hj hne;rw [lcode_op hr hz (by rw [hx];exact hne),hx]
 have HE:Hid ((∀ j,j < l.length->lopErr props (l.getD j (0,0))=0)->lcode props l=if 6 < (aheadTo l l.length).length then 1 else 0):=fun hj=>lcode_many hr hz (lfirst_none hj)
 have HA:Hid (OpsAt w b off l):=hat;have HLd:Hid (aheadL l=aheadTo l l.length):=rfl;unfold LReadPost;obtain ⟨n,hn⟩:∃ n,n=l.length:=⟨_,rfl⟩
 have HN:Hid (n=l.length):=hn;rw [<- hn] at h60 HO HE hends HLd hcap ⊢;obtain ⟨i0,hi,hz0,hz1,hz2⟩:=info_parts infoInt;clear hat hne hz hr hn hK hT
 go_enter Tryd.func34,Tryd.ntmps34
 go_wp2_with (go_at_call 49;refine (hends _).mono ?_;rintro e w1 ⟨hb1,B,hBl,rfl,hrow⟩;have h3:=(Three.new w (.slice none 0 0) (.slice none 0 0) (.slice none 0 0) 82).below hb1 (by simp))
 have hbw1:=(hA _).trans (hb1.mono (hA _).size);have hs1:w.heap.size < w1.heap.size:=h3.2.2.2.2.2.2
 have HS0:Hid (AhSt l w1 (.slice (some ⟨b,off,none⟩) n cap) (.slice (some ⟨B,0,none⟩) n n) 0 (w1.alloc (.cells #[.slice (some ⟨b,off,none⟩) n cap,.slice (some ⟨B,0,none⟩) n n,.slice none 0 0] 82))):=⟨(Below.refl _ _).alloc (Nat.le_refl _) _,_,Three.new _ _ _ _ _,World.ownsRow_nil _ _ _ _⟩;have HRow:Hid (w1.rowIs B 3 n (fun q=>.int .i64 (endAt (l.map Prod.fst) q))):=hrow
 have HT3:Hid (Three w1 w.heap.size (.slice none 0 0) (.slice none 0 0) (.slice none 0 0)):=h3;have hBw:w.heap.size < B:=by have:=hBl;simp at this;omega
 clear hends hb1 hrow h3 hBl
 go_loopw [33] (fun i wr=>∃ k:Nat,k <= n/\i=.int .i64 k/\Hid (AhSt l w1 (.slice (some ⟨b,off,none⟩) n cap) (.slice (some ⟨B,0,none⟩) n n) k wr)/\Hid (∀ j,j < k->lopErr props (l.getD j (0,0))=0)) (fun i _=>n - (intOf i).toNat)
 case atStart=>exact ⟨0,Nat.zero_le _,rfl,HS0.out,fun j hj=>by omega⟩
 case round=>
  obtain ⟨k,hk,rfl,HSt,HJ⟩:=hrel;obtain ⟨hbel,av,h3r,hown⟩:=HSt.out;have hbw:=hbw1.trans (hbel.mono hbw1.size);have hlen:=aheadTo_length l k;have hsr:=hbel.size;obtain ⟨aao,aac,rfl⟩:=owns_slice hown
  by_cases hlt:k < n
  ·obtain ⟨c0,c1⟩:=(HA.out.below hbw hbl) k (by rw [<- HN.out];exact hlt)
   have HOi:=(show Hid _ from HO.out k hlt HJ.out)
   have HJ2:Hid (lopErr props (l.getD k (0,0))=0->∀ j,j < k+1->lopErr props (l.getD j (0,0))=0):=fun h j hj=>by
    by_cases hji:j < k
    ·exact HJ.out j hji
    ·obtain rfl:j=k:=by omega
     exact h
   have HY:Hid (lookB (l.getD k (0,0)).1=true->aheadTo l (k+1)=aheadTo l k++[(k:Int)]):=aheadTo_yes;have HNo:Hid (lookB (l.getD k (0,0)).1=false->aheadTo l (k+1)=aheadTo l k):=aheadTo_no;generalize l.getD k (0,0)=xy at c0 c1 HOi HJ2 HY HNo;obtain ⟨x,y⟩:=xy;simp only at c0 c1 HY HNo
   have hco:=fun w=>lcheckOp_any x y props w h0 h6
   have hlk:=fun w=>look_any x w
   have hAr:∀ o,Below wr.heap.size wr (wr.alloc o):=fun o=>(Below.refl _ _).alloc (Nat.le_refl _) o
   have HW2:Hid (∀ w2,Below (wr.alloc (.cells #[.int .i64 x,.int .i64 y] 77)).heap.size (wr.alloc (.cells #[.int .i64 x,.int .i64 y] 77)) w2->w2.cell? ⟨wr.heap.size,0,none⟩=some (.int .i64 x)/\AhSt l w1 (.slice (some ⟨b,off,none⟩) n cap) (.slice (some ⟨B,0,none⟩) n n) k w2/\Three w2 w.heap.size (.slice none 0 0) (.slice none 0 0) (.slice none 0 0)/\Three w2 w1.heap.size (.slice (some ⟨b,off,none⟩) n cap) (.slice (some ⟨B,0,none⟩) n n) (.slice aao (aheadTo l k).length aac)/\w2.ownsRow (w1.heap.size+1) 3 1 (.slice aao (aheadTo l k).length aac) (aheadTo l k).length (ivals (aheadTo l k))):=fun w2 hb2=>by
    have hb12:Below wr.heap.size wr w2:=(hAr _).trans (hb2.mono (hAr _).size);refine ⟨(hb2.cell (p:=⟨wr.heap.size,0,none⟩) (by simp)).trans (by simp [go_sem]),HSt.out.later hb12,(HT3.out.below hbel hs1).below hb12 (by omega),h3r.below hb12 h3r.2.2.2.2.2.2,owns_later hown hb12 (Nat.le_refl _)⟩
   obtain ⟨L,hL⟩:∃ L,L=(aheadTo l k).length:=⟨_,rfl⟩
   have HL:Hid (L=(aheadTo l k).length):=hL;rw [<- hL] at hlen HW2;clear hL HO HE HA hown h3r HSt HS0 HRow
   by_cases hze:lopErr props (x,y)=0
   ·have HJ3:=(show Hid _ from HJ2.out hze)
    rw [hze] at hco;clear hze HOi HJ2 HJ
    cases hb:lookB x with
    | true=>
     have HAh:=(show Hid _ from HY.out hb)
     rw [hb] at hlk;have h63:L+1 <= maxLen:=by unfold maxLen;omega
     have hkb:(L+1)*8 <= 140737488355328:=by omega
     clear HY HNo hb
     go_wp2_with (first | (go_at_call 50;refine (hco _).mono ?_;rintro e w2 ⟨rfl,hb2⟩;obtain ⟨c2,hst2,h3z,h3w,ho2⟩:=HW2.out w2 hb2;obtain ⟨k0,k1,k2,f0,f1,f2,hl2⟩:=id h3w;have hown2:=fun o=>ho2.alloc o;have hbase:∀ o,w1.heap.size+1 <= (w2.alloc o).heap.size:=(fun o=>by simp;omega);have kA2:∀ o,(w2.alloc o).cell? ⟨w1.heap.size,2,none⟩=some (.slice aao L aac):=(fun o=>(((Below.refl _ _).alloc (Nat.le_refl _) o).cell (p:=⟨w1.heap.size,2,none⟩) hl2).trans k2)) | (go_at_call 51;refine (hlk _).mono ?_;rintro e w3 ⟨rfl,rfl⟩) | (at_builtin;refine wpList_append_own _ rfl (.tmp 49) (.tmp 51) 80 rfl (w1.heap.size+1) 3 i0 (.int .i64 0) 1 8 Tryd.underlying80 hi hz0 hz1 hz2 rfl (by decide) _ _ _ rfl (hown2 _) ⟨_,0,none⟩ 1 1 _ rfl rfl (cell_one_new _ _ _) (by intro u hu;simp at hu;subst hu;rfl) h63 hkb (hbase _) ?_;intro v5 w5 hown5 hgrow5 _;obtain ⟨g5,cp5,rfl⟩:=owns_more hown5;have hb25:Below (w1.heap.size+1) _ w5:=((Below.refl _ _).alloc (by omega) _).grown hgrow5 (hbase _) (owns_block ho2);have h35:=h3w.below hb25 (Nat.lt_succ_self _);obtain ⟨k50,k51,k52,f50,f51,f52,hl5⟩:=id h35))
     have hb15:Below w1.heap.size w1 w5:=hst2.1.trans (hb25.mono (Nat.le_succ _));refine ⟨⟨k+1,hlt,by first | rfl | simp,⟨hb15.setCell (Nat.le_refl _) _,_,h35.set2 _,?_⟩,HJ3.out⟩,by simp [intOf];omega⟩
     rw [HAh.out,List.length_append,<- HL.out];rw [show ivals (aheadTo l k++[(k:Int)])=ivals (aheadTo l k)++[.int .i64 (k:Int)] by simp [ivals]]
     exact owns_set hown5 (Nat.lt_succ_self _) _
    | false=>
     have HAh:=(show Hid _ from HNo.out hb)
     rw [hb] at hlk;clear HY HNo hb
     go_wp2_with (first | (go_at_call 50;refine (hco _).mono ?_;rintro e w2 ⟨rfl,hb2⟩;obtain ⟨c2,hst2,h3z,h3w,ho2⟩:=HW2.out w2 hb2) | (go_at_call 51;refine (hlk _).mono ?_;rintro e w3 ⟨rfl,rfl⟩))
     obtain ⟨q1,av',q2,q3⟩:=hst2;exact ⟨⟨k+1,hlt,by first | rfl | simp,⟨q1,av',q2,by rw [HAh.out];exact q3⟩,HJ3.out⟩,by simp [intOf];omega⟩
   ·have HX:Hid (lcode props l=lopErr props (x,y)):=HOi.out hze
    generalize lopErr props (x,y)=err at hco hze HX;clear HOi HJ2 HY HNo hlk
    go_wp2_with (go_at_call 50;refine (hco _).mono ?_;rintro e w2 ⟨rfl,hb2⟩;obtain ⟨c2,hst2,h3z,h3w,ho2⟩:=HW2.out w2 hb2;obtain ⟨k0,k1,k2,f0,f1,f2,hl2⟩:=id h3z)
    refine bodyPost_ret (v:=.tuple #[.agg #[.slice none 0 0,.slice none 0 0,.slice none 0 0],.int .i64 err]) ?_ rfl ⟨?_,fun _=>by rw [HX.out],fun h=>absurd h (by rw [HX.out];exact hze)⟩
    ·obtain ⟨q0,q1,q2⟩:=h3z.read (.slice none 0 0) (.slice none 0 0) (.slice none 0 0)
     simp [results,Tryd.results34,go_sem,q0,q1,q2]
    ·have hbw2:=hbw1.trans (hst2.1.mono hbw1.size)
     exact ((hbw2.setCell (Nat.le_refl _) _).setCell (Nat.le_refl _) _).setCell (Nat.le_refl _) _
  ·have hkn:k=n:=by omega
   subst hkn;have HX:=(show Hid _ from HE.out HJ.out)
   have h3z:=HT3.out.below hbel hs1;have HRo:Hid (wr.rowIs B 3 k (fun q=>.int .i64 (endAt (l.map Prod.fst) q))):=row_later HRow.out hbel
   have HOw:Hid (wr.ownsRow (w1.heap.size+1) 3 1 (.slice aao (aheadTo l k).length aac) (aheadTo l k).length (ivals (aheadTo l k))):=hown;obtain ⟨L,hL⟩:∃ L,L=(aheadTo l k).length:=⟨_,rfl⟩
   have HL:Hid (L=(aheadTo l k).length):=hL;rw [<- hL] at hlen HX HOw h3r;obtain ⟨k0,k1,k2,f0,f1,f2,hl2⟩:=id h3r;obtain ⟨z0,z1,z2,y0,y1,y2,zl2⟩:=id h3z;clear hL HO HE HA hown HSt HS0 HRow HJ
   by_cases h6L:6 < L
   ·have HX2:Hid (lcode props l=1):=by show _=_;rw [HX.out,if_pos h6L]
    go_wp2_with fail
    refine bodyPost_ret (v:=.tuple #[.agg #[.slice none 0 0,.slice none 0 0,.slice none 0 0],.int .i64 1]) ?_ rfl ⟨?_,fun _=>by rw [HX2.out],fun h=>absurd h (by rw [HX2.out];decide)⟩
    ·obtain ⟨q0,q1,q2⟩:=h3z.read (.slice none 0 0) (.slice none 0 0) (.slice none 0 0)
     simp [results,Tryd.results34,go_sem,q0,q1,q2]
    ·exact ((hbw.setCell (Nat.le_refl _) _).setCell (Nat.le_refl _) _).setCell (Nat.le_refl _) _
   ·have HX2:Hid (lcode props l=0):=by show _=_;rw [HX.out,if_neg h6L]
    go_wp2_with fail
    refine bodyPost_ret (v:=.tuple #[.agg #[.slice (some ⟨b,off,none⟩) k cap,.slice (some ⟨B,0,none⟩) k k,.slice aao L aac],.int .i64 0]) ?_ rfl ⟨?_,fun h=>absurd HX2.out h,fun _=>⟨B,.slice aao L aac,Nat.le_of_lt hBw,rfl,?_,?_⟩⟩
    ·obtain ⟨q0,q1,q2⟩:=h3z.read (.slice (some ⟨b,off,none⟩) k cap) (.slice (some ⟨B,0,none⟩) k k) (.slice aao L aac)
     simp [results,Tryd.results34,go_sem,q0,q1,q2]
    ·exact ((hbw.setCell (Nat.le_refl _) _).setCell (Nat.le_refl _) _).setCell (Nat.le_refl _) _
    ·have hne:∀ q,B≠(⟨w.heap.size,q,none⟩:Addr).block:=fun q=>by simp;omega
     exact HRo.out.of_block ((Below.heap_setCell _ _ _ B (hne 2)).trans ((Below.heap_setCell _ _ _ B (hne 1)).trans (Below.heap_setCell _ _ _ B (hne 0))))
    ·rw [HLd.out,<- HL.out]
     exact owns_mono (owns_set (owns_set (owns_set HOw.out (by simp;omega) _) (by simp;omega) _) (by simp;omega) _) (by omega)
theorem lread_any (v:Value) (l:List (Int × Int)) (props:Int) (w:World) (hB:0 < w.heap.size) (hT:TabAt w) (hV:OpsV w v l) :
  Calls Tryd.prog 34 #[v,.int .i64 props] w (LReadPost props v l w):=by
 by_cases hr:props < 0\/6 < props
 ·obtain ⟨ao,cap,rfl,_⟩:=hV
  exact (read_range ao _ cap props w hr).mono fun e w' ⟨h1,h2⟩=>⟨h2,fun _=>by rw [lcode_range hr];exact h1,fun h=>absurd h (by rw [lcode_range hr];decide)⟩
 ·by_cases hz:endsCode (l.map Prod.fst)=0
  ·obtain ⟨hne,_⟩:=ends_ne hz
   obtain ⟨ao,cap,rfl,h0,h⟩:=hV;obtain ⟨b,off,rfl,hbl,hat⟩:=h (by rintro rfl;exact hne rfl)
   exact read_main b off cap l props w (by omega) (by omega) hB hT hbl hat h0.1 hz
  ·exact (read_ends v _ props w (by omega) (by omega) hB hT hV.kinds hz).mono fun e w' ⟨h1,h2⟩=>⟨h2,fun _=>by rw [lcode_ends hr hz];exact h1,fun h=>absurd h (by rw [lcode_ends hr hz];exact hz)⟩
theorem lcheck_any (v:Value) (l:List (Int × Int)) (props:Int) (w:World) (hB:0 < w.heap.size) (hT:TabAt w) (hV:OpsV w v l) :
  Calls Tryd.prog 23 #[v,.int .i64 props] w fun e w'=>e=.returned (.int .i64 (lcode props l))/\Below w.heap.size w w':=by
 have hrd:Calls Tryd.prog 34 #[v,.int .i64 props] w fun e w'=>Below w.heap.size w w'/\∃ ao an ac bo bn bc co cn cc,e=.returned (.tuple #[.agg #[.slice ao an ac,.slice bo bn bc,.slice co cn cc],.int .i64 (lcode props l)]):=by
  refine (lread_any v l props w hB hT hV).mono fun e w' ⟨h1,h2,h3⟩=>⟨h1,?_⟩
  by_cases hz:lcode props l=0
  ·obtain ⟨B,av,_,he,_,ho⟩:=h3 hz
   obtain ⟨aa,ac,rfl⟩:=owns_slice ho;obtain ⟨ao,cap,rfl,_⟩:=hV;exact ⟨_,_,_,_,_,_,_,_,_,by rw [hz];exact he⟩
  ·exact ⟨_,_,_,_,_,_,_,_,_,h2 hz⟩
 obtain ⟨ao,cap,rfl,_⟩:=hV;generalize lcode props l=x at *;clear hT
 go_enter Tryd.func23,Tryd.ntmps23
 go_wp2_with (go_at_call 34;refine hrd.mono ?_;rintro e w1 ⟨hb1,ao,an,ac,bo,bn,bc,co,cn,cc,rfl⟩)
 go_ret
 exact ⟨rfl,by first | exact hb1 | exact hb1.alloc hb1.size _⟩
