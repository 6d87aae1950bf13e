/- Joined texts. -/
import Derived.Test.YtnihdlgfhhdhkaaGreatDoorLateA
import Derived.RangeFuncNested
import Derived.RangeFuncBound
import Derived.RangeFuncCalls
import Derived.RangeFuncLeaves
import Derived.Shelf.Abstract
import Derived.Shelf.RegionOpen
import Derived.OwnWalkIn
import Derived.TacticsInMore
import Derived.LoopNIn
import Derived.LoopIn
import Derived.Test.YtnihdlgfhhdhkaaGreatDoorAnyOps
namespace Go.Proofs.YtnihdlgfhhdhkaaGreatDoor
open Go.ChangeShapes Go.WideShapes Go.ChangeAt Go.RowKit Go.Deep
open Terms
set_option maxHeartbeats 6400000
set_option maxRecDepth 20000
def zFF (props:Int) (v:Value) (l:List (Int × Int)) (w:World) (e:Ending) (w':World):Prop:=
 Below w.heap.size w w'/\(zAQ props l≠0->e=.returned (.tuple #[.agg #[.slice none 0 0,.slice none 0 0,.slice none 0 0],.int .i64 (zAQ props l)]))/\
 (zAQ props l=0->∃ B av,w.heap.size <= B/\e=.returned (.tuple #[.agg #[v,.slice (some ⟨B,0,none⟩) l.length l.length,av],.int .i64 0])/\w'.rowIs B 3 l.length (fun q=>.int .i64 (zAa (l.map Prod.fst) q))/\w'.ownsRow w.heap.size 3 1 av (zAA l).length (zAE (zAA l)))
def zBh (w:World) (b:Nat) (x y z:Value):Prop:=w.cell? ⟨b,0,none⟩=some x/\w.cell? ⟨b,1,none⟩=some y/\w.cell? ⟨b,2,none⟩=some z/\w.frozen? ⟨b,0,none⟩=false/\w.frozen? ⟨b,1,none⟩=false/\w.frozen? ⟨b,2,none⟩=false/\b < w.heap.size
theorem zBh.below {w w':World} {B b:Nat} {x y z:Value} (h:zBh w b x y z) (hb:Below B w w') (hB:b < B):zBh w' b x y z:=
 ⟨(hb.cell (p:=⟨b,0,none⟩) hB).trans h.1,(hb.cell (p:=⟨b,1,none⟩) hB).trans h.2.1,(hb.cell (p:=⟨b,2,none⟩) hB).trans h.2.2.1,(hb.frozen (p:=⟨b,0,none⟩) hB).trans h.2.2.2.1,(hb.frozen (p:=⟨b,1,none⟩) hB).trans h.2.2.2.2.1,(hb.frozen (p:=⟨b,2,none⟩) hB).trans h.2.2.2.2.2.1,Nat.lt_of_lt_of_le h.2.2.2.2.2.2 hb.size⟩
theorem zBh.new (w:World) (x y z:Value) (t:TypeId):zBh (w.alloc (.cells #[x,y,z] t)) w.heap.size x y z:=by
 refine ⟨?_,?_,?_,?_,?_,?_,?_⟩ <;> simp [go_sem]
theorem zBh.read {w:World} {b:Nat} {x y z:Value} (h:zBh w b x y z) (u0 u1 u2:Value):(w.setCell ⟨b,0,none⟩ u0).cell? ⟨b,0,none⟩=some u0/\((w.setCell ⟨b,0,none⟩ u0).setCell ⟨b,1,none⟩ u1).cell? ⟨b,1,none⟩=some u1/\(((w.setCell ⟨b,0,none⟩ u0).setCell ⟨b,1,none⟩ u1).setCell ⟨b,2,none⟩ u2).cell? ⟨b,2,none⟩=some u2:=by
 obtain ⟨k0,k1,k2,_⟩:=h;refine ⟨World.cell?_setCell_same' _ _ _ (by rw [k0];rfl),World.cell?_setCell_same' _ _ _ ?_,World.cell?_setCell_same' _ _ _ ?_⟩
 ·simp [go_sem,k1]
 ·simp [go_sem,k2]
theorem zLL (ao:Option Addr) (n cap:Nat) (props:Int) (w:World) (h:props < 0\/6 < props) :
  Calls Tryz.prog 65 #[.slice ao n cap,.int .i64 props] w fun e w'=>e=.returned (.tuple #[.agg #[.slice none 0 0,.slice none 0 0,.slice none 0 0],.int .i64 2])/\Below w.heap.size w w':=by
 rcases h with h | h
 all_goals
  go_enter Tryz.func65,Tryz.ntmps65
  go_wp2_with fail
  exact bodyPost_ret (v:=.tuple #[.agg #[.slice none 0 0,.slice none 0 0,.slice none 0 0],.int .i64 2]) (by simp [results,Tryz.results65,go_sem]) rfl ⟨rfl,by exact (Below.refl _ _).alloc (Nat.le_refl _) _⟩
theorem zLi (v:Value) (ks:List Int) (props:Int) (w:World) (h0:0 <= props) (h6:props <= 6) (hB:0 < w.heap.size) (hT:zAJ w) (hK:zDI w v ks) (hz:zAD ks≠0) :
  Calls Tryz.prog 65 #[v,.int .i64 props] w fun e w'=>e=.returned (.tuple #[.agg #[.slice none 0 0,.slice none 0 0,.slice none 0 0],.int .i64 (zAD ks)])/\Below w.heap.size w w':=by
 have hA:∀ o,Below w.heap.size w (w.alloc o):=fun o=>(Below.refl _ _).alloc (Nat.le_refl _) o
 have hKA:∀ o,zDI (w.alloc o) v ks:=fun o=>hK.below (hA o)
 have hends:∀ o,Calls Tryz.prog 51 #[v] (w.alloc o) fun e w'=>e=.returned (.tuple #[.slice none 0 0,.int .i64 (zAD ks)])/\Below (w.alloc o).heap.size (w.alloc o) w':=fun o=>(zDn v ks (w.alloc o) (by simp) (hT.below (hA o) hB) (hKA o)).mono fun e w' ⟨h1,h2,_⟩=>⟨h2 hz,h1⟩
 generalize zAD ks=x at *;obtain ⟨ao,cap,rfl,_⟩:=hK;clear hT hKA
 go_enter Tryz.func65,Tryz.ntmps65
 go_wp2_with (go_at_call 51;refine (hends _).mono ?_;rintro e w1 ⟨rfl,hb1⟩;have h3:=(zBh.new w (.slice none 0 0) (.slice none 0 0) (.slice none 0 0) 147).below hb1 (by simp);obtain ⟨k0,k1,k2,f0,f1,f2,_⟩:=id h3)
 refine bodyPost_ret (v:=.tuple #[.agg #[.slice none 0 0,.slice none 0 0,.slice none 0 0],.int .i64 x]) ?_ rfl ⟨rfl,?_⟩
 ·obtain ⟨q0,q1,q2⟩:=h3.read (.slice none 0 0) (.slice none 0 0) (.slice none 0 0)
  simp [results,Tryz.results65,go_sem,q0,q1,q2]
 ·have hbw:=(hA _).trans (hb1.mono (hA _).size)
  exact ((hbw.setCell (Nat.le_refl _) _).setCell (Nat.le_refl _) _).setCell (Nat.le_refl _) _
theorem zBh.set2 {w:World} {b:Nat} {x y z:Value} (h:zBh w b x y z) (u:Value):zBh (w.setCell ⟨b,2,none⟩ u) b x y u:=by
 obtain ⟨k0,k1,k2,f0,f1,f2,hl⟩:=h;refine ⟨?_,?_,World.cell?_setCell_same' _ _ _ (by rw [k2];rfl),?_,?_,?_,by simpa using hl⟩
 ·simp [go_sem,k0]
 ·simp [go_sem,k1]
 ·rw [World.frozen?_setCell];exact f0
 ·rw [World.frozen?_setCell];exact f1
 ·rw [World.frozen?_setCell];exact f2
theorem zEb {w:World} {base:Nat} {e:TypeId} {s n:Nat} {v:Value} {xs:List Value} (h:w.ownsRow base e s v n xs) {p:Addr} (hp:p.block < base) (u:Value):(w.setCell p u).ownsRow base e s v n xs:=by
 obtain ⟨h1,h2⟩:=h;refine ⟨h1,?_⟩
 rcases h2 with h2 | ⟨g,cap,cur,hv,hg,hh,r⟩
 ·exact .inl h2
 ·exact .inr ⟨g,cap,cur,hv,hg,(Below.heap_setCell w p u g (by omega)).trans hh,r⟩
theorem zKn {w:World} {base:Nat} {e:TypeId} {s n:Nat} {v:Value} {xs:List Value} (h:w.ownsRow base e s v n xs):∀ z,v.ownBlock=some z->base <= z:=by
 intro z hz
 rcases h.2 with ⟨rfl,_⟩ | ⟨g,cap,cur,rfl,hb,_⟩
 ·simp [Value.ownBlock] at hz
 ·simp [Value.ownBlock] at hz;omega
theorem zMH {w:World} {base:Nat} {e:TypeId} {s k:Nat} {v:Value} {xs:List Value} (h:w.ownsRow base e s v (k+1) xs):∃ g cap,v=.slice (some ⟨g,0,none⟩) (k+1) cap:=by
 rcases h.2 with ⟨_,h0⟩ | ⟨g,cap,_,rfl,_⟩
 ·omega
 ·exact ⟨g,cap,rfl⟩
def zHT (l:List (Int × Int)) (w1:World) (v ev:Value) (k:Nat) (wr:World):Prop:=Below w1.heap.size w1 wr/\∃ av,zBh wr w1.heap.size v ev av/\wr.ownsRow (w1.heap.size+1) 3 1 av (zAF l k).length (zAE (zAF l k))
theorem zHT.later {l:List (Int × Int)} {w1:World} {v ev:Value} {k:Nat} {wr w':World} (h:zHT l w1 v ev k wr) (hb:Below wr.heap.size wr w'):zHT l w1 v ev k w':=by
 obtain ⟨h1,av,h3,ho⟩:=h;exact ⟨h1.trans (hb.mono h1.size),av,h3.below hb h3.2.2.2.2.2.2,zAR ho hb (Nat.le_refl _)⟩
theorem zMY (b off cap:Nat) (l:List (Int × Int)) (props:Int) (w:World) (h0:0 <= props) (h6:props <= 6) (hB:0 < w.heap.size) (hT:zAJ w) (hbl:b < w.heap.size) (hat:zAu w b off l) (hcap:l.length <= cap) (hz:zAD (l.map Prod.fst)=0) :
  Calls Tryz.prog 65 #[.slice (some ⟨b,off,none⟩) l.length cap,.int .i64 props] w (zFF props (.slice (some ⟨b,off,none⟩) l.length cap) l w):=by
 obtain ⟨hne,h60⟩:=zB7 hz;rw [List.length_map] at h60;have hr:¬ (props < 0\/6 < props):=by omega
 have hA:∀ o,Below w.heap.size w (w.alloc o):=fun o=>(Below.refl _ _).alloc (Nat.le_refl _) o
 have hK:zDI w (.slice (some ⟨b,off,none⟩) l.length cap) (l.map Prod.fst):=(show zAX w _ l from ⟨_,cap,rfl,⟨hcap,fun h=>by simp at h⟩,fun _=>⟨b,off,rfl,hbl,hat⟩⟩).kinds
 have hends:∀ o,Calls Tryz.prog 51 #[.slice (some ⟨b,off,none⟩) l.length cap] (w.alloc o) fun e w'=>Below (w.alloc o).heap.size (w.alloc o) w'/\∃ B,(w.alloc o).heap.size <= B/\e=.returned (.tuple #[.slice (some ⟨B,0,none⟩) l.length l.length,.int .i64 0])/\w'.rowIs B 3 l.length (fun q=>.int .i64 (zAa (l.map Prod.fst) q)):=fun o=>
  (zDn _ _ (w.alloc o) (by simp) (hT.below (hA o) hB) (hK.below (hA o))).mono fun e w' ⟨h1,_,h3⟩=>⟨h1,by have:=h3 hz;rwa [List.length_map] at this⟩
 have HO:Hid (∀ i,i < l.length->(∀ j,j < i->zAT props (l.getD j (0,0))=0)->zAT props (l.getD i (0,0))≠0->zAQ props l=zAT props (l.getD i (0,0))):=fun i hi hj hne=>by
  have hx:=zMJ hi hj hne;rw [zIi hr hz (by rw [hx];exact hne),hx]
 have HE:Hid ((∀ j,j < l.length->zAT props (l.getD j (0,0))=0)->zAQ props l=if 6 < (zAF l l.length).length then 1 else 0):=fun hj=>zEU hr hz (zGB hj)
 have HA:Hid (zAu w b off l):=hat;have HLd:Hid (zAA l=zAF l l.length):=rfl;unfold zFF;obtain ⟨n,hn⟩:∃ n,n=l.length:=⟨_,rfl⟩
 have HN:Hid (n=l.length):=hn;rw [<- hn] at h60 HO HE hends HLd hcap ⊢;obtain ⟨i0,hi,hz0,hz1,hz2⟩:=info_parts zBd;clear hat hne hz hr hn hK hT
 go_enter Tryz.func65,Tryz.ntmps65
 go_wp2_with (go_at_call 51;refine (hends _).mono ?_;rintro e w1 ⟨hb1,B,hBl,rfl,hrow⟩;have h3:=(zBh.new w (.slice none 0 0) (.slice none 0 0) (.slice none 0 0) 147).below hb1 (by simp))
 have hbw1:=(hA _).trans (hb1.mono (hA _).size);have hs1:w.heap.size < w1.heap.size:=h3.2.2.2.2.2.2
 have HS0:Hid (zHT l w1 (.slice (some ⟨b,off,none⟩) n cap) (.slice (some ⟨B,0,none⟩) n n) 0 (w1.alloc (.cells #[.slice (some ⟨b,off,none⟩) n cap,.slice (some ⟨B,0,none⟩) n n,.slice none 0 0] 147))):=⟨(Below.refl _ _).alloc (Nat.le_refl _) _,_,zBh.new _ _ _ _ _,World.ownsRow_nil _ _ _ _⟩;have HRow:Hid (w1.rowIs B 3 n (fun q=>.int .i64 (zAa (l.map Prod.fst) q))):=hrow
 have HT3:Hid (zBh w1 w.heap.size (.slice none 0 0) (.slice none 0 0) (.slice none 0 0)):=h3;have hBw:w.heap.size < B:=by have:=hBl;simp at this;omega
 clear hends hb1 hrow h3 hBl
 go_loopw [33] (fun i wr=>∃ k:Nat,k <= n/\i=.int .i64 k/\Hid (zHT l w1 (.slice (some ⟨b,off,none⟩) n cap) (.slice (some ⟨B,0,none⟩) n n) k wr)/\Hid (∀ j,j < k->zAT props (l.getD j (0,0))=0)) (fun i _=>n - (intOf i).toNat)
 case atStart=>exact ⟨0,Nat.zero_le _,rfl,HS0.out,fun j hj=>by omega⟩
 case round=>
  obtain ⟨k,hk,rfl,HSt,HJ⟩:=hrel;obtain ⟨hbel,av,h3r,hown⟩:=HSt.out;have hbw:=hbw1.trans (hbel.mono hbw1.size);have hlen:=zHQ l k;have hsr:=hbel.size;obtain ⟨aao,aac,rfl⟩:=zAm hown
  by_cases hlt:k < n
  ·obtain ⟨c0,c1⟩:=(HA.out.below hbw hbl) k (by rw [<- HN.out];exact hlt)
   have HOi:=(show Hid _ from HO.out k hlt HJ.out)
   have HJ2:Hid (zAT props (l.getD k (0,0))=0->∀ j,j < k+1->zAT props (l.getD j (0,0))=0):=fun h j hj=>by
    by_cases hji:j < k
    ·exact HJ.out j hji
    ·obtain rfl:j=k:=by omega
     exact h
   have HY:Hid (zAP (l.getD k (0,0)).1=true->zAF l (k+1)=zAF l k++[(k:Int)]):=zB3;have HNo:Hid (zAP (l.getD k (0,0)).1=false->zAF l (k+1)=zAF l k):=zGu;generalize l.getD k (0,0)=xy at c0 c1 HOi HJ2 HY HNo;obtain ⟨x,y⟩:=xy;simp only at c0 c1 HY HNo
   have hco:=fun w=>zIe x y props w h0 h6
   have hlk:=fun w=>zIo x w
   have hAr:∀ o,Below wr.heap.size wr (wr.alloc o):=fun o=>(Below.refl _ _).alloc (Nat.le_refl _) o
   have HW2:Hid (∀ w2,Below (wr.alloc (.cells #[.int .i64 x,.int .i64 y] 106)).heap.size (wr.alloc (.cells #[.int .i64 x,.int .i64 y] 106)) w2->w2.cell? ⟨wr.heap.size,0,none⟩=some (.int .i64 x)/\zHT l w1 (.slice (some ⟨b,off,none⟩) n cap) (.slice (some ⟨B,0,none⟩) n n) k w2/\zBh w2 w.heap.size (.slice none 0 0) (.slice none 0 0) (.slice none 0 0)/\zBh w2 w1.heap.size (.slice (some ⟨b,off,none⟩) n cap) (.slice (some ⟨B,0,none⟩) n n) (.slice aao (zAF l k).length aac)/\w2.ownsRow (w1.heap.size+1) 3 1 (.slice aao (zAF l k).length aac) (zAF l k).length (zAE (zAF l k))):=fun w2 hb2=>by
    have hb12:Below wr.heap.size wr w2:=(hAr _).trans (hb2.mono (hAr _).size);refine ⟨(hb2.cell (p:=⟨wr.heap.size,0,none⟩) (by simp)).trans (by simp [go_sem]),HSt.out.later hb12,(HT3.out.below hbel hs1).below hb12 (by omega),h3r.below hb12 h3r.2.2.2.2.2.2,zAR hown hb12 (Nat.le_refl _)⟩
   obtain ⟨L,hL⟩:∃ L,L=(zAF l k).length:=⟨_,rfl⟩
   have HL:Hid (L=(zAF l k).length):=hL;rw [<- hL] at hlen HW2;clear hL HO HE HA hown h3r HSt HS0 HRow
   by_cases hze:zAT props (x,y)=0
   ·have HJ3:=(show Hid _ from HJ2.out hze)
    rw [hze] at hco;clear hze HOi HJ2 HJ
    cases hb:zAP x with
    | true=>
     have HAh:=(show Hid _ from HY.out hb)
     rw [hb] at hlk;have h63:L+1 <= maxLen:=by unfold maxLen;omega
     have hkb:(L+1)*8 <= 140737488355328:=by omega
     clear HY HNo hb
     go_wp2_with (first | (go_at_call 102;refine (hco _).mono ?_;rintro e w2 ⟨rfl,hb2⟩;obtain ⟨c2,hst2,h3z,h3w,ho2⟩:=HW2.out w2 hb2;obtain ⟨k0,k1,k2,f0,f1,f2,hl2⟩:=id h3w;have hown2:=fun o=>ho2.alloc o;have hbase:∀ o,w1.heap.size+1 <= (w2.alloc o).heap.size:=(fun o=>by simp;omega);have kA2:∀ o,(w2.alloc o).cell? ⟨w1.heap.size,2,none⟩=some (.slice aao L aac):=(fun o=>(((Below.refl _ _).alloc (Nat.le_refl _) o).cell (p:=⟨w1.heap.size,2,none⟩) hl2).trans k2)) | (go_at_call 103;refine (hlk _).mono ?_;rintro e w3 ⟨rfl,rfl⟩) | (at_builtin;refine wpList_append_own _ rfl (.tmp 49) (.tmp 51) 27 rfl (w1.heap.size+1) 3 i0 (.int .i64 0) 1 8 Tryz.underlying27 hi hz0 hz1 hz2 rfl (by decide) _ _ _ rfl (hown2 _) ⟨_,0,none⟩ 1 1 _ rfl rfl (cell_one_new _ _ _) (by intro u hu;simp at hu;subst hu;rfl) h63 hkb (hbase _) ?_;intro v5 w5 hown5 hgrow5 _;obtain ⟨g5,cp5,rfl⟩:=zMH hown5;have hb25:Below (w1.heap.size+1) _ w5:=((Below.refl _ _).alloc (by omega) _).grown hgrow5 (hbase _) (zKn ho2);have h35:=h3w.below hb25 (Nat.lt_succ_self _);obtain ⟨k50,k51,k52,f50,f51,f52,hl5⟩:=id h35))
     have hb15:Below w1.heap.size w1 w5:=hst2.1.trans (hb25.mono (Nat.le_succ _));refine ⟨⟨k+1,hlt,by first | rfl | simp,⟨hb15.setCell (Nat.le_refl _) _,_,h35.set2 _,?_⟩,HJ3.out⟩,by simp [intOf];omega⟩
     rw [HAh.out,List.length_append,<- HL.out];rw [show zAE (zAF l k++[(k:Int)])=zAE (zAF l k)++[.int .i64 (k:Int)] by simp [zAE]]
     exact zEb hown5 (Nat.lt_succ_self _) _
    | false=>
     have HAh:=(show Hid _ from HNo.out hb)
     rw [hb] at hlk;clear HY HNo hb
     go_wp2_with (first | (go_at_call 102;refine (hco _).mono ?_;rintro e w2 ⟨rfl,hb2⟩;obtain ⟨c2,hst2,h3z,h3w,ho2⟩:=HW2.out w2 hb2) | (go_at_call 103;refine (hlk _).mono ?_;rintro e w3 ⟨rfl,rfl⟩))
     obtain ⟨q1,av',q2,q3⟩:=hst2;exact ⟨⟨k+1,hlt,by first | rfl | simp,⟨q1,av',q2,by rw [HAh.out];exact q3⟩,HJ3.out⟩,by simp [intOf];omega⟩
   ·have HX:Hid (zAQ props l=zAT props (x,y)):=HOi.out hze
    generalize zAT props (x,y)=err at hco hze HX;clear HOi HJ2 HY HNo hlk
    go_wp2_with (go_at_call 102;refine (hco _).mono ?_;rintro e w2 ⟨rfl,hb2⟩;obtain ⟨c2,hst2,h3z,h3w,ho2⟩:=HW2.out w2 hb2;obtain ⟨k0,k1,k2,f0,f1,f2,hl2⟩:=id h3z)
    refine bodyPost_ret (v:=.tuple #[.agg #[.slice none 0 0,.slice none 0 0,.slice none 0 0],.int .i64 err]) ?_ rfl ⟨?_,fun _=>by rw [HX.out],fun h=>absurd h (by rw [HX.out];exact hze)⟩
    ·obtain ⟨q0,q1,q2⟩:=h3z.read (.slice none 0 0) (.slice none 0 0) (.slice none 0 0)
     simp [results,Tryz.results65,go_sem,q0,q1,q2]
    ·have hbw2:=hbw1.trans (hst2.1.mono hbw1.size)
     exact ((hbw2.setCell (Nat.le_refl _) _).setCell (Nat.le_refl _) _).setCell (Nat.le_refl _) _
  ·have hkn:k=n:=by omega
   subst hkn;have HX:=(show Hid _ from HE.out HJ.out)
   have h3z:=HT3.out.below hbel hs1;have HRo:Hid (wr.rowIs B 3 k (fun q=>.int .i64 (zAa (l.map Prod.fst) q))):=zAh HRow.out hbel
   have HOw:Hid (wr.ownsRow (w1.heap.size+1) 3 1 (.slice aao (zAF l k).length aac) (zAF l k).length (zAE (zAF l k))):=hown;obtain ⟨L,hL⟩:∃ L,L=(zAF l k).length:=⟨_,rfl⟩
   have HL:Hid (L=(zAF l k).length):=hL;rw [<- hL] at hlen HX HOw h3r;obtain ⟨k0,k1,k2,f0,f1,f2,hl2⟩:=id h3r;obtain ⟨z0,z1,z2,y0,y1,y2,zl2⟩:=id h3z;clear hL HO HE HA hown HSt HS0 HRow HJ
   by_cases h6L:6 < L
   ·have HX2:Hid (zAQ props l=1):=by show _=_;rw [HX.out,if_pos h6L]
    go_wp2_with fail
    refine bodyPost_ret (v:=.tuple #[.agg #[.slice none 0 0,.slice none 0 0,.slice none 0 0],.int .i64 1]) ?_ rfl ⟨?_,fun _=>by rw [HX2.out],fun h=>absurd h (by rw [HX2.out];decide)⟩
    ·obtain ⟨q0,q1,q2⟩:=h3z.read (.slice none 0 0) (.slice none 0 0) (.slice none 0 0)
     simp [results,Tryz.results65,go_sem,q0,q1,q2]
    ·exact ((hbw.setCell (Nat.le_refl _) _).setCell (Nat.le_refl _) _).setCell (Nat.le_refl _) _
   ·have HX2:Hid (zAQ props l=0):=by show _=_;rw [HX.out,if_neg h6L]
    go_wp2_with fail
    refine bodyPost_ret (v:=.tuple #[.agg #[.slice (some ⟨b,off,none⟩) k cap,.slice (some ⟨B,0,none⟩) k k,.slice aao L aac],.int .i64 0]) ?_ rfl ⟨?_,fun h=>absurd HX2.out h,fun _=>⟨B,.slice aao L aac,Nat.le_of_lt hBw,rfl,?_,?_⟩⟩
    ·obtain ⟨q0,q1,q2⟩:=h3z.read (.slice (some ⟨b,off,none⟩) k cap) (.slice (some ⟨B,0,none⟩) k k) (.slice aao L aac)
     simp [results,Tryz.results65,go_sem,q0,q1,q2]
    ·exact ((hbw.setCell (Nat.le_refl _) _).setCell (Nat.le_refl _) _).setCell (Nat.le_refl _) _
    ·have hne:∀ q,B≠(⟨w.heap.size,q,none⟩:Addr).block:=fun q=>by simp;omega
     exact HRo.out.of_block ((Below.heap_setCell _ _ _ B (hne 2)).trans ((Below.heap_setCell _ _ _ B (hne 1)).trans (Below.heap_setCell _ _ _ B (hne 0))))
    ·rw [HLd.out,<- HL.out]
     exact zAy (zEb (zEb (zEb HOw.out (by simp;omega) _) (by simp;omega) _) (by simp;omega) _) (by omega)
theorem zFR (v:Value) (l:List (Int × Int)) (props:Int) (w:World) (hB:0 < w.heap.size) (hT:zAJ w) (hV:zAX w v l) :
  Calls Tryz.prog 65 #[v,.int .i64 props] w (zFF props v l w):=by
 by_cases hr:props < 0\/6 < props
 ·obtain ⟨ao,cap,rfl,_⟩:=hV
  exact (zLL ao _ cap props w hr).mono fun e w' ⟨h1,h2⟩=>⟨h2,fun _=>by rw [zEM hr];exact h1,fun h=>absurd h (by rw [zEM hr];decide)⟩
 ·by_cases hz:zAD (l.map Prod.fst)=0
  ·obtain ⟨hne,_⟩:=zB7 hz
   obtain ⟨ao,cap,rfl,h0,h⟩:=hV;obtain ⟨b,off,rfl,hbl,hat⟩:=h (by rintro rfl;exact hne rfl)
   exact zMY b off cap l props w (by omega) (by omega) hB hT hbl hat h0.1 hz
  ·exact (zLi v _ props w (by omega) (by omega) hB hT hV.kinds hz).mono fun e w' ⟨h1,h2⟩=>⟨h2,fun _=>by rw [zEi hr hz];exact h1,fun h=>absurd h (by rw [zEi hr hz];exact hz)⟩
theorem zKp (v:Value) (l:List (Int × Int)) (props:Int) (w:World) (hB:0 < w.heap.size) (hT:zAJ w) (hV:zAX w v l) :
  Calls Tryz.prog 42 #[v,.int .i64 props] w fun e w'=>e=.returned (.int .i64 (zAQ props l))/\Below w.heap.size w w':=by
 have hrd:Calls Tryz.prog 65 #[v,.int .i64 props] w fun e w'=>Below w.heap.size w w'/\∃ ao an ac bo bn bc co cn cc,e=.returned (.tuple #[.agg #[.slice ao an ac,.slice bo bn bc,.slice co cn cc],.int .i64 (zAQ props l)]):=by
  refine (zFR v l props w hB hT hV).mono fun e w' ⟨h1,h2,h3⟩=>⟨h1,?_⟩
  by_cases hz:zAQ props l=0
  ·obtain ⟨B,av,_,he,_,ho⟩:=h3 hz
   obtain ⟨aa,ac,rfl⟩:=zAm ho;obtain ⟨ao,cap,rfl,_⟩:=hV;exact ⟨_,_,_,_,_,_,_,_,_,by rw [hz];exact he⟩
  ·exact ⟨_,_,_,_,_,_,_,_,_,h2 hz⟩
 obtain ⟨ao,cap,rfl,_⟩:=hV;generalize zAQ props l=x at *;clear hT
 go_enter Tryz.func42,Tryz.ntmps42
 go_wp2_with (go_at_call 65;refine hrd.mono ?_;rintro e w1 ⟨hb1,ao,an,ac,bo,bn,bc,co,cn,cc,rfl⟩)
 go_ret
 exact ⟨rfl,by first | exact hb1 | exact hb1.alloc hb1.size _⟩
structure Six (w:World) (b:Nat) (x0 x1 x2 x3 x4 x5:Value):Prop where
 k0:w.cell? ⟨b,0,none⟩=some x0
 f0:w.frozen? ⟨b,0,none⟩=false
 k1:w.cell? ⟨b,1,none⟩=some x1
 f1:w.frozen? ⟨b,1,none⟩=false
 k2:w.cell? ⟨b,2,none⟩=some x2
 f2:w.frozen? ⟨b,2,none⟩=false
 k3:w.cell? ⟨b,3,none⟩=some x3
 f3:w.frozen? ⟨b,3,none⟩=false
 k4:w.cell? ⟨b,4,none⟩=some x4
 f4:w.frozen? ⟨b,4,none⟩=false
 k5:w.cell? ⟨b,5,none⟩=some x5
 f5:w.frozen? ⟨b,5,none⟩=false
 hl:b < w.heap.size
theorem Six.below {w w':World} {B b:Nat} {x0 x1 x2 x3 x4 x5:Value} (h:Six w b x0 x1 x2 x3 x4 x5) (hb:Below B w w') (hB:b < B):Six w' b x0 x1 x2 x3 x4 x5:=
 ⟨(hb.cell (p:=⟨b,0,none⟩) hB).trans h.k0,(hb.frozen (p:=⟨b,0,none⟩) hB).trans h.f0,(hb.cell (p:=⟨b,1,none⟩) hB).trans h.k1,(hb.frozen (p:=⟨b,1,none⟩) hB).trans h.f1,(hb.cell (p:=⟨b,2,none⟩) hB).trans h.k2,(hb.frozen (p:=⟨b,2,none⟩) hB).trans h.f2,(hb.cell (p:=⟨b,3,none⟩) hB).trans h.k3,(hb.frozen (p:=⟨b,3,none⟩) hB).trans h.f3,(hb.cell (p:=⟨b,4,none⟩) hB).trans h.k4,(hb.frozen (p:=⟨b,4,none⟩) hB).trans h.f4,(hb.cell (p:=⟨b,5,none⟩) hB).trans h.k5,(hb.frozen (p:=⟨b,5,none⟩) hB).trans h.f5,Nat.lt_of_lt_of_le h.hl hb.size⟩
theorem Six.new (w:World) (x0 x1 x2 x3 x4 x5:Value) (t:TypeId):Six (w.alloc (.cells #[x0,x1,x2,x3,x4,x5] t)) w.heap.size x0 x1 x2 x3 x4 x5:=
 ⟨by simp [go_sem],by simp [go_sem],by simp [go_sem],by simp [go_sem],by simp [go_sem],by simp [go_sem],by simp [go_sem],by simp [go_sem],by simp [go_sem],by simp [go_sem],by simp [go_sem],by simp [go_sem],by simp⟩
theorem Six.read {w:World} {b:Nat} {x0 x1 x2 x3 x4 x5:Value} (h:Six w b x0 x1 x2 x3 x4 x5) (u0 u1 u2 u3 u4 u5:Value):((w.setCell ⟨b,0,none⟩ u0)).cell? ⟨b,0,none⟩=some u0/\(((w.setCell ⟨b,0,none⟩ u0).setCell ⟨b,1,none⟩ u1)).cell? ⟨b,1,none⟩=some u1/\((((w.setCell ⟨b,0,none⟩ u0).setCell ⟨b,1,none⟩ u1).setCell ⟨b,2,none⟩ u2)).cell? ⟨b,2,none⟩=some u2/\(((((w.setCell ⟨b,0,none⟩ u0).setCell ⟨b,1,none⟩ u1).setCell ⟨b,2,none⟩ u2).setCell ⟨b,3,none⟩ u3)).cell? ⟨b,3,none⟩=some u3/\((((((w.setCell ⟨b,0,none⟩ u0).setCell ⟨b,1,none⟩ u1).setCell ⟨b,2,none⟩ u2).setCell ⟨b,3,none⟩ u3).setCell ⟨b,4,none⟩ u4)).cell? ⟨b,4,none⟩=some u4/\(((((((w.setCell ⟨b,0,none⟩ u0).setCell ⟨b,1,none⟩ u1).setCell ⟨b,2,none⟩ u2).setCell ⟨b,3,none⟩ u3).setCell ⟨b,4,none⟩ u4).setCell ⟨b,5,none⟩ u5)).cell? ⟨b,5,none⟩=some u5:=by
 obtain ⟨k0,_,k1,_,k2,_,k3,_,k4,_,k5,_,_⟩:=h;refine ⟨World.cell?_setCell_same' _ _ _ ?_,World.cell?_setCell_same' _ _ _ ?_,World.cell?_setCell_same' _ _ _ ?_,World.cell?_setCell_same' _ _ _ ?_,World.cell?_setCell_same' _ _ _ ?_,World.cell?_setCell_same' _ _ _ ?_⟩
 ·simp [go_sem,k0]
 ·simp [go_sem,k1]
 ·simp [go_sem,k2]
 ·simp [go_sem,k3]
 ·simp [go_sem,k4]
 ·simp [go_sem,k5]
structure PartsAt (w:World) (bh bf bp bH n B pl:Nat) (h:Nat->Bool) (l:List (Int × Int)):Prop where
 holds:w.cell? ⟨bh,0,none⟩=some (.slice (some ⟨bH,0,none⟩) n n)
 row:∀ j,j < n->w.cell? ⟨bH,j,none⟩=some (.bool (h j))
 ends : w.cell? ⟨bf, 1, none⟩ = some (.slice (some ⟨B, 0, none⟩) n n)
 erow:∀ j,j < n->w.cell? ⟨B,j,none⟩=some (.int .i64 (zAa (l.map Prod.fst) j))
 place:w.cell? ⟨bp,0,none⟩=some (.int .i64 pl)
theorem zD7 (bh bp bH n pl:Nat) (x:Bool) (w:World) (hn:n <= 60) (hp:pl+1 < n) (c0:w.cell? ⟨bh,0,none⟩=some (.slice (some ⟨bH,0,none⟩) n n)) (c1:w.cell? ⟨bp,0,none⟩=some (.int .i64 pl)) (c2:w.cell? ⟨bH,pl+1,none⟩=some (.bool x)) :
  Calls Tryz.prog 134 #[.pointer (some ⟨bh,0,none⟩),.pointer (some ⟨bp,0,none⟩)] w fun e w'=>e=.returned (.bool x)/\w'=w:=by
 go_enter Tryz.func134,Tryz.ntmps134
 go_wp2_with fail
 go_ret
 exact ⟨rfl,rfl⟩
theorem zEn (bh bf bp bH n B pl s:Nat) (x:Bool) (w:World) (hn:n <= 60) (hp:pl+1 < n) (hs:s < n) (c0:w.cell? ⟨bh,0,none⟩=some (.slice (some ⟨bH,0,none⟩) n n)) (c1:w.cell? ⟨bp,0,none⟩=some (.int .i64 pl)) (c2:w.cell? ⟨bf,1,none⟩=some (.slice (some ⟨B,0,none⟩) n n)) (c3:w.cell? ⟨B,pl+1,none⟩=some (.int .i64 s)) (c4:w.cell? ⟨bH,s,none⟩=some (.bool x)) :
  Calls Tryz.prog 135 #[.pointer (some ⟨bh,0,none⟩),.pointer (some ⟨bf,0,none⟩),.pointer (some ⟨bp,0,none⟩)] w fun e w'=>e=.returned (.bool x)/\∃ q,w'=w.drewN q:=by
 go_enter Tryz.func135,Tryz.ntmps135
 go_wp2_with fail
 go_quiet (fail)
 go_wp2_with fail
 go_ret
 exact ⟨rfl,_,rfl⟩
theorem zD5 (b off cap n B bH pl:Nat) (av:Value) (h:Nat->Bool) (l:List (Int × Int)) (aao:Option Addr) (an ac:Nat) (hav:av=.slice aao an ac) (w:World) (hr:∀ j,j < n->w.cell? ⟨bH,j,none⟩=some (.bool (h j))) (hbH:bH < w.heap.size) (he:∀ j,j < n->w.cell? ⟨B,j,none⟩=some (.int .i64 (zAa (l.map Prod.fst) j))) (hbB:B < w.heap.size) :
  Calls Tryz.prog 104 #[.agg #[.slice (some ⟨b,off,none⟩) n cap,.slice (some ⟨B,0,none⟩) n n,av],.int .i64 pl,.slice (some ⟨bH,0,none⟩) n n] w fun e w'=>
   e=.returned (.tuple #[.func (.func 134) #[] #[.pointer (some ⟨w.heap.size+1+1,0,none⟩),.pointer (some ⟨w.heap.size+1,0,none⟩)],.func (.func 135) #[] #[.pointer (some ⟨w.heap.size+1+1,0,none⟩),.pointer (some ⟨w.heap.size,0,none⟩),.pointer (some ⟨w.heap.size+1,0,none⟩)]])/\Below w.heap.size w w'/\Hid (PartsAt w' (w.heap.size+1+1) w.heap.size (w.heap.size+1) bH n B pl h l):=by
 subst hav;have HR:=(show Hid _ from hr)
 have HE:=(show Hid _ from he)
 clear hr he
 go_enter Tryz.func104,Tryz.ntmps104
 go_wp2_with fail
 go_ret2
 have hb:Below w.heap.size w (((w.alloc (.cells #[.slice (some ⟨b,off,none⟩) n cap,.slice (some ⟨B,0,none⟩) n n,.slice aao an ac] 147)).alloc (.cells #[.int .i64 pl] 3)).alloc (.cells #[.slice (some ⟨bH,0,none⟩) n n] 53)):=(((Below.refl _ _).alloc (Nat.le_refl _) _).alloc (by simp) _).alloc (by simp;omega) _
 refine ⟨rfl,hb,?_⟩
 show PartsAt _ _ _ _ _ _ _ _ _ _
 constructor
 ·simp [go_sem]
 ·exact fun j hj=>(hb.cell (p:=⟨bH,j,none⟩) hbH).trans (HR.out j hj)
 ·simp [go_sem]
 ·exact fun j hj=>(hb.cell (p:=⟨B,j,none⟩) hbB).trans (HE.out j hj)
 ·simp [go_sem]
theorem PartsAt.below {w w':World} {bh bf bp bH n B pl:Nat} {h:Nat->Bool} {l:List (Int × Int)} (p:PartsAt w bh bf bp bH n B pl h l) (hb:Below w.heap.size w w') (h1:bh < w.heap.size) (h2:bf < w.heap.size) (h3:bp < w.heap.size) (h4:bH < w.heap.size) (h5:B < w.heap.size):PartsAt w' bh bf bp bH n B pl h l:=
 ⟨(hb.cell (p:=⟨bh,0,none⟩) h1).trans p.holds,fun j hj=>(hb.cell (p:=⟨bH,j,none⟩) h4).trans (p.row j hj),(hb.cell (p:=⟨bf,1,none⟩) h2).trans p.ends,fun j hj=>(hb.cell (p:=⟨B,j,none⟩) h5).trans (p.erow j hj),(hb.cell (p:=⟨bp,0,none⟩) h3).trans p.place⟩
theorem PartsAt.first {w:World} {bh bf bp bH n B pl:Nat} {h:Nat->Bool} {l:List (Int × Int)} (p:PartsAt w bh bf bp bH n B pl h l) (hn:n <= 60) (hp:pl+1 < n) (q:Nat) :
  Calls Tryz.prog 134 #[.pointer (some ⟨bh,0,none⟩),.pointer (some ⟨bp,0,none⟩)] (w.drewN q) fun e w'=>e=.returned (.bool (h (pl+1)))/\w'=w.drewN q:=
 zD7 bh bp bH n pl _ _ hn hp (by simpa using p.holds) (by simpa using p.place) (by simpa using p.row _ hp)
theorem PartsAt.second {w:World} {bh bf bp bH n B pl:Nat} {h:Nat->Bool} {l:List (Int × Int)} (p:PartsAt w bh bf bp bH n B pl h l) (hn:n <= 60) (hp:pl+1 < n) (hs:sec l pl < n) (q:Nat) :
  Calls Tryz.prog 135 #[.pointer (some ⟨bh,0,none⟩),.pointer (some ⟨bf,0,none⟩),.pointer (some ⟨bp,0,none⟩)] (w.drewN q) fun e w'=>e=.returned (.bool (h (sec l pl)))/\∃ r,w'=w.drewN r:=
 (zEn bh bf bp bH n B pl (sec l pl) _ _ hn hp hs (by simpa using p.holds) (by simpa using p.place) (by simpa using p.ends) (by have:=p.erow _ hp;unfold sec;simpa using this) (by simpa using p.row _ hs)).mono fun e w' ⟨h1,r,h2⟩=>⟨h1,q+r,by rw [h2,World.drewN_drewN]⟩
theorem zMW (k v:Int) (lo:Option Addr) (lc bh bf bp bH n B pl:Nat) (letter:List Bool) (h:Nat->Bool) (l:List (Int × Int)) (w:World) (hn:n <= 60)
  (hL:zAM w (.slice lo letter.length lc) letter) (hP:PartsAt w bh bf bp bH n B pl h l) (b1:bh < w.heap.size) (b2:bf < w.heap.size) (b3:bp < w.heap.size) (b4:bH < w.heap.size) (b5:B < w.heap.size)
  (h13:k=13->0 <= v/\v < letter.length) (h1:k=10\/k=8\/k=9->pl+1 < n) (h2:k=8\/k=9->sec l pl < n) :
  Calls Tryz.prog 105 #[.agg #[.int .i64 k,.int .i64 v],.slice lo letter.length lc,.func (.func 134) #[] #[.pointer (some ⟨bh,0,none⟩),.pointer (some ⟨bp,0,none⟩)],.func (.func 135) #[] #[.pointer (some ⟨bh,0,none⟩),.pointer (some ⟨bf,0,none⟩),.pointer (some ⟨bp,0,none⟩)]] w fun e w'=>
   e=.returned (.bool (mkB (k,v) letter (h (pl+1)) (h (sec l pl))))/\Below w.heap.size w w':=by
 have hA:∀ o,Below w.heap.size w (w.alloc o):=fun o=>(Below.refl _ _).alloc (Nat.le_refl _) o
 have hP':=fun o=>hP.below (hA o) b1 b2 b3 b4 b5
 by_cases e13:k=13
 ·subst e13
  obtain ⟨hv0,hv1⟩:=h13 rfl;obtain ⟨vn,rfl⟩:∃ vn:Nat,v=vn:=⟨v.toNat,by omega⟩
  obtain ⟨lo',lc',hls,hll⟩:=hL
  injection hls with e1 e2 e3
  subst e1;obtain ⟨b,off,rfl,hbl,hat⟩:=hll (by intro h;rw [h] at hv1;simp at hv1;omega)
  have hc:=fun o=>((hA o).cell (p:=⟨b,off+vn,none⟩) hbl).trans (hat vn (by omega))
  have hm:mkB (13,(vn:Int)) letter (h (pl+1)) (h (sec l pl))=letter.getD vn false:=by simp [mkB]
  rw [hm];generalize letter.getD vn false=x at hc ⊢;generalize letter.length=ln at *;have hvl:vn < ln:=by omega
  clear hm hll hat hv0 hv1 h1 h2 h13 hP hP'
  go_enter Tryz.func105,Tryz.ntmps105
  go_wp2_with fail
  go_ret
  exact ⟨rfl,hA _⟩
 ·by_cases e11:k=11
  ·subst e11
   have hm:mkB (11,v) letter (h (pl+1)) (h (sec l pl))=true:=by simp [mkB]
   rw [hm];clear hm hL h1 h2 h13 hP hP' e13
   go_enter Tryz.func105,Tryz.ntmps105
   go_wp2_with fail
   go_ret
   exact ⟨rfl,hA _⟩
  ·by_cases e10:k=10
   ·subst e10
    have hp:=h1 (.inl rfl);have hf:=fun o=>(hP' o).first hn hp 0
    have hm:mkB (10,v) letter (h (pl+1)) (h (sec l pl))=!h (pl+1):=by simp [mkB]
    rw [hm];generalize h (pl+1)=x at hf ⊢;clear hm hL h1 h2 h13 hP hP' e13 e11
    go_enter Tryz.func105,Tryz.ntmps105
    go_wp2_with (go_at_call 134;refine (hf _).mono ?_;rintro e w1 ⟨rfl,rfl⟩)
    go_ret
    exact ⟨rfl,below_drewN (hA _) 0⟩
   ·by_cases e8:k=8
    ·subst e8
     have hp:=h1 (.inr (.inl rfl));have hs:=h2 (.inl rfl);have hf:=fun o q=>(hP' o).first hn hp q
     have hf2:=fun o q=>(hP' o).second hn hp hs q
     have hm:mkB (8,v) letter (h (pl+1)) (h (sec l pl))=(h (pl+1)&&h (sec l pl)):=by simp [mkB]
     rw [hm];generalize h (pl+1)=x at hf ⊢;generalize h (sec l pl)=y at hf2 ⊢;clear hm hL h1 h2 h13 hP hP' e13 e11 e10
     cases x
     ·go_enter Tryz.func105,Tryz.ntmps105
      go_wp2_with (go_at_call 134;refine (hf _ 0).mono ?_;rintro e w1 ⟨rfl,rfl⟩)
      go_ret
      exact ⟨rfl,below_drewN (hA _) 0⟩
     ·go_enter Tryz.func105,Tryz.ntmps105
      go_wp2_with (first | (go_at_call 134;refine (hf _ 0).mono ?_;rintro e w1 ⟨rfl,rfl⟩) | (go_at_call 135;refine (hf2 _ 0).mono ?_;rintro e w1 ⟨rfl,r,rfl⟩))
      go_ret
      exact ⟨by simp,below_drewN (hA _) _⟩
    ·by_cases e9:k=9
     ·subst e9
      have hp:=h1 (.inr (.inr rfl));have hs:=h2 (.inr rfl);have hf:=fun o q=>(hP' o).first hn hp q
      have hf2:=fun o q=>(hP' o).second hn hp hs q
      have hm:mkB (9,v) letter (h (pl+1)) (h (sec l pl))=(h (pl+1)||h (sec l pl)):=by simp [mkB]
      rw [hm];generalize h (pl+1)=x at hf ⊢;generalize h (sec l pl)=y at hf2 ⊢;clear hm hL h1 h2 h13 hP hP' e13 e11 e10 e8
      cases x
      ·go_enter Tryz.func105,Tryz.ntmps105
       go_wp2_with (first | (go_at_call 134;refine (hf _ 0).mono ?_;rintro e w1 ⟨rfl,rfl⟩) | (go_at_call 135;refine (hf2 _ 0).mono ?_;rintro e w1 ⟨rfl,r,rfl⟩))
       go_ret
       exact ⟨by simp,below_drewN (hA _) _⟩
      ·go_enter Tryz.func105,Tryz.ntmps105
       go_wp2_with (go_at_call 134;refine (hf _ 0).mono ?_;rintro e w1 ⟨rfl,rfl⟩)
       go_ret
       exact ⟨rfl,below_drewN (hA _) 0⟩
     ·have hm:mkB (k,v) letter (h (pl+1)) (h (sec l pl))=false:=by simp [mkB,e13,e11,e10,e8,e9]
      rw [hm];clear hm hL h1 h2 h13 hP hP'
      go_enter Tryz.func105,Tryz.ntmps105
      go_wp2_with fail
      go_ret
      exact ⟨rfl,hA _⟩
end Go.Proofs.YtnihdlgfhhdhkaaGreatDoor
namespace Go.Proofs.YtnihdlgfhhdhkaaGreatDoor
open Go.ChangeShapes Go.WideShapes Go.ChangeAt Go.RowKit Go.Deep Go.Shelf
open Terms
set_option maxHeartbeats 6400000
set_option maxRecDepth 20000
attribute [local go_sem] Oper.semAt_some
def zFN {n:Nat} (h:0 < n) (j:Nat):Fin n:=⟨n - 1 - j,by omega⟩
def zCJ {n:Nat} (h:0 < n) (k:Nat):List (Fin n):=(List.range k).map (zFN h)
theorem zEF {n:Nat} (h:0 < n) (k:Nat):zCJ h (k+1)=zCJ h k++[zFN h k]:=by simp [zCJ,List.range_succ]
theorem zH9 {n:Nat} (h:0 < n) (k:Nat):(zCJ h k).length=k:=by simp [zCJ]
def zFj (l:List (Int × Int)) (n:Nat) (x:Fin n):Array Value:=#[.int .i64 (x.1:Int),.agg #[.int .i64 (l.getD x.1 (0,0)).1,.int .i64 (l.getD x.1 (0,0)).2]]
def zC3 (n₀ Bs:Nat) (A B:World):Prop:=Below n₀ A B/\B.heap[Bs]? = A.heap[Bs]?
set_option maxRecDepth 100000 in
theorem zM7 (F:Fence) (m:Nat) (h7:F.fn 81) (hro:F.round=none) (hm:1 <= m) (L Bs n₀ b off n cap:Nat) (l:List (Int × Int)) (h0n:0 < n) (h60:n <= 60) (hnl:n=l.length) (hb:b < n₀) (J Jx:List (Fin n)->World->Prop)
  (hY:∀ pre x W,J pre W->pre.length < n->YieldAt F (m - 1) Tryz.prog L (zFj l n x) W fun e W'=>
   (e=.returned (.bool true)/\J (pre++[x]) W'/\zC3 n₀ Bs W W')\/(e=.returned (.bool false)/\Jx (pre++[x]) W'))
  (W:World) (hBs:W.cell? ⟨Bs,0,none⟩=some (.slice (some ⟨b,off,none⟩) n cap)) (hc:zAu W b off l) (h0:J [] W) :
  CallsIn F m Tryz.prog 81 #[.func (.yield L) #[] #[],.pointer (some ⟨Bs,0,none⟩)] W fun e W'=>(∃ v,e=.returned v)/\
   ((∃ ys,ys=zCJ h0n n/\J ys W')\/(∃ pre,(∃ k,k <= n/\pre=zCJ h0n k)/\Jx pre W')):=by
 refine callsIn_of_wp Tryz.func81 rfl h7 ?_ hro
 simp only [Tryz.ntmps81,List.size_toArray,List.length_cons,List.length_nil,Nat.reduceAdd,Nat.reduceSub,Array.replicate_succ,Array.replicate_zero,List.push_toArray,List.append_toArray,List.nil_append,List.cons_append];have HC:Hid (zAu W b off l):=hc;have HN:Hid (n=l.length):=hnl;clear hc hnl
 gi_wp2
 gi_loopw [3] (fun i wr=>∃ k:Nat,k <= n/\i=.int .i64 ((n:Int) - 1 - k)/\J (zCJ h0n k) wr/\zC3 n₀ Bs W wr)
  (fun i _=>(intOf i+1).toNat)
 case atStart=>exact ⟨0,Nat.zero_le _,by first | rfl | simp,h0,Below.refl _ _,rfl⟩
 case round=>
  obtain ⟨k,hk,rfl,hJs,hnx,hbx⟩:=hrel;have hcb:wr.cell? ⟨Bs,0,none⟩=some (.slice (some ⟨b,off,none⟩) n cap):=(World.cell?_of_block (w:=W) hbx).trans hBs
  by_cases hlt:k < n
  ·obtain ⟨p,hp⟩:∃ p:Nat,p=n - 1 - k:=⟨_,rfl⟩
   have hpi:(n:Int) - 1 - k=(p:Int):=by omega
   have hpn:p < n:=by omega
   obtain ⟨c0,c1⟩:=(HC.out.below hnx hb) p (by rw [<- HN.out];exact hpn)
   obtain ⟨fn,tmps,assign,body,hy,hR⟩:=hY _ (zFN h0n k) wr hJs (by rw [zH9];exact hlt)
   have hba:(zFN h0n k).1=p:=hp.symm;simp only [zFj,hba] at hy;rw [hpi];have HPI:Hid ((n:Int) - 1 - k=(p:Int)):=hpi;clear hp hpi hba;generalize l.getD p (0,0)=xy at c0 c1 hy;obtain ⟨x,y⟩:=xy;simp only at c0 c1 hy
   gi_wp2
   refine hR.mono ?_
   rintro e W3 (⟨rfl,hJ3,hk3,hk4⟩ | ⟨rfl,hJx3⟩)
   ·gi_wp2
    go_roundw
    case rel=>exact ⟨k+1,by omega,by have:=HPI.out;first | (congr 1;omega) | (simp;omega),by rw [zEF];exact hJ3,hnx.trans hk3,hk4.trans hbx⟩
    case measure=>have:=HPI.out;first | (simp [intOf];omega) | simp [intOf]
   ·gi_wp2
    refine bodyPost_ret (results_none rfl _ _ _) rfl ?_
    exact ⟨⟨_,rfl⟩,.inr ⟨_,⟨k+1,by omega,(zEF _ _).symm⟩,hJx3⟩⟩
  ·obtain rfl:k=n:=by omega
   have hpi:(k:Int) - 1 - k=-1:=by omega
   rw [hpi]
   gi_wp2
   go_end0
   exact ⟨⟨_,rfl⟩,.inl ⟨_,rfl,hJs⟩⟩
theorem zKP (F:Fence) (m:Nat) (h5:F.fn 53) (hro:F.round=none) (a:Option Addr) (len cap:Nat) (w:World) :
  CallsIn F m Tryz.prog 53 #[.slice a len cap] w fun e w'=>e=.returned (.func (.func 81) #[] #[.pointer (some ⟨w.heap.size,0,none⟩)])/\w'=w.alloc (.cells #[.slice a len cap] 33):=by
 refine callsIn_of_wp Tryz.func53 rfl h5 ?_ hro
 simp only [Tryz.ntmps53,List.size_toArray,List.length_cons,List.length_nil,Nat.reduceAdd,Nat.reduceSub,Array.replicate_succ,Array.replicate_zero,List.push_toArray,List.append_toArray,List.nil_append,List.cons_append]
 gi_wp2
 go_ret
 exact ⟨rfl,rfl⟩
theorem zKs (F:Fence) (m:Nat) (h7:F.fn 81) (hro:F.round=none) (hm:1 <= m) (Bs n₀ b off n cap:Nat) (l:List (Int × Int)) (h0n:0 < n) (h60:n <= 60) (hnl:n=l.length) (hb:b < n₀) (w:World) (hBs:Bs < w.heap.size) (hn₀:n₀ <= w.heap.size)
  (hc:w.cell? ⟨Bs,0,none⟩=some (.slice (some ⟨b,off,none⟩) n cap)) (hI:zAu w b off l) :
  SeqStopsK F m Tryz.prog 81 #[.pointer (some ⟨Bs,0,none⟩)] (zFj l n) (zC3 n₀ Bs) (fun ys=>ys=zCJ h0n n)
   (fun pre=>∃ k,k <= n/\pre=zCJ h0n k) n w:=fun L J Jx W hW _ _ hY h0=>
 zM7 F m h7 hro hm L Bs n₀ b off n cap l h0n h60 hnl hb J Jx hY W ((hW.cell (p:=⟨Bs,0,none⟩) hBs).trans hc) (hI.below (hW.mono hn₀) hb) h0
theorem zJv {n₀ Bs:Nat} {A B C:World} (h:zC3 n₀ Bs A B) (k:zC3 n₀ Bs B C):zC3 n₀ Bs A C:=⟨h.1.trans k.1,k.2.trans h.2⟩
theorem zJ4 {n₀ Bs:Nat} {w:World} (hn:n₀ <= w.heap.size) (hB:Bs < w.heap.size) (W:World) (l:Nat) (o o':Obj) (hl:w.heap.size <= l) (h:W.heap[l]? = some o) (h1:o.isCells=false) (h2:o.isWalk=false):zC3 n₀ Bs W (W.putObj l o'):=
 ⟨belowK_b hn W l o o' hl h h1 h2,(belowK_b (n₀:=Bs+1) (w:=w) hB W l o o' hl h h1 h2).block Bs (Nat.lt_succ_self _)⟩
end Go.Proofs.YtnihdlgfhhdhkaaGreatDoor
namespace Go.Proofs.YtnihdlgfhhdhkaaGreatDoor
open Go.ChangeShapes Go.WideShapes Go.ChangeAt Go.RowKit Go.Deep Go.Shelf
set_option maxHeartbeats 6400000
set_option maxRecDepth 20000
theorem zOM {P:Program} (L n:Nat) {o:Oper} {a:Act} {next:Act->World->Prop} {Q:Exit->Act->World->Prop} {r:Result Next} (h:o.upon P a next Q r):o.uponIn (Fence.wide.inRound L) n P a next Q r:=by
 have hd:∀ m:Nat,(Fence.wide.inRound L).depth.isSome=true->1 <= m:=fun m h=>by simp [Fence.wide,Fence.inRound] at h
 cases r with
 | halt x w'=>cases x <;> first | exact h | exact h.elim
 | ok x w'=>
  cases x with
  | value v=>exact h
  | skip=>exact h
  | defer d=>exact h
  | enter f args=>exact ⟨hd _,CallsIn.inRound L ((callsIn_wide.2 h).mono fun e w'' he=>by cases e <;> exact he)⟩
  | row row args=>exact ⟨hd _,fun c cs _=>by obtain ⟨v,w'',h1,h2⟩:=h c cs;exact ⟨v,w'',h1,stepsIn_wide.2 h2⟩⟩
  | _=>exact (h:False).elim
theorem zPV {P:Program} (L n:Nat) {md:Region.Mode} {ops:Array Oper} {Q:Exit->Act->World->Prop} (hd:∀ (i:Nat) (o:Oper),ops[i]? = some o->∀ c,o.op≠Op.defer c) (hQ:LetsOut Q->False) :
  ∀ (fuel:Nat) (listed:Array Bool) (a:Act) (w:World),wpAny P md ops Q fuel listed a w->wpAnyIn (Fence.wide.inRound L) n P md ops Q fuel listed a w:=by
 intro fuel
 induction fuel with
 | zero=>intro listed a w h;exact h
 | succ fuel ih=>
  intro listed a w h;refine ⟨h.1,fun i hi=>?_⟩
  have h1:=wpOp_mono (K':=wpAnyIn (Fence.wide.inRound L) n P md ops Q fuel (listed.setIfInBounds i true)) (fun a' w' h'=>ih _ a' w' h') (h.2 i hi)
  unfold wpOp at h1;unfold wpOpIn
  cases ho:ops[i]? with
  | none=>simp only [ho] at h1 ⊢;exact h1
  | some o=>
   simp only [ho] at h1 ⊢
   split
   ·rename_i hw
    rw [if_pos hw] at h1
    rcases h1 with h1 | ⟨_,h1⟩
    ·refine ⟨fun f _=>trivial,?_⟩
     rw [Oper.semAt_eq _ _ _ (hd i o ho)];exact zOM L n h1
    ·exact (hQ h1).elim
   ·rename_i hw
    rw [if_neg hw] at h1;exact ⟨fun f _=>trivial,h1⟩
theorem zFQ {P:Program} {L n id:Nat} {ops:Array Oper} {Q:Exit->Act->World->Prop} {a:Act} {w:World} (S:World->Prop) (hm:P.follows .mixedOrders=true) (hd:∀ (i:Nat) (o:Oper),ops[i]? = some o->∀ c,o.op≠Op.defer c) (hQ:LetsOut Q->False)
  (h:wpAnyH P .any ops Q S ops.size (Array.replicate ops.size false) a w.drew):(Code.region id ops true).wpIn (Fence.wide.inRound L) n P Q a w:=
 wpIn_region_any hm (zPV L n hd hQ _ _ _ _ (wpAny_of_held _ _ _ _ h))
theorem zFO {P:Program} {ops:Array Oper} {Q:Exit->Act->World->Prop} {i:Nat} {K:Act->World->Prop} {a:Act} {w:World} {o:Oper} {f:FuncId} {args:Array Value} {R:Ending->World->Prop} (hi:ops[i]? = some o) (hw:Region.wanted o (yielded ops a.tmps)=true) (hr:(execOp a.eval o).run P w=.ok (.enter f args) w) (h:Calls P f args w R)
  (hR:∀ e w',R e w'->∃ v,e=.returned v/\K (a.put o.dst v) w'):wpOp P ops Q i K a w:=by
 unfold wpOp;simp only [hi];rw [if_pos hw];refine Or.inl ?_
 unfold Oper.wp;rw [hr];refine h.mono fun e w' he=>?_
 obtain ⟨v,rfl,hk⟩:=hR e w' he;exact hk
theorem zHV {P:Program} {ops:Array Oper} {Q:Exit->Act->World->Prop} {i:Nat} {K:Act->World->Prop} {a:Act} {w w':World} {o:Oper} (hi:ops[i]? = some o) (hw:Region.wanted o (yielded ops a.tmps)=true) (hr:(execOp a.eval o).run P w=.ok .skip w') (h:K (a.put o.dst undef) w'):wpOp P ops Q i K a w:=by
 unfold wpOp;simp only [hi];rw [if_pos hw];refine Or.inl ?_
 unfold Oper.wp;rw [hr];exact h
end Go.Proofs.YtnihdlgfhhdhkaaGreatDoor
namespace Go.Proofs.YtnihdlgfhhdhkaaGreatDoor
open Go.ChangeShapes Go.WideShapes Go.ChangeAt Go.RowKit Go.Deep Go.Shelf
open Terms
set_option maxHeartbeats 6400000
set_option maxRecDepth 20000
attribute [local go_sem] Oper.semAt_some
def zFp (l:List (Int × Int)) (n k:Nat):Array Value:=#[.int .i64 ((n - 1 - k:Nat):Int),.agg #[.int .i64 (l.getD (n - 1 - k) (0,0)).1,.int .i64 (l.getD (n - 1 - k) (0,0)).2]]
set_option maxRecDepth 100000 in
theorem zOf (m:Nat) (L Bs n₀ b off n cap:Nat) (l:List (Int × Int)) (hnl:n=l.length) (h60:n <= 60) (hb:b < n₀) (J:Nat->World->Prop)
  (hY:∀ k W,k < n->J k W->YieldAt Fence.wide (m - 1) Tryz.prog L (zFp l n k) W fun e W'=>e=.returned (.bool true)/\J (k+1) W'/\zC3 n₀ Bs W W')
  (W:World) (hBs:W.cell? ⟨Bs,0,none⟩=some (.slice (some ⟨b,off,none⟩) n cap)) (hc:zAu W b off l) (h0:J 0 W) :
  CallsIn Fence.wide m Tryz.prog 81 #[.func (.yield L) #[] #[],.pointer (some ⟨Bs,0,none⟩)] W fun e W'=>(∃ v,e=.returned v)/\J n W':=by
 refine callsIn_of_wp Tryz.func81 rfl trivial ?_ rfl
 simp only [Tryz.ntmps81,List.size_toArray,List.length_cons,List.length_nil,Nat.reduceAdd,Nat.reduceSub,Array.replicate_succ,Array.replicate_zero,List.push_toArray,List.append_toArray,List.nil_append,List.cons_append];have HC:Hid (zAu W b off l):=hc;have HN:Hid (n=l.length):=hnl;clear hc hnl
 gi_wp2
 gi_loopw [3] (fun i wr=>∃ k:Nat,k <= n/\i=.int .i64 ((n:Int) - 1 - k)/\J k wr/\zC3 n₀ Bs W wr) (fun i _=>(intOf i+1).toNat)
 case atStart=>exact ⟨0,Nat.zero_le _,by first | rfl | simp,h0,Below.refl _ _,rfl⟩
 case round=>
  obtain ⟨k,hk,rfl,hJs,hnx,hbx⟩:=hrel;have hcb:wr.cell? ⟨Bs,0,none⟩=some (.slice (some ⟨b,off,none⟩) n cap):=(World.cell?_of_block (w:=W) hbx).trans hBs
  by_cases hlt:k < n
  ·obtain ⟨p,hp⟩:∃ p:Nat,p=n - 1 - k:=⟨_,rfl⟩
   have hpi:(n:Int) - 1 - k=(p:Int):=by omega
   have hpn:p < n:=by omega
   obtain ⟨c0,c1⟩:=(HC.out.below hnx hb) p (by rw [<- HN.out];exact hpn)
   obtain ⟨fn,tmps,assign,body,hy,hR⟩:=hY k wr hlt hJs;simp only [zFp,<- hp] at hy;rw [hpi];have HPI:Hid ((n:Int) - 1 - k=(p:Int)):=hpi;clear hp hpi;generalize l.getD p (0,0)=xy at c0 c1 hy;obtain ⟨x,y⟩:=xy;simp only at c0 c1 hy
   gi_wp2
   refine ⟨fun h=>by simp [Fence.wide] at h,hR.mono ?_⟩
   rintro e W3 ⟨rfl,hJ3,hk3,hk4⟩
   gi_wp2
   go_roundw
   case rel=>exact ⟨k+1,by omega,by have:=HPI.out;first | (congr 1;omega) | (simp;omega),hJ3,hnx.trans hk3,hk4.trans hbx⟩
   case measure=>have:=HPI.out;first | (simp [intOf];omega) | simp [intOf]
  ·obtain rfl:k=n:=by omega
   have hpi:(k:Int) - 1 - k=-1:=by omega
   rw [hpi]
   gi_wp2
   go_end0
   exact ⟨⟨_,rfl⟩,hJs⟩
def zM3 (B:Nat) (Kp:World->World->Prop) (J:World->Prop) (W:World):Exit->Act->World->Prop
 | .normal,_,W'=>KeepsFrom B W W'/\Kp W W'/\J W'
 | _,_,_=>False
theorem zNb {P:Program} {g:Operand} {ps:Array Tmp} {assign body:Code} {Q:Exit->Act->World->Prop} {a:Act} {w:World} {m gf N:Nat} {lb:Array Value}
  (hm:1 <= m) (hg:a.eval g=.func (.func gf) #[] lb) (eg:∀ args w,(callFunc gf args).run P w=.ok (.enter gf args) w) (arg:Nat->Array Value) (hps:∀ k,(arg k).size=ps.size) (Kp:World->World->Prop)
  (hseq:∀ (l:Nat) (J:Nat->World->Prop) (W:World),Below w.heap.size w W->(∀ k W1,k < N->J k W1->YieldAt Fence.wide (m - 1 - 1) P l (arg k) W1 fun e W'=>e=.returned (.bool true)/\J (k+1) W'/\Kp W1 W')->J 0 W->CallsIn Fence.wide (m - 1) P gf (#[.func (.yield l) #[] #[]]++lb) W fun e W'=>(∃ v,e=.returned v)/\J N W')
  (hKt:∀ {A B C:World},Kp A B->Kp B C->Kp A C) (hKb:∀ (W:World) (l:Nat) (o o':Obj),w.heap.size <= l->W.heap[l]? = some o->o.isCells=false->o.isWalk=false->Kp W (W.putObj l o'))
  (I:Nat->World->Prop) (hI:OwnFrom w.heap.size I) (h0:I 0 w) (Ax:Nat->Act->World->Prop) (hAx:∀ k a',OwnFrom w.heap.size (fun (_:Unit) W=>Ax k a' W))
  (hassign:∀ (l k:Nat) (W:World) (K:Act->World->Prop),k < N->I k W->(∀ a' W',KeepsFrom w.heap.size W W'->Kp W W'->I k W'->Ax k a' W'->K a' W')->
   assign.wpIn (Fence.wide.inRound l) (m - 1 - 1) P (Exit.then K (fun _ _ _=>False)) { tmps:=(ps.zip (arg k)).foldl (fun t (p,v)=>t.setIfInBounds p v) a.tmps,defers:=[]} W)
  (hbody:∀ (l k:Nat) (a':Act) (W:World),k < N->I k W->Ax k a' W->body.wpIn (Fence.wide.inRound l) (m - 1 - 1) P (zM3 w.heap.size Kp (I (k+1)) W) a' W)
  (hdone:∀ (D:Nat) (W:World),w.heap.size <= D->I N W->W.heap[D]? = some (.deferred (some []))->Q .normal { a with defers:={ target:=.collected D,args:=#[]}:: a.defers} W) :
  (Code.rangeFunc g ps assign body).wpIn Fence.wide m P Q a w:=by
 refine wpIn_rangeFunc ?_
 intro fn hfn;rw [show Fence.wide.round=none from rfl]
 obtain ⟨mk,hmk⟩:∃ mk:LoopState->Loop,mk=fun st=>{ state:=st,pending:=none,fn,tmps:=a.tmps,params:=ps,assign,body,defers:=w.heap.size}:=⟨_,rfl⟩
 obtain ⟨X,hX⟩:∃ X,X=(w.alloc (.deferred (some []))).alloc (.loop (mk .ready)):=⟨_,rfl⟩
 obtain ⟨R,hR⟩:∃ R,R=w.heap.size+1:=⟨_,rfl⟩
 have hXR:X.heap[R]? = some (.loop (mk .ready)):=by
  have:=World.alloc_heap_new (w.alloc (.deferred (some []))) (.loop (mk .ready));rw [World.size_alloc,<- hX,<- hR] at this;exact this
 have hXD:X.heap[w.heap.size]? = some (.deferred (some [])):=by
  rw [hX];exact (Below.heap_alloc _ _ _ (by simp)).trans (World.alloc_heap_new w _)
 have hXI:I 0 X:=by rw [hX];exact hI.alloc _ (hI.alloc _ h0)
 have hXB:Below w.heap.size w X:=by rw [hX];exact ((Below.refl _ w).alloc (Nat.le_refl _) _).alloc (by simp) _
 refine ⟨R,[{ target:=.collected w.heap.size,args:=#[]}],X,{ target:=.fn (.func gf) lb,args:=#[.func (.yield R) #[] #[]]},X,gf,#[.func (.yield R) #[] #[]]++lb,X,?_,?_,?_,?_,fun _=>hm,?_⟩
 ·rw [hX,hR,hmk];exact run_enterLoop_outer _ _ _ _ _
 ·simp only [resolve,hg]
  simp [go_sem]
 ·intro f' _;trivial
 ·simp [invoke,go_sem,eg]
 refine (hseq R (fun k W=>I k W/\W.heap[R]? = some (.loop (mk .ready))/\W.heap[w.heap.size]? = some (.deferred (some []))) X hXB ?_ ⟨hXI,hXR,hXD⟩).mono ?_
 ·rintro k W hkN ⟨hi,hl,hd⟩
  have hy:=run_yield (P:=P) (args:=arg k) hl (by rw [hmk];exact hps k)
  rw [hmk] at hy;refine ⟨fn,_,assign,body,hy,roundIn_of_wpIn hfn (hassign _ k W _ hkN hi ?_)⟩
  intro a' V hf hp hiV hax;have hlV:=hf.same _ _ (by omega) hl rfl
  have hdV:=hf.same _ _ (Nat.le_refl _) hd rfl;have hRV:R < V.heap.size:=(Array.getElem?_eq_some_iff.1 hlV).1
  refine ⟨_,run_beginRound hlV (by rw [hmk]),?_⟩
  obtain ⟨U,hU⟩:∃ U,U=V.putObj R (.loop { mk .ready with state:=.busy}):=⟨_,rfl⟩
  have hUR:U.heap[R]? = some (.loop { mk .ready with state:=.busy}):=by rw [hU];exact World.putObj_heap_same hRV
  have hUD:U.heap[w.heap.size]? = some (.deferred (some [])):=by rw [hU];exact (World.putObj_heap_other (by omega)).trans hdV
  have hUK:Kp V U:=by rw [hU];exact hKb _ _ _ _ (by omega) hlV rfl rfl
  have hUI:I k U:=by rw [hU];exact hI.putObj _ hiV (by omega) hlV rfl
  have hUA:Ax k a' U:=by rw [hU];exact (hAx k a').putObj (s:=()) _ hax (by omega) hlV rfl
  rw [<- hU];refine wpIn_mono (hbody _ k a' U hkN hUI hUA) ?_
  rintro e a3 Z hz
  cases e with
  | normal=>
   obtain ⟨hfZ,hpZ,hiZ⟩:=hz;have hlZ:=hfZ.same _ _ (by omega) hUR rfl
   have hdZ:=hfZ.same _ _ (Nat.le_refl _) hUD rfl;have hr:=run_endRound (P:=P) none hlZ;have hRZ:R < Z.heap.size:=(Array.getElem?_eq_some_iff.1 hlZ).1
   refine ⟨_,_,hr,rfl,⟨hI.putObj _ hiZ (by omega) hlZ rfl,?_,(World.putObj_heap_other (by omega)).trans hdZ⟩,hKt hp (hKt (hKt hUK hpZ) (hKb _ _ _ _ (by omega) hlZ rfl rfl))⟩
   rw [World.putObj_heap_same hRZ,hmk];rfl
  | _=>exact hz.elim
 ·rintro e W2 ⟨⟨v,rfl⟩,hi,hl,hd⟩
  exact ⟨none,_,by have:=run_endLoop (P:=P) hl (by rw [hmk];simp);rw [hmk] at this;exact this,hdone _ _ (Nat.le_refl _) (hI.putObj _ hi (by omega) hl rfl) ((World.putObj_heap_other (by omega)).trans hd)⟩
end Go.Proofs.YtnihdlgfhhdhkaaGreatDoor
namespace Go.Proofs.YtnihdlgfhhdhkaaGreatDoor
open Go.ChangeShapes Go.WideShapes Go.ChangeAt Go.RowKit Go.Deep Go.Shelf
open Terms
set_option maxHeartbeats 6400000
set_option maxRecDepth 20000
theorem zDb {w w':World} {base g cap k:Nat} {e:TypeId} {s n:Nat} {xs:List Value} (h:w.ownsRow base e s (.slice (some ⟨g,0,none⟩) n cap) k xs) (hh:w'.heap[g]? = w.heap[g]?):w'.ownsRow base e s (.slice (some ⟨g,0,none⟩) n cap) k xs:=by
 obtain ⟨h1,h2⟩:=h;refine ⟨h1,?_⟩
 rcases h2 with ⟨h2,_⟩ | ⟨g',cap',cur,hv,hg,hc,r⟩
 ·simp at h2
 ·have hgg:g=g':=by simp at hv;exact hv.1
  subst hgg;exact .inr ⟨g,cap',cur,hv,hg,hh.trans hc,r⟩
theorem Six.block {w w':World} {b:Nat} {x0 x1 x2 x3 x4 x5:Value} (h:Six w b x0 x1 x2 x3 x4 x5) (hh:w'.heap[b]? = w.heap[b]?) (hs:w.heap.size <= w'.heap.size):Six w' b x0 x1 x2 x3 x4 x5:=
 ⟨(World.cell?_of_block (w:=w) hh).trans h.k0,(World.frozen?_of_block (w:=w) hh).trans h.f0,(World.cell?_of_block (w:=w) hh).trans h.k1,(World.frozen?_of_block (w:=w) hh).trans h.f1,(World.cell?_of_block (w:=w) hh).trans h.k2,(World.frozen?_of_block (w:=w) hh).trans h.f2,(World.cell?_of_block (w:=w) hh).trans h.k3,(World.frozen?_of_block (w:=w) hh).trans h.f3,(World.cell?_of_block (w:=w) hh).trans h.k4,(World.frozen?_of_block (w:=w) hh).trans h.f4,(World.cell?_of_block (w:=w) hh).trans h.k5,(World.frozen?_of_block (w:=w) hh).trans h.f5,Nat.lt_of_lt_of_le h.hl hs⟩
theorem zHk {w:World} {b b' t t' n n':Nat} {f f':Nat->Value} (h:w.rowIs b t n f) (h':w.rowIs b' t' n' f') (ht:t≠t'):b≠b':=by
 rintro rfl
 obtain ⟨c,h1,_⟩:=h;obtain ⟨c',h2,_⟩:=h';rw [h1] at h2;simp at h2
 exact ht h2.2
theorem zI1 {w w':World} {b t n:Nat} {f:Nat->Value} {row:Option Nat} (h:w.rowIs b t n f) (hg:w.grownBy w' row) (hrow:∀ r,row=some r->∃ o:Obj,w.heap[r]? = some o/\o.isCells=false):w'.rowIs b t n f:=by
 obtain ⟨c,h1,h2⟩:=id h;exact h.of_block (grownBy_keeps_cells hg hrow h1 rfl)
theorem Six.chain {w:World} {b:Nat} {x0 x1 x2 x3 x4 x5:Value} (h:Six w b x0 x1 x2 x3 x4 x5) (u0 u1 u2 u3 u4 u5:Value):(((((((w.setCell ⟨b,0,none⟩ u0).setCell ⟨b,1,none⟩ u1).setCell ⟨b,2,none⟩ u2).setCell ⟨b,3,none⟩ u3).setCell ⟨b,4,none⟩ u4).setCell ⟨b,5,none⟩ u5)).cell? ⟨b,0,none⟩=some u0/\(((((((w.setCell ⟨b,0,none⟩ u0).setCell ⟨b,1,none⟩ u1).setCell ⟨b,2,none⟩ u2).setCell ⟨b,3,none⟩ u3).setCell ⟨b,4,none⟩ u4).setCell ⟨b,5,none⟩ u5)).cell? ⟨b,1,none⟩=some u1/\(((((((w.setCell ⟨b,0,none⟩ u0).setCell ⟨b,1,none⟩ u1).setCell ⟨b,2,none⟩ u2).setCell ⟨b,3,none⟩ u3).setCell ⟨b,4,none⟩ u4).setCell ⟨b,5,none⟩ u5)).cell? ⟨b,2,none⟩=some u2/\(((((((w.setCell ⟨b,0,none⟩ u0).setCell ⟨b,1,none⟩ u1).setCell ⟨b,2,none⟩ u2).setCell ⟨b,3,none⟩ u3).setCell ⟨b,4,none⟩ u4).setCell ⟨b,5,none⟩ u5)).cell? ⟨b,3,none⟩=some u3/\(((((((w.setCell ⟨b,0,none⟩ u0).setCell ⟨b,1,none⟩ u1).setCell ⟨b,2,none⟩ u2).setCell ⟨b,3,none⟩ u3).setCell ⟨b,4,none⟩ u4).setCell ⟨b,5,none⟩ u5)).cell? ⟨b,4,none⟩=some u4/\(((((((w.setCell ⟨b,0,none⟩ u0).setCell ⟨b,1,none⟩ u1).setCell ⟨b,2,none⟩ u2).setCell ⟨b,3,none⟩ u3).setCell ⟨b,4,none⟩ u4).setCell ⟨b,5,none⟩ u5)).cell? ⟨b,5,none⟩=some u5:=by
 obtain ⟨q0,q1,q2,q3,q4,q5⟩:=h.read u0 u1 u2 u3 u4 u5;have ho:∀ (X:World) (i j:Nat) (u:Value),i≠j->(X.setCell ⟨b,i,none⟩ u).cell? ⟨b,j,none⟩=X.cell? ⟨b,j,none⟩:=fun X i j u hij=>World.cell?_setCell_other _ _ _ _ (by intro e;injection e with _ e2;exact hij e2)
 refine ⟨?_,?_,?_,?_,?_,q5⟩
 ·rw [ho _ 5 0 _ (by decide),ho _ 4 0 _ (by decide),ho _ 3 0 _ (by decide),ho _ 2 0 _ (by decide),ho _ 1 0 _ (by decide)];exact q0
 ·rw [ho _ 5 1 _ (by decide),ho _ 4 1 _ (by decide),ho _ 3 1 _ (by decide),ho _ 2 1 _ (by decide)];exact q1
 ·rw [ho _ 5 2 _ (by decide),ho _ 4 2 _ (by decide),ho _ 3 2 _ (by decide)];exact q2
 ·rw [ho _ 5 3 _ (by decide),ho _ 4 3 _ (by decide)];exact q3
 ·rw [ho _ 5 4 _ (by decide)];exact q4
theorem zF1 (w:World) (b z:Nat) (hz:z≠b) (u0 u1 u2 u3 u4 u5:Value):(((((((w.setCell ⟨b,0,none⟩ u0).setCell ⟨b,1,none⟩ u1).setCell ⟨b,2,none⟩ u2).setCell ⟨b,3,none⟩ u3).setCell ⟨b,4,none⟩ u4).setCell ⟨b,5,none⟩ u5)).heap[z]? = w.heap[z]?:=by
 rw [Below.heap_setCell _ _ _ z hz,Below.heap_setCell _ _ _ z hz,Below.heap_setCell _ _ _ z hz,Below.heap_setCell _ _ _ z hz,Below.heap_setCell _ _ _ z hz,Below.heap_setCell _ _ _ z hz]
theorem zHg (w:World) (b z q:Nat) (hz:z≠b) (u0 u1 u2 u3 u4 u5:Value):(((((((w.setCell ⟨b,0,none⟩ u0).setCell ⟨b,1,none⟩ u1).setCell ⟨b,2,none⟩ u2).setCell ⟨b,3,none⟩ u3).setCell ⟨b,4,none⟩ u4).setCell ⟨b,5,none⟩ u5)).cell? ⟨z,q,none⟩=w.cell? ⟨z,q,none⟩:=by
 have h:=zF1 w b z hz u0 u1 u2 u3 u4 u5;simp only [World.cell?,h]
structure FiJ (w w3:World) (b off n cap B:Nat) (aao:Option Addr) (an ac m sn:Nat) (ls:List (List Bool)) (t:Tm) (TB CB ccap RB W0s:Nat) (k:Nat) (W:World):Prop where
 below:Below w3.heap.size w3 W
 tab:Six W TB (.slice (some ⟨b,off,none⟩) n cap) (.slice (some ⟨B,0,none⟩) n n) (.slice aao an ac) (.slice (some ⟨CB,0,none⟩) m ccap) (.int .i64 (sn:Int)) (.slice (some ⟨RB,0,none⟩) n n)
 lets:∃ us,W.ownsRow w3.heap.size 53 1 (.slice (some ⟨CB,0,none⟩) m ccap) us.length us/\zBG w us ls
 rows:∃ f,W.rowIs RB 53 n f/\∀ q,n - k <= q->q < n->∃ rb,f q=.slice (some ⟨rb,0,none⟩) m m/\W.rowIs rb 4 m (fun j=>.bool ((t.sub q).hb (sig ls sn) j))
 size:W0s <= W.heap.size
theorem FiJ.later {w w3:World} {b off n cap B:Nat} {aao:Option Addr} {an ac m sn:Nat} {ls:List (List Bool)} {t:Tm} {TB CB ccap RB W0s:Nat} {k:Nat} {W W':World} (h:FiJ w w3 b off n cap B aao an ac m sn ls t TB CB ccap RB W0s k W) (hb:Below W.heap.size W W'):FiJ w w3 b off n cap B aao an ac m sn ls t TB CB ccap RB W0s k W':=by
 obtain ⟨us,h1,h2⟩:=h.lets;obtain ⟨f,h3,h4⟩:=h.rows;refine ⟨h.below.trans (hb.mono h.below.size),h.tab.below hb h.tab.hl,⟨us,zAR h1 hb (Nat.le_refl _),h2⟩,⟨f,zAh h3 hb,fun q a b=>?_⟩,Nat.le_trans h.size hb.size⟩
 obtain ⟨rb,e1,e2⟩:=h4 q a b;exact ⟨rb,e1,zAh e2 hb⟩
theorem FiJ.kept {w w3:World} {b off n cap B:Nat} {aao:Option Addr} {an ac m sn:Nat} {ls:List (List Bool)} {t:Tm} {TB CB ccap RB W0s:Nat} {k base:Nat} {W W':World} {row:Option Nat} (h:FiJ w w3 b off n cap B aao an ac m sn ls t TB CB ccap RB W0s k W) (hg:W.grownBy W' row) (hr:∀ r,row=some r->base <= r/\∃ o:Obj,W.heap[r]? = some o/\o.isCells=false) (h3:w3.heap.size <= base) (hT:TB < base) (hC:CB < base) (hbW:base <= W.heap.size):FiJ w w3 b off n cap B aao an ac m sn ls t TB CB ccap RB W0s k W':=by
 have hb:Below base W W':=(Below.refl _ _).grown hg hbW (fun z e=>(hr z e).1)
 obtain ⟨us,h1,h2⟩:=h.lets;obtain ⟨f,h4,h5⟩:=h.rows;refine ⟨h.below.trans (hb.mono h3),h.tab.below hb hT,⟨us,zDb h1 (hb.block CB hC),h2⟩,⟨f,zI1 h4 hg (fun r e=>(hr r e).2),fun q a b=>?_⟩,Nat.le_trans h.size hb.size⟩
 obtain ⟨rb,e1,e2⟩:=h5 q a b;exact ⟨rb,e1,zI1 e2 hg (fun r e=>(hr r e).2)⟩
theorem FiJ.put {w w3:World} {b off n cap B:Nat} {aao:Option Addr} {an ac m sn:Nat} {ls:List (List Bool)} {t:Tm} {TB CB ccap RB W0s:Nat} {k rb:Nat} {W:World} (h:FiJ w w3 b off n cap B aao an ac m sn ls t TB CB ccap RB W0s k W) (hk:k < n) (hTR:TB≠RB) (hCR:CB≠RB) (hR3:w3.heap.size <= RB) (hrow:W.rowIs rb 4 m (fun j=>.bool ((t.sub (n - 1 - k)).hb (sig ls sn) j))):FiJ w w3 b off n cap B aao an ac m sn ls t TB CB ccap RB W0s (k+1) (W.setCell ⟨RB,n - 1 - k,none⟩ (.slice (some ⟨rb,0,none⟩) m m)):=by
 have hb:∀ z,z≠RB->(W.setCell ⟨RB,n - 1 - k,none⟩ (.slice (some ⟨rb,0,none⟩) m m)).heap[z]? = W.heap[z]?:=fun z hz=>Below.heap_setCell W _ _ z hz
 have hsz:(W.setCell ⟨RB,n - 1 - k,none⟩ (.slice (some ⟨rb,0,none⟩) m m)).heap.size=W.heap.size:=by simp
 obtain ⟨us,h1,h2⟩:=h.lets;obtain ⟨f,h4,h5⟩:=h.rows;refine ⟨h.below.setCell hR3 _,h.tab.block (hb TB hTR) (by omega),⟨us,zDb h1 (hb CB hCR),h2⟩,⟨_,h4.set (n - 1 - k) _,fun q a b=>?_⟩,by rw [hsz];exact h.size⟩
 by_cases hq:q=n - 1 - k
 ·subst hq
  exact ⟨rb,if_pos rfl,hrow.of_block (hb rb (zHk hrow h4 (by decide)))⟩
 ·obtain ⟨r,e1,e2⟩:=h5 q (by omega) b
  exact ⟨r,(if_neg hq).trans e1,e2.of_block (hb r (zHk e2 h4 (by decide)))⟩
theorem FiJ.start {w w3:World} {b off n cap B:Nat} {aao:Option Addr} {an ac m sn:Nat} {ls:List (List Bool)} {t:Tm} {TB CB ccap RB W0s:Nat} {Y:World} (hY:Below w3.heap.size w3 Y) (h6:Six Y TB (.slice none 0 0) (.slice none 0 0) (.slice none 0 0) (.slice none 0 0) (.int .i64 0) (.slice none 0 0)) (hlets:∃ us,Y.ownsRow w3.heap.size 53 1 (.slice (some ⟨CB,0,none⟩) m ccap) us.length us/\zBG w us ls) (hrow:Y.rowIs RB 53 n (fun _=>.slice none 0 0)) (h3:w3.heap.size <= TB) (hTR:TB≠RB) (hTC:TB≠CB) (hz:W0s <= Y.heap.size):FiJ w w3 b off n cap B aao an ac m sn ls t TB CB ccap RB W0s 0 (((((((Y.setCell ⟨TB,0,none⟩ (.slice (some ⟨b,off,none⟩) n cap)).setCell ⟨TB,1,none⟩ (.slice (some ⟨B,0,none⟩) n n)).setCell ⟨TB,2,none⟩ (.slice aao an ac)).setCell ⟨TB,3,none⟩ (.slice (some ⟨CB,0,none⟩) m ccap)).setCell ⟨TB,4,none⟩ (.int .i64 (sn:Int))).setCell ⟨TB,5,none⟩ (.slice (some ⟨RB,0,none⟩) n n))):=by
 have hb:∀ z,z≠TB->(((((((Y.setCell ⟨TB,0,none⟩ (.slice (some ⟨b,off,none⟩) n cap)).setCell ⟨TB,1,none⟩ (.slice (some ⟨B,0,none⟩) n n)).setCell ⟨TB,2,none⟩ (.slice aao an ac)).setCell ⟨TB,3,none⟩ (.slice (some ⟨CB,0,none⟩) m ccap)).setCell ⟨TB,4,none⟩ (.int .i64 (sn:Int))).setCell ⟨TB,5,none⟩ (.slice (some ⟨RB,0,none⟩) n n))).heap[z]? = Y.heap[z]?:=fun z hz=>by
  rw [Below.heap_setCell _ _ _ z hz,Below.heap_setCell _ _ _ z hz,Below.heap_setCell _ _ _ z hz,Below.heap_setCell _ _ _ z hz,Below.heap_setCell _ _ _ z hz,Below.heap_setCell _ _ _ z hz]
 have hf:∀ q,(((((((Y.setCell ⟨TB,0,none⟩ (.slice (some ⟨b,off,none⟩) n cap)).setCell ⟨TB,1,none⟩ (.slice (some ⟨B,0,none⟩) n n)).setCell ⟨TB,2,none⟩ (.slice aao an ac)).setCell ⟨TB,3,none⟩ (.slice (some ⟨CB,0,none⟩) m ccap)).setCell ⟨TB,4,none⟩ (.int .i64 (sn:Int))).setCell ⟨TB,5,none⟩ (.slice (some ⟨RB,0,none⟩) n n))).frozen? ⟨TB,q,none⟩=Y.frozen? ⟨TB,q,none⟩:=fun q=>by simp only [World.frozen?_setCell]
 have hsz:(((((((Y.setCell ⟨TB,0,none⟩ (.slice (some ⟨b,off,none⟩) n cap)).setCell ⟨TB,1,none⟩ (.slice (some ⟨B,0,none⟩) n n)).setCell ⟨TB,2,none⟩ (.slice aao an ac)).setCell ⟨TB,3,none⟩ (.slice (some ⟨CB,0,none⟩) m ccap)).setCell ⟨TB,4,none⟩ (.int .i64 (sn:Int))).setCell ⟨TB,5,none⟩ (.slice (some ⟨RB,0,none⟩) n n))).heap.size=Y.heap.size:=by simp
 obtain ⟨us,h1,h2⟩:=hlets;obtain ⟨q0,q1,q2,q3,q4,q5⟩:=h6.read (.slice (some ⟨b,off,none⟩) n cap) (.slice (some ⟨B,0,none⟩) n n) (.slice aao an ac) (.slice (some ⟨CB,0,none⟩) m ccap) (.int .i64 (sn:Int)) (.slice (some ⟨RB,0,none⟩) n n)
 have ho:∀ (X:World) (i j:Nat) (u:Value),i≠j->(X.setCell ⟨TB,i,none⟩ u).cell? ⟨TB,j,none⟩=X.cell? ⟨TB,j,none⟩:=fun X i j u hij=>World.cell?_setCell_other _ _ _ _ (by intro e;injection e with _ e2;exact hij e2)
 refine ⟨(((((hY.setCell h3 _).setCell h3 _).setCell h3 _).setCell h3 _).setCell h3 _).setCell h3 _,⟨?_,(hf 0).trans h6.f0,?_,(hf 1).trans h6.f1,?_,(hf 2).trans h6.f2,?_,(hf 3).trans h6.f3,?_,(hf 4).trans h6.f4,q5,(hf 5).trans h6.f5,by rw [hsz];exact h6.hl⟩,⟨us,zDb h1 (hb CB (Ne.symm hTC)),h2⟩,⟨_,hrow.of_block (hb RB (Ne.symm hTR)),fun q a b=>by omega⟩,by rw [hsz];exact hz⟩
 ·rw [ho _ 5 0 _ (by decide),ho _ 4 0 _ (by decide),ho _ 3 0 _ (by decide),ho _ 2 0 _ (by decide),ho _ 1 0 _ (by decide)];exact q0
 ·rw [ho _ 5 1 _ (by decide),ho _ 4 1 _ (by decide),ho _ 3 1 _ (by decide),ho _ 2 1 _ (by decide)];exact q1
 ·rw [ho _ 5 2 _ (by decide),ho _ 4 2 _ (by decide),ho _ 3 2 _ (by decide)];exact q2
 ·rw [ho _ 5 3 _ (by decide),ho _ 4 3 _ (by decide)];exact q3
 ·rw [ho _ 5 4 _ (by decide)];exact q4
end Go.Proofs.YtnihdlgfhhdhkaaGreatDoor
namespace Go.Proofs.YtnihdlgfhhdhkaaGreatDoor
open Go.ChangeShapes Go.WideShapes Go.ChangeAt Go.RowKit Go.Deep
open Terms
set_option maxHeartbeats 6400000
set_option maxRecDepth 20000
theorem zGl (v:Value) (l:List (Int × Int)) (props:Int) (w:World) (hB:0 < w.heap.size) (hT:zAJ w) (hV:zAX w v l) (hc:zAQ props l=0) :
  Calls Tryz.prog 37 #[v,.int .i64 props] w fun e w'=>∃ ao ac,e=.returned (.tuple #[.slice ao (zAA l).length ac,.int .i64 0])/\Below w.heap.size w w'/\Hid (w'.ownsRow w.heap.size 3 1 (.slice ao (zAA l).length ac) (zAA l).length (zAE (zAA l))):=by
 have hrd:Calls Tryz.prog 65 #[v,.int .i64 props] w fun e w'=>Below w.heap.size w w'/\∃ ao an ac bo bn bc co cc,e=.returned (.tuple #[.agg #[.slice ao an ac,.slice bo bn bc,.slice co (zAA l).length cc],.int .i64 0])/\Hid (w'.ownsRow w.heap.size 3 1 (.slice co (zAA l).length cc) (zAA l).length (zAE (zAA l))):=by
  refine (zFR v l props w hB hT hV).mono fun e w' ⟨h1,h2,h3⟩=>⟨h1,?_⟩
  obtain ⟨B,av,_,he,_,ho⟩:=h3 hc;obtain ⟨aa,ac,rfl⟩:=zAm ho;obtain ⟨ao,cap,rfl,_⟩:=hV;exact ⟨_,_,_,_,_,_,_,_,he,ho⟩
 obtain ⟨ao,cap,rfl,_⟩:=hV;generalize (zAA l).length=an at *;clear hT hc
 go_enter Tryz.func37,Tryz.ntmps37
 go_wp2_with (go_at_call 65;refine hrd.mono ?_;rintro e w1 ⟨hb1,ao,bn,ac,bo,bm,bc,co,cc,rfl,HI⟩)
 go_ret2
 exact ⟨_,_,rfl,by first | exact hb1 | exact hb1.alloc hb1.size _,by first | exact HI.out | exact HI.out.alloc _⟩
end Go.Proofs.YtnihdlgfhhdhkaaGreatDoor
namespace Go.Proofs.YtnihdlgfhhdhkaaGreatDoor
open Go.ChangeShapes Go.WideShapes Go.ChangeAt Go.RowKit Go.Deep Go.Shelf
open Terms
set_option maxHeartbeats 6400000
set_option maxRecDepth 20000
attribute [local go_sem] Oper.semAt_some
def zOD (p0 p6 p12:Value) (r:Nat->Value):Act:={ tmps:=#[p0,r 1,r 2,r 3,r 4,r 5,p6,r 7,r 8,r 9,r 10,r 11,p12,r 13,r 14,r 15,r 16,r 17,r 18,r 19,r 20,r 21,r 22,r 23,r 24,r 25,r 26,r 27,r 28,r 29,r 30,r 31,r 32,r 33,r 34,r 35,r 36,r 37,r 38,r 39,r 40,r 41,r 42,r 43,r 44,r 45,r 46,r 47,r 48,r 49,r 50,r 51,r 52,r 53,r 54,r 55,r 56,r 57,r 58,r 59,r 60,r 61,r 62,r 63,r 64,r 65,r 66,r 67,r 68,r 69,r 70,r 71,r 72,r 73,r 74,r 75,r 76,r 77,r 78,r 79,r 80],defers:=[]}
def zOH (w w3:World) (b off n cap B:Nat) (aao:Option Addr) (an ac m sn:Nat) (ls:List (List Bool)) (t:Tm) (a':Act) (Z:World):Prop:=
 ∃ TB CB ccap RB,(TB≠RB/\CB≠RB/\w3.heap.size <= TB/\w3.heap.size <= RB/\TB < Z.heap.size/\CB < Z.heap.size/\RB < Z.heap.size)/\FiJ w w3 b off n cap B aao an ac m sn ls t TB CB ccap RB 0 0 Z/\∃ r,a'=zOD (.slice (some ⟨b,off,none⟩) n cap) (.pointer (some ⟨w.heap.size+1,0,none⟩)) (.pointer (some ⟨TB,0,none⟩)) r
def zOC (p12 p13 p14:Value) (r:Nat->Value):Act:={ tmps:=#[r 0,r 1,r 2,r 3,r 4,r 5,r 6,r 7,r 8,r 9,r 10,r 11,p12,p13,p14,r 15,r 16,r 17,r 18,r 19,r 20,r 21,r 22,r 23,r 24,r 25,r 26,r 27,r 28,r 29,r 30,r 31,r 32,r 33,r 34,r 35,r 36,r 37,r 38,r 39,r 40,r 41,r 42,r 43,r 44,r 45,r 46,r 47,r 48,r 49,r 50,r 51,r 52,r 53,r 54,r 55,r 56,r 57,r 58,r 59,r 60,r 61,r 62,r 63,r 64,r 65,r 66,r 67,r 68,r 69,r 70,r 71,r 72,r 73,r 74,r 75,r 76,r 77,r 78,r 79,r 80],defers:=[]}
def zPu (l:List (Int × Int)) (n TB base:Nat) (k:Nat) (a':Act) (W:World):Prop:=∃ Bx,base <= Bx/\W.cell? ⟨Bx,0,none⟩=some (.int .i64 (l.getD (n - 1 - k) (0,0)).1)/\W.cell? ⟨Bx,1,none⟩=some (.int .i64 (l.getD (n - 1 - k) (0,0)).2)/\∃ r,a'=zOC (.pointer (some ⟨TB,0,none⟩)) (.int .i64 ((n - 1 - k:Nat):Int)) (.pointer (some ⟨Bx,0,none⟩)) r
def zHG (W:World) (n m RB:Nat) (aao:Option Addr) (an ac:Nat) (l:List (Int × Int)) (t:Tm) (σ:Nat->Nat->Bool):Prop:=zAI W (.slice aao an ac) (zAA l)/\RB < W.heap.size/\∀ q,q < n->∃ rb,W.cell? ⟨RB,q,none⟩=some (.slice (some ⟨rb,0,none⟩) m m)/\rb < W.heap.size/\∀ j,j < m->W.cell? ⟨rb,j,none⟩=some (.bool ((t.sub q).hb σ j))
def zGL (w:World) (b off n cap m sn:Nat) (l:List (Int × Int)) (t:Tm) (σ:Nat->Nat->Bool) (e:Ending) (w':World):Prop:=∃ B aao ac CB ccap RB,e=.returned (.tuple #[.agg #[.slice (some ⟨b,off,none⟩) n cap,.slice (some ⟨B,0,none⟩) n n,.slice aao (zAA l).length ac,.slice (some ⟨CB,0,none⟩) m ccap,.int .i64 (sn:Int),.slice (some ⟨RB,0,none⟩) n n],.int .i64 0])/\Below w.heap.size w w'/\zHG w' n m RB aao (zAA l).length ac l t σ
def fiQ (J:Act->World->Prop):Exit->Act->World->Prop
 | .normal,a,w=>J a w
 | _,_,_=>False
theorem zHC {p:Nat->Prop} {a:Nat} (h:p a):∀ i∈[a],p i:=fun i hi=>by
 have:i=a:=by simpa using hi
 rw [this];exact h
theorem zCe {P:Program} {md:Region.Mode} {ops:Array Oper} {Q:Exit->Act->World->Prop} {S:World->Prop} {i:Nat} {oi:Oper} {v:Value} {fuel:Nat} {listed:Array Bool} {a:Act} {w:World} (d:Option Tmp) (hi:ops[i]? = some oi) (hd:oi.dst=d)
  (hs:Region.noSelect ops=true) (hf:Region.free md ops listed i=true) (hr:(Region.ready md ops listed).contains i=true)
  (hQ:∀ c a w,Q (.panic c) (a.put oi.dst v) w->Q (.panic c) a w) (hy:YieldsIf P ops S oi v a) (hS:S w)
  (h:wpAnyH P md ops Q S fuel (listed.setIfInBounds i true) (a.put d v) w):wpAnyH P md ops Q S (fuel+1) listed a w:=wpAnyH_take hi hs hf hr hQ hy hS (hd ▸ h)
theorem zNz {ops:Array Oper} {Q:Exit->Act->World->Prop} {i:Nat} {K:Act->World->Prop} {a:Act} {w:World} {o:Oper} {f:FuncId} {args:Array Value} {m:Nat} {u v:Nat->Bool} (d:Option Tmp) (hi:ops[i]? = some o) (hd:o.dst=d) (hw:Region.wanted o (yielded ops a.tmps)=true) (hr:(execOp a.eval o).run Tryz.prog w=.ok (.enter f args) w) (h:Calls Tryz.prog f args w (zHN w m u v)) (hR:∀ g caps w',Below w.heap.size w w'->zKq w' (.func (.func g) #[] caps) m u v->K (a.put d (.func (.func g) #[] caps)) w'):wpOp Tryz.prog ops Q i K a w:=
 zFO hi hw hr h fun _ w' hx=>Exists.elim hx fun g hx=>Exists.elim hx fun caps hx=>⟨_,hx.1,hd ▸ hR g caps w' hx.2.1 hx.2.2⟩
theorem zN2 {P:Program} {ops:Array Oper} {Q:Exit->Act->World->Prop} {i:Nat} {K:Act->World->Prop} {a:Act} {w:World} {o:Oper} {f:FuncId} {args:Array Value} (d:Option Tmp) (v:Value) (R:World->Prop) (hi:ops[i]? = some o) (hd:o.dst=d) (hw:Region.wanted o (yielded ops a.tmps)=true) (hr:(execOp a.eval o).run P w=.ok (.enter f args) w) (h:Calls P f args w fun e w'=>e=.returned v/\R w') (hR:∀ w',R w'->K (a.put d v) w'):wpOp P ops Q i K a w:=
 zFO hi hw hr h fun _ w' hx=>⟨v,hx.1,hd ▸ hR w' hx.2⟩
theorem zMw {P:Program} {ops:Array Oper} {Q:Exit->Act->World->Prop} {i:Nat} {K:Act->World->Prop} {a:Act} {w:World} {o:Oper} (w':World) (hi:ops[i]? = some o) (hd:o.dst=none) (hw:Region.wanted o (yielded ops a.tmps)=true) (hr:(execOp a.eval o).run P w=.ok .skip w') (h:K a w'):wpOp P ops Q i K a w:=
 zHV hi hw hr (by rw [hd];exact h)
def fwD:List Nat:=[42,43,44,45,46,47,48,49,50,51,52,53,54,55,56,57,12]
def fwP (base:Nat) (w0:World) (ls:List (List Bool)) (m n:Nat) (s0 s1:Value) (cs:List Value):Nat->Value->World->Prop
 | 7,v,w=>∃ g,v=.slice (some ⟨g,0,none⟩) 2 2/\w.cell? ⟨g,0,none⟩=some s0/\w.cell? ⟨g,1,none⟩=some s1
 | 8,v,w=>∃ CB ccap,v=.slice (some ⟨CB,0,none⟩) m ccap/\∃ us,w.ownsRow base 53 1 (.slice (some ⟨CB,0,none⟩) m ccap) us.length us/\zBG w0 us ls
 | 14,v,w=>∃ RB,v=.slice (some ⟨RB,0,none⟩) n n/\w.rowIs RB 53 n (fun _=>.slice none 0 0)
 | 15,_,_=>True
 | 16,v,w=>∃ TB,v=.pointer (some ⟨TB,0,none⟩)/\Six w TB (.slice none 0 0) (.slice none 0 0) (.slice none 0 0) (.slice none 0 0) (.int .i64 0) (.slice none 0 0)
 | i,v,_=>v=cs.getD i undef
def fwN (i:Nat):Bool:=[8,14,16].contains i
def fwR (t0 t1 t2 t4:Value) (i:Nat) (q:Nat->Value) (v:Value):Prop:=i=15->v=.agg #[t0,t1,t2,q 50,t4,q 56]
theorem zKl {base:Nat} {w0:World} {ls:List (List Bool)} {m n:Nat} {s0 s1:Value} {cs:List Value} {i:Nat} {v:Value} {w w':World} (hi:i < 17) (h:fwP base w0 ls m n s0 s1 cs i v w) (hb:Below w.heap.size w w'):fwP base w0 ls m n s0 s1 cs i v w':=by
 have hcs:i=0\/i=1\/i=2\/i=3\/i=4\/i=5\/i=6\/i=7\/i=8\/i=9\/i=10\/i=11\/i=12\/i=13\/i=14\/i=15\/i=16:=by omega
 rcases hcs with rfl | rfl | rfl | rfl | rfl | rfl | rfl | rfl | rfl | rfl | rfl | rfl | rfl | rfl | rfl | rfl | rfl
 case inr.inr.inr.inr.inr.inr.inr.inl=>
  obtain ⟨g,e,c0,c1⟩:=h;exact ⟨g,e,(hb.cell (World.block_lt_of_cell? w _ c0)).trans c0,(hb.cell (World.block_lt_of_cell? w _ c1)).trans c1⟩
 case inr.inr.inr.inr.inr.inr.inr.inr.inl=>
  obtain ⟨CB,ccap,e,us,o1,o2⟩:=h;exact ⟨CB,ccap,e,us,zAR o1 hb (Nat.le_refl _),o2⟩
 case inr.inr.inr.inr.inr.inr.inr.inr.inr.inr.inr.inr.inr.inr.inl=>
  obtain ⟨RB,e,hr⟩:=h;exact ⟨RB,e,zAh hr hb⟩
 case inr.inr.inr.inr.inr.inr.inr.inr.inr.inr.inr.inr.inr.inr.inr.inr=>
  obtain ⟨TB,e,hs⟩:=h;exact ⟨TB,e,hs.below hb hs.hl⟩
 all_goals exact h
set_option maxRecDepth 100000 in
theorem zJy (b off cap n:Nat) (so lo:Option Addr) (sn sc ln lc:Nat) (l:List (Int × Int)) (ss ll:List (List Bool)) (props:Int) (t:Tm) (w:World) (hB:0 < w.heap.size) (hT:zAJ w) (hln:n=l.length) (hbl:b < w.heap.size) (hat:zAu w b off l) (hcap:n <= cap) (hsn:sn=ss.length) (hlln:ln=ll.length) (hS:zAN w (.slice so sn sc) ss) (hL:zAN w (.slice lo ln lc) ll) (hc:zAQ props l=0) (hd:zB0 props ss ll=0) (hwf:t.Wf) (hto:t.ops=l) :
  Calls Tryz.prog 28 #[.slice (some ⟨b,off,none⟩) n cap,.agg #[.slice so sn sc,.slice lo ln lc],.int .i64 props] w (zGL w b off n cap (sn+ln) sn l t (sig (ss++ll) sn)):=by
 have hV:zAX w (.slice (some ⟨b,off,none⟩) n cap) l:=by
  subst hln;exact ⟨_,cap,rfl,⟨hcap,fun h=>by simp at h⟩,fun _=>⟨b,off,rfl,hbl,hat⟩⟩
 obtain ⟨⟨hp0,hp6⟩,h12,h1,hl12,hlet⟩:=zDJ hd;have hA:Below w.heap.size w ((w.alloc (.cells #[.slice so sn sc,.slice lo ln lc] 52)).alloc (.cells #[.slice none 0 0,.slice none 0 0,.slice none 0 0,.slice none 0 0,.int .i64 0,.slice none 0 0] 91)):=((Below.refl _ _).alloc (Nat.le_refl _) _).alloc (by simp) _
 have hah:Calls Tryz.prog 37 #[.slice (some ⟨b,off,none⟩) n cap,.int .i64 props] ((w.alloc (.cells #[.slice so sn sc,.slice lo ln lc] 52)).alloc (.cells #[.slice none 0 0,.slice none 0 0,.slice none 0 0,.slice none 0 0,.int .i64 0,.slice none 0 0] 91)) fun e w'=>∃ aao ac,e=.returned (.tuple #[.slice aao (zAA l).length ac,.int .i64 0])/\Below w.heap.size w w'/\Below (w.heap.size+1+1) ((w.alloc (.cells #[.slice so sn sc,.slice lo ln lc] 52)).alloc (.cells #[.slice none 0 0,.slice none 0 0,.slice none 0 0,.slice none 0 0,.int .i64 0,.slice none 0 0] 91)) w'/\Hid (w'.ownsRow (w.heap.size+1+1) 3 1 (.slice aao (zAA l).length ac) (zAA l).length (zAE (zAA l))):=(zGl _ l props ((w.alloc (.cells #[.slice so sn sc,.slice lo ln lc] 52)).alloc (.cells #[.slice none 0 0,.slice none 0 0,.slice none 0 0,.slice none 0 0,.int .i64 0,.slice none 0 0] 91)) (Nat.lt_of_lt_of_le hB hA.size) (hT.below hA hB) (hV.below hA) hc).mono fun e w' ⟨aao,ac,h1,h2,h3⟩=>⟨aao,ac,h1,hA.trans (h2.mono hA.size),by simpa using h2,by have h:=h3.out;simp only [World.size_alloc] at h;exact h⟩
 have h6:=Six.new (w.alloc (.cells #[.slice so sn sc,.slice lo ln lc] 52)) (.slice none 0 0) (.slice none 0 0) (.slice none 0 0) (.slice none 0 0) (.int .i64 0) (.slice none 0 0) 91;have hch:=fun w1 (hb:Below w.heap.size w w1)=>zLV _ _ ss ll props w1 (by omega) (by omega) (hS.below hb) (hL.below hb)
 rw [hd] at hch;obtain ⟨_,_,hz,hlf,h6a⟩:=zAl hc;obtain ⟨hne,h60⟩:=zB7 hz;rw [List.length_map,<- hln] at h60;have hen:=fun w1 (hb:Below w.heap.size w w1)=>(zDn _ (l.map Prod.fst) w1 (Nat.lt_of_lt_of_le hB hb.size) (hT.below hb hB) (hV.below hb).kinds).mono fun e w' (hp:zEe (l.map Prod.fst) w1 e w')=>hp
 have hw0:((w.alloc (.cells #[.slice so sn sc,.slice lo ln lc] 52)).alloc (.cells #[.slice none 0 0,.slice none 0 0,.slice none 0 0,.slice none 0 0,.int .i64 0,.slice none 0 0] 91)).cell? ⟨w.heap.size,0,none⟩=some (.slice so sn sc):=by simp [go_sem]
 have hw1:((w.alloc (.cells #[.slice so sn sc,.slice lo ln lc] 52)).alloc (.cells #[.slice none 0 0,.slice none 0 0,.slice none 0 0,.slice none 0 0,.int .i64 0,.slice none 0 0] 91)).cell? ⟨w.heap.size,1,none⟩=some (.slice lo ln lc):=by simp [go_sem]
 simp only [World.size_alloc] at h6
 have hen2:∀ w1,Below w.heap.size w w1->Calls Tryz.prog 51 #[.slice (some ⟨b,off,none⟩) n cap] w1 fun e w'=>∃ B,e=.returned (.tuple #[.slice (some ⟨B,0,none⟩) n n,.int .i64 0])/\Below w1.heap.size w1 w'/\Hid (w'.rowIs B 3 n (fun q=>.int .i64 (zAa (l.map Prod.fst) q))):=fun w1 hb=>(hen w1 hb).mono fun e w' ⟨h1,_,h3⟩=>by
  obtain ⟨B,_,he,hr⟩:=h3 hz;rw [List.length_map,<- hln] at he hr;exact ⟨B,he,h1,hr⟩
 have hmk:=run_make_row' (P:=Tryz.prog) 50 53 (.slice none 0 0) 24 Tryz.underlying50 zDO rfl .i64 .i64 n (by omega) (by omega)
 obtain ⟨m,hm⟩:∃ m,m=sn+ln:=⟨_,rfl⟩
 have HQ:Hid (∀ e w' B aao ac CB ccap RB,e=.returned (.tuple #[.agg #[.slice (some ⟨b,off,none⟩) n cap,.slice (some ⟨B,0,none⟩) n n,.slice aao (zAA l).length ac,.slice (some ⟨CB,0,none⟩) (sn+ln) ccap,.int .i64 (sn:Int),.slice (some ⟨RB,0,none⟩) n n],.int .i64 0])->Below w.heap.size w w'->zHG w' n (sn+ln) RB aao (zAA l).length ac l t (sig (ss++ll) sn)->zGL w b off n cap (sn+ln) sn l t (sig (ss++ll) sn) e w'):=fun e w' B aao ac CB ccap RB h1 h2 h3=>⟨B,aao,ac,CB,ccap,RB,h1,h2,h3⟩
 rw [<- hm] at HQ ⊢;generalize zGL w b off n cap m sn l t (sig (ss++ll) sn)=PO at *;have HAn:Hid (∀ an,an=(zAA l).length->an=(zAA l).length):=fun _ h=>h
 obtain ⟨an,han⟩:∃ an,an=(zAA l).length:=⟨_,rfl⟩
 have HAN:Hid (an=(zAA l).length):=han;rw [<- han] at hah HQ h6a;clear han HAn;have HLN:Hid (n=l.length):=hln;have HC:Hid (zAQ props l=0):=hc;have HS:Hid (zAN w (.slice so sn sc) ss):=hS;have HL:Hid (zAN w (.slice lo ln lc) ll):=hL;have HAt:Hid (zAu w b off l):=hat;have HZ:Hid (zAD (l.map Prod.fst)=0):=hz
 have HLf:Hid (zBW props l=0):=hlf;have HLt:=(show Hid _ from hlet)
 have HSn:Hid (sn=ss.length):=hsn;have HLn:Hid (ln=ll.length):=hlln;have HM:Hid (m=sn+ln):=hm;have HTo:Hid (t.ops=l):=hto;have hmx:Tryz.prog.follows .mixedOrders=true:=by kernel_rfl
 have hsn12:sn <= 12:=by omega
 have hln1:1 <= ln:=by omega
 have hln12:ln <= 12:=by omega
 have hm24:m <= 24:=by omega
 have hsm:sn < m:=by omega
 clear hT hV hen hln hc hd hS hL hat hz hlf hlet hsn hlln hm hto hne;refine (callsIn_wide (n:=8)).1 ?_
 refine callsIn_of_wp_marks Tryz.func28 rfl trivial ?_ rfl
 simp only [Tryz.ntmps28,List.size_toArray,List.length_cons,List.length_nil,Nat.reduceAdd,Nat.reduceSub,Array.replicate_succ,Array.replicate_zero,List.push_toArray,List.append_toArray,List.nil_append,List.cons_append];refine wpIn_wide.2 ?_
 go_wp2_with (first | (go_at_call 37;refine hah.mono ?_;clear hah;rintro e w1 ⟨aao,ac,rfl,hbw1,hb1,HI⟩;have g6:=h6.below hb1 (by omega);have hc1:=hch w1 hbw1;have d0:=(hb1.cell (p:=⟨w.heap.size,0,none⟩) (by show w.heap.size < _;omega)).trans hw0;have d1:=(hb1.cell (p:=⟨w.heap.size,1,none⟩) (by show w.heap.size < _;omega)).trans hw1) | (go_at_call 50;refine hc1.mono ?_;clear hc1;rintro e w2 ⟨rfl,hb2⟩;have hbw2:=hbw1.trans (hb2.mono hbw1.size);have hen3:=hen2 w2 hbw2) | (go_at_call 51;refine hen3.mono ?_;clear hen3;rintro e w3 ⟨B,rfl,hb3,HR3⟩;have hbw3:=hbw2.trans (hb3.mono hbw2.size)))
 have HG6:Hid (Six w3 (w.heap.size+1) (.slice none 0 0) (.slice none 0 0) (.slice none 0 0) (.slice none 0 0) (.int .i64 0) (.slice none 0 0)):=(g6.below hb2 g6.hl).below hb3 (g6.below hb2 g6.hl).hl;have HI3:Hid (w3.ownsRow (w.heap.size+1+1) 3 1 (.slice aao an ac) an (zAE (zAA l))):=zAR (zAR HI.out hb2 (Nat.le_refl _)) hb3 (Nat.le_refl _);clear g6 HI
 have hwl1:w.heap.size < w1.heap.size:=by have:=hb1.size;simp at this;omega
 have hwl2:w.heap.size < w2.heap.size:=Nat.lt_of_lt_of_le hwl1 hb2.size;have hwl:w.heap.size < w3.heap.size:=Nat.lt_of_lt_of_le hwl2 hb3.size
 have HSv:Hid (∀ Y,Below w3.heap.size w3 Y->Y.cell? ⟨w.heap.size,0,none⟩=some (.slice so sn sc)/\Y.cell? ⟨w.heap.size,1,none⟩=some (.slice lo ln lc)):=fun Y hb=>⟨(hb.cell (p:=⟨w.heap.size,0,none⟩) hwl).trans ((hb3.cell (p:=⟨w.heap.size,0,none⟩) hwl2).trans ((hb2.cell (p:=⟨w.heap.size,0,none⟩) hwl1).trans d0)),(hb.cell (p:=⟨w.heap.size,1,none⟩) hwl).trans ((hb3.cell (p:=⟨w.heap.size,1,none⟩) hwl2).trans ((hb2.cell (p:=⟨w.heap.size,1,none⟩) hwl1).trans d1))⟩
 have HSx:Hid (∀ (Y:World) TB,w3.heap.size <= TB->∀ v0 v1 v2 v3 v4 v5,(Y.cell? ⟨w.heap.size,0,none⟩=some (.slice so sn sc)/\Y.cell? ⟨w.heap.size,1,none⟩=some (.slice lo ln lc))->(((((((Y.setCell ⟨TB,0,none⟩ (v0)).setCell ⟨TB,1,none⟩ (v1)).setCell ⟨TB,2,none⟩ (v2)).setCell ⟨TB,3,none⟩ (v3)).setCell ⟨TB,4,none⟩ (v4)).setCell ⟨TB,5,none⟩ (v5))).cell? ⟨w.heap.size,0,none⟩=some (.slice so sn sc)/\(((((((Y.setCell ⟨TB,0,none⟩ (v0)).setCell ⟨TB,1,none⟩ (v1)).setCell ⟨TB,2,none⟩ (v2)).setCell ⟨TB,3,none⟩ (v3)).setCell ⟨TB,4,none⟩ (v4)).setCell ⟨TB,5,none⟩ (v5))).cell? ⟨w.heap.size,1,none⟩=some (.slice lo ln lc)):=fun Y TB h v0 v1 v2 v3 v4 v5 hY=>⟨(zHg Y TB w.heap.size 0 (by omega) v0 v1 v2 v3 v4 v5).trans hY.1,(zHg Y TB w.heap.size 1 (by omega) v0 v1 v2 v3 v4 v5).trans hY.2⟩
 clear hch hen2 hw0 hw1 h6;refine Code.wp_mono (Q:=fiQ (zOH w w3 b off n cap B aao an ac m sn (ss++ll) t)) ?cont ?reg
 case reg=>
  generalize ha0:Act.mk _ _=a0;have hsz:a0.tmps.size=81:=by rw [<- ha0];rfl
  have a0':a0.eval (.tmp 0)=.slice (some ⟨b,off,none⟩) n cap:=by rw [<- ha0];rfl
  have a4:a0.eval (.tmp 4)=.pointer (some ⟨w.heap.size,0,none⟩):=by rw [<- ha0];rfl
  have a8:a0.eval (.tmp 8)=.slice aao an ac:=by rw [<- ha0];rfl
  have a11:a0.eval (.tmp 11)=.slice (some ⟨B,0,none⟩) n n:=by rw [<- ha0];rfl
  refine zLW hmx fwD 17 (fwP w3.heap.size w (ss++ll) m n (.slice so sn sc) (.slice lo ln lc) [.slice (some ⟨b,off,none⟩) n cap,.slice (some ⟨B,0,none⟩) n n,.slice aao an ac,.pointer (some ⟨w.heap.size,0,none⟩),.slice so sn sc,.pointer (some ⟨w.heap.size,1,none⟩),.slice lo ln lc,undef,undef,.pointer (some ⟨w.heap.size,0,none⟩),.slice so sn sc,.int .i64 (sn:Int),.slice (some ⟨b,off,none⟩) n cap,.int .i64 (n:Int)]) fwN (fwR (.slice (some ⟨b,off,none⟩) n cap) (.slice (some ⟨B,0,none⟩) n n) (.slice aao an ac) (.int .i64 (sn:Int))) (by rw [hsz];rfl) ?_ (fun i v w w' hi h hb=>zKl hi h hb) ?_ ?_
  ·intro i q v t u hi hk hr h15
   subst h15;rw [hr rfl,zCu (hk 8 50 (by rfl) (by rfl)),zCu (hk 14 56 (by rfl) (by rfl))]
  ·intro i o hi ho q w' hb hq
   have hbw:Below w'.heap.size w' w':=Below.refl _ _;have f:∀ t,fwD.contains t=true->t < 81->(frm a0 fwD q).eval (.tmp t)=q t:=fun t h1 h2=>zL6 h1 (by rw [hsz];exact h2)
   have e0:=(zFm (a:=a0) (ds:=fwD) (q:=q) (t:=0) rfl).trans a0';have e4:=(zFm (a:=a0) (ds:=fwD) (q:=q) (t:=4) rfl).trans a4;have e8:=(zFm (a:=a0) (ds:=fwD) (q:=q) (t:=8) rfl).trans a8;have e11:=(zFm (a:=a0) (ds:=fwD) (q:=q) (t:=11) rfl).trans a11;obtain ⟨q0,q1⟩:=HSv.out w' hb
   have hcs:i=0\/i=1\/i=2\/i=3\/i=4\/i=5\/i=6\/i=7\/i=8\/i=9\/i=10\/i=11\/i=12\/i=13\/i=14\/i=15\/i=16:=by omega
   rcases hcs with rfl | rfl | rfl | rfl | rfl | rfl | rfl | rfl | rfl | rfl | rfl | rfl | rfl | rfl | rfl | rfl | rfl
   all_goals obtain rfl:=Option.some.inj ho
   ·refine zBg (w':=w') (v:=.slice (some ⟨b,off,none⟩) n cap) ?_ hbw ⟨rfl,(fun h=>absurd h (by decide)),fun b h _=>nomatch h⟩
    generalize (frm a0 fwD q).eval=ev at *;simp [execOp,e0,go_sem]
   ·refine zBg (w':=w') (v:=.slice (some ⟨B,0,none⟩) n n) ?_ hbw ⟨rfl,(fun h=>absurd h (by decide)),fun b h _=>nomatch h⟩
    generalize (frm a0 fwD q).eval=ev at *;simp [execOp,e11,go_sem]
   ·refine zBg (w':=w') (v:=.slice aao an ac) ?_ hbw ⟨rfl,(fun h=>absurd h (by decide)),fun b h _=>nomatch h⟩
    generalize (frm a0 fwD q).eval=ev at *;simp [execOp,e8,go_sem]
   ·refine zBg (w':=w') (v:=.pointer (some ⟨w.heap.size,0,none⟩)) ?_ hbw ⟨rfl,(fun h=>absurd h (by decide)),fun b h _=>nomatch h⟩
    generalize (frm a0 fwD q).eval=ev at *;simp [execOp,e4,go_sem]
   ·refine zBg (w':=w') (v:=.slice so sn sc) ?_ hbw ⟨rfl,(fun h=>absurd h (by decide)),fun b h _=>nomatch h⟩
    have x:=(f 45 rfl (by decide)).trans (hq 3 45 (by rfl) (by rfl))
    generalize (frm a0 fwD q).eval=ev at *;simp [execOp,x,go_sem,q0]
   ·refine zBg (w':=w') (v:=.pointer (some ⟨w.heap.size,1,none⟩)) ?_ hbw ⟨rfl,(fun h=>absurd h (by decide)),fun b h _=>nomatch h⟩
    generalize (frm a0 fwD q).eval=ev at *;simp [execOp,e4,go_sem]
   ·refine zBg (w':=w') (v:=.slice lo ln lc) ?_ hbw ⟨rfl,(fun h=>absurd h (by decide)),fun b h _=>nomatch h⟩
    have x:=(f 47 rfl (by decide)).trans (hq 5 47 (by rfl) (by rfl))
    generalize (frm a0 fwD q).eval=ev at *;simp [execOp,x,go_sem,q1]
   ·have x1:=(f 46 rfl (by decide)).trans (hq 4 46 (by rfl) (by rfl))
    have x2:=(f 48 rfl (by decide)).trans (hq 6 48 (by rfl) (by rfl))
    refine zBg (w':=w'.alloc (.cells #[.slice so sn sc,.slice lo ln lc] 50)) (v:=.slice (some ⟨w'.heap.size,0,none⟩) 2 2) ?_ (hbw.alloc (Nat.le_refl _) _) ⟨⟨w'.heap.size,rfl,by simp [go_sem],by simp [go_sem]⟩,(fun h=>absurd h (by decide)),fun b h _=>nomatch h⟩
    generalize (frm a0 fwD q).eval=ev at *;simp [execOp,x1,x2,go_sem]
   ·obtain ⟨g,y,c0,c1⟩:=hq 7 49 (by rfl) (by rfl)
    have x:=(f 49 rfl (by decide)).trans y
    have hco:=zGf g _ _ ss ll w w' (hbw3.trans (hb.mono hbw3.size)) h12 hl12 h1 HS.out HL.out c0 c1;rw [<- HSn.out,<- HLn.out,<- HM.out] at hco;refine zOk (f:=52) (args:=#[.slice (some ⟨g,0,none⟩) 2 2]) ?_ (hco.mono fun e w2 ⟨CB,ccap,e1,hb2,hX⟩=>⟨_,e1,hb2,?_,(fun h=>absurd h (by decide)),fun b' _ hb'=>?_⟩)
    ·have evf:∀ n,(frm a0 fwD q).eval (.func n)=.func (.func n) #[] #[]:=fun n=>rfl
     generalize (frm a0 fwD q).eval=ev at *;simp [execOp,x,evf,go_sem]
    ·obtain ⟨us,o1,o2⟩:=hX.out
     exact ⟨CB,ccap,rfl,us,zAy o1 hb.size,o2⟩
    ·obtain ⟨us,o1,o2⟩:=hX.out
     obtain rfl:CB=b':=by simpa [blk] using hb'
     exact o1.lt CB rfl
   ·refine zBg (w':=w') (v:=.pointer (some ⟨w.heap.size,0,none⟩)) ?_ hbw ⟨rfl,(fun h=>absurd h (by decide)),fun b h _=>nomatch h⟩
    generalize (frm a0 fwD q).eval=ev at *;simp [execOp,e4,go_sem]
   ·refine zBg (w':=w') (v:=.slice so sn sc) ?_ hbw ⟨rfl,(fun h=>absurd h (by decide)),fun b h _=>nomatch h⟩
    have x:=(f 51 rfl (by decide)).trans (hq 9 51 (by rfl) (by rfl))
    generalize (frm a0 fwD q).eval=ev at *;simp [execOp,x,go_sem,q0]
   ·refine zBg (w':=w') (v:=.int .i64 (sn:Int)) ?_ hbw ⟨rfl,(fun h=>absurd h (by decide)),fun b h _=>nomatch h⟩
    have x:=(f 52 rfl (by decide)).trans (hq 10 52 (by rfl) (by rfl))
    generalize (frm a0 fwD q).eval=ev at *;simp [execOp,x,go_sem]
   ·refine zBg (w':=w') (v:=.slice (some ⟨b,off,none⟩) n cap) ?_ hbw ⟨rfl,(fun h=>absurd h (by decide)),fun b h _=>nomatch h⟩
    generalize (frm a0 fwD q).eval=ev at *;simp [execOp,e0,go_sem]
   ·refine zBg (w':=w') (v:=.int .i64 (n:Int)) ?_ hbw ⟨rfl,(fun h=>absurd h (by decide)),fun b h _=>nomatch h⟩
    have x:=(f 54 rfl (by decide)).trans (hq 12 54 (by rfl) (by rfl))
    generalize (frm a0 fwD q).eval=ev at *;simp [execOp,x,go_sem]
   ·have x:=(f 55 rfl (by decide)).trans (hq 13 55 (by rfl) (by rfl))
    refine zBg (w':=w'.alloc (.cells (madeCells #[.slice none 0 0] n) 53)) (v:=.slice (some ⟨w'.heap.size,0,none⟩) n n) ?_ (hbw.alloc (Nat.le_refl _) _) ⟨⟨w'.heap.size,rfl,World.rowIs_made _ _ _ _⟩,(fun h=>absurd h (by decide)),fun b' _ hb'=>?_⟩
    ·generalize (frm a0 fwD q).eval=ev at *
     simp [execOp,x,go_sem,hmk]
    ·obtain rfl:w'.heap.size=b':=by simpa [blk] using hb'
     simp
   ·obtain ⟨CB,ccap,y1,_⟩:=hq 8 50 (by rfl) (by rfl)
    obtain ⟨RB,y2,_⟩:=hq 14 56 (by rfl) (by rfl)
    have x0:=(f 42 rfl (by decide)).trans (hq 0 42 (by rfl) (by rfl))
    have x1:=(f 43 rfl (by decide)).trans (hq 1 43 (by rfl) (by rfl))
    have x2:=(f 44 rfl (by decide)).trans (hq 2 44 (by rfl) (by rfl))
    have x3:=(f 50 rfl (by decide)).trans y1
    have x4:=(f 53 rfl (by decide)).trans (hq 11 53 (by rfl) (by rfl))
    have x5:=(f 56 rfl (by decide)).trans y2
    refine zBg (w':=w') (v:=.agg #[.slice (some ⟨b,off,none⟩) n cap,.slice (some ⟨B,0,none⟩) n n,.slice aao an ac,q 50,.int .i64 (sn:Int),q 56]) ?_ hbw ⟨trivial,(fun _=>rfl),fun b h _=>nomatch h⟩
    rw [y1,y2];generalize (frm a0 fwD q).eval=ev at *;simp [execOp,x0,x1,x2,x3,x4,x5,go_sem]
   ·refine zBg (w':=w'.alloc (.cells #[.slice none 0 0,.slice none 0 0,.slice none 0 0,.slice none 0 0,.int .i64 0,.slice none 0 0] 91)) (v:=.pointer (some ⟨w'.heap.size,0,none⟩)) ?_ (hbw.alloc (Nat.le_refl _) _) ⟨⟨w'.heap.size,rfl,Six.new _ _ _ _ _ _ _ _⟩,(fun h=>absurd h (by decide)),fun b' _ hb'=>?_⟩
    ·generalize (frm a0 fwD q).eval=ev
     kernel_rfl
    ·obtain rfl:w'.heap.size=b':=by simpa [blk] using hb'
     simp
  ·intro q w' hb hp hl2 hown hdis
   have f:∀ t,fwD.contains t=true->t < 81->(frm a0 fwD q).eval (.tmp t)=q t:=fun t h1 h2=>zL6 h1 (by rw [hsz];exact h2)
   obtain ⟨CB,ccap,y1,us,o1,o2⟩:=hp 8 50 (by decide) (by rfl)
   obtain ⟨RB,y2,hrow⟩:=hp 14 56 (by decide) (by rfl)
   obtain ⟨TB,y3,six⟩:=hp 16 12 (by decide) (by rfl)
   have e57:=hl2 15 57 (by decide) (by rfl) rfl
   rw [y1,y2] at e57;have k1:blk (q 50)=some CB:=by rw [y1];rfl
   have k2:blk (q 56)=some RB:=by rw [y2];rfl
   have k3:blk (q 12)=some TB:=by rw [y3];rfl
   have u1:TB≠RB:=fun e=>hdis 16 14 12 56 TB (by decide) (by decide) (by decide) rfl rfl rfl rfl k3 (by rw [k2,e])
   have u2:CB≠RB:=fun e=>hdis 8 14 50 56 CB (by decide) (by decide) (by decide) rfl rfl rfl rfl k1 (by rw [k2,e])
   have u0:TB≠CB:=fun e=>hdis 16 8 12 50 TB (by decide) (by decide) (by decide) rfl rfl rfl rfl k3 (by rw [k1,e])
   have v1:=hown 8 50 CB (by decide) rfl rfl k1
   have v2:=hown 14 56 RB (by decide) rfl rfl k2
   have v3:=hown 16 12 TB (by decide) rfl rfl k3
   have k0:=six.k0;have f0:=six.f0;have k1:=six.k1;have f1:=six.f1;have k2:=six.k2;have f2:=six.f2;have k3:=six.k3;have f3:=six.f3;have k4:=six.k4;have f4:=six.f4;have k5:=six.k5;have f5:=six.f5
   show wpOps Tryz.prog _ _ [17] _ _
   rw [wpOps_cons];refine zPF rfl rfl ?_
   have x12:=(f 12 rfl (by decide)).trans y3
   have x57:=(f 57 rfl (by decide)).trans e57
   refine zOQ (w':=((((((w'.setCell ⟨TB,0,none⟩ (.slice (some ⟨b,off,none⟩) n cap)).setCell ⟨TB,1,none⟩ (.slice (some ⟨B,0,none⟩) n n)).setCell ⟨TB,2,none⟩ (.slice aao an ac)).setCell ⟨TB,3,none⟩ (.slice (some ⟨CB,0,none⟩) m ccap)).setCell ⟨TB,4,none⟩ (.int .i64 (sn:Int))).setCell ⟨TB,5,none⟩ (.slice (some ⟨RB,0,none⟩) n n))) rfl ?_ ?_
   ·generalize (frm a0 fwD q).eval=ev at *
    simp [execOp,x12,x57,go_sem,k0,k1,k2,k3,k4,k5,f0,f1,f2,f3,f4,f5]
   ·refine ⟨TB,CB,ccap,RB,⟨u1,u2,v3.1,v2.1,by simp only [World.size_setCell];exact v3.2,by simp only [World.size_setCell];exact v1.2,by simp only [World.size_setCell];exact v2.2⟩,FiJ.start hb six ⟨us,o1,o2⟩ hrow v3.1 u1 u0 (Nat.zero_le _),fun i=>(frm a0 fwD q).eval (.tmp i),?_⟩
    rw [<- y3,<- ha0];rfl
 case cont=>
  intro e a' Z h
  cases e with
  | normal=>
   obtain ⟨TB,CB,ccap,RB,⟨t1,t2,t3,t4,t5,t6,t7⟩,HJ0,r,rfl⟩:=(show zOH w w3 b off n cap B aao an ac m sn (ss++ll) t a' Z from h)
   have HJ:Hid (FiJ w w3 b off n cap B aao an ac m sn (ss++ll) t TB CB ccap RB 0 0 Z):=HJ0;clear h HJ0;unfold zOD;have hbk:=fun x y z w1=>callsIn_wide.1 (zKP Fence.wide 8 trivial rfl x y z w1)
   go_wp2_with (go_at_call 53;refine (hbk _ _ _ _).mono ?_;rintro e w4 ⟨rfl,hw4⟩)
   rw [<- hw4];have hb4:Below Z.heap.size Z w4:=by rw [hw4];exact (Below.refl _ _).alloc (Nat.le_refl _) _
   have hz4:w4.heap.size=Z.heap.size+1:=by rw [hw4];simp
   have hc4:w4.cell? ⟨Z.heap.size,0,none⟩=some (.slice (some ⟨b,off,none⟩) n cap):=by rw [hw4];simp [go_sem]
   have HJ4:Hid (FiJ w w3 b off n cap B aao an ac m sn (ss++ll) t TB CB ccap RB w4.heap.size 0 w4):=by
    have h:=HJ.out.later hb4;exact ⟨h.below,h.tab,h.lets,h.rows,Nat.le_refl _⟩
   have hbw4:Below w.heap.size w w4:=hbw3.trans (HJ4.out.below.mono hbw3.size);have HO4:Hid (zAu w4 b off l):=HAt.out.below hbw4 hbl;have hz3:=HJ4.out.below.size;clear hw4 hbk;refine wpIn_wide (n:=8).1 ?_
   refine zNb (m:=8) (N:=n) (by decide) rfl (enters_of Tryz.func81 (by kernel_rfl) rfl) (zFp l n) (fun _=>rfl) (zC3 w.heap.size Z.heap.size)
    (fun L J W hW hY h0=>zOf 7 L Z.heap.size w.heap.size b off n cap l HLN.out h60 hbl J hY W ((hW.cell (p:=⟨Z.heap.size,0,none⟩) (by show Z.heap.size < _;omega)).trans hc4) (HO4.out.below hW (Nat.lt_of_lt_of_le hbl hbw4.size)) h0)
    zJv (zJ4 (by have:=hbw4.size;omega) (by omega))
    (FiJ w w3 b off n cap B aao an ac m sn (ss++ll) t TB CB ccap RB w4.heap.size)
    (fun s A Bw row hs hg hr=>hs.kept hg hr hz3 (by omega) (by omega) hs.size) HJ4.out
    (zPu l n TB w4.heap.size) (fun k a' _ X Y row hs hg hr=>by obtain ⟨Bx,h1,h2,h3,h4⟩:=hs;exact ⟨Bx,h1,cell_kept h2 hg (fun r e=>(hr r e).2),cell_kept h3 hg (fun r e=>(hr r e).2),h4⟩)
    ?assign ?body ?done
   case assign=>
    rintro L k W K hk hi hK
    unfold zFp
    gi_wp2
    refine hK _ _ ?ka ?kb ?kc ?kd
    case ka=>exact (KeepsOthers.alloc _ _).from _
    case kb=>exact ⟨(Below.refl _ W).alloc (by have:=hbw4.size;have:=hi.size;omega) _,Below.heap_alloc _ _ _ (by have:=hi.size;omega)⟩
    case kc=>exact hi.later ((Below.refl W.heap.size W).alloc (Nat.le_refl _) _)
    case kd=>exact ⟨W.heap.size,hi.size,by simp [go_sem],by simp [go_sem],fun i=>List.getD [_,_,_,_,_,_,_,_,_,_,_,_,undef,undef,undef,_,_,_,_,_,_,_,_,_,_,_,_,_,_,_,_,_,_,_,_,_,_,_,_,_,_,_,_,_,_,_,_,_,_,_,_,_,_,_,_,_,_,_,_,_,_,_,_,_,_,_,_,_,_,_,_,_,_,_,_,_,_,_,_,_,_] i undef,rfl⟩
   case body=>
    rintro L k a' W hk hi ⟨Bx,hBx,cx0,cx1,r',rfl⟩
    obtain ⟨p,hp⟩:∃ p,p=n - 1 - k:=⟨_,rfl⟩
    have hpn:p < n:=by omega
    have HI2:Hid (FiJ w w3 b off n cap B aao an ac m sn (ss++ll) t TB CB ccap RB w4.heap.size k W):=hi;rw [<- hp] at cx0 cx1;have hop:=t.op_at (q:=p) (by rw [<- t.ops_length,HTo.out,<- HLN.out];exact hpn) (0,0)
    rw [HTo.out] at hop;rw [hop] at cx0 cx1;simp only at cx0 cx1
    have HSix:Hid (∀ Y,Below W.heap.size W Y->Y.cell? ⟨TB,0,none⟩=some (.slice (some ⟨b,off,none⟩) n cap)/\Y.cell? ⟨TB,1,none⟩=some (.slice (some ⟨B,0,none⟩) n n)/\Y.cell? ⟨TB,2,none⟩=some (.slice aao an ac)/\Y.cell? ⟨TB,3,none⟩=some (.slice (some ⟨CB,0,none⟩) m ccap)/\Y.cell? ⟨TB,4,none⟩=some (.int .i64 (sn:Int))/\Y.cell? ⟨TB,5,none⟩=some (.slice (some ⟨RB,0,none⟩) n n)):=fun Y hb=>by
     have h:=(HI2.out.later hb).tab;exact ⟨h.k0,h.k1,h.k2,h.k3,h.k4,h.k5⟩
    obtain ⟨rv,HRo⟩:∃ rv:World->Value,Hid (∀ Y,Below W.heap.size W Y->Y.cell? ⟨RB,p,none⟩=some (rv Y)/\Y.frozen? ⟨RB,p,none⟩=false):=⟨fun Y=>(Y.cell? ⟨RB,p,none⟩).getD undef,fun Y hb=>by
     obtain ⟨f,h1,_⟩:=(HI2.out.later hb).rows
     exact ⟨by show _=some ((Y.cell? ⟨RB,p,none⟩).getD undef);rw [h1.cell hpn];rfl,h1.frozen p⟩⟩
    have HSt:Hid (∀ V u,Below W.heap.size W V->(V.setCell ⟨RB,p,none⟩ u).cell? ⟨TB,0,none⟩=some (.slice (some ⟨b,off,none⟩) n cap)/\(V.setCell ⟨RB,p,none⟩ u).cell? ⟨TB,1,none⟩=some (.slice (some ⟨B,0,none⟩) n n)/\(V.setCell ⟨RB,p,none⟩ u).cell? ⟨TB,2,none⟩=some (.slice aao an ac)/\(V.setCell ⟨RB,p,none⟩ u).cell? ⟨TB,3,none⟩=some (.slice (some ⟨CB,0,none⟩) m ccap)/\(V.setCell ⟨RB,p,none⟩ u).cell? ⟨TB,4,none⟩=some (.int .i64 (sn:Int))/\(V.setCell ⟨RB,p,none⟩ u).cell? ⟨TB,5,none⟩=some (.slice (some ⟨RB,0,none⟩) n n)):=fun V u hb=>by
     have h:=(HI2.out.later hb).tab;have hc:∀ q,(V.setCell ⟨RB,p,none⟩ u).cell? ⟨TB,q,none⟩=V.cell? ⟨TB,q,none⟩:=fun q=>World.cell?_of_block (w:=V) (Below.heap_setCell V _ _ TB t1)
     exact ⟨(hc 0).trans h.k0,(hc 1).trans h.k1,(hc 2).trans h.k2,(hc 3).trans h.k3,(hc 4).trans h.k4,(hc 5).trans h.k5⟩
    have HLaw:Hid (∀ Y,Below W.heap.size W Y->Calls Tryz.prog 55 #[.agg #[.slice (some ⟨b,off,none⟩) n cap,.slice (some ⟨B,0,none⟩) n n,.slice aao an ac,.slice (some ⟨CB,0,none⟩) m ccap,.int .i64 (sn:Int),.slice (some ⟨RB,0,none⟩) n n],.int .i64 (p:Int)] Y (zHN Y m ((t.sub p).uT (sig (ss++ll) sn)) ((t.sub p).vT (sig (ss++ll) sn)))):=fun Y hb=>by
     have h:=HI2.out.later hb;have hwY:=hbw3.trans (h.below.mono hbw3.size);refine zPA b off n cap B aao an ac CB m ccap sn RB p l (ss++ll) t props Y hwf HTo.out HLN.out.symm (HAt.out.below hwY hbl) hpn (fun q hq=>zGv HLf.out q (by rw [<- HLN.out];exact hq)) HLt.out ?_
     obtain ⟨us,o1,o2⟩:=h.lets;obtain ⟨f,h1,h2⟩:=h.rows;have hrB:=HR3.out.of_block (h.below.block B HR3.out.lt);refine ⟨fun j hj=>hrB.cell hj,zCp o1 (o2.below hwY),fun q a1 a2=>?_,hrB.lt,h1.lt,by rw [List.length_append,<- HSn.out,<- HLn.out,<- HM.out],h60,hm24,hsm⟩
     obtain ⟨rb,e1,e2⟩:=h2 q (by omega) a2
     exact ⟨rb,0,m,by rw [h1.cell a2,e1],e2.lt,fun j hj=>by rw [Nat.zero_add];exact e2.cell hj⟩
    have HEnd:Hid (∀ V1 V2,Below W.heap.size W V1->Below W.heap.size W V2->Below V1.heap.size V1 V2->∀ D,Hid (V2.rowIs (V1.heap.size+1) 4 m (fun j=>.bool (stp ((t.sub p).uT (sig (ss++ll) sn)) ((t.sub p).vT (sig (ss++ll) sn)) (stp ((t.sub p).uT (sig (ss++ll) sn)) ((t.sub p).vT (sig (ss++ll) sn)) D (m - sn) sn) (m - j) j)))->Hid (D=Tm.dT (t.sub p).kind)->KeepsFrom w4.heap.size W (V2.setCell ⟨RB,p,none⟩ (.slice (some ⟨V1.heap.size+1,0,none⟩) m m))/\zC3 w.heap.size Z.heap.size W (V2.setCell ⟨RB,p,none⟩ (.slice (some ⟨V1.heap.size+1,0,none⟩) m m))/\FiJ w w3 b off n cap B aao an ac m sn (ss++ll) t TB CB ccap RB w4.heap.size (k+1) (V2.setCell ⟨RB,p,none⟩ (.slice (some ⟨V1.heap.size+1,0,none⟩) m m))):=fun V1 V2 c1 c2 c3 D hrow hD=>by
     have hls:(ss++ll).length=m:=by rw [List.length_append,<- HSn.out,<- HLn.out,<- HM.out]
     have hper:=zKB (ls:=ss++ll) (s:=sn) (by rw [hls];exact hsm)
     rw [hls] at hper
     have hr2:V2.rowIs (V1.heap.size+1) 4 m (fun j=>.bool ((t.sub p).hb (sig (ss++ll) sn) j)):=hrow.out.congr fun j hj=>by
      rw [hD.out,zMj hsm (fun i hi=>Tm.uT_per hper _ hi) (fun i hi=>Tm.vT_per hper _ hi) (Nat.le_of_lt hj),<- Tm.hb_unt _ (Tm.sub_wf hwf p)]
     have hWz:=HI2.out.size;have hw4:=hbw4.size;refine ⟨(KeepsFrom.trans ⟨c2.size,fun k _ _ hk _=>(c2.block k (Array.getElem?_eq_some_iff.1 hk).1).trans hk⟩ ((KeepsOthers.setCell _ _ _).from _)),⟨(c2.mono (by omega)).setCell (by show w.heap.size <= RB;omega) _,(Below.heap_setCell V2 _ _ Z.heap.size (by show Z.heap.size≠RB;omega)).trans (c2.block _ (by omega))⟩,?_⟩
     have hput:=(HI2.out.later c2).put (rb:=V1.heap.size+1) hk t1 t2 t4 (by rw [<- hp];exact hr2)
     rw [<- hp] at hput;exact hput
    have hp0:(0:Int) <= (p:Int):=Int.natCast_nonneg _;have hpI:(p:Int) < (n:Int):=by omega
    unfold zOC;rw [<- hp];clear HJ HJ4 HO4 hi hop hp;generalize (t.sub p).kind=kx at *;generalize (t.sub p).val=vx at *
    have hK:∃ lb:Bool,Hid (lb=Tm.dT kx)/\((kx=18/\lb=true)\/(kx=16/\lb=true)\/(kx≠18/\kx≠16/\lb=false)):=by
     by_cases h18:kx=18
     ·exact ⟨true,by show _=_;rw [h18];rfl,.inl ⟨h18,rfl⟩⟩
     ·by_cases h16:kx=16
      ·exact ⟨true,by show _=_;rw [h16];rfl,.inr (.inl ⟨h16,rfl⟩)⟩
      ·exact ⟨false,by show _=_;simp [Tm.dT,h18,h16],.inr (.inr ⟨h18,h16,rfl⟩)⟩
    obtain ⟨lb,HD,hK⟩:=hK
    rcases hK with ⟨rfl,hlb⟩ | ⟨rfl,hlb⟩ | ⟨h18,h16,hlb⟩
    all_goals
     have HLb:=(show Hid (lb=_) from hlb)
     clear hlb
     gi_wp2
     refine zFQ (fun Y=>Y.cell? ⟨TB,0,none⟩=some (.slice (some ⟨b,off,none⟩) n cap)/\Y.cell? ⟨TB,1,none⟩=some (.slice (some ⟨B,0,none⟩) n n)/\Y.cell? ⟨TB,2,none⟩=some (.slice aao an ac)/\Y.cell? ⟨TB,3,none⟩=some (.slice (some ⟨CB,0,none⟩) m ccap)/\Y.cell? ⟨TB,4,none⟩=some (.int .i64 (sn:Int))/\Y.cell? ⟨TB,5,none⟩=some (.slice (some ⟨RB,0,none⟩) n n)) hmx ?nd ?nl ?_
     case nd=>
      intro i o ho c;have hi:i < 11:=(Array.getElem?_eq_some_iff.1 ho).1
      have hc:i=0\/i=1\/i=2\/i=3\/i=4\/i=5\/i=6\/i=7\/i=8\/i=9\/i=10:=by omega
      rcases hc with rfl | rfl | rfl | rfl | rfl | rfl | rfl | rfl | rfl | rfl | rfl <;> (obtain rfl:=Option.some.inj ho;exact fun h=>by cases h)
     case nl=>exact fun ⟨_,_,h⟩=>h
     have hS2:=HSix.out W.drew (Below.refl _ _).drew;refine zCe (i:=0) (v:=.pointer (some ⟨TB,5,none⟩)) (some 70) rfl (by rfl) (by kernel_rfl) (by kernel_rfl) (by kernel_rfl) (fun _ _ _ h=>h) (Or.inl ⟨by rfl,fun wq hSw=>by obtain ⟨q0,q1,q2,q3,q4,q5⟩:=hSw;go_simp⟩) hS2 ?_
     simp only [Act.put,List.setIfInBounds_toArray,List.set_cons_succ,List.set_cons_zero];refine zCe (i:=1) (v:=.slice (some ⟨RB,0,none⟩) n n) (some 71) rfl (by rfl) (by kernel_rfl) (by kernel_rfl) (by kernel_rfl) (fun _ _ _ h=>h) (Or.inl ⟨by rfl,fun wq hSw=>by obtain ⟨q0,q1,q2,q3,q4,q5⟩:=hSw;go_simp⟩) hS2 ?_
     simp only [Act.put,List.setIfInBounds_toArray,List.set_cons_succ,List.set_cons_zero];refine zCe (i:=2) (v:=.int .i64 (p:Int)) (some 72) rfl (by rfl) (by kernel_rfl) (by kernel_rfl) (by kernel_rfl) (fun _ _ _ h=>h) (Or.inl ⟨by rfl,fun wq hSw=>by obtain ⟨q0,q1,q2,q3,q4,q5⟩:=hSw;go_simp⟩) hS2 ?_
     simp only [Act.put,List.setIfInBounds_toArray,List.set_cons_succ,List.set_cons_zero]
     refine zCe (i:=3) (v:=.agg #[.slice (some ⟨b,off,none⟩) n cap,.slice (some ⟨B,0,none⟩) n n,.slice aao an ac,.slice (some ⟨CB,0,none⟩) m ccap,.int .i64 (sn:Int),.slice (some ⟨RB,0,none⟩) n n]) (some 73) rfl (by rfl) (by kernel_rfl) (by kernel_rfl) (by kernel_rfl) (fun _ _ _ h=>h) (Or.inl ⟨by rfl,fun wq hSw=>by obtain ⟨q0,q1,q2,q3,q4,q5⟩:=hSw;go_simp⟩) hS2 ?_
     simp only [Act.put,List.setIfInBounds_toArray,List.set_cons_succ,List.set_cons_zero]
     first | (refine zCe (i:=4) (v:=.bool true) (some 74) rfl (by rfl) (by kernel_rfl) (by kernel_rfl) (by kernel_rfl) (fun _ _ _ h=>h) (Or.inl ⟨by rfl,?hx⟩) hS2 ?_;(case hx=>(intro wq hSw;obtain ⟨q0,q1,q2,q3,q4,q5⟩:=hSw;go_simp;done))) | (refine zCe (i:=4) (v:=.bool false) (some 74) rfl (by rfl) (by kernel_rfl) (by kernel_rfl) (by kernel_rfl) (fun _ _ _ h=>h) (Or.inl ⟨by rfl,?hx⟩) hS2 ?_;(case hx=>(intro wq hSw;obtain ⟨q0,q1,q2,q3,q4,q5⟩:=hSw;go_simp;done)))
     simp only [Act.put,List.setIfInBounds_toArray,List.set_cons_succ,List.set_cons_zero]
     refine zCe (i:=5) (v:=.agg #[.slice (some ⟨b,off,none⟩) n cap,.slice (some ⟨B,0,none⟩) n n,.slice aao an ac,.slice (some ⟨CB,0,none⟩) m ccap,.int .i64 (sn:Int),.slice (some ⟨RB,0,none⟩) n n]) (some 75) rfl (by rfl) (by kernel_rfl) (by kernel_rfl) (by kernel_rfl) (fun _ _ _ h=>h) (Or.inl ⟨by rfl,fun wq hSw=>by obtain ⟨q0,q1,q2,q3,q4,q5⟩:=hSw;go_simp⟩) hS2 ?_
     simp only [Act.put,List.setIfInBounds_toArray,List.set_cons_succ,List.set_cons_zero];refine zCe (i:=6) (v:=.int .i64 (p:Int)) (some 76) rfl (by rfl) (by kernel_rfl) (by kernel_rfl) (by kernel_rfl) (fun _ _ _ h=>h) (Or.inl ⟨by rfl,fun wq hSw=>by obtain ⟨q0,q1,q2,q3,q4,q5⟩:=hSw;go_simp⟩) hS2 ?_
     simp only [Act.put,List.setIfInBounds_toArray,List.set_cons_succ,List.set_cons_zero];refine wpAnyH_all (rs:=[7]) (by kernel_rfl) (by decide) ?_
     refine zHC ?_
     refine zNz (some 77) rfl (by rfl) (by rfl) (by go_simp) (HLaw.out W.drew (Below.refl _ _).drew) ?_
     intro f caps V1 s1 hF;have b1:Below W.heap.size W V1:=(Below.refl _ _).drew.trans s1;refine And.intro (HSix.out V1 b1) ?_
     simp only [Act.put,List.setIfInBounds_toArray,List.set_cons_succ,List.set_cons_zero];have hse:=zKZ b off n cap B aao an ac CB m ccap sn RB lb f caps _ _ V1 hm24 hsm hF;rw [HLb.out] at hse;refine wpAnyH_all (rs:=[8]) (by kernel_rfl) (by decide) ?_
     refine zHC ?_
     refine zN2 (some 78) _ _ rfl (by rfl) (by rfl) (by go_simp) hse ?_
     intro V2 hV2;have s2:=hV2.1;have HRow:=hV2.2;clear hse;have b2:Below W.heap.size W V2:=b1.trans (s2.mono b1.size);refine And.intro (HSix.out V2 b2) ?_
     simp only [Act.put,List.setIfInBounds_toArray,List.set_cons_succ,List.set_cons_zero];refine zCe (i:=9) (v:=.pointer (some ⟨RB,p,none⟩)) (some 79) rfl (by rfl) (by kernel_rfl) (by kernel_rfl) (by kernel_rfl) (fun _ _ _ h=>h) (Or.inl ⟨by rfl,fun wq hSw=>by obtain ⟨q0,q1,q2,q3,q4,q5⟩:=hSw;go_simp⟩) (HSix.out V2 b2) ?_
     simp only [Act.put,List.setIfInBounds_toArray,List.set_cons_succ,List.set_cons_zero];have hcr:=(HRo.out V2 b2).1;have hfr:=(HRo.out V2 b2).2;refine wpAnyH_all (rs:=[10]) (by kernel_rfl) (by decide) ?_
     refine zHC ?_
     refine zMw (V2.setCell ⟨RB,p,none⟩ (.slice (some ⟨V1.heap.size+1,0,none⟩) m m)) rfl (by rfl) (by rfl) (by go_simp) (And.intro (HSt.out V2 _ b2) ?_)
     refine wpAnyH_done (by kernel_rfl) ?_ _
     exact HEnd.out V1 V2 b1 b2 s2 _ HRow (show Hid (_=_) from HLb.out.symm.trans HD.out)
   case done=>
    rintro D W hD hi hK
    have g7:=HG6.out.below hi.below HG6.out.hl;have k0:=hi.tab.k0;have j0:=g7.k0;have f0:=g7.f0;have k1:=hi.tab.k1;have j1:=g7.k1;have f1:=g7.f1;have k2:=hi.tab.k2;have j2:=g7.k2;have f2:=g7.f2;have k3:=hi.tab.k3;have j3:=g7.k3;have f3:=g7.f3;have k4:=hi.tab.k4;have j4:=g7.k4;have f4:=g7.f4;have k5:=hi.tab.k5;have j5:=g7.k5
    have f5:=g7.f5;have hDs:w3.heap.size <= D:=by omega
    obtain ⟨V,hV⟩:∃ V,V=((((((W.setCell ⟨w.heap.size+1,0,none⟩ (.slice (some ⟨b,off,none⟩) n cap)).setCell ⟨w.heap.size+1,1,none⟩ (.slice (some ⟨B,0,none⟩) n n)).setCell ⟨w.heap.size+1,2,none⟩ (.slice aao an ac)).setCell ⟨w.heap.size+1,3,none⟩ (.slice (some ⟨CB,0,none⟩) m ccap)).setCell ⟨w.heap.size+1,4,none⟩ (.int .i64 (sn:Int))).setCell ⟨w.heap.size+1,5,none⟩ (.slice (some ⟨RB,0,none⟩) n n)):=⟨_,rfl⟩
    have hVb:∀ z,z≠w.heap.size+1->V.heap[z]? = W.heap[z]?:=fun z hz=>by rw [hV];exact zF1 W _ z hz _ _ _ _ _ _
    have hVz:V.heap.size=W.heap.size:=by rw [hV];simp
    have hDne:D≠w.heap.size+1:=by have:=HG6.out.hl;omega
    have hVD:V.heap[D]? = some (.deferred (some [])):=(hVb D hDne).trans hK;obtain ⟨U,hU⟩:∃ U,U=V.putObj D (.deferred none):=⟨_,rfl⟩
    have hUb:∀ z,z≠w.heap.size+1->z≠D->U.heap[z]? = W.heap[z]?:=fun z hz hzD=>by rw [hU];exact (World.putObj_heap_other hzD).trans (hVb z hz)
    have hUz:U.heap.size=W.heap.size:=by rw [hU,<- hVz];simp [World.putObj]
    have hUq:∀ i,U.cell? ⟨w.heap.size+1,i,none⟩=V.cell? ⟨w.heap.size+1,i,none⟩:=fun i=>World.cell?_of_block (w:=V) (by rw [hU];exact World.putObj_heap_other (Ne.symm hDne))
    obtain ⟨c0,c1,c2,c3,c4,c5⟩:=g7.chain (.slice (some ⟨b,off,none⟩) n cap) (.slice (some ⟨B,0,none⟩) n n) (.slice aao an ac) (.slice (some ⟨CB,0,none⟩) m ccap) (.int .i64 (sn:Int)) (.slice (some ⟨RB,0,none⟩) n n);rw [<- hV] at c0 c1 c2 c3 c4 c5;have e0:=(hUq 0).trans c0;have e1:=(hUq 1).trans c1;have e2:=(hUq 2).trans c2;have e3:=(hUq 3).trans c3
    have e4:=(hUq 4).trans c4;have e5:=(hUq 5).trans c5;have hbW:Below w.heap.size w W:=hbw3.trans (hi.below.mono hbw3.size)
    have HFin:Hid (Below w.heap.size w U/\zHG U n m RB aao an ac l t (sig (ss++ll) sn)):=by
     have hres:=HG6.out.hl;refine ⟨?_,?_,by rw [hUz];have:=hi.size;omega,fun q hq=>?_⟩
     ·rw [hU]
      have hv0:Below w.heap.size w V:=by
       rw [hV];exact (((((hbW.setCell (Nat.le_succ w.heap.size) _).setCell (Nat.le_succ w.heap.size) _).setCell (Nat.le_succ w.heap.size) _).setCell (Nat.le_succ w.heap.size) _).setCell (Nat.le_succ w.heap.size) _).setCell (Nat.le_succ w.heap.size) _
      exact hv0.trans (belowK_b (w:=w3) (by omega) V D _ _ hDs hVD rfl rfl)
     ·have hown:U.ownsRow (w.heap.size+1+1) 3 1 (.slice aao an ac) an (zAE (zAA l)):=by
       obtain ⟨o1,o2⟩:=HI3.out;refine ⟨o1,?_⟩
       rcases o2 with o2 | ⟨g,cap',cur,hv,hg,hh,r⟩
       ·exact .inl o2
       ·have hgl:=(Array.getElem?_eq_some_iff.1 hh).1
        exact .inr ⟨g,cap',cur,hv,hg,(hUb g (by omega) (by omega)).trans ((hi.below.block g hgl).trans hh),r⟩
      rw [HAN.out] at hown ⊢;exact zA4 hown
     ·obtain ⟨f,h1,h2⟩:=hi.rows
      obtain ⟨rb,g1,g2⟩:=h2 q (by omega) hq
      have hne:∀ z ty k f,W.rowIs z ty k f->z≠D:=fun z ty k f hr=>by
       rintro rfl
       obtain ⟨cc,hh,_⟩:=hr;rw [hK] at hh;cases hh
      have hn1:RB≠w.heap.size+1:=by omega
      have hn2:rb≠w.heap.size+1:=by
       rintro rfl
       obtain ⟨cc,hh,hs1,hc1⟩:=g2;have:=j0;simp only [World.cell?,hh] at this;have hm0:0 < m:=by omega
       rw [hc1 0 hm0] at this
       cases this
      have r1:=h1.of_block (hUb RB hn1 (hne _ _ _ _ h1));have r2:=g2.of_block (hUb rb hn2 (hne _ _ _ _ g2));exact ⟨rb,by rw [r1.cell hq,g1],r2.lt,fun j hj=>r2.cell hj⟩
    clear HJ HJ4 HO4
    go_wp2_with fail
    rw [<- hV];refine ⟨by simp,.inl ⟨_,_,rfl,run_takeDeferred hVD,?_⟩⟩
    rw [<- hU];refine ⟨.tuple #[.agg #[.slice (some ⟨b,off,none⟩) n cap,.slice (some ⟨B,0,none⟩) n n,.slice aao an ac,.slice (some ⟨CB,0,none⟩) m ccap,.int .i64 (sn:Int),.slice (some ⟨RB,0,none⟩) n n],.int .i64 0],?_,HQ.out _ U B aao ac CB ccap RB rfl HFin.out.1 HFin.out.2⟩
    simp [results,Tryz.results28,go_sem,e0,e1,e2,e3,e4,e5]
  | _=>exact h.elim
end Go.Proofs.YtnihdlgfhhdhkaaGreatDoor
namespace Go.Proofs.YtnihdlgfhhdhkaaGreatDoor
open Go.ChangeShapes Go.WideShapes Go.ChangeAt Go.RowKit Go.Deep
open Terms
set_option maxHeartbeats 6400000
set_option maxRecDepth 20000
def zDy (props:Int) (l:List (Int × Int)) (ss ll:List (List Bool)):Int:=if zAQ props l≠0 then zAQ props l else zB0 props ss ll
theorem zEG {props:Int} {l:List (Int × Int)} {ss ll:List (List Bool)} (h:zDy props l ss ll=0):zAQ props l=0/\zB0 props ss ll=0:=by
 unfold zDy at h
 split at h
 ·rename_i h1;exact absurd h h1
 ·rename_i h1;exact ⟨by simpa using h1,h⟩
def zNc (W:World) (rb m:Nat) (h:Nat->Bool):Prop:=rb < W.heap.size/\∀ j,j < m->W.cell? ⟨rb,j,none⟩=some (.bool (h j))
theorem zLD (v sv lv:Value) (l:List (Int × Int)) (ss ll:List (List Bool)) (props:Int) (t:Tm) (w:World) (hB:0 < w.heap.size) (hT:zAJ w) (hV:zAX w v l) (hS:zAN w sv ss) (hL:zAN w lv ll) (hc:zDy props l ss ll=0) (hwf:t.Wf) (hto:t.ops=l) :
  Calls Tryz.prog 45 #[v,.agg #[sv,lv],.int .i64 props] w fun e w'=>∃ rb,e=.returned (.tuple #[.slice (some ⟨rb,0,none⟩) (ss.length+ll.length) (ss.length+ll.length),.int .i64 0])/\Below w.heap.size w w'/\Hid (zNc w' rb (ss.length+ll.length) (t.hb (sig (ss++ll) ss.length))):=by
 obtain ⟨hc1,hc2⟩:=zEG hc;obtain ⟨_,_,hz,_,_⟩:=zAl hc1;obtain ⟨hne,h60⟩:=zB7 hz;obtain ⟨_,h12,h1,hl12,_⟩:=zDJ hc2;rw [List.length_map] at h60;obtain ⟨so,sc,rfl⟩:=hS.shape;obtain ⟨lo,lc,rfl⟩:=hL.shape;obtain ⟨vo,vc,rfl,⟨hcap,_⟩,hvv⟩:=id hV;obtain ⟨b,off,rfl,hbl,hat⟩:=hvv (by rintro rfl;exact hne rfl)
 have hl0:0 < l.length:=by
  cases l with
  | nil=>exact absurd rfl hne
  | cons _ _=>simp
 have hfi:∀ w0,Below w.heap.size w w0->Calls Tryz.prog 28 #[.slice (some ⟨b,off,none⟩) l.length vc,.agg #[.slice so ss.length sc,.slice lo ll.length lc],.int .i64 props] w0 fun e w'=>∃ B aao ac CB ccap RB rb,e=.returned (.tuple #[.agg #[.slice (some ⟨b,off,none⟩) l.length vc,.slice (some ⟨B,0,none⟩) l.length l.length,.slice aao (zAA l).length ac,.slice (some ⟨CB,0,none⟩) (ss.length+ll.length) ccap,.int .i64 (ss.length:Int),.slice (some ⟨RB,0,none⟩) l.length l.length],.int .i64 0])/\Below w.heap.size w w'/\RB < w'.heap.size/\w'.cell? ⟨RB,0,none⟩=some (.slice (some ⟨rb,0,none⟩) (ss.length+ll.length) (ss.length+ll.length))/\Hid (zNc w' rb (ss.length+ll.length) (t.hb (sig (ss++ll) ss.length))):=fun w0 hb=>(zJy b off vc l.length so lo ss.length sc ll.length lc l ss ll props t w0 (Nat.lt_of_lt_of_le hB hb.size) (hT.below hb hB) rfl (Nat.lt_of_lt_of_le hbl hb.size) (hat.below hb hbl) hcap rfl rfl (hS.below hb) (hL.below hb) hc1 hc2 hwf hto).mono fun e w' ⟨B,aao,ac,CB,ccap,RB,h1,h2,h3,h4,h5⟩=>by
  obtain ⟨rb,e1,e2,e3⟩:=h5 0 hl0;rw [Tm.sub_zero] at e3;exact ⟨B,aao,ac,CB,ccap,RB,rb,h1,hb.trans (h2.mono hb.size),h4,e1,e2,e3⟩
 have hf1:=fun o=>hfi (w.alloc o) ((Below.refl _ _).alloc (Nat.le_refl _) o)
 have hln0:(0:Int) < (l.length:Int):=by omega
 generalize t.hb (sig (ss++ll) ss.length)=hh at *;generalize (zAA l).length=an at *;generalize ss.length=sn at *;generalize ll.length=ln at *;generalize l.length=n at *;clear hT hV hS hL hc hc1 hc2 hz hne hvv hat hto hfi
 go_enter Tryz.func45,Tryz.ntmps45
 go_wp2_with (go_at_call 28;refine (hf1 _).mono ?_;rintro e w1 ⟨B,aao,ac,CB,ccap,RB,rb,rfl,hb1,hRl,hcr,HR⟩;have hcr2:=(fun o=>((((Below.refl w1.heap.size w1).alloc (Nat.le_refl _) o).cell (p:=⟨RB,0,none⟩) hRl).trans hcr)))
 go_ret2
 have hb2:=hb1.alloc hb1.size (.cells #[.slice (some ⟨b,off,none⟩) n vc,.slice (some ⟨B,0,none⟩) n n,.slice aao an ac,.slice (some ⟨CB,0,none⟩) (sn+ln) ccap,.int .i64 (sn:Int),.slice (some ⟨RB,0,none⟩) n n] 91);refine ⟨rb,rfl,hb2,?_,fun j hj=>?_⟩
 ·simp;have:=HR.out.1;omega
 ·exact (((Below.refl w1.heap.size w1).alloc (Nat.le_refl _) _).cell (p:=⟨rb,j,none⟩) HR.out.1).trans (HR.out.2 j hj)
theorem zNQ (v sv lv:Value) (l:List (Int × Int)) (ss ll:List (List Bool)) (props:Int) (t:Tm) (w:World) (hB:0 < w.heap.size) (hT:zAJ w) (hV:zAX w v l) (hS:zAN w sv ss) (hL:zAN w lv ll) (hc:zDy props l ss ll=0) (hwf:t.Wf) (hto:t.ops=l) :
  Calls Tryz.prog 23 #[v,.agg #[sv,lv],.int .i64 props] w fun e w'=>e=.returned (.tuple #[.bool (t.hb (sig (ss++ll) ss.length) 0),.int .i64 0])/\Below w.heap.size w w':=by
 have hA:∀ o,Below w.heap.size w (w.alloc o):=fun o=>(Below.refl _ _).alloc (Nat.le_refl _) o
 have hfa:∀ o,Calls Tryz.prog 45 #[v,.agg #[sv,lv],.int .i64 props] (w.alloc o) fun e w'=>∃ rb,e=.returned (.tuple #[.slice (some ⟨rb,0,none⟩) (ss.length+ll.length) (ss.length+ll.length),.int .i64 0])/\Below w.heap.size w w'/\Hid (zNc w' rb (ss.length+ll.length) (t.hb (sig (ss++ll) ss.length))):=fun o=>(zLD v sv lv l ss ll props t (w.alloc o) (by simp) (hT.below (hA o) hB) (hV.below (hA o)) (hS.below (hA o)) (hL.below (hA o)) hc hwf hto).mono fun e w' ⟨rb,h1,h2,h3⟩=>⟨rb,h1,(hA o).trans (h2.mono (hA o).size),h3⟩
 obtain ⟨_,h12,h1,hl12,_⟩:=zDJ (zEG hc).2;obtain ⟨so,sc,rfl⟩:=hS.shape;obtain ⟨lo,lc,rfl⟩:=hL.shape;obtain ⟨vo,vc,rfl,_⟩:=id hV;generalize t.hb (sig (ss++ll) ss.length)=hh at *;generalize ss.length=sn at *;generalize ll.length=ln at *;generalize l.length=n at *;obtain ⟨m,hm⟩:∃ m,m=sn+ln:=⟨_,rfl⟩
 rw [<- hm] at hfa;have hm0:0 < m:=by omega
 have hm1:(0:Int) < (m:Int):=by omega
 clear hT hV hS hL hc hto hm
 go_enter Tryz.func23,Tryz.ntmps23
 go_wp2_with (go_at_call 45;refine (hfa _).mono ?_;rintro e w1 ⟨rb,rfl,hb1,HR⟩;have hcr:=HR.out.2 0 hm0)
 go_ret2
 exact ⟨rfl,hb1⟩
inductive ForT (props:Int):Nat->List (Int × Int)->Prop
 | prop (v:Int):0 <= v->v < props->ForT props 0 [(13,v)]
 | not (m:Nat) (a:List (Int × Int)):ForT props m a->ForT props m ((10,0):: a)
 | bin (m n:Nat) (k:Int) (a b:List (Int × Int)):8 <= k->k <= 9->ForT props m a->ForT props n b->ForT props (m+n) ((k,0):: (a++b))
 | tun (m:Nat) (k:Int) (a:List (Int × Int)):k=14\/k=17\/k=18->ForT props m a->ForT props (m+1) ((k,0):: a)
 | tbi (m n:Nat) (k:Int) (a b:List (Int × Int)):15 <= k->k <= 16->ForT props m a->ForT props n b->ForT props (m+n+1) ((k,0):: (a++b))
theorem zAL.factsF {w:World} {G:Nat} {rawv:Value} {at':Nat} {vars props tempo:Int} {l:List (Int × Int)} (h:zAL w G rawv at' vars props tempo l) :
  w.cell? ⟨G,1,none⟩=some (.int .i64 at')/\w.cell? ⟨G,3,none⟩=some (.int .i64 props)/\w.cell? ⟨G,4,none⟩=some (.int .i64 tempo)/\w.frozen? ⟨G,4,none⟩=false/\G < w.heap.size:=by
 obtain ⟨outv,hh,ho⟩:=h;obtain ⟨_,a,b,_,f,c⟩:=zDS hh;exact ⟨a,by simp [World.cell?,hh],by simp [World.cell?,hh],f 4,c⟩
theorem zAL.setTempo {w:World} {G:Nat} {rawv:Value} {at':Nat} {vars props tempo:Int} {l:List (Int × Int)} (h:zAL w G rawv at' vars props tempo l) (n:Int):zAL (w.setCell ⟨G,4,none⟩ (.int .i64 n)) G rawv at' vars props n l:=by
 obtain ⟨outv,hh,ho⟩:=h;refine ⟨outv,by simp [World.setCell,Array.getElem?_modify,hh],?_⟩
 exact ownsRow_setCell_below ho (by simp) _
def zEY (G:Nat) (rawv:Value) (at':Nat) (vars props:Int) (tempo:Nat) (l:List (Int × Int)) (d:Nat) (w:World) (e:Ending) (w':World):Prop:=
 ∃ t m,e=.returned (.tuple #[])/\ForT props m t/\m <= tempo/\(at' + t.length <= at' + 1\/at' + t.length <= 13+d)/\t.length+1 <= 2 ^ (d+1)/\zAL w' G rawv (at' + t.length) vars props ((tempo - m:Nat):Int) (l++t)/\Below G w w'
theorem zPN (d:Nat):2 <= 2 ^ (d+1):=by
 have:2 ^ (d+1)=2*2 ^ d:=by rw [Nat.pow_succ,Nat.mul_comm]
 have:0 < 2 ^ d:=Nat.two_pow_pos d;omega
theorem zGK {G:Nat} {rawv:Value} {at':Nat} {vars props:Int} {tempo:Nat} {q:Int} {l:List (Int × Int)} {d:Nat} {w w5:World} (h0:0 <= q) (h1:q < props) (hb:Below G w w5) (hg:zAL w5 G rawv (at' + 1) vars props (tempo:Int) (l++[(13,q)])):zEY G rawv at' vars props tempo l d w (.returned (.tuple #[])) w5:=
 ⟨[(13,q)],0,rfl,.prop _ h0 h1,Nat.zero_le _,.inl (by simp),by have:=zPN d;simpa using this,by simpa using hg,hb⟩
theorem zIP {G:Nat} {rawv:Value} {at':Nat} {vars props:Int} {tempo m:Nat} {l:List (Int × Int)} {d:Nat} {w w5:World} {ta:List (Int × Int)} (hta:ForT props m ta) (hm:m <= tempo)
  (hn:at' + 1+ta.length <= 13+(d+1)) (h2:ta.length+1 <= 2 ^ (d+1)) (hb:Below G w w5) (hg:zAL w5 G rawv (at' + 1+ta.length) vars props ((tempo - m:Nat):Int) (l++[(10,0)]++ta)):zEY G rawv at' vars props tempo l (d+1) w (.returned (.tuple #[])) w5:=by
 have e1:at' + ((10,(0:Int)):: ta:List (Int × Int)).length=at' + 1+ta.length:=by simp;omega
 have e2:l++(10,(0:Int)):: ta=l++[(10,0)]++ta:=by simp
 have e3:2 ^ (d+1+1)=2*2 ^ (d+1):=by rw [Nat.pow_succ,Nat.mul_comm]
 refine ⟨(10,0):: ta,m,rfl,.not _ _ hta,hm,?_,?_,?_,hb⟩
 ·rw [e1];omega
 ·simp only [List.length_cons];rw [e3];omega
 ·rw [e1,e2];exact hg
theorem zI4 {G:Nat} {rawv:Value} {at':Nat} {vars props:Int} {tempo m n:Nat} {K:Int} {l:List (Int × Int)} {d:Nat} {w w5:World} {ta tb:List (Int × Int)} (hta:ForT props m ta) (htb:ForT props n tb) (h8:8 <= K) (h9:K <= 9) (hm:m <= tempo) (hn':n <= tempo - m)
  (hn:at' + 1+ta.length+tb.length <= 13+(d+1)) (h2:ta.length+1 <= 2 ^ (d+1)) (h3:tb.length+1 <= 2 ^ (d+1)) (hb:Below G w w5) (hg:zAL w5 G rawv (at' + 1+ta.length+tb.length) vars props ((tempo - m - n:Nat):Int) (l++[(K,0)]++ta++tb)):zEY G rawv at' vars props tempo l (d+1) w (.returned (.tuple #[])) w5:=by
 have e1:at' + ((K,(0:Int)):: (ta++tb)).length=at' + 1+ta.length+tb.length:=by simp;omega
 have e2:l++(K,(0:Int)):: (ta++tb)=l++[(K,0)]++ta++tb:=by simp
 have e3:2 ^ (d+1+1)=2*2 ^ (d+1):=by rw [Nat.pow_succ,Nat.mul_comm]
 refine ⟨(K,0):: (ta++tb),m+n,rfl,.bin _ _ _ _ _ h8 h9 hta htb,by omega,?_,?_,?_,hb⟩
 ·rw [e1];omega
 ·simp only [List.length_cons,List.length_append];rw [e3];omega
 ·rw [e1,e2,show tempo - (m+n)=tempo - m - n by omega];exact hg
theorem zNU {G:Nat} {rawv:Value} {at':Nat} {vars props:Int} {tempo m:Nat} {K:Int} {l:List (Int × Int)} {d:Nat} {w w5:World} {ta:List (Int × Int)} (hta:ForT props m ta) (hK:K=14\/K=17\/K=18) (ht:0 < tempo) (hm:m <= tempo - 1)
  (hn:at' + 1+ta.length <= 13+(d+1)) (h2:ta.length+1 <= 2 ^ (d+1)) (hb:Below G w w5) (hg:zAL w5 G rawv (at' + 1+ta.length) vars props ((tempo - 1 - m:Nat):Int) (l++[(K,0)]++ta)):zEY G rawv at' vars props tempo l (d+1) w (.returned (.tuple #[])) w5:=by
 have e1:at' + ((K,(0:Int)):: ta:List (Int × Int)).length=at' + 1+ta.length:=by simp;omega
 have e2:l++(K,(0:Int)):: ta=l++[(K,0)]++ta:=by simp
 have e3:2 ^ (d+1+1)=2*2 ^ (d+1):=by rw [Nat.pow_succ,Nat.mul_comm]
 refine ⟨(K,0):: ta,m+1,rfl,.tun _ _ _ hK hta,by omega,?_,?_,?_,hb⟩
 ·rw [e1];omega
 ·simp only [List.length_cons];rw [e3];omega
 ·rw [e1,e2,show tempo - (m+1)=tempo - 1 - m by omega];exact hg
theorem zNg {G:Nat} {rawv:Value} {at':Nat} {vars props:Int} {tempo m n:Nat} {K:Int} {l:List (Int × Int)} {d:Nat} {w w5:World} {ta tb:List (Int × Int)} (hta:ForT props m ta) (htb:ForT props n tb) (h8:15 <= K) (h9:K <= 16) (ht:0 < tempo) (hm:m <= tempo - 1) (hn':n <= tempo - 1 - m)
  (hn:at' + 1+ta.length+tb.length <= 13+(d+1)) (h2:ta.length+1 <= 2 ^ (d+1)) (h3:tb.length+1 <= 2 ^ (d+1)) (hb:Below G w w5) (hg:zAL w5 G rawv (at' + 1+ta.length+tb.length) vars props ((tempo - 1 - m - n:Nat):Int) (l++[(K,0)]++ta++tb)):zEY G rawv at' vars props tempo l (d+1) w (.returned (.tuple #[])) w5:=by
 have e1:at' + ((K,(0:Int)):: (ta++tb)).length=at' + 1+ta.length+tb.length:=by simp;omega
 have e2:l++(K,(0:Int)):: (ta++tb)=l++[(K,0)]++ta++tb:=by simp
 have e3:2 ^ (d+1+1)=2*2 ^ (d+1):=by rw [Nat.pow_succ,Nat.mul_comm]
 refine ⟨(K,0):: (ta++tb),m+n+1,rfl,.tbi _ _ _ _ _ h8 h9 hta htb,by omega,?_,?_,?_,hb⟩
 ·rw [e1];omega
 ·simp only [List.length_cons,List.length_append];rw [e3];omega
 ·rw [e1,e2,show tempo - (m+n+1)=tempo - 1 - m - n by omega];exact hg
theorem zFL (G:Nat) (rawv:Value) (rs:List (Int × Int)) (at':Nat) (vars props:Int) (tempo:Nat) (l:List (Int × Int)) (d:Nat) (w:World) (hat:at' <= 60) (hl:l.length <= 60) (hp1:1 <= props) (hp2:props <= 100) (hd:d <= 100) (hleaf:d=0\/12 <= at')
  (hR:Raws w G rawv rs) (h:zAL w G rawv at' vars props (tempo:Int) l) :
  Calls Tryz.prog 33 #[.pointer (some ⟨G,0,none⟩),.int .i64 d] w (zEY G rawv at' vars props tempo l d w):=by
 have htake:=zIR G rawv rs at' vars props tempo l w (by omega) hR h
 have hlt:G < w.heap.size:=h.factsF.2.2.2.2;clear hR h
 have htst:((d:Int) == 0)=true\/((d:Int) == 0)=false/\decide ((12:Int) < (at':Int)+1)=true:=by
  by_cases h0:d=0
  ·left;simp [h0]
  ·right;simp;omega
 clear hleaf
 rcases htst with hd0 | ⟨hd0,h10⟩
 all_goals
  go_enter Tryz.func33,Tryz.ntmps33
  go_wp2_with (first | (go_at_call 58;refine htake.mono ?_;rintro e w1 ⟨k,v,hk,hv,rfl,hg1,hb1⟩;obtain ⟨d1,d3,d4,f4,dlt⟩:=hg1.factsF;have hg2:=hg1.alloc (.cells #[.int .i64 k,.int .i64 v] 138)) | (go_at_call 29;refine (zCi _ _ _ (by assumption) (by decide) (by decide)).mono ?_;rintro e w2 ⟨r,hr0,hr1,rfl,rfl⟩) | (go_at_call 59;refine (zBQ G rawv (at' + 1) vars props tempo _ _ l _ (by omega) hg2).mono ?_;rintro e w3 ⟨rfl,hg3,hb3⟩))
  have hgd:zAL (w1.alloc (.cells #[.int .i64 k,.int .i64 v] 138)).drew G rawv (at' + 1) vars props tempo l:=hg2;clear hg1 hg2 htake
  go_region_with (first | (go_at_call 29;refine (zCi _ _ _ (by assumption) (by omega) (by omega)).mono ?_;rintro e w2 ⟨q,hq0,hq1,rfl,rfl⟩) | (go_at_call 59;refine (zBQ G rawv (at' + 1) vars props tempo _ _ l _ (by omega) hgd).mono ?_;rintro e w3 ⟨rfl,hg3,hb3⟩))
  all_goals
   go_wp2_with fail
   go_end0
   exact zGK hq0 hq1 ((hb1.alloc (Nat.le_of_lt dlt) _).drew.trans hb3) hg3
theorem zJo (G:Nat) (rawv:Value) (rs:List (Int × Int)) (vars props:Int) (hp1:1 <= props) (hp2:props <= 100) (d:Nat):∀ (at':Nat) (tempo:Nat) (l:List (Int × Int)) (w:World),d <= 5->tempo <= 100->at' <= 40->l.length=at'->Raws w G rawv rs->zAL w G rawv at' vars props (tempo:Int) l->
  Calls Tryz.prog 33 #[.pointer (some ⟨G,0,none⟩),.int .i64 d] w (zEY G rawv at' vars props tempo l d w):=by
 induction d with
 | zero=>intro at' tempo l w _ _ ha hl hR h;exact zFL G rawv rs at' vars props tempo l 0 w (by omega) (by omega) hp1 hp2 (by omega) (.inl rfl) hR h
 | succ d ih=>
  intro at' tempo l w hd htm ha hl hR h
  by_cases hleaf:12 <= at'
  ·exact zFL G rawv rs at' vars props tempo l (d+1) w (by omega) (by omega) hp1 hp2 (by omega) (.inr hleaf) hR h
  have htake:=zIR G rawv rs at' vars props tempo l w (by omega) hR h
  have hlt:G < w.heap.size:=h.factsF.2.2.2.2;have HR:Hid (Raws w G rawv rs):=hR;have HL:Hid (l.length=at'):=hl;have hl98:l.length <= 40:=by omega
  clear hR h hl;have hat10:at' < 12:=by omega
  have hdd:((d+1:Nat):Int)=(d:Int)+1:=by omega
  rw [hdd];have hd0:((d:Int)+1 == 0)=false:=by simp;omega
  have h10:decide ((12:Int) < (at':Int)+1)=false:=by simp;omega
  clear hdd hleaf
  by_cases ht0:tempo=0
  ·have htt:(((tempo:Nat):Int) == 0)=true:=by simp;omega
   clear ht0
   go_enter Tryz.func33,Tryz.ntmps33
   go_wp2_with (first | (go_at_call 58;refine htake.mono ?_;rintro e w1 ⟨k,v,hk,hv,rfl,hg1,hb1⟩;obtain ⟨d1,d3,d4,f4,dlt⟩:=hg1.factsF;have hg2:=hg1.alloc (.cells #[.int .i64 k,.int .i64 v] 138)) | (go_at_call 29;refine (zCi _ _ _ (by assumption) (by decide) (by decide)).mono ?_;rintro e w2 ⟨r,hr0,hr1,rfl,rfl⟩;have hcs:r <= 8\/r=9\/r=10\/r=11\/r=12\/13 <= r:=(by omega);rcases hcs with h9 | rfl | rfl | rfl | rfl | h13) | (go_at_call 59;refine (zBQ G rawv (at' + 1) vars props tempo _ _ l _ (by omega) hg2).mono ?_;rintro e w3 ⟨rfl,hg3,hb3⟩))
   ·have hgd:zAL (w1.alloc (.cells #[.int .i64 k,.int .i64 v] 138)).drew G rawv (at' + 1) vars props tempo l:=hg2
    clear hg1 hg2 htake ih
    go_region_with (first | (go_at_call 29;refine (zCi _ _ _ (by assumption) (by omega) (by omega)).mono ?_;rintro e w2 ⟨q,hq0,hq1,rfl,rfl⟩) | (go_at_call 59;refine (zBQ G rawv (at' + 1) vars props tempo _ _ l _ (by omega) hgd).mono ?_;rintro e w3 ⟨rfl,hg3,hb3⟩))
    all_goals
     go_wp2_with fail
     go_end0
     exact zGK hq0 hq1 ((hb1.alloc (Nat.le_of_lt dlt) _).drew.trans hb3) hg3
   all_goals
    have hb13:=(hb1.alloc (Nat.le_of_lt dlt) (.cells #[.int .i64 k,.int .i64 v] 138)).trans hb3;have hn1:=ih (at' + 1) tempo _ w3 (by omega) (by omega) (by omega) (by rw [List.length_append,HL.out];rfl) (HR.out.below hb13) hg3
    clear hg1 hg2 htake
    go_wp2_with (go_at_call 33;refine hn1.mono ?_;rintro e w4 ⟨ta,m,rfl,hta,hm,ha14,h2a,hg4,hb4⟩;have H2a:=(show Hid _ from h2a);clear h2a)
    first
     | (go_end0;exact zIP hta hm (by omega) H2a.out (hb13.trans hb4) hg4)
     | (have hb14:=hb13.trans hb4;have hn2:=ih (at' + 1+ta.length) (tempo - m) _ w4 (by omega) (by omega) (by omega) (by rw [List.length_append,List.length_append,HL.out];rfl) (HR.out.below hb14) hg4;clear hn1 ih;go_wp2_with (go_at_call 33;refine hn2.mono ?_;rintro e w5 ⟨tb,n,rfl,htb,hn,hb14',h2b,hg5,hb5⟩);go_end0;exact zI4 hta htb (by omega) (by omega) hm hn (by omega) H2a.out h2b (hb14.trans hb5) hg5)
  ·have htt:(((tempo:Nat):Int) == 0)=false:=by simp;omega
   have HT0:Hid (0 < tempo):=by show 0 < tempo;omega
   have HTI:Hid ((tempo:Int) - 1=((tempo - 1:Nat):Int)):=by show _=_;omega
   go_enter Tryz.func33,Tryz.ntmps33
   go_wp2_with (first | (go_at_call 58;refine htake.mono ?_;rintro e w1 ⟨k,v,hk,hv,rfl,hg1,hb1⟩;obtain ⟨d1,d3,d4,f4,dlt⟩:=hg1.factsF;have hg2:=hg1.alloc (.cells #[.int .i64 k,.int .i64 v] 138)) | (go_at_call 29;refine (zCi _ _ _ (by assumption) (by decide) (by decide)).mono ?_;rintro e w2 ⟨r,hr0,hr1,rfl,rfl⟩;have hcs:r <= 8\/r=9\/r=10\/r=11\/r=12\/13 <= r:=(by omega);rcases hcs with h9 | rfl | rfl | rfl | rfl | h13) | (go_at_call 59;refine (zBQ G rawv (at' + 1) vars props tempo _ _ l _ (by omega) hg2).mono ?_;rintro e w3 ⟨rfl,hg3,hb3⟩))
   ·have hgd:zAL (w1.alloc (.cells #[.int .i64 k,.int .i64 v] 138)).drew G rawv (at' + 1) vars props tempo l:=hg2
    clear hg1 hg2 htake ih
    go_region_with (first | (go_at_call 29;refine (zCi _ _ _ (by assumption) (by omega) (by omega)).mono ?_;rintro e w2 ⟨q,hq0,hq1,rfl,rfl⟩) | (go_at_call 59;refine (zBQ G rawv (at' + 1) vars props tempo _ _ l _ (by omega) hgd).mono ?_;rintro e w3 ⟨rfl,hg3,hb3⟩))
    all_goals
     go_wp2_with fail
     go_end0
     exact zGK hq0 hq1 ((hb1.alloc (Nat.le_of_lt dlt) _).drew.trans hb3) hg3
   ·have hb13:=(hb1.alloc (Nat.le_of_lt dlt) (.cells #[.int .i64 k,.int .i64 v] 138)).trans hb3
    have hn1:=ih (at' + 1) tempo _ w3 (by omega) (by omega) (by omega) (by rw [List.length_append,HL.out];rfl) (HR.out.below hb13) hg3
    clear hg1 hg2 htake ih
    go_wp2_with (go_at_call 33;refine hn1.mono ?_;rintro e w4 ⟨ta,m,rfl,hta,hm,ha14,h2a,hg4,hb4⟩;have H2a:=(show Hid _ from h2a);clear h2a)
    go_end0
    exact zIP hta hm (by omega) H2a.out (hb13.trans hb4) hg4
   ·have hb13:=(hb1.alloc (Nat.le_of_lt dlt) (.cells #[.int .i64 k,.int .i64 v] 138)).trans hb3
    have hn1:=ih (at' + 1) tempo _ w3 (by omega) (by omega) (by omega) (by rw [List.length_append,HL.out];rfl) (HR.out.below hb13) hg3
    clear hg1 hg2 htake
    go_wp2_with (go_at_call 33;refine hn1.mono ?_;rintro e w4 ⟨ta,m,rfl,hta,hm,ha14,h2a,hg4,hb4⟩;have H2a:=(show Hid _ from h2a);clear h2a)
    have hb14:=hb13.trans hb4;have hn2:=ih (at' + 1+ta.length) (tempo - m) _ w4 (by omega) (by omega) (by omega) (by rw [List.length_append,List.length_append,HL.out];rfl) (HR.out.below hb14) hg4
    clear hn1 ih
    go_wp2_with (go_at_call 33;refine hn2.mono ?_;rintro e w5 ⟨tb,n,rfl,htb,hn,hb14',h2b,hg5,hb5⟩)
    go_end0
    exact zI4 hta htb (by omega) (by omega) hm hn (by omega) H2a.out h2b (hb14.trans hb5) hg5
   iterate 4
    ·have hgt:=((hg1.setTempo ((tempo:Int) - 1)).alloc (.cells #[.int .i64 k,.int .i64 v] 138)).alloc (.cells #[.int .i64 14,.int .i64 17,.int .i64 18,.int .i64 17] 3)
     have hbt:=((hb1.setCell (p:=⟨G,4,none⟩) (Nat.le_refl _) (.int .i64 ((tempo:Int) - 1))).alloc (by simp;omega) (.cells #[.int .i64 k,.int .i64 v] 138)).alloc (by simp;omega) (.cells #[.int .i64 14,.int .i64 17,.int .i64 18,.int .i64 17] 3)
     have hpt:=fun kk=>zBQ G rawv (at' + 1) vars props ((tempo:Int) - 1) kk 0 l _ (by omega) hgt
     clear hg1 hg2 htake hgt
     go_wp2_with (go_at_call 59;refine (hpt _).mono ?_;rintro e w3 ⟨rfl,hg3,hb3⟩)
     have hb13:=hbt.trans hb3;rw [HTI.out] at hg3;clear hpt;have hn1:=ih (at' + 1) (tempo - 1) _ w3 (by omega) (by omega) (by omega) (by rw [List.length_append,HL.out];rfl) (HR.out.below hb13) hg3
     clear ih
     go_wp2_with (go_at_call 33;refine hn1.mono ?_;rintro e w4 ⟨ta,m,rfl,hta,hm,ha14,h2a,hg4,hb4⟩;have H2a:=(show Hid _ from h2a);clear h2a)
     go_end0
     exact zNU hta (by decide) HT0.out hm (by omega) H2a.out (hb13.trans hb4) hg4
   ·have hgt:=(hg1.setTempo ((tempo:Int) - 1)).alloc (.cells #[.int .i64 k,.int .i64 v] 138)
    have hbt:=(hb1.setCell (p:=⟨G,4,none⟩) (Nat.le_refl _) (.int .i64 ((tempo:Int) - 1))).alloc (by simp;omega) (.cells #[.int .i64 k,.int .i64 v] 138)
    have hpt:=fun kk=>zBQ G rawv (at' + 1) vars props ((tempo:Int) - 1) kk 0 l _ (by omega) hgt
    clear hg1 hg2 htake hgt
    go_wp2_with (go_at_call 59;refine (hpt _).mono ?_;rintro e w3 ⟨rfl,hg3,hb3⟩)
    have hb13:=hbt.trans hb3;rw [HTI.out] at hg3;clear hpt;have hn1:=ih (at' + 1) (tempo - 1) _ w3 (by omega) (by omega) (by omega) (by rw [List.length_append,HL.out];rfl) (HR.out.below hb13) hg3
    go_wp2_with (go_at_call 33;refine hn1.mono ?_;rintro e w4 ⟨ta,m,rfl,hta,hm,ha14,h2a,hg4,hb4⟩;have H2a:=(show Hid _ from h2a);clear h2a)
    have hb14:=hb13.trans hb4;have hn2:=ih (at' + 1+ta.length) ((tempo - 1) - m) _ w4 (by omega) (by omega) (by omega) (by rw [List.length_append,List.length_append,HL.out];rfl) (HR.out.below hb14) hg4
    clear hn1 ih
    go_wp2_with (go_at_call 33;refine hn2.mono ?_;rintro e w5 ⟨tb,n,rfl,htb,hn,hb14',h2b,hg5,hb5⟩)
    go_end0
    exact zNg hta htb (by omega) (by omega) HT0.out hm hn (by omega) H2a.out h2b (hb14.trans hb5) hg5
theorem zLF (w:World) (rawv:Value) (vars props tempo:Int) :
  zAL (w.alloc (.cells #[rawv,.int .i64 0,.int .i64 vars,.int .i64 props,.int .i64 tempo,.slice none 0 0] 110)) w.heap.size rawv 0 vars props tempo []:=
 ⟨_,blk_alloc_new _ _,World.ownsRow_nil _ _ _ _⟩
theorem zHx (rawv:Value) (rs:List (Int × Int)) (props:Int) (tempo:Nat) (w:World) (hp1:1 <= props) (hp2:props <= 100) (ht:tempo <= 100) (hR:Raws w w.heap.size rawv rs) :
  Calls Tryz.prog 12 #[rawv,.int .i64 props,.int .i64 (tempo:Int)] w fun e w'=>∃ a c t m,e=.returned (.slice a t.length c)/\ForT props m t/\m <= tempo/\t.length <= 17/\zAX w' (.slice a t.length c) t/\Below w.heap.size w w':=by
 have hb0:=(Below.refl w.heap.size w).alloc (Nat.le_refl _) (.cells #[rawv,.int .i64 0,.int .i64 0,.int .i64 props,.int .i64 (tempo:Int),.slice none 0 0] 110);have htr:=zJo w.heap.size rawv rs 0 props hp1 hp2 4 0 tempo [] _ (by omega) ht (by omega) rfl (hR.below hb0) (zLF w rawv 0 props tempo)
 obtain ⟨ra,rn,rc,hra⟩:∃ a n c,rawv=.slice a n c:=by obtain ⟨⟨a,c,h,_⟩,_,_⟩:=hR;exact ⟨_,_,_,h⟩
 subst hra;clear hR
 go_enter Tryz.func12,Tryz.ntmps12
 go_wp2_with (go_at_call 33;refine htr.mono ?_;rintro e w1 ⟨t,m,rfl,ht,hm,hlen,_,hg1,hb1⟩;obtain ⟨outv,hh,ho⟩:=hg1;obtain ⟨_,_,_,c5,_,hlt⟩:=zDS hh)
 go_ret
 rw [List.nil_append] at ho;obtain ⟨a,c,rfl⟩:=zAm ho;exact ⟨a,c,t,m,rfl,ht,hm,by omega,zC2 ho,hb0.trans hb1⟩
end Go.Proofs.YtnihdlgfhhdhkaaGreatDoor
namespace Go.Proofs.YtnihdlgfhhdhkaaGreatDoor
open Terms
set_option maxHeartbeats 6400000
set_option maxRecDepth 20000
structure FOk (m:Nat) (t:List (Int × Int)) (T:Tm):Prop where
 ops:T.ops=t
 wf:T.Wf
 good:∀ o,o∈t->zAT 3 o=0
 many:(t.filter fun o=>zAP o.1).length=m
theorem FOk.not {m:Nat} {t:List (Int × Int)} {T:Tm} (h:FOk m t T):FOk m ((10,0):: t) (.un 10 0 T):=by
 obtain ⟨h1,h2,h3,h4⟩:=h;refine ⟨by simp [Tm.ops,h1],⟨by decide,by decide,h2⟩,fun o ho=>?_,?_⟩
 ·rcases List.mem_cons.1 ho with rfl | ho
  ·rfl
  ·exact h3 o ho
 ·rw [List.filter_cons,if_neg (by decide)];exact h4
theorem FOk.tun {m:Nat} {k:Int} {t:List (Int × Int)} {T:Tm} (hk:k=14\/k=17\/k=18) (h:FOk m t T):FOk (m+1) ((k,0):: t) (.un k 0 T):=by
 obtain ⟨h1,h2,h3,h4⟩:=h;refine ⟨by simp [Tm.ops,h1],?_,fun o ho=>?_,?_⟩
 ·rcases hk with rfl | rfl | rfl <;> exact ⟨by decide,by decide,h2⟩
 ·rcases List.mem_cons.1 ho with rfl | ho
  ·rcases hk with rfl | rfl | rfl <;> rfl
  ·exact h3 o ho
 ·rw [List.filter_cons,if_pos (by rcases hk with rfl | rfl | rfl <;> decide),List.length_cons,h4]
theorem FOk.bin {m n:Nat} {k:Int} {t s:List (Int × Int)} {T S:Tm} (h8:8 <= k) (h9:k <= 9) (h:FOk m t T) (g:FOk n s S):FOk (m+n) ((k,0):: (t++s)) (.bi k 0 T S):=by
 obtain ⟨h1,h2,h3,h4⟩:=h;obtain ⟨g1,g2,g3,g4⟩:=g;have hk:k=8\/k=9:=by omega
 refine ⟨by simp [Tm.ops,h1,g1],?_,fun o ho=>?_,?_⟩
 ·rcases hk with rfl | rfl <;> exact ⟨by decide,by decide,h2,g2⟩
 ·rcases List.mem_cons.1 ho with rfl | ho
  ·rcases hk with rfl | rfl <;> rfl
  ·rcases List.mem_append.1 ho with ho | ho
   ·exact h3 o ho
   ·exact g3 o ho
 ·rw [List.filter_cons,if_neg (by rcases hk with rfl | rfl <;> decide),List.filter_append,List.length_append,h4,g4]
theorem FOk.tbi {m n:Nat} {k:Int} {t s:List (Int × Int)} {T S:Tm} (h8:15 <= k) (h9:k <= 16) (h:FOk m t T) (g:FOk n s S):FOk (m+n+1) ((k,0):: (t++s)) (.bi k 0 T S):=by
 obtain ⟨h1,h2,h3,h4⟩:=h;obtain ⟨g1,g2,g3,g4⟩:=g;have hk:k=15\/k=16:=by omega
 refine ⟨by simp [Tm.ops,h1,g1],?_,fun o ho=>?_,?_⟩
 ·rcases hk with rfl | rfl <;> exact ⟨by decide,by decide,h2,g2⟩
 ·rcases List.mem_cons.1 ho with rfl | ho
  ·rcases hk with rfl | rfl <;> rfl
  ·rcases List.mem_append.1 ho with ho | ho
   ·exact h3 o ho
   ·exact g3 o ho
 ·rw [List.filter_cons,if_pos (by rcases hk with rfl | rfl <;> decide),List.length_cons,List.filter_append,List.length_append,h4,g4]
theorem ForT.ok {m:Nat} {t:List (Int × Int)} (h:ForT 3 m t):∃ T,FOk m t T:=by
 induction h with
 | prop v h0 h1=>
  refine ⟨.leaf 13 v,rfl,⟨by decide,by decide⟩,fun o ho=>?_,by rw [List.filter_cons,if_neg (by show ¬ zAP 13=true;decide)];rfl⟩
  obtain rfl:o=(13,v):=by simpa using ho
  unfold zAT;rw [if_neg (by show ¬ (13:Int) < 8;decide),if_neg (by simp;omega)]
 | not m a _ ih=>obtain ⟨T,hT⟩:=ih;exact ⟨_,hT.not⟩
 | bin m n k a b h8 h9 _ _ iha ihb=>obtain ⟨A,hA⟩:=iha;obtain ⟨B,hB⟩:=ihb;exact ⟨_,hA.bin h8 h9 hB⟩
 | tun m k a hk _ ih=>obtain ⟨T,hT⟩:=ih;exact ⟨_,hT.tun hk⟩
 | tbi m n k a b h8 h9 _ _ iha ihb=>obtain ⟨A,hA⟩:=iha;obtain ⟨B,hB⟩:=ihb;exact ⟨_,hA.tbi h8 h9 hB⟩
theorem ForT.ne {props:Int} {m:Nat} {t:List (Int × Int)} (h:ForT props m t):t≠[]:=by cases h <;> simp
theorem zJZ (l:List (Int × Int)):∀ n,n <= l.length->(zAF l n).length=((l.take n).filter fun o=>zAP o.1).length:=by
 intro n
 induction n with
 | zero=>intro _;rfl
 | succ n ih=>
  intro hn;rw [List.take_succ_eq_append_getElem (by omega),List.filter_append,List.length_append,<- ih (by omega)]
  simp only [zAF,List.length_append]
  congr 1
  rw [List.getD_eq_getElem?_getD,List.getElem?_eq_getElem (by omega),Option.getD_some,List.filter_cons]
  cases zAP (l[n]).1 <;> simp
theorem FOk.ahead {m:Nat} {t:List (Int × Int)} {T:Tm} (h:FOk m t T):(zAA t).length=m:=by
 unfold zAA;rw [zJZ t t.length (Nat.le_refl _),List.take_length,h.many]
theorem FOk.size {m:Nat} {t:List (Int × Int)} {T:Tm} (h:FOk m t T):T.size=t.length:=by rw [<- Tm.ops_length,h.ops]
theorem FOk.ends {m:Nat} {t:List (Int × Int)} {T:Tm} (h:FOk m t T) (hl:t.length <= 60):zAD (t.map Prod.fst)=0:=by
 have h1:=Tm.one h.wf;rw [h.ops] at h1;unfold zAD;rw [List.length_map,if_neg (by have:=h.size;have:=T.size_pos;omega),h1,h.size]
 simp
theorem FOk.code {m:Nat} {t:List (Int × Int)} {T:Tm} (h:FOk m t T) (hl:t.length <= 60) (hm:m <= 6):zAQ 3 t=0:=by
 rw [zEU (by omega) (h.ends hl) (zGB fun j hj=>h.good _ (by rw [List.getD_eq_getElem?_getD,List.getElem?_eq_getElem hj,Option.getD_some];exact List.getElem_mem hj)),h.ahead,if_neg (by omega)]
end Go.Proofs.YtnihdlgfhhdhkaaGreatDoor
namespace Go.Proofs.YtnihdlgfhhdhkaaGreatDoor
open Go.ChangeShapes Go.WideShapes Go.ChangeAt Go.RowKit Go.Deep
open Terms
set_option maxHeartbeats 6400000
set_option maxRecDepth 20000
end Go.Proofs.YtnihdlgfhhdhkaaGreatDoor
namespace Go.Proofs.YtnihdlgfhhdhkaaGreatDoor
open Go.ChangeShapes Go.WideShapes Go.ChangeAt Go.RowKit Go.Deep Go.Joins
open Terms
set_option maxHeartbeats 6400000
set_option maxRecDepth 20000
section
variable {H : Type} {enc : TypeId × Value -> H} {W : World}
def zFI (t:TypeId) (d:DataW H):Prop:=∀ n∈d.weights Tryz.prog t,n <= reachBytes
theorem zF8 {P:Program} {e:TypeId} {x:DataW H} {n:Nat} (hn:n∈x.weights P e):∀ {l:List (DataW H)},x∈l->n∈DataW.weightsAll P e l
 | y:: l,hx=>by
  simp only [DataW.weightsAll,List.mem_append]
  rcases List.mem_cons.1 hx with rfl | hx
  ·exact .inl hn
  ·exact .inr (zF8 hn hx)
theorem zFI.slice {t e:TypeId} {elems spare:List (DataW H)} (hu:Tryz.prog.underlying t=some (.slice e)) (h:zFI t (.slice elems spare)):(elems.length+spare.length)*Tryz.prog.bytesOf e <= reachBytes/\∀ x∈elems,zFI e x:=by
 refine ⟨h _ (by simp [DataW.weights,hu]),fun x hx n hn=>h n ?_⟩
 simp only [DataW.weights,hu,List.mem_cons,List.mem_append];exact .inr (.inl (zF8 hn hx))
theorem zG2 {α:Type} (f:Nat->α) (d:α) {n i:Nat} (hi:i < n):((List.range n).map f).getD i d=f i:=by simp [List.getD_eq_getElem?_getD,hi]
end
