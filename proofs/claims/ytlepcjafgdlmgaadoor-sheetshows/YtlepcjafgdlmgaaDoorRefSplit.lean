import Derived.Test.YtlepcjafgdlmgaaDoorOwns
import Derived.Test.YtlepcjafgdlmgaaDoorRefPolish
namespace Go.Proofs.YtlepcjafgdlmgaaDoor
open Go.ChangeShapes Go.WideShapes Go.ChangeAt Go.RowKit Go.Deep
open Terms
set_option maxHeartbeats 6400000
set_option maxRecDepth 20000
theorem refOps_any (b off n cap lo hi':Nat) (l:List (Int × Int)) (w:World) (hn:n=l.length) (h60:n <= 60) (hlo:lo <= hi') (hhi:hi' <= n) (hbB:b < w.heap.size) (hA:OpsAt w b off l) :
  Calls Tryd.prog 87 #[.slice (some ⟨b,off,none⟩) n cap,.int .i64 lo,.int .i64 hi'] w fun e w'=>∃ v',e=.returned v'/\Below w.heap.size w w'/\w'.ownsRow w.heap.size 77 2 v' (seg l lo hi').length (flat (seg l lo hi')):=by
 obtain ⟨i0,hi,hz0,hz1,hz2⟩:=info_parts infoOp;have HA:Hid (OpsAt w b off l):=hA;have HN:Hid (n=l.length):=hn;clear hA hn
 go_enter Tryd.func87,Tryd.ntmps87
 go_wp2
 go_loopw [7,8] (fun out i wr=>∃ k:Nat,lo <= k/\k <= hi'/\i=.int .i64 k/\wr.ownsRow w.heap.size 77 2 out (k - lo) (flat (seg l lo k))/\Below w.heap.size w wr) (fun _ i _=>hi' - (intOf i).toNat)
 case atStart=>exact ⟨lo,Nat.le_refl _,hlo,rfl,by rw [seg_nil,Nat.sub_self];exact World.ownsRow_nil _ _ _ _,Below.refl _ _⟩
 case round=>
  obtain ⟨k,hk1,hk2,rfl,hown,hbel⟩:=hrel
  by_cases hlt:k < hi'
  ·obtain ⟨c0,c1⟩:=(HA.out.below hbel hbB) k (by rw [<- HN.out];omega)
   have HS:Hid (seg l lo (k+1)=seg l lo k++[l.getD k (0,0)]):=seg_snoc (by rw [<- HN.out];omega) hk1 _
   generalize l.getD k (0,0)=xy at c0 c1 HS;obtain ⟨x,y⟩:=xy;simp only at c0 c1
   have hsz:=hbel.size
   go_wp2_with (at_builtin;refine wpList_append_own _ rfl (.tmp 15) (.tmp 20) 27 rfl w.heap.size 77 i0 (.agg #[.int .i64 0,.int .i64 0]) 2 16 Tryd.underlying27 hi hz0 hz1 hz2 rfl (by decide) _ _ _ rfl (hown.alloc _) ⟨_,0,none⟩ 1 1 [.int .i64 x,.int .i64 y] rfl rfl (two_new _ _ _ _) ?c2 ?c3 ?c4 ?c5 ?_)
   case c2=>intro u hu;simp at hu;rcases hu with rfl | rfl <;> rfl
   case c3=>unfold maxLen;omega
   case c4=>omega
   case c5=>simp;omega
   intro v' w4 hown' hgrow _;have hb4:Below w.heap.size w w4:=(hbel.alloc (by omega) _).grown hgrow (by simp;omega) (fun q hq=>(hown.lt q hq).1)
   have ho4:w4.ownsRow w.heap.size 77 2 v' (k+1 - lo) (flat (seg l lo (k+1))):=by
    rw [HS.out,flat_append,show k+1 - lo=k - lo+1 by omega];exact hown'
   clear hown' hgrow hown c0 c1
   go_wp2
   go_roundw
   case rel=>exact ⟨k+1,by omega,by omega,by go_num,ho4,hb4⟩
   case measure=>simp [intOf];omega
  ·have hkh:k=hi':=by omega
   subst hkh;clear hlt hk2
   go_wp2_with fail
   go_ret
   exact ⟨_,rfl,hbel,by rw [seg_length (by rw [<- HN.out];exact hhi)];exact hown⟩
theorem splitOf_ok (b off n cap:Nat) (l:List (Int × Int)) (w:World) (hn:n=l.length) (hbB:b < w.heap.size) (hA:OpsAt w b off l) (hz:endsCode (l.map Prod.fst)=0) :
  Calls Tryd.prog 82 #[.slice (some ⟨b,off,none⟩) n cap] w fun e w'=>∃ v',e=.returned (.tuple #[v',.int .i64 0])/\Below w.heap.size w w'/\∃ base,w.heap.size <= base/\TermsOwn w' base v' (splitTo l (pn ((l.map Prod.fst).getD 0 0))):=by
 have hKA:KindsAt w b off (l.map Prod.fst):=fun i hi=>by
  rw [List.length_map] at hi;rw [(hA i hi).1];simp [List.getD_eq_getElem?_getD,hi]
 have hK:Kinds w (.slice (some ⟨b,off,none⟩) n cap) (l.map Prod.fst):=⟨_,cap,by rw [List.length_map,hn],fun _=>⟨b,off,rfl,hbB,hKA⟩⟩
 have hends:=endsOf_any _ _ w hK;obtain ⟨h60,hone⟩:=code_zero hz;have hlk:(l.map Prod.fst).length=n:=by rw [List.length_map,hn]
 generalize hks:l.map Prod.fst=ks at *;rw [hlk] at hone h60;have HO:Hid (cnt ks 1=.ok n):=hone;have HA:Hid (OpsAt w b off l):=hA;have HK:Hid (KindsAt w b off ks):=hKA;have HN:Hid (n=l.length):=hn;have HL:Hid (ks.length=n):=hlk;have HKS:Hid (l.map Prod.fst=ks):=hks;obtain ⟨hpos,hok0,hn1,_⟩:=one_head hone
 have hends2:Calls Tryd.prog 43 #[.slice (some ⟨b,off,none⟩) n cap] w fun e w'=>Below w.heap.size w w'/\∃ v,e=.returned (.tuple #[v,.int .i64 0]):=
  hends.mono fun e w' ⟨h1,_,h3⟩=>⟨h1,by obtain ⟨v,hv,_⟩:=h3 hz;exact ⟨v,hv⟩⟩
 have hc0:=hKA 0 hpos;rw [Nat.zero_mul,Nat.add_zero] at hc0;clear hends hone hz hA hn hks hK hKA hlk;obtain ⟨k,hk⟩:∃ k,k=ks.getD 0 0:=⟨_,rfl⟩
 rw [<- hk] at hc0 hok0 ⊢;obtain ⟨np,hnp⟩:∃ np,np=pn k:=⟨_,rfl⟩
 have HP:Hid (np=pn (ks.getD 0 0)):=by rw [<- hk];exact hnp
 have hparts:=fun w=>partsOf_ok k w hok0
 rw [<- hnp] at hparts ⊢;have hnp2:np <= 2:=by rw [hnp];exact pn_le _
 clear hnp hok0 hpos hk;obtain ⟨i0,hi,hz0,hz1,hz2⟩:=info_parts infoOps
 go_enter Tryd.func82,Tryd.ntmps82
 go_wp2_with (first | (go_at_call 43;refine hends2.mono ?_;rintro e w1 ⟨hb1,ev,rfl⟩;have hc1:=(hb1.cell (p:=⟨b,off,none⟩) hbB).trans hc0) | (go_at_call 72;refine (hparts _).mono ?_;rintro e w1' ⟨rfl,rfl⟩))
 go_loopw [6,9,10] (fun out pl c wr=>∃ i:Nat,i <= np/\c=.int .i64 i/\pl=.int .i64 (pos ks i:Nat)/\TermsOwn wr w1'.heap.size out (splitTo l i)/\Below w1'.heap.size w1' wr) (fun _ _ c _=>np - (intOf c).toNat)
 case atStart=>exact ⟨0,Nat.zero_le _,rfl,by rw [pos_zero];rfl,TermsOwn.nil _ _,Below.refl _ _⟩
 case round=>
  obtain ⟨i,hile,rfl,rfl,hown,hbel⟩:=hrel
  by_cases hlt:i < np
  ·obtain ⟨hp1,m,hm,hm1,hp2,hp3,hp4⟩:=one_step HO.out (j:=i) (by rw [<- HP.out];exact hlt)
   have hbw:=hb1.trans (hbel.mono hb1.size);have hend:=endOf_any b off n cap (pos ks i) ks wr h60 HL.out (by omega) (HK.out.below hbw hbB)
   rw [hm] at hend;simp only [endOfVal] at hend;rw [<- hp2] at hend;have hsz0:=hbw.size;have hops:=refOps_any b off n cap (pos ks i) (pos ks (i+1)) l wr HN.out h60 (by omega) hp4 (by omega) (HA.out.below hbw hbB)
   have hpi:pos ks i <= pos ks (i+1):=by omega
   have HS:Hid (splitTo l (i+1)=splitTo l i++[seg l (pos ks i) (pos ks (i+1))]):=by
    show _=_
    rw [splitTo_snoc,HKS.out]
   clear hm hp2 hp3;obtain ⟨p',hp'⟩:∃ p',p'=pos ks (i+1):=⟨_,rfl⟩
   rw [<- hp'] at hend hops hpi hp4 HS;have HQ:Hid (p'=pos ks (i+1)):=hp';clear hp';generalize pos ks i=p at *;obtain ⟨us,hus,hts⟩:=hown
   go_wp2_with (first | (go_at_call 57;refine hend.mono ?_;rintro e w2' ⟨rfl,rfl⟩) | (go_at_call 87;refine hops.mono ?_;rintro e w2 ⟨u,rfl,hb2,hu⟩;obtain ⟨uo,uc,rfl⟩:=owns_slice hu;have hus2:=owns_later hus hb2 (Nat.le_refl _)) | (at_builtin;refine wpList_append_own _ rfl (.tmp 45) (.tmp 47) 26 rfl w1'.heap.size 27 i0 (.slice none 0 0) 1 24 Tryd.underlying26 hi hz0 hz1 hz2 rfl (by decide) _ _ _ rfl (hus2.alloc _) ⟨_,0,none⟩ 1 1 _ rfl rfl (cell_one_new _ _ _) ?c2 ?c3 ?c4 ?c5 ?_))
   case c2=>intro u hu;simp at hu;subst hu;rfl
   case c3=>rw [splitTo_len];unfold maxLen;omega
   case c4=>rw [splitTo_len];omega
   case c5=>have:=hbel.size;have:=hb2.size;simp;omega
   intro v' w4 hown' hgrow _;have hsz:=hbel.size;have hsz2:=hb2.size
   have hT4:TermsOwn w4 w1'.heap.size v' (splitTo l (i+1)):=by
    rw [HS.out];exact TermsOwn.snoc hus2 (fun j hj=>owns_later (hts j hj) hb2 (Nat.le_refl _)) (owns_mono hu hsz) ⟨_,rfl⟩ hgrow hown'
   have hb4:Below w1'.heap.size w1' w4:=((hbel.trans (hb2.mono hsz)).alloc (by omega) _).grown hgrow (by simp;omega) (fun q hq=>(hus2.lt q hq).1)
   clear hown' hgrow hus2 hus hts hu hops hend hends2
   go_wp2
   go_roundw
   case rel=>exact ⟨i+1,by omega,by go_num,by rw [HQ.out],hT4,hb4⟩
   case measure=>simp [intOf];omega
  ·have hin:i=np:=by omega
   subst hin;clear hlt hile
   go_wp2_with fail
   go_ret2
   exact ⟨_,rfl,hb1.trans (hbel.mono hb1.size),w1'.heap.size,hb1.size,hown⟩
theorem splitOf_no (v:Value) (ks:List Int) (w:World) (hK:Kinds w v ks) (hz:endsCode ks≠0) :
  Calls Tryd.prog 82 #[v] w fun e w'=>e=.returned (.tuple #[.slice none 0 0,.int .i64 (endsCode ks)])/\Below w.heap.size w w':=by
 have hends:Calls Tryd.prog 43 #[v] w fun e w'=>e=.returned (.tuple #[.slice none 0 0,.int .i64 (endsCode ks)])/\Below w.heap.size w w':=(endsOf_any v ks w hK).mono fun e w' ⟨h1,h2,_⟩=>⟨h2 hz,h1⟩
 generalize endsCode ks=x at *;clear hK
 go_enter Tryd.func82,Tryd.ntmps82
 go_wp2_with (go_at_call 43;refine hends.mono ?_;rintro e w1 ⟨rfl,hb1⟩)
 go_ret2
 exact ⟨rfl,hb1⟩
theorem splitOf_any (v:Value) (l:List (Int × Int)) (w:World) (hV:OpsV w v l) :
  Calls Tryd.prog 82 #[v] w fun e w'=>∃ v',e=.returned (.tuple #[v',.int .i64 (endsCode (l.map Prod.fst))])/\Below w.heap.size w w'/\TermsV w' v' (splitL l):=by
 by_cases hz:endsCode (l.map Prod.fst)=0
 ·obtain ⟨h60,hone⟩:=code_zero hz
  have hne:l≠[]:=by intro h;subst h;simp [cnt] at hone
  obtain ⟨ao,cap,rfl,hc,h⟩:=hV;obtain ⟨b,off,rfl,hlt,hat⟩:=h hne;refine (splitOf_ok b off _ cap l w rfl hlt hat hz).mono fun e w' ⟨v',he,hb,base,_,ht⟩=>⟨v',by rw [hz];exact he,hb,?_⟩
  unfold splitL;rw [if_pos hz];exact ht.termsV
 ·refine (splitOf_no v _ w hV.kinds hz).mono fun e w' ⟨he,hb⟩=>⟨_,he,hb,?_⟩
  unfold splitL;rw [if_neg hz];exact ⟨none,0,rfl,fun h=>absurd rfl h⟩
