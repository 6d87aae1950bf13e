import Derived.Test.YtlepcjafgdlmgaaDoorEnds
namespace Go.Proofs.YtlepcjafgdlmgaaDoor
open Go.RowKit Go.Deep
open Terms
set_option maxHeartbeats 6400000
set_option maxRecDepth 20000
theorem partsOf_ok (k:Int) (w:World) (h:okK k=true) :
  Calls Tryd.prog 72 #[.int .i64 k] w fun e w'=>e=.returned (.tuple #[.int .i64 (pn k),.int .i64 0])/\w'=w:=by
 have hcase:k=1\/k=2\/k=3\/k=4\/k=5\/k=6\/k=7\/k=8\/k=9\/k=10\/k=11\/k=12\/k=13\/k=14\/k=15\/k=16\/k=17\/k=18:=by
  simp only [okK,decide_eq_true_eq] at h;omega
 clear h
 rcases hcase with rfl | rfl | rfl | rfl | rfl | rfl | rfl | rfl | rfl | rfl | rfl | rfl | rfl | rfl | rfl | rfl | rfl | rfl
 all_goals
  go_enter Tryd.func72,Tryd.ntmps72
  go_wp2
  go_ret2
  exact ⟨rfl,rfl⟩
theorem partsOf_no (k:Int) (w:World) (h:okK k=false) :
  Calls Tryd.prog 72 #[.int .i64 k] w fun e w'=>e=.returned (.tuple #[.int .i64 0,.int .i64 13])/\w'=w:=by
 have h':k < 1\/18 < k:=by simp [okK] at h;omega
 clear h
 rcases h' with h | h
 all_goals
  go_enter Tryd.func72,Tryd.ntmps72
  go_wp2
  go_ret2
  exact ⟨rfl,rfl⟩
theorem ret_two {k k':IntKind} {a a' b b':Int} (h:a=b) (h':a'=b'):Ending.returned (.tuple #[.int k a,.int k' a'])=.returned (.tuple #[.int k b,.int k' b']):=by rw [h,h']
def endOfVal (at':Nat):R->Value
 | .ok m=>.tuple #[.int .i64 ((at' + m:Nat):Int),.int .i64 0]
 | .no x=>.tuple #[.int .i64 0,.int .i64 x]
theorem cnt_step {ks:List Int} {q c:Nat} (hq:q < ks.length) (hc:1 <= c) (hk:okK (ks.getD q 0)=true):cnt (ks.drop q) c=(cnt (ks.drop (q+1)) (c+pn (ks.getD q 0) - 1)).up 1:=by
 obtain ⟨c,rfl⟩:∃ d,c=d+1:=⟨c - 1,by omega⟩
 have e:ks.getD q 0=ks[q]:=by simp [List.getD_eq_getElem?_getD,hq]
 rw [e] at hk ⊢;rw [List.drop_eq_getElem_cons hq,cnt_cons,if_pos hk,show c+1+pn ks[q] - 1=c+pn ks[q] by omega]
theorem cnt_bad {ks:List Int} {q c:Nat} (hq:q < ks.length) (hc:1 <= c) (hk:okK (ks.getD q 0)=false):cnt (ks.drop q) c=.no 13:=by
 obtain ⟨c,rfl⟩:∃ d,c=d+1:=⟨c - 1,by omega⟩
 have e:ks.getD q 0=ks[q]:=by simp [List.getD_eq_getElem?_getD,hq]
 rw [e] at hk;rw [List.drop_eq_getElem_cons hq,cnt_cons,if_neg (by simp [hk])]
theorem endOf_any (b off n cap at':Nat) (ks:List Int) (w:World) (hn:n <= 60) (hks:ks.length=n) (hat:at' <= n) (hK:KindsAt w b off ks) :
  Calls Tryd.prog 57 #[.slice (some ⟨b,off,none⟩) n cap,.int .i64 at'] w fun e w'=>e=.returned (endOfVal at' (cnt (ks.drop at') 1))/\w'=w:=by
 have HL:Hid (ks.length=n):=hks;have HK:Hid (KindsAt w b off ks):=hK;clear hK hks
 go_enter Tryd.func57,Tryd.ntmps57
 go_wp2
 go_loop [6,7] (fun want i=>∃ j c:Nat,at' + j <= n/\1 <= c/\c <= j+1/\i=.int .i64 ((at' + j:Nat):Int)/\want=.int .i64 c/\Hid (cnt (ks.drop at') 1=(cnt (ks.drop (at' + j)) c).up j)) (fun _ i=>n - (intOf i).toNat)
 case atStart=>exact ⟨0,1,by omega,by omega,by omega,rfl,rfl,by rw [R.up_zero];rfl⟩
 case round=>
  obtain ⟨j,c,hj,hc1,hc2,rfl,rfl,HC⟩:=hrel
  by_cases hlt:at' + j < n
  ·have hck:=HK.out (at' + j) (by rw [HL.out];exact hlt)
   obtain ⟨k,hk⟩:∃ k,k=ks.getD (at' + j) 0:=⟨_,rfl⟩
   rw [<- hk] at hck
   cases hok:okK k with
   | false=>
    have HE:Hid (cnt (ks.drop at') 1=.no 13):=by
     show cnt (ks.drop at') 1=.no 13
     rw [HC.out,cnt_bad (by rw [HL.out];exact hlt) hc1 (by rw [<- hk];exact hok)];rfl
    have hp:=partsOf_no k w hok;clear hk hok
    go_wp2_with (go_at_call 72;refine hp.mono ?_;rintro e w' ⟨rfl,rfl⟩)
    go_ret2
    exact ⟨by rw [HE.out];rfl,rfl⟩
   | true=>
    have HE:Hid (cnt (ks.drop at') 1=(cnt (ks.drop (at' + (j+1))) (c+pn k - 1)).up (j+1)):=by
     show cnt (ks.drop at') 1=_
     rw [HC.out,cnt_step (by rw [HL.out];exact hlt) hc1 (by rw [<- hk];exact hok),R.up_up,<- hk,Nat.add_assoc,Nat.add_comm 1 j]
    have hp:=partsOf_ok k w hok;have hpn:=pn_le k;clear hk hok;generalize pn k=np at HE hp hpn
    by_cases hz:c+np=1
    ·go_wp2_with (go_at_call 72;refine hp.mono ?_;rintro e w' ⟨rfl,rfl⟩)
     go_ret2
     refine ⟨?_,rfl⟩
     rw [HE.out,show c+np - 1=0 by omega,cnt_zero]
     exact ret_two (by omega) rfl
    ·go_wp2_with (go_at_call 72;refine hp.mono ?_;rintro e w' ⟨rfl,rfl⟩)
     go_round
     case rel=>exact ⟨j+1,c+np - 1,by omega,by omega,by omega,by go_num,by go_num,HE⟩
     case measure=>simp [intOf];omega
  ·have HE:Hid (cnt (ks.drop at') 1=.no 4):=by
    show cnt (ks.drop at') 1=_
    rw [HC.out,show c=(c - 1)+1 by omega,cnt_past (by rw [HL.out];omega)];rfl
   go_wp2_with fail
   go_ret2
   exact ⟨by rw [HE.out];rfl,rfl⟩
def EndsOfPost (ks:List Int) (w:World) (e:Ending) (w':World):Prop:=
 Below w.heap.size w w'/\
 (endsCode ks≠0->e=.returned (.tuple #[.slice none 0 0,.int .i64 (endsCode ks)]))/\
 (endsCode ks=0->∃ v,e=.returned (.tuple #[v,.int .i64 0])/\w'.ownsRow w.heap.size 3 1 v ks.length ((List.range ks.length).map fun q=>.int .i64 (endAt ks q)))
theorem endsOf_size (ao:Option Addr) (n cap:Nat) (w:World) (hn:60 < n) :
  Calls Tryd.prog 43 #[.slice ao n cap] w fun e w'=>e=.returned (.tuple #[.slice none 0 0,.int .i64 1])/\w'=w:=by
 go_enter Tryd.func43,Tryd.ntmps43
 go_wp2_with fail
 go_ret2
 exact ⟨rfl,rfl⟩
theorem endsOf_some (b off cap:Nat) (ks:List Int) (w:World) (hn:ks.length <= 60) (hbB:b < w.heap.size) (hK:KindsAt w b off ks) :
  Calls Tryd.prog 43 #[.slice (some ⟨b,off,none⟩) ks.length cap] w (EndsOfPost ks w):=by
 obtain ⟨n,hks⟩:∃ n,ks.length=n:=⟨_,rfl⟩
 rw [hks] at hn ⊢;have hend:=endOf_any b off n cap 0 ks w hn hks (by omega) hK
 rw [List.drop_zero] at hend;have HL:Hid (ks.length=n):=hks;have HK:Hid (KindsAt w b off ks):=hK;clear hK hks
 have HC:Hid (endsCode ks=match cnt ks 1 with
  | .no x=>x
  | .ok m=>if m < n then 3 else 0):=by
  show endsCode ks=_
  unfold endsCode;rw [HL.out,if_neg (by omega)];cases cnt ks 1 <;> rfl
 cases hr:cnt ks 1 with
 | no x=>
  rw [hr] at hend HC;simp only [endOfVal] at hend;have hx:=cnt_err _ _ _ hr;clear hr;have hx0:¬ x=0:=by omega
  have hne:endsCode ks≠0:=by rw [HC.out];exact hx0
  go_enter Tryd.func43,Tryd.ntmps43
  go_wp2_with (go_at_call 57;refine hend.mono ?_;rintro e w2 ⟨rfl,rfl⟩)
  go_ret2
  exact ⟨Below.refl _ _,fun _=>by rw [HC.out];rfl,fun h=>absurd h hne⟩
 | ok m=>
  rw [hr] at hend HC;simp only [endOfVal,Nat.zero_add] at hend;have HR:Hid (cnt ks 1=.ok m):=hr;clear hr
  by_cases hm:m < n
  ·have hne:endsCode ks≠0:=by rw [HC.out];simp [hm]
   go_enter Tryd.func43,Tryd.ntmps43
   go_wp2_with (go_at_call 57;refine hend.mono ?_;rintro e w2 ⟨rfl,rfl⟩)
   go_ret2
   exact ⟨Below.refl _ _,fun _=>by rw [HC.out];simp [hm],fun h=>absurd h hne⟩
  ·have he:endsCode ks=0:=by rw [HC.out];simp [hm]
   have hmn:m=n:=by have:=(cnt_le _ _ _ HR.out).2;rw [HL.out] at this;omega
   subst hmn;clear hm;obtain ⟨i0,hi,hz0,hz1,hz2⟩:=info_parts infoInt
   go_enter Tryd.func43,Tryd.ntmps43
   go_wp2_with (go_at_call 57;refine hend.mono ?_;rintro e w2 ⟨rfl,rfl⟩)
   go_loopw [6,7] (fun v i wr=>∃ k:Nat,k <= m/\i=.int .i64 k/\wr.ownsRow w2.heap.size 3 1 v k ((List.range k).map fun q=>.int .i64 (endAt ks q))/\Below w2.heap.size w2 wr) (fun _ i _=>m - (intOf i).toNat)
   case atStart=>exact ⟨0,Nat.zero_le _,rfl,World.ownsRow_nil _ _ _ _,Below.refl _ _⟩
   case round=>
    obtain ⟨k,hk,rfl,hown,hbel⟩:=hrel
    by_cases hlt:k < m
    ·obtain ⟨m',hm',hm1,hm2⟩:=cnt_in ks 1 m k HR.out hlt
     have hend':=endOf_any b off m cap k ks wr hn HL.out (by omega) (HK.out.below hbel hbB)
     rw [hm'] at hend';simp only [endOfVal] at hend';have HE:Hid (endAt ks k=k+m'):=endAt_ok hm';clear hm'
     go_wp2_with (first | (go_at_call 57;refine hend'.mono ?_;rintro e w3 ⟨rfl,rfl⟩) | (at_builtin;refine wpList_append_own _ rfl (.tmp 37) (.tmp 39) 80 rfl w2.heap.size 3 i0 (.int .i64 0) 1 8 Tryd.underlying80 hi hz0 hz1 hz2 rfl (by decide) _ _ _ rfl (hown.alloc _) ⟨_,0,none⟩ 1 1 _ rfl rfl (cell_one_new _ _ _) ?c2 ?c3 ?c4 ?c5 ?_))
     case c2=>intro u hu;simp at hu;subst hu;rfl
     case c3=>unfold maxLen;omega
     case c4=>omega
     case c5=>have:=hbel.size;simp;omega
     intro v' w4 hown' hgrow _;have hsz:=hbel.size;have hbel4:Below w2.heap.size w2 w4:=(hbel.alloc hsz _).grown hgrow (by simp;omega) (fun q hq=>(hown.lt q hq).1)
     have hown4:w4.ownsRow w2.heap.size 3 1 v' (k+1) ((List.range (k+1)).map fun q=>.int .i64 (endAt ks q)):=by
      rw [List.range_succ,List.map_append];simpa [HE.out] using hown'
     clear hown' hgrow hown hend' hend
     go_wp2
     go_roundw
     case rel=>exact ⟨k+1,by omega,by go_num,hown4,hbel4⟩
     case measure=>simp [intOf];omega
    ·have hkm:k=m:=by omega
     subst hkm;clear hlt hk
     go_wp2_with fail
     go_ret2
     exact ⟨hbel,fun h=>absurd he h,fun _=>⟨_,rfl,by rw [HL.out];exact hown⟩⟩
theorem endsOf_none (ao:Option Addr) (n cap:Nat) (HN:Hid (n=0)) (h60:n <= 60) (w:World) :
  Calls Tryd.prog 43 #[.slice ao n cap] w (EndsOfPost [] w):=by
 have hend:Calls Tryd.prog 57 #[.slice ao n cap,.int .i64 ((0:Nat):Int)] w fun e w'=>e=.returned (.tuple #[.int .i64 0,.int .i64 4])/\w'=w:=by
  rw [HN.out]
  go_enter Tryd.func57,Tryd.ntmps57
  go_wp2
  go_loop [6,7] (fun want i=>i=.int .i64 0/\want=.int .i64 1) (fun _ _=>0)
  case atStart=>exact ⟨rfl,rfl⟩
  case round=>
   obtain ⟨rfl,rfl⟩:=hrel
   go_wp2_with fail
   go_ret2
   exact ⟨rfl,rfl⟩
 go_enter Tryd.func43,Tryd.ntmps43
 go_wp2_with (go_at_call 57;refine hend.mono ?_;rintro e w2 ⟨rfl,rfl⟩)
 go_ret2
 exact ⟨Below.refl _ _,fun _=>rfl,fun h=>absurd h (by decide)⟩
theorem endsOf_any (v:Value) (ks:List Int) (w:World) (hK:Kinds w v ks) :
  Calls Tryd.prog 43 #[v] w (EndsOfPost ks w):=by
 obtain ⟨ao,cap,rfl,hk⟩:=hK
 by_cases h60:60 < ks.length
 ·have hc:endsCode ks=1:=by unfold endsCode;rw [if_pos h60]
  exact (endsOf_size ao _ cap w h60).mono fun e w' ⟨he,hb⟩=>⟨hb ▸ Below.refl _ _,fun _=>by rw [hc];exact he,fun h=>by rw [hc] at h;omega⟩
 ·by_cases hne:ks=[]
  ·subst hne
   exact endsOf_none ao 0 cap rfl (by omega) w
  ·obtain ⟨b,off,rfl,hlt,hK⟩:=hk hne
   exact endsOf_some b off cap ks w (by omega) hlt hK
