import Derived.Test.YtlepcjafgdlmgaaDoorLogicM
import Derived.Test.YtlepcjafgdlmgaaDoorRefEndsV
import Derived.Test.YtlepcjafgdlmgaaDoorRefExpr
namespace Go.Proofs.YtlepcjafgdlmgaaDoor
open Go.ChangeShapes Go.WideShapes Go.ChangeAt Go.RowKit Go.Deep
open Terms
set_option maxHeartbeats 6400000
set_option maxRecDepth 20000
theorem rlook_any (k:Int) (w:World) :
  Calls Tryd.prog 44 #[.int .i64 k] w fun e w'=>e=.returned (.bool (lookB k))/\w'=w:=by
 have hin:=fun w=>in_any k 14 18 w
 rw [show lookB k=decide (14 <= k/\k <= 18) from rfl]
 generalize decide (14 <= k/\k <= 18)=bb at *
 go_enter Tryd.func44,Tryd.ntmps44
 go_wp2_with (go_at_call 42;refine (hin _).mono ?_;rintro e w1 ⟨rfl,rfl⟩)
 go_ret
 exact ⟨rfl,rfl⟩
theorem fault_any (v:Value) (l:List (Int × Int)) (props:Int) (w:World) (hV:OpsV w v l) :
  Calls Tryd.prog 30 #[v,.int .i64 props] w fun e w'=>e=.returned (.int .i64 (lcode props l))/\Below w.heap.size w w':=by
 have hin:=fun w=>in_any props 0 6 w
 by_cases hr:props < 0\/6 < props
 ·rw [lcode_range hr]
  rw [show decide (0 <= props/\props <= 6)=false by simp;omega] at hin
  obtain ⟨ao,cap,rfl,_⟩:=hV;clear hr
  go_enter Tryd.func30,Tryd.ntmps30
  go_wp2_with (go_at_call 42;refine (hin _).mono ?_;rintro e w1 ⟨rfl,rfl⟩)
  go_ret
  exact ⟨rfl,Below.refl _ _⟩
 ·rw [show decide (0 <= props/\props <= 6)=true by simp;omega] at hin
  have hends:=endsOf_v v (l.map Prod.fst) w hV.kinds
  by_cases hz:endsCode (l.map Prod.fst)=0
  ·obtain ⟨hne,h60⟩:=ends_ne hz
   rw [List.length_map] at h60;rw [hz] at hends;have hlne:l≠[]:=by rintro rfl;exact hne rfl
   obtain ⟨ao,cap,rfl,h0,h⟩:=hV;obtain ⟨b,off,rfl,hblt,hat⟩:=h hlne;have h0p:0 <= props:=by omega
   have h6p:props <= 6:=by omega
   have HO:Hid (∀ i,i < l.length->(∀ j,j < i->lopErr props (l.getD j (0,0))=0)->lopErr props (l.getD i (0,0))≠0->lcode props l=lopErr props (l.getD i (0,0))):=fun i hi hj hne=>by
    have hx:=lfirst_at hi hj hne;rw [lcode_op hr hz (by rw [hx];exact hne),hx]
   have HE:Hid ((∀ j,j < l.length->lopErr props (l.getD j (0,0))=0)->lcode props l=if 6 < (aheadTo l l.length).length then 1 else 0):=fun hj=>lcode_many hr hz (lfirst_none hj)
   have HA:Hid (OpsAt w b off l):=hat;obtain ⟨n,hn⟩:∃ n,n=l.length:=⟨_,rfl⟩
   have HN:Hid (n=l.length):=hn;rw [<- hn] at h60 HO HE hends ⊢;clear h0 h hat hne hlne hz hr hn
   go_enter Tryd.func30,Tryd.ntmps30
   go_wp2_with (first | (go_at_call 42;refine (hin _).mono ?_;rintro e w1 ⟨rfl,rfl⟩) | (go_at_call 43;refine hends.mono ?_;rintro e w1 ⟨v',rfl,hb1,hi1⟩;obtain ⟨eo,ec,rfl,_⟩:=hi1))
   clear hin hends
   go_loopw [7,8] (fun m i wr=>∃ k:Nat,k <= n/\i=.int .i64 k/\m=.int .i64 ((aheadTo l k).length:Int)/\Hid (∀ j,j < k->lopErr props (l.getD j (0,0))=0)/\Below w1.heap.size w1 wr) (fun _ i _=>n - (intOf i).toNat)
   case atStart=>exact ⟨0,Nat.zero_le _,rfl,rfl,fun j hj=>by omega,Below.refl _ _⟩
   case round=>
    obtain ⟨k,hk,rfl,rfl,HJ,hbel⟩:=hrel;have hbw:=hb1.trans (hbel.mono hb1.size);have hlen:=aheadTo_length l k
    by_cases hlt:k < n
    ·obtain ⟨c0,c1⟩:=(HA.out.below hbw hblt) k (by rw [<- HN.out];exact hlt)
     have HOi:=(show Hid _ from HO.out k hlt HJ.out)
     have HJ2:Hid (lopErr props (l.getD k (0,0))=0->∀ j,j < k+1->lopErr props (l.getD j (0,0))=0):=fun h j hj=>by
      by_cases hji:j < k
      ·exact HJ.out j hji
      ·obtain rfl:j=k:=by omega
       exact h
     have HY:Hid (lookB (l.getD k (0,0)).1=true->aheadTo l (k+1)=aheadTo l k++[(k:Int)]):=aheadTo_yes;have HNo:Hid (lookB (l.getD k (0,0)).1=false->aheadTo l (k+1)=aheadTo l k):=aheadTo_no;generalize l.getD k (0,0)=xy at c0 c1 HOi HJ2 HY HNo;obtain ⟨x,y⟩:=xy;simp only at c0 c1 HY HNo
     obtain ⟨L,hL⟩:∃ L,L=(aheadTo l k).length:=⟨_,rfl⟩
     have HL:Hid (L=(aheadTo l k).length):=hL;rw [<- hL] at hlen ⊢;clear hL HO HE HA
     by_cases hx8:x < 8
     ·have he:lopErr props (x,y)=13:=by simp [lopErr,hx8]
      have HX:Hid (lcode props l=13):=by show _=_;rw [HOi.out (by rw [he];decide),he]
      clear he HOi HJ2 HY HNo
      go_wp2_with fail
      go_ret
      rw [HX.out];exact ⟨rfl,hbw⟩
     ·have hlk:=fun w=>rlook_any x w
      have hiv:=fun w=>in_any y 0 (if x=13 then props - 1 else 0) w
      by_cases hy:0 <= y/\y <= (if x=13 then props - 1 else 0)
      ·have he:lopErr props (x,y)=0:=by simp only [lopErr];rw [if_neg hx8,if_neg (by omega)]
       have HJ3:=(show Hid _ from HJ2.out he)
       rw [decide_eq_true hy] at hiv;clear he HOi HJ2 hy HJ
       cases hb:lookB x with
       | true=>
        have HAh:=(show Hid _ from HY.out hb)
        rw [hb] at hlk;clear HY HNo hb
        by_cases h13:x=13
        ·subst h13
         simp only [if_true] at hiv
         go_wp2_with (first | (go_at_call 42;refine (hiv _).mono ?_;rintro e w2 ⟨rfl,rfl⟩) | (go_at_call 44;refine (hlk _).mono ?_;rintro e w2 ⟨rfl,rfl⟩))
         go_roundw
         case rel=>exact ⟨k+1,hlt,by go_num,by rw [HAh.out,List.length_append,<- HL.out];go_num,HJ3.out,hbel⟩
         case measure=>simp [intOf];omega
        ·rw [if_neg h13] at hiv
         go_wp2_with (first | (go_at_call 42;refine (hiv _).mono ?_;rintro e w2 ⟨rfl,rfl⟩) | (go_at_call 44;refine (hlk _).mono ?_;rintro e w2 ⟨rfl,rfl⟩))
         go_roundw
         case rel=>exact ⟨k+1,hlt,by go_num,by rw [HAh.out,List.length_append,<- HL.out];go_num,HJ3.out,hbel⟩
         case measure=>simp [intOf];omega
       | false=>
        have HAh:=(show Hid _ from HNo.out hb)
        rw [hb] at hlk;clear HY HNo hb
        by_cases h13:x=13
        ·subst h13
         simp only [if_true] at hiv
         go_wp2_with (first | (go_at_call 42;refine (hiv _).mono ?_;rintro e w2 ⟨rfl,rfl⟩) | (go_at_call 44;refine (hlk _).mono ?_;rintro e w2 ⟨rfl,rfl⟩))
         go_roundw
         case rel=>exact ⟨k+1,hlt,by go_num,by rw [HAh.out,<- HL.out],HJ3.out,hbel⟩
         case measure=>simp [intOf];omega
        ·rw [if_neg h13] at hiv
         go_wp2_with (first | (go_at_call 42;refine (hiv _).mono ?_;rintro e w2 ⟨rfl,rfl⟩) | (go_at_call 44;refine (hlk _).mono ?_;rintro e w2 ⟨rfl,rfl⟩))
         go_roundw
         case rel=>exact ⟨k+1,hlt,by go_num,by rw [HAh.out,<- HL.out],HJ3.out,hbel⟩
         case measure=>simp [intOf];omega
      ·have he:lopErr props (x,y)=2:=by simp only [lopErr];rw [if_neg hx8,if_pos (by omega)]
       have HX:Hid (lcode props l=2):=by show _=_;rw [HOi.out (by rw [he];decide),he]
       rw [decide_eq_false hy] at hiv;clear he HOi HJ2 HY HNo hy
       by_cases h13:x=13
       ·subst h13
        simp only [if_true] at hiv
        go_wp2_with (go_at_call 42;refine (hiv _).mono ?_;rintro e w2 ⟨rfl,rfl⟩)
        go_ret
        rw [HX.out];exact ⟨rfl,hbw⟩
       ·rw [if_neg h13] at hiv
        go_wp2_with (go_at_call 42;refine (hiv _).mono ?_;rintro e w2 ⟨rfl,rfl⟩)
        go_ret
        rw [HX.out];exact ⟨rfl,hbw⟩
    ·have hkn:k=n:=by omega
     subst hkn;have HX:=(show Hid _ from HE.out HJ.out)
     obtain ⟨L,hL⟩:∃ L,L=(aheadTo l k).length:=⟨_,rfl⟩
     rw [<- hL] at hlen HX ⊢;clear hL HO HE HA HJ
     by_cases h6L:6 < L
     ·have HX2:Hid (lcode props l=1):=by show _=_;rw [HX.out,if_pos h6L]
      go_wp2_with fail
      go_ret
      rw [HX2.out];exact ⟨rfl,hbw⟩
     ·have HX2:Hid (lcode props l=0):=by show _=_;rw [HX.out,if_neg h6L]
      go_wp2_with fail
      go_ret
      rw [HX2.out];exact ⟨rfl,hbw⟩
  ·rw [lcode_ends hr hz]
   obtain ⟨ao,cap,rfl,_⟩:=hV;generalize endsCode (l.map Prod.fst)=x at *;clear hr
   go_enter Tryd.func30,Tryd.ntmps30
   go_wp2_with (first | (go_at_call 42;refine (hin _).mono ?_;rintro e w1 ⟨rfl,rfl⟩) | (go_at_call 43;refine hends.mono ?_;rintro e w1 ⟨v',rfl,hb1,hi1⟩;obtain ⟨eo,ec,rfl,_⟩:=hi1))
   go_ret
   exact ⟨rfl,hb1⟩
