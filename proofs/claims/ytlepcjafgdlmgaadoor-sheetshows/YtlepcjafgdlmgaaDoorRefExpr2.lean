import Derived.Test.YtlepcjafgdlmgaaDoorRefExpr
import Derived.Test.YtlepcjafgdlmgaaDoorRefEndsV
namespace Go.Proofs.YtlepcjafgdlmgaaDoor
open Go.ChangeShapes Go.WideShapes Go.ChangeAt Go.RowKit Go.Deep
open Terms Tm
set_option maxHeartbeats 6400000
set_option maxRecDepth 20000
theorem rc_range (ao:Option Addr) (n cap:Nat) (vars:Int) (w:World) (h:vars < 0\/6 < vars) :
  Calls Tryd.prog 56 #[.slice ao n cap,.int .i64 vars] w fun e w'=>e=.returned (.tuple #[.bool false,.int .i64 2])/\Below w.heap.size w w':=by
 have hin:=fun w=>in_any vars 0 6 w
 rw [show decide (0 <= vars/\vars <= 6)=false by simp;omega] at hin
 clear h
 go_enter Tryd.func56,Tryd.ntmps56
 go_wp2_with (go_at_call 42;refine (hin _).mono ?_;rintro e w1 ⟨rfl,rfl⟩)
 all_goals go_ret2
 all_goals exact ⟨rfl,Below.refl _ _⟩
theorem rc_ends (v:Value) (ks:List Int) (vars:Int) (w:World) (h0:0 <= vars) (h6:vars <= 6) (hK:Kinds w v ks) (hz:endsCode ks≠0) :
  Calls Tryd.prog 56 #[v,.int .i64 vars] w fun e w'=>e=.returned (.tuple #[.bool false,.int .i64 (endsCode ks)])/\Below w.heap.size w w':=by
 have hin:=fun w=>in_any vars 0 6 w
 rw [show decide (0 <= vars/\vars <= 6)=true by simp;omega] at hin
 have hends:Calls Tryd.prog 43 #[v] w fun e w'=>e=.returned (.tuple #[.slice none 0 0,.int .i64 (endsCode ks)])/\Below w.heap.size w w':=(endsOf_any v ks w hK).mono fun e w' ⟨h1,h2,_⟩=>⟨h2 hz,h1⟩
 generalize endsCode ks=x at *;obtain ⟨ao,cap,rfl,_⟩:=hK;clear h0 h6
 go_enter Tryd.func56,Tryd.ntmps56
 go_wp2_with (first | (go_at_call 42;refine (hin _).mono ?_;rintro e w0 ⟨rfl,rfl⟩) | (go_at_call 43;refine hends.mono ?_;rintro e w1 ⟨rfl,hb1⟩))
 go_ret2
 exact ⟨rfl,hb1⟩
theorem rc_tree (b off n cap:Nat) (vars:Int) (t:Tm) (w:World) (hn:n=t.size) (h60:n <= 60) (h0:0 <= vars) (h6:vars <= 6) (hwf:t.Wf) (hbB:b < w.heap.size) (hcap:n <= cap) (hA:OpsAt w b off t.ops) :
  Calls Tryd.prog 56 #[.slice (some ⟨b,off,none⟩) n cap,.int .i64 vars] w fun e w'=>e=.returned (.tuple #[.bool (decide (xcode vars t.ops t=0)&&mkT t.kind),.int .i64 (xcode vars t.ops t)])/\Below w.heap.size w w':=by
 have hz:endsCode (t.ops.map Prod.fst)=0:=tree_code hwf (by omega)
 have hV:OpsV w (.slice (some ⟨b,off,none⟩) n cap) t.ops:=⟨_,cap,by rw [ops_length,hn],⟨by rw [ops_length,<- hn];exact hcap,fun h=>by simp at h⟩,fun _=>⟨b,off,rfl,hbB,hA⟩⟩
 have hends:Calls Tryd.prog 43 #[.slice (some ⟨b,off,none⟩) n cap] w fun e w'=>Below w.heap.size w w'/\∃ v a c,e=.returned (.tuple #[.slice v a c,.int .i64 0]):=
  (endsOf_v _ _ w hV.kinds).mono fun e w' ⟨v',he,hb,hi⟩=>⟨hb,by obtain ⟨a,c,rfl,_⟩:=hi;rw [hz] at he;exact ⟨_,_,_,he⟩⟩
 have hin:=fun w=>in_any vars 0 6 w
 rw [show decide (0 <= vars/\vars <= 6)=true by simp;omega] at hin
 have hnr:¬ (vars < 0\/6 < vars):=by omega
 have HO:Hid (∀ i,i < n->(∀ j,j < i->opErr vars (t.ops.getD j (0,0))=0)->opErr vars (t.ops.getD i (0,0))≠0->xcode vars t.ops t=opErr vars (t.ops.getD i (0,0))):=fun i hi hj hne=>by
  have hx:=firstErr_at (by rw [ops_length,<- hn];exact hi) hj hne
  rw [xcode_op hnr hz (by rw [hx];exact hne),hx]
 have HT2:Hid ((∀ j,j < n->opErr vars (t.ops.getD j (0,0))=0)->t.Good vars/\xcode vars t.ops t=if t.typed=true then 0 else 5):=fun hj=>by
  have hf:firstErr vars t.ops=0:=firstErr_none (by rw [ops_length,<- hn];exact hj)
  exact ⟨good_of hwf (firstErr_all hf),xcode_type hnr hz hf⟩
 have HW1:Hid (∀ i,i < n->1 <= (t.ops.getD i (0,0)).1):=fun i hi=>by
  rw [op_at t (by omega)]
  have:=sub_wf hwf i
  have hk:okK (t.sub i).kind=true:=by
   generalize t.sub i=s at this
   cases s <;> exact this.1
  simp [okK] at hk
  exact hk.1
 have HA:Hid (OpsAt w b off t.ops):=hA;have HV:Hid (OpsV w (.slice (some ⟨b,off,none⟩) n cap) t.ops):=hV;have HN:Hid (n=t.size):=hn;have hn1:0 < n:=by rw [hn];exact t.size_pos
 have hck:=(hA 0 (by rw [ops_length];exact t.size_pos)).1
 rw [t.ops_head,Nat.zero_mul,Nat.add_zero] at hck;simp only at hck
 clear hz hV hA hwf hn hnr
 go_enter Tryd.func56,Tryd.ntmps56
 go_wp2_with (first | (go_at_call 42;refine (hin _).mono ?_;rintro e w0 ⟨rfl,rfl⟩) | (go_at_call 43;refine hends.mono ?_;rintro e w1 ⟨hb1,ev,ea,ec,rfl⟩))
 clear hends hin
 go_loopw [8] (fun c wr=>∃ i:Nat,i <= n/\c=.int .i64 i/\Below w1.heap.size w1 wr/\Hid (∀ j,j < i->opErr vars (t.ops.getD j (0,0))=0)) (fun c _=>n - (intOf c).toNat)
 case atStart=>exact ⟨0,Nat.zero_le _,rfl,Below.refl _ _,fun j hj=>by omega⟩
 case round=>
  obtain ⟨i,hi,rfl,hbel,HJ⟩:=hrel;have hsz1:=hb1.size;have hsz2:=hbel.size
  by_cases hlt:i < n
  ·have hbw:=hb1.trans (hbel.mono hb1.size)
   obtain ⟨c0,c1⟩:=(HA.out.below hbw hbB) i (by rw [ops_length,<- HN.out];exact hlt)
   have HOi:=(show Hid _ from HO.out i hlt HJ.out)
   have hk1:=HW1.out i hlt
   have HJ2:Hid (opErr vars (t.ops.getD i (0,0))=0->∀ j,j < i+1->opErr vars (t.ops.getD j (0,0))=0):=fun h j hj=>by
    by_cases hji:j < i
    ·exact HJ.out j hji
    ·obtain rfl:j=i:=by omega
     exact h
   generalize t.ops.getD i (0,0)=xy at c0 c1 HOi HJ2 hk1;obtain ⟨x,y⟩:=xy;simp only at c0 c1 hk1
   have HBA:Hid (∀ o,Below w1.heap.size w1 (wr.alloc o)):=fun o=>hbel.alloc hbel.size o
   have HBS:Hid (∀ o v,Below w1.heap.size w1 ((wr.alloc o).setCell ⟨wr.heap.size,0,none⟩ v)):=fun o v=>(hbel.alloc hbel.size o).setCell hbel.size v
   clear hbw hbel
   by_cases hx12:12 < x
   ·have HX:Hid (xcode vars t.ops t=13):=by
     have h:=HOi.out (by simp [opErr,hx12])
     rw [show opErr vars (x,y)=13 by simp [opErr,hx12]] at h
     exact h
    clear HOi HJ2
    go_wp2_with fail
    go_ret2
    rw [HX.out];exact ⟨rfl,hb1.trans (Below.mono (by first | exact HBA.out _ | exact HBS.out _ _) hb1.size)⟩
   ·have hx12':x <= 12:=by omega
    by_cases hx1:x=1
    ·subst hx1
     have hin:=fun w=>in_any y (-1000) 1000 w
     by_cases hv:-1000 <= y/\y <= 1000
     ·have HJ3:Hid (∀ j,j < i+1->opErr vars (t.ops.getD j (0,0))=0):=HJ2.out (by simp [opErr,hv])
      rw [show decide (-1000 <= y/\y <= 1000)=true by simp [hv]] at hin
      clear HOi HJ2 hv
      go_wp2_with (go_at_call 42;refine (hin _).mono ?_;rintro e w2 ⟨rfl,rfl⟩)
      go_roundw
      case rel=>exact ⟨i+1,by omega,by go_num,by first | exact HBA.out _ | exact HBS.out _ _,HJ3⟩
      case measure=>simp [intOf];omega
     ·have ho:opErr vars (1,y)=2:=by simp [opErr];omega
      have HX:Hid (xcode vars t.ops t=2):=by have h:=HOi.out (by rw [ho];decide);rw [ho] at h;exact h
      rw [show decide (-1000 <= y/\y <= 1000)=false by simp;omega] at hin
      clear HOi HJ2 hv ho
      go_wp2_with (go_at_call 42;refine (hin _).mono ?_;rintro e w2 ⟨rfl,rfl⟩)
      go_ret2
      rw [HX.out];exact ⟨rfl,hb1.trans (Below.mono (by first | exact HBA.out _ | exact HBS.out _ _) hb1.size)⟩
    ·by_cases hx2:x=2
     ·subst hx2
      have hin:=fun w=>in_any y 0 (vars - 1) w
      by_cases hv:0 <= y/\y <= vars - 1
      ·have HJ3:Hid (∀ j,j < i+1->opErr vars (t.ops.getD j (0,0))=0):=HJ2.out (by simp [opErr];omega)
       rw [show decide (0 <= y/\y <= vars - 1)=true by simp;omega] at hin
       clear HOi HJ2 hv
       go_wp2_with (go_at_call 42;refine (hin _).mono ?_;rintro e w2 ⟨rfl,rfl⟩)
       go_roundw
       case rel=>exact ⟨i+1,by omega,by go_num,by first | exact HBA.out _ | exact HBS.out _ _,HJ3⟩
       case measure=>simp [intOf];omega
      ·have ho:opErr vars (2,y)=2:=by simp [opErr];omega
       have HX:Hid (xcode vars t.ops t=2):=by have h:=HOi.out (by rw [ho];decide);rw [ho] at h;exact h
       rw [show decide (0 <= y/\y <= vars - 1)=false by simp;omega] at hin
       clear HOi HJ2 hv ho
       go_wp2_with (go_at_call 42;refine (hin _).mono ?_;rintro e w2 ⟨rfl,rfl⟩)
       go_ret2
       rw [HX.out];exact ⟨rfl,hb1.trans (Below.mono (by first | exact HBA.out _ | exact HBS.out _ _) hb1.size)⟩
     ·have hx3:2 < x:=by omega
      by_cases hv:y=0
      ·subst hv
       have HJ3:Hid (∀ j,j < i+1->opErr vars (t.ops.getD j (0,0))=0):=HJ2.out (by simp [opErr,hx1,hx2];omega)
       clear HOi HJ2
       go_wp2_with fail
       go_roundw
       case rel=>exact ⟨i+1,by omega,by go_num,by first | exact HBA.out _ | exact HBS.out _ _,HJ3⟩
       case measure=>simp [intOf];omega
      ·have ho:opErr vars (x,y)=2:=by simp [opErr,hx1,hx2,hv];omega
       have HX:Hid (xcode vars t.ops t=2):=by have h:=HOi.out (by rw [ho];decide);rw [ho] at h;exact h
       clear HOi HJ2 ho
       go_wp2_with fail
       go_ret2
       rw [HX.out];exact ⟨rfl,hb1.trans (Below.mono (by first | exact HBA.out _ | exact HBS.out _ _) hb1.size)⟩
  ·have hin:i=n:=by omega
   subst hin;obtain ⟨hg,hx⟩:=HT2.out HJ.out;have hbw:=hb1.trans (hbel.mono hb1.size);have hty:=typed_any vars _ t _ wr (Nat.le_refl _) (by rw [<- HN.out];exact h60) hg (HV.out.below hbw)
   have hcw:=(hbw.cell (p:=⟨b,off,none⟩) hbB).trans hck;have hmk:=fun w=>rmakesTruth_any t.kind w
   generalize hkk:t.kind=k0 at hcw hmk hck
   by_cases htt:t.typed=true
   ·have HX:Hid (xcode vars t.ops t=0/\t.kind=k0):=⟨by rw [hx,if_pos htt],hkk⟩
    rw [if_pos htt] at hty;clear hx htt HT2 HO HJ hkk hg hlt hi
    go_wp2_with (first | (go_at_call 70;refine hty.mono ?_;rintro e w2 ⟨rfl,hb2⟩;have hc2:=(hb2.cell (p:=⟨b,off,none⟩) (by have:=hbw.size;simp only;omega)).trans hcw) | (go_at_call 71;refine (hmk _).mono ?_;rintro e w3 ⟨rfl,rfl⟩))
    go_ret2
    rw [HX.out.1,HX.out.2];exact ⟨rfl,hbw.trans (hb2.mono hbw.size)⟩
   ·have HX:Hid (xcode vars t.ops t=5):=by show _=_;rw [hx,if_neg htt]
    rw [if_neg htt] at hty;clear hx htt HT2 HO HJ hkk hg hlt hi
    go_wp2_with (go_at_call 70;refine hty.mono ?_;rintro e w2 ⟨rfl,hb2⟩)
    go_ret2
    rw [HX.out];exact ⟨rfl,hbw.trans (hb2.mono hbw.size)⟩
theorem exprChecked_any (v:Value) (l:List (Int × Int)) (vars:Int) (t:Tm) (w:World) (hV:OpsV w v l) (ht:endsCode (l.map Prod.fst)=0->t.Wf/\t.ops=l) :
  Calls Tryd.prog 56 #[v,.int .i64 vars] w fun e w'=>e=.returned (.tuple #[.bool (decide (xcode vars l t=0)&&mkT t.kind),.int .i64 (xcode vars l t)])/\Below w.heap.size w w':=by
 by_cases hr:vars < 0\/6 < vars
 ·rw [xcode_range hr]
  obtain ⟨ao,cap,rfl,_⟩:=hV;exact rc_range ao _ cap vars w hr
 ·by_cases hz:endsCode (l.map Prod.fst)=0
  ·obtain ⟨hwf,hops⟩:=ht hz
   obtain ⟨h60,_⟩:=code_zero hz;rw [List.length_map] at h60;subst hops;obtain ⟨ao,cap,rfl,hcap,h⟩:=hV;obtain ⟨b,off,rfl,hlt,hat⟩:=h t.ops_ne;exact rc_tree b off _ cap vars t w t.ops_length h60 (by omega) (by omega) hwf hlt hcap.1 hat
  ·rw [xcode_ends hr hz]
   rw [show (decide (endsCode (l.map Prod.fst)=0)&&mkT t.kind)=false by simp [hz]]
   exact rc_ends v _ vars w (by omega) (by omega) hV.kinds hz
