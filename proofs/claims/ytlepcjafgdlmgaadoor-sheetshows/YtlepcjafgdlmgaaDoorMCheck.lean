import Derived.Test.YtlepcjafgdlmgaaDoorMCheckVars
import Derived.Test.YtlepcjafgdlmgaaDoorExpr3
namespace Go.Proofs.YtlepcjafgdlmgaaDoor
open Go.ChangeShapes Go.WideShapes Go.ChangeAt Go.RowKit Go.Deep Go.Maps
open Terms Tm
set_option maxHeartbeats 6400000
set_option maxRecDepth 20000
theorem checkMakes_any (v:Value) (l:List (Int × Int)) (vars:Int) (tr:Bool) (w:World) (hB:0 < w.heap.size) (hT:TabAt w) (hV:OpsV w v l) :
  Calls Tryd.prog 33 #[v,.int .i64 vars,.bool tr] w fun e w'=>e=.returned (.int .i64 (kcode vars l tr))/\Below w.heap.size w w':=by
 have hch:=check_any v l vars (treeOf l) w hB hT hV (treeOf_spec l);obtain ⟨ao,cap,rfl⟩:=hV.shape;unfold kcode;generalize xcode vars l (treeOf l)=x at *;generalize mkT (treeOf l).kind=mk at *;clear hV hT
 by_cases hx:x=0
 ·subst hx
  rw [if_pos rfl];rw [show (decide ((0:Int)=0)&&mk)=mk by simp] at hch
  by_cases hm:mk=tr
  ·rw [if_pos hm]
   subst hm
   go_enter Tryd.func33,Tryd.ntmps33
   go_wp2_with (go_at_call 48;refine hch.mono ?_;rintro e w1 ⟨rfl,hb1⟩)
   all_goals go_ret
   all_goals exact ⟨rfl,hb1⟩
  ·rw [if_neg hm]
   have hne:(mk == tr)=false:=by simpa using hm
   go_enter Tryd.func33,Tryd.ntmps33
   go_wp2_with (go_at_call 48;refine hch.mono ?_;rintro e w1 ⟨rfl,hb1⟩)
   all_goals go_ret
   all_goals exact ⟨rfl,hb1⟩
 ·rw [if_neg hx]
  rw [show (decide (x=0)&&mk)=false by simp [hx]] at hch
  go_enter Tryd.func33,Tryd.ntmps33
  go_wp2_with (go_at_call 48;refine hch.mono ?_;rintro e w1 ⟨rfl,hb1⟩)
  all_goals go_ret
  all_goals exact ⟨rfl,hb1⟩
theorem lawInt:Keyed Tryd.prog 3:=int_keyed Tryd.underlying3
def SetsMet (w:World) (b:Nat) (l:List St) (k:Nat):Prop:=
 ∃ D:DataW Unit,w.ownsMap Tryd.prog 3 (plainElem Tryd.prog 3) b k D/\∀ x:Int,Maps.has D (.int .i64 x)=metVar l k x
theorem metVar_succ (l:List St) (k:Nat) (x:Int):metVar l (k+1) x=(metVar l k x||decide ((l.getD k st0).var=x)):=by
 simp [metVar,List.range_succ]
theorem sets_start (w:World) (l:List St):SetsMet (w.alloc (.map #[] 0)) w.heap.size l 0:=
 ⟨.map [],World.ownsMap_made _ _ _ _,fun _=>rfl⟩
theorem SetsMet.later {w w':World} {b:Nat} {l:List St} {k:Nat} (h:SetsMet w b l k) (hb:Below w.heap.size w w'):SetsMet w' b l k:=by
 obtain ⟨D,h1,h2⟩:=h;exact ⟨D,h1.kept (row:=none) ⟨hb.os,hb.tape,hb.output,hb.size,fun i hi _=>hb.block i hi⟩ (by simp),h2⟩
theorem sets_put {D:DataW Unit} {l:List St} {k:Nat} {x:Int} (d:DataW Unit) (hD:IsMap D) (hx:(l.getD k st0).var=x) (h:∀ x:Int,Maps.has D (.int .i64 x)=metVar l k x) :
  ∀ y:Int,Maps.has (D.put (.int .i64 x) d) (.int .i64 y)=metVar l (k+1) y:=by
 intro y;rw [metVar_succ,hx]
 by_cases he:x=y
 ·subst he
  rw [has_put_same hD (show WideAt.IsKeyLit (.int _ _) from trivial)]
  simp
 ·rw [has_put_other (fun h=>he (by injection h with _ h;exact h.symm)),h y]
  simp [he]
theorem sAt_eq {vars:Int} {l:List St} {k:Nat} {x:St} (hx:l.getD k st0=x) :
  (x.var < 0\/vars <= x.var->sAt vars l k=2)/\(¬ (x.var < 0\/vars <= x.var)->metVar l k x.var=true->sAt vars l k=7)/\(¬ (x.var < 0\/vars <= x.var)->metVar l k x.var=false->sAt vars l k=kcode vars x.val false):=by
 subst hx;refine ⟨fun h1=>?_,fun h1 h2=>?_,fun h1 h2=>?_⟩
 all_goals unfold sAt
 ·rw [if_pos h1]
 ·rw [if_neg h1,if_pos h2]
 ·rw [if_neg h1,if_neg (by rw [h2];decide)]
theorem checkRule_long (gv:Value) (so:Option Addr) (n cap:Nat) (vars:Int) (w:World) (h:6 < n) :
  Calls Tryd.prog 47 #[.agg #[gv,.slice so n cap],.int .i64 vars] w fun e w'=>e=.returned (.int .i64 1)/\Below w.heap.size w w':=by
 go_enter Tryd.func47,Tryd.ntmps47
 go_wp2
 go_ret
 exact ⟨rfl,(Below.refl _ _).alloc (Nat.le_refl _) _⟩
theorem checkRule_guard (gv sv:Value) (r:Ru) (vars:Int) (w:World) (hB:0 < w.heap.size) (hT:TabAt w) (h6:r.sets.length <= 6) (hG:OpsV w gv r.guard) (hS:SetsV w sv r.sets) (h:kcode vars r.guard true≠0) :
  Calls Tryd.prog 47 #[.agg #[gv,sv],.int .i64 vars] w fun e w'=>e=.returned (.int .i64 (kcode vars r.guard true))/\Below w.heap.size w w':=by
 have hA:∀ o,Below w.heap.size w (w.alloc o):=fun o=>(Below.refl _ _).alloc (Nat.le_refl _) o
 have hcm:=fun o=>checkMakes_any gv r.guard vars true (w.alloc o) (Nat.lt_of_lt_of_le hB (hA o).size) (hT.below (hA o) hB) (hG.below (hA o))
 generalize kcode vars r.guard true=x at *;obtain ⟨ga,gc,rfl⟩:=hG.shape;obtain ⟨so,sc,rfl⟩:=hS.shape;clear hG hS hT
 go_enter Tryd.func47,Tryd.ntmps47
 go_wp2_with (go_at_call 33;refine (hcm _).mono ?_;rintro e w1 ⟨rfl,hb1⟩)
 go_ret
 exact ⟨rfl,(hA _).trans (hb1.mono (hA _).size)⟩
theorem checkRule_loop (gv sv:Value) (r:Ru) (vars:Int) (w:World) (hv6:vars <= 6) (hB:0 < w.heap.size) (hT:TabAt w) (h6:r.sets.length <= 6) (hG:OpsV w gv r.guard) (hS:SetsV w sv r.sets) (h:kcode vars r.guard true=0) :
  Calls Tryd.prog 47 #[.agg #[gv,sv],.int .i64 vars] w fun e w'=>e=.returned (.int .i64 (firstOf (sAt vars r.sets) r.sets.length))/\Below w.heap.size w w':=by
 have hA:∀ o,Below w.heap.size w (w.alloc o):=fun o=>(Below.refl _ _).alloc (Nat.le_refl _) o
 have hcm:=fun o=>checkMakes_any gv r.guard vars true (w.alloc o) (Nat.lt_of_lt_of_le hB (hA o).size) (hT.below (hA o) hB) (hG.below (hA o))
 rw [h] at hcm;obtain ⟨ga,gc,rfl⟩:=hG.shape;obtain ⟨so,sc,rfl⟩:=hS.shape;generalize hl:r.sets=l at *;have HS:Hid (SetsV w (.slice so l.length sc) l):=hS;have HT:Hid (TabAt w):=hT;obtain ⟨n,hn⟩:∃ n,n=l.length:=⟨_,rfl⟩
 have HN:Hid (n=l.length):=hn;rw [<- hn] at h6 HS ⊢;clear hG hS hT hn hl h;have hmm:=@run_makeMap Tryd.prog
 go_enter Tryd.func47,Tryd.ntmps47
 go_wp2_with (go_at_call 33;refine (hcm _).mono ?_;rintro e w1 ⟨rfl,hb1⟩;have hsz1:w.heap.size < w1.heap.size:=(by have:=hb1.size;simp at this;omega);have hcb:w1.cell? ⟨w.heap.size,1,none⟩=some (.slice so n sc):=(hb1.cell (p:=⟨w.heap.size,1,none⟩) (by simp)).trans (by simp [go_sem]);have hcb2:(w1.alloc (.map #[] 0)).cell? ⟨w.heap.size,1,none⟩=some (.slice so n sc):=(((Below.refl w1.heap.size w1).alloc (Nat.le_refl _) _).cell (p:=⟨w.heap.size,1,none⟩) hsz1).trans hcb)
 have hbw1:Below w.heap.size w w1:=(hA _).trans (hb1.mono (hA _).size);clear hcm hcb hcb2 hb1 hA
 go_loopw [27] (fun i wr=>∃ k:Nat,k <= n/\i=.int .i64 k/\Hid (∀ j,j < k->sAt vars l j=0)/\Hid (SetsMet wr w1.heap.size l k)/\Below w.heap.size w wr/\w1.heap.size < wr.heap.size) (fun i _=>n - (intOf i).toNat)
 case atStart=>exact ⟨0,Nat.zero_le _,rfl,fun j hj=>by omega,sets_start _ _,hbw1.alloc hbw1.size _,by simp⟩
 case round=>
  obtain ⟨k,hk,rfl,HJ,HM,hbel,hsz⟩:=hrel;clear hmm
  by_cases hlt:k < n
  ·obtain ⟨b,off,rfl,hblt,hat⟩:=HS.out.at (i:=k) (by rw [<- HN.out];exact hlt)
   have HAt:=(show Hid _ from sAt_eq (vars:=vars) (l:=l) (k:=k) rfl)
   have HHit:Hid (∀ c,sAt vars l k=c->c≠0->firstOf (sAt vars l) n=c):=fun c h1 h2=>by rw [firstOf_hit hlt HJ.out (by rw [h1];exact h2),h1]
   have HStep:Hid (sAt vars l k=0->∀ j,j < k+1->sAt vars l j=0):=fun h0 j hj=>by
    by_cases hjk:j=k
    ·subst hjk;exact h0
    ·exact HJ.out j (by omega)
   have HX:Hid (∃ x,l.getD k st0=x):=⟨_,rfl⟩
   obtain ⟨x,hx⟩:=HX.out;have HX2:Hid (l.getD k st0=x):=hx;rw [hx] at hat HAt;obtain ⟨y,val⟩:=x;obtain ⟨c0',u,c1',hOu⟩:=hat;obtain ⟨ua,uc,rfl⟩:=hOu.shape;have c0:=(hbel.cell (p:=⟨b,off+k*2,none⟩) hblt).trans c0';have c1:=(hbel.cell (p:=⟨b,off+k*2+1,none⟩) hblt).trans c1';simp only at c0 HAt hOu
   have hcm0:=(fun w2 (hb2:Below w.heap.size w w2)=>checkMakes_any _ val vars false w2 (Nat.lt_of_lt_of_le hB hb2.size) (HT.out.below hb2 hB) (hOu.below hb2))
   have HCM:=(show Hid _ from hcm0)
   obtain ⟨D,hown,hhas⟩:=HM.out;have hszw:w.heap.size <= wr.heap.size:=hbel.size;have hbA:=hbel.alloc hszw (.cells #[.int .i64 y,.slice ua val.length uc] 64);generalize val.length=vn at *;clear hx HX HJ HM c0' c1' hOu hcm0
   by_cases hy:y < 0\/vars <= y
   ·have HR:Hid (firstOf (sAt vars l) n=2):=HHit.out 2 (HAt.out.1 hy) (by decide)
    clear HAt HStep HHit HX2 hhas hown HCM
    by_cases hy0:y < 0
    all_goals
     go_wp2
     all_goals go_ret
     all_goals rw [HR.out]
     all_goals exact ⟨rfl,hbA⟩
   ·have hy1:0 <= y:=by omega
    have hy2:y < vars:=by omega
    have hwf:(Lit.int .i64 y).wf=true:=WalkArith.wf_i64 (by omega)
    have hkey:=keyOf_int_mk (P:=Tryd.prog) Tryd.underlying3 hwf;have hownA:=hown.alloc (.cells #[.int .i64 y,.slice ua vn uc] 64);have hhs:=hhas y
    cases hmet:metVar l k y with
    | true=>
     have HR:Hid (firstOf (sAt vars l) n=7):=HHit.out 7 (HAt.out.2.1 hy hmet) (by decide)
     rw [hmet] at hhs;clear HAt HStep HHit HX2 hhas hown hmet hy HCM
     go_wp2_with (at_lookup;refine wpList_lookup_own_ok_int _ rfl _ _ 108 rfl 3 3 .i64 lawInt Tryd.underlying108 Tryd.underlying3 (zeroInt _) w1.heap.size k _ rfl hownA _ _ rfl hkey ?_;intro c hat hwc;rw [hhs])
     go_ret
     rw [HR.out];exact ⟨rfl,hbA⟩
    | false=>
     rw [hmet] at hhs;have HP:=(show Hid _ from fun d=>sets_put (x:=y) d hown.isMap (by rw [HX2.out]) hhas)
     have hne:some wr.heap.size≠some w1.heap.size:=by intro h;have:=Option.some.inj h;omega
     have hcs:∀ w',(wr.alloc (.cells #[.int .i64 y,.slice ua vn uc] 64)).grownBy w' (some w1.heap.size)->w'.cell? ⟨wr.heap.size,1,none⟩=some (.slice ua vn uc):=fun w' hg=>
      hg.cell (a:=⟨wr.heap.size,1,none⟩) (by simp [go_sem]) hne
     have hszA:w.heap.size <= (wr.alloc (.cells #[.int .i64 y,.slice ua vn uc] 64)).heap.size:=by simp;omega
     have hown0:∀ q,some w1.heap.size=some q->w.heap.size <= q:=fun q hq=>by obtain rfl:=Option.some.inj hq;omega
     have hkm:k < maxLen:=by unfold maxLen;omega
     have hwk:(Lit.int .i64 (k:Int)).wf=true:=WalkArith.wf_i64 (by omega)
     have HA2:=(show Hid _ from HAt.out.2.2 hy hmet)
     have hcm0:=HCM.out;have HsA:Hid (w1.heap.size < (wr.alloc (.cells #[.int .i64 y,.slice ua vn uc] 64)).heap.size):=by show _ < _;simp;omega
     obtain ⟨x,hx⟩:∃ x,kcode vars val false=x:=⟨_,rfl⟩
     rw [hx] at hcm0 HA2;clear HAt HX2 hhas hown hmet hy HCM hx
     by_cases hx0:x=0
     ·subst hx0
      have HJ2:=(show Hid _ from HStep.out HA2.out)
      clear HStep HHit HA2
      go_wp2_with (first | (at_lookup;refine wpList_lookup_own_ok_int _ rfl _ _ 108 rfl 3 3 .i64 lawInt Tryd.underlying108 Tryd.underlying3 (zeroInt _) w1.heap.size k _ rfl hownA _ _ rfl hkey ?_;intro c hat hwc;rw [hhs]) | (at_mapUpdate;refine wpList_mapUpdate_own _ rfl _ _ _ 108 rfl 3 3 lawInt Tryd.underlying108 _ w1.heap.size k _ rfl hownA hkm _ _ _ rfl rfl hkey _ [] (plainElem_int Tryd.underlying3 hwk) ?_;intro w2 hown1 hgrow1;have d1:=hcs w2 hgrow1;have hb2:=hbA.grown hgrow1 hszA hown0;have HO2:Hid (SetsMet w2 w1.heap.size l (k+1)):=⟨_,hown1,HP.out _⟩;clear hown1;have hcm:=hcm0 w2 hb2) | (go_at_call 33;refine hcm.mono ?_;rintro e w3 ⟨rfl,hb3⟩))
      go_roundw
      case rel=>exact ⟨k+1,hlt,by go_num,HJ2,HO2.out.later hb3,hb2.trans (hb3.mono hb2.size),Nat.lt_of_lt_of_le (Nat.lt_of_lt_of_le HsA.out hgrow1.size) hb3.size⟩
      case measure=>simp [intOf];omega
     ·have HR:Hid (firstOf (sAt vars l) n=x):=HHit.out x HA2.out hx0
      clear HStep HHit HA2
      go_wp2_with (first | (at_lookup;refine wpList_lookup_own_ok_int _ rfl _ _ 108 rfl 3 3 .i64 lawInt Tryd.underlying108 Tryd.underlying3 (zeroInt _) w1.heap.size k _ rfl hownA _ _ rfl hkey ?_;intro c hat hwc;rw [hhs]) | (at_mapUpdate;refine wpList_mapUpdate_own _ rfl _ _ _ 108 rfl 3 3 lawInt Tryd.underlying108 _ w1.heap.size k _ rfl hownA hkm _ _ _ rfl rfl hkey _ [] (plainElem_int Tryd.underlying3 hwk) ?_;intro w2 hown1 hgrow1;have d1:=hcs w2 hgrow1;have hb2:=hbA.grown hgrow1 hszA hown0;have HO2:Hid (SetsMet w2 w1.heap.size l (k+1)):=⟨_,hown1,HP.out _⟩;clear hown1;have hcm:=hcm0 w2 hb2) | (go_at_call 33;refine hcm.mono ?_;rintro e w3 ⟨rfl,hb3⟩))
      go_ret
      rw [HR.out];exact ⟨rfl,hb2.trans (hb3.mono hb2.size)⟩
  ·have hkn:k=n:=by omega
   have HR:Hid (firstOf (sAt vars l) n=0):=firstOf_none (fun j hj=>HJ.out j (by omega))
   clear HM
   go_wp2
   go_ret
   rw [HR.out];exact ⟨rfl,hbel⟩
theorem checkRule_any (gv sv:Value) (r:Ru) (vars:Int) (w:World) (hv6:vars <= 6) (hB:0 < w.heap.size) (hT:TabAt w) (hG:OpsV w gv r.guard) (hS:SetsV w sv r.sets) :
  Calls Tryd.prog 47 #[.agg #[gv,sv],.int .i64 vars] w fun e w'=>e=.returned (.int .i64 (rcode vars r))/\Below w.heap.size w w':=by
 unfold rcode
 by_cases h6:6 < r.sets.length
 ·rw [if_pos h6]
  obtain ⟨so,cap,rfl⟩:=hS.shape;exact checkRule_long gv so _ cap vars w h6
 ·rw [if_neg h6]
  by_cases hk:kcode vars r.guard true=0
  ·rw [if_pos hk]
   exact checkRule_loop gv sv r vars w hv6 hB hT (by omega) hG hS hk
  ·rw [if_neg hk]
   exact checkRule_guard gv sv r vars w hB hT (by omega) hG hS hk
