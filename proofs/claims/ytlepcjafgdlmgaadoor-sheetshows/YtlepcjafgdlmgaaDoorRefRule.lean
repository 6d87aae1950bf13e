import Derived.Test.YtlepcjafgdlmgaaDoorRefVars
import Derived.Test.YtlepcjafgdlmgaaDoorRefExpr2
namespace Go.Proofs.YtlepcjafgdlmgaaDoor
open Go.ChangeShapes Go.WideShapes Go.ChangeAt Go.RowKit Go.Deep
open Terms Tm
set_option maxHeartbeats 6400000
set_option maxRecDepth 20000
theorem kindFault_any (v:Value) (l:List (Int × Int)) (vars:Int) (tr:Bool) (w:World) (hV:OpsV w v l) :
  Calls Tryd.prog 41 #[v,.int .i64 vars,.bool tr] w fun e w'=>e=.returned (.int .i64 (kcode vars l tr))/\Below w.heap.size w w':=by
 have hch:=exprChecked_any v l vars (treeOf l) w hV (treeOf_spec l);obtain ⟨ao,cap,rfl⟩:=hV.shape;unfold kcode;generalize xcode vars l (treeOf l)=x at *;generalize mkT (treeOf l).kind=mk at *;clear hV
 by_cases hx:x=0
 ·subst hx
  rw [if_pos rfl];rw [show (decide ((0:Int)=0)&&mk)=mk by simp] at hch
  by_cases hm:mk=tr
  ·rw [if_pos hm]
   subst hm
   go_enter Tryd.func41,Tryd.ntmps41
   go_wp2_with (go_at_call 56;refine hch.mono ?_;rintro e w1 ⟨rfl,hb1⟩)
   all_goals go_ret
   all_goals exact ⟨rfl,hb1⟩
  ·rw [if_neg hm]
   have hne:(mk == tr)=false:=by simpa using hm
   go_enter Tryd.func41,Tryd.ntmps41
   go_wp2_with (go_at_call 56;refine hch.mono ?_;rintro e w1 ⟨rfl,hb1⟩)
   all_goals go_ret
   all_goals exact ⟨rfl,hb1⟩
 ·rw [if_neg hx]
  rw [show (decide (x=0)&&mk)=false by simp [hx]] at hch
  go_enter Tryd.func41,Tryd.ntmps41
  go_wp2_with (go_at_call 56;refine hch.mono ?_;rintro e w1 ⟨rfl,hb1⟩)
  all_goals go_ret
  all_goals exact ⟨rfl,hb1⟩
theorem rsAt_eq {vars:Int} {l:List St} {k:Nat} {x:St} (hx:l.getD k st0=x) :
  (x.var < 0\/vars <= x.var->sAt vars l k=2)/\(¬ (x.var < 0\/vars <= x.var)->metVar l k x.var=true->sAt vars l k=7)/\(¬ (x.var < 0\/vars <= x.var)->metVar l k x.var=false->sAt vars l k=kcode vars x.val false):=by
 subst hx;refine ⟨fun h1=>?_,fun h1 h2=>?_,fun h1 h2=>?_⟩
 all_goals unfold sAt
 ·rw [if_pos h1]
 ·rw [if_neg h1,if_pos h2]
 ·rw [if_neg h1,if_neg (by rw [h2];decide)]
theorem rrule_long (gv:Value) (so:Option Addr) (n cap:Nat) (vars:Int) (w:World) (h:6 < n) :
  Calls Tryd.prog 55 #[.agg #[gv,.slice so n cap],.int .i64 vars] w fun e w'=>e=.returned (.int .i64 1)/\Below w.heap.size w w':=by
 go_enter Tryd.func55,Tryd.ntmps55
 go_wp2
 go_ret
 exact ⟨rfl,(Below.refl _ _).alloc (Nat.le_refl _) _⟩
theorem rrule_loop (gv sv:Value) (r:Ru) (vars:Int) (w:World) (hv0:0 <= vars) (hv6:vars <= 6) (h6:r.sets.length <= 6) (hG:OpsV w gv r.guard) (hS:SetsV w sv r.sets) :
    Calls Tryd.prog 55 #[.agg #[gv,sv],.int .i64 vars] w fun e w'=>e=.returned (.int .i64 (if kcode vars r.guard true=0 then firstOf (sAt vars r.sets) r.sets.length else kcode vars r.guard true))/\Below w.heap.size w w':=by
  have hA:∀ o,Below w.heap.size w (w.alloc o):=fun o=>(Below.refl _ _).alloc (Nat.le_refl _) o
  have hcm:=fun o=>kindFault_any gv r.guard vars true (w.alloc o) (hG.below (hA o))
  obtain ⟨ga,gc,rfl⟩:=hG.shape;obtain ⟨so,sc,rfl⟩:=hS.shape;generalize hl:r.sets=l at *;have HS:Hid (SetsV w (.slice so l.length sc) l):=hS;obtain ⟨n,hn⟩:∃ n,n=l.length:=⟨_,rfl⟩
  have HN:Hid (n=l.length):=hn;rw [<- hn] at h6 HS ⊢;obtain ⟨g,hg⟩:∃ g,kcode vars r.guard true=g:=⟨_,rfl⟩
  rw [hg] at hcm ⊢;obtain ⟨res,hres⟩:∃ res,(if g=0 then firstOf (sAt vars l) n else g)=res:=⟨_,rfl⟩
  rw [hres];have HRes:Hid ((g=0->res=firstOf (sAt vars l) n)/\(g≠0->res=g)):=⟨fun h=>by rw [<- hres,if_pos h],fun h=>by rw [<- hres,if_neg h]⟩
  generalize r.guard.length=gn at *;clear hG hS hn hl hg hres
  go_enter Tryd.func55,Tryd.ntmps55
  go_wp2_with (go_at_call 41;refine (hcm _).mono ?_;rintro e w1 ⟨rfl,hb1⟩)
  have hb1':Below (w.heap.size+1) (w.alloc (.cells #[.slice ga gn gc,.slice so n sc] 61)) w1:=hb1.mono (by simp)
  clear hcm hb1
  go_loopw [5,6] (fun e i wr=>∃ (k:Nat) (x:Int),k <= n/\i=.int .i64 k/\e=.int .i64 x/\Hid ((x=0->g=0/\∀ j,j < k->sAt vars l j=0)/\(x≠0->res=x))/\Below (w.heap.size+1) (w.alloc (.cells #[.slice ga gn gc,.slice so n sc] 61)) wr) (fun _ i _=>n - (intOf i).toNat)
  case atStart=>exact ⟨0,g,Nat.zero_le _,rfl,rfl,⟨fun h=>⟨h,fun j hj=>by omega⟩,fun h=>HRes.out.2 h⟩,hb1'⟩
  case round=>
    obtain ⟨k,x,hk,rfl,rfl,HJ,hbel⟩:=hrel;have hbw:=(hA _).trans (hbel.mono (Nat.le_succ _));have hszb:w.heap.size+1 <= wr.heap.size:=by have:=hbel.size;simp at this;omega
    have hlb:w.heap.size < wr.heap.size:=by omega
    have cb:=(hbel.cell (p:=⟨w.heap.size,1,none⟩) (by simp)).trans (show _=some (.slice so n sc) by simp [go_sem])
    clear hb1'
    by_cases hx:x=0
    · subst hx
      obtain ⟨hg0,hJ⟩:=HJ.out.1 rfl;have HJ':=(show Hid _ from hJ)
      have HRF:Hid (res=firstOf (sAt vars l) n):=HRes.out.1 hg0;have HG0:Hid (g=0):=hg0;clear HJ hJ HRes hg0
      by_cases hlt:k < n
      · obtain ⟨b,off,rfl,hblt,hat⟩:=HS.out.at (i:=k) (by rw [<- HN.out];exact hlt)
        have HC:Hid (∀ q,q < n->wr.cell? ⟨b,off+q*2,none⟩=some (.int .i64 (l.getD q st0).var)):=fun q hq=>by
          obtain ⟨b',off',e,_,hq2⟩:=HS.out.at (i:=q) (by rw [<- HN.out];exact hq)
          injection Option.some.inj e with e1 e2
          subst e1 e2;exact (hbw.cell (p:=⟨b,off+q*2,none⟩) hblt).trans hq2.1
        have HAt:=(show Hid _ from rsAt_eq (vars:=vars) (l:=l) (k:=k) rfl)
        have HHit:Hid (∀ c,sAt vars l k=c->c≠0->res=c):=fun c h1 h2=>by rw [HRF.out,firstOf_hit hlt HJ'.out (by rw [h1];exact h2),h1]
        have HStep:Hid (sAt vars l k=0->∀ j,j < k+1->sAt vars l j=0):=fun h0 j hj=>by
          by_cases hjk:j=k
          · subst hjk;exact h0
          · exact HJ'.out j (by omega)
        obtain ⟨x,hx⟩:∃ x,l.getD k st0=x:=⟨_,rfl⟩
        rw [hx] at hat HAt;obtain ⟨y,val⟩:=x;obtain ⟨c0',u,c1',hOu⟩:=hat;obtain ⟨ua,uc,rfl⟩:=hOu.shape;have c0:=(hbw.cell (p:=⟨b,off+k*2,none⟩) hblt).trans c0';have c1:=(hbw.cell (p:=⟨b,off+k*2+1,none⟩) hblt).trans c1';simp only at c0 HAt hOu
        have hkf:=(fun w2 (hb2:Below w.heap.size w w2)=>kindFault_any _ val vars false w2 (hOu.below hb2))
        have HKF:=(show Hid _ from hkf)
        generalize val.length=vn at *;have hbA:=hbel.alloc hszb (.cells #[.int .i64 y,.slice ua vn uc] 64);have hbwA:=(hA _).trans (hbA.mono (Nat.le_succ _));clear hx HJ' c0' c1' hOu hkf
        by_cases hy:y < 0\/vars <= y
        · have HR:Hid (res=2):=HHit.out 2 (HAt.out.1 hy) (by decide)
          have hin:=fun w=>in_any y 0 (vars - 1) w
          rw [decide_eq_false (show ¬ (0 <= y/\y <= vars - 1) by omega)] at hin
          clear HAt HStep HHit HKF HC HRF hy
          go_wp2_with (go_at_call 42;refine (hin _).mono ?_;rintro e w1 ⟨rfl,rfl⟩)
          go_ret
          rw [HR.out];exact ⟨rfl,hbwA⟩
        · have hin:=fun w=>in_any y 0 (vars - 1) w
          rw [decide_eq_true (show (0 <= y/\y <= vars - 1) by omega)] at hin
          have HY:Hid (¬ (y < 0\/vars <= y)):=hy;clear hy
          go_wp2_with (go_at_call 42;refine (hin _).mono ?_;rintro e w1 ⟨rfl,rfl⟩)
          generalize wr=wo at *
          go_loopw [8] (fun i wr=>∃ q:Nat,q <= k/\i=.int .i64 q/\Hid (∀ j,j < q->(l.getD j st0).var≠y)/\∃ d,wr=(wo.alloc (.cells #[.int .i64 y,.slice ua vn uc] 64)).drewN d) (fun i _=>k - (intOf i).toNat)
          case atStart=>exact ⟨0,Nat.zero_le _,rfl,fun j hj=>by omega,0,rfl⟩
          case round=>
            obtain ⟨q,hq,rfl,HQ,d,rfl⟩:=hrel;have hAo:Below wo.heap.size wo (wo.alloc (.cells #[.int .i64 y,.slice ua vn uc] 64)):=(Below.refl wo.heap.size wo).alloc (Nat.le_refl _) _
            by_cases hqk:q < k
            · have cq':=HC.out q (by omega)
              have hbo:b < wo.heap.size:=by omega
              have cq:=(hAo.cell (p:=⟨b,off+q*2,none⟩) hbo).trans cq';have cb2:=(hAo.cell (p:=⟨w.heap.size,1,none⟩) hlb).trans cb;have hq0:(0:Int) <= (q:Int):=Int.natCast_nonneg _;have hqn:(q:Int) < (n:Int):=by omega
              by_cases heq:(l.getD q st0).var=y
              · have hmet:metVar l k y=true:=by
                  simp only [metVar,List.any_eq_true,List.mem_range,decide_eq_true_eq];exact ⟨q,hqk,heq⟩
                have HR:Hid (res=7):=HHit.out 7 (HAt.out.2.1 HY.out hmet) (by decide)
                rw [heq] at cq cq';clear HAt HStep HHit HC HQ heq hmet cq' HKF HRF hAo
                go_wp2_with fail
                go_quiet (fail)
                go_wp2_with fail
                go_ret
                rw [HR.out];exact ⟨rfl,below_drewN (below_drewN hbwA _) _⟩
              · have HQ2:Hid (∀ j,j < q+1->(l.getD j st0).var≠y):=fun j hj=>by
                  by_cases hjq:j=q
                  · subst hjq;exact heq
                  · exact HQ.out j (by omega)
                have hne:((l.getD q st0).var == y)=false:=by simpa using heq
                generalize (l.getD q st0).var=y' at *;clear HAt HStep HHit HC HQ heq cq' HKF HRF hAo
                go_wp2_with fail
                go_quiet (fail)
                go_wp2_with fail
                go_roundw
                case rel=>exact ⟨q+1,by omega,by go_num,HQ2,_,rfl⟩
                case measure=>simp [intOf];omega
            · have hqe:q=k:=by omega
              have hmet:metVar l k y=false:=by
                simp only [metVar,List.any_eq_false,List.mem_range,decide_eq_true_eq];intro j hj;exact HQ.out j (by omega)
              have HA2:=(show Hid _ from HAt.out.2.2 HY.out hmet)
              have hkf:=HKF.out _ (below_drewN hbwA d);have hbD:=below_drewN hbA d;obtain ⟨x,hx⟩:∃ x,kcode vars val false=x:=⟨_,rfl⟩
              rw [hx] at hkf HA2
              have HF2:Hid ((x=0->g=0/\∀ j,j < k+1->sAt vars l j=0)/\(x≠0->res=x)):=
                ⟨fun h0=>⟨HG0.out,HStep.out (by rw [HA2.out,h0])⟩,fun h0=>HHit.out x HA2.out h0⟩
              clear HQ HC hqk HAt HStep HHit HKF HRF hmet hx HA2;subst hqe
              go_wp2_with (go_at_call 41;refine hkf.mono ?_;rintro e w3 ⟨rfl,hb3⟩)
              go_roundw
              case rel=>exact ⟨q+1,x,hlt,by go_num,rfl,HF2,hbD.trans (hb3.mono (by have:=hbD.size;simp at this ⊢;omega))⟩
              case measure=>simp [intOf];omega
      · have HR:Hid (res=0):=by show _=_;rw [HRF.out];exact firstOf_none (fun j hj=>HJ'.out j (by omega))
        clear HJ' HRF
        go_wp2
        go_ret
        rw [HR.out];exact ⟨rfl,hbw⟩
    · have HR:Hid (res=x):=HJ.out.2 hx
      clear HJ HRes
      by_cases hlt:k < n
      all_goals
        go_wp2
        go_ret
        rw [HR.out];exact ⟨rfl,hbw⟩
theorem rrule_any (gv sv:Value) (r:Ru) (vars:Int) (w:World) (hv0:0 <= vars) (hv6:vars <= 6) (hG:OpsV w gv r.guard) (hS:SetsV w sv r.sets) :
  Calls Tryd.prog 55 #[.agg #[gv,sv],.int .i64 vars] w fun e w'=>e=.returned (.int .i64 (rcode vars r))/\Below w.heap.size w w':=by
 unfold rcode
 by_cases h6:6 < r.sets.length
 ·rw [if_pos h6]
  obtain ⟨so,cap,rfl⟩:=hS.shape;exact rrule_long gv so _ cap vars w h6
 ·rw [if_neg h6]
  exact rrule_loop gv sv r vars w hv0 hv6 (by omega) hG hS
