import Derived.Test.YtlepcjafgdlmgaaDoorRefName
import Derived.Test.YtlepcjafgdlmgaaDoorModelMem
namespace Go.Proofs.YtlepcjafgdlmgaaDoor
open Go.ChangeShapes Go.WideShapes Go.ChangeAt Go.RowKit Go.Deep
open Terms Tm
set_option maxHeartbeats 6400000
set_option maxRecDepth 20000
theorem toList_ne {a b:ByteArray} (h:a≠b):(a.toList == b.toList)=false:=by
 rw [beq_eq_false_iff_ne];intro he
 apply h
 cases a;cases b
 simp only [ByteArray.mk.injEq];simpa [ByteArray.toList_eq] using he
theorem rvars_loop (va:Value) (l:List Vr) (w:World) (h6:l.length <= 6) (hV:VarsV w va l) :
    Calls Tryd.prog 54 #[va] w fun e w'=>e=.returned (.int .i64 (firstOf (vAt l) l.length))/\Below w.heap.size w w':=by
  obtain ⟨ao,cap,rfl⟩:=hV.shape;have HV:Hid (VarsV w (.slice ao l.length cap) l):=hV;obtain ⟨n,hn⟩:∃ n,n=l.length:=⟨_,rfl⟩
  have HN:Hid (n=l.length):=hn;rw [<- hn] at h6 HV ⊢;clear hV hn
  go_enter Tryd.func54,Tryd.ntmps54
  go_wp2
  go_loopw [3,4] (fun st i wr=>∃ k:Nat,k <= n/\i=.int .i64 k/\st=.int .i64 (prodTo l k)/\Hid (∀ j,j < k->vAt l j=0)/\Below w.heap.size w wr) (fun _ i _=>n - (intOf i).toNat)
  case atStart=>exact ⟨0,Nat.zero_le _,rfl,rfl,fun j hj=>by omega,Below.refl _ _⟩
  case round=>
    obtain ⟨k,hk,rfl,rfl,HJ,hbel⟩:=hrel
    by_cases hlt:k < n
    · obtain ⟨b,off,rfl,hblt,hat⟩:=HV.out.at (i:=k) (by rw [<- HN.out];exact hlt)
      have HC:Hid (∀ q,q < n->wr.cell? ⟨b,off+q*4,none⟩=some (.string (l.getD q vr0).name)):=fun q hq=>by
        obtain ⟨b',off',e,_,hq2⟩:=HV.out.at (i:=q) (by rw [<- HN.out];exact hq)
        injection Option.some.inj e with e1 e2
        subst e1 e2;exact (hq2.below hbel hblt).1
      obtain ⟨c0,c1,c2,c3⟩:=hat.below hbel hblt;clear hat;have hpb:=prod_bounds HJ.out;have HHit:Hid (∀ c,vAt l k=c->c≠0->firstOf (vAt l) n=c):=fun c h1 h2=>by rw [firstOf_hit hlt HJ.out (by rw [h1];exact h2),h1]
      have HStep:Hid (vAt l k=0->∀ j,j < k+1->vAt l j=0):=fun h0 j hj=>by
        by_cases hjk:j=k
        · subst hjk;exact h0
        · exact HJ.out j (by omega)
      have HPr:Hid (prodTo l (k+1)=prodTo l k*vspan (l.getD k vr0)):=rfl;have HX:Hid (∃ x,l.getD k vr0=x):=⟨_,rfl⟩
      obtain ⟨x,hx⟩:=HX.out;rw [hx] at c0 c1 c2 c3 HPr;obtain ⟨st,hst⟩:∃ st,prodTo l k=st:=⟨_,rfl⟩
      have HAt:=(show Hid _ from vAt_eq hx hst)
      rw [hst] at hpb HPr ⊢;clear hst hx HX HJ;obtain ⟨s,lo,hi,ini⟩:=x;simp only [vspan] at c0 c1 c2 c3 HPr;have hnm:=fun w=>nameMay_any s w
      have hszw:=hbel.size;have hbA:=hbel.alloc hszw (.cells #[.string s,.int .i64 lo,.int .i64 hi,.int .i64 ini] 57)
      cases hok:nameOk s with
      | false=>
        rw [hok] at hnm;have HR:Hid (firstOf (vAt l) n=6):=HHit.out 6 (HAt.out.1 hok) (by decide)
        clear HAt HStep HHit HPr hok HC
        go_wp2_with (go_at_call 69;refine (hnm _).mono ?_;rintro e w1 ⟨rfl,rfl⟩)
        go_ret
        rw [HR.out];exact ⟨rfl,hbA⟩
      | true=>
        rw [hok] at hnm
        go_wp2_with (go_at_call 69;refine (hnm _).mono ?_;rintro e w1 ⟨rfl,rfl⟩)
        generalize wr=wo at *
        go_loopw [6] (fun i wr=>∃ q:Nat,q <= k/\i=.int .i64 q/\Hid (∀ j,j < q->(l.getD j vr0).name≠s)/\∃ d,wr=(wo.alloc (.cells #[.string s,.int .i64 lo,.int .i64 hi,.int .i64 ini] 57)).drewN d) (fun i _=>k - (intOf i).toNat)
        case atStart=>exact ⟨0,Nat.zero_le _,rfl,fun j hj=>by omega,0,rfl⟩
        case round=>
          obtain ⟨q,hq,rfl,HQ,d,rfl⟩:=hrel
          by_cases hqk:q < k
          · have cq':=HC.out q (by omega)
            have hbo:b < wo.heap.size:=by omega
            have cq:=(((Below.refl wo.heap.size wo).alloc (Nat.le_refl _) (.cells #[.string s,.int .i64 lo,.int .i64 hi,.int .i64 ini] 57)).cell (p:=⟨b,off+q*4,none⟩) hbo).trans cq';have hq0:(0:Int) <= (q:Int):=Int.natCast_nonneg _;have hqn:(q:Int) < (n:Int):=by omega
            by_cases heq:(l.getD q vr0).name=s
            · have hmet:metName l k s=true:=by
                simp only [metName,List.any_eq_true,List.mem_range,decide_eq_true_eq];exact ⟨q,hqk,heq⟩
              have HR:Hid (firstOf (vAt l) n=7):=HHit.out 7 (HAt.out.2.1 hok hmet) (by decide)
              rw [heq] at cq cq';clear HAt HStep HHit HPr hok HC HQ heq hmet cq'
              go_wp2_with fail
              go_quiet (fail)
              go_wp2_with fail
              go_ret
              rw [HR.out];exact ⟨rfl,below_drewN (below_drewN hbA _) _⟩
            · have HQ2:Hid (∀ j,j < q+1->(l.getD j vr0).name≠s):=fun j hj=>by
                by_cases hjq:j=q
                · subst hjq;exact heq
                · exact HQ.out j (by omega)
              have hne:=toList_ne heq;generalize (l.getD q vr0).name=s' at *;clear HAt HStep HHit HPr hok HC HQ heq cq'
              go_wp2_with fail
              go_quiet (fail)
              go_wp2_with fail
              go_roundw
              case rel=>exact ⟨q+1,by omega,by go_num,HQ2,_,rfl⟩
              case measure=>simp [intOf];omega
          · have hqe:q=k:=by omega
            have hmet:metName l k s=false:=by
              simp only [metName,List.any_eq_false,List.mem_range,decide_eq_true_eq];intro j hj;exact HQ.out j (by omega)
            clear HQ HC hqk;subst hqe;have hbD:=below_drewN hbA d
            cases hvb:vbound ⟨s,lo,hi,ini⟩ with
            | false=>
              have HR:Hid (firstOf (vAt l) n=2):=HHit.out 2 (HAt.out.2.2.1 hok hmet hvb) (by decide)
              simp only [vbound,decide_eq_false_iff_not] at hvb;have hcase:(¬ (-1000 <= lo/\lo <= 1000))\/((-1000 <= lo/\lo <= 1000)/\¬ (lo <= hi/\hi <= 1000))\/((-1000 <= lo/\lo <= 1000)/\(lo <= hi/\hi <= 1000)/\¬ (lo <= ini/\ini <= hi)):=by omega
              clear HAt HStep HHit HPr hok hmet hvb
              rcases hcase with h1 | ⟨h1,h2⟩ | ⟨h1,h2,h3⟩
              · have hin:=fun w=>in_any lo (-1000) 1000 w
                rw [decide_eq_false h1] at hin
                go_wp2_with (go_at_call 42;refine (hin _).mono ?_;rintro e w1 ⟨rfl,rfl⟩)
                go_ret
                rw [HR.out];exact ⟨rfl,hbD⟩
              · have hin:=fun w=>in_any lo (-1000) 1000 w
                have hin2:=fun w=>in_any hi lo 1000 w
                rw [decide_eq_true h1] at hin;rw [decide_eq_false h2] at hin2
                go_wp2_with (first | (go_at_call_of 42 (Value.int IntKind.i64 hi);refine (hin2 _).mono ?_;rintro e w1 ⟨rfl,rfl⟩) | (go_at_call 42;refine (hin _).mono ?_;rintro e w1 ⟨rfl,rfl⟩))
                go_ret
                rw [HR.out];exact ⟨rfl,hbD⟩
              · have hin:=fun w=>in_any lo (-1000) 1000 w
                have hin2:=fun w=>in_any hi lo 1000 w
                have hin3:=fun w=>in_any ini lo hi w
                rw [decide_eq_true h1] at hin;rw [decide_eq_true h2] at hin2;rw [decide_eq_false h3] at hin3
                go_wp2_with (first | (go_at_call_of 42 (Value.int IntKind.i64 ini);refine (hin3 _).mono ?_;rintro e w1 ⟨rfl,rfl⟩) | (go_at_call_of 42 (Value.int IntKind.i64 hi);refine (hin2 _).mono ?_;rintro e w1 ⟨rfl,rfl⟩) | (go_at_call 42;refine (hin _).mono ?_;rintro e w1 ⟨rfl,rfl⟩))
                go_ret
                rw [HR.out];exact ⟨rfl,hbD⟩
            | true=>
              obtain ⟨hv1,hv2,hv3,hv4,hv5,hv6,hv7⟩:=vbound_span hvb;simp only [vspan] at hv1 hv2 hv3 hv4 hv5 hv6 hv7;have hin:=fun w=>in_any lo (-1000) 1000 w
              have hin2:=fun w=>in_any hi lo 1000 w
              have hin3:=fun w=>in_any ini lo hi w
              rw [decide_eq_true ⟨hv3,by omega⟩] at hin
              rw [decide_eq_true ⟨hv5,hv4⟩] at hin2;rw [decide_eq_true ⟨hv6,hv7⟩] at hin3;have hm1:1 <= st*(hi - lo+1):=by have:=Int.mul_le_mul hpb.1 hv1 (by omega) (by omega);simpa using this
              have hm2:st*(hi - lo+1) <= 8196096:=by have:=Int.mul_le_mul hpb.2 hv2 (by omega) (by omega);simpa using this
              by_cases hbig:64 < hi - lo+1\/4096 < st*(hi - lo+1)
              · have HR:Hid (firstOf (vAt l) n=1):=HHit.out 1 (HAt.out.2.2.2.1 hok hmet hvb (by simp only [vspan];exact hbig)) (by decide)
                clear HAt HStep HHit HPr hok hmet hvb
                go_wp2_with (first | (go_at_call_of 42 (Value.int IntKind.i64 ini);refine (hin3 _).mono ?_;rintro e w1 ⟨rfl,rfl⟩) | (go_at_call_of 42 (Value.int IntKind.i64 hi);refine (hin2 _).mono ?_;rintro e w1 ⟨rfl,rfl⟩) | (go_at_call 42;refine (hin _).mono ?_;rintro e w1 ⟨rfl,rfl⟩))
                all_goals first | (exfalso;omega) | go_ret
                all_goals rw [HR.out]
                all_goals exact ⟨rfl,hbD⟩
              · have H0:vAt l q=0:=HAt.out.2.2.2.2 hok hmet hvb (by simp only [vspan];exact hbig)
                have HJ2:=(show Hid _ from HStep.out H0)
                obtain ⟨hs1,hs2⟩:hi - lo+1 <= 64/\st*(hi - lo+1) <= 4096:=by omega
                have hs3:hi - lo <= 63:=by omega
                clear HAt HStep HHit hok hmet hvb H0 hbig
                go_wp2_with (first | (go_at_call_of 42 (Value.int IntKind.i64 ini);refine (hin3 _).mono ?_;rintro e w1 ⟨rfl,rfl⟩) | (go_at_call_of 42 (Value.int IntKind.i64 hi);refine (hin2 _).mono ?_;rintro e w1 ⟨rfl,rfl⟩) | (go_at_call 42;refine (hin _).mono ?_;rintro e w1 ⟨rfl,rfl⟩))
                go_roundw
                case rel=>exact ⟨q+1,hlt,by go_num,by rw [HPr.out],HJ2,hbD⟩
                case measure=>simp [intOf];omega
    · have hkn:k=n:=by omega
      have HR:Hid (firstOf (vAt l) n=0):=firstOf_none (fun j hj=>HJ.out j (by omega))
      go_wp2
      go_ret
      rw [HR.out];exact ⟨rfl,hbel⟩
theorem rvars_long (ao:Option Addr) (n cap:Nat) (w:World) (h:6 < n) :
  Calls Tryd.prog 54 #[.slice ao n cap] w fun e w'=>e=.returned (.int .i64 1)/\Below w.heap.size w w':=by
 go_enter Tryd.func54,Tryd.ntmps54
 go_wp2
 go_ret
 exact ⟨rfl,Below.refl _ _⟩
theorem rvars_any (va:Value) (l:List Vr) (w:World) (hV:VarsV w va l) :
  Calls Tryd.prog 54 #[va] w fun e w'=>e=.returned (.int .i64 (vcode l))/\Below w.heap.size w w':=by
 unfold vcode
 split
 ·rename_i h
  obtain ⟨ao,cap,rfl⟩:=hV.shape;exact rvars_long ao _ cap w h
 ·rename_i h
  exact rvars_loop va l w (by omega) hV
