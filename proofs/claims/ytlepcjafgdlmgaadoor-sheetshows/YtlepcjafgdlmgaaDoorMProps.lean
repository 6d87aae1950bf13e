import Derived.Test.YtlepcjafgdlmgaaDoorMCheck2
import Derived.Test.YtlepcjafgdlmgaaDoorRefModel
import Derived.Test.YtlepcjafgdlmgaaDoorOpsOf
namespace Go.Proofs.YtlepcjafgdlmgaaDoor
open Go.ChangeShapes Go.WideShapes Go.ChangeAt Go.RowKit Go.Deep
open Terms Tm
set_option maxHeartbeats 6400000
set_option maxRecDepth 20000
theorem TermsV.shape {w:World} {v:Value} {ts:List (List (Int × Int))} (h:TermsV w v ts):∃ ao cap,v=.slice ao ts.length cap:=by
 obtain ⟨ao,cap,h1,_⟩:=h;exact ⟨ao,cap,h1⟩
theorem TermsV.at {w:World} {ao:Option Addr} {cap n:Nat} {ts:List (List (Int × Int))} (h:TermsV w (.slice ao n cap) ts) {i:Nat} (hi:i < ts.length):∃ b off,ao=some ⟨b,off,none⟩/\b < w.heap.size/\∃ u,w.cell? ⟨b,off+i,none⟩=some u/\OpsV w u (ts.getD i []):=by
 obtain ⟨ao',cap',h1,h3⟩:=h
 injection h1 with e1 e2 e3
 subst e1;obtain ⟨b,off,e,hb,hh⟩:=h3 (by intro h;subst h;simp at hi)
 exact ⟨b,off,e,hb,hh i hi⟩
theorem mprops_loop (va vr pv:Value) (m:Mo) (ps:List (List (Int × Int))) (w:World) (hB:0 < w.heap.size) (hT:TabAt w) (hV:ModelV w va vr m) (hP:TermsV w pv ps) (h:mcode m=0) (hl6:ps.length <= 6) :
  Calls Tryd.prog 22 #[.agg #[va,vr],pv] w fun e w'=>e=.returned (.int .i64 (firstOf (fun i=>kcode m.vars.length (ps.getD i []) true) ps.length))/\Below w.heap.size w w':=by
 have hA:∀ o,Below w.heap.size w (w.alloc o):=fun o=>(Below.refl _ _).alloc (Nat.le_refl _) o
 have hch:=fun o=>mcheck_any va vr m (w.alloc o) (Nat.lt_of_lt_of_le hB (hA o).size) (hT.below (hA o) hB) (hV.below (hA o))
 rw [h] at hch;have h6:=(mcode_vars h).1;obtain ⟨ao,cap,rfl⟩:=hV.1.shape;obtain ⟨ro,rc,rfl⟩:=hV.2.shape;obtain ⟨po,pc,rfl⟩:=hP.shape;have HP:Hid (TermsV w (.slice po ps.length pc) ps):=hP;have HT:Hid (TabAt w):=hT;obtain ⟨n,hn⟩:∃ n,n=ps.length:=⟨_,rfl⟩
 have HN:Hid (n=ps.length):=hn;rw [<- hn] at hl6 HP ⊢;generalize m.vars.length=vn at *;generalize m.rules.length=rn at *;clear hV hT hP hn h;obtain ⟨f,hf⟩:∃ f:Nat->Int,f=fun i=>kcode vn (ps.getD i []) true:=⟨_,rfl⟩
 rw [<- hf];have HF:Hid (f=fun i=>kcode vn (ps.getD i []) true):=hf
 clear hf
 go_enter Tryd.func22,Tryd.ntmps22
 go_wp2_with (go_at_call 32;refine (hch _).mono ?_;rintro e w1 ⟨rfl,hb1⟩)
 have hb1':Below (w.heap.size+1) (w.alloc (.cells #[.slice ao vn cap,.slice ro rn rc] 25)) w1:=hb1.mono (by simp)
 clear hch hb1
 go_loopw [19] (fun i wr=>∃ k:Nat,k <= n/\i=.int .i64 k/\Hid (∀ j,j < k->f j=0)/\Below (w.heap.size+1) (w.alloc (.cells #[.slice ao vn cap,.slice ro rn rc] 25)) wr) (fun i _=>n - (intOf i).toNat)
 case atStart=>exact ⟨0,Nat.zero_le _,rfl,fun j hj=>by omega,hb1'⟩
 case round=>
  obtain ⟨k,hk,rfl,HJ,hbel⟩:=hrel;clear hb1';have hbw:=(hA _).trans (hbel.mono (Nat.le_succ _));have hszb:w.heap.size+1 <= wr.heap.size:=by have:=hbel.size;simp at this;omega
  have cb:=(hbel.cell (p:=⟨w.heap.size,0,none⟩) (by simp)).trans (show _=some (.slice ao vn cap) by simp [go_sem])
  by_cases hlt:k < n
  ·obtain ⟨b,off,rfl,hblt,u,c0',hO⟩:=HP.out.at (i:=k) (by rw [<- HN.out];exact hlt)
   have HFk:Hid (f k=kcode vn (ps.getD k []) true):=by show _=_;rw [HF.out]
   have HHit:Hid (∀ c,f k=c->c≠0->firstOf f n=c):=fun c h1 h2=>by rw [firstOf_hit hlt HJ.out (by rw [h1];exact h2),h1]
   have HStep:Hid (f k=0->∀ j,j < k+1->f j=0):=fun h0 j hj=>by
    by_cases hjk:j=k
    ·subst hjk;exact h0
    ·exact HJ.out j (by omega)
   generalize ps.getD k []=p at *;obtain ⟨ua,uc,rfl⟩:=hO.shape;have c0:=(hbw.cell (p:=⟨b,off+k,none⟩) hblt).trans c0';have hcm:=checkMakes_any _ p vn true wr (Nat.lt_of_lt_of_le hB hbw.size) (HT.out.below hbw hB) (hO.below hbw);generalize p.length=pn at *;obtain ⟨x,hx⟩:∃ x,kcode vn p true=x:=⟨_,rfl⟩
   rw [hx] at hcm HFk;clear HJ c0' hO hx HF
   by_cases hx0:x=0
   ·subst hx0
    have HJ2:=(show Hid _ from HStep.out HFk.out)
    clear HStep HHit HFk
    go_wp2_with (go_at_call 33;refine hcm.mono ?_;rintro e w3 ⟨rfl,hb3⟩)
    go_roundw
    case rel=>exact ⟨k+1,hlt,by go_num,HJ2,hbel.trans (hb3.mono hszb)⟩
    case measure=>simp [intOf];omega
   ·have HR:Hid (firstOf f n=x):=HHit.out x HFk.out hx0
    clear HStep HHit HFk
    go_wp2_with (go_at_call 33;refine hcm.mono ?_;rintro e w3 ⟨rfl,hb3⟩)
    go_ret
    rw [HR.out];exact ⟨rfl,hbw.trans (hb3.mono hbw.size)⟩
  ·have hkn:k=n:=by omega
   have HR:Hid (firstOf f n=0):=firstOf_none (fun j hj=>HJ.out j (by omega))
   go_wp2
   go_ret
   rw [HR.out];exact ⟨rfl,hbw⟩
theorem mprops_any (va vr pv:Value) (m:Mo) (ps:List (List (Int × Int))) (w:World) (hB:0 < w.heap.size) (hT:TabAt w) (hV:ModelV w va vr m) (hP:TermsV w pv ps) :
  Calls Tryd.prog 22 #[.agg #[va,vr],pv] w fun e w'=>e=.returned (.int .i64 (pcode m ps))/\Below w.heap.size w w':=by
 unfold pcode
 by_cases h:mcode m=0
 ·rw [if_pos h]
  by_cases h6:6 < ps.length
  ·rw [if_pos h6]
   have hA:∀ o,Below w.heap.size w (w.alloc o):=fun o=>(Below.refl _ _).alloc (Nat.le_refl _) o
   have hch:=fun o=>mcheck_any va vr m (w.alloc o) (Nat.lt_of_lt_of_le hB (hA o).size) (hT.below (hA o) hB) (hV.below (hA o))
   rw [h] at hch;obtain ⟨ao,cap,rfl⟩:=hV.1.shape;obtain ⟨ro,rc,rfl⟩:=hV.2.shape;obtain ⟨po,pc,rfl⟩:=hP.shape;generalize m.vars.length=vn at *;generalize m.rules.length=rn at *;generalize ps.length=n at *;clear hV hT hP h
   go_enter Tryd.func22,Tryd.ntmps22
   go_wp2_with (go_at_call 32;refine (hch _).mono ?_;rintro e w1 ⟨rfl,hb1⟩)
   go_ret
   exact ⟨rfl,(hA _).trans (hb1.mono (hA _).size)⟩
  ·rw [if_neg h6]
   exact mprops_loop va vr pv m ps w hB hT hV hP h (by omega)
 ·rw [if_neg h]
  have hA:∀ o,Below w.heap.size w (w.alloc o):=fun o=>(Below.refl _ _).alloc (Nat.le_refl _) o
  have hch:=fun o=>mcheck_any va vr m (w.alloc o) (Nat.lt_of_lt_of_le hB (hA o).size) (hT.below (hA o) hB) (hV.below (hA o))
  obtain ⟨ao,cap,rfl⟩:=hV.1.shape;obtain ⟨ro,rc,rfl⟩:=hV.2.shape;obtain ⟨po,pc,rfl⟩:=hP.shape;generalize mcode m=x at *;generalize m.vars.length=vn at *;generalize m.rules.length=rn at *;generalize ps.length=n at *;clear hV hT hP
  go_enter Tryd.func22,Tryd.ntmps22
  go_wp2_with (go_at_call 32;refine (hch _).mono ?_;rintro e w1 ⟨rfl,hb1⟩)
  go_ret
  exact ⟨rfl,(hA _).trans (hb1.mono (hA _).size)⟩
theorem rprops_any (va vr pv:Value) (m:Mo) (ps:List (List (Int × Int))) (w:World) (hlz:ps.length*24 <= 140737488355328) (hV:ModelV w va vr m) (hP:TermsV w pv ps) :
  Calls Tryd.prog 29 #[.agg #[va,vr],pv] w fun e w'=>e=.returned (.int .i64 (pcode m ps))/\Below w.heap.size w w':=by
 have hA:∀ o,Below w.heap.size w (w.alloc o):=fun o=>(Below.refl _ _).alloc (Nat.le_refl _) o
 have hch:=fun o=>rmodel_any va vr m (w.alloc o) (hV.below (hA o))
 obtain ⟨ao,cap,rfl⟩:=hV.1.shape;obtain ⟨ro,rc,rfl⟩:=hV.2.shape;obtain ⟨po,pc,rfl⟩:=hP.shape;have HP:Hid (TermsV w (.slice po ps.length pc) ps):=hP;unfold pcode;obtain ⟨n,hn⟩:∃ n,n=ps.length:=⟨_,rfl⟩
 have HN:Hid (n=ps.length):=hn;rw [<- hn] at HP hlz ⊢;generalize m.vars.length=vn at *;generalize m.rules.length=rn at *;obtain ⟨f,hf⟩:∃ f:Nat->Int,f=fun i=>kcode vn (ps.getD i []) true:=⟨_,rfl⟩
 rw [<- hf];have HF:Hid (f=fun i=>kcode vn (ps.getD i []) true):=hf
 obtain ⟨x0,hx0⟩:∃ x0,mcode m=x0:=⟨_,rfl⟩
 rw [hx0] at hch ⊢;obtain ⟨y0,hy0⟩:∃ y0,y0=(if x0=0 then (if 6 < n then 1 else 0) else x0:Int):=⟨_,rfl⟩
 obtain ⟨res,hres⟩:∃ res,(if x0=0 then if 6 < n then 1 else firstOf f n else x0)=res:=⟨_,rfl⟩
 rw [hres]
 have HRes:Hid ((y0=0->res=firstOf f n)/\(y0≠0->res=y0)):=by
  rw [hy0,<- hres]
  by_cases h1:x0=0
  ·rw [if_pos h1,if_pos h1]
   by_cases h2:6 < n
   ·rw [if_pos h2,if_pos h2];exact ⟨fun h=>absurd h (by decide),fun _=>rfl⟩
   ·rw [if_neg h2,if_neg h2];exact ⟨fun _=>rfl,fun h=>absurd rfl h⟩
  ·rw [if_neg h1,if_neg h1];exact ⟨fun h=>absurd h h1,fun _=>rfl⟩
 have hcase:(x0=0/\6 < n/\y0=1)\/(x0=0/\n <= 6/\y0=0)\/(x0≠0/\y0=x0):=by
  rw [hy0]
  by_cases h1:x0=0
  ·by_cases h2:6 < n
   ·exact .inl ⟨h1,h2,by rw [if_pos h1,if_pos h2]⟩
   ·exact .inr (.inl ⟨h1,by omega,by rw [if_pos h1,if_neg h2]⟩)
  ·exact .inr (.inr ⟨h1,by rw [if_neg h1]⟩)
 clear hV hP hn hf hx0 hres hy0;have HB:∀ w1,Below (w.alloc (.cells #[.slice ao vn cap,.slice ro rn rc] 25)).heap.size (w.alloc (.cells #[.slice ao vn cap,.slice ro rn rc] 25)) w1->Below (w.heap.size+1) (w.alloc (.cells #[.slice ao vn cap,.slice ro rn rc] 25)) w1:=fun w1 h=>h.mono (by simp)
 have hgo:Calls Tryd.prog 29 #[.agg #[.slice ao vn cap,.slice ro rn rc],.slice po n pc] w fun e w'=>e=.returned (.int .i64 res)/\Below w.heap.size w w':=by
  go_enter Tryd.func29,Tryd.ntmps29
  rcases hcase with ⟨rfl,h6,hy⟩ | ⟨rfl,h6,hy⟩ | ⟨hne,hy⟩
  ·have HR:Hid (res=1):=by
    have:=HRes.out.2 (by rw [hy];decide)
    show _=_
    rw [this,hy]
   clear hy HRes
   go_wp2_with (go_at_call 40;refine (hch _).mono ?_;rintro e w1 ⟨rfl,hb1⟩)
   have hb1':=HB w1 hb1;clear hb1 hch
   go_loopw [5,6] (fun e i wr=>i=.int .i64 0/\e=.int .i64 1/\Below (w.heap.size+1) (w.alloc (.cells #[.slice ao vn cap,.slice ro rn rc] 25)) wr) (fun _ i _=>n - (intOf i).toNat)
   case atStart=>exact ⟨rfl,rfl,hb1'⟩
   case round=>
    obtain ⟨rfl,rfl,hbel⟩:=hrel;have hbw:=(hA _).trans (hbel.mono (Nat.le_succ _))
    by_cases hlt:0 < n
    all_goals
     go_wp2
     go_ret
     rw [HR.out];exact ⟨rfl,hbw⟩
  ·have HY:=(show Hid (_=_) from hy)
   clear hy
   go_wp2_with (go_at_call 40;refine (hch _).mono ?_;rintro e w1 ⟨rfl,hb1⟩)
   have hb1':=HB w1 hb1;clear hb1 hch
   go_loopw [5,6] (fun e i wr=>∃ (k:Nat) (x:Int),k <= n/\i=.int .i64 k/\e=.int .i64 x/\Hid ((x=0->res=firstOf f n/\∀ j,j < k->f j=0)/\(x≠0->res=x))/\Below (w.heap.size+1) (w.alloc (.cells #[.slice ao vn cap,.slice ro rn rc] 25)) wr) (fun _ i _=>n - (intOf i).toNat)
   case atStart=>exact ⟨0,_,Nat.zero_le _,rfl,rfl,⟨fun h=>⟨HRes.out.1 (HY.out.trans h),fun j hj=>by omega⟩,fun h=>(HRes.out.2 (fun hh=>h (HY.out.symm.trans hh))).trans HY.out⟩,hb1'⟩
   case round=>
    obtain ⟨k,x,hk,rfl,rfl,HJ,hbel⟩:=hrel;clear hb1' HRes;have hbw:=(hA _).trans (hbel.mono (Nat.le_succ _));have hszb:w.heap.size+1 <= wr.heap.size:=by have:=hbel.size;simp at this;omega
    have hlb:w.heap.size < wr.heap.size:=by omega
    have cb0:=(hbel.cell (p:=⟨w.heap.size,0,none⟩) (by simp)).trans (show _=some (.slice ao vn cap) by simp [go_sem])
    by_cases hx:x=0
    ·subst hx
     obtain ⟨hrf,hj⟩:=HJ.out.1 rfl;have HJ':=(show Hid _ from hj)
     have HRF:Hid (res=firstOf f n):=hrf;clear HJ hj hrf
     by_cases hlt:k < n
     ·obtain ⟨b,off,rfl,hblt,u,c0',hO⟩:=HP.out.at (i:=k) (by rw [<- HN.out];exact hlt)
      have HFk:Hid (f k=kcode vn (ps.getD k []) true):=by show _=_;rw [HF.out]
      generalize ps.getD k []=p at *;obtain ⟨ua,uc,rfl⟩:=hO.shape;have c0:=(hbw.cell (p:=⟨b,off+k,none⟩) hblt).trans c0';have hrr:=(fun w2 (hb2:Below wr.heap.size wr w2)=>kindFault_any _ p vn true w2 (hO.below (hbw.trans (hb2.mono hbw.size))))
      generalize p.length=pn at *;obtain ⟨x,hx⟩:∃ x,kcode vn p true=x:=⟨_,rfl⟩
      rw [hx] at hrr HFk
      have HF2:Hid ((x=0->res=firstOf f n/\∀ j,j < k+1->f j=0)/\(x≠0->res=x)):=by
       refine ⟨fun h0=>⟨HRF.out,fun j hj=>?_⟩,fun h0=>?_⟩
       ·by_cases hjk:j=k
        ·subst hjk;rw [HFk.out,h0]
        ·exact HJ'.out j (by omega)
       ·rw [HRF.out,firstOf_hit hlt HJ'.out (by rw [HFk.out];exact h0),HFk.out]
      have hbo:b < wr.heap.size:=by omega
      have hS0:∀ w',Below wr.heap.size wr w'->w'.cell? ⟨w.heap.size,0,none⟩=some (.slice ao vn cap)/\w'.cell? ⟨b,off+k,none⟩=some (.slice ua pn uc):=fun w' hw'=>
       ⟨(hw'.cell (p:=⟨w.heap.size,0,none⟩) hlb).trans cb0,(hw'.cell (p:=⟨b,off+k,none⟩) hbo).trans c0⟩
      have hB0:Below wr.heap.size wr wr:=Below.refl _ _;have hi0:(0:Int) <= (k:Int):=Int.natCast_nonneg _;have hi1:(k:Int) < (n:Int):=by omega
      clear HJ' c0' hO hx hA HF HFk hbw HRF
      go_wp2_with fail
      go_region_held3 (fun w'=>w'.cell? ⟨w.heap.size,0,none⟩=some (.slice ao vn cap)/\w'.cell? ⟨b,off+k,none⟩=some (.slice ua pn uc))
       (exact hS0 _ (by first | exact hB0 | exact hB0.drew | exact hB0.drew.trans hb2))
       (first | (go_at_call 41;refine (hrr _ hB0.drew).mono ?_;rintro e w2 ⟨rfl,hb2⟩))
      go_wp2_with fail
      go_roundw
      case rel=>exact ⟨k+1,x,hlt,by go_num,rfl,HF2,hbel.trans ((hB0.drew.trans hb2).mono hszb)⟩
      case measure=>simp [intOf];omega
     ·have HR:Hid (res=0):=by show _=_;rw [HRF.out];exact firstOf_none (fun j hj=>HJ'.out j (by omega))
      clear HJ'
      go_wp2
      go_ret
      rw [HR.out];exact ⟨rfl,hbw⟩
    ·have HR:Hid (res=x):=HJ.out.2 hx
     clear HJ
     by_cases hlt:k < n
     all_goals
      go_wp2
      go_ret
      rw [HR.out];exact ⟨rfl,hbw⟩
  ·have HR:Hid (res=x0):=by
    have:=HRes.out.2 (by rw [hy];exact hne)
    show _=_
    rw [this,hy]
   clear hy HRes
   go_wp2_with (go_at_call 40;refine (hch _).mono ?_;rintro e w1 ⟨rfl,hb1⟩)
   have hb1':=HB w1 hb1;clear hb1 hch
   go_loopw [5,6] (fun e i wr=>i=.int .i64 0/\e=.int .i64 x0/\Below (w.heap.size+1) (w.alloc (.cells #[.slice ao vn cap,.slice ro rn rc] 25)) wr) (fun _ i _=>n - (intOf i).toNat)
   case atStart=>exact ⟨rfl,rfl,hb1'⟩
   case round=>
    obtain ⟨rfl,rfl,hbel⟩:=hrel;have hbw:=(hA _).trans (hbel.mono (Nat.le_succ _))
    by_cases hlt:0 < n
    all_goals
     go_wp2
     go_ret
     rw [HR.out];exact ⟨rfl,hbw⟩
 exact hgo
theorem terms_any (v:Value) (ts:List (List (Int × Int))) (w:World) (hl:ts.length*24 <= 140737488355328) (hz:∀ i,i < ts.length->(ts.getD i []).length*16 <= 140737488355328) (hT:TermsV w v ts) :
  Calls Tryd.prog 9 #[v] w fun e w'=>∃ v',e=.returned v'/\Below w.heap.size w w'/\TermsOwn w' w.heap.size v' ts:=by
 obtain ⟨ao,cap,rfl⟩:=hT.shape;have HT:Hid (TermsV w (.slice ao ts.length cap) ts):=hT;have HZ:=(show Hid _ from hz)
 obtain ⟨n,hn⟩:∃ n,n=ts.length:=⟨_,rfl⟩
 have HN:Hid (n=ts.length):=hn;rw [<- hn] at hl HT ⊢;obtain ⟨i0,hi,hz0,hz1,hz2⟩:=info_parts infoOps;clear hT hz hn
 go_enter Tryd.func9,Tryd.ntmps9
 go_wp2
 go_loopw [3,4] (fun vv i wr=>∃ k:Nat,k <= n/\i=.int .i64 k/\Hid (TermsOwn wr w.heap.size vv (ts.take k))/\Below w.heap.size w wr) (fun _ i _=>n - (intOf i).toNat)
 case atStart=>exact ⟨0,Nat.zero_le _,rfl,TermsOwn.nil _ _,Below.refl _ _⟩
 case round=>
  obtain ⟨k,hk,rfl,HO,hbel⟩:=hrel
  by_cases hlt:k < n
  ·obtain ⟨b,off,rfl,hblt,u,c0',hO⟩:=HT.out.at (i:=k) (by rw [<- HN.out];exact hlt)
   have hzk:=HZ.out k (by rw [<- HN.out];exact hlt)
   have HTk:Hid (ts.take (k+1)=ts.take k++[ts.getD k []]):=by
    show _=_
    rw [List.take_succ_eq_append_getElem (by rw [<- HN.out];exact hlt),List.getD_eq_getElem?_getD,List.getElem?_eq_getElem (by rw [<- HN.out];exact hlt)];rfl
   generalize ts.getD k []=p at *;obtain ⟨ua,uc,rfl⟩:=hO.shape;have c0:=(hbel.cell (p:=⟨b,off+k,none⟩) hblt).trans c0';have hops:=ops_any _ p wr hzk (hO.below hbel);have hlk:(ts.take k).length=k:=by rw [List.length_take,<- HN.out];omega
   obtain ⟨us,hus,hts⟩:=HO.out;have HUS:=(show Hid _ from hus)
   have HTS:=(show Hid _ from hts)
   have HLK:Hid ((ts.take k).length=k):=hlk;rw [hlk] at hus;obtain ⟨pn,hpn⟩:∃ pn,pn=p.length:=⟨_,rfl⟩
   have HPN:Hid (pn=p.length):=hpn;rw [<- hpn] at c0 hops;have hnb:=hus.lt;have h63:k+1 <= maxLen:=by unfold maxLen;omega
   have hkb:(k+1)*24 <= 140737488355328:=by omega
   have hszw:=hbel.size;clear hO c0' hts hlk hpn HO
   go_wp2_with (first | (go_at_call 10;refine hops.mono ?_;rintro e w2 ⟨pv,rfl,hb2,ho2⟩;obtain ⟨pa,pc,rfl⟩:=owns_slice ho2;have hus2:=fun o=>(owns_later hus hb2 (Nat.le_refl _)).alloc o;have hbase:∀ o,w.heap.size <= (w2.alloc o).heap.size:=(fun o=>by have:=hb2.size;simp;omega)) | (at_builtin;refine wpList_append_own _ rfl (.tmp 11) (.tmp 17) 26 rfl w.heap.size 27 i0 (.slice none 0 0) 1 24 Tryd.underlying26 hi hz0 hz1 hz2 rfl (by decide) _ k us rfl (hus2 _) ⟨w2.heap.size,0,none⟩ 1 1 [.slice pa pn pc] rfl rfl (cell_one_new _ _ _) (by intro u hu;simp at hu;subst hu;rfl) h63 hkb (hbase _) ?_;intro v' w4 hown' hgrow _))
   have hb4:Below w.heap.size w w4:=((hbel.trans (hb2.mono hszw)).alloc (by have:=hb2.size;omega) _).grown hgrow (hbase _) (fun q hq=>(hnb q hq).1)
   have HO4:Hid (TermsOwn w4 w.heap.size v' (ts.take (k+1))):=by
    show TermsOwn _ _ _ _
    rw [HTk.out];exact TermsOwn.snoc (owns_later HUS.out hb2 (Nat.le_refl _)) (fun j hj=>owns_later (HTS.out j hj) hb2 (Nat.le_refl _)) (owns_mono (by rw [<- HPN.out];exact ho2) hszw) ⟨_,rfl⟩ hgrow (by rw [HLK.out];exact hown')
   clear hown' hgrow hus2 HUS HTS hus
   go_roundw
   case rel=>exact ⟨k+1,hlt,by go_num,HO4,hb4⟩
   case measure=>simp [intOf];omega
  ·have hkn:k=n:=by omega
   subst hkn;have HFin:=(show Hid _ from HO.out)
   rw [List.take_of_length_le (by rw [<- HN.out];omega)] at HFin
   clear HO
   go_wp2
   go_ret
   exact ⟨_,rfl,hbel,HFin.out⟩
