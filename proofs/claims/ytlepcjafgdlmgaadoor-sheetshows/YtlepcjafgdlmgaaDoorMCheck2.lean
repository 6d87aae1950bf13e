import Derived.Test.YtlepcjafgdlmgaaDoorMCheck
namespace Go.Proofs.YtlepcjafgdlmgaaDoor
open Go.ChangeShapes Go.WideShapes Go.ChangeAt Go.RowKit Go.Deep Go.Maps
open Terms Tm
set_option maxHeartbeats 6400000
set_option maxRecDepth 20000
theorem mcheck_vars (va vr:Value) (m:Mo) (w:World) (hV:ModelV w va vr m) (h:vcode m.vars≠0) :
  Calls Tryd.prog 32 #[.agg #[va,vr]] w fun e w'=>e=.returned (.int .i64 (vcode m.vars))/\Below w.heap.size w w':=by
 have hA:∀ o,Below w.heap.size w (w.alloc o):=fun o=>(Below.refl _ _).alloc (Nat.le_refl _) o
 have hcv:=fun o=>checkVars_any va m.vars (w.alloc o) (hV.1.below (hA o))
 generalize vcode m.vars=x at *;obtain ⟨ao,cap,rfl⟩:=hV.1.shape;obtain ⟨ro,rc,rfl⟩:=hV.2.shape;clear hV
 go_enter Tryd.func32,Tryd.ntmps32
 go_wp2_with (go_at_call 46;refine (hcv _).mono ?_;rintro e w1 ⟨rfl,hb1⟩)
 go_ret
 exact ⟨rfl,(hA _).trans (hb1.mono (hA _).size)⟩
theorem mcheck_long (va vr:Value) (m:Mo) (w:World) (hV:ModelV w va vr m) (h:vcode m.vars=0) (h12:12 < m.rules.length) :
  Calls Tryd.prog 32 #[.agg #[va,vr]] w fun e w'=>e=.returned (.int .i64 1)/\Below w.heap.size w w':=by
 have hA:∀ o,Below w.heap.size w (w.alloc o):=fun o=>(Below.refl _ _).alloc (Nat.le_refl _) o
 have hcv:=fun o=>checkVars_any va m.vars (w.alloc o) (hV.1.below (hA o))
 rw [h] at hcv;obtain ⟨ao,cap,rfl⟩:=hV.1.shape;obtain ⟨ro,rc,rfl⟩:=hV.2.shape;generalize m.rules.length=rn at *;clear hV
 go_enter Tryd.func32,Tryd.ntmps32
 go_wp2_with (go_at_call 46;refine (hcv _).mono ?_;rintro e w1 ⟨rfl,hb1⟩;have hcb:w1.cell? ⟨w.heap.size,1,none⟩=some (.slice ro rn rc):=(hb1.cell (p:=⟨w.heap.size,1,none⟩) (by simp)).trans (by simp [go_sem]))
 go_ret
 exact ⟨rfl,(hA _).trans (hb1.mono (hA _).size)⟩
theorem mcheck_loop (va vr:Value) (m:Mo) (w:World) (hB:0 < w.heap.size) (hT:TabAt w) (hV:ModelV w va vr m) (h:vcode m.vars=0) (h12:m.rules.length <= 12) :
  Calls Tryd.prog 32 #[.agg #[va,vr]] w fun e w'=>e=.returned (.int .i64 (firstOf (fun i=>rcode m.vars.length (m.rules.getD i ru0)) m.rules.length))/\Below w.heap.size w w':=by
 have hA:∀ o,Below w.heap.size w (w.alloc o):=fun o=>(Below.refl _ _).alloc (Nat.le_refl _) o
 have hcv:=fun o=>checkVars_any va m.vars (w.alloc o) (hV.1.below (hA o))
 have h6:=(varsOk_of h).1;rw [h] at hcv;obtain ⟨ao,cap,rfl⟩:=hV.1.shape;obtain ⟨ro,rc,rfl⟩:=hV.2.shape;generalize hl:m.rules=l at *;have HS:Hid (RulesV w (.slice ro l.length rc) l):=by show RulesV _ _ _;rw [<- hl];rw [<- hl] at hV;exact hV.2
 have HT:Hid (TabAt w):=hT;obtain ⟨n,hn⟩:∃ n,n=l.length:=⟨_,rfl⟩
 have HN:Hid (n=l.length):=hn;rw [<- hn] at h12 HS ⊢;obtain ⟨vn,hvn⟩:∃ vn,vn=m.vars.length:=⟨_,rfl⟩
 rw [<- hvn] at hcv h6 ⊢;clear hV hT hn hl h hvn;obtain ⟨f,hf⟩:∃ f:Nat->Int,f=fun i=>rcode vn (l.getD i ru0):=⟨_,rfl⟩
 rw [<- hf];have HF:Hid (f=fun i=>rcode vn (l.getD i ru0)):=hf
 clear hf
 go_enter Tryd.func32,Tryd.ntmps32
 go_wp2_with (go_at_call 46;refine (hcv _).mono ?_;rintro e w1 ⟨rfl,hb1⟩;have hcb:w1.cell? ⟨w.heap.size,1,none⟩=some (.slice ro n rc):=(hb1.cell (p:=⟨w.heap.size,1,none⟩) (by simp)).trans (by simp [go_sem]))
 have hb1':Below (w.heap.size+1) (w.alloc (.cells #[.slice ao vn cap,.slice ro n rc] 25)) w1:=hb1.mono (by simp)
 clear hcv hcb hb1
 go_loopw [20] (fun i wr=>∃ k:Nat,k <= n/\i=.int .i64 k/\Hid (∀ j,j < k->f j=0)/\Below (w.heap.size+1) (w.alloc (.cells #[.slice ao vn cap,.slice ro n rc] 25)) wr) (fun i _=>n - (intOf i).toNat)
 case atStart=>exact ⟨0,Nat.zero_le _,rfl,fun j hj=>by omega,hb1'⟩
 case round=>
  obtain ⟨k,hk,rfl,HJ,hbel⟩:=hrel;have hbw:=(hA (.cells #[.slice ao vn cap,.slice ro n rc] 25)).trans (hbel.mono (Nat.le_succ _))
  by_cases hlt:k < n
  ·obtain ⟨b,off,rfl,hblt,hat⟩:=HS.out.at (i:=k) (by rw [<- HN.out];exact hlt)
   have HHit:Hid (∀ c,f k=c->c≠0->firstOf f n=c):=fun c h1 h2=>by rw [firstOf_hit hlt HJ.out (by rw [h1];exact h2),h1]
   have HStep:Hid (f k=0->∀ j,j < k+1->f j=0):=fun h0 j hj=>by
    by_cases hjk:j=k
    ·subst hjk;exact h0
    ·exact HJ.out j (by omega)
   obtain ⟨⟨u,c0',hO⟩,s,c1',hS⟩:=hat;have HFk:Hid (f k=rcode vn (l.getD k ru0)):=by show _=_;rw [HF.out]
   generalize l.getD k ru0=r at *;obtain ⟨ua,uc,rfl⟩:=hO.shape;obtain ⟨sa,sc,rfl⟩:=hS.shape;have c0:=(hbw.cell (p:=⟨b,off+k*2,none⟩) hblt).trans c0';have c1:=(hbw.cell (p:=⟨b,off+k*2+1,none⟩) hblt).trans c1';have hszb:w.heap.size+1 <= wr.heap.size:=by have:=hbel.size;simp at this;omega
   have hlb:w.heap.size < wr.heap.size:=by omega
   have cb:=(hbel.cell (p:=⟨w.heap.size,0,none⟩) (by simp)).trans (show _=some (.slice ao vn cap) by simp [go_sem])
   have hbA:=hbel.alloc hszb (.cells #[.slice ua r.guard.length uc,.slice sa r.sets.length sc] 61);have hbwA:=(hA _).trans (hbA.mono (Nat.le_succ _));have hcr:=checkRule_any _ _ r vn _ (by omega) (Nat.lt_of_lt_of_le hB hbwA.size) (HT.out.below hbwA hB) (hO.below hbwA) (hS.below hbwA)
   generalize r.guard.length=gn at *;generalize r.sets.length=sn at *;obtain ⟨x,hx⟩:∃ x,rcode vn r=x:=⟨_,rfl⟩
   rw [hx] at hcr HFk;clear HJ c0' c1' hO hS hx hA
   by_cases hx0:x=0
   ·subst hx0
    have HJ2:=(show Hid _ from HStep.out HFk.out)
    clear HStep HHit HFk HF
    go_wp2_with (go_at_call 47;refine hcr.mono ?_;rintro e w3 ⟨rfl,hb3⟩)
    go_roundw
    case rel=>exact ⟨k+1,hlt,by go_num,HJ2,hbA.trans (hb3.mono (by have:=hbA.size;simp at this ⊢;omega))⟩
    case measure=>simp [intOf];omega
   ·have HR:Hid (firstOf f n=x):=HHit.out x HFk.out hx0
    clear HStep HHit HFk HF
    go_wp2_with (go_at_call 47;refine hcr.mono ?_;rintro e w3 ⟨rfl,hb3⟩)
    go_ret
    rw [HR.out];exact ⟨rfl,hbwA.trans (hb3.mono hbwA.size)⟩
  ·have hkn:k=n:=by omega
   have HR:Hid (firstOf f n=0):=firstOf_none (fun j hj=>HJ.out j (by omega))
   go_wp2
   go_ret
   rw [HR.out];exact ⟨rfl,hbw⟩
theorem mcheck_any (va vr:Value) (m:Mo) (w:World) (hB:0 < w.heap.size) (hT:TabAt w) (hV:ModelV w va vr m) :
  Calls Tryd.prog 32 #[.agg #[va,vr]] w fun e w'=>e=.returned (.int .i64 (mcode m))/\Below w.heap.size w w':=by
 unfold mcode
 by_cases h:vcode m.vars=0
 ·rw [if_pos h]
  by_cases h12:12 < m.rules.length
  ·rw [if_pos h12]
   exact mcheck_long va vr m w hV h h12
  ·rw [if_neg h12]
   exact mcheck_loop va vr m w hB hT hV h (by omega)
 ·rw [if_neg h]
  exact mcheck_vars va vr m w hV h
