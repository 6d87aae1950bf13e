import Derived.Test.YtlepcjafgdlmgaaDoorRefRule
namespace Go.Proofs.YtlepcjafgdlmgaaDoor
open Go.ChangeShapes Go.WideShapes Go.ChangeAt Go.RowKit Go.Deep
open Terms Tm
set_option maxHeartbeats 6400000
set_option maxRecDepth 20000
theorem rmodel_vars (va vr:Value) (m:Mo) (w:World) (hV:ModelV w va vr m) (h:vcode m.vars≠0) :
  Calls Tryd.prog 40 #[.agg #[va,vr]] w fun e w'=>e=.returned (.int .i64 (vcode m.vars))/\Below w.heap.size w w':=by
 have hA:∀ o,Below w.heap.size w (w.alloc o):=fun o=>(Below.refl _ _).alloc (Nat.le_refl _) o
 have hcv:=fun o=>rvars_any va m.vars (w.alloc o) (hV.1.below (hA o))
 generalize vcode m.vars=x at *;obtain ⟨ao,cap,rfl⟩:=hV.1.shape;obtain ⟨ro,rc,rfl⟩:=hV.2.shape;clear hV
 go_enter Tryd.func40,Tryd.ntmps40
 go_wp2_with (go_at_call 54;refine (hcv _).mono ?_;rintro e w1 ⟨rfl,hb1⟩)
 go_ret
 exact ⟨rfl,(hA _).trans (hb1.mono (hA _).size)⟩
theorem rmodel_long (va vr:Value) (m:Mo) (w:World) (hV:ModelV w va vr m) (h:vcode m.vars=0) (h12:12 < m.rules.length) :
  Calls Tryd.prog 40 #[.agg #[va,vr]] w fun e w'=>e=.returned (.int .i64 1)/\Below w.heap.size w w':=by
 have hA:∀ o,Below w.heap.size w (w.alloc o):=fun o=>(Below.refl _ _).alloc (Nat.le_refl _) o
 have hcv:=fun o=>rvars_any va m.vars (w.alloc o) (hV.1.below (hA o))
 rw [h] at hcv;obtain ⟨ao,cap,rfl⟩:=hV.1.shape;obtain ⟨ro,rc,rfl⟩:=hV.2.shape;generalize m.rules.length=rn at *;clear hV
 go_enter Tryd.func40,Tryd.ntmps40
 go_wp2_with (go_at_call 54;refine (hcv _).mono ?_;rintro e w1 ⟨rfl,hb1⟩;have hcb:w1.cell? ⟨w.heap.size,1,none⟩=some (.slice ro rn rc):=(hb1.cell (p:=⟨w.heap.size,1,none⟩) (by simp)).trans (by simp [go_sem]))
 go_ret
 exact ⟨rfl,(hA _).trans (hb1.mono (hA _).size)⟩
theorem rmodel_loop (va vr:Value) (m:Mo) (w:World) (hV:ModelV w va vr m) (h:vcode m.vars=0) (h12:m.rules.length <= 12) :
  Calls Tryd.prog 40 #[.agg #[va,vr]] w fun e w'=>e=.returned (.int .i64 (firstOf (fun i=>rcode m.vars.length (m.rules.getD i ru0)) m.rules.length))/\Below w.heap.size w w':=by
 have hA:∀ o,Below w.heap.size w (w.alloc o):=fun o=>(Below.refl _ _).alloc (Nat.le_refl _) o
 have hcv:=fun o=>rvars_any va m.vars (w.alloc o) (hV.1.below (hA o))
 have h6:=(varsOk_of h).1;rw [h] at hcv;obtain ⟨ao,cap,rfl⟩:=hV.1.shape;obtain ⟨ro,rc,rfl⟩:=hV.2.shape;generalize hl:m.rules=l at *;have HS:Hid (RulesV w (.slice ro l.length rc) l):=by show RulesV _ _ _;rw [<- hl];rw [<- hl] at hV;exact hV.2
 obtain ⟨n,hn⟩:∃ n,n=l.length:=⟨_,rfl⟩
 have HN:Hid (n=l.length):=hn;rw [<- hn] at h12 HS ⊢;obtain ⟨vn,hvn⟩:∃ vn,vn=m.vars.length:=⟨_,rfl⟩
 rw [<- hvn] at hcv h6 ⊢;clear hV hn hl h hvn;obtain ⟨f,hf⟩:∃ f:Nat->Int,f=fun i=>rcode vn (l.getD i ru0):=⟨_,rfl⟩
 rw [<- hf];have HF:Hid (f=fun i=>rcode vn (l.getD i ru0)):=hf
 clear hf
 go_enter Tryd.func40,Tryd.ntmps40
 go_wp2_with (go_at_call 54;refine (hcv _).mono ?_;rintro e w1 ⟨rfl,hb1⟩;have hcb:w1.cell? ⟨w.heap.size,1,none⟩=some (.slice ro n rc):=(hb1.cell (p:=⟨w.heap.size,1,none⟩) (by simp)).trans (by simp [go_sem]))
 have hb1':Below (w.heap.size+1) (w.alloc (.cells #[.slice ao vn cap,.slice ro n rc] 25)) w1:=hb1.mono (by simp)
 clear hcv hcb hb1
 go_loopw [3,4] (fun e i wr=>∃ (k:Nat) (x:Int),k <= n/\i=.int .i64 k/\e=.int .i64 x/\Hid ((x=0->∀ j,j < k->f j=0)/\(x≠0->firstOf f n=x))/\Below (w.heap.size+1) (w.alloc (.cells #[.slice ao vn cap,.slice ro n rc] 25)) wr) (fun _ i _=>n - (intOf i).toNat)
 case atStart=>exact ⟨0,0,Nat.zero_le _,rfl,rfl,⟨fun _ j hj=>by omega,fun h=>absurd rfl h⟩,hb1'⟩
 case round=>
  obtain ⟨k,x,hk,rfl,rfl,HJ,hbel⟩:=hrel;have hbw:=(hA _).trans (hbel.mono (Nat.le_succ _));have hszb:w.heap.size+1 <= wr.heap.size:=by have:=hbel.size;simp at this;omega
  have hlb:w.heap.size < wr.heap.size:=by omega
  have cb0:=(hbel.cell (p:=⟨w.heap.size,0,none⟩) (by simp)).trans (show _=some (.slice ao vn cap) by simp [go_sem])
  have cb:=(hbel.cell (p:=⟨w.heap.size,1,none⟩) (by simp)).trans (show _=some (.slice ro n rc) by simp [go_sem])
  clear hb1'
  by_cases hx:x=0
  ·subst hx
   have HJ':=(show Hid _ from HJ.out.1 rfl)
   clear HJ
   by_cases hlt:k < n
   ·obtain ⟨b,off,rfl,hblt,hat⟩:=HS.out.at (i:=k) (by rw [<- HN.out];exact hlt)
    obtain ⟨⟨u,c0',hO⟩,s,c1',hS⟩:=hat;have HFk:Hid (f k=rcode vn (l.getD k ru0)):=by show _=_;rw [HF.out]
    generalize l.getD k ru0=r at *;obtain ⟨ua,uc,rfl⟩:=hO.shape;obtain ⟨sa,sc,rfl⟩:=hS.shape;have c0:=(hbw.cell (p:=⟨b,off+k*2,none⟩) hblt).trans c0';have c1:=(hbw.cell (p:=⟨b,off+k*2+1,none⟩) hblt).trans c1'
    have hrr:=(fun w2 (hb2:Below wr.heap.size wr w2)=>rrule_any _ _ r vn w2 (by omega) (by omega) (hO.below (hbw.trans (hb2.mono hbw.size))) (hS.below (hbw.trans (hb2.mono hbw.size))))
    generalize r.guard.length=gn at *;generalize r.sets.length=sn at *;obtain ⟨x,hx⟩:∃ x,rcode vn r=x:=⟨_,rfl⟩
    rw [hx] at hrr HFk
    have HF2:Hid ((x=0->∀ j,j < k+1->f j=0)/\(x≠0->firstOf f n=x)):=by
     refine ⟨fun h0 j hj=>?_,fun h0=>?_⟩
     ·by_cases hjk:j=k
      ·subst hjk;rw [HFk.out,h0]
      ·exact HJ'.out j (by omega)
     ·rw [firstOf_hit hlt HJ'.out (by rw [HFk.out];exact h0),HFk.out]
    have hbo:b < wr.heap.size:=by omega
    have hS0:∀ w',Below wr.heap.size wr w'->w'.cell? ⟨w.heap.size,0,none⟩=some (.slice ao vn cap)/\w'.cell? ⟨w.heap.size,1,none⟩=some (.slice (some ⟨b,off,none⟩) n rc)/\w'.cell? ⟨b,off+k*2,none⟩=some (.slice ua gn uc)/\w'.cell? ⟨b,off+k*2+1,none⟩=some (.slice sa sn sc)/\Below wr.heap.size wr w':=fun w' hw'=>
     ⟨(hw'.cell (p:=⟨w.heap.size,0,none⟩) hlb).trans cb0,(hw'.cell (p:=⟨w.heap.size,1,none⟩) hlb).trans cb,(hw'.cell (p:=⟨b,off+k*2,none⟩) hbo).trans c0,(hw'.cell (p:=⟨b,off+k*2+1,none⟩) hbo).trans c1,hw'⟩
    have hB0:Below wr.heap.size wr wr:=Below.refl _ _;have hi0:(0:Int) <= (k:Int):=Int.natCast_nonneg _;have hi1:(k:Int) < (n:Int):=by omega
    clear HJ' c0' c1' hO hS hx hA HF HFk hbw
    go_wp2_with fail
    go_region_held3 (fun w'=>w'.cell? ⟨w.heap.size,0,none⟩=some (.slice ao vn cap)/\w'.cell? ⟨w.heap.size,1,none⟩=some (.slice (some ⟨b,off,none⟩) n rc)/\w'.cell? ⟨b,off+k*2,none⟩=some (.slice ua gn uc)/\w'.cell? ⟨b,off+k*2+1,none⟩=some (.slice sa sn sc)/\Below wr.heap.size wr w')
     (exact hS0 _ (by first | exact hB0 | exact hB0.drew | exact hB0.drew.trans hb2))
     (first | (go_at_call 55;refine (hrr _ hB0.drew).mono ?_;rintro e w2 ⟨rfl,hb2⟩))
    go_wp2_with fail
    go_roundw
    case rel=>exact ⟨k+1,x,hlt,by go_num,rfl,HF2,hbel.trans ((hB0.drew.trans hb2).mono hszb)⟩
    case measure=>simp [intOf];omega
   ·have HR:Hid (firstOf f n=0):=firstOf_none (fun j hj=>HJ'.out j (by omega))
    clear HJ'
    go_wp2
    go_ret
    rw [HR.out];exact ⟨rfl,hbw⟩
  ·have HR:Hid (firstOf f n=x):=HJ.out.2 hx
   clear HJ
   by_cases hlt:k < n
   all_goals
    go_wp2
    go_ret
    rw [HR.out];exact ⟨rfl,hbw⟩
theorem rmodel_any (va vr:Value) (m:Mo) (w:World) (hV:ModelV w va vr m) :
  Calls Tryd.prog 40 #[.agg #[va,vr]] w fun e w'=>e=.returned (.int .i64 (mcode m))/\Below w.heap.size w w':=by
 unfold mcode
 by_cases h:vcode m.vars=0
 ·rw [if_pos h]
  by_cases h12:12 < m.rules.length
  ·rw [if_pos h12]
   exact rmodel_long va vr m w hV h h12
  ·rw [if_neg h12]
   exact rmodel_loop va vr m w hV h (by omega)
 ·rw [if_neg h]
  exact rmodel_vars va vr m w hV h
