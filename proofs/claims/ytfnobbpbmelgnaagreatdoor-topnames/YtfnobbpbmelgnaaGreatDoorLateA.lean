/- Joined texts. -/
import Derived.Test.YtfnobbpbmelgnaaGreatDoorMCode
import Derived.Test.YtfnobbpbmelgnaaGreatDoorMValues
import Derived.Test.YtfnobbpbmelgnaaGreatDoorDesignOpen
import Derived.Maps.Own
import Derived.Deep.RegionHeld2
import Derived.Ground.Names2Prog
import Derived.Shelf.Slices.Clone
import Derived.Lib.OwnBridge
import Derived.Laws.OwnMore
import Derived.Test.YtfnobbpbmelgnaaGreatDoorBools
namespace Go.Proofs.YtfnobbpbmelgnaaGreatDoor
open Go.ChangeShapes Go.WideShapes Go.ChangeAt Go.RowKit Go.Deep
open Terms Tm
set_option maxHeartbeats 6400000
set_option maxRecDepth 20000
theorem initsL_length (l:List Vr):(initsL l).length=l.length:=by simp [initsL]
theorem initsL_get {l:List Vr} {i:Nat} (h:i < l.length):(initsL l).getD i 0=(l.getD i vr0).ini:=by
 simp [initsL,List.getD_eq_getElem?_getD,h]
theorem mfirst_loop (va vr:Value) (m:Mo) (w:World) (hB:0 < w.heap.size) (hT:TabAt w) (hV:ModelV w va vr m) (h:mcode m=0) :
  Calls Tryz.prog 44 #[.agg #[va,vr]] w fun e w'=>e=.returned (.tuple #[.int .i64 (codeTo m.vars (initsL m.vars) m.vars.length),.int .i64 0])/\Below w.heap.size w w':=by
 have hA:∀ o,Below w.heap.size w (w.alloc o):=fun o=>(Below.refl _ _).alloc (Nat.le_refl _) o
 have hch:=fun o=>mcheck_any va vr m (w.alloc o) (Nat.lt_of_lt_of_le hB (hA o).size) (hT.below (hA o) hB) (hV.below (hA o))
 rw [h] at hch;have hok:=mcode_vars h;have h6:=hok.1;have hcf:=(fun vv w1 (hb:Below w.heap.size w w1) (hI:IntsV w1 vv (initsL m.vars))=>codeOf_any va vv m.vars (initsL m.vars) w1 hok (initsL_length _) (inits_in hok) (hV.1.below hb) hI)
 obtain ⟨ao,cap,rfl⟩:=hV.1.shape;obtain ⟨ro,rc,rfl⟩:=hV.2.shape;have HCF:=(show Hid _ from hcf)
 have HV:Hid (VarsV w (.slice ao m.vars.length cap) m.vars):=hV.1;have HIn:Hid (∀ i,i < m.vars.length->(initsL m.vars).getD i 0=(m.vars.getD i vr0).ini):=fun i hi=>initsL_get hi
 have HLn:Hid ((initsL m.vars).length=m.vars.length):=initsL_length _;generalize codeTo m.vars (initsL m.vars) m.vars.length=res at *;obtain ⟨n,hn⟩:∃ n,n=m.vars.length:=⟨_,rfl⟩
 have HN:Hid (n=m.vars.length):=hn;rw [<- hn] at h6 hch HCF HV HIn HLn ⊢;generalize m.rules.length=rn at *;have hmk:=run_make_row' (P:=Tryz.prog) 36 3 (.int .i64 0) 8 Tryz.underlying36 infoInt rfl .i64 .i64 n (by omega) (by omega)
 clear hV hT hn hok h hcf
 go_enter Tryz.func44,Tryz.ntmps44
 go_wp2_with (go_at_call 60;refine (hch _).mono ?_;rintro e w1 ⟨rfl,hb1⟩;have hcb:w1.cell? ⟨w.heap.size,0,none⟩=some (.slice ao n cap):=(hb1.cell (p:=⟨w.heap.size,0,none⟩) (by simp)).trans (by simp [go_sem]);have hs1:w.heap.size < w1.heap.size:=(by have:=hb1.size;simp at this;omega);have hcbA:∀ o,(w1.alloc o).cell? ⟨w.heap.size,0,none⟩=some (.slice ao n cap):=(fun o=>(((Below.refl w1.heap.size w1).alloc (Nat.le_refl _) o).cell (p:=⟨w.heap.size,0,none⟩) hs1).trans hcb))
 have hbw:=(hA _).trans (hb1.mono (hA _).size);have hrow0:=World.rowIs_made w1 (.int .i64 0) n 3;have HB1:Hid (Below w.heap.size w w1):=hbw;clear hch hmk hb1 hbw hcbA
 go_loopw [20] (fun i wr=>∃ k:Nat,k <= n/\i=.int .i64 k/\Hid (wr.rowIs w1.heap.size 3 n (fun j=>if j < k then .int .i64 ((initsL m.vars).getD j 0) else .int .i64 0))/\Hid (Below w1.heap.size w1 wr)) (fun i _=>n - (intOf i).toNat)
 case atStart=>exact ⟨0,Nat.zero_le _,rfl,hrow0.congr (fun i hi=>by rw [if_neg (by omega)]),(Below.refl _ _).alloc (Nat.le_refl _) _⟩
 case round=>
  obtain ⟨k,hk,rfl,HRow,HBel⟩:=hrel;have hbel:=HBel.out;have hrow:=HRow.out;have hbw:=HB1.out.trans (hbel.mono HB1.out.size);have hszr:=hrow.lt;have cb:=(hbel.cell (p:=⟨w.heap.size,0,none⟩) hs1).trans hcb
  by_cases hlt:k < n
  ·obtain ⟨b,off,rfl,hblt,hat⟩:=HV.out.at (i:=k) (by rw [<- HN.out];exact hlt)
   obtain ⟨c0,c1,c2,c3⟩:=hat.below hbw hblt;have HIk:=(show Hid _ from HIn.out k hlt)
   have hA2:=fun o=>hrow.alloc o
   have hf:∀ o,(wr.alloc o).frozen? ⟨w1.heap.size,k,none⟩=false:=fun o=>(hA2 o).frozen k
   have hcl:∀ o,(wr.alloc o).cell? ⟨w1.heap.size,k,none⟩=some (.int .i64 0):=fun o=>by rw [(hA2 o).cell hlt,if_neg (by omega)]
   generalize m.vars.getD k vr0=x at *;obtain ⟨s,lo,hi,ini⟩:=x;simp only at c0 c1 c2 c3 HIk
   have hfin:(((wr.setCell ⟨w1.heap.size,k,none⟩ (.int .i64 ini)).alloc (.cells #[.string s,.int .i64 lo,.int .i64 hi,.int .i64 ini] 45)).rowIs w1.heap.size 3 n (fun j=>if j < k+1 then .int .i64 ((initsL m.vars).getD j 0) else .int .i64 0)):=((hrow.set k (.int .i64 ini)).alloc _).congr fun j hj=>by
    by_cases hjk:j=k
    ·subst hjk;rw [if_pos rfl,if_pos (by omega),HIk.out]
    ·rw [if_neg hjk]
     by_cases hlk:j < k
     ·rw [if_pos hlk,if_pos (by omega)]
     ·rw [if_neg hlk,if_neg (by omega)]
   have hbA:=(hbel.setCell (p:=⟨w1.heap.size,k,none⟩) (Nat.le_refl _) (.int .i64 ini)).alloc (by simp;omega) (.cells #[.string s,.int .i64 lo,.int .i64 hi,.int .i64 ini] 45)
   have HF:=(show Hid _ from hfin)
   have HBA:=(show Hid _ from hbA)
   have hfs:=hf (.cells #[.string s,.int .i64 lo,.int .i64 hi,.int .i64 ini] 45);have hcs:=hcl (.cells #[.string s,.int .i64 lo,.int .i64 hi,.int .i64 ini] 45);clear hat hA2 hf hcl hfin hbA hrow hbel hrow0
   go_wp2_with fail
   go_roundw
   case rel=>exact ⟨k+1,hlt,by go_num,HF.out,HBA.out⟩
   case measure=>simp [intOf];omega
  ·have hkn:k=n:=by omega
   subst hkn
   have hI:IntsV wr (.slice (some ⟨w1.heap.size,0,none⟩) k k) (initsL m.vars):=by
    have:=intsV_of_row (hrow.congr (g:=fun j=>.int .i64 ((initsL m.vars).getD j 0)) (fun i hi=>by rw [if_pos hi]))
    have e:(List.range k).map (fun j=>(initsL m.vars).getD j 0)=initsL m.vars:=by
     apply List.ext_getElem?
     intro i
     by_cases hi:i < k
     ·simp [hi,List.getD_eq_getElem?_getD,show i < (initsL m.vars).length by rw [HLn.out];exact hi]
     ·simp [hi,show ¬ i < (initsL m.vars).length by rw [HLn.out];exact hi]
    rwa [e] at this
   have hcf:=HCF.out _ wr hbw hI;clear hI hrow HCF HRow hrow0
   go_wp2_with (go_at_call 61;refine hcf.mono ?_;rintro e w2 ⟨rfl,hb2⟩)
   go_ret2
   exact ⟨rfl,hbw.trans (hb2.mono hbw.size)⟩
theorem mfirst_bad (va vr:Value) (m:Mo) (w:World) (hB:0 < w.heap.size) (hT:TabAt w) (hV:ModelV w va vr m) (h:mcode m≠0) :
  Calls Tryz.prog 44 #[.agg #[va,vr]] w fun e w'=>e=.returned (.tuple #[.int .i64 0,.int .i64 (mcode m)])/\Below w.heap.size w w':=by
 have hA:∀ o,Below w.heap.size w (w.alloc o):=fun o=>(Below.refl _ _).alloc (Nat.le_refl _) o
 have hch:=fun o=>mcheck_any va vr m (w.alloc o) (Nat.lt_of_lt_of_le hB (hA o).size) (hT.below (hA o) hB) (hV.below (hA o))
 obtain ⟨ao,cap,rfl⟩:=hV.1.shape;obtain ⟨ro,rc,rfl⟩:=hV.2.shape;generalize mcode m=x at *;generalize m.vars.length=n at *;generalize m.rules.length=rn at *;clear hV hT
 go_enter Tryz.func44,Tryz.ntmps44
 go_wp2_with (go_at_call 60;refine (hch _).mono ?_;rintro e w1 ⟨rfl,hb1⟩)
 go_ret2
 exact ⟨rfl,(hA _).trans (hb1.mono (hA _).size)⟩
theorem mfirst_any (va vr:Value) (m:Mo) (w:World) (hB:0 < w.heap.size) (hT:TabAt w) (hV:ModelV w va vr m) :
  Calls Tryz.prog 44 #[.agg #[va,vr]] w fun e w'=>e=.returned (.tuple #[.int .i64 (if mcode m=0 then codeTo m.vars (initsL m.vars) m.vars.length else 0),.int .i64 (mcode m)])/\Below w.heap.size w w':=by
 by_cases h:mcode m=0
 ·rw [if_pos h,h]
  exact mfirst_loop va vr m w hB hT hV h
 ·rw [if_neg h]
  exact mfirst_bad va vr m w hB hT hV h
structure GV (a b:Vr):Prop where
 na:a.name=bX
 nb:b.name=bY
 a0:-1 <= a.lo
 a1:a.lo <= 1
 a2:a.lo <= a.hi
 a3:a.hi <= a.lo+3
 a4:a.lo <= a.ini
 a5:a.ini <= a.hi
 b0:-1 <= b.lo
 b1:b.lo <= 1
 b2:b.lo <= b.hi
 b3:b.hi <= b.lo+3
 b4:b.lo <= b.ini
 b5:b.ini <= b.hi
theorem gvars_gv (sp0 sp1 lw0 lw1 iv0 iv1:Int):∃ a b,gvars sp0 sp1 lw0 lw1 iv0 iv1=[a,b]/\GV a b:=by
 obtain ⟨p0,p1,p2,p3,p4,p5⟩:=gvar_bounds bX sp0 lw0 iv0;obtain ⟨q0,q1,q2,q3,q4,q5⟩:=gvar_bounds bY sp1 lw1 iv1;exact ⟨_,_,rfl,⟨rfl,rfl,p0,p1,p2,p3,p4,p5,q0,q1,q2,q3,q4,q5⟩⟩
theorem GV.sa {a b:Vr} (h:GV a b):1 <= vspan a/\vspan a <= 4:=by
 have:=h.a2;have:=h.a3
 unfold vspan;omega
theorem GV.sb {a b:Vr} (h:GV a b):1 <= vspan b/\vspan b <= 4:=by
 have:=h.b2;have:=h.b3
 unfold vspan;omega
theorem GV.prod {a b:Vr} (h:GV a b):1 <= vspan a*vspan b/\vspan a*vspan b <= 16:=by
 have h1:=h.sa;have h2:=h.sb
 have h3:=Int.mul_le_mul h1.1 h2.1 (by omega) (by omega)
 have h4:=Int.mul_le_mul h1.2 h2.2 (by omega) (by omega)
 omega
theorem metXY {a b:Vr} (h:GV a b) (l:List Vr):metName (a:: b:: l) 1 b.name=false:=by
 show (decide (a.name=b.name)||false)=false
 rw [h.na,h.nb];simp [bXY]
theorem GV.vAt {a b:Vr} (h:GV a b) (l:List Vr):vAt (a:: b:: l) 0=0/\vAt (a:: b:: l) 1=0:=by
 have h1:=h.sa;have h2:=h.sb
 obtain ⟨na,nb,p0,p1,p2,p3,p4,p5,q0,q1,q2,q3,q4,q5⟩:=h;have v0:vbound a=true:=by simp only [vbound,decide_eq_true_eq];omega
 have v1:vbound b=true:=by simp only [vbound,decide_eq_true_eq];omega
 refine ⟨(vAt_eq (l:=a:: b:: l) (k:=0) rfl rfl).2.2.2.2 (by rw [show ((a:: b:: l).getD 0 vr0).name=bX from na];exact name_bX) rfl v0 ?_,(vAt_eq (l:=a:: b:: l) (k:=1) rfl rfl).2.2.2.2 (by rw [show ((a:: b:: l).getD 1 vr0).name=bY from nb];exact name_bY) (metXY ⟨na,nb,p0,p1,p2,p3,p4,p5,q0,q1,q2,q3,q4,q5⟩ l) v1 ?_⟩
 ·show ¬ (64 < vspan a\/4096 < 1*vspan a)
  omega
 ·show ¬ (64 < vspan b\/4096 < (1*vspan a)*vspan b)
  rw [Int.one_mul];have:=Int.mul_le_mul h1.2 h2.2 (by omega) (by omega)
  omega
theorem GV.vcode {a b:Vr} (h:GV a b):vcode [a,b]=0:=by
 unfold Go.Proofs.YtfnobbpbmelgnaaGreatDoor.vcode;rw [if_neg (by simp)]
 refine firstOf_none fun j hj=>?_
 have hj2:j=0\/j=1:=by simp at hj;omega
 rcases hj2 with rfl | rfl
 ·exact (h.vAt []).1
 ·exact (h.vAt []).2
theorem GV.mcode {a b:Vr} (h:GV a b) {rules:List Ru} (h5:rules.length <= 12) (hr:∀ j,j < rules.length->rcode 2 (rules.getD j ru0)=0):mcode ⟨[a,b],rules⟩=0:=by
 unfold Go.Proofs.YtfnobbpbmelgnaaGreatDoor.mcode;rw [if_pos h.vcode,if_neg (show ¬ 12 < rules.length by omega)]
 exact firstOf_none hr
theorem prod_two (a b:Vr):prodTo [a,b] 2=vspan a*vspan b:=by
 show (1*vspan a)*vspan b=_
 rw [Int.one_mul]
theorem seg_two (a b:Vr):segP [a,b] 1=vspan b/\segP [a,b] 2=1:=by
 refine ⟨?_,segP_end _⟩
 rw [segP_step (i:=1) (by simp),show segP [a,b] (1+1)=1 from segP_end [a,b]]
 show vspan b*1=_
 rw [Int.mul_one]
theorem val_zero {a b:Vr} (h:GV a b) {c:Int} (h0:0 <= c) (h1:c < vspan a*vspan b):valAt [a,b] c 0=a.lo+c / vspan b:=by
 have hs:=h.sb
 show a.lo+(c / segP [a,b] 1) % vspan a=_
 rw [(seg_two a b).1,Int.emod_eq_of_lt (Int.ediv_nonneg h0 (by omega)) (Int.ediv_lt_of_lt_mul (by omega) h1)]
theorem val_one {a b:Vr} {c:Int}:valAt [a,b] c 1=b.lo+c % vspan b:=by
 show b.lo+(c / segP [a,b] 2) % vspan b=_
 rw [(seg_two a b).2,Int.ediv_one]
section
variable {a b : Vr} {va vr : Value} {w : World}
theorem GModel.shape {w:World} {va vr:Value} {x y:Vr} (h:GModel w va vr [x,y]):∃ ao cap ro rn rc,va=.slice ao 2 cap/\vr=.slice ro rn rc/\rn <= 5:=by
 obtain ⟨rules,h1,h2,h3⟩:=h;obtain ⟨ao,cap,e1⟩:=h1.1.shape;obtain ⟨ro,rc,e2⟩:=h1.2.shape;exact ⟨ao,cap,ro,_,rc,e1,e2,h2⟩
end
theorem PlansV.below {w w':World} {v:Value} {l:List Pl} (h:PlansV w v l) (hb:Below w.heap.size w w'):PlansV w' v l:=SlV.imp h hb.size fun b _ _ hlt _ ⟨⟨u,h1,h2⟩,h3,h4,⟨u',h5,h6⟩,h7⟩=>
 ⟨⟨u,(hb.cell (p:=⟨b,_,none⟩) hlt).trans h1,h2.mv hb⟩,(hb.cell (p:=⟨b,_,none⟩) hlt).trans h3,h4,⟨u',(hb.cell (p:=⟨b,_,none⟩) hlt).trans h5,h6.mv hb⟩,(hb.cell (p:=⟨b,_,none⟩) hlt).trans h7⟩
theorem design_rules {w:World} {v:Value} {vars:List Vr} (h:DesignV w v vars):∃ c0 c1 c2 c3 c4 c5 c6 a b rules,v=.agg #[c0,c1,c2,c3,c4,c5,c6]/\GV a b/\
  ∀ w',Below w.heap.size w w'->Calls Tryz.prog 12 #[.agg #[c0,c1,c2,c3,c4,c5,c6]] w' fun e w2=>∃ va vr,e=.returned (.agg #[va,vr])/\Below w'.heap.size w' w2/\GModelR w2 va vr [a,b] rules:=by
 obtain ⟨sp0,sp1,lw0,lw1,iv0,iv1,pv,ps,rfl,hI,hP,rfl⟩:=h;obtain ⟨a,b,he,hG⟩:=gvars_gv sp0 sp1 lw0 lw1 iv0 iv1;refine ⟨_,_,_,_,_,_,_,a,b,(ps.take 5).map gplF,rfl,hG,fun w' hb=>?_⟩
 rw [<- he];exact modelFn_any sp0 sp1 lw0 lw1 iv0 iv1 pv ps w' hI (hP.below hb)
end Go.Proofs.YtfnobbpbmelgnaaGreatDoor
namespace Go.Proofs.YtfnobbpbmelgnaaGreatDoor
open Go.ChangeShapes Go.WideShapes Go.ChangeAt Go.RowKit Go.Deep Go.Maps
open Terms Tm
set_option maxHeartbeats 6400000
set_option maxRecDepth 20000
theorem tooGreat_any (x:Int) (w:World) :
  Calls Tryz.prog 96 #[.int .i64 x] w fun e w'=>e=.returned (.bool (decide (¬ (-1000000 <= x/\x <= 1000000))))/\w'=w:=by
 by_cases h1:x < -1000000
 ·rw [show decide (¬ (-1000000 <= x/\x <= 1000000))=true by simp;omega]
  go_enter Tryz.func96,Tryz.ntmps96
  go_wp2
  all_goals go_ret
  all_goals exact ⟨rfl,rfl⟩
 ·by_cases h2:1000000 < x
  ·rw [show decide (¬ (-1000000 <= x/\x <= 1000000))=true by simp;omega]
   go_enter Tryz.func96,Tryz.ntmps96
   go_wp2
   all_goals go_ret
   all_goals exact ⟨rfl,rfl⟩
  ·rw [show decide (¬ (-1000000 <= x/\x <= 1000000))=false by simp;omega]
   go_enter Tryz.func96,Tryz.ntmps96
   go_wp2
   all_goals go_ret
   all_goals exact ⟨rfl,rfl⟩
theorem truth_fn (c:Bool) (w:World) :
  Calls Tryz.prog 114 #[.bool c] w fun e w'=>e=.returned (.int .i64 (if c=true then 1 else 0))/\w'=w:=by
 cases c
 all_goals
  go_enter Tryz.func114,Tryz.ntmps114
  go_wp2
  all_goals go_ret
  all_goals exact ⟨rfl,rfl⟩
def pairFn (k:Int):Nat:=if k=3 then 110 else if k=4 then 111 else if k=5 then 112 else if k=6 then 113 else if k=7 then 115 else if k=8 then 116 else 117
theorem abs_le {x:Int} (h:-1000000 <= x/\x <= 1000000):x.natAbs <= 1000000:=by omega
theorem mul_le {x y:Int} (hx:-1000000 <= x/\x <= 1000000) (hy:-1000000 <= y/\y <= 1000000):-1000000000000 <= x*y/\x*y <= 1000000000000:=by
 have h:=Nat.mul_le_mul (abs_le hx) (abs_le hy);rw [<- Int.natAbs_mul] at h;omega
theorem pair_any (k x y:Int) (w:World) (h3:3 <= k) (h9:k <= 9) (hx:-1000000 <= x/\x <= 1000000) (hy:-1000000 <= y/\y <= 1000000) (ht:8 <= k->(x=0\/x=1)/\(y=0\/y=1)) :
  Calls Tryz.prog (pairFn k) #[.int .i64 x,.int .i64 y] w fun e w'=>e=.returned (.int .i64 (bin k x y))/\w'=w:=by
 have hk:k=3\/k=4\/k=5\/k=6\/k=7\/k=8\/k=9:=by omega
 have hm:=mul_le hx hy;obtain ⟨hm1,hm2⟩:=hm;obtain ⟨hx1,hx2⟩:=hx;obtain ⟨hy1,hy2⟩:=hy;clear h3 h9
 rcases hk with rfl | rfl | rfl | rfl | rfl | rfl | rfl
 ·show Calls Tryz.prog 110 _ _ _
  clear ht
  go_enter Tryz.func110,Tryz.ntmps110
  go_wp2
  go_ret
  exact ⟨rfl,rfl⟩
 ·show Calls Tryz.prog 111 _ _ _
  clear ht
  go_enter Tryz.func111,Tryz.ntmps111
  go_wp2
  go_ret
  exact ⟨rfl,rfl⟩
 ·show Calls Tryz.prog 112 _ _ _
  clear ht
  go_enter Tryz.func112,Tryz.ntmps112
  go_wp2
  go_ret
  exact ⟨rfl,rfl⟩
 ·show Calls Tryz.prog 113 _ _ _
  clear ht;have htr:=fun w=>truth_fn (x == y) w
  have hb:bin 6 x y=if (x == y)=true then 1 else 0:=by simp [bin]
  rw [<- hb] at htr;generalize bin 6 x y=z at htr ⊢;clear hb
  go_enter Tryz.func113,Tryz.ntmps113
  go_wp2_with (go_at_call 114;refine (htr _).mono ?_;rintro e w1 ⟨rfl,rfl⟩)
  go_ret
  exact ⟨rfl,rfl⟩
 ·show Calls Tryz.prog 115 _ _ _
  clear ht
  by_cases hc:x < y
  ·have htr:=fun w=>truth_fn true w
   have hb:bin 7 x y=1:=by simp [bin,hc]
   rw [hb];clear hb
   go_enter Tryz.func115,Tryz.ntmps115
   go_wp2_with (go_at_call 114;refine (htr _).mono ?_;rintro e w1 ⟨rfl,rfl⟩)
   go_ret
   exact ⟨rfl,rfl⟩
  ·have htr:=fun w=>truth_fn false w
   have hb:bin 7 x y=0:=by simp [bin,hc]
   rw [hb];clear hb
   go_enter Tryz.func115,Tryz.ntmps115
   go_wp2_with (go_at_call 114;refine (htr _).mono ?_;rintro e w1 ⟨rfl,rfl⟩)
   go_ret
   exact ⟨rfl,rfl⟩
 ·show Calls Tryz.prog 116 _ _ _
  obtain ⟨ha,hb⟩:=ht (by decide)
  clear ht hm1 hm2 hx1 hx2 hy1 hy2
  rcases ha with rfl | rfl <;> rcases hb with rfl | rfl
  all_goals
   go_enter Tryz.func116,Tryz.ntmps116
   go_wp2
   go_ret
   exact ⟨rfl,rfl⟩
 ·show Calls Tryz.prog 117 _ _ _
  obtain ⟨ha,hb⟩:=ht (by decide)
  clear ht hm1 hm2 hx1 hx2 hy1 hy2
  rcases ha with rfl | rfl <;> rcases hb with rfl | rfl
  all_goals
   go_enter Tryz.func117,Tryz.ntmps117
   go_wp2
   go_ret
   exact ⟨rfl,rfl⟩
def fnElem:Value->Option (DataW Unit × List MemPlace)
 | .func (.func f) first cap=>if first=#[]/\cap=#[] then some (.lit (.int .i64 f),[]) else none
 | .nilFunc=>some (.nil,[])
 | _=>none
theorem fnElem_inv {v:Value} {f:Nat} {ps:List MemPlace} (h:fnElem v=some (.lit (.int .i64 f),ps)):v=.func (.func f) #[] #[]:=by
 unfold fnElem at h
 split at h
 ·split at h
  ·rename_i hc
   obtain ⟨rfl,rfl⟩:=hc;simp at h
   rw [Int.ofNat.inj h.1]
  ·simp at h
 ·simp at h
 ·simp at h
theorem wpList_insert_own {H:Type} {P:Program} (w:World) {ops:Array Oper} {rest:List Oper} {o:Oper} {a:Act} {Q:Exit->Act->World->Prop}
  (hg:o.guard=none) (m x v:Operand) (t:TypeId) (hop:o.op=Op.insert t m x v)
  (k e:TypeId) (K:Keyed P k) (ht:P.underlying t=some (.map k e)) (R:Value->Option (DataW H × List MemPlace)) (b n:Nat) (D:DataW H)
  (hm:a.eval m=.map (some b)) (hown:w.ownsMap P k R b n D) (hn:n < maxLen) (key val:Value) (kl:Lit) (hx:a.eval x=key) (hv:a.eval v=val) (hkey:keyOf P k key=some kl)
  (d:DataW H) (ps:List MemPlace) (hval:R val=some (d,ps))
  (hK:∀ w',w'.ownsMap P k R b (n+1) (D.put kl d)->w.grownBy w' (some b)->wpList P ops Q rest (a.put o.dst undef) w') :
  wpList P ops Q (o:: rest) a w:=by
 refine wpList_plain hg fun K' hK'=>?_
 obtain ⟨w',hrun,r1,r2⟩:=hown.update K ht hn hkey hval;unfold Oper.wp;simp [execOp,hop,hm,hx,hv,hrun,Result.andThen]
 exact hK' _ _ (hK w' r1 r2)
def pairD:Nat->DataW Unit
 | 0=>.map []
 | n+1=>(pairD n).put (.int .i64 ((n:Int)+3)) (.lit (.int .i64 (pairFn ((n:Int)+3))))
def PairsAt (w:World) (M:Nat):Prop:=w.ownsMap Tryz.prog 3 fnElem M 7 (pairD 7)
theorem PairsAt.later {w w':World} {M:Nat} (h:PairsAt w M) (hb:Below w.heap.size w w'):PairsAt w' M:=by
 have hlt:=World.ownsMap.lt h;obtain ⟨es,clock,h1,h2⟩:=h;exact ⟨es,clock,(hb.block M hlt).trans h1,h2⟩
theorem keyInt:Keyed Tryz.prog 3:=int_keyed Tryz.underlying3
theorem key3 (k:Int) (h:3 <= k/\k <= 9):keyOf Tryz.prog 3 (.int .i64 k)=some (.int .i64 k):=keyOf_int_mk Tryz.underlying3 (WalkArith.wf_i64 (by omega))
theorem PairsAt.look {w:World} {M:Nat} (h:PairsAt w M) {k:Int} (h3:3 <= k) (h9:k <= 9) :
  (Instr.lookup 180 (.map (some M)) (.int .i64 k) false).run Tryz.prog w=.ok (.func (.func (pairFn k)) #[] #[]) w:=by
 obtain ⟨v,ps,hrun,hv⟩:=World.ownsMap.lookup h keyInt Tryz.underlying180 (z:=.nilFunc) (by kernel_rfl) (zd:=.nil) (zp:=[]) rfl (key3 k ⟨h3,h9⟩)
 have hat:(pairD 7).atKey (.int .i64 k) .nil=.lit (.int .i64 (pairFn k)):=by
  have hk:k=3\/k=4\/k=5\/k=6\/k=7\/k=8\/k=9:=by omega
  rcases hk with rfl | rfl | rfl | rfl | rfl | rfl | rfl <;> rfl
 rw [hat] at hv;rw [hrun,fnElem_inv hv]
theorem pairMakers_any (w:World) :
  Calls Tryz.prog 97 #[] w fun e w'=>∃ M,w.heap.size <= M/\e=.returned (.map (some M))/\PairsAt w' M/\Below w.heap.size w w':=by
 have hmm:=@run_makeMap Tryz.prog;have h0:=World.ownsMap_made w Tryz.prog 3 fnElem
 go_enter Tryz.func97,Tryz.ntmps97
 go_wp2_with (first
  | (refine wpList_insert_own _ rfl _ _ _ 180 rfl 3 46 keyInt Tryz.underlying180 fnElem w.heap.size 6 _ rfl h6 (by unfold maxLen;omega) _ _ _ rfl rfl (key3 9 (by omega)) _ [] rfl ?_;intro w7 h7 g7)
  | (refine wpList_insert_own _ rfl _ _ _ 180 rfl 3 46 keyInt Tryz.underlying180 fnElem w.heap.size 5 _ rfl h5 (by unfold maxLen;omega) _ _ _ rfl rfl (key3 8 (by omega)) _ [] rfl ?_;intro w6 h6 g6)
  | (refine wpList_insert_own _ rfl _ _ _ 180 rfl 3 46 keyInt Tryz.underlying180 fnElem w.heap.size 4 _ rfl h4 (by unfold maxLen;omega) _ _ _ rfl rfl (key3 7 (by omega)) _ [] rfl ?_;intro w5 h5 g5)
  | (refine wpList_insert_own _ rfl _ _ _ 180 rfl 3 46 keyInt Tryz.underlying180 fnElem w.heap.size 3 _ rfl h3 (by unfold maxLen;omega) _ _ _ rfl rfl (key3 6 (by omega)) _ [] rfl ?_;intro w4 h4 g4)
  | (refine wpList_insert_own _ rfl _ _ _ 180 rfl 3 46 keyInt Tryz.underlying180 fnElem w.heap.size 2 _ rfl h2 (by unfold maxLen;omega) _ _ _ rfl rfl (key3 5 (by omega)) _ [] rfl ?_;intro w3 h3 g3)
  | (refine wpList_insert_own _ rfl _ _ _ 180 rfl 3 46 keyInt Tryz.underlying180 fnElem w.heap.size 1 _ rfl h1 (by unfold maxLen;omega) _ _ _ rfl rfl (key3 4 (by omega)) _ [] rfl ?_;intro w2 h2 g2)
  | (refine wpList_insert_own _ rfl _ _ _ 180 rfl 3 46 keyInt Tryz.underlying180 fnElem w.heap.size 0 _ rfl h0 (by unfold maxLen;omega) _ _ _ rfl rfl (key3 3 (by omega)) _ [] rfl ?_;intro w1 h1 g1))
 go_ret
 have hb0:Below w.heap.size w (w.alloc (.map #[] 0)):=(Below.refl _ _).alloc (Nat.le_refl _) _;have hb:∀ {x y:World},Below w.heap.size w x->x.grownBy y (some w.heap.size)->Below w.heap.size w y:=fun h g=>h.grown g h.size (fun j hj=>by cases hj;exact Nat.le_refl _)
 exact ⟨w.heap.size,Nat.le_refl _,rfl,h7,hb (hb (hb (hb (hb (hb (hb hb0 g1) g2) g3) g4) g5) g6) g7⟩
end Go.Proofs.YtfnobbpbmelgnaaGreatDoor
namespace Go.Proofs.YtfnobbpbmelgnaaGreatDoor
open Go.ChangeShapes Go.WideShapes Go.ChangeAt Go.RowKit Go.Deep
open Terms Tm
set_option maxHeartbeats 6400000
set_option maxRecDepth 20000
structure WorkAt (w:World) (b off B:Nat) (eao:Option Addr) (M:Nat) (t:Tm) (env:List Int):Prop where
 ob:b < w.heap.size
 ops:OpsAt w b off t.ops
 ends : w.rowIs B 3 t.size (fun q => .int .i64 (endAt (t.ops.map Prod.fst) q))
 env:∀ i,i < env.length->∃ eb eoff,eao=some ⟨eb,eoff,none⟩/\eb < w.heap.size/\w.cell? ⟨eb,eoff+i,none⟩=some (.int .i64 (env.getD i 0))
 pairs:PairsAt w M
theorem WorkAt.later {w w':World} {b off B:Nat} {eao:Option Addr} {M:Nat} {t:Tm} {env:List Int} (h:WorkAt w b off B eao M t env) (hb:Below w.heap.size w w'):WorkAt w' b off B eao M t env:=by
 obtain ⟨h1,h2,h3,h4,h5⟩:=h;refine ⟨Nat.lt_of_lt_of_le h1 hb.size,h2.below hb h1,h3.of_block (hb.block B h3.lt),fun i hi=>?_,h5.later hb⟩
 obtain ⟨eb,eoff,e1,e2,e3⟩:=h4 i hi;exact ⟨eb,eoff,e1,Nat.lt_of_lt_of_le e2 hb.size,(hb.cell (p:=⟨eb,eoff+i,none⟩) e2).trans e3⟩
def AtPost (r:Option Int) (w:World) (e:Ending) (w':World):Prop:=
 Below w.heap.size w w'/\match r with
  | some x=>e=.returned (.int .i64 x)
  | none=>e=.panicked [{ v:=.iface 41 (.int .i64 8),recovered:=false}]
abbrev workV (b off n cap B:Nat) (eao:Option Addr) (en ecap M:Nat):Value:=.agg #[.slice (some ⟨b,off,none⟩) n cap,.slice (some ⟨B,0,none⟩) n n,.slice eao en ecap,.map (some M)]
theorem at_num (b off n cap B:Nat) (eao:Option Addr) (en ecap M place:Nat) (x:Int) (w:World) (hob:b < w.heap.size) (hp:place < n) (c0:w.cell? ⟨b,off+place*2,none⟩=some (.int .i64 1)) (c1:w.cell? ⟨b,off+place*2+1,none⟩=some (.int .i64 x)) :
  Calls Tryz.prog 98 #[workV b off n cap B eao en ecap M,.int .i64 place] w (AtPost (some x) w):=by
 have hne:¬ b=w.heap.size:=by omega
 go_enter Tryz.func98,Tryz.ntmps98
 go_wp2_with fail
 go_ret
 exact ⟨((Below.refl _ _).alloc (Nat.le_refl _) _).alloc (by simp) _,rfl⟩
theorem at_var (b off n cap B eb eoff en ecap M place j:Nat) (x:Int) (w:World) (hob:b < w.heap.size) (hp:place < n) (hj:j < en) (c0:w.cell? ⟨b,off+place*2,none⟩=some (.int .i64 2)) (c1:w.cell? ⟨b,off+place*2+1,none⟩=some (.int .i64 j)) (hbl:eb < w.heap.size) (c2:w.cell? ⟨eb,eoff+j,none⟩=some (.int .i64 x)) :
  Calls Tryz.prog 98 #[workV b off n cap B (some ⟨eb,eoff,none⟩) en ecap M,.int .i64 place] w (AtPost (some x) w):=by
 have hne:¬ b=w.heap.size:=by omega
 go_enter Tryz.func98,Tryz.ntmps98
 go_wp2_with fail
 go_ret
 exact ⟨((Below.refl _ _).alloc (Nat.le_refl _) _).alloc (by simp) _,rfl⟩
theorem at_lit (b off n cap B:Nat) (eao:Option Addr) (en ecap M place:Nat) (k:Int) (hk:k=11\/k=12) (w:World) (hob:b < w.heap.size) (hp:place < n) (c0:w.cell? ⟨b,off+place*2,none⟩=some (.int .i64 k)) (c1:w.cell? ⟨b,off+place*2+1,none⟩=some (.int .i64 0)) :
  Calls Tryz.prog 98 #[workV b off n cap B eao en ecap M,.int .i64 place] w (AtPost (some (if k=11 then 1 else 0)) w):=by
 rcases hk with rfl | rfl
 ·rw [if_pos rfl]
  have hne:¬ b=w.heap.size:=by omega
  go_enter Tryz.func98,Tryz.ntmps98
  go_wp2_with fail
  go_ret
  exact ⟨((Below.refl _ _).alloc (Nat.le_refl _) _).alloc (by simp) _,rfl⟩
 ·rw [if_neg (by decide)]
  have hne:¬ b=w.heap.size:=by omega
  go_enter Tryz.func98,Tryz.ntmps98
  go_wp2_with fail
  go_ret
  exact ⟨((Below.refl _ _).alloc (Nat.le_refl _) _).alloc (by simp) _,rfl⟩
theorem at_not (b off n cap B:Nat) (eao:Option Addr) (en ecap M place:Nat) (r:Option Int) (w:World) (hob:b < w.heap.size) (hp:place < n) (h60:n <= 60) (c0:w.cell? ⟨b,off+place*2,none⟩=some (.int .i64 10)) (c1:w.cell? ⟨b,off+place*2+1,none⟩=some (.int .i64 0))
  (hr:∀ x,r=some x->-1000000 <= x/\x <= 1000000)
  (hrec:∀ w',Below w.heap.size w w'->Calls Tryz.prog 98 #[workV b off n cap B eao en ecap M,.int .i64 ((place:Int)+1)] w' (AtPost r w')) :
  Calls Tryz.prog 98 #[workV b off n cap B eao en ecap M,.int .i64 place] w (AtPost (r.map (1 - ·)) w):=by
 have hne:¬ b=w.heap.size:=by omega
 have hb2:Below w.heap.size w ((w.alloc (.cells #[.slice (some ⟨b,off,none⟩) n cap,.slice (some ⟨B,0,none⟩) n n,.slice eao en ecap,.map (some M)] 183)).alloc (.cells #[.int .i64 10,.int .i64 0] 50)):=((Below.refl _ _).alloc (Nat.le_refl _) _).alloc (by simp) _
 have hrec':=hrec _ hb2;have HB2:=(show Hid _ from hb2)
 clear hrec hb2
 cases r with
 | none=>
  go_enter Tryz.func98,Tryz.ntmps98
  go_wp2_with (go_at_call 98;refine hrec'.mono ?_;rintro e w1 ⟨hb1,rfl⟩)
  exact ⟨rfl,HB2.out.trans (hb1.mono HB2.out.size),rfl⟩
 | some x=>
  obtain ⟨hx1,hx2⟩:=hr x rfl;clear hr
  go_enter Tryz.func98,Tryz.ntmps98
  go_wp2_with (go_at_call 98;refine hrec'.mono ?_;rintro e w1 ⟨hb1,rfl⟩)
  go_ret
  exact ⟨HB2.out.trans (hb1.mono HB2.out.size),rfl⟩
attribute [local go_sem ↓] Go.wp_at_zero Go.wp_at_succ
theorem pair_enters (k:Int) (h3:3 <= k) (h9:k <= 9) (args:Array Value) (w:World):(callFunc (pairFn k) args).run Tryz.prog w=.ok (.enter (pairFn k) args) w:=by
 have hk:k=3\/k=4\/k=5\/k=6\/k=7\/k=8\/k=9:=by omega
 rcases hk with rfl | rfl | rfl | rfl | rfl | rfl | rfl
 ·show (callFunc 110 args).run Tryz.prog w=.ok (.enter 110 args) w;simp [go_sem]
 ·show (callFunc 111 args).run Tryz.prog w=.ok (.enter 111 args) w;simp [go_sem]
 ·show (callFunc 112 args).run Tryz.prog w=.ok (.enter 112 args) w;simp [go_sem]
 ·show (callFunc 113 args).run Tryz.prog w=.ok (.enter 113 args) w;simp [go_sem]
 ·show (callFunc 115 args).run Tryz.prog w=.ok (.enter 115 args) w;simp [go_sem]
 ·show (callFunc 116 args).run Tryz.prog w=.ok (.enter 116 args) w;simp [go_sem]
 ·show (callFunc 117 args).run Tryz.prog w=.ok (.enter 117 args) w;simp [go_sem]
theorem wrap_small {x:Int} (h1:0 <= x) (h2:x <= 1000):IntKind.i64.wrap x=x:=by
 simp [IntKind.wrap,IntKind.bits,IntKind.signed];omega
theorem at_bi (b off n cap B:Nat) (eao:Option Addr) (en ecap M place E1 F:Nat) (k x y z:Int) (w:World) (hob:b < w.heap.size) (hBB:B < w.heap.size) (hp:place+1 < n) (P1:Nat) (hP1:P1=place+1) (h60:n <= 60) (hk3:3 <= k) (hk9:k <= 9) (c0:w.cell? ⟨b,off+place*2,none⟩=some (.int .i64 k)) (c1:w.cell? ⟨b,off+place*2+1,none⟩=some (.int .i64 0)) (cE:w.cell? ⟨B,P1,none⟩=some (.int .i64 E1))
  (hlook:∀ w',Below w.heap.size w w'->(Instr.lookup 180 (.map (some M)) (.int .i64 k) false).run Tryz.prog w'=.ok (.func (.func F) #[] #[]) w')
  (hent:∀ args w,(callFunc F args).run Tryz.prog w=.ok (.enter F args) w)
  (hpair:∀ w',Calls Tryz.prog F #[.int .i64 x,.int .i64 y] w' fun e w''=>e=.returned (.int .i64 z)/\w''=w')
  (hra:∀ w',Below w.heap.size w w'->Calls Tryz.prog 98 #[workV b off n cap B eao en ecap M,.int .i64 P1] w' (AtPost (some x) w'))
  (hrb:∀ w',Below w.heap.size w w'->Calls Tryz.prog 98 #[workV b off n cap B eao en ecap M,.int .i64 E1] w' (AtPost (some y) w')) :
  Calls Tryz.prog 98 #[workV b off n cap B eao en ecap M,.int .i64 place] w (AtPost (lid z) w):=by
 have hne:¬ b=w.heap.size:=by omega
 have hneB:¬ B=w.heap.size:=by omega
 have e1:¬ k=1:=by omega
 have e2:¬ k=2:=by omega
 have e3:¬ k=10:=by omega
 have e4:¬ k=11:=by omega
 have e5:¬ k=12:=by omega
 obtain ⟨W2,hW2⟩:∃ W2,W2=((w.alloc (.cells #[.slice (some ⟨b,off,none⟩) n cap,.slice (some ⟨B,0,none⟩) n n,.slice eao en ecap,.map (some M)] 183)).alloc (.cells #[.int .i64 k,.int .i64 0] 50)):=⟨_,rfl⟩
 have hb2:Below w.heap.size w W2:=by rw [hW2];exact ((Below.refl _ _).alloc (Nat.le_refl _) _).alloc (by simp) _
 have hsz:W2.heap.size=w.heap.size+1+1:=by rw [hW2];simp
 have d0:W2.cell? ⟨w.heap.size,0,none⟩=some (.slice (some ⟨b,off,none⟩) n cap):=by rw [hW2];simp [go_sem]
 have d1:W2.cell? ⟨w.heap.size,1,none⟩=some (.slice (some ⟨B,0,none⟩) n n):=by rw [hW2];simp [go_sem]
 have d2:W2.cell? ⟨w.heap.size,2,none⟩=some (.slice eao en ecap):=by rw [hW2];simp [go_sem]
 have d3:W2.cell? ⟨w.heap.size,3,none⟩=some (.map (some M)):=by rw [hW2];simp [go_sem]
 have d4:W2.cell? ⟨w.heap.size+1,0,none⟩=some (.int .i64 k):=by rw [hW2];simp [go_sem]
 have d5:W2.cell? ⟨B,P1,none⟩=some (.int .i64 E1):=(hb2.cell (p:=⟨B,P1,none⟩) hBB).trans cE;have HW2:=(show Hid _ from hW2)
 have hS:∀ w',Below W2.heap.size W2 w'->w'.cell? ⟨w.heap.size,0,none⟩=some (.slice (some ⟨b,off,none⟩) n cap)/\w'.cell? ⟨w.heap.size,1,none⟩=some (.slice (some ⟨B,0,none⟩) n n)/\w'.cell? ⟨w.heap.size,2,none⟩=some (.slice eao en ecap)/\w'.cell? ⟨w.heap.size,3,none⟩=some (.map (some M))/\w'.cell? ⟨w.heap.size+1,0,none⟩=some (.int .i64 k)/\w'.cell? ⟨B,P1,none⟩=some (.int .i64 E1)/\(Instr.lookup 180 (.map (some M)) (.int .i64 k) false).run Tryz.prog w'=.ok (.func (.func F) #[] #[]) w':=fun w' hw'=>
  ⟨(hw'.cell (p:=⟨w.heap.size,0,none⟩) (by simp only;omega)).trans d0,(hw'.cell (p:=⟨w.heap.size,1,none⟩) (by simp only;omega)).trans d1,(hw'.cell (p:=⟨w.heap.size,2,none⟩) (by simp only;omega)).trans d2,(hw'.cell (p:=⟨w.heap.size,3,none⟩) (by simp only;omega)).trans d3,(hw'.cell (p:=⟨w.heap.size+1,0,none⟩) (by simp only;omega)).trans d4,(hw'.cell (p:=⟨B,P1,none⟩) (by simp only;omega)).trans d5,hlook w' (hb2.trans (hw'.mono hb2.size))⟩
 have hra':∀ w',Below W2.heap.size W2 w'->Calls Tryz.prog 98 #[workV b off n cap B eao en ecap M,.int .i64 P1] w' (AtPost (some x) w'):=fun w' hw'=>hra w' (hb2.trans (hw'.mono hb2.size))
 have hrb':∀ w',Below W2.heap.size W2 w'->Calls Tryz.prog 98 #[workV b off n cap B eao en ecap M,.int .i64 E1] w' (AtPost (some y) w'):=fun w' hw'=>hrb w' (hb2.trans (hw'.mono hb2.size))
 have hB0:Below W2.heap.size W2 W2:=Below.refl _ _;have HB2:Hid (Below w.heap.size w W2):=hb2;have hp0:place < n:=by omega
 have hi0:(0:Int) <= (P1:Int):=by omega
 have hi1:(P1:Int) < (n:Int):=by omega
 have hpp:(place:Int)+1=(P1:Int):=by omega
 have hwr:IntKind.i64.wrap (P1:Int)=(P1:Int):=wrap_small (by omega) (by omega)
 have hwr2:IntKind.i64.wrap ((place:Int)+1)=(P1:Int):=by rw [hpp];exact hwr
 have htg:=fun w=>tooGreat_any z w
 clear hW2 hb2 hra hrb hlook hP1 hp hsz d0 d1 d2 d3 d4 d5
 by_cases hz:-1000000 <= z/\z <= 1000000
 ·rw [show decide (¬ (-1000000 <= z/\z <= 1000000))=false by simpa using hz] at htg
  rw [show lid z=some z by unfold lid;rw [if_pos hz]]
  clear hz
  go_enter Tryz.func98,Tryz.ntmps98
  go_wp2_with fail
  rw [<- HW2.out];clear c0 c1 cE
  go_region_held3 (fun w'=>w'.cell? ⟨w.heap.size,0,none⟩=some (.slice (some ⟨b,off,none⟩) n cap)/\w'.cell? ⟨w.heap.size,1,none⟩=some (.slice (some ⟨B,0,none⟩) n n)/\w'.cell? ⟨w.heap.size,2,none⟩=some (.slice eao en ecap)/\w'.cell? ⟨w.heap.size,3,none⟩=some (.map (some M))/\w'.cell? ⟨w.heap.size+1,0,none⟩=some (.int .i64 k)/\w'.cell? ⟨B,P1,none⟩=some (.int .i64 E1)/\(Instr.lookup 180 (.map (some M)) (.int .i64 k) false).run Tryz.prog w'=.ok (.func (.func F) #[] #[]) w')
   (exact hS _ (by first | exact hB0 | exact hB0.drew | exact hB0.drew.trans hb1 | exact (hB0.drew.trans hb1).trans (hb3.mono (hB0.drew.trans hb1).size)))
   (first | (go_at_call_of 98 E1;refine (hrb' _ (hB0.drew.trans hb1)).mono ?_;rintro e w3 ⟨hb3,rfl⟩) | (go_at_call 98;refine (hra' _ hB0.drew).mono ?_;rintro e w1 ⟨hb1,rfl⟩) | (refine (hpair _).mono ?_;rintro e w4 ⟨rfl,rfl⟩))
  all_goals
   go_wp2_with (go_at_call 96;refine (htg _).mono ?_;rintro e w5 ⟨rfl,rfl⟩)
   go_ret
   exact ⟨HB2.out.trans (((hB0.drew.trans hb1).trans (hb3.mono (hB0.drew.trans hb1).size)).mono HB2.out.size),rfl⟩
 ·rw [show decide (¬ (-1000000 <= z/\z <= 1000000))=true by simp;omega] at htg
  rw [show lid z=none by unfold lid;rw [if_neg hz]]
  clear hz
  go_enter Tryz.func98,Tryz.ntmps98
  go_wp2_with fail
  rw [<- HW2.out];clear c0 c1 cE
  go_region_held3 (fun w'=>w'.cell? ⟨w.heap.size,0,none⟩=some (.slice (some ⟨b,off,none⟩) n cap)/\w'.cell? ⟨w.heap.size,1,none⟩=some (.slice (some ⟨B,0,none⟩) n n)/\w'.cell? ⟨w.heap.size,2,none⟩=some (.slice eao en ecap)/\w'.cell? ⟨w.heap.size,3,none⟩=some (.map (some M))/\w'.cell? ⟨w.heap.size+1,0,none⟩=some (.int .i64 k)/\w'.cell? ⟨B,P1,none⟩=some (.int .i64 E1)/\(Instr.lookup 180 (.map (some M)) (.int .i64 k) false).run Tryz.prog w'=.ok (.func (.func F) #[] #[]) w')
   (exact hS _ (by first | exact hB0 | exact hB0.drew | exact hB0.drew.trans hb1 | exact (hB0.drew.trans hb1).trans (hb3.mono (hB0.drew.trans hb1).size)))
   (first | (go_at_call_of 98 E1;refine (hrb' _ (hB0.drew.trans hb1)).mono ?_;rintro e w3 ⟨hb3,rfl⟩) | (go_at_call 98;refine (hra' _ hB0.drew).mono ?_;rintro e w1 ⟨hb1,rfl⟩) | (refine (hpair _).mono ?_;rintro e w4 ⟨rfl,rfl⟩))
  all_goals
   go_wp2_with (go_at_call 96;refine (htg _).mono ?_;rintro e w5 ⟨rfl,rfl⟩)
   exact ⟨rfl,HB2.out.trans (((hB0.drew.trans hb1).trans (hb3.mono (hB0.drew.trans hb1).size)).mono HB2.out.size),rfl⟩
end Go.Proofs.YtfnobbpbmelgnaaGreatDoor
namespace Go.Proofs.YtfnobbpbmelgnaaGreatDoor
open Go.ChangeShapes Go.WideShapes Go.ChangeAt Go.RowKit Go.Deep
open Terms Tm
set_option maxHeartbeats 6400000
set_option maxRecDepth 20000
attribute [local go_sem ↓] Go.wp_at_zero Go.wp_at_succ
theorem Calls.pan {f:FuncId} {args:Array Value} {w:World} {X:Ending->World->Prop} (x:Int) (h:Calls Tryz.prog f args w (AtPost none w))
  (hX:∀ w',Below w.heap.size w w'->X (.panicked [{ v:=.iface 41 (.int .i64 8),recovered:=false}]) w') (_:∀ w',Below w.heap.size w w'->Hid False->X (.returned (.int .i64 x)) w'):Calls Tryz.prog f args w X:=
 h.mono fun e w' ⟨hb,he⟩=>by subst he;exact hX w' hb
theorem at_bi_a (b off n cap B:Nat) (eao:Option Addr) (en ecap M place E1 F:Nat) (k x y z:Int) (w:World) (hob:b < w.heap.size) (hBB:B < w.heap.size) (hp:place+1 < n) (P1:Nat) (hP1:P1=place+1) (h60:n <= 60) (hk3:3 <= k) (hk9:k <= 9) (c0:w.cell? ⟨b,off+place*2,none⟩=some (.int .i64 k)) (c1:w.cell? ⟨b,off+place*2+1,none⟩=some (.int .i64 0)) (cE:w.cell? ⟨B,P1,none⟩=some (.int .i64 E1))
  (hlook:∀ w',Below w.heap.size w w'->(Instr.lookup 180 (.map (some M)) (.int .i64 k) false).run Tryz.prog w'=.ok (.func (.func F) #[] #[]) w')
  (hent:∀ args w,(callFunc F args).run Tryz.prog w=.ok (.enter F args) w)
  (hpair:∀ w',Calls Tryz.prog F #[.int .i64 x,.int .i64 y] w' fun e w''=>e=.returned (.int .i64 z)/\w''=w')
  (hra:∀ w',Below w.heap.size w w'->Calls Tryz.prog 98 #[workV b off n cap B eao en ecap M,.int .i64 P1] w' (AtPost none w'))
  (hrb:Hid False->∀ w',Below w.heap.size w w'->Calls Tryz.prog 98 #[workV b off n cap B eao en ecap M,.int .i64 E1] w' (AtPost (some y) w')) :
  Calls Tryz.prog 98 #[workV b off n cap B eao en ecap M,.int .i64 place] w (AtPost none w):=by
 have hne:¬ b=w.heap.size:=by omega
 have hneB:¬ B=w.heap.size:=by omega
 have e1:¬ k=1:=by omega
 have e2:¬ k=2:=by omega
 have e3:¬ k=10:=by omega
 have e4:¬ k=11:=by omega
 have e5:¬ k=12:=by omega
 obtain ⟨W2,hW2⟩:∃ W2,W2=((w.alloc (.cells #[.slice (some ⟨b,off,none⟩) n cap,.slice (some ⟨B,0,none⟩) n n,.slice eao en ecap,.map (some M)] 183)).alloc (.cells #[.int .i64 k,.int .i64 0] 50)):=⟨_,rfl⟩
 have hb2:Below w.heap.size w W2:=by rw [hW2];exact ((Below.refl _ _).alloc (Nat.le_refl _) _).alloc (by simp) _
 have hsz:W2.heap.size=w.heap.size+1+1:=by rw [hW2];simp
 have d0:W2.cell? ⟨w.heap.size,0,none⟩=some (.slice (some ⟨b,off,none⟩) n cap):=by rw [hW2];simp [go_sem]
 have d1:W2.cell? ⟨w.heap.size,1,none⟩=some (.slice (some ⟨B,0,none⟩) n n):=by rw [hW2];simp [go_sem]
 have d2:W2.cell? ⟨w.heap.size,2,none⟩=some (.slice eao en ecap):=by rw [hW2];simp [go_sem]
 have d3:W2.cell? ⟨w.heap.size,3,none⟩=some (.map (some M)):=by rw [hW2];simp [go_sem]
 have d4:W2.cell? ⟨w.heap.size+1,0,none⟩=some (.int .i64 k):=by rw [hW2];simp [go_sem]
 have d5:W2.cell? ⟨B,P1,none⟩=some (.int .i64 E1):=(hb2.cell (p:=⟨B,P1,none⟩) hBB).trans cE;have HW2:=(show Hid _ from hW2)
 have hS:∀ w',Below W2.heap.size W2 w'->w'.cell? ⟨w.heap.size,0,none⟩=some (.slice (some ⟨b,off,none⟩) n cap)/\w'.cell? ⟨w.heap.size,1,none⟩=some (.slice (some ⟨B,0,none⟩) n n)/\w'.cell? ⟨w.heap.size,2,none⟩=some (.slice eao en ecap)/\w'.cell? ⟨w.heap.size,3,none⟩=some (.map (some M))/\w'.cell? ⟨w.heap.size+1,0,none⟩=some (.int .i64 k)/\w'.cell? ⟨B,P1,none⟩=some (.int .i64 E1)/\(Instr.lookup 180 (.map (some M)) (.int .i64 k) false).run Tryz.prog w'=.ok (.func (.func F) #[] #[]) w':=fun w' hw'=>
  ⟨(hw'.cell (p:=⟨w.heap.size,0,none⟩) (by simp only;omega)).trans d0,(hw'.cell (p:=⟨w.heap.size,1,none⟩) (by simp only;omega)).trans d1,(hw'.cell (p:=⟨w.heap.size,2,none⟩) (by simp only;omega)).trans d2,(hw'.cell (p:=⟨w.heap.size,3,none⟩) (by simp only;omega)).trans d3,(hw'.cell (p:=⟨w.heap.size+1,0,none⟩) (by simp only;omega)).trans d4,(hw'.cell (p:=⟨B,P1,none⟩) (by simp only;omega)).trans d5,hlook w' (hb2.trans (hw'.mono hb2.size))⟩
 have hra':∀ w',Below W2.heap.size W2 w'->Calls Tryz.prog 98 #[workV b off n cap B eao en ecap M,.int .i64 P1] w' (AtPost none w'):=fun w' hw'=>hra w' (hb2.trans (hw'.mono hb2.size))
 have hrb':Hid False->∀ w',Below W2.heap.size W2 w'->Calls Tryz.prog 98 #[workV b off n cap B eao en ecap M,.int .i64 E1] w' (AtPost (some y) w'):=fun hF w' hw'=>hrb hF w' (hb2.trans (hw'.mono hb2.size))
 have hB0:Below W2.heap.size W2 W2:=Below.refl _ _;have HB2:Hid (Below w.heap.size w W2):=hb2;have hp0:place < n:=by omega
 have hi0:(0:Int) <= (P1:Int):=by omega
 have hi1:(P1:Int) < (n:Int):=by omega
 have hpp:(place:Int)+1=(P1:Int):=by omega
 have hwr:IntKind.i64.wrap (P1:Int)=(P1:Int):=wrap_small (by omega) (by omega)
 have hwr2:IntKind.i64.wrap ((place:Int)+1)=(P1:Int):=by rw [hpp];exact hwr
 clear hW2 hb2 hra hrb hlook hP1 hp hsz d0 d1 d2 d3 d4 d5
 go_enter Tryz.func98,Tryz.ntmps98
 go_wp2_with fail
 rw [<- HW2.out];clear c0 c1 cE
 go_region_held2 (fun w'=>w'.cell? ⟨w.heap.size,0,none⟩=some (.slice (some ⟨b,off,none⟩) n cap)/\w'.cell? ⟨w.heap.size,1,none⟩=some (.slice (some ⟨B,0,none⟩) n n)/\w'.cell? ⟨w.heap.size,2,none⟩=some (.slice eao en ecap)/\w'.cell? ⟨w.heap.size,3,none⟩=some (.map (some M))/\w'.cell? ⟨w.heap.size+1,0,none⟩=some (.int .i64 k)/\w'.cell? ⟨B,P1,none⟩=some (.int .i64 E1)/\(Instr.lookup 180 (.map (some M)) (.int .i64 k) false).run Tryz.prog w'=.ok (.func (.func F) #[] #[]) w')
  (exact hS _ (by first | exact hB0 | exact hB0.drew | exact hB0.drew.trans hb1 | exact (hB0.drew.trans hb1).trans (hb3.mono (hB0.drew.trans hb1).size)))
  (first | (go_at_call_of 98 E1;refine (hrb' hF _ (hB0.drew.trans hb1)).mono ?_;rintro e w3 ⟨hb3,rfl⟩) | (go_at_call 98;refine Calls.pan x (hra' _ hB0.drew) (fun w1 hb1=>⟨rfl,HB2.out.trans ((hB0.drew.trans hb1).mono HB2.out.size),rfl⟩) (fun w1 hb1 hF=>?_)) | (refine (hpair _).mono ?_;rintro e w4 ⟨rfl,rfl⟩))
 all_goals exact hF.out.elim
theorem at_bi_b (b off n cap B:Nat) (eao:Option Addr) (en ecap M place E1 F:Nat) (k x y z:Int) (w:World) (hob:b < w.heap.size) (hBB:B < w.heap.size) (hp:place+1 < n) (P1:Nat) (hP1:P1=place+1) (h60:n <= 60) (hk3:3 <= k) (hk9:k <= 9) (c0:w.cell? ⟨b,off+place*2,none⟩=some (.int .i64 k)) (c1:w.cell? ⟨b,off+place*2+1,none⟩=some (.int .i64 0)) (cE:w.cell? ⟨B,P1,none⟩=some (.int .i64 E1))
  (hlook:∀ w',Below w.heap.size w w'->(Instr.lookup 180 (.map (some M)) (.int .i64 k) false).run Tryz.prog w'=.ok (.func (.func F) #[] #[]) w')
  (hent:∀ args w,(callFunc F args).run Tryz.prog w=.ok (.enter F args) w)
  (hpair:∀ w',Calls Tryz.prog F #[.int .i64 x,.int .i64 y] w' fun e w''=>e=.returned (.int .i64 z)/\w''=w')
  (hra:∀ w',Below w.heap.size w w'->Calls Tryz.prog 98 #[workV b off n cap B eao en ecap M,.int .i64 P1] w' (AtPost (some x) w'))
  (hrb:∀ w',Below w.heap.size w w'->Calls Tryz.prog 98 #[workV b off n cap B eao en ecap M,.int .i64 E1] w' (AtPost none w')) :
  Calls Tryz.prog 98 #[workV b off n cap B eao en ecap M,.int .i64 place] w (AtPost none w):=by
 have hne:¬ b=w.heap.size:=by omega
 have hneB:¬ B=w.heap.size:=by omega
 have e1:¬ k=1:=by omega
 have e2:¬ k=2:=by omega
 have e3:¬ k=10:=by omega
 have e4:¬ k=11:=by omega
 have e5:¬ k=12:=by omega
 obtain ⟨W2,hW2⟩:∃ W2,W2=((w.alloc (.cells #[.slice (some ⟨b,off,none⟩) n cap,.slice (some ⟨B,0,none⟩) n n,.slice eao en ecap,.map (some M)] 183)).alloc (.cells #[.int .i64 k,.int .i64 0] 50)):=⟨_,rfl⟩
 have hb2:Below w.heap.size w W2:=by rw [hW2];exact ((Below.refl _ _).alloc (Nat.le_refl _) _).alloc (by simp) _
 have hsz:W2.heap.size=w.heap.size+1+1:=by rw [hW2];simp
 have d0:W2.cell? ⟨w.heap.size,0,none⟩=some (.slice (some ⟨b,off,none⟩) n cap):=by rw [hW2];simp [go_sem]
 have d1:W2.cell? ⟨w.heap.size,1,none⟩=some (.slice (some ⟨B,0,none⟩) n n):=by rw [hW2];simp [go_sem]
 have d2:W2.cell? ⟨w.heap.size,2,none⟩=some (.slice eao en ecap):=by rw [hW2];simp [go_sem]
 have d3:W2.cell? ⟨w.heap.size,3,none⟩=some (.map (some M)):=by rw [hW2];simp [go_sem]
 have d4:W2.cell? ⟨w.heap.size+1,0,none⟩=some (.int .i64 k):=by rw [hW2];simp [go_sem]
 have d5:W2.cell? ⟨B,P1,none⟩=some (.int .i64 E1):=(hb2.cell (p:=⟨B,P1,none⟩) hBB).trans cE;have HW2:=(show Hid _ from hW2)
 have hS:∀ w',Below W2.heap.size W2 w'->w'.cell? ⟨w.heap.size,0,none⟩=some (.slice (some ⟨b,off,none⟩) n cap)/\w'.cell? ⟨w.heap.size,1,none⟩=some (.slice (some ⟨B,0,none⟩) n n)/\w'.cell? ⟨w.heap.size,2,none⟩=some (.slice eao en ecap)/\w'.cell? ⟨w.heap.size,3,none⟩=some (.map (some M))/\w'.cell? ⟨w.heap.size+1,0,none⟩=some (.int .i64 k)/\w'.cell? ⟨B,P1,none⟩=some (.int .i64 E1)/\(Instr.lookup 180 (.map (some M)) (.int .i64 k) false).run Tryz.prog w'=.ok (.func (.func F) #[] #[]) w':=fun w' hw'=>
  ⟨(hw'.cell (p:=⟨w.heap.size,0,none⟩) (by simp only;omega)).trans d0,(hw'.cell (p:=⟨w.heap.size,1,none⟩) (by simp only;omega)).trans d1,(hw'.cell (p:=⟨w.heap.size,2,none⟩) (by simp only;omega)).trans d2,(hw'.cell (p:=⟨w.heap.size,3,none⟩) (by simp only;omega)).trans d3,(hw'.cell (p:=⟨w.heap.size+1,0,none⟩) (by simp only;omega)).trans d4,(hw'.cell (p:=⟨B,P1,none⟩) (by simp only;omega)).trans d5,hlook w' (hb2.trans (hw'.mono hb2.size))⟩
 have hra':∀ w',Below W2.heap.size W2 w'->Calls Tryz.prog 98 #[workV b off n cap B eao en ecap M,.int .i64 P1] w' (AtPost (some x) w'):=fun w' hw'=>hra w' (hb2.trans (hw'.mono hb2.size))
 have hrb':∀ w',Below W2.heap.size W2 w'->Calls Tryz.prog 98 #[workV b off n cap B eao en ecap M,.int .i64 E1] w' (AtPost none w'):=fun w' hw'=>hrb w' (hb2.trans (hw'.mono hb2.size))
 have hB0:Below W2.heap.size W2 W2:=Below.refl _ _;have HB2:Hid (Below w.heap.size w W2):=hb2;have hp0:place < n:=by omega
 have hi0:(0:Int) <= (P1:Int):=by omega
 have hi1:(P1:Int) < (n:Int):=by omega
 have hpp:(place:Int)+1=(P1:Int):=by omega
 have hwr:IntKind.i64.wrap (P1:Int)=(P1:Int):=wrap_small (by omega) (by omega)
 have hwr2:IntKind.i64.wrap ((place:Int)+1)=(P1:Int):=by rw [hpp];exact hwr
 clear hW2 hb2 hra hrb hlook hP1 hp hsz d0 d1 d2 d3 d4 d5
 go_enter Tryz.func98,Tryz.ntmps98
 go_wp2_with fail
 rw [<- HW2.out];clear c0 c1 cE
 go_region_held2 (fun w'=>w'.cell? ⟨w.heap.size,0,none⟩=some (.slice (some ⟨b,off,none⟩) n cap)/\w'.cell? ⟨w.heap.size,1,none⟩=some (.slice (some ⟨B,0,none⟩) n n)/\w'.cell? ⟨w.heap.size,2,none⟩=some (.slice eao en ecap)/\w'.cell? ⟨w.heap.size,3,none⟩=some (.map (some M))/\w'.cell? ⟨w.heap.size+1,0,none⟩=some (.int .i64 k)/\w'.cell? ⟨B,P1,none⟩=some (.int .i64 E1)/\(Instr.lookup 180 (.map (some M)) (.int .i64 k) false).run Tryz.prog w'=.ok (.func (.func F) #[] #[]) w')
  (exact hS _ (by first | exact hB0 | exact hB0.drew | exact hB0.drew.trans hb1 | exact (hB0.drew.trans hb1).trans (hb3.mono (hB0.drew.trans hb1).size)))
  (first | (go_at_call_of 98 E1;refine Calls.pan y (hrb' _ (hB0.drew.trans hb1)) (fun w3 hb3=>⟨rfl,HB2.out.trans (((hB0.drew.trans hb1).trans (hb3.mono (hB0.drew.trans hb1).size)).mono HB2.out.size),rfl⟩) (fun w3 hb3 hF=>?_)) | (go_at_call 98;refine (hra' _ hB0.drew).mono ?_;rintro e w1 ⟨hb1,rfl⟩) | (refine (hpair _).mono ?_;rintro e w4 ⟨rfl,rfl⟩))
 all_goals exact hF.out.elim
end Go.Proofs.YtfnobbpbmelgnaaGreatDoor
namespace Go.Proofs.YtfnobbpbmelgnaaGreatDoor
open Go.ChangeShapes Go.WideShapes Go.ChangeAt Go.RowKit Go.Deep
open Terms Tm
set_option maxHeartbeats 6400000
set_option maxRecDepth 20000
theorem at_any (b off n cap B:Nat) (eao:Option Addr) (en ecap M vars:Nat) (t:Tm) (env:List Int) (hn:n=t.size) (h60:n <= 60) (hg:t.Good vars) (hty:t.typed=true) (hev:EnvOk env) (hen:env.length=vars) (hen2:en=vars) (d:Nat) :
  ∀ (place:Nat) (w:World),place < n->(t.sub place).size <= d->WorkAt w b off B eao M t env->
  Calls Tryz.prog 98 #[workV b off n cap B eao en ecap M,.int .i64 place] w (AtPost ((t.sub place).eval env) w):=by
 induction d with
 | zero=>intro place w _ hd;have:=(t.sub place).size_pos;omega
 | succ d ih=>
  intro place w hp hd hW;have hpt:place < t.size:=by omega
  obtain ⟨s,hs⟩:∃ s,s=t.sub place:=⟨_,rfl⟩
  have hsg:s.Good vars:=by rw [hs];exact hg.sub _
  have hst:s.typed=true:=by
   rw [hs];refine (typed_iff _).2 fun q hq=>?_
   rw [<- t.sub_sub place q hpt hq];exact (typed_iff _).1 hty _ (by have:=t.sub_fits hpt;omega)
  obtain ⟨c0,c1⟩:=hW.ops place (by rw [ops_length];exact hpt)
  rw [op_at t hpt,<- hs] at c0 c1;simp only at c0 c1
  have HKI:∀ i,i < s.kids.length->place+s.koff i < n/\t.sub (place+s.koff i)=s.kids.getD i s/\endAt (t.ops.map Prod.fst) (place+s.koff i)=place+s.koff (i+1):=fun i hi=>by
   subst hs;obtain ⟨h1,h2,h3,_⟩:=kid_in hg.wf hpt hi;exact ⟨by omega,h2,h3⟩
  rw [<- hs] at hd ⊢
  cases s with
  | leaf k v=>
   rcases hsg with ⟨rfl,h1,h2⟩ | ⟨rfl,h1,h2⟩ | ⟨hk,rfl⟩
   ·exact at_num b off n cap B eao en ecap M place v w hW.ob hp c0 c1
   ·obtain ⟨j,rfl⟩:=Int.eq_ofNat_of_zero_le h1
    obtain ⟨eb,eoff,rfl,e2,e3⟩:=hW.env j (by omega)
    exact at_var b off n cap B eb eoff en ecap M place j _ w hW.ob hp (by omega) c0 c1 e2 e3
   ·have he:(Tm.leaf k 0).eval env=some (if k=11 then 1 else 0):=by
     simp only [Tm.eval];rw [if_neg (by omega),if_neg (by omega)]
    rw [he];exact at_lit b off n cap B eao en ecap M place k hk w hW.ob hp c0 c1
  | un k v a=>
   obtain ⟨rfl,rfl,ha⟩:=hsg;obtain ⟨p1,p2,_⟩:=HKI 0 (by simp [kids])
   rw [koff_zero] at p1 p2;have hsz:a.size <= d:=by simp only [Tm.size] at hd;omega
   have hta:a.typed=true:=by simp only [Tm.typed,Bool.and_eq_true] at hst;exact hst.2
   have hrec:∀ w',Below w.heap.size w w'->Calls Tryz.prog 98 #[workV b off n cap B eao en ecap M,.int .i64 ((place:Int)+1)] w' (AtPost (a.eval env) w'):=fun w' hw'=>by
    have h:=ih (place+1) w' p1 (by rw [p2];exact hsz) (hW.later hw')
    rw [p2] at h;exact h
   have h:=at_not b off n cap B eao en ecap M place (a.eval env) w hW.ob hp h60 c0 c1 (fun x hx=>(eval_le hev hen ha hta x hx).1) hrec
   have he:(Tm.un 10 0 a).eval env=(a.eval env).map (1 - ·):=by
    simp only [Tm.eval]
    cases a.eval env <;> rfl
   rw [he];exact h
  | bi k v a b'=>
   obtain ⟨h3,h9,rfl,ha,hb⟩:=hsg;obtain ⟨p1,p2,p3⟩:=HKI 0 (by simp [kids])
   obtain ⟨q1,q2,_⟩:=HKI 1 (by simp [kids])
   rw [koff_zero] at p1 p2 p3;rw [Nat.zero_add] at p3;have hsa:a.size <= d:=by simp only [Tm.size] at hd;omega
   have hsb:b'.size <= d:=by simp only [Tm.size] at hd;omega
   simp only [Tm.typed,Bool.and_eq_true,beq_iff_eq] at hst;obtain ⟨⟨ka,hta⟩,kb,htb⟩:=hst
   have hra:∀ w',Below w.heap.size w w'->Calls Tryz.prog 98 #[workV b off n cap B eao en ecap M,.int .i64 (place+1:Nat)] w' (AtPost (a.eval env) w'):=fun w' hw'=>by
    have h:=ih (place+1) w' p1 (by rw [p2];exact hsa) (hW.later hw')
    rw [p2] at h;exact h
   have hrb:∀ w',Below w.heap.size w w'->Calls Tryz.prog 98 #[workV b off n cap B eao en ecap M,.int .i64 (place+(Tm.bi k 0 a b').koff 1:Nat)] w' (AtPost (b'.eval env) w'):=fun w' hw'=>by
    have h:=ih (place+(Tm.bi k 0 a b').koff 1) w' q1 (by rw [q2];exact hsb) (hW.later hw')
    rw [q2] at h;exact h
   have cE:=hW.ends.cell (i:=place+1) (by omega)
   rw [p3] at cE;have hlook:=fun w' (hw':Below w.heap.size w w')=>(hW.pairs.later hw').look h3 h9
   have hent:=pair_enters k h3 h9;have hae:=eval_le hev hen ha hta;have hbe:=eval_le hev hen hb htb;simp only [Tm.eval]
   cases hx:a.eval env with
   | none=>
    rw [hx] at hra
    exact at_bi_a b off n cap B eao en ecap M place _ (pairFn k) k 0 0 (bin k 0 0) w hW.ob hW.ends.lt (by omega) (place+1) rfl h60 h3 h9 c0 c1 cE hlook hent (fun w'=>pair_any k 0 0 w' h3 h9 (by omega) (by omega) (fun _=>⟨.inl rfl,.inl rfl⟩)) hra
     (fun h=>h.out.elim)
   | some x=>
    rw [hx] at hra;have hxl:=hae x hx
    cases hy:b'.eval env with
    | none=>
     rw [hy] at hrb;exact at_bi_b b off n cap B eao en ecap M place _ (pairFn k) k x 0 (bin k x 0) w hW.ob hW.ends.lt (by omega) (place+1) rfl h60 h3 h9 c0 c1 cE hlook hent (fun w'=>pair_any k x 0 w' h3 h9 hxl.1 (by omega) (fun h8=>⟨hxl.2 (by rw [ka];simp [tkT];omega),.inl rfl⟩)) hra hrb
    | some y=>
     rw [hy] at hrb;have hyl:=hbe y hy;exact at_bi b off n cap B eao en ecap M place _ (pairFn k) k x y (bin k x y) w hW.ob hW.ends.lt (by omega) (place+1) rfl h60 h3 h9 c0 c1 cE hlook hent (fun w'=>pair_any k x y w' h3 h9 hxl.1 hyl.1 (fun h8=>⟨hxl.2 (by rw [ka];simp [tkT];omega),hyl.2 (by rw [kb];simp [tkT];omega)⟩)) hra hrb
theorem ecatch_panicking (s:Nat) (x:Int) (v0 v1:Value) (w:World) (hc0:w.cell? ⟨s,0,none⟩=some v0) (hc1:w.cell? ⟨s+1,0,none⟩=some v1) (hz0:w.frozen? ⟨s,0,none⟩=false) (hz1:w.frozen? ⟨s+1,0,none⟩=false) :
  CallsD Tryz.prog 94 #[.pointer (some ⟨s,0,none⟩),.pointer (some ⟨s+1,0,none⟩)] (.panicking [{ v:=.iface 41 (.int .i64 x),recovered:=false}]) w fun e u' w'=>
   e=.returned (.tuple #[])/\u'=.panicking [{ v:=.iface 41 (.int .i64 x),recovered:=true}]/\w'=((w.setCell ⟨s,0,none⟩ (.int .i64 0)).setCell ⟨s+1,0,none⟩ (.int .i64 x)).drew:=by
 have hta:∀ w:World,(Instr.typeAssert (.iface 41 (.int .i64 x)) 20 41 false).run Tryz.prog w=.ok (.int .i64 x) w:=fun _=>by kernel_rfl
 refine callsD_of_wpS Tryz.func94 rfl fun c₀ cs hu=>?_
 rw [Tryz.ntmps94]
 show Code.wpS _ _ _ { tmps:=#[.pointer (some ⟨s,0,none⟩),.pointer (some ⟨s+1,0,none⟩),undef,undef,undef,undef,undef,undef],defers:=[]} _ _
 apply wpS_seq
 apply wpS_region
 simp [wpOpsS,go_sem,recoverD,hu,Exit.thenS]
 refine wpS_of_wp ?_
 go_wp2
 go_region
 go_wp2
 simp [bodyPostS,results,Tryz.results94]
theorem ecatch_idle (s:Nat) (w:World) :
  CallsD Tryz.prog 94 #[.pointer (some ⟨s,0,none⟩),.pointer (some ⟨s+1,0,none⟩)] .returning w fun e u' w'=>
   e=.returned (.tuple #[])/\u'=.returning/\w'=w:=by
 refine callsD_of_wpS Tryz.func94 rfl fun c₀ cs hu=>?_
 rw [Tryz.ntmps94]
 show Code.wpS _ _ _ { tmps:=#[.pointer (some ⟨s,0,none⟩),.pointer (some ⟨s+1,0,none⟩),undef,undef,undef,undef,undef,undef],defers:=[]} _ _
 apply wpS_seq
 apply wpS_region
 simp [wpOpsS,go_sem,recoverD,hu,Exit.thenS]
 refine wpS_of_wp ?_
 go_wp2
 cases c₀
 simp_all [bodyPostS,results,Tryz.results94]
def envBad (env:List Int):Bool:=env.any fun x=>decide (¬ (-1000000 <= x/\x <= 1000000))
def evalN (l:List (Int × Int)) (t:Tm) (env:List Int):Int:=
 if xcode env.length l t≠0 then 0 else if envBad env=true then 0 else match t.eval env with
  | some x=>x
  | none=>0
def evalC (l:List (Int × Int)) (t:Tm) (env:List Int):Int:=
 if xcode env.length l t≠0 then xcode env.length l t else if envBad env=true then 2 else match t.eval env with
  | some _=>0
  | none=>8
theorem envBad_false {env:List Int} (h:envBad env=false):EnvOk env:=fun i hi=>by
 unfold envBad at h;rw [List.any_eq_false] at h;have:=h (env.getD i 0) (by simp [List.getD_eq_getElem?_getD,hi])
 generalize env.getD i 0=x at *;simp at this
 omega
theorem envBad_ok {env:List Int} (h:∀ j,j < env.length->-1000000 <= env.getD j 0/\env.getD j 0 <= 1000000):envBad env=false:=by
 unfold envBad;rw [List.any_eq_false];intro x hx;obtain ⟨i,hi,rfl⟩:=List.getElem_of_mem hx;have:=h i hi;simp [List.getD_eq_getElem?_getD,hi] at this
 simp
 omega
theorem envBad_at {env:List Int} {i:Nat} (hi:i < env.length) (h:¬ (-1000000 <= env.getD i 0/\env.getD i 0 <= 1000000)):envBad env=true:=by
 unfold envBad;rw [List.any_eq_true];refine ⟨env[i],List.getElem_mem hi,?_⟩
 simp [List.getD_eq_getElem?_getD,hi] at h
 simp
 omega
def e0 (w:World):World:=(w.alloc (.cells #[.int .i64 0] 3)).alloc (.cells #[.int .i64 0] 41)
theorem e0_below (w:World):Below w.heap.size w (e0 w):=((Below.refl _ _).alloc (Nat.le_refl _) _).alloc (by simp) _
theorem e0_cells (w:World) {w':World} (h:Below (e0 w).heap.size (e0 w) w') :
  w'.cell? ⟨w.heap.size,0,none⟩=some (.int .i64 0)/\w'.cell? ⟨w.heap.size+1,0,none⟩=some (.int .i64 0)/\w'.frozen? ⟨w.heap.size,0,none⟩=false/\w'.frozen? ⟨w.heap.size+1,0,none⟩=false/\w.heap.size+1 < w'.heap.size/\Below w.heap.size w w':=by
 have hs:=h.size;have hz:(e0 w).heap.size=w.heap.size+1+1:=by simp [e0]
 refine ⟨?_,?_,?_,?_,by omega,(e0_below w).trans (h.mono (e0_below w).size)⟩
 ·rw [h.cell (p:=⟨w.heap.size,0,none⟩) (by simp only;omega)];simp [e0,go_sem]
 ·rw [h.cell (p:=⟨w.heap.size+1,0,none⟩) (by simp only;omega)];simp [e0,go_sem]
 ·rw [h.frozen (p:=⟨w.heap.size,0,none⟩) (by simp only;omega)];simp [e0,go_sem]
 ·rw [h.frozen (p:=⟨w.heap.size+1,0,none⟩) (by simp only;omega)];simp [e0,go_sem]
theorem eval_no (ao:Option Addr) (n cap:Nat) (eao:Option Addr) (en ecap:Nat) (x:Int) (w:World) (hx:x≠0)
  (heo:Calls Tryz.prog 95 #[.slice ao n cap,.int .i64 en] (e0 w) fun e w''=>e=.returned (.tuple #[.slice none 0 0,.int .i64 x])/\Below (e0 w).heap.size (e0 w) w'') :
  Calls Tryz.prog 80 #[.slice ao n cap,.slice eao en ecap] w fun e w'=>e=.returned (.tuple #[.int .i64 0,.int .i64 x])/\Below w.heap.size w w':=by
 have hmf:=hmakeFunc
 go_enter_defers Tryz.func80,Tryz.ntmps80
 go_wp2_with (go_at_call 95;refine heo.mono ?_;rintro e w2 ⟨rfl,hb2⟩;obtain ⟨c0,c1,f0,f1,hsz,hbw⟩:=e0_cells w hb2)
 go_region
 all_goals go_wp2_with fail
 all_goals
  refine leaves_cons (f:=94) (args:=#[.pointer (some ⟨w.heap.size,0,none⟩),.pointer (some ⟨w.heap.size+1,0,none⟩)]) (by simp) (by simp [go_sem]) ?_
  refine (ecatch_idle w.heap.size _).mono ?_
  rintro e u' w'' ⟨rfl,rfl,rfl⟩
  simp [Leaves,settle,results,Tryz.results80,go_sem,c0,c1]
  first
   | exact (((hbw.setCell (p:=⟨w.heap.size+1,0,none⟩) (by simp) _).drew).setCell (p:=⟨w.heap.size,0,none⟩) (Nat.le_refl _) _).setCell (p:=⟨w.heap.size+1,0,none⟩) (by simp) _
   | exact (((hbw.setCell (p:=⟨w.heap.size+1,0,none⟩) (by simp) _).drew).setCell (p:=⟨w.heap.size+1,0,none⟩) (by simp) _).setCell (p:=⟨w.heap.size,0,none⟩) (Nat.le_refl _) _
end Go.Proofs.YtfnobbpbmelgnaaGreatDoor
namespace Go.Proofs.YtfnobbpbmelgnaaGreatDoor
open Terms Tm
set_option maxHeartbeats 6400000
set_option maxRecDepth 20000
noncomputable def exN (l:List (Int × Int)) (env:List Int):Int:=evalN l (treeOf l) env
noncomputable def exC (l:List (Int × Int)) (env:List Int):Int:=evalC l (treeOf l) env
noncomputable def holdsB (l:List (Int × Int)) (env:List Int):Bool:=decide (exC l env=0)&&decide (exN l env=1)
noncomputable def setTo (env:List Int) (sets:List St):Nat->List Int
 | 0=>env
 | k+1=>(setTo env sets k).set (sets.getD k st0).var.toNat (exN (sets.getD k st0).val env)
theorem setTo_length (env:List Int) (sets:List St) (k:Nat):(setTo env sets k).length=env.length:=by
 induction k with
 | zero=>rfl
 | succ k ih=>simp [setTo,ih]
noncomputable def behindL (env:List Int) (r:Ru):List Int:=setTo env r.sets r.sets.length
def setsOk (env:List Int) (r:Ru):Prop:=∀ j,j < r.sets.length->exC (r.sets.getD j st0).val env=0
open Classical in
noncomputable def ruleDo (vars:List Vr) (env:List Int) (r:Ru):Option Int:=
 if holdsB r.guard env=true/\setsOk env r/\∀ i,i < vars.length->inB vars (behindL env r) i then some (codeTo vars (behindL env r) vars.length) else none
def optN:Option Int->Int
 | some x=>x
 | none=>0
def optC:Option Int->Int
 | some _=>0
 | none=>11
theorem ruleDo_guard {vars:List Vr} {env:List Int} {r:Ru} (h:holdsB r.guard env=false):ruleDo vars env r=none:=by
 unfold ruleDo;rw [if_neg (fun h2=>by rw [h] at h2;cases h2.1)]
theorem ruleDo_set {vars:List Vr} {env:List Int} {r:Ru} {j:Nat} (hj:j < r.sets.length) (h:exC (r.sets.getD j st0).val env≠0):ruleDo vars env r=none:=by
 unfold ruleDo;rw [if_neg (fun h2=>h (h2.2.1 j hj))]
theorem ruleDo_code {vars:List Vr} {env:List Int} {r:Ru} (h1:holdsB r.guard env=true) (h2:setsOk env r) (hl:env.length=vars.length) {m:Mo} (hm:mcode m=0) (hv:m.vars=vars) :
  (ccode m (behindL env r)=0->ruleDo vars env r=some (cval m (behindL env r)))/\(ccode m (behindL env r)≠0->ruleDo vars env r=none):=by
 have hb:(behindL env r).length=m.vars.length:=by unfold behindL;rw [setTo_length,hl,hv]
 subst hv
 by_cases hin:∀ i,i < m.vars.length->inB m.vars (behindL env r) i
 ·have hc:=ccode_yes hm ⟨hb,hin⟩
  refine ⟨fun _=>?_,fun h=>absurd hc h⟩
  unfold ruleDo;rw [if_pos ⟨h1,h2,hin⟩];unfold cval;rw [if_pos hc]
 ·have hc:=ccode_no hm (vals:=behindL env r) (fun h=>hin h.2)
  refine ⟨fun h=>(by rw [hc] at h;cases h),fun _=>?_⟩
  unfold ruleDo;rw [if_neg (fun h=>hin h.2.2)]
theorem rule_sets {vars:Int} {r:Ru} (h:rcode vars r=0):r.sets.length <= 6/\∀ j,j < r.sets.length->0 <= (r.sets.getD j st0).var/\(r.sets.getD j st0).var < vars:=by
 unfold rcode at h
 split at h
 ·simp at h
 ·rename_i h6
  refine ⟨by omega,fun j hj=>?_⟩
  split at h
  ·have h1:=firstOf_zero h j hj
   unfold sAt at h1
   split at h1
   ·simp at h1
   ·rename_i h2;omega
  ·rename_i h2;exact absurd h h2
theorem mcode_rules {m:Mo} (h:mcode m=0):m.rules.length <= 12/\∀ j,j < m.rules.length->rcode m.vars.length (m.rules.getD j ru0)=0:=by
 unfold mcode at h
 split at h
 ·split at h
  ·simp at h
  ·rename_i h1;exact ⟨by omega,firstOf_zero h⟩
 ·rename_i h0;exact absurd h h0
theorem mcode_bare {m:Mo} (h:mcode m=0):mcode ⟨m.vars,[]⟩=0:=by
 have hv:vcode m.vars=0:=by
  unfold mcode at h
  split at h
  ·assumption
  ·rename_i h0;exact absurd h h0
 unfold mcode;rw [if_pos hv];rfl
theorem valsL_length (l:List Vr) (c:Int):(valsL l c).length=l.length:=by simp [valsL]
end Go.Proofs.YtfnobbpbmelgnaaGreatDoor
namespace Go.Proofs.YtfnobbpbmelgnaaGreatDoor
open Go.Shelf Go.RowKit Go.Lib
set_option maxHeartbeats 6400000
set_option maxRecDepth 20000
def laysClone_ren:Go.Shelf.Ren:=⟨fun | 15=>123 | n=>n,fun | 22=>36 | 3=>3 | 4=>4 | n=>n,fun | n=>n⟩
theorem laysClone:Go.Proofs.Lays2.n15 Tryz.prog laysClone_ren:={
 mixed:=by kernel_rfl
 f15:=Tryz.func123.trans (congrArg some (by kernel_rfl))
 t3:=Tryz.underlying3
 a3:=Tryz.isAgg3
 z3:=Tryz.sizeOf3
 v3:=Tryz.zeroValue3
 t4:=Tryz.underlying4
 a4:=Tryz.isAgg4
 z4:=Tryz.sizeOf4
 v4:=Tryz.zeroValue4
 t22:=Tryz.underlying36
 a22:=Tryz.isAgg36
 z22:=Tryz.sizeOf36
 v22:=Tryz.zeroValue36
 i3:=by kernel_rfl}
theorem clone_any (B:Nat) (l:List Int) (w:World) (hl:l.length <= 10000) (hr:w.rowIs B 3 l.length (fun j=>.int .i64 (l.getD j 0))) :
    Calls Tryz.prog 123 #[.slice (some ⟨B,0,none⟩) l.length l.length] w fun e w'=>∃ g cap,e=.returned (.slice (some ⟨g,0,none⟩) l.length cap)/\w.heap.size <= g/\Below w.heap.size w w'/\w'.ownsRow w.heap.size 3 1 (.slice (some ⟨g,0,none⟩) l.length cap) l.length (ivals l):=by
  have h:Calls Tryz.prog 123 #[.slice (some ⟨B,0,none⟩) l.length l.length] w fun e w'=>∃ v',e=.returned v'/\w'.ownsRow w.heap.size 3 1 v' l.length ((l.take l.length).map (Value.int .i64))/\v'≠.slice none 0 0/\Below w.heap.size w w':=
    Any.slices_Clone_int laysClone B 0 l.length l.length l w (Nat.le_refl _) (by omega) (fun j hj=>by rw [Nat.zero_add];exact hr.cell hj)
  refine h.mono fun e w' ⟨v',he,ho,hn,hb⟩=>?_
  rw [List.take_length] at ho;obtain ⟨g,cap,rfl,hg,_⟩:=Lib.holds_of_ownsRow ho hn;exact ⟨g,cap,he,hg,hb,ho⟩
end Go.Proofs.YtfnobbpbmelgnaaGreatDoor
namespace Go.Proofs.YtfnobbpbmelgnaaGreatDoor
open Go.ChangeShapes Go.WideShapes Go.ChangeAt Go.RowKit Go.Deep
open Terms Tm
set_option maxHeartbeats 6400000
set_option maxRecDepth 20000
def EnvAt (w:World) (eao:Option Addr) (env:List Int):Prop:=∀ i,i < env.length->∃ eb eoff,eao=some ⟨eb,eoff,none⟩/\eb < w.heap.size/\w.cell? ⟨eb,eoff+i,none⟩=some (.int .i64 (env.getD i 0))
theorem EnvAt.later {w w':World} {eao:Option Addr} {env:List Int} (h:EnvAt w eao env) (hb:Below w.heap.size w w'):EnvAt w' eao env:=fun i hi=>by
 obtain ⟨eb,eoff,e1,e2,e3⟩:=h i hi;exact ⟨eb,eoff,e1,Nat.lt_of_lt_of_le e2 hb.size,(hb.cell (p:=⟨eb,eoff+i,none⟩) e2).trans e3⟩
def evalPost (env:List Int) (t:Tm) (w:World) (e:Ending) (w':World):Prop:=
 e=.returned (.tuple #[.int .i64 (if envBad env=true then 0 else match t.eval env with | some x=>x | none=>0),.int .i64 (if envBad env=true then 2 else match t.eval env with | some _=>0 | none=>8)])/\Below w.heap.size w w'
theorem eval_yes (b off n cap:Nat) (eao:Option Addr) (en ecap:Nat) (t:Tm) (env:List Int) (w:World) (hn:n=t.size) (h60:n <= 60) (hen:en=env.length) (hen6:en <= 6) (hg:t.Good env.length) (hty:t.typed=true) (hbB:b < w.heap.size) (hA:OpsAt w b off t.ops) (hE:EnvAt w eao env)
  (heo:Calls Tryz.prog 95 #[.slice (some ⟨b,off,none⟩) n cap,.int .i64 en] (e0 w) fun e w'=>Below (e0 w).heap.size (e0 w) w'/\∃ B,(e0 w).heap.size <= B/\e=.returned (.tuple #[.slice (some ⟨B,0,none⟩) n n,.int .i64 0])/\w'.rowIs B 3 n (fun q=>.int .i64 (endAt (t.ops.map Prod.fst) q))) :
  Calls Tryz.prog 80 #[.slice (some ⟨b,off,none⟩) n cap,.slice eao en ecap] w (evalPost env t w):=by
 have hmf:=hmakeFunc;have HE:Hid (EnvAt w eao env):=hE;have HA:Hid (OpsAt w b off t.ops):=hA;have HN:Hid (n=t.size/\t.Good env.length/\t.typed=true/\en=env.length):=⟨hn,hg,hty,hen⟩;have hn1:0 < n:=by rw [hn];exact t.size_pos
 have hzs:(e0 w).heap.size=w.heap.size+1+1:=by simp [e0]
 clear hE hA hn hg hty hen
 go_enter_defers Tryz.func80,Tryz.ntmps80
 go_wp2_with (go_at_call 95;refine heo.mono ?_;rintro e w2 ⟨hb2,B,hBw,rfl,hrow⟩;obtain ⟨c0,c1,f0,f1,hsz,hbw⟩:=e0_cells w hb2)
 obtain ⟨W3,hW3⟩:∃ W3,W3=w2.setCell ⟨w.heap.size+1,0,none⟩ (.int .i64 0):=⟨_,rfl⟩
 have hb3:Below w.heap.size w W3:=by rw [hW3];exact hbw.setCell (p:=⟨w.heap.size+1,0,none⟩) (by simp) _
 have d0:W3.cell? ⟨w.heap.size,0,none⟩=some (.int .i64 0):=by rw [hW3];simp [go_sem,c0]
 have d1:W3.cell? ⟨w.heap.size+1,0,none⟩=some (.int .i64 0):=by rw [hW3];simp [go_sem,c1]
 have g0:W3.frozen? ⟨w.heap.size,0,none⟩=false:=by rw [hW3];simp [go_sem,f0]
 have g1:W3.frozen? ⟨w.heap.size+1,0,none⟩=false:=by rw [hW3];simp [go_sem,f1]
 have hrow3:W3.rowIs B 3 n (fun q=>.int .i64 (endAt (t.ops.map Prod.fst) q)):=by rw [hW3];exact hrow.setOther (by simp;omega) _
 have hsz3:w.heap.size+1 < W3.heap.size:=by rw [hW3];simpa using hsz
 have HW3:=(show Hid _ from hW3)
 have HR:Hid (W3.rowIs B 3 n (fun q=>.int .i64 (endAt (t.ops.map Prod.fst) q))):=hrow3
 rw [<- hW3];clear hW3 hrow3 hrow heo hb2 c0 c1 f0 f1 hsz hbw HW3
 go_loop [23] (fun c=>∃ i:Nat,i <= en/\c=.int .i64 i/\Hid (∀ j,j < i->-1000000 <= env.getD j 0/\env.getD j 0 <= 1000000)) (fun c=>en - (intOf c).toNat)
 case atStart=>exact ⟨0,Nat.zero_le _,rfl,fun j hj=>by omega⟩
 case round=>
  obtain ⟨i,hi,rfl,HJ⟩:=hrel
  by_cases hlt:i < en
  ·obtain ⟨eb,eoff,rfl,e2,e3⟩:=(HE.out.later hb3) i (by rw [<- HN.out.2.2.2];exact hlt)
   have htg:=fun w=>tooGreat_any (env.getD i 0) w
   by_cases hz:-1000000 <= env.getD i 0/\env.getD i 0 <= 1000000
   ·rw [show decide (¬ (-1000000 <= env.getD i 0/\env.getD i 0 <= 1000000))=false by simpa using hz] at htg
    have HJ2:Hid (∀ j,j < i+1->-1000000 <= env.getD j 0/\env.getD j 0 <= 1000000):=fun j hj=>by
     by_cases hji:j < i
     ·exact HJ.out j hji
     ·obtain rfl:j=i:=by omega
      exact hz
    clear hz;generalize env.getD i 0=x at e3 htg
    go_wp2_with (go_at_call 96;refine (htg _).mono ?_;rintro e w5 ⟨rfl,rfl⟩)
    go_round
    case rel=>exact ⟨i+1,by omega,by go_num,HJ2⟩
    case measure=>simp [intOf];omega
   ·have HX:Hid (envBad env=true):=envBad_at (by rw [<- HN.out.2.2.2];exact hlt) hz
    generalize env.getD i 0=x at e3 htg hz;rw [show decide (¬ (-1000000 <= x/\x <= 1000000))=true by simp;omega] at htg
    clear hz
    go_wp2_with (go_at_call 96;refine (htg _).mono ?_;rintro e w5 ⟨rfl,rfl⟩)
    refine leaves_cons (f:=94) (args:=#[.pointer (some ⟨w.heap.size,0,none⟩),.pointer (some ⟨w.heap.size+1,0,none⟩)]) (by simp) (by simp [go_sem]) ?_
    refine (ecatch_idle w.heap.size _).mono ?_
    rintro e u' w'' ⟨rfl,rfl,rfl⟩
    simp [Leaves,settle,results,Tryz.results80,go_sem,d0,d1]
    unfold evalPost;rw [if_pos HX.out,if_pos HX.out];exact ⟨rfl,(hb3.setCell (p:=⟨w.heap.size,0,none⟩) (Nat.le_refl _) _).setCell (p:=⟨w.heap.size+1,0,none⟩) (by simp) _⟩
  ·have hin:i=en:=by omega
   subst hin;have hok:envBad env=false:=envBad_ok (fun j hj=>HJ.out j (by rw [HN.out.2.2.2];exact hj))
   have HX:Hid (envBad env=false):=hok;have hpm:=pairMakers_any W3;clear hlt hi
   go_wp2_with (go_at_call 97;refine hpm.mono ?_;rintro e W4 ⟨M,hM,rfl,hpa,hb4⟩)
   have hb5:Below W3.heap.size W3 (W4.alloc (.cells #[.slice (some ⟨b,off,none⟩) n cap,.slice (some ⟨B,0,none⟩) n n,.slice eao i ecap,.map (some M)] 183)):=hb4.alloc hb4.size _;have hpa5:PairsAt (W4.alloc (.cells #[.slice (some ⟨b,off,none⟩) n cap,.slice (some ⟨B,0,none⟩) n n,.slice eao i ecap,.map (some M)] 183)) M:=World.ownsMap.alloc hpa _
   have hwk:WorkAt (W4.alloc (.cells #[.slice (some ⟨b,off,none⟩) n cap,.slice (some ⟨B,0,none⟩) n n,.slice eao i ecap,.map (some M)] 183)) b off B eao M t env:=by
    have hbb:=hb3.trans (hb5.mono hb3.size);refine ⟨Nat.lt_of_lt_of_le hbB hbb.size,HA.out.below hbb hbB,?_,HE.out.later hbb,hpa5⟩
    have hr:=HR.out;rw [HN.out.1] at hr;exact hr.of_block (hb5.block B hr.lt)
   generalize W4.alloc (.cells #[.slice (some ⟨b,off,none⟩) n cap,.slice (some ⟨B,0,none⟩) n n,.slice eao i ecap,.map (some M)] 183)=W5 at *;have hat:=at_any b off n cap B eao i ecap M env.length t env HN.out.1 h60 HN.out.2.1 HN.out.2.2.1 (envBad_false hok) rfl HN.out.2.2.2 t.size 0 W5 hn1 (by rw [sub_zero];omega) hwk
   rw [sub_zero] at hat;have hs3:=hb3.size;have hs5:=hb5.size;clear hwk hpa hpa5 hok hpm hb4 HR
   cases hx:t.eval env with
   | none=>
    rw [hx] at hat;have HXN:Hid (t.eval env=none):=hx;clear hx;refine hat.mono ?_
    rintro e w6 ⟨hb6,rfl⟩
    have hb36:=hb5.trans (hb6.mono hb5.size);have k0:=(hb36.cell (p:=⟨w.heap.size,0,none⟩) (by simp only;omega)).trans d0
    have k1:=(hb36.cell (p:=⟨w.heap.size+1,0,none⟩) (by simp only;omega)).trans d1
    have z0:=(hb36.frozen (p:=⟨w.heap.size,0,none⟩) (by simp only;omega)).trans g0
    have z1:=(hb36.frozen (p:=⟨w.heap.size+1,0,none⟩) (by simp only;omega)).trans g1
    have hbf:=hb3.trans (hb36.mono hb3.size);refine leaves_cons (f:=94) (args:=#[.pointer (some ⟨w.heap.size,0,none⟩),.pointer (some ⟨w.heap.size+1,0,none⟩)]) (by simp) (by simp [go_sem]) ?_
    refine (ecatch_panicking w.heap.size 8 _ _ w6 k0 k1 z0 z1).mono ?_
    rintro e u' w'' ⟨rfl,rfl,rfl⟩
    simp [Leaves,settle,results,Tryz.results80,go_sem,k0,k1]
    unfold evalPost;rw [if_neg (by rw [HX.out];simp),if_neg (by rw [HX.out];simp),HXN.out]
    exact ⟨rfl,(((hbf.setCell (p:=⟨w.heap.size,0,none⟩) (Nat.le_refl _) _).setCell (p:=⟨w.heap.size+1,0,none⟩) (by simp) _)).drew⟩
   | some x=>
    rw [hx] at hat;have HXN:Hid (t.eval env=some x):=hx;clear hx;refine hat.mono ?_
    rintro e w6 ⟨hb6,rfl⟩
    have hb36:=hb5.trans (hb6.mono hb5.size);have k0:=(hb36.cell (p:=⟨w.heap.size,0,none⟩) (by simp only;omega)).trans d0
    have k1:=(hb36.cell (p:=⟨w.heap.size+1,0,none⟩) (by simp only;omega)).trans d1
    have z0:=(hb36.frozen (p:=⟨w.heap.size,0,none⟩) (by simp only;omega)).trans g0
    have z1:=(hb36.frozen (p:=⟨w.heap.size+1,0,none⟩) (by simp only;omega)).trans g1
    have hbf:=hb3.trans (hb36.mono hb3.size);clear d0 d1 g0 g1 hat
    go_wp2_with fail
    refine leaves_cons (f:=94) (args:=#[.pointer (some ⟨w.heap.size,0,none⟩),.pointer (some ⟨w.heap.size+1,0,none⟩)]) (by simp) (by simp [go_sem]) ?_
    refine (ecatch_idle w.heap.size _).mono ?_
    rintro e u' w'' ⟨rfl,rfl,rfl⟩
    simp [Leaves,settle,results,Tryz.results80,go_sem,k0,k1]
    unfold evalPost;rw [if_neg (by rw [HX.out];simp),if_neg (by rw [HX.out];simp),HXN.out]
    exact ⟨rfl,(hbf.setCell (p:=⟨w.heap.size,0,none⟩) (Nat.le_refl _) _).setCell (p:=⟨w.heap.size+1,0,none⟩) (by simp) _⟩
theorem IntsV.env {w:World} {v:Value} {env:List Int} (h:IntsV w v env):∃ eao ecap,v=.slice eao env.length ecap/\EnvAt w eao env:=by
 obtain ⟨ao,cap,rfl,h⟩:=h;refine ⟨ao,cap,rfl,fun i hi=>?_⟩
 obtain ⟨b,off,rfl,hlt,hat⟩:=h (by intro h;subst h;simp at hi)
 exact ⟨b,off,rfl,hlt,hat i hi⟩
theorem eval_any (v ev:Value) (l:List (Int × Int)) (env:List Int) (t:Tm) (w:World) (hB:0 < w.heap.size) (hT:TabAt w) (hV:OpsV w v l) (hE:IntsV w ev env) (ht:endsCode (l.map Prod.fst)=0->t.Wf/\t.ops=l) :
  Calls Tryz.prog 80 #[v,ev] w fun e w'=>e=.returned (.tuple #[.int .i64 (evalN l t env),.int .i64 (evalC l t env)])/\Below w.heap.size w w':=by
 have hb0:=e0_below w;have heo:=eo_any v l env.length t (e0 w) (Nat.lt_of_lt_of_le hB hb0.size) (hT.below hb0 hB) (hV.below hb0) ht;obtain ⟨eao,ecap,rfl,hEA⟩:=hE.env
 by_cases hx:xcode env.length l t=0
 ·obtain ⟨h0,h6,hops,hg,htt,h60⟩:=xcode_zero hx ht
  subst hops;obtain ⟨ao,cap,rfl,_,h⟩:=hV;obtain ⟨b,off,rfl,hlt,hat⟩:=h t.ops_ne;refine (eval_yes b off _ cap eao _ ecap t env w t.ops_length (by rw [ops_length];exact h60) rfl (by omega) hg htt hlt hat hEA (heo.mono fun e w' ⟨h1,_,h3⟩=>⟨h1,?_⟩)).mono fun e w' ⟨h1,h2⟩=>⟨?_,h2⟩
  ·obtain ⟨B,p1,p2,p3⟩:=h3 hx
   exact ⟨B,p1,p2,p3⟩
  ·rw [h1]
   simp only [evalN,evalC,hx,ne_eq,not_true_eq_false,if_false]
   all_goals (cases t.eval env <;> rfl)
 ·obtain ⟨ao,cap,rfl,_,h⟩:=hV
  refine (eval_no ao _ cap eao _ ecap _ w hx (heo.mono fun e w' ⟨h1,h2,_⟩=>⟨h2 hx,h1⟩)).mono fun e w' ⟨h1,h2⟩=>⟨?_,h2⟩
  rw [h1];unfold evalN evalC;rw [if_pos hx,if_pos hx]
theorem ex_any (v ev:Value) (l:List (Int × Int)) (env:List Int) (w:World) (hB:0 < w.heap.size) (hT:TabAt w) (hV:OpsV w v l) (hE:IntsV w ev env) :
  Calls Tryz.prog 80 #[v,ev] w fun e w'=>e=.returned (.tuple #[.int .i64 (exN l env),.int .i64 (exC l env)])/\Below w.heap.size w w':=
 eval_any v ev l env (treeOf l) w hB hT hV hE (treeOf_spec l)
theorem sholds_any (v ev:Value) (l:List (Int × Int)) (env:List Int) (w:World) (hB:0 < w.heap.size) (hT:TabAt w) (hV:OpsV w v l) (hE:IntsV w ev env) :
  Calls Tryz.prog 64 #[v,ev] w fun e w'=>e=.returned (.bool (holdsB l env))/\Below w.heap.size w w':=by
 have hx:=ex_any v ev l env w hB hT hV hE;unfold holdsB;generalize exN l env=n at hx ⊢;generalize exC l env=c at hx ⊢;clear hV hE hT
 go_enter Tryz.func64,Tryz.ntmps64
 go_wp2_with (go_at_call 80;refine hx.mono ?_;rintro e w1 ⟨rfl,hb1⟩)
 all_goals go_ret
 all_goals exact ⟨by first | (simp [*];done) | (simp [*];by_cases h1:n=1 <;> simp [h1]),hb1⟩
theorem bare_any (ao ro:Option Addr) (n cap rn rc:Nat) (w:World) :
  Calls Tryz.prog 63 #[.agg #[.slice ao n cap,.slice ro rn rc]] w fun e w'=>e=.returned (.agg #[.slice ao n cap,.slice none 0 0])/\Below w.heap.size w w':=by
 go_enter Tryz.func63,Tryz.ntmps63
 go_wp2_with fail
 exact bodyPost_ret (v:=.agg #[.slice ao n cap,.slice none 0 0]) (by simp [results,Tryz.results63,go_sem]) rfl ⟨rfl,((Below.refl _ _).alloc (Nat.le_refl _) _).alloc (by simp) _⟩
theorem doRule_any (va vr gv sv:Value) (B:Nat) (m:Mo) (env:List Int) (r:Ru) (w:World) (hB:0 < w.heap.size) (hT:TabAt w) (hV:ModelV w va vr m) (hm:mcode m=0) (hr:rcode m.vars.length r=0) (he:env.length=m.vars.length)
  (hrow:w.rowIs B 3 env.length (fun j=>.int .i64 (env.getD j 0))) (hg:OpsV w gv r.guard) (hs:SetsV w sv r.sets) :
  Calls Tryz.prog 118 #[.agg #[va,vr],.slice (some ⟨B,0,none⟩) env.length env.length,.agg #[gv,sv]] w fun e w'=>e=.returned (.tuple #[.int .i64 (optN (ruleDo m.vars env r)),.int .i64 (optC (ruleDo m.vars env r))])/\Below w.heap.size w w':=by
 obtain ⟨h6,hsv⟩:=rule_sets hr;have hv6:=(mcode_vars hm).1;obtain ⟨ao,cap,rfl⟩:=hV.1.shape;obtain ⟨ro,rc,rfl⟩:=hV.2.shape;obtain ⟨go,gc,rfl⟩:=hg.shape;obtain ⟨so,sc,rfl⟩:=hs.shape;have hA2:∀ o o',Below w.heap.size w ((w.alloc o).alloc o'):=fun o o'=>((Below.refl _ _).alloc (Nat.le_refl _) o).alloc (by simp) o'
 have hI:IntsV w (.slice (some ⟨B,0,none⟩) env.length env.length) env:=by
  have h1:=intsV_of_row hrow
  have e1:(List.range env.length).map (fun j=>env.getD j 0)=env:=by
   apply List.ext_getElem?
   intro i
   by_cases hi:i < env.length
   ·simp [hi,List.getD_eq_getElem?_getD]
   ·simp [hi]
  rwa [e1] at h1
 have hho:=fun w' (hb:Below w.heap.size w w')=>sholds_any (.slice go r.guard.length gc) (.slice (some ⟨B,0,none⟩) env.length env.length) r.guard env w' (Nat.lt_of_lt_of_le hB hb.size) (hT.below hb hB) (hg.below hb) (hI.below hb)
 have hcl:=fun w' (hb:Below w.heap.size w w')=>clone_any B env w' (by omega) (row_later hrow hb)
 have HEx:Hid (∀ w' (_:Below w.heap.size w w') v l,OpsV w' v l->Calls Tryz.prog 80 #[v,.slice (some ⟨B,0,none⟩) env.length env.length] w' fun e w2=>e=.returned (.tuple #[.int .i64 (exN l env),.int .i64 (exC l env)])/\Below w'.heap.size w' w2):=fun w' hb v l hv=>ex_any v _ l env w' (Nat.lt_of_lt_of_le hB hb.size) (hT.below hb hB) hv (hI.below hb)
 have HCo:Hid (∀ w' (_:Below w.heap.size w w') vv vals,IntsV w' vv vals->Calls Tryz.prog 124 #[.agg #[.slice ao m.vars.length cap,.slice none 0 0],vv] w' fun e w2=>e=.returned (.tuple #[.int .i64 (cval ⟨m.vars,[]⟩ vals),.int .i64 (ccode ⟨m.vars,[]⟩ vals)])/\Below w'.heap.size w' w2):=fun w' hb vv vals hi=>
  mcodes_any _ _ vv ⟨m.vars,[]⟩ vals w' (Nat.lt_of_lt_of_le hB hb.size) (hT.below hb hB) ⟨hV.1.below hb,⟨none,0,rfl,⟨by simp,fun _=>⟨rfl,rfl⟩⟩,fun h=>by simp at h⟩⟩ hi
 have HS:Hid (SetsV w (.slice so r.sets.length sc) r.sets):=hs;have HSV:Hid (∀ j,j < r.sets.length->0 <= (r.sets.getD j st0).var/\(r.sets.getD j st0).var < m.vars.length):=hsv
 have HE:Hid (env.length=m.vars.length):=he;have HM0:Hid (mcode ⟨m.vars,[]⟩=0):=mcode_bare hm;clear hV hT hg hs hsv hm hr hI hrow he
 by_cases hgd:holdsB r.guard env=true
 ·rw [hgd] at hho
  go_enter Tryz.func118,Tryz.ntmps118
  go_wp2_with (go_at_call 64;refine (hho _ (hA2 _ _)).mono ?_;rintro e w1 ⟨rfl,hb1⟩;have hbw1:=(hA2 _ _).trans (hb1.mono (hA2 _ _).size))
  have hs1:w.heap.size+1 < w1.heap.size:=by have:=hb1.size;simp at this;omega
  have k10:w1.cell? ⟨w.heap.size,0,none⟩=some (.slice ao m.vars.length cap):=(hb1.cell (p:=⟨w.heap.size,0,none⟩) (by simp;omega)).trans (by simp [go_sem])
  have k11:w1.cell? ⟨w.heap.size,1,none⟩=some (.slice ro m.rules.length rc):=(hb1.cell (p:=⟨w.heap.size,1,none⟩) (by simp;omega)).trans (by simp [go_sem])
  have k12:w1.cell? ⟨w.heap.size+1,1,none⟩=some (.slice so r.sets.length sc):=(hb1.cell (p:=⟨w.heap.size+1,1,none⟩) (by simp)).trans (by simp [go_sem])
  have HC1:Hid (∀ w',Below w1.heap.size w1 w'->w'.cell? ⟨w.heap.size,0,none⟩=some (.slice ao m.vars.length cap)/\w'.cell? ⟨w.heap.size,1,none⟩=some (.slice ro m.rules.length rc)/\w'.cell? ⟨w.heap.size+1,1,none⟩=some (.slice so r.sets.length sc)):=fun w' hb=>⟨(hb.cell (p:=⟨w.heap.size,0,none⟩) (by simp only;omega)).trans k10,(hb.cell (p:=⟨w.heap.size,1,none⟩) (by simp only;omega)).trans k11,(hb.cell (p:=⟨w.heap.size+1,1,none⟩) hs1).trans k12⟩
  have HBW1:Hid (Below w.heap.size w w1):=hbw1;have hcl1:=hcl w1 hbw1;clear hho hcl hb1 hbw1
  go_wp2_with (go_at_call 123;refine hcl1.mono ?_;rintro e w2 ⟨g,gcap,rfl,hgl,hb2,ho2⟩;obtain ⟨k20,k21,k22⟩:=HC1.out w2 hb2)
  have HO2:Hid (w2.ownsRow w1.heap.size 3 1 (.slice (some ⟨g,0,none⟩) env.length gcap) env.length (ivals env)):=ho2;have HB2:Hid (Below w1.heap.size w1 w2):=hb2;have HRS:Hid (∀ j,j < r.sets.length->exC (r.sets.getD j st0).val env≠0->ruleDo m.vars env r=none):=fun j hj h=>ruleDo_set hj h
  have HRC:Hid (setsOk env r->(ccode ⟨m.vars,[]⟩ (behindL env r)=0->ruleDo m.vars env r=some (cval ⟨m.vars,[]⟩ (behindL env r)))/\(ccode ⟨m.vars,[]⟩ (behindL env r)≠0->ruleDo m.vars env r=none)):=fun h=>ruleDo_code hgd h HE.out HM0.out rfl
  have HBL:Hid (behindL env r=setTo env r.sets r.sets.length):=rfl;obtain ⟨sn,hsn⟩:∃ sn,sn=r.sets.length:=⟨_,rfl⟩
  have HSN:Hid (sn=r.sets.length):=hsn;rw [<- hsn] at h6 HS HC1 k22 ⊢;obtain ⟨res,hres⟩:∃ res,ruleDo m.vars env r=res:=⟨_,rfl⟩
  rw [hres] at HRS HRC;have HRes:Hid (ruleDo m.vars env r=res):=hres;clear hcl1 ho2 hb2 hsn hres hgd
  go_loopw [25] (fun i wr=>∃ k:Nat,k <= sn/\i=.int .i64 k/\Hid (∀ j,j < k->exC (r.sets.getD j st0).val env=0)/\Hid (wr.ownsRow w1.heap.size 3 1 (.slice (some ⟨g,0,none⟩) env.length gcap) env.length (ivals (setTo env r.sets k)))/\Hid (Below w1.heap.size w1 wr)) (fun i _=>sn - (intOf i).toNat)
  case atStart=>exact ⟨0,Nat.zero_le _,rfl,fun j hj=>by omega,HO2.out,HB2.out⟩
  case round=>
   obtain ⟨k,hk,rfl,HOK,HOwn,HBel⟩:=hrel;have hbel:=HBel.out;have hbw:=HBW1.out.trans (hbel.mono HBW1.out.size);obtain ⟨kr0,kr1,kr2⟩:=HC1.out wr hbel
   by_cases hlt:k < sn
   ·obtain ⟨b,off,rfl,hblt,hat⟩:=HS.out.at (i:=k) (by rw [<- HSN.out];exact hlt)
    obtain ⟨c0,u,c1,hou⟩:=hat.below hbw hblt;obtain ⟨uo,uc,rfl⟩:=hou.shape;have HSk:=HSV.out k (by rw [<- HSN.out];exact hlt)
    have HRk:Hid (exC (r.sets.getD k st0).val env≠0->res=none):=HRS.out k (by rw [<- HSN.out];exact hlt)
    have HStep:Hid (setTo env r.sets (k+1)=(setTo env r.sets k).set (r.sets.getD k st0).var.toNat (exN (r.sets.getD k st0).val env)):=rfl
    have HOK2:Hid (exC (r.sets.getD k st0).val env=0->∀ j,j < k+1->exC (r.sets.getD j st0).val env=0):=fun h j hj=>by
     by_cases hjk:j=k
     ·subst hjk;exact h
     ·exact HOK.out j (by omega)
    have hAr:∀ o,Below w.heap.size w (wr.alloc o):=fun o=>hbw.alloc hbw.size o
    have hex:=fun o=>HEx.out (wr.alloc o) (hAr o) _ _ (hou.below ((Below.refl _ _).alloc (Nat.le_refl _) o))
    obtain ⟨hv0,hv1⟩:=HSk;obtain ⟨vn,hvn⟩:∃ vn:Nat,(r.sets.getD k st0).var=vn:=⟨(r.sets.getD k st0).var.toNat,by omega⟩
    rw [hvn] at hv0 hv1 c0 HStep;rw [Int.toNat_natCast] at HStep;have hvn2:vn < env.length:=by rw [HE.out];omega
    generalize exN (r.sets.getD k st0).val env=N at hex HStep;generalize exC (r.sets.getD k st0).val env=C at hex HRk HOK2;generalize (r.sets.getD k st0).val.length=ul at hex c1 hou
    have HBr:Hid (∀ o w4,Below (wr.alloc o).heap.size (wr.alloc o) w4->Below w1.heap.size w1 w4/\w4.ownsRow w1.heap.size 3 1 (.slice (some ⟨g,0,none⟩) env.length gcap) env.length (ivals (setTo env r.sets k))/\w4.cell? ⟨wr.heap.size,0,none⟩=(wr.alloc o).cell? ⟨wr.heap.size,0,none⟩):=fun o w4 hb=>
     ⟨(hbel.alloc hbel.size o).trans (hb.mono (hbel.alloc hbel.size o).size),owns_later (owns_later HOwn.out ((Below.refl _ _).alloc (Nat.le_refl _) o) (Nat.le_refl _)) hb (Nat.le_refl _),hb.cell (p:=⟨wr.heap.size,0,none⟩) (by simp)⟩
    clear hat hou hvn hAr HRS HEx HCo HS HSV HRC kr0 kr1 kr2 k20 k21 k22 k10 k11 k12 hbel hbw
    by_cases hC:C=0
    ·subst hC
     go_wp2_with (go_at_call 80;refine (hex _).mono ?_;rintro e w4 ⟨rfl,hb4⟩;obtain ⟨hb14,ho4,hcv⟩:=HBr.out _ w4 hb4;have hcell:=ho4.cellAt vn (by omega);rw [show (ivals (setTo env r.sets k))[vn]? = some (.int .i64 ((setTo env r.sets k).getD vn 0)) by simp [ivals,List.getD_eq_getElem?_getD,setTo_length,hvn2]] at hcell;have hfz:=ho4.frozenAt vn;have hcv2:w4.cell? ⟨wr.heap.size,0,none⟩=some (.int .i64 vn):=(by rw [hcv];simp [go_sem]))
     refine ⟨⟨k+1,hlt,by first | rfl | simp,HOK2.out trivial,?_,hb14.setCell hgl _⟩,by simp [intOf];omega⟩
     have hst:=(ho4.stored vn (.int .i64 N)).1;rw [show (ivals (setTo env r.sets k)).set vn (.int .i64 N)=ivals (setTo env r.sets (k+1)) by rw [HStep.out];simp [ivals,List.map_set]] at hst
     exact hst
    ·have HRN:Hid (res=none):=HRk.out hC
     go_wp2_with (go_at_call 80;refine (hex _).mono ?_;rintro e w4 ⟨rfl,hb4⟩;obtain ⟨hb14,ho4,hcv⟩:=HBr.out _ w4 hb4)
     go_ret2
     exact ⟨by rw [HRes.out,HRN.out];rfl,HBW1.out.trans (hb14.mono HBW1.out.size)⟩
   ·have hkn:k=sn:=by omega
    subst hkn;have hbe:behindL env r=setTo env r.sets k:=by rw [HBL.out,HSN.out]
    have hrc:=HRC.out (fun j hj=>HOK.out j (by rw [HSN.out];exact hj))
    have ho:=HOwn.out;rw [<- hbe] at ho;have hlb:(behindL env r).length=env.length:=by rw [hbe,setTo_length]
    rw [<- hlb] at ho;have hba:=bare_any ao ro m.vars.length cap m.rules.length rc wr;have HI:Hid (∀ w',Below wr.heap.size wr w'->IntsV w' (.slice (some ⟨g,0,none⟩) (behindL env r).length gcap) (behindL env r)):=fun w' hb=>(intsV_of_owns ho).below hb
    rw [hlb] at HI;have hco:=fun w' (hb:Below wr.heap.size wr w')=>HCo.out w' (hbw.trans (hb.mono hbw.size)) _ _ (HI.out w' hb)
    have HBWr:Hid (Below w.heap.size w wr):=hbw;generalize cval ⟨m.vars,[]⟩ (behindL env r)=cv at hco hrc;generalize ccode ⟨m.vars,[]⟩ (behindL env r)=cc at hco hrc;obtain ⟨hrc0,hrc1⟩:=hrc;clear hbe ho hlb HI HRC HRS HEx HCo HS HSV k20 k21 k22 k10 k11 k12 hbel hbw hlt hk HOK HOwn
    by_cases hcc:cc=0
    ·have hrn:=hrc0 hcc
     subst hcc;have HRN:Hid (res=some cv):=hrn;clear hrc0 hrc1 hrn
     go_wp2_with (first | (go_at_call 63;refine hba.mono ?_;rintro e w5 ⟨rfl,hb5⟩) | (go_at_call 124;refine (hco _ hb5).mono ?_;rintro e w6 ⟨rfl,hb6⟩))
     go_ret2
     exact ⟨by rw [HRes.out,HRN.out];rfl,HBWr.out.trans ((hb5.trans (hb6.mono hb5.size)).mono HBWr.out.size)⟩
    ·have HRN:Hid (res=none):=hrc1 hcc
     clear hrc0 hrc1
     go_wp2_with (first | (go_at_call 63;refine hba.mono ?_;rintro e w5 ⟨rfl,hb5⟩) | (go_at_call 124;refine (hco _ hb5).mono ?_;rintro e w6 ⟨rfl,hb6⟩))
     go_ret2
     exact ⟨by rw [HRes.out,HRN.out];rfl,HBWr.out.trans ((hb5.trans (hb6.mono hb5.size)).mono HBWr.out.size)⟩
 ·have hgd2:holdsB r.guard env=false:=by simpa using hgd
  rw [hgd2] at hho;rw [ruleDo_guard hgd2]
  go_enter Tryz.func118,Tryz.ntmps118
  go_wp2_with (go_at_call 64;refine (hho _ (hA2 _ _)).mono ?_;rintro e w1 ⟨rfl,hb1⟩)
  go_ret2
  exact ⟨rfl,(hA2 _ _).trans (hb1.mono (hA2 _ _).size)⟩
theorem wcode_zero {m:Mo} {code:Int} (h:wcode m code=0):mcode m=0/\0 <= code/\code < prodTo m.vars m.vars.length:=by
 unfold wcode at h
 split at h
 ·rename_i h1
  split at h
  ·rename_i h2;exact ⟨h1,h2⟩
  ·cases h
 ·rename_i h1;exact absurd h h1
theorem svalues_any (va vr:Value) (m:Mo) (code:Int) (w:World) (hB:0 < w.heap.size) (hT:TabAt w) (hV:ModelV w va vr m) (h:wcode m code=0) :
  Calls Tryz.prog 62 #[.agg #[va,vr],.int .i64 code] w fun e w'=>∃ B,e=.returned (.tuple #[.slice (some ⟨B,0,none⟩) (valsL m.vars code).length (valsL m.vars code).length,.int .i64 0])/\w.heap.size <= B/\Below w.heap.size w w'/\w'.rowIs B 3 (valsL m.vars code).length (fun j=>.int .i64 ((valsL m.vars code).getD j 0)):=by
 obtain ⟨h1,h2⟩:=wcode_zero h;refine (mvalues_loop va vr m code w hB hT hV h1 h2).mono fun e w' ⟨B,he,hl,hb,hr⟩=>?_
 rw [<- valsL_length m.vars code] at he hr;refine ⟨B,he,hl,hb,hr.congr fun j hj=>?_⟩
 rw [valsL_length] at hj;simp [valsL,List.getD_eq_getElem?_getD,hj]
theorem TermsV.shape {w:World} {v:Value} {ts:List (List (Int × Int))} (h:TermsV w v ts):∃ ao cap,v=.slice ao ts.length cap:=by
 obtain ⟨ao,cap,h1,_⟩:=h;exact ⟨ao,cap,h1⟩
theorem TermsV.at {w:World} {ao:Option Addr} {cap n:Nat} {ts:List (List (Int × Int))} (h:TermsV w (.slice ao n cap) ts) {i:Nat} (hi:i < ts.length):∃ b off,ao=some ⟨b,off,none⟩/\b < w.heap.size/\∃ u,w.cell? ⟨b,off+i,none⟩=some u/\OpsV w u (ts.getD i []):=by
 obtain ⟨ao',cap',h1,h3⟩:=h
 injection h1 with e1 e2 e3
 subst e1;obtain ⟨b,off,e,hb,hh⟩:=h3 (by intro h;subst h;simp at hi)
 exact ⟨b,off,e,hb,hh i hi⟩
theorem mprops_loop (va vr pv:Value) (m:Mo) (ps:List (List (Int × Int))) (w:World) (hB:0 < w.heap.size) (hT:TabAt w) (hV:ModelV w va vr m) (hP:TermsV w pv ps) (h:mcode m=0) (hl6:ps.length <= 6) :
  Calls Tryz.prog 57 #[.agg #[va,vr],pv] w fun e w'=>e=.returned (.int .i64 (firstOf (fun i=>kcode m.vars.length (ps.getD i []) true) ps.length))/\Below w.heap.size w w':=by
 have hA:∀ o,Below w.heap.size w (w.alloc o):=fun o=>(Below.refl _ _).alloc (Nat.le_refl _) o
 have hch:=fun o=>mcheck_any va vr m (w.alloc o) (Nat.lt_of_lt_of_le hB (hA o).size) (hT.below (hA o) hB) (hV.below (hA o))
 rw [h] at hch;have h6:=(mcode_vars h).1;obtain ⟨ao,cap,rfl⟩:=hV.1.shape;obtain ⟨ro,rc,rfl⟩:=hV.2.shape;obtain ⟨po,pc,rfl⟩:=hP.shape;have HP:Hid (TermsV w (.slice po ps.length pc) ps):=hP;have HT:Hid (TabAt w):=hT;obtain ⟨n,hn⟩:∃ n,n=ps.length:=⟨_,rfl⟩
 have HN:Hid (n=ps.length):=hn;rw [<- hn] at hl6 HP ⊢;generalize m.vars.length=vn at *;generalize m.rules.length=rn at *;clear hV hT hP hn h;obtain ⟨f,hf⟩:∃ f:Nat->Int,f=fun i=>kcode vn (ps.getD i []) true:=⟨_,rfl⟩
 rw [<- hf];have HF:Hid (f=fun i=>kcode vn (ps.getD i []) true):=hf
 clear hf
 go_enter Tryz.func57,Tryz.ntmps57
 go_wp2_with (go_at_call 60;refine (hch _).mono ?_;rintro e w1 ⟨rfl,hb1⟩)
 have hb1':Below (w.heap.size+1) (w.alloc (.cells #[.slice ao vn cap,.slice ro rn rc] 30)) w1:=hb1.mono (by simp)
 clear hch hb1
 go_loopw [19] (fun i wr=>∃ k:Nat,k <= n/\i=.int .i64 k/\Hid (∀ j,j < k->f j=0)/\Below (w.heap.size+1) (w.alloc (.cells #[.slice ao vn cap,.slice ro rn rc] 30)) wr) (fun i _=>n - (intOf i).toNat)
 case atStart=>exact ⟨0,Nat.zero_le _,rfl,fun j hj=>by omega,hb1'⟩
 case round=>
  obtain ⟨k,hk,rfl,HJ,hbel⟩:=hrel;clear hb1';have hbw:=(hA _).trans (hbel.mono (Nat.le_succ _));have hszb:w.heap.size+1 <= wr.heap.size:=by have:=hbel.size;simp at this;omega
  have cb:=(hbel.cell (p:=⟨w.heap.size,0,none⟩) (by simp)).trans (show _=some (.slice ao vn cap) by simp [go_sem])
  by_cases hlt:k < n
  ·obtain ⟨b,off,rfl,hblt,u,c0',hO⟩:=HP.out.at (i:=k) (by rw [<- HN.out];exact hlt)
   have HFk:Hid (f k=kcode vn (ps.getD k []) true):=by show _=_;rw [HF.out]
   have HHit:Hid (∀ c,f k=c->c≠0->firstOf f n=c):=fun c h1 h2=>by rw [firstOf_hit hlt HJ.out (by rw [h1];exact h2),h1]
   have HStep:Hid (f k=0->∀ j,j < k+1->f j=0):=fun h0 j hj=>by
    by_cases hjk:j=k
    ·subst hjk;exact h0
    ·exact HJ.out j (by omega)
   generalize ps.getD k []=p at *;obtain ⟨ua,uc,rfl⟩:=hO.shape;have c0:=(hbw.cell (p:=⟨b,off+k,none⟩) hblt).trans c0';have hcm:=checkMakes_any _ p vn true wr (Nat.lt_of_lt_of_le hB hbw.size) (HT.out.below hbw hB) (hO.below hbw);generalize p.length=pn at *;obtain ⟨x,hx⟩:∃ x,kcode vn p true=x:=⟨_,rfl⟩
   rw [hx] at hcm HFk;clear HJ c0' hO hx HF
   by_cases hx0:x=0
   ·subst hx0
    have HJ2:=(show Hid _ from HStep.out HFk.out)
    clear HStep HHit HFk
    go_wp2_with (go_at_call 72;refine hcm.mono ?_;rintro e w3 ⟨rfl,hb3⟩)
    go_roundw
    case rel=>exact ⟨k+1,hlt,by go_num,HJ2,hbel.trans (hb3.mono hszb)⟩
    case measure=>simp [intOf];omega
   ·have HR:Hid (firstOf f n=x):=HHit.out x HFk.out hx0
    clear HStep HHit HFk
    go_wp2_with (go_at_call 72;refine hcm.mono ?_;rintro e w3 ⟨rfl,hb3⟩)
    go_ret
    rw [HR.out];exact ⟨rfl,hbw.trans (hb3.mono hbw.size)⟩
  ·have hkn:k=n:=by omega
   have HR:Hid (firstOf f n=0):=firstOf_none (fun j hj=>HJ.out j (by omega))
   go_wp2
   go_ret
   rw [HR.out];exact ⟨rfl,hbw⟩
theorem mprops_any (va vr pv:Value) (m:Mo) (ps:List (List (Int × Int))) (w:World) (hB:0 < w.heap.size) (hT:TabAt w) (hV:ModelV w va vr m) (hP:TermsV w pv ps) :
  Calls Tryz.prog 57 #[.agg #[va,vr],pv] w fun e w'=>e=.returned (.int .i64 (pcode m ps))/\Below w.heap.size w w':=by
 unfold pcode
 by_cases h:mcode m=0
 ·rw [if_pos h]
  by_cases h6:6 < ps.length
  ·rw [if_pos h6]
   have hA:∀ o,Below w.heap.size w (w.alloc o):=fun o=>(Below.refl _ _).alloc (Nat.le_refl _) o
   have hch:=fun o=>mcheck_any va vr m (w.alloc o) (Nat.lt_of_lt_of_le hB (hA o).size) (hT.below (hA o) hB) (hV.below (hA o))
   rw [h] at hch;obtain ⟨ao,cap,rfl⟩:=hV.1.shape;obtain ⟨ro,rc,rfl⟩:=hV.2.shape;obtain ⟨po,pc,rfl⟩:=hP.shape;generalize m.vars.length=vn at *;generalize m.rules.length=rn at *;generalize ps.length=n at *;clear hV hT hP h
   go_enter Tryz.func57,Tryz.ntmps57
   go_wp2_with (go_at_call 60;refine (hch _).mono ?_;rintro e w1 ⟨rfl,hb1⟩)
   go_ret
   exact ⟨rfl,(hA _).trans (hb1.mono (hA _).size)⟩
  ·rw [if_neg h6]
   exact mprops_loop va vr pv m ps w hB hT hV hP h (by omega)
 ·rw [if_neg h]
  have hA:∀ o,Below w.heap.size w (w.alloc o):=fun o=>(Below.refl _ _).alloc (Nat.le_refl _) o
  have hch:=fun o=>mcheck_any va vr m (w.alloc o) (Nat.lt_of_lt_of_le hB (hA o).size) (hT.below (hA o) hB) (hV.below (hA o))
  obtain ⟨ao,cap,rfl⟩:=hV.1.shape;obtain ⟨ro,rc,rfl⟩:=hV.2.shape;obtain ⟨po,pc,rfl⟩:=hP.shape;generalize mcode m=x at *;generalize m.vars.length=vn at *;generalize m.rules.length=rn at *;generalize ps.length=n at *;clear hV hT hP
  go_enter Tryz.func57,Tryz.ntmps57
  go_wp2_with (go_at_call 60;refine (hch _).mono ?_;rintro e w1 ⟨rfl,hb1⟩)
  go_ret
  exact ⟨rfl,(hA _).trans (hb1.mono (hA _).size)⟩
noncomputable def letC (m:Mo) (ps:List (List (Int × Int))) (code:Int):Int:=if pcode m ps=0 then wcode m code else pcode m ps
noncomputable def letL (m:Mo) (ps:List (List (Int × Int))) (code:Int):List Bool:=if letC m ps code=0 then ps.map (fun p=>holdsB p (valsL m.vars code)) else []
def RowTy (w:World) (v:Value) (t:TypeId):Prop:=∀ a n c,v=.slice (some a) n c->∃ cs fr,w.heap[a.block]? = some (.cells cs t fr)
theorem RowTy.nil (w:World) (t:TypeId):RowTy w (.slice none 0 0) t:=fun a n c e=>by simp at e
theorem pcode_m {m:Mo} {ps:List (List (Int × Int))} (h:pcode m ps=0):mcode m=0/\ps.length <= 6:=by
 unfold pcode at h
 split at h
 ·rename_i h1
  split at h
  ·simp at h
  ·exact ⟨h1,by omega⟩
 ·rename_i h1;exact absurd h h1
theorem wcode_bare {m:Mo} (code:Int) (h:mcode m=0):wcode ⟨m.vars,[]⟩ code=wcode m code:=by
 unfold wcode;rw [if_pos h,if_pos (mcode_bare h)]
theorem letter_own (va vr pv:Value) (m:Mo) (ps:List (List (Int × Int))) (code:Int) (w:World) (hB:0 < w.heap.size) (hT:TabAt w) (hV:ModelV w va vr m) (hP:TermsV w pv ps) :
  Calls Tryz.prog 45 #[.agg #[va,vr],pv,.int .i64 code] w fun e w'=>∃ v,e=.returned (.tuple #[v,.int .i64 (letC m ps code)])/\Below w.heap.size w w'/\BoolsV w' v (letL m ps code)/\RowTy w' v 4:=by
 have hA:∀ o,Below w.heap.size w (w.alloc o):=fun o=>(Below.refl _ _).alloc (Nat.le_refl _) o
 have hpr:=fun o=>mprops_any va vr pv m ps (w.alloc o) (Nat.lt_of_lt_of_le hB (hA o).size) (hT.below (hA o) hB) (hV.below (hA o)) (hP.below (hA o))
 obtain ⟨ao,cap,rfl⟩:=hV.1.shape;obtain ⟨ro,rc,rfl⟩:=hV.2.shape;obtain ⟨po,pc,rfl,hPa⟩:=hP;have hba:=fun w=>bare_any ao ro m.vars.length cap m.rules.length rc w
 by_cases hp:pcode m ps=0
 ·obtain ⟨hm,hp6⟩:=pcode_m hp
  rw [hp] at hpr;have hVb:∀ w',Below w.heap.size w w'->ModelV w' (.slice ao m.vars.length cap) (.slice none 0 0) ⟨m.vars,[]⟩:=fun w' hb=>⟨hV.1.below hb,⟨none,0,rfl,⟨by simp,fun _=>⟨rfl,rfl⟩⟩,fun h=>by simp at h⟩⟩
  by_cases hw:wcode m code=0
  ·have hlc:letC m ps code=0:=by unfold letC;rw [if_pos hp,hw]
   have hll:letL m ps code=ps.map (fun p=>holdsB p (valsL m.vars code)):=by unfold letL;rw [if_pos hlc]
   rw [hlc,hll];have hvl:=fun w' (hb:Below w.heap.size w w')=>svalues_any _ _ ⟨m.vars,[]⟩ code w' (Nat.lt_of_lt_of_le hB hb.size) (hT.below hb hB) (hVb w' hb) (by rw [wcode_bare _ hm];exact hw)
   have hvl2:∀ w',Below w.heap.size w w'->Calls Tryz.prog 62 #[.agg #[.slice ao m.vars.length cap,.slice none 0 0],.int .i64 code] w' fun e w2=>∃ B,e=.returned (.tuple #[.slice (some ⟨B,0,none⟩) (valsL m.vars code).length (valsL m.vars code).length,.int .i64 0])/\w'.heap.size <= B/\Below w'.heap.size w' w2/\w2.rowIs B 3 (valsL m.vars code).length (fun j=>.int .i64 ((valsL m.vars code).getD j 0)):=hvl
   generalize valsL m.vars code=env at hvl2 ⊢;have HHo:Hid (∀ w' (_:Below w.heap.size w w') v ev l,OpsV w' v l->IntsV w' ev env->Calls Tryz.prog 64 #[v,ev] w' fun e w2=>e=.returned (.bool (holdsB l env))/\Below w'.heap.size w' w2):=fun w' hb v ev l h1 h2=>sholds_any v ev l env w' (Nat.lt_of_lt_of_le hB hb.size) (hT.below hb hB) h1 h2
   have HP:Hid (ps≠[]->∃ b off,po=some ⟨b,off,none⟩/\b < w.heap.size/\∀ i,i < ps.length->∃ u,w.cell? ⟨b,off+i,none⟩=some u/\OpsV w u (ps.getD i [])):=hPa
   have HML:Hid ((ps.map (fun p=>holdsB p env)).length=ps.length/\∀ i,i < ps.length->(ps.map (fun p=>holdsB p env)).getD i false=holdsB (ps.getD i []) env):=⟨by simp,fun i hi=>by simp [List.getD_eq_getElem?_getD,hi]⟩
   generalize ps.map (fun p=>holdsB p env)=lt at HML ⊢
   obtain ⟨pn,hpn⟩:∃ pn,pn=ps.length:=⟨_,rfl⟩
   have HPN:Hid (pn=ps.length):=hpn;rw [<- hpn] at hpr hp6 HP HML ⊢;generalize m.vars.length=n at *;generalize m.rules.length=rn at *;have hmk:=run_make_row' (P:=Tryz.prog) 100 4 (.bool false) 1 Tryz.underlying100 infoBool rfl .i64 .i64 pn (by omega) (by omega)
   clear hV hT hVb hlc hll hPa hvl hpn hw hm hp
   go_enter Tryz.func45,Tryz.ntmps45
   go_wp2_with (first | (go_at_call 57;refine (hpr _).mono ?_;rintro e w1 ⟨rfl,hb1⟩;have hbw1:=(hA _).trans (hb1.mono (hA _).size);have k10:w1.cell? ⟨w.heap.size,0,none⟩=some (.slice ao n cap):=(hb1.cell (p:=⟨w.heap.size,0,none⟩) (by simp)).trans (by simp [go_sem]);have k11:w1.cell? ⟨w.heap.size,1,none⟩=some (.slice ro rn rc):=(hb1.cell (p:=⟨w.heap.size,1,none⟩) (by simp)).trans (by simp [go_sem])) | (go_at_call 63;refine (hba _).mono ?_;rintro e w2 ⟨rfl,hb2⟩;have hbw2:=hbw1.trans (hb2.mono hbw1.size)) | (go_at_call 62;refine (hvl2 _ hbw2).mono ?_;rintro e w3 ⟨B,rfl,hBl,hb3,hr3⟩))
   have hbw3:=hbw2.trans (hb3.mono hbw2.size);have hrow0:=World.rowIs_made w3 (.bool false) pn 4
   have HI3:Hid (∀ w',Below w3.heap.size w3 w'->IntsV w' (.slice (some ⟨B,0,none⟩) env.length env.length) env):=fun w' hb=>by
    have h1:=intsV_of_row hr3
    have e1:(List.range env.length).map (fun j=>env.getD j 0)=env:=by
     apply List.ext_getElem?
     intro i
     by_cases hi:i < env.length
     ·simp [hi,List.getD_eq_getElem?_getD]
     ·simp [hi]
    rw [e1] at h1;exact h1.below hb
   have HB3:Hid (Below w.heap.size w w3):=hbw3;clear hpr hvl2 hba hmk hb1 hbw1 k10 k11 hb2 hbw2 hb3 hr3 hbw3 hBl
   go_loopw [35] (fun i wr=>∃ k:Nat,k <= pn/\i=.int .i64 k/\Hid (wr.rowIs w3.heap.size 4 pn (fun j=>if j < k then .bool (lt.getD j false) else .bool false))/\Hid (Below w3.heap.size w3 wr)) (fun i _=>pn - (intOf i).toNat)
   case atStart=>exact ⟨0,Nat.zero_le _,rfl,hrow0.congr (fun i hi=>by rw [if_neg (by omega)]),(Below.refl _ _).alloc (Nat.le_refl _) _⟩
   case round=>
    obtain ⟨k,hk,rfl,HRow,HBel⟩:=hrel;have hbel:=HBel.out;have hbw:=HB3.out.trans (hbel.mono HB3.out.size)
    by_cases hlt:k < pn
    ·obtain ⟨b,off,rfl,hblt,hat⟩:=HP.out (by intro h;have:=HPN.out;subst h;simp at this;omega)
     obtain ⟨u,hu,hou⟩:=hat k hlt;have c0:=(hbel.cell (p:=⟨b,off+k,none⟩) (Nat.lt_of_lt_of_le hblt HB3.out.size)).trans ((HB3.out.cell (p:=⟨b,off+k,none⟩) hblt).trans hu);obtain ⟨uo,uc,rfl⟩:=hou.shape;have hho:=HHo.out wr hbw _ _ _ (hou.below hbw) (HI3.out wr hbel);have HLk:=(show Hid _ from HML.out.2 k hlt)
     generalize holdsB (ps.getD k []) env=tv at hho HLk;generalize (ps.getD k []).length=ul at *;have HWr:Hid (∀ w4,Below wr.heap.size wr w4->w4.rowIs w3.heap.size 4 pn (fun j=>if j < k then .bool (lt.getD j false) else .bool false)/\Below w3.heap.size w3 w4):=fun w4 hb=>⟨row_later HRow.out hb,hbel.trans (hb.mono hbel.size)⟩
     clear hat hu hou hbel hbw HHo HI3 HP HML
     go_wp2_with (go_at_call 64;refine hho.mono ?_;rintro e w4 ⟨rfl,hb4⟩;obtain ⟨hr4,hb34⟩:=HWr.out w4 hb4;have hf:=hr4.frozen k;have hc:w4.cell? ⟨w3.heap.size,k,none⟩=some (.bool false):=(by rw [hr4.cell hlt,if_neg (by omega)]);have HR4:Hid (w4.rowIs w3.heap.size 4 pn (fun j=>if j < k then .bool (lt.getD j false) else .bool false)):=hr4;clear hr4)
     refine ⟨⟨k+1,hlt,by first | rfl | simp,(HR4.out.set k (.bool tv)).congr fun i hi=>?_,hb34.setCell (Nat.le_refl _) _⟩,by simp [intOf];omega⟩
     by_cases hik:i=k
     ·subst hik;rw [if_pos rfl,if_pos (by omega),HLk.out]
     ·rw [if_neg hik]
      by_cases hlk:i < k
      ·rw [if_pos hlk,if_pos (by omega)]
      ·rw [if_neg hlk,if_neg (by omega)]
    ·have hkn:k=pn:=by omega
     subst hkn;have hrow:=HRow.out.congr (g:=fun j=>.bool (lt.getD j false)) (fun i hi=>by rw [if_pos hi])
     rw [<- HML.out.1] at hrow;have hbo:=boolsV_of_row hrow;rw [HML.out.1] at hbo;have HBO:=(show Hid _ from hbo)
     have HTy:Hid (RowTy wr (.slice (some ⟨w3.heap.size,0,none⟩) k k) 4):=by
      intro a n c e
      injection e with e _ _
      injection e with e
      subst e;obtain ⟨cs,hcs,_⟩:=HRow.out;exact ⟨cs,(0,0),hcs⟩
     clear hrow hbo
     go_wp2_with fail
     go_ret2
     exact ⟨_,rfl,hbw,HBO.out,HTy.out⟩
  ·have hlc:letC m ps code=wcode m code:=by unfold letC;rw [if_pos hp]
   have hll:letL m ps code=[]:=by unfold letL;rw [if_neg (by rw [hlc];exact hw)]
   rw [hlc,hll];have hvl:=fun w' (hb:Below w.heap.size w w')=>mvalues_any _ _ ⟨m.vars,[]⟩ code w' (Nat.lt_of_lt_of_le hB hb.size) (hT.below hb hB) (hVb w' hb)
   rw [wcode_bare _ hm] at hvl;generalize wcode m code=c at *;generalize wvals ⟨m.vars,[]⟩ code=vs at *;generalize m.vars.length=n at *;generalize m.rules.length=rn at *;generalize ps.length=pn at *;clear hV hT hVb hlc hll hPa
   go_enter Tryz.func45,Tryz.ntmps45
   go_wp2_with (first | (go_at_call 57;refine (hpr _).mono ?_;rintro e w1 ⟨rfl,hb1⟩;have hbw1:=(hA _).trans (hb1.mono (hA _).size);have k10:w1.cell? ⟨w.heap.size,0,none⟩=some (.slice ao n cap):=(hb1.cell (p:=⟨w.heap.size,0,none⟩) (by simp)).trans (by simp [go_sem]);have k11:w1.cell? ⟨w.heap.size,1,none⟩=some (.slice ro rn rc):=(hb1.cell (p:=⟨w.heap.size,1,none⟩) (by simp)).trans (by simp [go_sem])) | (go_at_call 63;refine (hba _).mono ?_;rintro e w2 ⟨rfl,hb2⟩;have hbw2:=hbw1.trans (hb2.mono hbw1.size)) | (go_at_call 62;refine (hvl _ hbw2).mono ?_;rintro e w3 ⟨v,rfl,hb3,_⟩))
   go_ret2
   exact ⟨_,rfl,hbw2.trans (hb3.mono hbw2.size),⟨none,0,rfl,fun h=>absurd rfl h⟩,RowTy.nil _ _⟩
 ·have hlc:letC m ps code=pcode m ps:=by unfold letC;rw [if_neg hp]
  have hll:letL m ps code=[]:=by unfold letL;rw [if_neg (by rw [hlc];exact hp)]
  rw [hlc,hll];generalize pcode m ps=c at *;generalize m.vars.length=n at *;generalize m.rules.length=rn at *;generalize ps.length=pn at *;clear hV hT hlc hll hPa
  go_enter Tryz.func45,Tryz.ntmps45
  go_wp2_with (go_at_call 57;refine (hpr _).mono ?_;rintro e w1 ⟨rfl,hb1⟩)
  go_ret2
  exact ⟨_,rfl,(hA _).trans (hb1.mono (hA _).size),⟨none,0,rfl,fun h=>absurd rfl h⟩,RowTy.nil _ _⟩
theorem letter_any (va vr pv:Value) (m:Mo) (ps:List (List (Int × Int))) (code:Int) (w:World) (hB:0 < w.heap.size) (hT:TabAt w) (hV:ModelV w va vr m) (hP:TermsV w pv ps) :
  Calls Tryz.prog 45 #[.agg #[va,vr],pv,.int .i64 code] w fun e w'=>∃ v,e=.returned (.tuple #[v,.int .i64 (letC m ps code)])/\Below w.heap.size w w'/\BoolsV w' v (letL m ps code):=
 (letter_own va vr pv m ps code w hB hT hV hP).mono fun _ _ ⟨v,h1,h2,h3,_⟩=>⟨v,h1,h2,h3⟩
end Go.Proofs.YtfnobbpbmelgnaaGreatDoor
namespace Go.Proofs.YtfnobbpbmelgnaaGreatDoor
open Go.ChangeShapes Go.WideShapes Go.ChangeAt Go.RowKit Go.Deep
open Terms
set_option maxHeartbeats 6400000
set_option maxRecDepth 20000
theorem take_flat {ts:List (List (Int × Int))} {i:Nat} (hi:i < ts.length):(ts.take (i+1)).flatten=(ts.take i).flatten++ts.getD i []:=by
 rw [List.take_succ_eq_append_getElem hi,List.flatten_append];simp [List.getD_eq_getElem?_getD,hi]
theorem joined_any (kind:Int) (v:Value) (ts:List (List (Int × Int))) (w:World) (hn:ts.length <= 10) (hl:∀ i,i <= ts.length->(ts.take i).flatten.length <= 200) (hne:∀ i,i < ts.length->ts.getD i []≠[]) (hV:TermsV w v ts) :
  Calls Tryz.prog 21 #[.int .i64 kind,v] w fun e w'=>∃ v',e=.returned v'/\Below w.heap.size w w'/\w'.ownsRow w.heap.size 50 2 v' ((kind,0):: ts.flatten).length (flat ((kind,0):: ts.flatten)):=by
 obtain ⟨i0,hi,hz0,hz1,hz2⟩:=info_parts infoOp;obtain ⟨va,vc,rfl,hat⟩:=hV;obtain ⟨n,hnn⟩:∃ n,n=ts.length:=⟨_,rfl⟩
 have HN:Hid (n=ts.length):=hnn;have HL:=(show Hid _ from hl)
 have HNE:=(show Hid _ from hne)
 have HA:=(show Hid _ from hat)
 rw [<- hnn] at hn ⊢;clear hl hne hat hnn
 go_enter Tryz.func21,Tryz.ntmps21
 go_wp2_with fail
 go_loopw [5,6] (fun out c wr=>∃ i:Nat,i <= n/\c=.int .i64 i/\wr.ownsRow w.heap.size 50 2 out ((ts.take i).flatten.length+1) (flat ((kind,0):: (ts.take i).flatten))/\Below w.heap.size w wr) (fun _ c _=>n - (intOf c).toNat)
 case atStart=>exact ⟨0,Nat.zero_le _,rfl,World.ownsRow_lit w #[.int .i64 kind,.int .i64 0] 1 (Nat.le_refl _) (by unfold maxLen;omega) rfl,(Below.refl _ _).alloc (Nat.le_refl _) _⟩
 case round=>
  obtain ⟨i,hile,rfl,hown,hbel⟩:=hrel
  by_cases hlt:i < n
  ·have hlt':i < ts.length:=by rw [<- HN.out];exact hlt
   obtain ⟨b,off,rfl,hbl,hcs⟩:=HA.out (by intro h;rw [h] at hlt';simp at hlt')
   obtain ⟨u,hu,hou⟩:=hcs i hlt';have hcu:=(hbel.cell (p:=⟨b,off+i,none⟩) hbl).trans hu;obtain ⟨ua,uc,hus,_,huat⟩:=hou.below hbel;obtain ⟨ub,uoff,rfl,hubl,huat⟩:=huat (HNE.out i hlt');have HS:Hid ((ts.take (i+1)).flatten=(ts.take i).flatten++ts.getD i []):=take_flat hlt';have hl1:=HL.out (i+1) (by omega)
   rw [HS.out,List.length_append] at hl1;have HC:Hid (∀ j x,(flat (ts.getD i []))[j]? = some x->wr.cell? ((⟨ub,uoff,none⟩:Addr).add j)=some x):=huat.cells
   obtain ⟨m,hm⟩:∃ m,m=(ts.getD i []).length:=⟨_,rfl⟩
   have HM:Hid (m=(ts.getD i []).length):=hm;rw [<- hm] at hus hl1;subst hus;obtain ⟨q,hq⟩:∃ q,q=(ts.take i).flatten.length:=⟨_,rfl⟩
   have HQ:Hid (q=(ts.take i).flatten.length):=hq;rw [<- hq] at hown hl1;clear hou hu hcs huat hm hq hlt';generalize ts.getD i []=tt at HC HM HS
   go_wp2_with (at_builtin;refine wpList_append_own _ rfl (.tmp 16) (.tmp 20) 32 rfl w.heap.size 50 i0 (.agg #[.int .i64 0,.int .i64 0]) 2 16 Tryz.underlying32 hi hz0 hz1 hz2 rfl (by decide) _ _ _ rfl hown ⟨ub,uoff,none⟩ m uc (flat tt) rfl ?c0 HC.out (flat_one _) ?c3 ?c4 ?c5 ?_)
   case c0=>rw [flat_length,HM.out]
   case c3=>unfold maxLen;omega
   case c4=>omega
   case c5=>exact hbel.size
   intro v' w4 hown' hgrow _;have hb4:Below w.heap.size w w4:=hbel.grown hgrow hbel.size (fun k hk=>(hown.lt k hk).1)
   have ho4:w4.ownsRow w.heap.size 50 2 v' ((ts.take (i+1)).flatten.length+1) (flat ((kind,0):: (ts.take (i+1)).flatten)):=by
    have e1:(ts.take (i+1)).flatten.length+1=q+1+m:=by rw [HS.out,List.length_append,<- HQ.out,<- HM.out];omega
    have e2:flat ((kind,0):: (ts.take (i+1)).flatten)=flat ((kind,0):: (ts.take i).flatten)++flat tt:=by rw [HS.out,<- flat_append];rfl
    rw [e1,e2];exact hown'
   clear hown' hgrow hown
   go_wp2
   go_roundw
   case rel=>exact ⟨i+1,by omega,by go_num,ho4,hb4⟩
   case measure=>simp [intOf];omega
  ·have hin:i=n:=by omega
   subst hin;rw [show ts.take i=ts by rw [HN.out,List.take_length]] at hown
   clear hlt hile
   go_wp2_with fail
   go_ret
   exact ⟨_,rfl,hbel,hown⟩
theorem joined2 (kind:Int) (g:Nat) (lv mv:Value) (l m:List (Int × Int)) (w:World) (hc:w.cell? ⟨g,0,none⟩=some lv) (hd:w.cell? ⟨g,1,none⟩=some mv) (hl:l.length <= 60) (hm:m.length <= 60) (hne:l≠[]) (hne2:m≠[]) (hV:OpsV w lv l) (hM:OpsV w mv m) :
  Calls Tryz.prog 21 #[.int .i64 kind,.slice (some ⟨g,0,none⟩) 2 2] w fun e w'=>∃ a c,e=.returned (.slice a ((kind,0):: (l++m)).length c)/\Below w.heap.size w w'/\OpsV w' (.slice a ((kind,0):: (l++m)).length c) ((kind,0):: (l++m)):=by
 have hT:TermsV w (.slice (some ⟨g,0,none⟩) 2 2) [l,m]:=⟨_,2,rfl,fun _=>⟨g,0,rfl,World.block_lt_of_cell? w ⟨g,0,none⟩ hc,fun i hi=>by
  have:i=0\/i=1:=by simp at hi;omega
  rcases this with rfl | rfl
  ·exact ⟨lv,hc,hV⟩
  ·exact ⟨mv,hd,hM⟩⟩⟩
 refine (joined_any kind _ [l,m] w (by simp) (fun i hi=>?_) (fun i hi=>?_) hT).mono fun e w' ⟨v',he,hb,ho⟩=>?_
 ·have:i=0\/i=1\/i=2:=by simp at hi;omega
  rcases this with rfl | rfl | rfl <;> simp <;> omega
 ·have:i=0\/i=1:=by simp at hi;omega
  rcases this with rfl | rfl
  ·exact hne
  ·exact hne2
 ·have h2:[l,m].flatten=l++m:=by simp
  rw [h2] at ho;obtain ⟨a,c,rfl⟩:=owns_slice ho;exact ⟨a,c,he,hb,opsV_of_owns ho⟩
end Go.Proofs.YtfnobbpbmelgnaaGreatDoor
namespace Go.Proofs.YtfnobbpbmelgnaaGreatDoor
open Go.ChangeShapes Go.WideShapes Go.ChangeAt Go.RowKit Go.Deep
open Terms Tm
set_option maxHeartbeats 6400000
set_option maxRecDepth 20000
def tp0:Tm:=.bi 7 0 (.leaf 2 0) (.leaf 1 1)
def tp1:Tm:=.bi 7 0 (.leaf 2 0) (.leaf 2 1)
def tp2:Tm:=.bi 6 0 (.leaf 2 0) (.leaf 2 1)
def propsL:List (List (Int × Int)):=[[(7,0),(2,0),(1,1)],[(7,0),(2,0),(2,1)],[(6,0),(2,0),(2,1)]]
theorem tp0_good:tp0.Good 2:=⟨by decide,by decide,rfl,.inr (.inl ⟨rfl,by decide,by decide⟩),.inl ⟨rfl,by decide,by decide⟩⟩
theorem tp1_good:tp1.Good 2:=⟨by decide,by decide,rfl,.inr (.inl ⟨rfl,by decide,by decide⟩),.inr (.inl ⟨rfl,by decide,by decide⟩)⟩
theorem tp2_good:tp2.Good 2:=⟨by decide,by decide,rfl,.inr (.inl ⟨rfl,by decide,by decide⟩),.inr (.inl ⟨rfl,by decide,by decide⟩)⟩
theorem prop_code {T:Tm} (hg:T.Good 2) (h60:T.size <= 60) (ht:T.typed=true) (hk:mkT T.kind=true):kcode 2 T.ops true=0:=by
 rw [kcode_tree (by decide) (by decide) hg h60 ht,if_pos hk]
theorem props_code {m:Mo} (hm:mcode m=0) (hv:m.vars.length=2):pcode m propsL=0:=by
 unfold pcode;rw [if_pos hm,if_neg (by decide)]
 refine firstOf_none fun j hj=>?_
 rw [hv];have:j=0\/j=1\/j=2:=by simp [propsL] at hj;omega
 rcases this with rfl | rfl | rfl
 ·exact prop_code tp0_good (by decide) (by decide) (by decide)
 ·exact prop_code tp1_good (by decide) (by decide) (by decide)
 ·exact prop_code tp2_good (by decide) (by decide) (by decide)
section
variable {a b : Vr} {w : World} {va vr pv : Value}
end
theorem ops_one (w:World) (k v:Int):OpsV (w.alloc (.cells #[.int .i64 k,.int .i64 v] 50)) (.slice (some ⟨w.heap.size,0,none⟩) 1 1) [(k,v)]:=by
 refine ⟨_,1,rfl,⟨Nat.le_refl _,fun h=>by cases h⟩,fun _=>⟨w.heap.size,0,rfl,by simp,fun i hi=>?_⟩⟩
 obtain rfl:i=0:=by simpa using hi
 constructor <;> simp [go_sem]
theorem OpsV.al {w:World} {v:Value} {l:List (Int × Int)} (h:OpsV w v l) (o:Obj):OpsV (w.alloc o) v l:=h.below ((Below.refl _ _).alloc (Nat.le_refl _) o)
theorem propsFn_any (w:World) :
  Calls Tryz.prog 13 #[] w fun e w'=>∃ pb,e=.returned (.slice (some ⟨pb,0,none⟩) 3 3)/\Below w.heap.size w w'/\TermsV w' (.slice (some ⟨pb,0,none⟩) 3 3) propsL:=by
 have tk1:=True.intro;have tk2:=True.intro;have tk3:=True.intro;have hA:∀ o1 o2 o3 o4,Below w.heap.size w ((((w.alloc o1).alloc o2).alloc o3).alloc o4):=fun o1 o2 o3 o4=>((((Below.refl _ _).alloc (Nat.le_refl _) _).alloc (by simp) _).alloc (by simp;omega) _).alloc (by simp;omega) _
 have hX:∀ o2 o3 o4,OpsV ((((w.alloc (.cells #[.int .i64 2,.int .i64 0] 50)).alloc o2).alloc o3).alloc o4) (.slice (some ⟨w.heap.size,0,none⟩) 1 1) [(2,0)]:=fun o2 o3 o4=>(((ops_one w 2 0).al o2).al o3).al o4
 have hY:∀ o1 o3 o4,OpsV ((((w.alloc o1).alloc (.cells #[.int .i64 2,.int .i64 1] 50)).alloc o3).alloc o4) (.slice (some ⟨w.heap.size+1,0,none⟩) 1 1) [(2,1)]:=fun o1 o3 o4=>by
  have:=((ops_one (w.alloc o1) 2 1).al o3).al o4;rw [World.size_alloc] at this;exact this
 have hN:∀ o1 o2 o4,OpsV ((((w.alloc o1).alloc o2).alloc (.cells #[.int .i64 1,.int .i64 1] 50)).alloc o4) (.slice (some ⟨w.heap.size+1+1,0,none⟩) 1 1) [(1,1)]:=fun o1 o2 o4=>by
  have:=(ops_one ((w.alloc o1).alloc o2) 1 1).al o4;rw [World.size_alloc,World.size_alloc] at this;exact this
 go_enter Tryz.func13,Tryz.ntmps13
 go_wp2_with (first | (clear tk1;go_at_call 21;refine (joined2 7 _ (.slice (some ⟨w.heap.size,0,none⟩) 1 1) (.slice (some ⟨w.heap.size+1+1,0,none⟩) 1 1) [(2,0)] [(1,1)] _ (by simp [go_sem]) (by simp [go_sem]) (by simp) (by simp) (by simp) (by simp) (hX _ _ _) (hN _ _ _)).mono ?_;rintro e w5 ⟨a1,c1,rfl,hb5,hp1⟩;have hx5:=(hX _ _ _).below hb5;have hy5:=(hY _ _ _).below hb5;have hbw5:=(hA _ _ _ _).trans (hb5.mono (hA _ _ _ _).size)) | (clear tk2;go_at_call 21;refine (joined2 7 _ (.slice (some ⟨w.heap.size,0,none⟩) 1 1) (.slice (some ⟨w.heap.size+1,0,none⟩) 1 1) [(2,0)] [(2,1)] _ (by simp [go_sem]) (by simp [go_sem]) (by simp) (by simp) (by simp) (by simp) (hx5.al _) (hy5.al _)).mono ?_;rintro e w6 ⟨a2,c2,rfl,hb6,hp2⟩;have hx6:=(hx5.al _).below hb6;have hy6:=(hy5.al _).below hb6;have hq6:=(hp1.al _).below hb6) | (clear tk3;go_at_call 21;refine (joined2 6 _ (.slice (some ⟨w.heap.size,0,none⟩) 1 1) (.slice (some ⟨w.heap.size+1,0,none⟩) 1 1) [(2,0)] [(2,1)] _ (by simp [go_sem]) (by simp [go_sem]) (by simp) (by simp) (by simp) (by simp) (hx6.al _) (hy6.al _)).mono ?_;rintro e w7 ⟨a3,c3,rfl,hb7,hp3⟩;have hq7:=(hq6.al _).below hb7;have hr7:=(hp2.al _).below hb7))
 go_ret
 have h6:Below w.heap.size w w6:=(hbw5.alloc hbw5.size _).trans (hb6.mono (hbw5.alloc hbw5.size _).size);have h7:Below w.heap.size w w7:=(h6.alloc h6.size _).trans (hb7.mono (h6.alloc h6.size _).size);refine ⟨w7.heap.size,rfl,h7.alloc h7.size _,_,3,rfl,fun _=>⟨w7.heap.size,0,rfl,by simp,fun i hi=>?_⟩⟩
 have:i=0\/i=1\/i=2:=by simp [propsL] at hi;omega
 rcases this with rfl | rfl | rfl
 ·exact ⟨_,by simp [go_sem],hq7.al _⟩
 ·exact ⟨_,by simp [go_sem],hr7.al _⟩
 ·exact ⟨_,by simp [go_sem],hp3.al _⟩
end Go.Proofs.YtfnobbpbmelgnaaGreatDoor
namespace Go.Proofs.YtfnobbpbmelgnaaGreatDoor
open Go.ChangeShapes Go.WideShapes Go.ChangeAt Go.RowKit Go.Deep
open Terms
set_option maxHeartbeats 6400000
set_option maxRecDepth 20000
inductive ForT (props:Int):Nat->List (Int × Int)->Prop
 | prop (v:Int):0 <= v->v < props->ForT props 0 [(13,v)]
 | not (m:Nat) (a:List (Int × Int)):ForT props m a->ForT props m ((10,0):: a)
 | bin (m n:Nat) (k:Int) (a b:List (Int × Int)):8 <= k->k <= 9->ForT props m a->ForT props n b->ForT props (m+n) ((k,0):: (a++b))
 | tun (m:Nat) (k:Int) (a:List (Int × Int)):k=14\/k=17\/k=18->ForT props m a->ForT props (m+1) ((k,0):: a)
 | tbi (m n:Nat) (k:Int) (a b:List (Int × Int)):15 <= k->k <= 16->ForT props m a->ForT props n b->ForT props (m+n+1) ((k,0):: (a++b))
theorem GrownAt.factsF {w:World} {G:Nat} {rawv:Value} {at':Nat} {vars props tempo:Int} {l:List (Int × Int)} (h:GrownAt w G rawv at' vars props tempo l) :
  w.cell? ⟨G,1,none⟩=some (.int .i64 at')/\w.cell? ⟨G,3,none⟩=some (.int .i64 props)/\w.cell? ⟨G,4,none⟩=some (.int .i64 tempo)/\w.frozen? ⟨G,4,none⟩=false/\G < w.heap.size:=by
 obtain ⟨outv,hh,ho⟩:=h;obtain ⟨_,a,b,_,f,c⟩:=gcells hh;exact ⟨a,by simp [World.cell?,hh],by simp [World.cell?,hh],f 4,c⟩
theorem GrownAt.setTempo {w:World} {G:Nat} {rawv:Value} {at':Nat} {vars props tempo:Int} {l:List (Int × Int)} (h:GrownAt w G rawv at' vars props tempo l) (n:Int):GrownAt (w.setCell ⟨G,4,none⟩ (.int .i64 n)) G rawv at' vars props n l:=by
 obtain ⟨outv,hh,ho⟩:=h;refine ⟨outv,by simp [World.setCell,Array.getElem?_modify,hh],?_⟩
 exact ownsRow_setCell_below ho (by simp) _
def GrewF (G:Nat) (rawv:Value) (at':Nat) (vars props:Int) (tempo:Nat) (l:List (Int × Int)) (d:Nat) (w:World) (e:Ending) (w':World):Prop:=
 ∃ t m,e=.returned (.tuple #[])/\ForT props m t/\m <= tempo/\(at' + t.length <= at' + 1\/at' + t.length <= 13+d)/\t.length+1 <= 2 ^ (d+1)/\GrownAt w' G rawv (at' + t.length) vars props ((tempo - m:Nat):Int) (l++t)/\Below G w w'
theorem two_le (d:Nat):2 <= 2 ^ (d+1):=by
 have:2 ^ (d+1)=2*2 ^ d:=by rw [Nat.pow_succ,Nat.mul_comm]
 have:0 < 2 ^ d:=Nat.two_pow_pos d;omega
theorem prop_end {G:Nat} {rawv:Value} {at':Nat} {vars props:Int} {tempo:Nat} {q:Int} {l:List (Int × Int)} {d:Nat} {w w5:World} (h0:0 <= q) (h1:q < props) (hb:Below G w w5) (hg:GrownAt w5 G rawv (at' + 1) vars props (tempo:Int) (l++[(13,q)])):GrewF G rawv at' vars props tempo l d w (.returned (.tuple #[])) w5:=
 ⟨[(13,q)],0,rfl,.prop _ h0 h1,Nat.zero_le _,.inl (by simp),by have:=two_le d;simpa using this,by simpa using hg,hb⟩
theorem notF_end {G:Nat} {rawv:Value} {at':Nat} {vars props:Int} {tempo m:Nat} {l:List (Int × Int)} {d:Nat} {w w5:World} {ta:List (Int × Int)} (hta:ForT props m ta) (hm:m <= tempo)
  (hn:at' + 1+ta.length <= 13+(d+1)) (h2:ta.length+1 <= 2 ^ (d+1)) (hb:Below G w w5) (hg:GrownAt w5 G rawv (at' + 1+ta.length) vars props ((tempo - m:Nat):Int) (l++[(10,0)]++ta)):GrewF G rawv at' vars props tempo l (d+1) w (.returned (.tuple #[])) w5:=by
 have e1:at' + ((10,(0:Int)):: ta:List (Int × Int)).length=at' + 1+ta.length:=by simp;omega
 have e2:l++(10,(0:Int)):: ta=l++[(10,0)]++ta:=by simp
 have e3:2 ^ (d+1+1)=2*2 ^ (d+1):=by rw [Nat.pow_succ,Nat.mul_comm]
 refine ⟨(10,0):: ta,m,rfl,.not _ _ hta,hm,?_,?_,?_,hb⟩
 ·rw [e1];omega
 ·simp only [List.length_cons];rw [e3];omega
 ·rw [e1,e2];exact hg
theorem binF_end {G:Nat} {rawv:Value} {at':Nat} {vars props:Int} {tempo m n:Nat} {K:Int} {l:List (Int × Int)} {d:Nat} {w w5:World} {ta tb:List (Int × Int)} (hta:ForT props m ta) (htb:ForT props n tb) (h8:8 <= K) (h9:K <= 9) (hm:m <= tempo) (hn':n <= tempo - m)
  (hn:at' + 1+ta.length+tb.length <= 13+(d+1)) (h2:ta.length+1 <= 2 ^ (d+1)) (h3:tb.length+1 <= 2 ^ (d+1)) (hb:Below G w w5) (hg:GrownAt w5 G rawv (at' + 1+ta.length+tb.length) vars props ((tempo - m - n:Nat):Int) (l++[(K,0)]++ta++tb)):GrewF G rawv at' vars props tempo l (d+1) w (.returned (.tuple #[])) w5:=by
 have e1:at' + ((K,(0:Int)):: (ta++tb)).length=at' + 1+ta.length+tb.length:=by simp;omega
 have e2:l++(K,(0:Int)):: (ta++tb)=l++[(K,0)]++ta++tb:=by simp
 have e3:2 ^ (d+1+1)=2*2 ^ (d+1):=by rw [Nat.pow_succ,Nat.mul_comm]
 refine ⟨(K,0):: (ta++tb),m+n,rfl,.bin _ _ _ _ _ h8 h9 hta htb,by omega,?_,?_,?_,hb⟩
 ·rw [e1];omega
 ·simp only [List.length_cons,List.length_append];rw [e3];omega
 ·rw [e1,e2,show tempo - (m+n)=tempo - m - n by omega];exact hg
theorem tunF_end {G:Nat} {rawv:Value} {at':Nat} {vars props:Int} {tempo m:Nat} {K:Int} {l:List (Int × Int)} {d:Nat} {w w5:World} {ta:List (Int × Int)} (hta:ForT props m ta) (hK:K=14\/K=17\/K=18) (ht:0 < tempo) (hm:m <= tempo - 1)
  (hn:at' + 1+ta.length <= 13+(d+1)) (h2:ta.length+1 <= 2 ^ (d+1)) (hb:Below G w w5) (hg:GrownAt w5 G rawv (at' + 1+ta.length) vars props ((tempo - 1 - m:Nat):Int) (l++[(K,0)]++ta)):GrewF G rawv at' vars props tempo l (d+1) w (.returned (.tuple #[])) w5:=by
 have e1:at' + ((K,(0:Int)):: ta:List (Int × Int)).length=at' + 1+ta.length:=by simp;omega
 have e2:l++(K,(0:Int)):: ta=l++[(K,0)]++ta:=by simp
 have e3:2 ^ (d+1+1)=2*2 ^ (d+1):=by rw [Nat.pow_succ,Nat.mul_comm]
 refine ⟨(K,0):: ta,m+1,rfl,.tun _ _ _ hK hta,by omega,?_,?_,?_,hb⟩
 ·rw [e1];omega
 ·simp only [List.length_cons];rw [e3];omega
 ·rw [e1,e2,show tempo - (m+1)=tempo - 1 - m by omega];exact hg
theorem tbiF_end {G:Nat} {rawv:Value} {at':Nat} {vars props:Int} {tempo m n:Nat} {K:Int} {l:List (Int × Int)} {d:Nat} {w w5:World} {ta tb:List (Int × Int)} (hta:ForT props m ta) (htb:ForT props n tb) (h8:15 <= K) (h9:K <= 16) (ht:0 < tempo) (hm:m <= tempo - 1) (hn':n <= tempo - 1 - m)
  (hn:at' + 1+ta.length+tb.length <= 13+(d+1)) (h2:ta.length+1 <= 2 ^ (d+1)) (h3:tb.length+1 <= 2 ^ (d+1)) (hb:Below G w w5) (hg:GrownAt w5 G rawv (at' + 1+ta.length+tb.length) vars props ((tempo - 1 - m - n:Nat):Int) (l++[(K,0)]++ta++tb)):GrewF G rawv at' vars props tempo l (d+1) w (.returned (.tuple #[])) w5:=by
 have e1:at' + ((K,(0:Int)):: (ta++tb)).length=at' + 1+ta.length+tb.length:=by simp;omega
 have e2:l++(K,(0:Int)):: (ta++tb)=l++[(K,0)]++ta++tb:=by simp
 have e3:2 ^ (d+1+1)=2*2 ^ (d+1):=by rw [Nat.pow_succ,Nat.mul_comm]
 refine ⟨(K,0):: (ta++tb),m+n+1,rfl,.tbi _ _ _ _ _ h8 h9 hta htb,by omega,?_,?_,?_,hb⟩
 ·rw [e1];omega
 ·simp only [List.length_cons,List.length_append];rw [e3];omega
 ·rw [e1,e2,show tempo - (m+n+1)=tempo - 1 - m - n by omega];exact hg
theorem formula_leaf (G:Nat) (rawv:Value) (rs:List (Int × Int)) (at':Nat) (vars props:Int) (tempo:Nat) (l:List (Int × Int)) (d:Nat) (w:World) (hat:at' <= 60) (hl:l.length <= 60) (hp1:1 <= props) (hp2:props <= 100) (hd:d <= 100) (hleaf:d=0\/12 <= at')
  (hR:Raws w G rawv rs) (h:GrownAt w G rawv at' vars props (tempo:Int) l) :
  Calls Tryz.prog 24 #[.pointer (some ⟨G,0,none⟩),.int .i64 d] w (GrewF G rawv at' vars props tempo l d w):=by
 have htake:=take_any G rawv rs at' vars props tempo l w (by omega) hR h
 have hlt:G < w.heap.size:=h.factsF.2.2.2.2;clear hR h
 have htst:((d:Int) == 0)=true\/((d:Int) == 0)=false/\decide ((12:Int) < (at':Int)+1)=true:=by
  by_cases h0:d=0
  ·left;simp [h0]
  ·right;simp;omega
 clear hleaf
 rcases htst with hd0 | ⟨hd0,h10⟩
 all_goals
  go_enter Tryz.func24,Tryz.ntmps24
  go_wp2_with (first | (go_at_call 40;refine htake.mono ?_;rintro e w1 ⟨k,v,hk,hv,rfl,hg1,hb1⟩;obtain ⟨d1,d3,d4,f4,dlt⟩:=hg1.factsF;have hg2:=hg1.alloc (.cells #[.int .i64 k,.int .i64 v] 106)) | (go_at_call 18;refine (picked_any _ _ _ (by assumption) (by decide) (by decide)).mono ?_;rintro e w2 ⟨r,hr0,hr1,rfl,rfl⟩) | (go_at_call 41;refine (put_any G rawv (at' + 1) vars props tempo _ _ l _ (by omega) hg2).mono ?_;rintro e w3 ⟨rfl,hg3,hb3⟩))
  have hgd:GrownAt (w1.alloc (.cells #[.int .i64 k,.int .i64 v] 106)).drew G rawv (at' + 1) vars props tempo l:=hg2;clear hg1 hg2 htake
  go_region_with (first | (go_at_call 18;refine (picked_any _ _ _ (by assumption) (by omega) (by omega)).mono ?_;rintro e w2 ⟨q,hq0,hq1,rfl,rfl⟩) | (go_at_call 41;refine (put_any G rawv (at' + 1) vars props tempo _ _ l _ (by omega) hgd).mono ?_;rintro e w3 ⟨rfl,hg3,hb3⟩))
  all_goals
   go_wp2_with fail
   go_end0
   exact prop_end hq0 hq1 ((hb1.alloc (Nat.le_of_lt dlt) _).drew.trans hb3) hg3
theorem formula_any (G:Nat) (rawv:Value) (rs:List (Int × Int)) (vars props:Int) (hp1:1 <= props) (hp2:props <= 100) (d:Nat):∀ (at':Nat) (tempo:Nat) (l:List (Int × Int)) (w:World),d <= 5->tempo <= 100->at' <= 40->l.length=at'->Raws w G rawv rs->GrownAt w G rawv at' vars props (tempo:Int) l->
  Calls Tryz.prog 24 #[.pointer (some ⟨G,0,none⟩),.int .i64 d] w (GrewF G rawv at' vars props tempo l d w):=by
 induction d with
 | zero=>intro at' tempo l w _ _ ha hl hR h;exact formula_leaf G rawv rs at' vars props tempo l 0 w (by omega) (by omega) hp1 hp2 (by omega) (.inl rfl) hR h
 | succ d ih=>
  intro at' tempo l w hd htm ha hl hR h
  by_cases hleaf:12 <= at'
  ·exact formula_leaf G rawv rs at' vars props tempo l (d+1) w (by omega) (by omega) hp1 hp2 (by omega) (.inr hleaf) hR h
  have htake:=take_any G rawv rs at' vars props tempo l w (by omega) hR h
  have hlt:G < w.heap.size:=h.factsF.2.2.2.2;have HR:Hid (Raws w G rawv rs):=hR;have HL:Hid (l.length=at'):=hl;have hl98:l.length <= 40:=by omega
  clear hR h hl;have hat10:at' < 12:=by omega
  have hdd:((d+1:Nat):Int)=(d:Int)+1:=by omega
  rw [hdd];have hd0:((d:Int)+1 == 0)=false:=by simp;omega
  have h10:decide ((12:Int) < (at':Int)+1)=false:=by simp;omega
  clear hdd hleaf
  by_cases ht0:tempo=0
  ·have htt:(((tempo:Nat):Int) == 0)=true:=by simp;omega
   clear ht0
   go_enter Tryz.func24,Tryz.ntmps24
   go_wp2_with (first | (go_at_call 40;refine htake.mono ?_;rintro e w1 ⟨k,v,hk,hv,rfl,hg1,hb1⟩;obtain ⟨d1,d3,d4,f4,dlt⟩:=hg1.factsF;have hg2:=hg1.alloc (.cells #[.int .i64 k,.int .i64 v] 106)) | (go_at_call 18;refine (picked_any _ _ _ (by assumption) (by decide) (by decide)).mono ?_;rintro e w2 ⟨r,hr0,hr1,rfl,rfl⟩;have hcs:r <= 8\/r=9\/r=10\/r=11\/r=12\/13 <= r:=(by omega);rcases hcs with h9 | rfl | rfl | rfl | rfl | h13) | (go_at_call 41;refine (put_any G rawv (at' + 1) vars props tempo _ _ l _ (by omega) hg2).mono ?_;rintro e w3 ⟨rfl,hg3,hb3⟩))
   ·have hgd:GrownAt (w1.alloc (.cells #[.int .i64 k,.int .i64 v] 106)).drew G rawv (at' + 1) vars props tempo l:=hg2
    clear hg1 hg2 htake ih
    go_region_with (first | (go_at_call 18;refine (picked_any _ _ _ (by assumption) (by omega) (by omega)).mono ?_;rintro e w2 ⟨q,hq0,hq1,rfl,rfl⟩) | (go_at_call 41;refine (put_any G rawv (at' + 1) vars props tempo _ _ l _ (by omega) hgd).mono ?_;rintro e w3 ⟨rfl,hg3,hb3⟩))
    all_goals
     go_wp2_with fail
     go_end0
     exact prop_end hq0 hq1 ((hb1.alloc (Nat.le_of_lt dlt) _).drew.trans hb3) hg3
   all_goals
    have hb13:=(hb1.alloc (Nat.le_of_lt dlt) (.cells #[.int .i64 k,.int .i64 v] 106)).trans hb3;have hn1:=ih (at' + 1) tempo _ w3 (by omega) (by omega) (by omega) (by rw [List.length_append,HL.out];rfl) (HR.out.below hb13) hg3
    clear hg1 hg2 htake
    go_wp2_with (go_at_call 24;refine hn1.mono ?_;rintro e w4 ⟨ta,m,rfl,hta,hm,ha14,h2a,hg4,hb4⟩;have H2a:=(show Hid _ from h2a);clear h2a)
    first
     | (go_end0;exact notF_end hta hm (by omega) H2a.out (hb13.trans hb4) hg4)
     | (have hb14:=hb13.trans hb4;have hn2:=ih (at' + 1+ta.length) (tempo - m) _ w4 (by omega) (by omega) (by omega) (by rw [List.length_append,List.length_append,HL.out];rfl) (HR.out.below hb14) hg4;clear hn1 ih;go_wp2_with (go_at_call 24;refine hn2.mono ?_;rintro e w5 ⟨tb,n,rfl,htb,hn,hb14',h2b,hg5,hb5⟩);go_end0;exact binF_end hta htb (by omega) (by omega) hm hn (by omega) H2a.out h2b (hb14.trans hb5) hg5)
  ·have htt:(((tempo:Nat):Int) == 0)=false:=by simp;omega
   have HT0:Hid (0 < tempo):=by show 0 < tempo;omega
   have HTI:Hid ((tempo:Int) - 1=((tempo - 1:Nat):Int)):=by show _=_;omega
   go_enter Tryz.func24,Tryz.ntmps24
   go_wp2_with (first | (go_at_call 40;refine htake.mono ?_;rintro e w1 ⟨k,v,hk,hv,rfl,hg1,hb1⟩;obtain ⟨d1,d3,d4,f4,dlt⟩:=hg1.factsF;have hg2:=hg1.alloc (.cells #[.int .i64 k,.int .i64 v] 106)) | (go_at_call 18;refine (picked_any _ _ _ (by assumption) (by decide) (by decide)).mono ?_;rintro e w2 ⟨r,hr0,hr1,rfl,rfl⟩;have hcs:r <= 8\/r=9\/r=10\/r=11\/r=12\/13 <= r:=(by omega);rcases hcs with h9 | rfl | rfl | rfl | rfl | h13) | (go_at_call 41;refine (put_any G rawv (at' + 1) vars props tempo _ _ l _ (by omega) hg2).mono ?_;rintro e w3 ⟨rfl,hg3,hb3⟩))
   ·have hgd:GrownAt (w1.alloc (.cells #[.int .i64 k,.int .i64 v] 106)).drew G rawv (at' + 1) vars props tempo l:=hg2
    clear hg1 hg2 htake ih
    go_region_with (first | (go_at_call 18;refine (picked_any _ _ _ (by assumption) (by omega) (by omega)).mono ?_;rintro e w2 ⟨q,hq0,hq1,rfl,rfl⟩) | (go_at_call 41;refine (put_any G rawv (at' + 1) vars props tempo _ _ l _ (by omega) hgd).mono ?_;rintro e w3 ⟨rfl,hg3,hb3⟩))
    all_goals
     go_wp2_with fail
     go_end0
     exact prop_end hq0 hq1 ((hb1.alloc (Nat.le_of_lt dlt) _).drew.trans hb3) hg3
   ·have hb13:=(hb1.alloc (Nat.le_of_lt dlt) (.cells #[.int .i64 k,.int .i64 v] 106)).trans hb3
    have hn1:=ih (at' + 1) tempo _ w3 (by omega) (by omega) (by omega) (by rw [List.length_append,HL.out];rfl) (HR.out.below hb13) hg3
    clear hg1 hg2 htake ih
    go_wp2_with (go_at_call 24;refine hn1.mono ?_;rintro e w4 ⟨ta,m,rfl,hta,hm,ha14,h2a,hg4,hb4⟩;have H2a:=(show Hid _ from h2a);clear h2a)
    go_end0
    exact notF_end hta hm (by omega) H2a.out (hb13.trans hb4) hg4
   ·have hb13:=(hb1.alloc (Nat.le_of_lt dlt) (.cells #[.int .i64 k,.int .i64 v] 106)).trans hb3
    have hn1:=ih (at' + 1) tempo _ w3 (by omega) (by omega) (by omega) (by rw [List.length_append,HL.out];rfl) (HR.out.below hb13) hg3
    clear hg1 hg2 htake
    go_wp2_with (go_at_call 24;refine hn1.mono ?_;rintro e w4 ⟨ta,m,rfl,hta,hm,ha14,h2a,hg4,hb4⟩;have H2a:=(show Hid _ from h2a);clear h2a)
    have hb14:=hb13.trans hb4;have hn2:=ih (at' + 1+ta.length) (tempo - m) _ w4 (by omega) (by omega) (by omega) (by rw [List.length_append,List.length_append,HL.out];rfl) (HR.out.below hb14) hg4
    clear hn1 ih
    go_wp2_with (go_at_call 24;refine hn2.mono ?_;rintro e w5 ⟨tb,n,rfl,htb,hn,hb14',h2b,hg5,hb5⟩)
    go_end0
    exact binF_end hta htb (by omega) (by omega) hm hn (by omega) H2a.out h2b (hb14.trans hb5) hg5
   iterate 4
    ·have hgt:=((hg1.setTempo ((tempo:Int) - 1)).alloc (.cells #[.int .i64 k,.int .i64 v] 106)).alloc (.cells #[.int .i64 14,.int .i64 17,.int .i64 18,.int .i64 17] 3)
     have hbt:=((hb1.setCell (p:=⟨G,4,none⟩) (Nat.le_refl _) (.int .i64 ((tempo:Int) - 1))).alloc (by simp;omega) (.cells #[.int .i64 k,.int .i64 v] 106)).alloc (by simp;omega) (.cells #[.int .i64 14,.int .i64 17,.int .i64 18,.int .i64 17] 3)
     have hpt:=fun kk=>put_any G rawv (at' + 1) vars props ((tempo:Int) - 1) kk 0 l _ (by omega) hgt
     clear hg1 hg2 htake hgt
     go_wp2_with (go_at_call 41;refine (hpt _).mono ?_;rintro e w3 ⟨rfl,hg3,hb3⟩)
     have hb13:=hbt.trans hb3;rw [HTI.out] at hg3;clear hpt;have hn1:=ih (at' + 1) (tempo - 1) _ w3 (by omega) (by omega) (by omega) (by rw [List.length_append,HL.out];rfl) (HR.out.below hb13) hg3
     clear ih
     go_wp2_with (go_at_call 24;refine hn1.mono ?_;rintro e w4 ⟨ta,m,rfl,hta,hm,ha14,h2a,hg4,hb4⟩;have H2a:=(show Hid _ from h2a);clear h2a)
     go_end0
     exact tunF_end hta (by decide) HT0.out hm (by omega) H2a.out (hb13.trans hb4) hg4
   ·have hgt:=(hg1.setTempo ((tempo:Int) - 1)).alloc (.cells #[.int .i64 k,.int .i64 v] 106)
    have hbt:=(hb1.setCell (p:=⟨G,4,none⟩) (Nat.le_refl _) (.int .i64 ((tempo:Int) - 1))).alloc (by simp;omega) (.cells #[.int .i64 k,.int .i64 v] 106)
    have hpt:=fun kk=>put_any G rawv (at' + 1) vars props ((tempo:Int) - 1) kk 0 l _ (by omega) hgt
    clear hg1 hg2 htake hgt
    go_wp2_with (go_at_call 41;refine (hpt _).mono ?_;rintro e w3 ⟨rfl,hg3,hb3⟩)
    have hb13:=hbt.trans hb3;rw [HTI.out] at hg3;clear hpt;have hn1:=ih (at' + 1) (tempo - 1) _ w3 (by omega) (by omega) (by omega) (by rw [List.length_append,HL.out];rfl) (HR.out.below hb13) hg3
    go_wp2_with (go_at_call 24;refine hn1.mono ?_;rintro e w4 ⟨ta,m,rfl,hta,hm,ha14,h2a,hg4,hb4⟩;have H2a:=(show Hid _ from h2a);clear h2a)
    have hb14:=hb13.trans hb4;have hn2:=ih (at' + 1+ta.length) ((tempo - 1) - m) _ w4 (by omega) (by omega) (by omega) (by rw [List.length_append,List.length_append,HL.out];rfl) (HR.out.below hb14) hg4
    clear hn1 ih
    go_wp2_with (go_at_call 24;refine hn2.mono ?_;rintro e w5 ⟨tb,n,rfl,htb,hn,hb14',h2b,hg5,hb5⟩)
    go_end0
    exact tbiF_end hta htb (by omega) (by omega) HT0.out hm hn (by omega) H2a.out h2b (hb14.trans hb5) hg5
theorem grownF_new (w:World) (rawv:Value) (vars props tempo:Int) :
  GrownAt (w.alloc (.cells #[rawv,.int .i64 0,.int .i64 vars,.int .i64 props,.int .i64 tempo,.slice none 0 0] 80)) w.heap.size rawv 0 vars props tempo []:=
 ⟨_,blk_alloc_new _ _,World.ownsRow_nil _ _ _ _⟩
theorem formulaFn_any (rawv:Value) (rs:List (Int × Int)) (props:Int) (tempo:Nat) (w:World) (hp1:1 <= props) (hp2:props <= 100) (ht:tempo <= 100) (hR:Raws w w.heap.size rawv rs) :
  Calls Tryz.prog 14 #[rawv,.int .i64 props,.int .i64 (tempo:Int)] w fun e w'=>∃ a c t m,e=.returned (.slice a t.length c)/\ForT props m t/\m <= tempo/\t.length <= 17/\OpsV w' (.slice a t.length c) t/\Below w.heap.size w w':=by
 have hb0:=(Below.refl w.heap.size w).alloc (Nat.le_refl _) (.cells #[rawv,.int .i64 0,.int .i64 0,.int .i64 props,.int .i64 (tempo:Int),.slice none 0 0] 80);have htr:=formula_any w.heap.size rawv rs 0 props hp1 hp2 4 0 tempo [] _ (by omega) ht (by omega) rfl (hR.below hb0) (grownF_new w rawv 0 props tempo)
 obtain ⟨ra,rn,rc,hra⟩:∃ a n c,rawv=.slice a n c:=by obtain ⟨⟨a,c,h,_⟩,_,_⟩:=hR;exact ⟨_,_,_,h⟩
 subst hra;clear hR
 go_enter Tryz.func14,Tryz.ntmps14
 go_wp2_with (go_at_call 24;refine htr.mono ?_;rintro e w1 ⟨t,m,rfl,ht,hm,hlen,_,hg1,hb1⟩;obtain ⟨outv,hh,ho⟩:=hg1;obtain ⟨_,_,_,c5,_,hlt⟩:=gcells hh)
 go_ret
 rw [List.nil_append] at ho;obtain ⟨a,c,rfl⟩:=owns_slice ho;exact ⟨a,c,t,m,rfl,ht,hm,by omega,opsV_of_owns ho,hb0.trans hb1⟩
def lookB (k:Int):Bool:=decide (14 <= k/\k <= 18)
def lopErr (props:Int) (o:Int × Int):Int:=if o.1 < 8 then 13 else if o.2 < 0\/(if o.1=13 then props - 1 else 0) < o.2 then 2 else 0
def lfirst (props:Int):List (Int × Int)->Int
 | []=>0
 | o:: r=>if lopErr props o≠0 then lopErr props o else lfirst props r
theorem lfirst_at {props:Int}:∀ {l:List (Int × Int)} {i:Nat},i < l.length->(∀ j,j < i->lopErr props (l.getD j (0,0))=0)->lopErr props (l.getD i (0,0))≠0->lfirst props l=lopErr props (l.getD i (0,0)):=by
 intro l
 induction l with
 | nil=>intro i hi;simp at hi
 | cons o r ih=>
  intro i hi hj hne
  cases i with
  | zero=>simp only [List.getD_cons_zero] at hne ⊢;simp [lfirst,hne]
  | succ i=>
   have h0:=hj 0 (by omega)
   simp only [List.getD_cons_zero] at h0;simp only [List.getD_cons_succ] at hne ⊢;simp only [lfirst,h0,ne_eq,not_true_eq_false,if_false];exact ih (by simpa using hi) (fun j hjj=>by simpa using hj (j+1) (by omega)) hne
theorem lfirst_none {props:Int}:∀ {l:List (Int × Int)},(∀ j,j < l.length->lopErr props (l.getD j (0,0))=0)->lfirst props l=0:=by
 intro l
 induction l with
 | nil=>intro _;rfl
 | cons o r ih=>
  intro hj;have h0:=hj 0 (by simp)
  simp only [List.getD_cons_zero] at h0;simp only [lfirst,h0,ne_eq,not_true_eq_false,if_false];exact ih (fun j hjj=>by simpa using hj (j+1) (by simpa using hjj))
theorem lfirst_all {props:Int}:∀ {l:List (Int × Int)},lfirst props l=0->∀ j,j < l.length->lopErr props (l.getD j (0,0))=0:=by
 intro l
 induction l with
 | nil=>intro _ j hj;simp at hj
 | cons o r ih=>
  intro h j hj;simp only [lfirst] at h
  split at h
  ·rename_i h1;exact absurd h h1
  ·rename_i h1
   cases j with
   | zero=>simpa using h1
   | succ j=>simpa using ih h j (by simpa using hj)
def aheadTo (l:List (Int × Int)):Nat->List Int
 | 0=>[]
 | n+1=>aheadTo l n++if lookB (l.getD n (0,0)).1=true then [(n:Int)] else []
theorem aheadTo_yes {l:List (Int × Int)} {n:Nat} (h:lookB (l.getD n (0,0)).1=true):aheadTo l (n+1)=aheadTo l n++[(n:Int)]:=by simp only [aheadTo];rw [if_pos h]
theorem aheadTo_no {l:List (Int × Int)} {n:Nat} (h:lookB (l.getD n (0,0)).1=false):aheadTo l (n+1)=aheadTo l n:=by simp only [aheadTo];rw [if_neg (by rw [h];decide)];simp
theorem aheadTo_length (l:List (Int × Int)):∀ n,(aheadTo l n).length <= n:=by
 intro n
 induction n with
 | zero=>simp [aheadTo]
 | succ n ih=>simp only [aheadTo,List.length_append];split <;> simp <;> omega
def aheadL (l:List (Int × Int)):List Int:=aheadTo l l.length
def lcode (props:Int) (l:List (Int × Int)):Int:=
 if props < 0\/6 < props then 2 else if endsCode (l.map Prod.fst)≠0 then endsCode (l.map Prod.fst) else if lfirst props l≠0 then lfirst props l else if 6 < (aheadL l).length then 1 else 0
theorem lcode_range {props:Int} {l:List (Int × Int)} (h:props < 0\/6 < props):lcode props l=2:=by unfold lcode;rw [if_pos h]
theorem lcode_ends {props:Int} {l:List (Int × Int)} (h:¬ (props < 0\/6 < props)) (h2:endsCode (l.map Prod.fst)≠0):lcode props l=endsCode (l.map Prod.fst):=by unfold lcode;rw [if_neg h,if_pos h2]
theorem lcode_op {props:Int} {l:List (Int × Int)} (h:¬ (props < 0\/6 < props)) (h2:endsCode (l.map Prod.fst)=0) (h3:lfirst props l≠0):lcode props l=lfirst props l:=by unfold lcode;rw [if_neg h,if_neg (by simpa using h2),if_pos h3]
theorem lcode_many {props:Int} {l:List (Int × Int)} (h:¬ (props < 0\/6 < props)) (h2:endsCode (l.map Prod.fst)=0) (h3:lfirst props l=0):lcode props l=if 6 < (aheadL l).length then 1 else 0:=by unfold lcode;rw [if_neg h,if_neg (by simpa using h2),if_neg (by simpa using h3)]
theorem lcode_zero {props:Int} {l:List (Int × Int)} (h:lcode props l=0):0 <= props/\props <= 6/\endsCode (l.map Prod.fst)=0/\lfirst props l=0/\(aheadL l).length <= 6:=by
 by_cases hr:props < 0\/6 < props
 ·rw [lcode_range hr] at h;omega
 ·by_cases hz:endsCode (l.map Prod.fst)=0
  ·by_cases hf:lfirst props l=0
   ·rw [lcode_many hr hz hf] at h
    split at h
    ·omega
    ·exact ⟨by omega,by omega,hz,hf,by omega⟩
   ·rw [lcode_op hr hz hf] at h;exact absurd h hf
  ·rw [lcode_ends hr hz] at h;exact absurd h hz
theorem ends_ne {ks:List Int} (h:endsCode ks=0):ks≠[]/\ks.length <= 60:=by
 obtain ⟨h1,h2⟩:=code_zero h;refine ⟨?_,h1⟩
 rintro rfl
 simp [cnt] at h2
