import Derived.Test.YtfnobbpbmelgnaaGreatDoorMCount
import Derived.Test.YtfnobbpbmelgnaaGreatDoorCodeRes
import Derived.Deep.RegionHeld3
namespace Go.Proofs.YtfnobbpbmelgnaaGreatDoor
open Go.ChangeShapes Go.WideShapes Go.ChangeAt Go.RowKit Go.Deep
open Terms Tm
set_option maxHeartbeats 6400000
set_option maxRecDepth 20000
theorem codeOf_any (va vv:Value) (l:List Vr) (vals:List Int) (w:World) (hok:VarsOk l) (hlen:vals.length=l.length) (hin:∀ i,i < l.length->inB l vals i) (hV:VarsV w va l) (hI:IntsV w vv vals) :
  Calls Tryz.prog 61 #[va,vv] w fun e w'=>e=.returned (.int .i64 (codeTo l vals l.length))/\Below w.heap.size w w':=by
 obtain ⟨ao,cap,rfl⟩:=hV.shape;obtain ⟨io,icap,rfl⟩:=hI.shape;have HV:Hid (VarsV w (.slice ao l.length cap) l):=hV;have HI:Hid (IntsV w (.slice io vals.length icap) vals):=hI;have HOK:Hid (VarsOk l):=hok;have HIN:Hid (∀ i,i < l.length->inB l vals i):=hin
 have HLen:Hid (vals.length=l.length):=hlen;have h6:=hok.1;obtain ⟨n,hn⟩:∃ n,n=l.length:=⟨_,rfl⟩
 have HN:Hid (n=l.length):=hn;rw [hlen,<- hn] at HI;rw [hlen,<- hn];rw [<- hn] at h6 HV;clear hV hI hn hok hin hlen
 go_enter Tryz.func61,Tryz.ntmps61
 go_wp2
 go_loopw [5,10] (fun st i wr=>∃ k:Nat,k <= n/\i=.int .i64 k/\st=.int .i64 (codeTo l vals k)/\Below w.heap.size w wr) (fun _ i _=>n - (intOf i).toNat)
 case atStart=>exact ⟨0,Nat.zero_le _,rfl,rfl,Below.refl _ _⟩
 case round=>
  obtain ⟨k,hk,rfl,rfl,hbel⟩:=hrel
  by_cases hlt:k < n
  ·obtain ⟨b,off,rfl,hblt,hat⟩:=HV.out.at (i:=k) (by rw [<- HN.out];exact hlt)
   obtain ⟨ib,ioff,rfl,hilt,hic⟩:=HI.out.at (i:=k) (by rw [HLen.out,<- HN.out];exact hlt)
   obtain ⟨c0,c1,c2,c3⟩:=hat.below hbel hblt;have hic2:=(hbel.cell (p:=⟨ib,ioff+k,none⟩) hilt).trans hic;have hcb:=code_bounds HOK.out (k:=k) (by rw [<- HN.out];exact hk) (fun i hi=>HIN.out i (by rw [<- HN.out];omega))
   have hpb:=HOK.out.prod (j:=k) (by rw [<- HN.out];exact hk)
   have hvb:=HOK.out.at (j:=k) (by rw [<- HN.out];exact hlt)
   have hxb:=HIN.out k (by rw [<- HN.out];exact hlt)
   have HPr:Hid (codeTo l vals (k+1)=codeTo l vals k*vspan (l.getD k vr0)+(vals.getD k 0 - (l.getD k vr0).lo)):=rfl;unfold inB at hxb;generalize codeTo l vals k=st at *;generalize prodTo l k=pr at *;generalize l.getD k vr0=x at *;generalize vals.getD k 0=y at *;obtain ⟨s,lo,hi,ini⟩:=x;simp only [vspan] at c0 c1 c2 c3 HPr hvb hxb
   obtain ⟨hv1,hv2,hv3,hv4,hv5,hv6,hv7⟩:=hvb;have hsp:=fun w=>span_any s lo hi ini w hv3 hv4 hv5
   obtain ⟨sp,hspe⟩:∃ sp,hi - lo+1=sp:=⟨_,rfl⟩
   rw [hspe] at hv1 hv2 hsp HPr;clear hspe hat hic;have hm1:0 <= st*sp:=Int.mul_nonneg hcb.1 (by omega)
   have hm2:st*sp <= 262144:=by
    have h1:st <= 4096:=by omega
    have:=Int.mul_le_mul h1 hv2 (by omega) (by omega);simpa using this
   have hw1:IntKind.i64.wrap (st*sp)=st*sp:=wr64 (by omega) (by omega)
   have hw2:IntKind.i64.wrap (st*sp+y)=st*sp+y:=wr64 (by omega) (by omega)
   have hw3:IntKind.i64.wrap (st*sp+y - lo)=st*sp+y - lo:=wr64 (by omega) (by omega)
   have hszw:=hbel.size;have hbA:=hbel.alloc hszw (.cells #[.string s,.int .i64 lo,.int .i64 hi,.int .i64 ini] 45);have hic3:=(((Below.refl wr.heap.size wr).alloc (Nat.le_refl _) (.cells #[.string s,.int .i64 lo,.int .i64 hi,.int .i64 ini] 45)).cell (p:=⟨ib,ioff+k,none⟩) (by simp only;omega)).trans hic2
   have hi0:(0:Int) <= (k:Int):=Int.natCast_nonneg _;have hi1:(k:Int) < (n:Int):=by omega
   have hS0:∀ w',Below (wr.heap.size+1) (wr.alloc (.cells #[.string s,.int .i64 lo,.int .i64 hi,.int .i64 ini] 45)) w'->w'.cell? ⟨wr.heap.size,0,none⟩=some (.string s)/\w'.cell? ⟨wr.heap.size,1,none⟩=some (.int .i64 lo)/\w'.cell? ⟨wr.heap.size,2,none⟩=some (.int .i64 hi)/\w'.cell? ⟨wr.heap.size,3,none⟩=some (.int .i64 ini)/\w'.cell? ⟨ib,ioff+k,none⟩=some (.int .i64 y):=fun w' hw'=>
    ⟨(hw'.cell (p:=⟨wr.heap.size,0,none⟩) (by simp)).trans (by simp [go_sem]),(hw'.cell (p:=⟨wr.heap.size,1,none⟩) (by simp)).trans (by simp [go_sem]),(hw'.cell (p:=⟨wr.heap.size,2,none⟩) (by simp)).trans (by simp [go_sem]),(hw'.cell (p:=⟨wr.heap.size,3,none⟩) (by simp)).trans (by simp [go_sem]),(hw'.cell (p:=⟨ib,ioff+k,none⟩) (by simp only;omega)).trans hic3⟩
   have hB0:Below (wr.heap.size+1) (wr.alloc (.cells #[.string s,.int .i64 lo,.int .i64 hi,.int .i64 ini] 45)) (wr.alloc (.cells #[.string s,.int .i64 lo,.int .i64 hi,.int .i64 ini] 45)):=Below.refl _ _;clear hic3 hic2
   go_wp2_with fail
   go_region_held3 (fun w'=>w'.cell? ⟨wr.heap.size,0,none⟩=some (.string s)/\w'.cell? ⟨wr.heap.size,1,none⟩=some (.int .i64 lo)/\w'.cell? ⟨wr.heap.size,2,none⟩=some (.int .i64 hi)/\w'.cell? ⟨wr.heap.size,3,none⟩=some (.int .i64 ini)/\w'.cell? ⟨ib,ioff+k,none⟩=some (.int .i64 y))
    (exact hS0 _ (by first | exact hB0 | exact hB0.drew | exact hB0.drew.trans (hb2.mono (by simp))))
    (first | (go_at_call 78;refine (hsp _).mono ?_;rintro e w2 ⟨rfl,hb2⟩))
   go_wp2_with fail
   go_roundw
   case rel=>exact ⟨k+1,hlt,by go_num,by rw [HPr.out];first | (congr 1;omega) | (simp [hw1,hw2,hw3];omega),hbA.drew.trans (hb2.mono (by simp;omega))⟩
   case measure=>simp [intOf];omega
  ·have hkn:k=n:=by omega
   subst hkn
   go_wp2
   go_ret
   exact ⟨rfl,hbel⟩
theorem mcode_bad (va vr vv:Value) (m:Mo) (w:World) (hB:0 < w.heap.size) (hT:TabAt w) (hV:ModelV w va vr m) (io:Option Addr) (il ic:Nat) (hv:vv=.slice io il ic) (h:mcode m≠0) :
  Calls Tryz.prog 124 #[.agg #[va,vr],vv] w fun e w'=>e=.returned (.tuple #[.int .i64 0,.int .i64 (mcode m)])/\Below w.heap.size w w':=by
 subst hv;have hA:∀ o,Below w.heap.size w (w.alloc o):=fun o=>(Below.refl _ _).alloc (Nat.le_refl _) o
 have hch:=fun o=>mcheck_any va vr m (w.alloc o) (Nat.lt_of_lt_of_le hB (hA o).size) (hT.below (hA o) hB) (hV.below (hA o))
 obtain ⟨ao,cap,rfl⟩:=hV.1.shape;obtain ⟨ro,rc,rfl⟩:=hV.2.shape;generalize mcode m=x at *;generalize m.vars.length=n at *;generalize m.rules.length=rn at *;clear hV hT
 go_enter Tryz.func124,Tryz.ntmps124
 go_wp2_with (go_at_call 60;refine (hch _).mono ?_;rintro e w1 ⟨rfl,hb1⟩)
 go_ret2
 exact ⟨rfl,(hA _).trans (hb1.mono (hA _).size)⟩
theorem mcode_len (va vr vv:Value) (m:Mo) (w:World) (hB:0 < w.heap.size) (hT:TabAt w) (hV:ModelV w va vr m) (io:Option Addr) (il ic:Nat) (hv:vv=.slice io il ic) (h:mcode m=0) (hl:il≠m.vars.length) :
  Calls Tryz.prog 124 #[.agg #[va,vr],vv] w fun e w'=>e=.returned (.tuple #[.int .i64 0,.int .i64 9])/\Below w.heap.size w w':=by
 subst hv;have hA:∀ o,Below w.heap.size w (w.alloc o):=fun o=>(Below.refl _ _).alloc (Nat.le_refl _) o
 have hch:=fun o=>mcheck_any va vr m (w.alloc o) (Nat.lt_of_lt_of_le hB (hA o).size) (hT.below (hA o) hB) (hV.below (hA o))
 rw [h] at hch;obtain ⟨ao,cap,rfl⟩:=hV.1.shape;obtain ⟨ro,rc,rfl⟩:=hV.2.shape;generalize m.vars.length=n at *;generalize m.rules.length=rn at *;have hne:((il:Int) == (n:Int))=false:=by rw [beq_eq_false_iff_ne];omega
 clear hV hT h
 go_enter Tryz.func124,Tryz.ntmps124
 go_wp2_with (go_at_call 60;refine (hch _).mono ?_;rintro e w1 ⟨rfl,hb1⟩;have hcb:w1.cell? ⟨w.heap.size,0,none⟩=some (.slice ao n cap):=(hb1.cell (p:=⟨w.heap.size,0,none⟩) (by simp)).trans (by simp [go_sem]))
 all_goals first | (exfalso;omega) | go_ret2
 all_goals exact ⟨rfl,(hA _).trans (hb1.mono (hA _).size)⟩
theorem mcode_loop (va vr vv:Value) (m:Mo) (vals:List Int) (w:World) (hB:0 < w.heap.size) (hT:TabAt w) (hV:ModelV w va vr m) (hI:IntsV w vv vals) (h:mcode m=0) (hlen:vals.length=m.vars.length) :
  Calls Tryz.prog 124 #[.agg #[va,vr],vv] w fun e w'=>e=.returned (.tuple #[.int .i64 (cval m vals),.int .i64 (ccode m vals)])/\Below w.heap.size w w':=by
 have hA:∀ o,Below w.heap.size w (w.alloc o):=fun o=>(Below.refl _ _).alloc (Nat.le_refl _) o
 have hch:=fun o=>mcheck_any va vr m (w.alloc o) (Nat.lt_of_lt_of_le hB (hA o).size) (hT.below (hA o) hB) (hV.below (hA o))
 rw [h] at hch;have hok:=mcode_vars h;have h6:=hok.1;have hcf:=(fun w1 (hb:Below w.heap.size w w1) (hin:∀ i,i < m.vars.length->inB m.vars vals i)=>codeOf_any va vv m.vars vals w1 hok hlen hin (hV.1.below hb) (hI.below hb))
 obtain ⟨ao,cap,rfl⟩:=hV.1.shape;obtain ⟨ro,rc,rfl⟩:=hV.2.shape;obtain ⟨io,icap,rfl⟩:=hI.shape;have HCF:=(show Hid _ from hcf)
 have HV:Hid (VarsV w (.slice ao m.vars.length cap) m.vars):=hV.1;have HI:Hid (IntsV w (.slice io vals.length icap) vals):=hI
 have HYes:Hid ((∀ i,i < m.vars.length->inB m.vars vals i)->ccode m vals=0/\cval m vals=codeTo m.vars vals m.vars.length):=fun hin=>by
  have h1:=ccode_yes h ⟨hlen,hin⟩;exact ⟨h1,by unfold cval;rw [if_pos h1]⟩
 have HNo:Hid (∀ k,k < m.vars.length->¬ inB m.vars vals k->ccode m vals=9/\cval m vals=0):=fun k hk hin=>by
  have h1:=ccode_no h (vals:=vals) (fun h=>hin (h.2 k hk))
  exact ⟨h1,by unfold cval;rw [h1,if_neg (by decide)]⟩
 have HLen:Hid (vals.length=m.vars.length):=hlen;obtain ⟨n,hn⟩:∃ n,n=m.vars.length:=⟨_,rfl⟩
 have HN:Hid (n=m.vars.length):=hn;rw [hlen] at HCF HI ⊢;rw [<- hn] at h6 hch HCF HV HI HYes HNo ⊢;generalize m.rules.length=rn at *;generalize ccode m vals=cc at *;generalize cval m vals=cv at *;clear hV hI hT hcf hlen hn hok h
 go_enter Tryz.func124,Tryz.ntmps124
 go_wp2_with (go_at_call 60;refine (hch _).mono ?_;rintro e w1 ⟨rfl,hb1⟩;have hcb:w1.cell? ⟨w.heap.size,0,none⟩=some (.slice ao n cap):=(hb1.cell (p:=⟨w.heap.size,0,none⟩) (by simp)).trans (by simp [go_sem]))
 have hb1':Below (w.heap.size+1) (w.alloc (.cells #[.slice ao n cap,.slice ro rn rc] 30)) w1:=hb1.mono (by simp)
 clear hch hcb hb1
 go_loopw [23] (fun i wr=>∃ k:Nat,k <= n/\i=.int .i64 k/\Hid (∀ i,i < k->inB m.vars vals i)/\Below (w.heap.size+1) (w.alloc (.cells #[.slice ao n cap,.slice ro rn rc] 30)) wr) (fun i _=>n - (intOf i).toNat)
 case atStart=>exact ⟨0,Nat.zero_le _,rfl,fun j hj=>by omega,hb1'⟩
 case round=>
  obtain ⟨k,hk,rfl,HJ,hbelB⟩:=hrel;clear hb1';have hbel:=(hA _).trans (hbelB.mono (Nat.le_succ _));have hszb:w.heap.size+1 <= wr.heap.size:=by have:=hbelB.size;simp at this;omega
  have cb:=(hbelB.cell (p:=⟨w.heap.size,0,none⟩) (by simp)).trans (show _=some (.slice ao n cap) by simp [go_sem])
  by_cases hlt:k < n
  ·obtain ⟨b,off,rfl,hblt,hat⟩:=HV.out.at (i:=k) (by rw [<- HN.out];exact hlt)
   obtain ⟨ib,ioff,rfl,hilt,hic⟩:=HI.out.at (i:=k) (by rw [HLen.out,<- HN.out];exact hlt)
   obtain ⟨c0,c1,c2,c3⟩:=hat.below hbel hblt;have hic2:=(hbel.cell (p:=⟨ib,ioff+k,none⟩) hilt).trans hic;have HNk:=(show Hid _ from HNo.out k hlt)
   have HJ2:Hid (inB m.vars vals k->∀ i,i < k+1->inB m.vars vals i):=fun h i hi=>by
    by_cases hik:i=k
    ·subst hik;exact h
    ·exact HJ.out i (by omega)
   unfold inB at HNk;have HJ3:Hid ((m.vars.getD k vr0).lo <= vals.getD k 0/\vals.getD k 0 <= (m.vars.getD k vr0).hi->∀ i,i < k+1->inB m.vars vals i):=fun h=>HJ2.out h
   generalize m.vars.getD k vr0=x at *;generalize vals.getD k 0=y at *;obtain ⟨s,lo,hi,ini⟩:=x;simp only at c0 c1 c2 c3 HNk HJ3
   have hwi:=fun w=>within_any s lo hi ini y w
   clear hat hic HJ2 HJ;have hbA:=hbelB.alloc hszb (.cells #[.string s,.int .i64 lo,.int .i64 hi,.int .i64 ini] 45);have hbwA:=(hA _).trans (hbA.mono (Nat.le_succ _));have hic3:=(((Below.refl wr.heap.size wr).alloc (Nat.le_refl _) (.cells #[.string s,.int .i64 lo,.int .i64 hi,.int .i64 ini] 45)).cell (p:=⟨ib,ioff+k,none⟩) (by simp only;omega)).trans hic2
   have hi0:(0:Int) <= (k:Int):=Int.natCast_nonneg _;have hi1:(k:Int) < (n:Int):=by omega
   have hS0:∀ w',Below (wr.heap.size+1) (wr.alloc (.cells #[.string s,.int .i64 lo,.int .i64 hi,.int .i64 ini] 45)) w'->w'.cell? ⟨wr.heap.size,0,none⟩=some (.string s)/\w'.cell? ⟨wr.heap.size,1,none⟩=some (.int .i64 lo)/\w'.cell? ⟨wr.heap.size,2,none⟩=some (.int .i64 hi)/\w'.cell? ⟨wr.heap.size,3,none⟩=some (.int .i64 ini)/\w'.cell? ⟨ib,ioff+k,none⟩=some (.int .i64 y):=fun w' hw'=>
    ⟨(hw'.cell (p:=⟨wr.heap.size,0,none⟩) (by simp)).trans (by simp [go_sem]),(hw'.cell (p:=⟨wr.heap.size,1,none⟩) (by simp)).trans (by simp [go_sem]),(hw'.cell (p:=⟨wr.heap.size,2,none⟩) (by simp)).trans (by simp [go_sem]),(hw'.cell (p:=⟨wr.heap.size,3,none⟩) (by simp)).trans (by simp [go_sem]),(hw'.cell (p:=⟨ib,ioff+k,none⟩) (by simp only;omega)).trans hic3⟩
   have hB0:Below (wr.heap.size+1) (wr.alloc (.cells #[.string s,.int .i64 lo,.int .i64 hi,.int .i64 ini] 45)) (wr.alloc (.cells #[.string s,.int .i64 lo,.int .i64 hi,.int .i64 ini] 45)):=Below.refl _ _;clear hic3 hic2
   by_cases hin:lo <= y/\y <= hi
   ·rw [decide_eq_true hin] at hwi
    have HJ4:=(show Hid _ from HJ3.out hin)
    clear hin HJ3 HNk HNo HYes HCF
    go_wp2_with fail
    go_region_held3 (fun w'=>w'.cell? ⟨wr.heap.size,0,none⟩=some (.string s)/\w'.cell? ⟨wr.heap.size,1,none⟩=some (.int .i64 lo)/\w'.cell? ⟨wr.heap.size,2,none⟩=some (.int .i64 hi)/\w'.cell? ⟨wr.heap.size,3,none⟩=some (.int .i64 ini)/\w'.cell? ⟨ib,ioff+k,none⟩=some (.int .i64 y))
     (exact hS0 _ (by first | exact hB0 | exact hB0.drew | exact hB0.drew.trans (hb2.mono (by simp))))
     (first | (go_at_call 107;refine (hwi _).mono ?_;rintro e w2 ⟨rfl,hb2⟩))
    go_wp2_with fail
    go_roundw
    case rel=>exact ⟨k+1,hlt,by go_num,HJ4,hbA.drew.trans (hb2.mono (by simp;omega))⟩
    case measure=>simp [intOf];omega
   ·rw [decide_eq_false hin] at hwi
    have HR:=(show Hid _ from HNk.out hin)
    clear hin HJ3 HNk HNo HYes HCF
    go_wp2_with fail
    go_region_held3 (fun w'=>w'.cell? ⟨wr.heap.size,0,none⟩=some (.string s)/\w'.cell? ⟨wr.heap.size,1,none⟩=some (.int .i64 lo)/\w'.cell? ⟨wr.heap.size,2,none⟩=some (.int .i64 hi)/\w'.cell? ⟨wr.heap.size,3,none⟩=some (.int .i64 ini)/\w'.cell? ⟨ib,ioff+k,none⟩=some (.int .i64 y))
     (exact hS0 _ (by first | exact hB0 | exact hB0.drew | exact hB0.drew.trans (hb2.mono (by simp))))
     (first | (go_at_call 107;refine (hwi _).mono ?_;rintro e w2 ⟨rfl,hb2⟩))
    go_wp2_with fail
    go_ret2
    rw [HR.out.1,HR.out.2];exact ⟨rfl,hbwA.drew.trans (hb2.mono hbwA.size)⟩
  ·have hkn:k=n:=by omega
   subst hkn;have HR:=(show Hid _ from HYes.out HJ.out)
   have hcf:=HCF.out wr hbel HJ.out;generalize codeTo m.vars vals k=cd at *;clear HJ HYes HNo HCF
   go_wp2_with (go_at_call 61;refine hcf.mono ?_;rintro e w2 ⟨rfl,hb2⟩)
   go_ret2
   rw [HR.out.1,HR.out.2];exact ⟨rfl,hbel.trans (hb2.mono hbel.size)⟩
theorem mcodes_any (va vr vv:Value) (m:Mo) (vals:List Int) (w:World) (hB:0 < w.heap.size) (hT:TabAt w) (hV:ModelV w va vr m) (hI:IntsV w vv vals) :
  Calls Tryz.prog 124 #[.agg #[va,vr],vv] w fun e w'=>e=.returned (.tuple #[.int .i64 (cval m vals),.int .i64 (ccode m vals)])/\Below w.heap.size w w':=by
 obtain ⟨io,ic,hv⟩:=hI.shape
 by_cases h:mcode m=0
 ·by_cases hl:vals.length=m.vars.length
  ·exact mcode_loop va vr vv m vals w hB hT hV hI h hl
  ·have h9:=ccode_no h (vals:=vals) (fun h=>hl h.1)
   unfold cval;rw [h9,if_neg (by decide)]
   exact mcode_len va vr vv m w hB hT hV io _ ic hv h hl
 ·have h9:=ccode_bad (vals:=vals) h
  unfold cval;rw [h9,if_neg h];exact mcode_bad va vr vv m w hB hT hV io _ ic hv h
