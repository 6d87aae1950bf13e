import Derived.Test.YtjpgpipcikkkdaaGreatDoorMCheck2
import Derived.Test.YtjpgpipcikkkdaaGreatDoorStates
namespace Go.Proofs.YtjpgpipcikkkdaaGreatDoor
open Go.ChangeShapes Go.WideShapes Go.ChangeAt Go.RowKit Go.Deep
open Terms Tm
set_option maxHeartbeats 6400000
set_option maxRecDepth 20000
theorem countOf_any (va:Value) (l:List Vr) (w:World) (hok:VarsOk l) (hV:VarsV w va l) :
  Calls Tryz.prog 33 #[va] w fun e w'=>e=.returned (.int .i64 (prodTo l l.length))/\Below w.heap.size w w':=by
 obtain ⟨ao,cap,rfl⟩:=hV.shape;have HV:Hid (VarsV w (.slice ao l.length cap) l):=hV;have HOK:Hid (VarsOk l):=hok;have h6:=hok.1;obtain ⟨n,hn⟩:∃ n,n=l.length:=⟨_,rfl⟩
 have HN:Hid (n=l.length):=hn;rw [<- hn] at h6 HV ⊢;clear hV hn hok
 go_enter Tryz.func33,Tryz.ntmps33
 go_wp2
 go_loopw [3,8] (fun st i wr=>∃ k:Nat,k <= n/\i=.int .i64 k/\st=.int .i64 (prodTo l k)/\Below w.heap.size w wr) (fun _ i _=>n - (intOf i).toNat)
 case atStart=>exact ⟨0,Nat.zero_le _,rfl,rfl,Below.refl _ _⟩
 case round=>
  obtain ⟨k,hk,rfl,rfl,hbel⟩:=hrel
  by_cases hlt:k < n
  ·obtain ⟨b,off,rfl,hblt,hat⟩:=HV.out.at (i:=k) (by rw [<- HN.out];exact hlt)
   obtain ⟨c0,c1,c2,c3⟩:=hat.below hbel hblt;have hpb:=HOK.out.prod (j:=k) (by rw [<- HN.out];exact hk)
   have hvb:=HOK.out.at (j:=k) (by rw [<- HN.out];exact hlt)
   have HPr:Hid (prodTo l (k+1)=prodTo l k*vspan (l.getD k vr0)):=rfl;generalize prodTo l k=st at *;generalize l.getD k vr0=x at *;obtain ⟨s,lo,hi,ini⟩:=x;simp only [vspan] at c0 c1 c2 c3 HPr hvb;obtain ⟨hv1,hv2,hv3,hv4,hv5,hv6,hv7⟩:=hvb;have hsp:=fun w=>span_any s lo hi ini w hv3 hv4 hv5
   obtain ⟨sp,hspe⟩:∃ sp,hi - lo+1=sp:=⟨_,rfl⟩
   rw [hspe] at hv1 hv2 hsp HPr;clear hspe hat;have hm1:1 <= st*sp:=by have:=Int.mul_le_mul hpb.1 hv1 (by omega) (by omega);simpa using this
   have hm2:st*sp <= 262144:=by have:=Int.mul_le_mul hpb.2 hv2 (by omega) (by omega);simpa using this
   have hbA:=hbel.alloc hbel.size (.cells #[.string s,.int .i64 lo,.int .i64 hi,.int .i64 ini] 77)
   go_wp2_with (go_at_call 42;refine (hsp _).mono ?_;rintro e w3 ⟨rfl,hb3⟩)
   go_roundw
   case rel=>exact ⟨k+1,hlt,by go_num,by rw [HPr.out],hbA.trans (hb3.mono hbA.size)⟩
   case measure=>simp [intOf];omega
  ·have hkn:k=n:=by omega
   subst hkn
   go_wp2
   go_ret
   exact ⟨rfl,hbel⟩
theorem mcount_any (va vr:Value) (m:Mo) (w:World) (hB:0 < w.heap.size) (hT:TabAt w) (hV:ModelV w va vr m) :
  Calls Tryz.prog 21 #[.agg #[va,vr]] w fun e w'=>e=.returned (.tuple #[.int .i64 (if mcode m=0 then prodTo m.vars m.vars.length else 0),.int .i64 (mcode m)])/\Below w.heap.size w w':=by
 have hA:∀ o,Below w.heap.size w (w.alloc o):=fun o=>(Below.refl _ _).alloc (Nat.le_refl _) o
 have hch:=fun o=>mcheck_any va vr m (w.alloc o) (Nat.lt_of_lt_of_le hB (hA o).size) (hT.below (hA o) hB) (hV.below (hA o))
 have HV:Hid (ModelV w va vr m):=hV;obtain ⟨ao,cap,rfl⟩:=hV.1.shape;obtain ⟨ro,rc,rfl⟩:=hV.2.shape;clear hV hT
 by_cases hz:mcode m=0
 ·have hok:=mcode_vars hz
  have hcn:=(fun w1 (hb:Below w.heap.size w w1)=>countOf_any _ m.vars w1 hok (HV.out.1.below hb))
  rw [hz] at hch ⊢;rw [if_pos rfl];generalize prodTo m.vars m.vars.length=N at *;generalize m.vars.length=n at *;generalize m.rules.length=rn at *;clear hz hok HV
  go_enter Tryz.func21,Tryz.ntmps21
  go_wp2_with (first | (go_at_call 25;refine (hch _).mono ?_;rintro e w1 ⟨rfl,hb1⟩;have hcb:w1.cell? ⟨w.heap.size,0,none⟩=some (.slice ao n cap):=(hb1.cell (p:=⟨w.heap.size,0,none⟩) (by simp)).trans (by simp [go_sem]);have hbw:=(hA _).trans (hb1.mono (hA _).size)) | (go_at_call 33;refine (hcn _ hbw).mono ?_;rintro e w2 ⟨rfl,hb2⟩))
  go_ret2
  exact ⟨rfl,hbw.trans (hb2.mono hbw.size)⟩
 ·rw [if_neg hz]
  generalize mcode m=x at *;generalize m.vars.length=n at *;generalize m.rules.length=rn at *;clear HV
  go_enter Tryz.func21,Tryz.ntmps21
  go_wp2_with (go_at_call 25;refine (hch _).mono ?_;rintro e w1 ⟨rfl,hb1⟩)
  go_ret2
  exact ⟨rfl,(hA _).trans (hb1.mono (hA _).size)⟩
