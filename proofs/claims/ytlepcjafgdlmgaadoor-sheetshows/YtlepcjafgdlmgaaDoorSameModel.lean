import Derived.Test.YtlepcjafgdlmgaaDoorModelMem
import Derived.Test.YtlepcjafgdlmgaaDoorSameOps
namespace Go.Proofs.YtlepcjafgdlmgaaDoor
open Go.ChangeShapes Go.WideShapes Go.ChangeAt Go.RowKit Go.Deep
open Terms Tm
set_option maxHeartbeats 6400000
set_option maxRecDepth 20000
theorem sameModel_b (va vr va' vr':Value) (m:Mo) (w:World) (hZ:MoSz m) (hV:ModelV w va vr m) (hV':ModelV w va' vr' m) :
  Calls Tryd.prog 19 #[.agg #[va,vr],.agg #[va',vr']] w fun e w'=>e=.returned (.bool true)/\Below w.heap.size w w':=by
 obtain ⟨hz1,hz2,hz3⟩:=hZ;obtain ⟨ao,cap,rfl⟩:=hV.1.shape;obtain ⟨ro,rc,rfl⟩:=hV.2.shape;obtain ⟨ao',cap',rfl⟩:=hV'.1.shape;obtain ⟨ro',rc',rfl⟩:=hV'.2.shape;obtain ⟨vs,l⟩:=m;simp only at *
 have HVs:Hid (VarsV w (.slice ao vs.length cap) vs/\VarsV w (.slice ao' vs.length cap') vs):=⟨hV.1,hV'.1⟩;have HRs:Hid (RulesV w (.slice ro l.length rc) l/\RulesV w (.slice ro' l.length rc') l):=⟨hV.2,hV'.2⟩;have HZ:=(show Hid _ from hz3)
 obtain ⟨n,hn⟩:∃ n,n=vs.length:=⟨_,rfl⟩
 have HN:Hid (n=vs.length):=hn;obtain ⟨rn,hrn⟩:∃ rn,rn=l.length:=⟨_,rfl⟩
 have HRN:Hid (rn=l.length):=hrn;rw [<- hn] at hz1 HVs ⊢;rw [<- hrn] at hz2 HRs ⊢;obtain ⟨W2,hW2⟩:∃ W2,W2=(w.alloc (.cells #[.slice ao n cap,.slice ro rn rc] 25)).alloc (.cells #[.slice ao' n cap',.slice ro' rn rc'] 25):=⟨_,rfl⟩
 have hA:Below w.heap.size w W2:=by rw [hW2];exact ((Below.refl _ _).alloc (Nat.le_refl _) _).alloc (by simp) _
 have hs2:W2.heap.size=w.heap.size+2:=by rw [hW2];simp
 have hbx:W2.cell? ⟨w.heap.size,0,none⟩=some (.slice ao n cap)/\W2.cell? ⟨w.heap.size,1,none⟩=some (.slice ro rn rc)/\W2.cell? ⟨w.heap.size+1,0,none⟩=some (.slice ao' n cap')/\W2.cell? ⟨w.heap.size+1,1,none⟩=some (.slice ro' rn rc'):=by
  rw [hW2];refine ⟨?_,?_,?_,?_⟩ <;> simp [go_sem]
 obtain ⟨b0,b1,b2,b3⟩:=hbx;have HW2:Hid (W2=(w.alloc (.cells #[.slice ao n cap,.slice ro rn rc] 25)).alloc (.cells #[.slice ao' n cap',.slice ro' rn rc'] 25)):=hW2;clear hV hV' hn hrn hz3 hW2
 go_enter Tryd.func19,Tryd.ntmps19
 go_wp2
 rw [<- HW2.out]
 go_loopw [5] (fun i wr=>∃ k:Nat,k <= n/\i=.int .i64 k/\∃ d,wr=W2.drewN d) (fun i _=>n - (intOf i).toNat)
 case atStart=>exact ⟨0,Nat.zero_le _,rfl,0,rfl⟩
 case round=>
  obtain ⟨k,hk,rfl,d,rfl⟩:=hrel
  by_cases hlt:k < n
  ·obtain ⟨b,off,rfl,hblt,hat⟩:=HVs.out.1.at (i:=k) (by rw [<- HN.out];exact hlt)
   obtain ⟨b',off',rfl,hblt',hat'⟩:=HVs.out.2.at (i:=k) (by rw [<- HN.out];exact hlt)
   obtain ⟨c0,c1,c2,c3⟩:=hat.below hA hblt;obtain ⟨e0,e1,e2,e3⟩:=hat'.below hA hblt';generalize vs.getD k vr0=x at *;obtain ⟨s,lo,hi,ini⟩:=x;simp only at c0 c1 c2 c3 e0 e1 e2 e3
   have hi0:(0:Int) <= (k:Int):=Int.natCast_nonneg _;have hi1:(k:Int) < (n:Int):=by omega
   clear hat hat'
   go_wp2_with fail
   go_quiet (fail)
   go_wp2_with fail
   go_roundw
   case rel=>exact ⟨k+1,hlt,by go_num,_,rfl⟩
   case measure=>simp [intOf];omega
  ·have hke:k=n:=by omega
   go_wp2_with fail
   clear HVs hke hlt hk
   go_loopw [6] (fun i wr=>∃ k:Nat,k <= rn/\i=.int .i64 k/\Below W2.heap.size W2 wr) (fun i _=>rn - (intOf i).toNat)
   case atStart=>exact ⟨0,Nat.zero_le _,rfl,below_drewN (Below.refl _ _) _⟩
   case round=>
    obtain ⟨k,hk,rfl,hbel⟩:=hrel;have hbw:=hA.trans (hbel.mono hA.size);have hlb:w.heap.size < wr.heap.size:=by have:=hbel.size;omega
    have hlb1:w.heap.size+1 < wr.heap.size:=by have:=hbel.size;omega
    have d1:=(hbel.cell (p:=⟨w.heap.size,1,none⟩) (by simp only;omega)).trans b1
    have d3:=(hbel.cell (p:=⟨w.heap.size+1,1,none⟩) (by simp only;omega)).trans b3
    by_cases hlt:k < rn
    ·obtain ⟨b,off,rfl,hblt,⟨u,c0',hO⟩,sv,c1',hS⟩:=HRs.out.1.at (i:=k) (by rw [<- HRN.out];exact hlt)
     obtain ⟨b',off',rfl,hblt',⟨u',e0',hO'⟩,sv',e1',hS'⟩:=HRs.out.2.at (i:=k) (by rw [<- HRN.out];exact hlt)
     obtain ⟨hgz,hsz2,hsz3⟩:=HZ.out k (by rw [<- HRN.out];exact hlt)
     generalize l.getD k ru0=r at *;obtain ⟨gd,ss⟩:=r;simp only at hO hO' hS hS' hgz hsz2 hsz3
     obtain ⟨ua,uc,rfl⟩:=hO.shape;obtain ⟨ua',uc',rfl⟩:=hO'.shape;obtain ⟨sa,sc,rfl⟩:=hS.shape;obtain ⟨sa',sc',rfl⟩:=hS'.shape;have c0:=(hbw.cell (p:=⟨b,off+k*2,none⟩) hblt).trans c0';have c1:=(hbw.cell (p:=⟨b,off+k*2+1,none⟩) hblt).trans c1';have e0:=(hbw.cell (p:=⟨b',off' + k*2,none⟩) hblt').trans e0'
     have e1:=(hbw.cell (p:=⟨b',off' + k*2+1,none⟩) hblt').trans e1';have hbo':b' < wr.heap.size:=by omega
     have HSs:Hid (SetsV w (.slice sa ss.length sc) ss/\SetsV w (.slice sa' ss.length sc') ss):=⟨hS,hS'⟩;have HZ3:=(show Hid _ from hsz3)
     have hsg:=(fun w4 (hb:Below w.heap.size w w4)=>sameOps_true _ _ gd w4 (by omega) (hO.below hb) (hO'.below hb))
     generalize gd.length=gn at *;obtain ⟨sn,hsn⟩:∃ sn,sn=ss.length:=⟨_,rfl⟩
     have HSN:Hid (sn=ss.length):=hsn;rw [<- hsn] at hsz2 HSs c1 e1;clear hO hO' hS hS' c0' c1' e0' e1' hsn hsz3 HRs;obtain ⟨W4,hW4⟩:∃ W4,W4=(wr.alloc (.cells #[.slice ua gn uc,.slice sa sn sc] 61)).alloc (.cells #[.slice ua' gn uc',.slice sa' sn sc'] 61):=⟨_,rfl⟩
     have hA4:Below W2.heap.size W2 W4:=by rw [hW4];exact (hbel.alloc (by have:=hbel.size;omega) _).alloc (by have:=hbel.size;simp;omega) _
     have hbw4:=hA.trans (hA4.mono hA.size);have hx4:W4.cell? ⟨wr.heap.size,1,none⟩=some (.slice sa sn sc)/\W4.cell? ⟨wr.heap.size+1,1,none⟩=some (.slice sa' sn sc'):=by rw [hW4];refine ⟨?_,?_⟩ <;> simp [go_sem]
     obtain ⟨x1,y1⟩:=hx4;have HW4:Hid (W4=(wr.alloc (.cells #[.slice ua gn uc,.slice sa sn sc] 61)).alloc (.cells #[.slice ua' gn uc',.slice sa' sn sc'] 61)):=hW4;rw [hW4] at hbw4;have hsg2:=hsg _ hbw4;rw [<- hW4] at hbw4;have HBW4:Hid (Below w.heap.size w W4):=hbw4;have HA4:Hid (Below W2.heap.size W2 W4):=hA4;clear hW4 hsg hbw4 hA4
     go_wp2_with (go_at_call 21;refine hsg2.mono ?_;rintro e w5 ⟨rfl,d5,rfl⟩)
     rw [<- HW4.out];clear hsg2 c0 c1 e0 e1 HW4;generalize wr=wo at *
     go_loopw [9] (fun i wr=>∃ q:Nat,q <= sn/\i=.int .i64 q/\∃ d,wr=W4.drewN d) (fun i _=>sn - (intOf i).toNat)
     case atStart=>exact ⟨0,Nat.zero_le _,rfl,_,rfl⟩
     case round=>
      obtain ⟨q,hq,rfl,d,hd⟩:=hrel;have HD:Hid (wr=W4.drewN d):=hd;have hbr:Below w.heap.size w wr:=by rw [hd];exact below_drewN HBW4.out _
      have x2:wr.cell? ⟨wo.heap.size,1,none⟩=some (.slice sa sn sc):=by rw [hd];simpa using x1
      have y2:wr.cell? ⟨wo.heap.size+1,1,none⟩=some (.slice sa' sn sc'):=by rw [hd];simpa using y1
      clear hd
      by_cases hqs:q < sn
      ·obtain ⟨sb,soff,rfl,hsb,f0',uu,f1',hOu⟩:=HSs.out.1.at (i:=q) (by rw [<- HSN.out];exact hqs)
       obtain ⟨sb',soff',rfl,hsb',g0',uu',g1',hOu'⟩:=HSs.out.2.at (i:=q) (by rw [<- HSN.out];exact hqs)
       have hvz:=HZ3.out q (by rw [<- HSN.out];exact hqs)
       generalize ss.getD q st0=x at *;obtain ⟨y,val⟩:=x;simp only [StSz] at f0' hOu hvz g0' hOu';obtain ⟨va2,vc2,rfl⟩:=hOu.shape;obtain ⟨va2',vc2',rfl⟩:=hOu'.shape;have f0:=(hbr.cell (p:=⟨sb,soff+q*2,none⟩) hsb).trans f0';have f1:=(hbr.cell (p:=⟨sb,soff+q*2+1,none⟩) hsb).trans f1'
       have g0:=(hbr.cell (p:=⟨sb',soff' + q*2,none⟩) hsb').trans g0';have g1:=(hbr.cell (p:=⟨sb',soff' + q*2+1,none⟩) hsb').trans g1';have hso:=(fun w4 (hb:Below w.heap.size w w4)=>sameOps_true _ _ val w4 (by omega) (hOu.below hb) (hOu'.below hb))
       generalize val.length=vl at *;have hi0:(0:Int) <= (q:Int):=Int.natCast_nonneg _;have hi1:(q:Int) < (sn:Int):=by omega
       have hso2:=fun n=>hso (wr.drewN n) (below_drewN hbr _)
       clear hOu hOu' f0' f1' g0' g1' hso
       go_wp2_with fail
       go_quiet ((go_at_call 21;exact Calls.quiet_of (hso2 _)))
       go_wp2_with fail
       go_roundw
       case rel=>exact ⟨q+1,hqs,by go_num,d+nq,by rw [HD.out,World.drewN_drewN]⟩
       case measure=>simp [intOf];omega
      ·go_wp2_with fail
       go_roundw
       case rel=>exact ⟨k+1,hlt,by go_num,by rw [HD.out];exact below_drewN HA4.out _⟩
       case measure=>simp [intOf];omega
    ·go_wp2_with fail
     go_ret
     exact ⟨rfl,hbw⟩
