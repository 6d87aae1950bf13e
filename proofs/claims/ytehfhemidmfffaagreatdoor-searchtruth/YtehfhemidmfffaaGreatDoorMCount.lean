import Derived.Test.YtehfhemidmfffaaGreatDoorMCheck2
import Derived.Test.YtehfhemidmfffaaGreatDoorStates
namespace Go.Proofs.YtehfhemidmfffaaGreatDoor
open _root_.Int renaming mul_le_mul→jE
open Go.ChangeShapes Go.WideShapes Go.ChangeAt Go.RowKit Go.Deep
open Terms Tm
set_option maxHeartbeats 6400000
set_option maxRecDepth 20000
theorem K8(va:Value)(l:List Vr)(w:World)(hok:Bz l)(hV:VarsV w va l) :
  Calls Tryz.prog 84 #[va] w fun e w'=>e=.returned (.int .i64 (AL l l.length))/\Below w.heap.size w w':=by
 obtain⟨ao,cap,rfl⟩:=hV.shape;have HV:Hid (VarsV w (.slice ao l.length cap) l):=hV;have HOK:Hid (Bz l):=hok;have h6:=hok.1;obtain⟨n,hn⟩:∃n,n=l.length:=⟨_,rfl⟩;have HN:Hid (n=l.length):=hn;rw[<-hn]at h6 HV⊢;clear hV hn hok;go_enter Tryz.func84,Tryz.ntmps84;go_wp2;go_loopw [3,8] (fun st i wr=>∃k:Nat,k<=n/\i=.int .i64 k/\st=.int .i64 (AL l k)/\Below w.heap.size w wr) (fun _ i _=>n-(intOf i).toNat)
 case atStart=>exact⟨0,Nat.zero_le _,rfl,rfl,Below.refl _ _⟩
 case round=>
  obtain⟨k,hk,rfl,rfl,hbel⟩:=hrel;by_cases hlt:k<n
  .obtain ⟨b,off,rfl,hblt,hat⟩:=HV.out.at (i:=k) (by rw[<-HN.out];exact hlt);obtain⟨c0,c1,c2,c3⟩:=hat.below hbel hblt;have hpb:=HOK.out.prod (j:=k) (by rw[<-HN.out];exact hk);have hvb:=HOK.out.at (j:=k) (by rw[<-HN.out];exact hlt);have HPr:Hid (AL l (k+1)=AL l k*AN (l.getD k vr0)):=rfl;generalize AL l k=st at *;generalize l.getD k vr0=x at *;obtain⟨s,lo,hi,ini⟩:=x;simp only[AN]at c0 c1 c2 c3 HPr hvb;obtain⟨hv1,hv2,hv3,hv4,hv5,hv6,hv7⟩:=hvb;have hsp:=fun w=>Hs s lo hi ini w hv3 hv4 hv5
   obtain⟨sp,hspe⟩:∃sp,hi-lo+1=sp:=⟨_,rfl⟩;rw[hspe]at hv1 hv2 hsp HPr;clear hspe hat;have hm1:1<=st*sp:=by have:=jE hpb.1 hv1 (by omega) (by omega);simpa using this
   have hm2:st*sp<=262144:=by have:=jE hpb.2 hv2 (by omega) (by omega);simpa using this
   have hbA:=hbel.alloc hbel.size (.cells #[.string s,.int .i64 lo,.int .i64 hi,.int .i64 ini] 90);go_wp2_with (go_at_call 83;refine(hsp _).mono ?_;rintro e w3 ⟨rfl,hb3⟩)
   go_roundw
   case rel=>exact⟨k+1,hlt,by go_num,by rw[HPr.out],ae hbA hb3⟩
   case measure=>simp[intOf];omega
  .have hkn:k=n:=by omega
   subst hkn;go_wp2;go_ret;exact⟨rfl,hbel⟩
