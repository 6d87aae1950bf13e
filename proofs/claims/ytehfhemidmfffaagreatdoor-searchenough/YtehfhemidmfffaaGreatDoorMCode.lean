import Derived.Test.YtehfhemidmfffaaGreatDoorMCount
import Derived.Test.YtehfhemidmfffaaGreatDoorCodeRes
import Derived.Deep.RegionHeld3
open Go.Ending renaming returned→Q
open Go.IntKind renaming i64→Y
open Go.Obj renaming cells→T
open Go.RowKit renaming Below→V,Hid→S
open Go.Value renaming slice→U,int→Z
open _root_.Option renaming none→X,some→W
namespace Go.Proofs.YtehfhemidmfffaaGreatDoor
open Go.RowKit.Below renaming refl→qD
open _root_.Int renaming natCast_nonneg→jN
open _root_.Nat renaming le_refl→qB,le_succ→vD,lt_of_lt_of_le→qE,zero_le→qJ
open Go.Proofs.Tryz renaming prog→qA
open Go.ChangeShapes Go.WideShapes Go.ChangeAt Go.RowKit Go.Deep
open Terms Tm
set_option maxHeartbeats 6400000
set_option maxRecDepth 20000
theorem Km(va vv:Value)(l:List Vr)(vals:List Int)(w:World)(hok:Br l)(hlen:vals.length=l.length)(hin:∀i,i<l.length->inB l vals i)(hV:VarsV w va l)(hI:IntsV w vv vals) :
  Calls qA 56 #[va,vv] w fun e w'=>e=Q (Z Y (Bk l vals l.length))/\V w.heap.size w w':=by
 obtain⟨ao,cap,rfl⟩:=hV.shape;obtain⟨io,icap,rfl⟩:=hI.shape;have HV:S (VarsV w (U ao l.length cap) l):=hV;have HI:S (IntsV w (U io vals.length icap) vals):=hI;have HOK:S (Br l):=hok;have HIN:S (∀i,i<l.length->inB l vals i):=hin;have HLen:S (vals.length=l.length):=hlen;have h6:=hok.1;obtain⟨n,hn⟩:∃n,n=l.length:=⟨_,rfl⟩;have HN:S (n=l.length):=hn;rw[hlen,<-hn]at HI;rw[hlen,<-hn];rw[<-hn]at h6 HV;clear hV hI hn hok hin hlen;go_enter Tryz.func56,Tryz.ntmps56;go_wp2;go_loopw [5,10] (fun st i wr=>∃k:Nat,k<=n/\i=Z Y k/\st=Z Y (Bk l vals k)/\V w.heap.size w wr) (fun _ i _=>n-(intOf i).toNat)
 case atStart=>exact⟨0,qJ _,rfl,rfl,qD _ _⟩
 case round=>
  obtain⟨k,hk,rfl,rfl,hbel⟩:=hrel;by_cases hlt:k<n
  .obtain ⟨b,off,rfl,hblt,hat⟩:=HV.out.at (i:=k) (by rw[<-HN.out];exact hlt);obtain⟨ib,ioff,rfl,hilt,hic⟩:=HI.out.at (i:=k) (by rw[HLen.out,<-HN.out];exact hlt);obtain⟨c0,c1,c2,c3⟩:=hat.below hbel hblt;have hic2:=(hbel.cell (p:=⟨ib,ioff+k,X⟩) hilt).trans hic;have hcb:=IK HOK.out (k:=k) (by rw[<-HN.out];exact hk) (fun i hi=>HIN.out i (by rw[<-HN.out];omega));have hpb:=HOK.out.prod (j:=k) (by rw[<-HN.out];exact hk);have hvb:=HOK.out.at (j:=k) (by rw[<-HN.out];exact hlt);have hxb:=HIN.out k (by rw[<-HN.out];exact hlt);have HPr:S (Bk l vals (k+1)=Bk l vals k*AM (l.getD k vr0)+(vals.getD k 0-(l.getD k vr0).lo)):=rfl;unfold inB at hxb;generalize Bk l vals k=st at *;generalize AK l k=pr at *;generalize l.getD k vr0=x at *;generalize vals.getD k 0=y at *;obtain⟨s,lo,hi,ini⟩:=x;simp only[AM]at c0 c1 c2 c3 HPr hvb hxb
   obtain⟨hv1,hv2,hv3,hv4,hv5,hv6,hv7⟩:=hvb;have hsp:=fun w=>G6 s lo hi ini w hv3 hv4 hv5;obtain⟨sp,hspe⟩:∃sp,hi-lo+1=sp:=⟨_,rfl⟩;rw[hspe]at hv1 hv2 hsp HPr;clear hspe hat hic;have hm1:0<=st*sp:=Int.mul_nonneg hcb.1 (by omega);have hm2:st*sp<=262144:=by
    have h1:st<=4096:=by omega
    have:=Int.mul_le_mul h1 hv2 (by omega) (by omega);simpa using this
   have hw1:IntKind.i64.wrap (st*sp)=st*sp:=FH (by omega) (by omega);have hw2:IntKind.i64.wrap (st*sp+y)=st*sp+y:=FH (by omega) (by omega);have hw3:IntKind.i64.wrap (st*sp+y-lo)=st*sp+y-lo:=FH (by omega) (by omega);have hszw:=hbel.size;have hbA:=hbel.alloc hszw (T #[.string s,Z Y lo,Z Y hi,Z Y ini] 90);have hic3:=(((qD wr.heap.size wr).alloc (qB _) (T #[.string s,Z Y lo,Z Y hi,Z Y ini] 90)).cell (p:=⟨ib,ioff+k,X⟩) (by simp only;omega)).trans hic2;have hi0:(0:Int)<=(k:Int):=jN _;have hi1:(k:Int)<(n:Int):=by omega
   have hS0:∀w',V (wr.heap.size+1) (wr.alloc (T #[.string s,Z Y lo,Z Y hi,Z Y ini] 90)) w'->w'.cell? ⟨wr.heap.size,0,X⟩=W (.string s)/\w'.cell? ⟨wr.heap.size,1,X⟩=W (Z Y lo)/\w'.cell? ⟨wr.heap.size,2,X⟩=W (Z Y hi)/\w'.cell? ⟨wr.heap.size,3,X⟩=W (Z Y ini)/\w'.cell? ⟨ib,ioff+k,X⟩=W (Z Y y):=fun w' hw'=>
    ⟨(hw'.cell (p:=⟨wr.heap.size,0,X⟩) (by simp)).trans (by simp[go_sem]),(hw'.cell (p:=⟨wr.heap.size,1,X⟩) (by simp)).trans (by simp[go_sem]),(hw'.cell (p:=⟨wr.heap.size,2,X⟩) (by simp)).trans (by simp[go_sem]),(hw'.cell (p:=⟨wr.heap.size,3,X⟩) (by simp)).trans (by simp[go_sem]),(hw'.cell (p:=⟨ib,ioff+k,X⟩) (by simp only;omega)).trans hic3⟩
   have hB0:V (wr.heap.size+1) (wr.alloc (T #[.string s,Z Y lo,Z Y hi,Z Y ini] 90)) (wr.alloc (T #[.string s,Z Y lo,Z Y hi,Z Y ini] 90)):=qD _ _;clear hic3 hic2;go_wp2_with fail
   go_region_held3 (fun w'=>w'.cell? ⟨wr.heap.size,0,X⟩=W (.string s)/\w'.cell? ⟨wr.heap.size,1,X⟩=W (Z Y lo)/\w'.cell? ⟨wr.heap.size,2,X⟩=W (Z Y hi)/\w'.cell? ⟨wr.heap.size,3,X⟩=W (Z Y ini)/\w'.cell? ⟨ib,ioff+k,X⟩=W (Z Y y))
    (exact hS0 _ (by first|exact hB0|exact hB0.drew|exact hB0.drew.trans (hb2.mono (by simp))))
    (first|(go_at_call 83;refine(hsp _).mono ?_;rintro e w2 ⟨rfl,hb2⟩))
   go_wp2_with fail
   go_roundw
   case rel=>exact⟨k+1,hlt,by go_num,by rw[HPr.out];first|(congr 1;omega)|(simp[hw1,hw2,hw3];omega),hbA.drew.trans (hb2.mono (by simp;omega))⟩
   case measure=>simp[intOf];omega
  .have hkn:k=n:=by omega
   subst hkn;go_wp2;go_ret;exact⟨rfl,hbel⟩
theorem Rr(va vr vv:Value)(m:Mo)(w:World)(hB:0<w.heap.size)(hT:AH w)(hV:Av w va vr m)(io:Option Addr)(il ic:Nat)(hv:vv=U io il ic)(h:mcode m≠0) :
  Calls qA 174 #[.agg #[va,vr],vv] w fun e w'=>e=Q (.tuple #[Z Y 0,Z Y (mcode m)])/\V w.heap.size w w':=by
 subst hv;have hA:∀o,V w.heap.size w (w.alloc o):=fun o=>(qD _ _).alloc (qB _) o;have hch:=fun o=>C5 va vr m (w.alloc o) (qE hB (hA o).size) (hT.below (hA o) hB) (hV.below (hA o));obtain⟨ao,cap,rfl⟩:=hV.1.shape;obtain⟨ro,rc,rfl⟩:=hV.2.shape;generalize mcode m=x at *;generalize m.vars.length=n at *;generalize m.rules.length=rn at *;clear hV hT
 go_enter Tryz.func174,Tryz.ntmps174;go_wp2_with (go_at_call 55;refine(hch _).mono ?_;rintro e w1 ⟨rfl,hb1⟩)
 go_ret2;exact⟨rfl,(hA _).trans (hb1.mono (hA _).size)⟩
theorem Rs(va vr vv:Value)(m:Mo)(w:World)(hB:0<w.heap.size)(hT:AH w)(hV:Av w va vr m)(io:Option Addr)(il ic:Nat)(hv:vv=U io il ic)(h:mcode m=0)(hl:il≠m.vars.length) :
  Calls qA 174 #[.agg #[va,vr],vv] w fun e w'=>e=Q (.tuple #[Z Y 0,Z Y 9])/\V w.heap.size w w':=by
 subst hv;have hA:∀o,V w.heap.size w (w.alloc o):=fun o=>(qD _ _).alloc (qB _) o;have hch:=fun o=>C5 va vr m (w.alloc o) (qE hB (hA o).size) (hT.below (hA o) hB) (hV.below (hA o));rw[h]at hch;obtain⟨ao,cap,rfl⟩:=hV.1.shape;obtain⟨ro,rc,rfl⟩:=hV.2.shape;generalize m.vars.length=n at *;generalize m.rules.length=rn at *;have hne:((il:Int) == (n:Int))=false:=by rw[beq_eq_false_iff_ne];omega
 clear hV hT h;go_enter Tryz.func174,Tryz.ntmps174;go_wp2_with (go_at_call 55;refine(hch _).mono ?_;rintro e w1 ⟨rfl,hb1⟩;have hcb:w1.cell? ⟨w.heap.size,0,X⟩=W (U ao n cap):=(hb1.cell (p:=⟨w.heap.size,0,X⟩) (by simp)).trans (by simp[go_sem]))
 all_goals first|(exfalso;omega)|go_ret2
 all_goals exact⟨rfl,(hA _).trans (hb1.mono (hA _).size)⟩
theorem Rt(va vr vv:Value)(m:Mo)(vals:List Int)(w:World)(hB:0<w.heap.size)(hT:AH w)(hV:Av w va vr m)(hI:IntsV w vv vals)(h:mcode m=0)(hlen:vals.length=m.vars.length) :
  Calls qA 174 #[.agg #[va,vr],vv] w fun e w'=>e=Q (.tuple #[Z Y (Cf m vals),Z Y (B0 m vals)])/\V w.heap.size w w':=by
 have hA:∀o,V w.heap.size w (w.alloc o):=fun o=>(qD _ _).alloc (qB _) o;have hch:=fun o=>C5 va vr m (w.alloc o) (qE hB (hA o).size) (hT.below (hA o) hB) (hV.below (hA o));rw[h]at hch;have hok:=Cu h;have h6:=hok.1;have hcf:=(fun w1 (hb:V w.heap.size w w1) (hin:∀i,i<m.vars.length->inB m.vars vals i)=>Km va vv m.vars vals w1 hok hlen hin (hV.1.below hb) (hI.below hb));obtain⟨ao,cap,rfl⟩:=hV.1.shape;obtain⟨ro,rc,rfl⟩:=hV.2.shape;obtain⟨io,icap,rfl⟩:=hI.shape;have HCF:=(show S _ from hcf);have HV:S (VarsV w (U ao m.vars.length cap) m.vars):=hV.1;have HI:S (IntsV w (U io vals.length icap) vals):=hI;have HYes:S ((∀i,i<m.vars.length->inB m.vars vals i)->B0 m vals=0/\Cf m vals=Bk m.vars vals m.vars.length):=fun hin=>by
  have h1:=Kd h ⟨hlen,hin⟩;exact⟨h1,by unfold Cf;rw[if_pos h1]⟩
 have HNo:S (∀k,k<m.vars.length->¬inB m.vars vals k->B0 m vals=9/\Cf m vals=0):=fun k hk hin=>by
  have h1:=IF h (vals:=vals) (fun h=>hin (h.2 k hk));exact⟨h1,by unfold Cf;rw[h1,if_neg (by decide)]⟩
 have HLen:S (vals.length=m.vars.length):=hlen;obtain⟨n,hn⟩:∃n,n=m.vars.length:=⟨_,rfl⟩;have HN:S (n=m.vars.length):=hn;rw[hlen]at HCF HI⊢;rw[<-hn]at h6 hch HCF HV HI HYes HNo⊢;generalize m.rules.length=rn at *;generalize B0 m vals=cc at *;generalize Cf m vals=cv at *;clear hV hI hT hcf hlen hn hok h
 go_enter Tryz.func174,Tryz.ntmps174;go_wp2_with (go_at_call 55;refine(hch _).mono ?_;rintro e w1 ⟨rfl,hb1⟩;have hcb:w1.cell? ⟨w.heap.size,0,X⟩=W (U ao n cap):=(hb1.cell (p:=⟨w.heap.size,0,X⟩) (by simp)).trans (by simp[go_sem]))
 have hb1':V (w.heap.size+1) (w.alloc (T #[U ao n cap,U ro rn rc] 31)) w1:=hb1.mono (by simp);clear hch hcb hb1;go_loopw [23] (fun i wr=>∃k:Nat,k<=n/\i=Z Y k/\S (∀i,i<k->inB m.vars vals i)/\V (w.heap.size+1) (w.alloc (T #[U ao n cap,U ro rn rc] 31)) wr) (fun i _=>n-(intOf i).toNat)
 case atStart=>exact⟨0,qJ _,rfl,fun j hj=>by omega,hb1'⟩
 case round=>
  obtain⟨k,hk,rfl,HJ,hbelB⟩:=hrel;clear hb1';have hbel:=(hA _).trans (hbelB.mono (vD _));have hszb:w.heap.size+1<=wr.heap.size:=by have:=hbelB.size;simp at this;omega
  have cb:=(hbelB.cell (p:=⟨w.heap.size,0,X⟩) (by simp)).trans (show _=W (U ao n cap) by simp[go_sem]);by_cases hlt:k<n
  .obtain ⟨b,off,rfl,hblt,hat⟩:=HV.out.at (i:=k) (by rw[<-HN.out];exact hlt);obtain⟨ib,ioff,rfl,hilt,hic⟩:=HI.out.at (i:=k) (by rw[HLen.out,<-HN.out];exact hlt);obtain⟨c0,c1,c2,c3⟩:=hat.below hbel hblt;have hic2:=(hbel.cell (p:=⟨ib,ioff+k,X⟩) hilt).trans hic;have HNk:=(show S _ from HNo.out k hlt);have HJ2:S (inB m.vars vals k->∀i,i<k+1->inB m.vars vals i):=fun h i hi=>by
    by_cases hik:i=k
    .subst hik;exact h
    .exact HJ.out i (by omega)
   unfold inB at HNk;have HJ3:S ((m.vars.getD k vr0).lo<=vals.getD k 0/\vals.getD k 0<=(m.vars.getD k vr0).hi->∀i,i<k+1->inB m.vars vals i):=fun h=>HJ2.out h;generalize m.vars.getD k vr0=x at *;generalize vals.getD k 0=y at *;obtain⟨s,lo,hi,ini⟩:=x;simp only at c0 c1 c2 c3 HNk HJ3
   have hwi:=fun w=>Nc s lo hi ini y w;clear hat hic HJ2 HJ;have hbA:=hbelB.alloc hszb (T #[.string s,Z Y lo,Z Y hi,Z Y ini] 90);have hbwA:=(hA _).trans (hbA.mono (vD _));have hic3:=(((qD wr.heap.size wr).alloc (qB _) (T #[.string s,Z Y lo,Z Y hi,Z Y ini] 90)).cell (p:=⟨ib,ioff+k,X⟩) (by simp only;omega)).trans hic2;have hi0:(0:Int)<=(k:Int):=jN _;have hi1:(k:Int)<(n:Int):=by omega
   have hS0:∀w',V (wr.heap.size+1) (wr.alloc (T #[.string s,Z Y lo,Z Y hi,Z Y ini] 90)) w'->w'.cell? ⟨wr.heap.size,0,X⟩=W (.string s)/\w'.cell? ⟨wr.heap.size,1,X⟩=W (Z Y lo)/\w'.cell? ⟨wr.heap.size,2,X⟩=W (Z Y hi)/\w'.cell? ⟨wr.heap.size,3,X⟩=W (Z Y ini)/\w'.cell? ⟨ib,ioff+k,X⟩=W (Z Y y):=fun w' hw'=>
    ⟨(hw'.cell (p:=⟨wr.heap.size,0,X⟩) (by simp)).trans (by simp[go_sem]),(hw'.cell (p:=⟨wr.heap.size,1,X⟩) (by simp)).trans (by simp[go_sem]),(hw'.cell (p:=⟨wr.heap.size,2,X⟩) (by simp)).trans (by simp[go_sem]),(hw'.cell (p:=⟨wr.heap.size,3,X⟩) (by simp)).trans (by simp[go_sem]),(hw'.cell (p:=⟨ib,ioff+k,X⟩) (by simp only;omega)).trans hic3⟩
   have hB0:V (wr.heap.size+1) (wr.alloc (T #[.string s,Z Y lo,Z Y hi,Z Y ini] 90)) (wr.alloc (T #[.string s,Z Y lo,Z Y hi,Z Y ini] 90)):=qD _ _;clear hic3 hic2;by_cases hin:lo<=y/\y<=hi
   .rw[decide_eq_true hin]at hwi;have HJ4:=(show S _ from HJ3.out hin);clear hin HJ3 HNk HNo HYes HCF;go_wp2_with fail
    go_region_held3 (fun w'=>w'.cell? ⟨wr.heap.size,0,X⟩=W (.string s)/\w'.cell? ⟨wr.heap.size,1,X⟩=W (Z Y lo)/\w'.cell? ⟨wr.heap.size,2,X⟩=W (Z Y hi)/\w'.cell? ⟨wr.heap.size,3,X⟩=W (Z Y ini)/\w'.cell? ⟨ib,ioff+k,X⟩=W (Z Y y))
     (exact hS0 _ (by first|exact hB0|exact hB0.drew|exact hB0.drew.trans (hb2.mono (by simp))))
     (first|(go_at_call 139;refine(hwi _).mono ?_;rintro e w2 ⟨rfl,hb2⟩))
    go_wp2_with fail
    go_roundw
    case rel=>exact⟨k+1,hlt,by go_num,HJ4,hbA.drew.trans (hb2.mono (by simp;omega))⟩
    case measure=>simp[intOf];omega
   .rw[decide_eq_false hin]at hwi;have HR:=(show S _ from HNk.out hin);clear hin HJ3 HNk HNo HYes HCF;go_wp2_with fail
    go_region_held3 (fun w'=>w'.cell? ⟨wr.heap.size,0,X⟩=W (.string s)/\w'.cell? ⟨wr.heap.size,1,X⟩=W (Z Y lo)/\w'.cell? ⟨wr.heap.size,2,X⟩=W (Z Y hi)/\w'.cell? ⟨wr.heap.size,3,X⟩=W (Z Y ini)/\w'.cell? ⟨ib,ioff+k,X⟩=W (Z Y y))
     (exact hS0 _ (by first|exact hB0|exact hB0.drew|exact hB0.drew.trans (hb2.mono (by simp))))
     (first|(go_at_call 139;refine(hwi _).mono ?_;rintro e w2 ⟨rfl,hb2⟩))
    go_wp2_with fail
    go_ret2;rw[HR.out.1,HR.out.2];exact⟨rfl,hbwA.drew.trans (hb2.mono hbwA.size)⟩
  .have hkn:k=n:=by omega
   subst hkn;have HR:=(show S _ from HYes.out HJ.out);have hcf:=HCF.out wr hbel HJ.out;generalize Bk m.vars vals k=cd at *;clear HJ HYes HNo HCF
   go_wp2_with (go_at_call 56;refine hcf.mono ?_;rintro e w2 ⟨rfl,hb2⟩)
   go_ret2;rw[HR.out.1,HR.out.2];exact⟨rfl,hbel.trans (hb2.mono hbel.size)⟩
theorem Rw(va vr vv:Value)(m:Mo)(vals:List Int)(w:World)(hB:0<w.heap.size)(hT:AH w)(hV:Av w va vr m)(hI:IntsV w vv vals) :
  Calls qA 174 #[.agg #[va,vr],vv] w fun e w'=>e=Q (.tuple #[Z Y (Cf m vals),Z Y (B0 m vals)])/\V w.heap.size w w':=by
 obtain⟨io,ic,hv⟩:=hI.shape;by_cases h:mcode m=0
 .by_cases hl:vals.length=m.vars.length
  .exact Rt va vr vv m vals w hB hT hV hI h hl
  .have h9:=IF h (vals:=vals) (fun h=>hl h.1);unfold Cf;rw[h9,if_neg (by decide)];exact Rs va vr vv m w hB hT hV io _ ic hv h hl
 .have h9:=On (vals:=vals) h;unfold Cf;rw[h9,if_neg h];exact Rr va vr vv m w hB hT hV io _ ic hv h
