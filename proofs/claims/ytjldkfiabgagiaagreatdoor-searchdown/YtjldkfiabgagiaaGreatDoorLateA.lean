/- Joined texts. -/
import Derived.Test.YtjldkfiabgagiaaGreatDoorMCount
import Derived.Test.YtjldkfiabgagiaaGreatDoorCodeRes
import Derived.Test.YtjldkfiabgagiaaGreatDoorDesignOpen
import Derived.Test.YtjldkfiabgagiaaGreatDoorBools
import Derived.Shelf.Sort.Plain
import Derived.Ground.Names2Prog
import Derived.Shelf.Slices.CompactI
import Derived.Shelf.Slices.SearchI
import Derived.Shelf.Slices.In.SortNone
import Derived.Shelf.Slices.Empties
import Derived.Sort.OwnSortedInts
import Derived.Lib.OwnBridge
import Derived.Lib.RowBridge
import Derived.Lib.AppendZeros
import Derived.RangeFuncNested
import Derived.RangeFuncBound
import Derived.RangeFuncCalls
import Derived.RangeFuncLeaves
import Derived.Shelf.Abstract
import Derived.Shelf.RegionOpen
import Derived.OwnWalkIn
import Derived.TacticsInMore
import Derived.LoopNIn
import Derived.LoopIn
open Go renaming World→T,Value→Q,Calls→I
open Go.Ending renaming returned→S
open Go.IntKind renaming i64→V
open Go.Obj renaming cells→M
open Go.RowKit renaming Below→U,Hid→O
open Go.Value renaming slice→Y,agg→ZZ,tuple→G,pointer→E,int→ZX
open _root_.Bool renaming false→ZY
open _root_.Option renaming none→Z,some→X
namespace Go.Proofs.YtjldkfiabgagiaaGreatDoor
open Go.ChangeShapes Go.WideShapes Go.ChangeAt Go.RowKit Go.Deep
open Terms Tm
set_option maxHeartbeats 6400000
set_option maxRecDepth 20000
theorem Kv(va vv:Q)(l:List Vr)(vals:List Int)(w:T)(hok:Bu l)(hlen:vals.length=l.length)(hin:∀i,i<l.length->inB l vals i)(hV:VarsV w va l)(hI:IntsV w vv vals) :
  I Tryz.prog 47 #[va,vv] w fun e w'=>e=S (.int V (Bn l vals l.length))/\U w.heap.size w w':=by
 obtain⟨ao,cap,rfl⟩:=hV.shape;obtain⟨io,icap,rfl⟩:=hI.shape;have HV:O (VarsV w (.slice ao l.length cap) l):=hV;have HI:O (IntsV w (.slice io vals.length icap) vals):=hI;have HOK:O (Bu l):=hok;have HIN:O (∀i,i<l.length->inB l vals i):=hin;have HLen:O (vals.length=l.length):=hlen;have h6:=hok.1;obtain⟨n,hn⟩:∃n,n=l.length:=⟨_,rfl⟩;have HN:O (n=l.length):=hn;rw[hlen,<-hn]at HI;rw[hlen,<-hn];rw[<-hn]at h6 HV;clear hV hI hn hok hin hlen;go_enter Tryz.func47,Tryz.ntmps47;go_wp2;go_loopw [5,10] (fun st i wr=>∃k:Nat,k<=n/\i=.int V k/\st=.int V (Bn l vals k)/\U w.heap.size w wr) (fun _ i _=>n-(intOf i).toNat)
 case atStart=>exact⟨0,Nat.zero_le _,rfl,rfl,Below.refl _ _⟩
 case round=>
  obtain⟨k,hk,rfl,rfl,hbel⟩:=hrel;by_cases hlt:k<n
  .obtain ⟨b,off,rfl,hblt,hat⟩:=HV.out.at (i:=k) (by rw[<-HN.out];exact hlt);obtain⟨ib,ioff,rfl,hilt,hic⟩:=HI.out.at (i:=k) (by rw[HLen.out,<-HN.out];exact hlt);obtain⟨c0,c1,c2,c3⟩:=hat.below hbel hblt;have hic2:=(hbel.cell (p:=⟨ib,ioff+k,Z⟩) hilt).trans hic;have hcb:=IY HOK.out (k:=k) (by rw[<-HN.out];exact hk) (fun i hi=>HIN.out i (by rw[<-HN.out];omega));have hpb:=HOK.out.prod (j:=k) (by rw[<-HN.out];exact hk);have hvb:=HOK.out.at (j:=k) (by rw[<-HN.out];exact hlt);have hxb:=HIN.out k (by rw[<-HN.out];exact hlt);have HPr:O (Bn l vals (k+1)=Bn l vals k*AM (l.getD k vr0)+(vals.getD k 0-(l.getD k vr0).lo)):=rfl;unfold inB at hxb;generalize Bn l vals k=st at *;generalize AK l k=pr at *;generalize l.getD k vr0=x at *;generalize vals.getD k 0=y at *;obtain⟨s,lo,hi,ini⟩:=x;simp only[AM]at c0 c1 c2 c3 HPr hvb hxb
   obtain⟨hv1,hv2,hv3,hv4,hv5,hv6,hv7⟩:=hvb;have hsp:=fun w=>He s lo hi ini w hv3 hv4 hv5;obtain⟨sp,hspe⟩:∃sp,hi-lo+1=sp:=⟨_,rfl⟩;rw[hspe]at hv1 hv2 hsp HPr;clear hspe hat hic;have hm1:0<=st*sp:=Int.mul_nonneg hcb.1 (by omega);have hm2:st*sp<=262144:=by
    have h1:st<=4096:=by omega
    have:=Int.mul_le_mul h1 hv2 (by omega) (by omega);simpa using this
   have hw1:IntKind.i64.wrap (st*sp)=st*sp:=F2 (by omega) (by omega);have hw2:IntKind.i64.wrap (st*sp+y)=st*sp+y:=F2 (by omega) (by omega);have hw3:IntKind.i64.wrap (st*sp+y-lo)=st*sp+y-lo:=F2 (by omega) (by omega);have hszw:=hbel.size;have hbA:=hbel.alloc hszw (M #[.string s,.int V lo,.int V hi,.int V ini] 81);have hic3:=(((Below.refl wr.heap.size wr).alloc (Nat.le_refl _) (M #[.string s,.int V lo,.int V hi,.int V ini] 81)).cell (p:=⟨ib,ioff+k,Z⟩) (by simp only;omega)).trans hic2;have hi0:(0:Int)<=(k:Int):=Int.natCast_nonneg _;have hi1:(k:Int)<(n:Int):=by omega
   have hS0:∀w',U (wr.heap.size+1) (wr.alloc (M #[.string s,.int V lo,.int V hi,.int V ini] 81)) w'->w'.cell? ⟨wr.heap.size,0,Z⟩=X (.string s)/\w'.cell? ⟨wr.heap.size,1,Z⟩=X (.int V lo)/\w'.cell? ⟨wr.heap.size,2,Z⟩=X (.int V hi)/\w'.cell? ⟨wr.heap.size,3,Z⟩=X (.int V ini)/\w'.cell? ⟨ib,ioff+k,Z⟩=X (.int V y):=fun w' hw'=>
    ⟨(hw'.cell (p:=⟨wr.heap.size,0,Z⟩) (by simp)).trans (by simp[go_sem]),(hw'.cell (p:=⟨wr.heap.size,1,Z⟩) (by simp)).trans (by simp[go_sem]),(hw'.cell (p:=⟨wr.heap.size,2,Z⟩) (by simp)).trans (by simp[go_sem]),(hw'.cell (p:=⟨wr.heap.size,3,Z⟩) (by simp)).trans (by simp[go_sem]),(hw'.cell (p:=⟨ib,ioff+k,Z⟩) (by simp only;omega)).trans hic3⟩
   have hB0:U (wr.heap.size+1) (wr.alloc (M #[.string s,.int V lo,.int V hi,.int V ini] 81)) (wr.alloc (M #[.string s,.int V lo,.int V hi,.int V ini] 81)):=Below.refl _ _;clear hic3 hic2;go_wp2_with fail
   go_region_held3 (fun w'=>w'.cell? ⟨wr.heap.size,0,Z⟩=X (.string s)/\w'.cell? ⟨wr.heap.size,1,Z⟩=X (.int V lo)/\w'.cell? ⟨wr.heap.size,2,Z⟩=X (.int V hi)/\w'.cell? ⟨wr.heap.size,3,Z⟩=X (.int V ini)/\w'.cell? ⟨ib,ioff+k,Z⟩=X (.int V y))
    (exact hS0 _ (by first|exact hB0|exact hB0.drew|exact hB0.drew.trans (hb2.mono (by simp))))
    (first|(go_at_call 67;refine(hsp _).mono ?_;rintro e w2 ⟨rfl,hb2⟩))
   go_wp2_with fail
   go_roundw
   case rel=>exact⟨k+1,hlt,by go_num,by rw[HPr.out];first|(congr 1;omega)|(simp[hw1,hw2,hw3];omega),hbA.drew.trans (hb2.mono (by simp;omega))⟩
   case measure=>simp[intOf];omega
  .have hkn:k=n:=by omega
   subst hkn;go_wp2;go_ret;exact⟨rfl,hbel⟩
theorem Rv(va vr vv:Q)(m:Mo)(w:T)(hB:0<w.heap.size)(hT:AH w)(hV:Ax w va vr m)(io:Option Addr)(il ic:Nat)(hv:vv=Y io il ic)(h:mcode m≠0) :
  I Tryz.prog 162 #[ZZ #[va,vr],vv] w fun e w'=>e=S (G #[ZX V 0,.int V (mcode m)])/\U w.heap.size w w':=by
 subst hv;have hA:∀o,U w.heap.size w (w.alloc o):=fun o=>(Below.refl _ _).alloc (Nat.le_refl _) o;have hch:=fun o=>C6 va vr m (w.alloc o) (Nat.lt_of_lt_of_le hB (hA o).size) (hT.below (hA o) hB) (hV.below (hA o));obtain⟨ao,cap,rfl⟩:=hV.1.shape;obtain⟨ro,rc,rfl⟩:=hV.2.shape;generalize mcode m=x at *;generalize m.vars.length=n at *;generalize m.rules.length=rn at *;clear hV hT
 go_enter Tryz.func162,Tryz.ntmps162;go_wp2_with (go_at_call 46;refine(hch _).mono ?_;rintro e w1 ⟨rfl,hb1⟩)
 go_ret2;exact⟨rfl,(hA _).trans (hb1.mono (hA _).size)⟩
theorem Rw(va vr vv:Q)(m:Mo)(w:T)(hB:0<w.heap.size)(hT:AH w)(hV:Ax w va vr m)(io:Option Addr)(il ic:Nat)(hv:vv=Y io il ic)(h:mcode m=0)(hl:il≠m.vars.length) :
  I Tryz.prog 162 #[ZZ #[va,vr],vv] w fun e w'=>e=S (G #[ZX V 0,.int V 9])/\U w.heap.size w w':=by
 subst hv;have hA:∀o,U w.heap.size w (w.alloc o):=fun o=>(Below.refl _ _).alloc (Nat.le_refl _) o;have hch:=fun o=>C6 va vr m (w.alloc o) (Nat.lt_of_lt_of_le hB (hA o).size) (hT.below (hA o) hB) (hV.below (hA o));rw[h]at hch;obtain⟨ao,cap,rfl⟩:=hV.1.shape;obtain⟨ro,rc,rfl⟩:=hV.2.shape;generalize m.vars.length=n at *;generalize m.rules.length=rn at *;have hne:((il:Int) == (n:Int))=false:=by rw[beq_eq_false_iff_ne];omega
 clear hV hT h;go_enter Tryz.func162,Tryz.ntmps162;go_wp2_with (go_at_call 46;refine(hch _).mono ?_;rintro e w1 ⟨rfl,hb1⟩;have hcb:w1.cell? ⟨w.heap.size,0,Z⟩=X (Y ao n cap):=(hb1.cell (p:=⟨w.heap.size,0,Z⟩) (by simp)).trans (by simp[go_sem]))
 all_goals first|(exfalso;omega)|go_ret2
 all_goals exact⟨rfl,(hA _).trans (hb1.mono (hA _).size)⟩
theorem Rx(va vr vv:Q)(m:Mo)(vals:List Int)(w:T)(hB:0<w.heap.size)(hT:AH w)(hV:Ax w va vr m)(hI:IntsV w vv vals)(h:mcode m=0)(hlen:vals.length=m.vars.length) :
  I Tryz.prog 162 #[ZZ #[va,vr],vv] w fun e w'=>e=S (G #[ZX V (Ce m vals),.int V (B0 m vals)])/\U w.heap.size w w':=by
 have hA:∀o,U w.heap.size w (w.alloc o):=fun o=>(Below.refl _ _).alloc (Nat.le_refl _) o;have hch:=fun o=>C6 va vr m (w.alloc o) (Nat.lt_of_lt_of_le hB (hA o).size) (hT.below (hA o) hB) (hV.below (hA o));rw[h]at hch;have hok:=Cv h;have h6:=hok.1;have hcf:=(fun w1 (hb:U w.heap.size w w1) (hin:∀i,i<m.vars.length->inB m.vars vals i)=>Kv va vv m.vars vals w1 hok hlen hin (hV.1.below hb) (hI.below hb));obtain⟨ao,cap,rfl⟩:=hV.1.shape;obtain⟨ro,rc,rfl⟩:=hV.2.shape;obtain⟨io,icap,rfl⟩:=hI.shape;have HCF:=(show O _ from hcf);have HV:O (VarsV w (.slice ao m.vars.length cap) m.vars):=hV.1;have HI:O (IntsV w (.slice io vals.length icap) vals):=hI;have HYes:O ((∀i,i<m.vars.length->inB m.vars vals i)->B0 m vals=0/\Ce m vals=Bn m.vars vals m.vars.length):=fun hin=>by
  have h1:=Km h ⟨hlen,hin⟩;exact⟨h1,by unfold Ce;rw[if_pos h1]⟩
 have HNo:O (∀k,k<m.vars.length->¬inB m.vars vals k->B0 m vals=9/\Ce m vals=0):=fun k hk hin=>by
  have h1:=IR h (vals:=vals) (fun h=>hin (h.2 k hk));exact⟨h1,by unfold Ce;rw[h1,if_neg (by decide)]⟩
 have HLen:O (vals.length=m.vars.length):=hlen;obtain⟨n,hn⟩:∃n,n=m.vars.length:=⟨_,rfl⟩;have HN:O (n=m.vars.length):=hn;rw[hlen]at HCF HI⊢;rw[<-hn]at h6 hch HCF HV HI HYes HNo⊢;generalize m.rules.length=rn at *;generalize B0 m vals=cc at *;generalize Ce m vals=cv at *;clear hV hI hT hcf hlen hn hok h
 go_enter Tryz.func162,Tryz.ntmps162;go_wp2_with (go_at_call 46;refine(hch _).mono ?_;rintro e w1 ⟨rfl,hb1⟩;have hcb:w1.cell? ⟨w.heap.size,0,Z⟩=X (Y ao n cap):=(hb1.cell (p:=⟨w.heap.size,0,Z⟩) (by simp)).trans (by simp[go_sem]))
 have hb1':U (w.heap.size+1) (w.alloc (M #[Y ao n cap,Y ro rn rc] 31)) w1:=hb1.mono (by simp);clear hch hcb hb1;go_loopw [23] (fun i wr=>∃k:Nat,k<=n/\i=.int V k/\O (∀i,i<k->inB m.vars vals i)/\U (w.heap.size+1) (w.alloc (M #[Y ao n cap,Y ro rn rc] 31)) wr) (fun i _=>n-(intOf i).toNat)
 case atStart=>exact⟨0,Nat.zero_le _,rfl,fun j hj=>by omega,hb1'⟩
 case round=>
  obtain⟨k,hk,rfl,HJ,hbelB⟩:=hrel;clear hb1';have hbel:=(hA _).trans (hbelB.mono (Nat.le_succ _));have hszb:w.heap.size+1<=wr.heap.size:=by have:=hbelB.size;simp at this;omega
  have cb:=(hbelB.cell (p:=⟨w.heap.size,0,Z⟩) (by simp)).trans (show _=X (Y ao n cap) by simp[go_sem]);by_cases hlt:k<n
  .obtain ⟨b,off,rfl,hblt,hat⟩:=HV.out.at (i:=k) (by rw[<-HN.out];exact hlt);obtain⟨ib,ioff,rfl,hilt,hic⟩:=HI.out.at (i:=k) (by rw[HLen.out,<-HN.out];exact hlt);obtain⟨c0,c1,c2,c3⟩:=hat.below hbel hblt;have hic2:=(hbel.cell (p:=⟨ib,ioff+k,Z⟩) hilt).trans hic;have HNk:=(show O _ from HNo.out k hlt);have HJ2:O (inB m.vars vals k->∀i,i<k+1->inB m.vars vals i):=fun h i hi=>by
    by_cases hik:i=k
    .subst hik;exact h
    .exact HJ.out i (by omega)
   unfold inB at HNk;have HJ3:O ((m.vars.getD k vr0).lo<=vals.getD k 0/\vals.getD k 0<=(m.vars.getD k vr0).hi->∀i,i<k+1->inB m.vars vals i):=fun h=>HJ2.out h;generalize m.vars.getD k vr0=x at *;generalize vals.getD k 0=y at *;obtain⟨s,lo,hi,ini⟩:=x;simp only at c0 c1 c2 c3 HNk HJ3
   have hwi:=fun w=>Ng s lo hi ini y w;clear hat hic HJ2 HJ;have hbA:=hbelB.alloc hszb (M #[.string s,.int V lo,.int V hi,.int V ini] 81);have hbwA:=(hA _).trans (hbA.mono (Nat.le_succ _));have hic3:=(((Below.refl wr.heap.size wr).alloc (Nat.le_refl _) (M #[.string s,.int V lo,.int V hi,.int V ini] 81)).cell (p:=⟨ib,ioff+k,Z⟩) (by simp only;omega)).trans hic2;have hi0:(0:Int)<=(k:Int):=Int.natCast_nonneg _;have hi1:(k:Int)<(n:Int):=by omega
   have hS0:∀w',U (wr.heap.size+1) (wr.alloc (M #[.string s,.int V lo,.int V hi,.int V ini] 81)) w'->w'.cell? ⟨wr.heap.size,0,Z⟩=X (.string s)/\w'.cell? ⟨wr.heap.size,1,Z⟩=X (.int V lo)/\w'.cell? ⟨wr.heap.size,2,Z⟩=X (.int V hi)/\w'.cell? ⟨wr.heap.size,3,Z⟩=X (.int V ini)/\w'.cell? ⟨ib,ioff+k,Z⟩=X (.int V y):=fun w' hw'=>
    ⟨(hw'.cell (p:=⟨wr.heap.size,0,Z⟩) (by simp)).trans (by simp[go_sem]),(hw'.cell (p:=⟨wr.heap.size,1,Z⟩) (by simp)).trans (by simp[go_sem]),(hw'.cell (p:=⟨wr.heap.size,2,Z⟩) (by simp)).trans (by simp[go_sem]),(hw'.cell (p:=⟨wr.heap.size,3,Z⟩) (by simp)).trans (by simp[go_sem]),(hw'.cell (p:=⟨ib,ioff+k,Z⟩) (by simp only;omega)).trans hic3⟩
   have hB0:U (wr.heap.size+1) (wr.alloc (M #[.string s,.int V lo,.int V hi,.int V ini] 81)) (wr.alloc (M #[.string s,.int V lo,.int V hi,.int V ini] 81)):=Below.refl _ _;clear hic3 hic2;by_cases hin:lo<=y/\y<=hi
   .rw[decide_eq_true hin]at hwi;have HJ4:=(show O _ from HJ3.out hin);clear hin HJ3 HNk HNo HYes HCF;go_wp2_with fail
    go_region_held3 (fun w'=>w'.cell? ⟨wr.heap.size,0,Z⟩=X (.string s)/\w'.cell? ⟨wr.heap.size,1,Z⟩=X (.int V lo)/\w'.cell? ⟨wr.heap.size,2,Z⟩=X (.int V hi)/\w'.cell? ⟨wr.heap.size,3,Z⟩=X (.int V ini)/\w'.cell? ⟨ib,ioff+k,Z⟩=X (.int V y))
     (exact hS0 _ (by first|exact hB0|exact hB0.drew|exact hB0.drew.trans (hb2.mono (by simp))))
     (first|(go_at_call 121;refine(hwi _).mono ?_;rintro e w2 ⟨rfl,hb2⟩))
    go_wp2_with fail
    go_roundw
    case rel=>exact⟨k+1,hlt,by go_num,HJ4,hbA.drew.trans (hb2.mono (by simp;omega))⟩
    case measure=>simp[intOf];omega
   .rw[decide_eq_false hin]at hwi;have HR:=(show O _ from HNk.out hin);clear hin HJ3 HNk HNo HYes HCF;go_wp2_with fail
    go_region_held3 (fun w'=>w'.cell? ⟨wr.heap.size,0,Z⟩=X (.string s)/\w'.cell? ⟨wr.heap.size,1,Z⟩=X (.int V lo)/\w'.cell? ⟨wr.heap.size,2,Z⟩=X (.int V hi)/\w'.cell? ⟨wr.heap.size,3,Z⟩=X (.int V ini)/\w'.cell? ⟨ib,ioff+k,Z⟩=X (.int V y))
     (exact hS0 _ (by first|exact hB0|exact hB0.drew|exact hB0.drew.trans (hb2.mono (by simp))))
     (first|(go_at_call 121;refine(hwi _).mono ?_;rintro e w2 ⟨rfl,hb2⟩))
    go_wp2_with fail
    go_ret2;rw[HR.out.1,HR.out.2];exact⟨rfl,hbwA.drew.trans (hb2.mono hbwA.size)⟩
  .have hkn:k=n:=by omega
   subst hkn;have HR:=(show O _ from HYes.out HJ.out);have hcf:=HCF.out wr hbel HJ.out;generalize Bn m.vars vals k=cd at *;clear HJ HYes HNo HCF
   go_wp2_with (go_at_call 47;refine hcf.mono ?_;rintro e w2 ⟨rfl,hb2⟩)
   go_ret2;rw[HR.out.1,HR.out.2];exact⟨rfl,hbel.trans (hb2.mono hbel.size)⟩
theorem Rz(va vr vv:Q)(m:Mo)(vals:List Int)(w:T)(hB:0<w.heap.size)(hT:AH w)(hV:Ax w va vr m)(hI:IntsV w vv vals) :
  I Tryz.prog 162 #[ZZ #[va,vr],vv] w fun e w'=>e=S (G #[ZX V (Ce m vals),.int V (B0 m vals)])/\U w.heap.size w w':=by
 obtain⟨io,ic,hv⟩:=hI.shape;by_cases h:mcode m=0
 .by_cases hl:vals.length=m.vars.length
  .exact Rx va vr vv m vals w hB hT hV hI h hl
  .have h9:=IR h (vals:=vals) (fun h=>hl h.1);unfold Ce;rw[h9,if_neg (by decide)];exact Rw va vr vv m w hB hT hV io _ ic hv h hl
 .have h9:=Ou (vals:=vals) h;unfold Ce;rw[h9,if_neg h];exact Rv va vr vv m w hB hT hV io _ ic hv h
noncomputable def As(m:Mo)(code:Int):Int:=if mcode m=0 then(if 0<=code/\code<AK m.vars m.vars.length then 0 else 9)else mcode m
theorem Vh{m:Mo}{code:Int}(h:mcode m≠0):As m code=mcode m:=by unfold As;rw[if_neg h]
theorem Nd{m:Mo}{code:Int}(h:mcode m=0)(h2:¬(0<=code/\code<AK m.vars m.vars.length)):As m code=9:=by unfold As;rw[if_pos h,if_neg h2]
theorem ED{m:Mo}{code:Int}(h:mcode m=0)(h2:0<=code/\code<AK m.vars m.vars.length):As m code=0:=by unfold As;rw[if_pos h,if_pos h2]
theorem Gh{w:T}{B n:Nat}{f:Nat->Int}(h:w.rowIs B 3 n (fun j=>.int V (f j))):IntsV w (Y (X ⟨B,0,Z⟩) n n) ((List.range n).map f):=by
 refine⟨X ⟨B,0,Z⟩,n,by simp,fun _=>⟨B,0,rfl,h.lt,fun i hi=>?_⟩⟩;simp only[List.length_map,List.length_range]at hi;rw[Nat.zero_add,h.cell hi];simp[List.getD_eq_getElem?_getD,hi]
noncomputable def FM(m:Mo)(code:Int):List Int:=if As m code=0 then A8 m.vars code else []
theorem MA(va vr:Q)(m:Mo)(code:Int)(w:T)(hB:0<w.heap.size)(hT:AH w)(hV:Ax w va vr m)(h:mcode m=0)(hc:0<=code/\code<AK m.vars m.vars.length) :
  I Tryz.prog 48 #[ZZ #[va,vr],.int V code] w fun e w'=>∃B,e=S (G #[Y (X ⟨B,0,Z⟩) m.vars.length m.vars.length,.int V 0])/\w.heap.size<=B/\U w.heap.size w w'/\w'.rowIs B 3 m.vars.length (fun j=>.int V (F1 m.vars code j)):=by
 have hA:∀o,U w.heap.size w (w.alloc o):=fun o=>(Below.refl _ _).alloc (Nat.le_refl _) o;have hch:=fun o=>C6 va vr m (w.alloc o) (Nat.lt_of_lt_of_le hB (hA o).size) (hT.below (hA o) hB) (hV.below (hA o));rw[h]at hch;have hok:=Cv h;have HOK:O (Bu m.vars):=hok;have h6:=hok.1;have hcf:=(fun w1 (hb:U w.heap.size w w1)=>Ky va m.vars w1 hok (hV.1.below hb));obtain⟨ao,cap,rfl⟩:=hV.1.shape;obtain⟨ro,rc,rfl⟩:=hV.2.shape;have HV:O (VarsV w (.slice ao m.vars.length cap) m.vars):=hV.1;have hN:=hok.prod (j:=m.vars.length) (Nat.le_refl _);have HS0:O (Bz m.vars m.vars.length=1):=UN _;obtain⟨hc1,hc2⟩:=hc;generalize AK m.vars m.vars.length=N at *;obtain⟨n,hn⟩:∃n,n=m.vars.length:=⟨_,rfl⟩
 have HN:O (n=m.vars.length):=hn;rw[<-hn]at h6 hch hcf HV HS0⊢;generalize m.rules.length=rn at *;have hmk:=run_make_row' (P:=Tryz.prog) 39 3 (.int V 0) 8 Tryz.underlying39 Bd rfl .i64 .i64 n (by omega) (by omega)
 clear hV hT hn hok h;go_enter Tryz.func48,Tryz.ntmps48;go_wp2_with (first|(go_at_call 46;refine(hch _).mono ?_;rintro e w1 ⟨rfl,hb1⟩;have hcb:w1.cell? ⟨w.heap.size,0,Z⟩=X (Y ao n cap):=(hb1.cell (p:=⟨w.heap.size,0,Z⟩) (by simp)).trans (by simp[go_sem]);have hbw:=(hA _).trans (hb1.mono (hA _).size);have hs1:w.heap.size<w1.heap.size:=(by have:=hb1.size;simp at this;omega))|(go_at_call 68;refine(hcf _ hbw).mono ?_;rintro e w2 ⟨rfl,hb2⟩;have hcb2:=(hb2.cell (p:=⟨w.heap.size,0,Z⟩) hs1).trans hcb))
 have hbw2:=hbw.trans (hb2.mono hbw.size);have hrow0:=World.rowIs_made w2 (.int V 0) n 3;have hs2:=Nat.lt_of_lt_of_le hs1 hb2.size;have HB2:O (U w.heap.size w w2):=hbw2;have hcb3:=hcb2;clear hch hcf hmk hb1 hb2 hcb hbw hs1 hbw2 hcb2;go_loopw [1,8] (fun cd i wr=>∃k:Nat,k<=n/\i=.int V ((k:Int)-1)/\cd=.int V (code / Bz m.vars k)/\O (wr.rowIs w2.heap.size 3 n (fun j=>if k<=j then .int V (F1 m.vars code j)else .int V 0))/\O (U w2.heap.size w2 wr)) (fun _ i _=>(intOf i+1).toNat)
 case atStart=>exact⟨n,Nat.le_refl _,by first|rfl|go_num,by rw[HS0.out];simp,hrow0.congr (fun i hi=>by rw[if_neg (by omega)]),(Below.refl _ _).alloc (Nat.le_refl _) _⟩
 case round=>
  obtain⟨k,hk,rfl,rfl,HRow,HBel⟩:=hrel;have hbel:=HBel.out;have hrow:=HRow.out;have hbw:=HB2.out.trans (hbel.mono HB2.out.size);have hszr:=hrow.lt;have cb:=(hbel.cell (p:=⟨w.heap.size,0,Z⟩) hs2).trans hcb3;by_cases hk0:0<k
  .obtain ⟨k,rfl⟩:∃k',k=k'+1:=⟨k-1,by omega⟩;rw[show(((k+1:Nat):Int)-1)=(k:Int) by omega];have hlt:k<n:=by omega
   obtain⟨b,off,rfl,hblt,hat⟩:=HV.out.at (i:=k) (by rw[<-HN.out];exact hlt);obtain⟨c0,c1,c2,c3⟩:=hat.below hbw hblt;have hvb:=HOK.out.at (j:=k) (by rw[<-HN.out];exact hlt);have hsg:=NA HOK.out (i:=k+1) (by rw[<-HN.out];exact hlt);have HQ:O (code / Bz m.vars (k+1) / AM (m.vars.getD k vr0)=code / Bz m.vars k):=TX HOK.out code (by rw[<-HN.out];exact hlt);have HVa:O (F1 m.vars code k=(m.vars.getD k vr0).lo+(code / Bz m.vars (k+1)) % AM (m.vars.getD k vr0)):=rfl;have hq0:0<=code / Bz m.vars (k+1):=Int.ediv_nonneg hc1 (by omega);have hq1:code / Bz m.vars (k+1)<=4096:=by
    have:=Int.ediv_le_self (Bz m.vars (k+1)) hc1;omega
   have hf:wr.frozen? ⟨w2.heap.size,k,Z⟩=false:=hrow.frozen k;have hcl:wr.cell? ⟨w2.heap.size,k,Z⟩=X (.int V 0):=by rw[hrow.cell hlt,if_neg (by omega)]
   generalize code / Bz m.vars (k+1)=cd at *;generalize m.vars.getD k vr0=x at *;obtain⟨s,lo,hi,ini⟩:=x;simp only[AM]at c0 c1 c2 c3 HQ HVa hvb;obtain⟨hv1,hv2,hv3,hv4,hv5,hv6,hv7⟩:=hvb;have hsp:=fun w=>He s lo hi ini w hv3 hv4 hv5
   obtain⟨sp,hspe⟩:∃sp,hi-lo+1=sp:=⟨_,rfl⟩;rw[hspe]at hv1 hv2 hsp HQ HVa;clear hspe hat;have hr0:=Int.emod_nonneg cd (show sp≠0 by omega);have hr1:=Int.emod_lt_of_pos cd (show 0<sp by omega);have hi0:(0:Int)<=(k:Int):=Int.natCast_nonneg _;have hi1:(k:Int)<(n:Int):=by omega
   have hsz0:¬sp=0:=by omega
   have hsz1:(sp == 0)=false:=by rw[beq_eq_false_iff_ne];omega
   have ht:cd.tmod sp=cd % sp:=Int.tmod_eq_emod_of_nonneg hq0;have htd:cd.tdiv sp=cd / sp:=Int.tdiv_eq_ediv_of_nonneg hq0;have hd0:=Int.ediv_nonneg hq0 (show 0<=sp by omega);have hd1:=Int.ediv_le_self sp hq0;have hw0:IntKind.i64.wrap (cd % sp)=cd % sp:=F2 (by omega) (by omega);have hw1:IntKind.i64.wrap (lo+cd % sp)=lo+cd % sp:=F2 (by omega) (by omega);have hbA:=hbel.alloc (Nat.le_of_lt hszr) (M #[.string s,.int V lo,.int V hi,.int V ini] 81);have HBA:=(show O _ from hbA);have hfA:=hrow.alloc (M #[.string s,.int V lo,.int V hi,.int V ini] 81);have HRA:=(show O _ from hfA);have hS0:∀w',U (wr.heap.size+1) (wr.alloc (M #[.string s,.int V lo,.int V hi,.int V ini] 81)) w'->w'.cell? ⟨wr.heap.size,0,Z⟩=X (.string s)/\w'.cell? ⟨wr.heap.size,1,Z⟩=X (.int V lo)/\w'.cell? ⟨wr.heap.size,2,Z⟩=X (.int V hi)/\w'.cell? ⟨wr.heap.size,3,Z⟩=X (.int V ini):=fun w' hw'=>
    ⟨(hw'.cell (p:=⟨wr.heap.size,0,Z⟩) (by simp)).trans (by simp[go_sem]),(hw'.cell (p:=⟨wr.heap.size,1,Z⟩) (by simp)).trans (by simp[go_sem]),(hw'.cell (p:=⟨wr.heap.size,2,Z⟩) (by simp)).trans (by simp[go_sem]),(hw'.cell (p:=⟨wr.heap.size,3,Z⟩) (by simp)).trans (by simp[go_sem])⟩
   have hne:∀j:Nat,(⟨wr.heap.size,j,Z⟩:Addr)≠⟨w2.heap.size,k,Z⟩:=fun j h=>by injection h with h1;omega
   have hS1:∀w' v,U (wr.heap.size+1) (wr.alloc (M #[.string s,.int V lo,.int V hi,.int V ini] 81)) w'->(w'.setCell ⟨w2.heap.size,k,Z⟩ v).cell? ⟨wr.heap.size,0,Z⟩=X (.string s)/\(w'.setCell ⟨w2.heap.size,k,Z⟩ v).cell? ⟨wr.heap.size,1,Z⟩=X (.int V lo)/\(w'.setCell ⟨w2.heap.size,k,Z⟩ v).cell? ⟨wr.heap.size,2,Z⟩=X (.int V hi)/\(w'.setCell ⟨w2.heap.size,k,Z⟩ v).cell? ⟨wr.heap.size,3,Z⟩=X (.int V ini):=fun w' v hw'=>by
    obtain⟨a0,a1,a2,a3⟩:=hS0 w' hw';exact⟨(World.cell?_setCell_other _ _ _ _ (hne 0).symm).trans a0,(World.cell?_setCell_other _ _ _ _ (hne 1).symm).trans a1,(World.cell?_setCell_other _ _ _ _ (hne 2).symm).trans a2,(World.cell?_setCell_other _ _ _ _ (hne 3).symm).trans a3⟩
   have hB0:U (wr.heap.size+1) (wr.alloc (M #[.string s,.int V lo,.int V hi,.int V ini] 81)) (wr.alloc (M #[.string s,.int V lo,.int V hi,.int V ini] 81)).drew:=(Below.refl _ _).drew;have hrw:=fun w' (hw':U (wr.heap.size+1) (wr.alloc (M #[.string s,.int V lo,.int V hi,.int V ini] 81)) w')=>hfA.of_block (hw'.block w2.heap.size (by omega));have hcf3:∀w',U (wr.heap.size+1) (wr.alloc (M #[.string s,.int V lo,.int V hi,.int V ini] 81)) w'->w'.frozen? ⟨w2.heap.size,k,Z⟩=ZY/\w'.cell? ⟨w2.heap.size,k,Z⟩=X (.int V 0):=fun w' hw'=>⟨(hrw w' hw').frozen k,by rw[(hrw w' hw').cell hlt,if_neg (by omega)]⟩;have HRw:=(show O _ from hrw);clear hfA hbA hrw hbel hrow hbw;go_wp2_with fail
   go_region_held3 (fun w'=>w'.cell? ⟨wr.heap.size,0,Z⟩=X (.string s)/\w'.cell? ⟨wr.heap.size,1,Z⟩=X (.int V lo)/\w'.cell? ⟨wr.heap.size,2,Z⟩=X (.int V hi)/\w'.cell? ⟨wr.heap.size,3,Z⟩=X (.int V ini))
    (first|exact hS0 _ hB0|exact hS0 _ (hB0.trans (hb3.mono (by simp)))|exact hS1 _ _ (hB0.trans (hb3.mono (by simp))))
    (first|(go_at_call 67;refine(hsp _).mono ?_;rintro e w3 ⟨rfl,hb3⟩;obtain⟨hf3,hc3⟩:=hcf3 _ (hB0.trans (hb3.mono (by simp)))))
   have hB3:=hB0.trans (hb3.mono (by simp));obtain⟨e0,e1,e2,e3⟩:=hS1 w3 (.int V (lo+cd % sp)) hB3;have hs3:wr.heap.size<w3.heap.size:=by have:=hb3.size;simp at this;omega
   have hrow4:∀w4,U w3.heap.size (w3.setCell ⟨w2.heap.size,k,Z⟩ (.int V (lo+cd % sp))) w4->w4.rowIs w2.heap.size 3 n (fun j=>if k<=j then .int V (F1 m.vars code j)else .int V 0)/\U w2.heap.size w2 w4:=fun w4 h4=>by
    refine⟨(((HRw.out w3 hB3).set k (.int V (lo+cd % sp))).of_block (h4.block w2.heap.size (by omega))).congr fun j hj=>?_,?_⟩
    .by_cases hjk:j=k
     .subst hjk;rw[if_pos rfl,if_pos (Nat.le_refl _),HVa.out]
     .rw[if_neg hjk];by_cases hkj:k+1<=j
      .rw[if_pos hkj,if_pos (by omega)]
      .rw[if_neg hkj,if_neg (by omega)]
    .exact ((HBA.out.trans (hB3.mono (by omega))).setCell (by simp) _).trans (h4.mono (by omega))
   have HR4:=(show O _ from hrow4);clear hrow4 hf hcl hf3 hc3 hcf3 hS0 hS1;go_wp2_with (go_at_call 67;refine(hsp _).mono ?_;rintro e w4 ⟨rfl,hb4⟩)
   have hb4':U w3.heap.size (w3.setCell ⟨w2.heap.size,k,Z⟩ (.int V (lo+cd % sp))) w4:=hb4.mono (by simp);go_roundw
   case rel=>exact⟨k,by omega,by first|rfl|go_num,by rw[<-HQ.out],(HR4.out _ hb4').1,(HR4.out _ hb4').2⟩
   case measure=>simp[intOf]
  .have hk0:k=0:=by omega
   subst hk0;go_wp2;go_ret2;exact⟨w2.heap.size,rfl,HB2.out.size,hbw,hrow.congr (fun i hi=>by rw[if_pos (by omega)])⟩
theorem SO(va vr:Q)(m:Mo)(code:Int)(w:T)(hB:0<w.heap.size)(hT:AH w)(hV:Ax w va vr m)(h:mcode m≠0) :
  I Tryz.prog 48 #[ZZ #[va,vr],.int V code] w fun e w'=>e=S (G #[Y Z 0 0,.int V (mcode m)])/\U w.heap.size w w':=by
 have hA:∀o,U w.heap.size w (w.alloc o):=fun o=>(Below.refl _ _).alloc (Nat.le_refl _) o;have hch:=fun o=>C6 va vr m (w.alloc o) (Nat.lt_of_lt_of_le hB (hA o).size) (hT.below (hA o) hB) (hV.below (hA o));obtain⟨ao,cap,rfl⟩:=hV.1.shape;obtain⟨ro,rc,rfl⟩:=hV.2.shape;generalize mcode m=x at *;generalize m.vars.length=n at *;generalize m.rules.length=rn at *;clear hV hT
 go_enter Tryz.func48,Tryz.ntmps48;go_wp2_with (go_at_call 46;refine(hch _).mono ?_;rintro e w1 ⟨rfl,hb1⟩)
 go_ret2;exact⟨rfl,(hA _).trans (hb1.mono (hA _).size)⟩
theorem SP(va vr:Q)(m:Mo)(code:Int)(w:T)(hB:0<w.heap.size)(hT:AH w)(hV:Ax w va vr m)(h:mcode m=0)(hc:¬(0<=code/\code<AK m.vars m.vars.length)) :
  I Tryz.prog 48 #[ZZ #[va,vr],.int V code] w fun e w'=>e=S (G #[Y Z 0 0,.int V 9])/\U w.heap.size w w':=by
 have hA:∀o,U w.heap.size w (w.alloc o):=fun o=>(Below.refl _ _).alloc (Nat.le_refl _) o;have hch:=fun o=>C6 va vr m (w.alloc o) (Nat.lt_of_lt_of_le hB (hA o).size) (hT.below (hA o) hB) (hV.below (hA o));rw[h]at hch;have hok:=Cv h;have hcf:=(fun w1 (hb:U w.heap.size w w1)=>Ky va m.vars w1 hok (hV.1.below hb));obtain⟨ao,cap,rfl⟩:=hV.1.shape;obtain⟨ro,rc,rfl⟩:=hV.2.shape;have hN:=hok.prod (j:=m.vars.length) (Nat.le_refl _);generalize AK m.vars m.vars.length=N at *;generalize m.vars.length=n at *;generalize m.rules.length=rn at *;clear hV hT hok h
 by_cases h0:code<0
 .clear hc;go_enter Tryz.func48,Tryz.ntmps48;go_wp2_with (go_at_call 46;refine(hch _).mono ?_;rintro e w1 ⟨rfl,hb1⟩)
  go_ret2;exact⟨rfl,(hA _).trans (hb1.mono (hA _).size)⟩
 .have h1:N<=code:=by omega
  clear hc;go_enter Tryz.func48,Tryz.ntmps48;go_wp2_with (first|(go_at_call 46;refine(hch _).mono ?_;rintro e w1 ⟨rfl,hb1⟩;have hcb:w1.cell? ⟨w.heap.size,0,Z⟩=X (Y ao n cap):=(hb1.cell (p:=⟨w.heap.size,0,Z⟩) (by simp)).trans (by simp[go_sem]);have hbw:=(hA _).trans (hb1.mono (hA _).size))|(go_at_call 68;refine(hcf _ hbw).mono ?_;rintro e w2 ⟨rfl,hb2⟩))
  go_ret2;exact⟨rfl,hbw.trans (hb2.mono hbw.size)⟩
theorem L9(va vr:Q)(m:Mo)(code:Int)(w:T)(hB:0<w.heap.size)(hT:AH w)(hV:Ax w va vr m) :
  I Tryz.prog 48 #[ZZ #[va,vr],.int V code] w fun e w'=>∃v,e=S (G #[v,.int V (As m code)])/\U w.heap.size w w'/\IntsV w' v (FM m code):=by
 by_cases h:mcode m=0
 .by_cases hc:0<=code/\code<AK m.vars m.vars.length
  .have h0:=ED h hc;unfold FM;rw[h0,if_pos rfl];exact(MA va vr m code w hB hT hV h hc).mono fun e w' ⟨B,he,_,hb,hr⟩=>⟨_,he,hb,Gh hr⟩
  .have h0:=Nd h hc;unfold FM;rw[h0,if_neg (by decide)];exact(SP va vr m code w hB hT hV h hc).mono fun e w' ⟨he,hb⟩=>⟨_,he,hb,Z,0,rfl,fun h=>absurd rfl h⟩
 .have h0:=Vh (code:=code) h;unfold FM;rw[h0,if_neg h];exact(SO va vr m code w hB hT hV h).mono fun e w' ⟨he,hb⟩=>⟨_,he,hb,Z,0,rfl,fun h=>absurd rfl h⟩
theorem LV(l:List Vr):(Bg l).length=l.length:=by simp[Bg]
theorem Q1{l:List Vr}{i:Nat}(h:i<l.length):(Bg l).getD i 0=(l.getD i vr0).ini:=by
 simp[Bg,List.getD_eq_getElem?_getD,h]
theorem SA(va vr:Q)(m:Mo)(w:T)(hB:0<w.heap.size)(hT:AH w)(hV:Ax w va vr m)(h:mcode m=0) :
  I Tryz.prog 29 #[ZZ #[va,vr]] w fun e w'=>e=S (G #[ZX V (Bn m.vars (Bg m.vars) m.vars.length),.int V 0])/\U w.heap.size w w':=by
 have hA:∀o,U w.heap.size w (w.alloc o):=fun o=>(Below.refl _ _).alloc (Nat.le_refl _) o;have hch:=fun o=>C6 va vr m (w.alloc o) (Nat.lt_of_lt_of_le hB (hA o).size) (hT.below (hA o) hB) (hV.below (hA o));rw[h]at hch;have hok:=Cv h;have h6:=hok.1;have hcf:=(fun vv w1 (hb:U w.heap.size w w1) (hI:IntsV w1 vv (Bg m.vars))=>Kv va vv m.vars (Bg m.vars) w1 hok (LV _) (LW hok) (hV.1.below hb) hI);obtain⟨ao,cap,rfl⟩:=hV.1.shape;obtain⟨ro,rc,rfl⟩:=hV.2.shape;have HCF:=(show O _ from hcf);have HV:O (VarsV w (.slice ao m.vars.length cap) m.vars):=hV.1;have HIn:O (∀i,i<m.vars.length->(Bg m.vars).getD i 0=(m.vars.getD i vr0).ini):=fun i hi=>Q1 hi;have HLn:O ((Bg m.vars).length=m.vars.length):=LV _;generalize Bn m.vars (Bg m.vars) m.vars.length=res at *;obtain⟨n,hn⟩:∃n,n=m.vars.length:=⟨_,rfl⟩
 have HN:O (n=m.vars.length):=hn;rw[<-hn]at h6 hch HCF HV HIn HLn⊢;generalize m.rules.length=rn at *;have hmk:=run_make_row' (P:=Tryz.prog) 39 3 (.int V 0) 8 Tryz.underlying39 Bd rfl .i64 .i64 n (by omega) (by omega)
 clear hV hT hn hok h hcf;go_enter Tryz.func29,Tryz.ntmps29;go_wp2_with (go_at_call 46;refine(hch _).mono ?_;rintro e w1 ⟨rfl,hb1⟩;have hcb:w1.cell? ⟨w.heap.size,0,Z⟩=X (Y ao n cap):=(hb1.cell (p:=⟨w.heap.size,0,Z⟩) (by simp)).trans (by simp[go_sem]);have hs1:w.heap.size<w1.heap.size:=(by have:=hb1.size;simp at this;omega);have hcbA:∀o,(w1.alloc o).cell? ⟨w.heap.size,0,Z⟩=X (Y ao n cap):=(fun o=>(((Below.refl w1.heap.size w1).alloc (Nat.le_refl _) o).cell (p:=⟨w.heap.size,0,Z⟩) hs1).trans hcb))
 have hbw:=(hA _).trans (hb1.mono (hA _).size);have hrow0:=World.rowIs_made w1 (.int V 0) n 3;have HB1:O (U w.heap.size w w1):=hbw;clear hch hmk hb1 hbw hcbA;go_loopw [20] (fun i wr=>∃k:Nat,k<=n/\i=.int V k/\O (wr.rowIs w1.heap.size 3 n (fun j=>if j<k then .int V ((Bg m.vars).getD j 0)else .int V 0))/\O (U w1.heap.size w1 wr)) (fun i _=>n-(intOf i).toNat)
 case atStart=>exact⟨0,Nat.zero_le _,rfl,hrow0.congr (fun i hi=>by rw[if_neg (by omega)]),(Below.refl _ _).alloc (Nat.le_refl _) _⟩
 case round=>
  obtain⟨k,hk,rfl,HRow,HBel⟩:=hrel;have hbel:=HBel.out;have hrow:=HRow.out;have hbw:=HB1.out.trans (hbel.mono HB1.out.size);have hszr:=hrow.lt;have cb:=(hbel.cell (p:=⟨w.heap.size,0,Z⟩) hs1).trans hcb;by_cases hlt:k<n
  .obtain ⟨b,off,rfl,hblt,hat⟩:=HV.out.at (i:=k) (by rw[<-HN.out];exact hlt);obtain⟨c0,c1,c2,c3⟩:=hat.below hbw hblt;have HIk:=(show O _ from HIn.out k hlt);have hA2:=fun o=>hrow.alloc o;have hf:∀o,(wr.alloc o).frozen? ⟨w1.heap.size,k,Z⟩=false:=fun o=>(hA2 o).frozen k;have hcl:∀o,(wr.alloc o).cell? ⟨w1.heap.size,k,Z⟩=X (.int V 0):=fun o=>by rw[(hA2 o).cell hlt,if_neg (by omega)]
   generalize m.vars.getD k vr0=x at *;obtain⟨s,lo,hi,ini⟩:=x;simp only at c0 c1 c2 c3 HIk
   have hfin:(((wr.setCell ⟨w1.heap.size,k,Z⟩ (.int V ini)).alloc (M #[.string s,.int V lo,.int V hi,.int V ini] 81)).rowIs w1.heap.size 3 n (fun j=>if j<k+1 then .int V ((Bg m.vars).getD j 0)else .int V 0)):=((hrow.set k (.int V ini)).alloc _).congr fun j hj=>by
    by_cases hjk:j=k
    .subst hjk;rw[if_pos rfl,if_pos (by omega),HIk.out]
    .rw[if_neg hjk];by_cases hlk:j<k
     .rw[if_pos hlk,if_pos (by omega)]
     .rw[if_neg hlk,if_neg (by omega)]
   have hbA:=(hbel.setCell (p:=⟨w1.heap.size,k,Z⟩) (Nat.le_refl _) (.int V ini)).alloc (by simp;omega) (M #[.string s,.int V lo,.int V hi,.int V ini] 81);have HF:=(show O _ from hfin);have HBA:=(show O _ from hbA);have hfs:=hf (M #[.string s,.int V lo,.int V hi,.int V ini] 81);have hcs:=hcl (M #[.string s,.int V lo,.int V hi,.int V ini] 81);clear hat hA2 hf hcl hfin hbA hrow hbel hrow0;go_wp2_with fail
   go_roundw
   case rel=>exact⟨k+1,hlt,by go_num,HF.out,HBA.out⟩
   case measure=>simp[intOf];omega
  .have hkn:k=n:=by omega
   subst hkn;have hI:IntsV wr (Y (X ⟨w1.heap.size,0,Z⟩) k k) (Bg m.vars):=by
    have:=Gh (hrow.congr (g:=fun j=>.int V ((Bg m.vars).getD j 0)) (fun i hi=>by rw[if_pos hi]));have e:(List.range k).map (fun j=>(Bg m.vars).getD j 0)=Bg m.vars:=by
     apply List.ext_getElem?
     intro i;by_cases hi:i<k
     .simp[hi,List.getD_eq_getElem?_getD,show i<(Bg m.vars).length by rw[HLn.out];exact hi]
     .simp[hi,show¬i<(Bg m.vars).length by rw[HLn.out];exact hi]
    rwa[e]at this
   have hcf:=HCF.out _ wr hbw hI;clear hI hrow HCF HRow hrow0;go_wp2_with (go_at_call 47;refine hcf.mono ?_;rintro e w2 ⟨rfl,hb2⟩)
   go_ret2;exact⟨rfl,hbw.trans (hb2.mono hbw.size)⟩
theorem R9(va vr:Q)(m:Mo)(w:T)(hB:0<w.heap.size)(hT:AH w)(hV:Ax w va vr m)(h:mcode m≠0) :
  I Tryz.prog 29 #[ZZ #[va,vr]] w fun e w'=>e=S (G #[ZX V 0,.int V (mcode m)])/\U w.heap.size w w':=by
 have hA:∀o,U w.heap.size w (w.alloc o):=fun o=>(Below.refl _ _).alloc (Nat.le_refl _) o;have hch:=fun o=>C6 va vr m (w.alloc o) (Nat.lt_of_lt_of_le hB (hA o).size) (hT.below (hA o) hB) (hV.below (hA o));obtain⟨ao,cap,rfl⟩:=hV.1.shape;obtain⟨ro,rc,rfl⟩:=hV.2.shape;generalize mcode m=x at *;generalize m.vars.length=n at *;generalize m.rules.length=rn at *;clear hV hT
 go_enter Tryz.func29,Tryz.ntmps29;go_wp2_with (go_at_call 46;refine(hch _).mono ?_;rintro e w1 ⟨rfl,hb1⟩)
 go_ret2;exact⟨rfl,(hA _).trans (hb1.mono (hA _).size)⟩
theorem R8(va vr:Q)(m:Mo)(w:T)(hB:0<w.heap.size)(hT:AH w)(hV:Ax w va vr m) :
  I Tryz.prog 29 #[ZZ #[va,vr]] w fun e w'=>e=S (G #[ZX V (if mcode m=0 then Bn m.vars (Bg m.vars) m.vars.length else 0),.int V (mcode m)])/\U w.heap.size w w':=by
 by_cases h:mcode m=0
 .rw[if_pos h,h];exact SA va vr m w hB hT hV h
 .rw[if_neg h];exact R9 va vr m w hB hT hV h
structure GV(a b:Vr):Prop where
 na:a.name=bX
 nb:b.name=bY
 a0:-1<=a.lo
 a1:a.lo<=1
 a2:a.lo<=a.hi
 a3:a.hi<=a.lo+3
 a4:a.lo<=a.ini
 a5:a.ini<=a.hi
 b0:-1<=b.lo
 b1:b.lo<=1
 b2:b.lo<=b.hi
 b3:b.hi<=b.lo+3
 b4:b.lo<=b.ini
 b5:b.ini<=b.hi
theorem Qm(sp0 sp1 lw0 lw1 iv0 iv1:Int):∃a b,E6 sp0 sp1 lw0 lw1 iv0 iv1=[a,b]/\GV a b:=by
 obtain⟨p0,p1,p2,p3,p4,p5⟩:=LS bX sp0 lw0 iv0;obtain⟨q0,q1,q2,q3,q4,q5⟩:=LS bY sp1 lw1 iv1;exact⟨_,_,rfl,⟨rfl,rfl,p0,p1,p2,p3,p4,p5,q0,q1,q2,q3,q4,q5⟩⟩
theorem GV.sa{a b:Vr}(h:GV a b):1<=AM a/\AM a<=4:=by
 have:=h.a2;have:=h.a3;unfold AM;omega
theorem GV.sb{a b:Vr}(h:GV a b):1<=AM b/\AM b<=4:=by
 have:=h.b2;have:=h.b3;unfold AM;omega
theorem GV.prod{a b:Vr}(h:GV a b):1<=AM a*AM b/\AM a*AM b<=16:=by
 have h1:=h.sa;have h2:=h.sb;have h3:=Int.mul_le_mul h1.1 h2.1 (by omega) (by omega);have h4:=Int.mul_le_mul h1.2 h2.2 (by omega) (by omega);omega
theorem R7{a b:Vr}(h:GV a b)(l:List Vr):Ci (a::b::l) 1 b.name=false:=by
 show(decide (a.name=b.name)||false)=ZY;rw[h.na,h.nb];simp[bXY]
theorem GV.vAt{a b:Vr}(h:GV a b)(l:List Vr):vAt (a::b::l) 0=0/\vAt (a::b::l) 1=0:=by
 have h1:=h.sa;have h2:=h.sb;obtain⟨na,nb,p0,p1,p2,p3,p4,p5,q0,q1,q2,q3,q4,q5⟩:=h;have v0:CH a=true:=by simp only[CH,decide_eq_true_eq];omega
 have v1:CH b=true:=by simp only[CH,decide_eq_true_eq];omega
 refine⟨(Ju (l:=a::b::l) (k:=0) rfl rfl).2.2.2.2 (by rw[show((a::b::l).getD 0 vr0).name=bX from na];exact ST) rfl v0 ?_,(Ju (l:=a::b::l) (k:=1) rfl rfl).2.2.2.2 (by rw[show((a::b::l).getD 1 vr0).name=bY from nb];exact SU) (R7 ⟨na,nb,p0,p1,p2,p3,p4,p5,q0,q1,q2,q3,q4,q5⟩ l) v1 ?_⟩
 .show¬(64<AM a\/4096<1*AM a);omega
 .show¬(64<AM b\/4096<(1*AM a)*AM b);rw[Int.one_mul];have:=Int.mul_le_mul h1.2 h2.2 (by omega) (by omega);omega
theorem GV.vcode{a b:Vr}(h:GV a b):vcode [a,b]=0:=by
 unfold Go.Proofs.YtjldkfiabgagiaaGreatDoor.vcode;rw[if_neg (by simp)];refine DS fun j hj=>?_;have hj2:j=0\/j=1:=by simp at hj;omega
 rcases hj2 with rfl|rfl
 .exact (h.vAt []).1
 .exact (h.vAt []).2
theorem GV.mcode{a b:Vr}(h:GV a b){rules:List Ru}(h5:rules.length<=12)(hr:∀j,j<rules.length->BG 2 (rules.getD j ru0)=0):mcode ⟨[a,b],rules⟩=0:=by
 unfold Go.Proofs.YtjldkfiabgagiaaGreatDoor.mcode;rw[if_pos h.vcode,if_neg (show¬12<rules.length by omega)];exact DS hr
theorem TQ(a b:Vr):AK [a,b] 2=AM a*AM b:=by
 show(1*AM a)*AM b=_;rw[Int.one_mul]
section
variable{a b:Vr}{va vr:Q}{w:T}
theorem GModel.shape{w:T}{va vr:Q}{x y:Vr}(h:GModel w va vr [x,y]):∃ao cap ro rn rc,va=Y ao 2 cap/\vr=Y ro rn rc/\rn<=5:=by
 obtain⟨rules,h1,h2,h3⟩:=h;obtain⟨ao,cap,e1⟩:=h1.1.shape;obtain⟨ro,rc,e2⟩:=h1.2.shape;exact⟨ao,cap,ro,_,rc,e1,e2,h2⟩
end
theorem PlansV.below{w w':T}{v:Q}{l:List Pl}(h:PlansV w v l)(hb:U w.heap.size w w'):PlansV w' v l:=SlV.imp h hb.size fun b _ _ hlt _ ⟨⟨u,h1,h2⟩,h3,h4,⟨u',h5,h6⟩,h7⟩=>
 ⟨⟨u,(hb.cell (p:=⟨b,_,Z⟩) hlt).trans h1,h2.mv hb⟩,(hb.cell (p:=⟨b,_,Z⟩) hlt).trans h3,h4,⟨u',(hb.cell (p:=⟨b,_,Z⟩) hlt).trans h5,h6.mv hb⟩,(hb.cell (p:=⟨b,_,Z⟩) hlt).trans h7⟩
theorem PV{w:T}{v:Q}{vars:List Vr}(h:KM w v vars):∃c0 c1 c2 c3 c4 c5 c6 a b rules,v=ZZ #[c0,c1,c2,c3,c4,c5,c6]/\GV a b/\
  ∀w',U w.heap.size w w'->I Tryz.prog 14 #[ZZ #[c0,c1,c2,c3,c4,c5,c6]] w' fun e w2=>∃va vr,e=S (ZZ #[va,vr])/\U w'.heap.size w' w2/\Er w2 va vr [a,b] rules:=by
 obtain⟨sp0,sp1,lw0,lw1,iv0,iv1,pv,ps,rfl,hI,hP,rfl⟩:=h;obtain⟨a,b,he,hG⟩:=Qm sp0 sp1 lw0 lw1 iv0 iv1;refine⟨_,_,_,_,_,_,_,a,b,(ps.take 5).map C4,rfl,hG,fun w' hb=>?_⟩;rw[<-he];exact SF sp0 sp1 lw0 lw1 iv0 iv1 pv ps w' hI (hP.below hb)
open Terms
theorem O0:Tryz.prog.cellsOf 76=2:=by kernel_rfl
theorem Oo:Tryz.prog.bytesOf 76=16:=by kernel_rfl
theorem So{H:Type}{enc:TypeId×Q->H}{W:T}{base:Nat}{v:Q}{d:DataW H}{p:List MemPlace}{ts:List TypeId}{ds:List (DataW H)}{j:Nat}
  (hv:Value.okWide Tryz.prog W .any base 27 v) (h:DataW.Trod enc Tryz.prog W 0 (fun _=>true) true 27 v d p)
  (hsz:(DataW.weightsEach Tryz.prog ts ds).all (·<=reachBytes)=true) (ht:ts[j]? = X 27) (hd:ds[j]? = X d):∃rs,Raws W W.heap.size v rs:=by
 obtain⟨a0,len,cap,rfl⟩:=okWide_slice Tryz.underlying27 hv;obtain⟨fuel,hf⟩:=h;rcases open_slice_pairs Tryz.underlying27 Tryz.underlying76 O0 rfl rfl De De hf with⟨hcs,hx⟩|⟨a,len',cap',m,n,V0,V1,D0,D1,P0,P1,hcs,_,hl,hm,hmm,hx,hcell⟩
 .simp[Value.cells]at hcs;obtain⟨rfl,rfl,rfl⟩:=hcs;exact⟨[],⟨⟨Z,0,rfl,fun h=>absurd rfl h⟩,by simp,fun i hi=>by simp at hi⟩⟩
 .simp[Value.cells]at hcs;obtain⟨rfl,rfl,rfl⟩:=hcs;simp at hmm;subst hmm;have hd2:ds[j]? = X (.slice ((List.range len).map fun i=>.agg [D0 i,D1 i]) ((List.range (m-len)).map fun j=>.agg [D0 (len+j),D1 (len+j)])):=by rw[hd,(Prod.mk.inj hx).1]
  have hs:=sized_slice hsz ht hd2 Tryz.underlying27;rw[Oo]at hs;simp only[List.length_map,List.length_range,reachBytes]at hs;have hget:∀i,i<len->(((List.range len).map fun i=>(intOf (V0 i),intOf (V1 i))).getD i (0,0))=(intOf (V0 i),intOf (V1 i)):=fun i hi=>by simp[List.getD_eq_getElem?_getD,hi]
  have each:∀i,i<len->∃x0 x1,W.cell? (a.add (i*2))=X (.int V x0)/\W.cell? (a.add (i*2+1))=X (.int V x1)/\V0 i=.int V x0/\V1 i=.int V x1/\I64 x0/\I64 x1:=by
   intro i hi;obtain⟨c0,c1,t0,t1⟩:=hcell i (by omega);obtain⟨x0,e0,_,w0⟩:=DataW.trod_int Tryz.underlying3 t0;obtain⟨x1,e1,_,w1⟩:=DataW.trod_int Tryz.underlying3 t1;simp at e0 e1;refine⟨x0,x1,by rw[c0,e0],by rw[c1,e1],e0,e1,?_,?_⟩
   .simpa[I64,Lit.wf,IntKind.min,IntKind.max,IntKind.signed,IntKind.bits]using w0
   .simpa[I64,Lit.wf,IntKind.min,IntKind.max,IntKind.signed,IntKind.bits]using w1
  refine⟨(List.range len).map fun i=>(intOf (V0 i),intOf (V1 i)),⟨⟨X a,m,by simp,fun hne=>?_⟩,by simp;omega,fun i hi=>?_⟩⟩
  .have hpos:0<len:=by
    rcases Nat.eq_zero_or_pos len with h0|h0
    .subst h0;simp at hne
    .exact h0
   obtain⟨b,off,spot⟩:=a;have hspot:spot=none:=by simpa[Addr.add]using World.cell?_spot (hcell 0 (by omega)).1
   subst hspot;refine⟨b,off,rfl,?_,fun i hi=>?_⟩
   .have:=World.block_lt_of_cell? W _ (hcell 0 (by omega)).1;simpa[Addr.add]using this
   .simp only[List.length_map,List.length_range]at hi;obtain⟨x0,x1,c0,c1,e0,e1,_,_⟩:=each i hi;rw[add_plain]at c0 c1;rw[show off+(i*2+1)=off+i*2+1 by omega]at c1;rw[hget i hi,e0,e1];exact⟨c0,c1⟩
  .simp only[List.length_map,List.length_range]at hi;obtain⟨x0,x1,_,_,e0,e1,h0,h1⟩:=each i hi;rw[hget i hi,e0,e1];exact⟨h0,h1⟩
def DH:Value:=Y Z 0 0
theorem E4{α:Type}(a b:List α)(d:α)(i:Nat):(a++b).getD i d=if i<a.length then a.getD i d else b.getD (i-a.length) d:=by
 by_cases h:i<a.length
 .rw[if_pos h];simp[List.getD_eq_getElem?_getD,List.getElem?_append_left h]
 .rw[if_neg h];simp[List.getD_eq_getElem?_getD,List.getElem?_append_right (Nat.le_of_not_lt h)]
namespace Go.Proofs.YtjldkfiabgagiaaGreatDoor.Terms
namespace Tm
set_option maxHeartbeats 6400000
set_option maxRecDepth 20000
def ho(σ:Nat->Nat->Bool):Tm->Nat->Prop
 |leaf k v=>fun i=>if k=13 then σ i v.toNat=true else k=11
 |un k _ a=>fun i=>if k=10 then¬ho σ a i else if k=14 then ho σ a (i+1)else if k=17 then∃j,i<=j/\ho σ a j else∀j,i<=j->ho σ a j
 |bi k _ a b=>fun i=>if k=8 then ho σ a i/\ho σ b i else if k=9 then ho σ a i\/ho σ b i else if k=15 then∃j,i<=j/\ho σ b j/\∀m,i<=m->m<j->ho σ a m else∀j,i<=j->ho σ b j\/∃m,i<=m/\m<j/\ho σ a m
open Classical in
noncomputable def hb(σ:Nat->Nat->Bool)(t:Tm)(i:Nat):Bool:=decide (ho σ t i)
end Tm
namespace Tm
end Tm
end Go.Proofs.YtjldkfiabgagiaaGreatDoor.Terms
namespace Go.Proofs.YtjldkfiabgagiaaGreatDoor.Terms
namespace Tm
set_option maxHeartbeats 6400000
set_option maxRecDepth 20000
end Tm
end Go.Proofs.YtjldkfiabgagiaaGreatDoor.Terms
open Go.ChangeShapes Go.WideShapes Go.ChangeAt Go.RowKit Go.Deep Go.Joins
section
variable{H:Type}{enc:TypeId×Q -> H}{W:T}
end
open Go.Shelf
def RQ:Go.Shelf.Ren:=⟨fun|189=>133|125=>164|257=>163|128=>182|129=>183|294=>174|295=>175|296=>176|297=>177|298=>178|299=>179|216=>144|300=>180|301=>181|328=>188|329=>189|330=>190|331=>191|332=>192|215=>170|343=>194|n=>n,fun|28=>39|3=>3|46=>235|0=>0|51=>266|53=>268|4=>4|183=>260|182=>259|131=>108|5=>5|9=>9|218=>270|222=>274|228=>277|229=>278|n=>n,fun|n=>n⟩
theorem Le:Go.Proofs.Lays.n189 Tryz.prog RQ:={
 mixed:=by kernel_rfl
 f125:=Tryz.func164.trans (congrArg X (by kernel_rfl))
 f128:=Tryz.func182.trans (congrArg X (by kernel_rfl))
 f129:=Tryz.func183.trans (congrArg X (by kernel_rfl))
 f189:=Tryz.func133.trans (congrArg X (by kernel_rfl))
 f215:=Tryz.func170.trans (congrArg X (by kernel_rfl))
 f216:=Tryz.func144.trans (congrArg X (by kernel_rfl))
 f257:=Tryz.func163.trans (congrArg X (by kernel_rfl))
 f294:=Tryz.func174.trans (congrArg X (by kernel_rfl))
 f295:=Tryz.func175.trans (congrArg X (by kernel_rfl))
 f296:=Tryz.func176.trans (congrArg X (by kernel_rfl))
 f297:=Tryz.func177.trans (congrArg X (by kernel_rfl))
 f298:=Tryz.func178.trans (congrArg X (by kernel_rfl))
 f299:=Tryz.func179.trans (congrArg X (by kernel_rfl))
 f300:=Tryz.func180.trans (congrArg X (by kernel_rfl))
 f301:=Tryz.func181.trans (congrArg X (by kernel_rfl))
 f328:=Tryz.func188.trans (congrArg X (by kernel_rfl))
 f329:=Tryz.func189.trans (congrArg X (by kernel_rfl))
 f330:=Tryz.func190.trans (congrArg X (by kernel_rfl))
 f331:=Tryz.func191.trans (congrArg X (by kernel_rfl))
 f332:=Tryz.func192.trans (congrArg X (by kernel_rfl))
 f343:=Tryz.func194.trans (congrArg X (by kernel_rfl))
 t0:=Tryz.underlying0
 a0:=Tryz.isAgg0
 z0:=Tryz.sizeOf0
 v0:=Tryz.zeroValue0
 t3:=Tryz.underlying3
 a3:=Tryz.isAgg3
 z3:=Tryz.sizeOf3
 v3:=Tryz.zeroValue3
 t4:=Tryz.underlying4
 a4:=Tryz.isAgg4
 z4:=Tryz.sizeOf4
 v4:=Tryz.zeroValue4
 t5:=Tryz.underlying5
 a5:=Tryz.isAgg5
 z5:=Tryz.sizeOf5
 v5:=Tryz.zeroValue5
 t9:=Tryz.underlying9
 a9:=Tryz.isAgg9
 z9:=Tryz.sizeOf9
 v9:=Tryz.zeroValue9
 t28:=Tryz.underlying39
 a28:=Tryz.isAgg39
 z28:=Tryz.sizeOf39
 v28:=Tryz.zeroValue39
 t46:=Tryz.underlying235
 a46:=Tryz.isAgg235
 z46:=Tryz.sizeOf235
 v46:=Tryz.zeroValue235
 t51:=Tryz.underlying266
 a51:=Tryz.isAgg266
 z51:=Tryz.sizeOf266
 v51:=Tryz.zeroValue266
 t53:=Tryz.underlying268
 a53:=Tryz.isAgg268
 z53:=Tryz.sizeOf268
 v53:=Tryz.zeroValue268
 t131:=Tryz.underlying108
 a131:=Tryz.isAgg108
 z131:=Tryz.sizeOf108
 v131:=Tryz.zeroValue108
 t182:=Tryz.underlying259
 a182:=Tryz.isAgg259
 z182:=Tryz.sizeOf259
 v182:=Tryz.zeroValue259
 t183:=Tryz.underlying260
 a183:=Tryz.isAgg260
 z183:=Tryz.sizeOf260
 v183:=Tryz.zeroValue260
 t218:=Tryz.underlying270
 a218:=Tryz.isAgg270
 z218:=Tryz.sizeOf270
 v218:=Tryz.zeroValue270
 t222:=Tryz.underlying274
 a222:=Tryz.isAgg274
 z222:=Tryz.sizeOf274
 v222:=Tryz.zeroValue274
 t228:=Tryz.underlying277
 a228:=Tryz.isAgg277
 z228:=Tryz.sizeOf277
 v228:=Tryz.zeroValue277
 t229:=Tryz.underlying278
 a229:=Tryz.isAgg278
 z229:=Tryz.sizeOf278
 v229:=Tryz.zeroValue278}
open Go.Sort Go.RowKit in
theorem slices_Sort_int(blk off cap:Nat)(zs:List Int)(w:T)(hH:Holds (Value.int .i64) w blk off zs.toArray)(hblk:blk<w.heap.size)(hsz:zs.length<4611686018427387904) :
  I Tryz.prog 133 #[Y (X ⟨blk,off,Z⟩) zs.length cap] w fun e w'=>
   e=S (G #[])/\∃n os,w'=grow (putRow (Value.int .i64) (Sort.ahead w n) blk off (zs.mergeSort fun x y=>decide (x<=y)).toArray) os:=Any.slices_Sort_int Le blk off cap zs w hH hblk hsz
def RU:Go.Shelf.Ren:=⟨fun|20=>134|n=>n,fun|22=>39|3=>3|4=>4|0=>0|n=>n,fun|n=>n⟩
theorem RT:Go.Proofs.Lays2.n20 Tryz.prog RU:={
 mixed:=by kernel_rfl
 f20:=Tryz.func134.trans (congrArg X (by kernel_rfl))
 t0:=Tryz.underlying0
 a0:=Tryz.isAgg0
 z0:=Tryz.sizeOf0
 v0:=Tryz.zeroValue0
 t3:=Tryz.underlying3
 a3:=Tryz.isAgg3
 z3:=Tryz.sizeOf3
 v3:=Tryz.zeroValue3
 t4:=Tryz.underlying4
 a4:=Tryz.isAgg4
 z4:=Tryz.sizeOf4
 v4:=Tryz.zeroValue4
 t22:=Tryz.underlying39
 a22:=Tryz.isAgg39
 z22:=Tryz.sizeOf39
 v22:=Tryz.zeroValue39
 i3:=by kernel_rfl}
open Go.RowKit Go.Lib Go.Sort in
theorem slices_Compact_int(blk off cap:Nat)(zs:List Int)(w:T)(hH:Holds (Value.int .i64) w blk off zs.toArray)(hsz:zs.length<=9223372036854775807)(hcap:zs.length<=cap) :
  I Tryz.prog 134 #[Y (X ⟨blk,off,Z⟩) zs.length cap] w fun e w'=>e=S (Y (X ⟨blk,off,Z⟩) (Lib.compact zs).length cap)/\∃q,w'=putRow (Value.int .i64) (Sort.ahead w q) blk off (Lib.compact zs++List.replicate (zs.length-(Lib.compact zs).length) 0).toArray:=Any.slices_Compact_int RT blk off cap zs w hH hsz hcap
def RV:Go.Shelf.Ren:=⟨fun|25=>112|31=>144|32=>145|37=>170|n=>n,fun|22=>39|3=>3|4=>4|40=>235|0=>0|n=>n,fun|n=>n⟩
theorem Lf:Go.Proofs.Lays2.n25 Tryz.prog RV:={
 mixed:=by kernel_rfl
 f25:=Tryz.func112.trans (congrArg X (by kernel_rfl))
 f31:=Tryz.func144.trans (congrArg X (by kernel_rfl))
 f32:=Tryz.func145.trans (congrArg X (by kernel_rfl))
 f37:=Tryz.func170.trans (congrArg X (by kernel_rfl))
 t0:=Tryz.underlying0
 a0:=Tryz.isAgg0
 z0:=Tryz.sizeOf0
 v0:=Tryz.zeroValue0
 t3:=Tryz.underlying3
 a3:=Tryz.isAgg3
 z3:=Tryz.sizeOf3
 v3:=Tryz.zeroValue3
 t4:=Tryz.underlying4
 a4:=Tryz.isAgg4
 z4:=Tryz.sizeOf4
 v4:=Tryz.zeroValue4
 t22:=Tryz.underlying39
 a22:=Tryz.isAgg39
 z22:=Tryz.sizeOf39
 v22:=Tryz.zeroValue39
 t40:=Tryz.underlying235
 a40:=Tryz.isAgg235
 z40:=Tryz.sizeOf235
 v40:=Tryz.zeroValue235}
open Go.RowKit Go.Lib in
theorem slices_BinarySearch_int(b off n c:Nat)(zs:List Int)(x:Int)(w:T)(hz:n<=zs.length)(hbig:n<4611686018427387904)(hc:∀j,j<zs.length->w.cell? ⟨b,off+j,Z⟩=X (.int V (zs.getD j 0)))(hs:(zs.take n).Pairwise (· <= ·)) :
  I Tryz.prog 112 #[Y (X ⟨b,off,Z⟩) n c,.int V x] w fun e w'=>e=S (G #[ZX V ((zs.take n).countP (· < x):Nat),.bool ((zs.take n).contains x)])/\∃q,w'=w.drewN q:=Any.slices_BinarySearch_int Lf b off n c zs x w hz hbig hc hs
open Go.RowKit Go.Sort in
theorem slices_Sort_int_none(p:Option Addr)(cap:Nat)(w:T) :
  I Tryz.prog 133 #[Y p 0 cap] w fun e w'=>e=S (G #[])/\w'=w:=Any.slices_Sort_int_none Le p cap w
open Go.RowKit Go.Lib in
theorem slices_BinarySearch_int_empty(a:Option Addr)(c:Nat)(x:Int)(w:T) :
  I Tryz.prog 112 #[Y a 0 c,.int V x] w fun e w'=>e=S (G #[ZX V 0,.bool ZY])/\w'=w:=Any.slices_BinarySearch_int_empty Lf a c x w
open Go.RowKit Go.Sort
def leB(x y:Int):Bool:=decide (x<=y)
theorem NF(g cap base:Nat)(zs:List Int)(w:T)(hz:zs.length<=100000)(ho:w.ownsRow base 3 1 (Y (X ⟨g,0,Z⟩) zs.length cap) zs.length (AB zs)) :
  I Tryz.prog 133 #[Y (X ⟨g,0,Z⟩) zs.length cap] w fun e w'=>e=S (G #[])/\w.grownBy w' (X g)/\w'.ownsRow base 3 1 (Y (X ⟨g,0,Z⟩) zs.length cap) zs.length (AB (zs.mergeSort leB)):=by
 have ho':w.ownsRow base 3 1 (Y (X ⟨g,0,Z⟩) zs.length cap) zs.length (zs.map (Value.int .i64)):=ho;obtain⟨g',cap',hv,hbg,hlt,hn,hm,hl,hH⟩:=Lib.holds_of_ownsRow ho' (by simp);injection hv with h1 h2 h3;injection h1 with h1;injection h1 with h1;subst h1 h3;rcases ho.2 with⟨e0,_⟩|⟨g2,cap2,cur,e0,hb,hg,hnc,hcm,hcs,ht⟩
 .cases e0
 .injection e0 with e1 _ e3;injection e1 with e1;injection e1 with e1;subst e1 e3;refine(slices_Sort_int g 0 cap zs w hH hlt (by omega)).mono fun e w' ⟨he,n,os,hw⟩=>⟨he,?_,?_⟩
  .rw[hw];exact grownBy_sortedI _
  .rw[hw];exact ownsRow_sortedI (ts:=zs.mergeSort leB) (by simp) hbg hg hnc hcm hcs
theorem Kw(g cap base:Nat)(zs:List Int)(w:T)(hz:zs.length<=100000)(ho:w.ownsRow base 3 1 (Y (X ⟨g,0,Z⟩) zs.length cap) zs.length (AB zs)) :
  I Tryz.prog 134 #[Y (X ⟨g,0,Z⟩) zs.length cap] w fun e w'=>e=S (Y (X ⟨g,0,Z⟩) (Lib.compact zs).length cap)/\w.grownBy w' (X g)/\w'.ownsRow base 3 1 (Y (X ⟨g,0,Z⟩) (Lib.compact zs).length cap) (Lib.compact zs).length (AB (Lib.compact zs)):=by
 have ho':w.ownsRow base 3 1 (Y (X ⟨g,0,Z⟩) zs.length cap) zs.length (zs.map (Value.int .i64)):=ho;obtain⟨g',cap',hv,hbg,hlt,hn,hm,hl,hH⟩:=Lib.holds_of_ownsRow ho' (by simp);injection hv with h1 h2 h3;injection h1 with h1;injection h1 with h1;subst h1 h3;have hcl:=Lib.compact_length_le zs;refine(slices_Compact_int g 0 cap zs w hH (by omega) hn).mono fun e w' ⟨he,q,hw⟩=>⟨he,?_,?_⟩
 .rw[hw];refine⟨rfl,rfl,rfl,by simp[putRow,mapBlock,Sort.ahead],fun k _ hne=>?_⟩;have:g≠k:=fun e=>hne (by rw[e]);simp[putRow,mapBlock,Sort.ahead,Array.getElem?_modify,this]
 .rw[hw];have h:=Lib.ownsRow_putRow (q:=q) (k:=(Lib.compact zs).length) (ys:=Lib.compact zs++List.replicate (zs.length-(Lib.compact zs).length) 0) ho' (by simp;omega) hcl;rw[List.take_left]at h;exact h
abbrev Rise(l:List Int):Prop:=l.Pairwise (· < ·)
theorem PJ{d:Array Int}{n:Nat}(hs:∀i j,i<=j->j<n->d[i]!<=d[j]!):∀m,m<=n->Rise (Lib.compactUpTo d m)/\∀x,x∈Lib.compactUpTo d m↔∃j,j<m/\d[j]! = x:=by
 intro m;induction m with
 |zero=>intro _;exact⟨by simp[Lib.compactUpTo],fun x=>by simp[Lib.compactUpTo]⟩
 |succ m ih=>
  intro hm;obtain⟨h1,h2⟩:=ih (by omega);rw[Lib.compactUpTo_succ];by_cases hk:Lib.keeps d m=true
  .rw[if_pos hk];refine⟨List.pairwise_append.2 ⟨h1,by simp,fun x hx y hy=>?_⟩,fun x=>?_⟩
   .simp at hy;subst hy;obtain⟨j,hj,rfl⟩:=(h2 x).1 hx;have h3:=hs j m (by omega) (by omega);have h4:=hs j (m-1) (by omega) (by omega);have h5:=hs (m-1) m (by omega) (by omega);have h6:d[m]!≠d[m-1]!:=by
     have:m≠0:=by omega
     simpa[Lib.keeps,this]using hk
    omega
   .simp only[List.mem_append,List.mem_singleton,h2];constructor
    .rintro (⟨j,hj,e⟩|e)
     .exact ⟨j,by omega,e⟩
     .exact ⟨m,by omega,e.symm⟩
    .rintro ⟨j,hj,e⟩;by_cases hjm:j=m
     .subst hjm;exact .inr e.symm
     .exact .inl ⟨j,by omega,e⟩
  .rw[if_neg hk,List.append_nil];refine⟨h1,fun x=>?_⟩;rw[h2];constructor
   .rintro ⟨j,hj,e⟩;exact⟨j,by omega,e⟩
   .rintro ⟨j,hj,e⟩;by_cases hjm:j=m
    .subst hjm;have h7:j≠0/\d[j]! = d[j-1]!:=by simpa[Lib.keeps]using hk
     exact⟨j-1,by omega,by rw[<-h7.2];exact e⟩
    .exact ⟨j,by omega,e⟩
def upL(l:List Int):List Int:=Lib.compact (l.mergeSort leB)
theorem NZ(l:List Int):Rise (upL l)/\∀x,x∈upL l↔x∈l:=by
 have hp:(l.mergeSort leB).Pairwise (fun x y=>leB x y=true):=List.pairwise_mergeSort (le:=leB) (by intro a b c;simp only[leB,decide_eq_true_eq];omega) (by intro a b;simp only[leB,Bool.or_eq_true,decide_eq_true_eq];omega) l;have hs:∀i j,i<=j->j<(l.mergeSort leB).length->(l.mergeSort leB).toArray[i]!<=(l.mergeSort leB).toArray[j]!:=fun i j hij hj=>by
  rw[getElem!_pos _ i (by simpa using(by omega:i<(l.mergeSort leB).length)),getElem!_pos _ j (by simpa using hj)];rcases Nat.lt_or_eq_of_le hij with h|h
  .have:=List.pairwise_iff_getElem.1 hp i j (by omega) hj h;simpa[leB]using this
  .subst h;exact Int.le_refl _
 obtain⟨h1,h2⟩:=PJ hs (l.mergeSort leB).length (Nat.le_refl _);refine⟨h1,fun x=>?_⟩;show x∈Lib.compactUpTo _ _↔_;rw[h2,<-(List.mergeSort_perm l leB).mem_iff,List.mem_iff_getElem];constructor
 .rintro ⟨j,hj,e⟩;exact⟨j,hj,by rw[<-e,getElem!_pos _ j (by simpa using hj)];rfl⟩
 .rintro ⟨j,hj,e⟩;exact⟨j,hj,by rw[getElem!_pos _ j (by simpa using hj)];exact e⟩
def zL(a b:Nat)(k:Nat):Int:=if k=0 then 0 else if k=1 then(a:Int)else(a:Int)+(b:Int)
theorem TermsV.shape{w:T}{v:Q}{ts:List (List (Int×Int))}(h:TermsV w v ts):∃ao cap,v=.slice ao ts.length cap:=by
 obtain⟨ao,cap,h1,_⟩:=h;exact⟨ao,cap,h1⟩
theorem TermsV.at{w:T}{ao:Option Addr}{cap n:Nat}{ts:List (List (Int×Int))}(h:TermsV w (Y ao n cap) ts){i:Nat}(hi:i<ts.length):∃b off,ao=X ⟨b,off,Z⟩/\b<w.heap.size/\∃u,w.cell? ⟨b,off+i,Z⟩=X u/\OpsV w u (ts.getD i []):=by
 obtain⟨ao',cap',h1,h3⟩:=h;injection h1 with e1 e2 e3;subst e1;obtain⟨b,off,e,hb,hh⟩:=h3 (by intro h;subst h;simp at hi);exact⟨b,off,e,hb,hh i hi⟩
theorem SI(va vr pv:Q)(m:Mo)(ps:List (List (Int×Int)))(w:T)(hB:0<w.heap.size)(hT:AH w)(hV:Ax w va vr m)(hP:TermsV w pv ps)(h:mcode m=0)(hl6:ps.length<=6) :
  I Tryz.prog 43 #[ZZ #[va,vr],pv] w fun e w'=>e=S (.int V (Ay (fun i=>kcode m.vars.length (ps.getD i []) true) ps.length))/\U w.heap.size w w':=by
 have hA:∀o,U w.heap.size w (w.alloc o):=fun o=>(Below.refl _ _).alloc (Nat.le_refl _) o;have hch:=fun o=>C6 va vr m (w.alloc o) (Nat.lt_of_lt_of_le hB (hA o).size) (hT.below (hA o) hB) (hV.below (hA o));rw[h]at hch;have h6:=(Cv h).1;obtain⟨ao,cap,rfl⟩:=hV.1.shape;obtain⟨ro,rc,rfl⟩:=hV.2.shape;obtain⟨po,pc,rfl⟩:=hP.shape;have HP:O (TermsV w (.slice po ps.length pc) ps):=hP;have HT:O (AH w):=hT;obtain⟨n,hn⟩:∃n,n=ps.length:=⟨_,rfl⟩;have HN:O (n=ps.length):=hn;rw[<-hn]at hl6 HP⊢;generalize m.vars.length=vn at *;generalize m.rules.length=rn at *;clear hV hT hP hn h;obtain⟨f,hf⟩:∃f:Nat->Int,f=fun i=>kcode vn (ps.getD i []) true:=⟨_,rfl⟩
 rw[<-hf];have HF:O (f=fun i=>kcode vn (ps.getD i []) true):=hf;clear hf;go_enter Tryz.func43,Tryz.ntmps43;go_wp2_with (go_at_call 46;refine(hch _).mono ?_;rintro e w1 ⟨rfl,hb1⟩)
 have hb1':U (w.heap.size+1) (w.alloc (M #[Y ao vn cap,Y ro rn rc] 31)) w1:=hb1.mono (by simp);clear hch hb1;go_loopw [19] (fun i wr=>∃k:Nat,k<=n/\i=.int V k/\O (∀j,j<k->f j=0)/\U (w.heap.size+1) (w.alloc (M #[Y ao vn cap,Y ro rn rc] 31)) wr) (fun i _=>n-(intOf i).toNat)
 case atStart=>exact⟨0,Nat.zero_le _,rfl,fun j hj=>by omega,hb1'⟩
 case round=>
  obtain⟨k,hk,rfl,HJ,hbel⟩:=hrel;clear hb1';have hbw:=(hA _).trans (hbel.mono (Nat.le_succ _));have hszb:w.heap.size+1<=wr.heap.size:=by have:=hbel.size;simp at this;omega
  have cb:=(hbel.cell (p:=⟨w.heap.size,0,Z⟩) (by simp)).trans (show _=X (Y ao vn cap) by simp[go_sem]);by_cases hlt:k<n
  .obtain ⟨b,off,rfl,hblt,u,c0',hO⟩:=HP.out.at (i:=k) (by rw[<-HN.out];exact hlt);have HFk:O (f k=kcode vn (ps.getD k []) true):=by show _=_;rw[HF.out]
   have HHit:O (∀c,f k=c->c≠0->Ay f n=c):=fun c h1 h2=>by rw[GT hlt HJ.out (by rw[h1];exact h2),h1]
   have HStep:O (f k=0->∀j,j<k+1->f j=0):=fun h0 j hj=>by
    by_cases hjk:j=k
    .subst hjk;exact h0
    .exact HJ.out j (by omega)
   generalize ps.getD k []=p at *;obtain⟨ua,uc,rfl⟩:=hO.shape;have c0:=(hbw.cell (p:=⟨b,off+k,Z⟩) hblt).trans c0';have hcm:=GG _ p vn true wr (Nat.lt_of_lt_of_le hB hbw.size) (HT.out.below hbw hB) (hO.below hbw);generalize p.length=pn at *;obtain⟨x,hx⟩:∃x,kcode vn p true=x:=⟨_,rfl⟩
   rw[hx]at hcm HFk;clear HJ c0' hO hx HF;by_cases hx0:x=0
   .subst hx0;have HJ2:=(show O _ from HStep.out HFk.out);clear HStep HHit HFk;go_wp2_with (go_at_call 61;refine hcm.mono ?_;rintro e w3 ⟨rfl,hb3⟩)
    go_roundw
    case rel=>exact⟨k+1,hlt,by go_num,HJ2,hbel.trans (hb3.mono hszb)⟩
    case measure=>simp[intOf];omega
   .have HR:O (Ay f n=x):=HHit.out x HFk.out hx0;clear HStep HHit HFk;go_wp2_with (go_at_call 61;refine hcm.mono ?_;rintro e w3 ⟨rfl,hb3⟩)
    go_ret;rw[HR.out];exact⟨rfl,hbw.trans (hb3.mono hbw.size)⟩
  .have hkn:k=n:=by omega
   have HR:O (Ay f n=0):=DS (fun j hj=>HJ.out j (by omega));go_wp2;go_ret;rw[HR.out];exact⟨rfl,hbw⟩
theorem L7(va vr pv:Q)(m:Mo)(ps:List (List (Int×Int)))(w:T)(hB:0<w.heap.size)(hT:AH w)(hV:Ax w va vr m)(hP:TermsV w pv ps) :
  I Tryz.prog 43 #[ZZ #[va,vr],pv] w fun e w'=>e=S (.int V (CM m ps))/\U w.heap.size w w':=by
 unfold CM;by_cases h:mcode m=0
 .rw[if_pos h];by_cases h6:6<ps.length
  .rw[if_pos h6];have hA:∀o,U w.heap.size w (w.alloc o):=fun o=>(Below.refl _ _).alloc (Nat.le_refl _) o;have hch:=fun o=>C6 va vr m (w.alloc o) (Nat.lt_of_lt_of_le hB (hA o).size) (hT.below (hA o) hB) (hV.below (hA o));rw[h]at hch;obtain⟨ao,cap,rfl⟩:=hV.1.shape;obtain⟨ro,rc,rfl⟩:=hV.2.shape;obtain⟨po,pc,rfl⟩:=hP.shape;generalize m.vars.length=vn at *;generalize m.rules.length=rn at *;generalize ps.length=n at *;clear hV hT hP h
   go_enter Tryz.func43,Tryz.ntmps43;go_wp2_with (go_at_call 46;refine(hch _).mono ?_;rintro e w1 ⟨rfl,hb1⟩)
   go_ret;exact⟨rfl,(hA _).trans (hb1.mono (hA _).size)⟩
  .rw[if_neg h6];exact SI va vr pv m ps w hB hT hV hP h (by omega)
 .rw[if_neg h];have hA:∀o,U w.heap.size w (w.alloc o):=fun o=>(Below.refl _ _).alloc (Nat.le_refl _) o;have hch:=fun o=>C6 va vr m (w.alloc o) (Nat.lt_of_lt_of_le hB (hA o).size) (hT.below (hA o) hB) (hV.below (hA o));obtain⟨ao,cap,rfl⟩:=hV.1.shape;obtain⟨ro,rc,rfl⟩:=hV.2.shape;obtain⟨po,pc,rfl⟩:=hP.shape;generalize mcode m=x at *;generalize m.vars.length=vn at *;generalize m.rules.length=rn at *;generalize ps.length=n at *;clear hV hT hP
  go_enter Tryz.func43,Tryz.ntmps43;go_wp2_with (go_at_call 46;refine(hch _).mono ?_;rintro e w1 ⟨rfl,hb1⟩)
  go_ret;exact⟨rfl,(hA _).trans (hb1.mono (hA _).size)⟩
def Ah(k:Int):Bool:=decide (14<=k/\k<=18)
def A0(props:Int)(o:Int×Int):Int:=if o.1<8 then 13 else if o.2<0\/(if o.1=13 then props-1 else 0)<o.2 then 2 else 0
def CD(props:Int):List (Int×Int)->Int
 |[]=>0
 |o::r=>if A0 props o≠0 then A0 props o else CD props r
theorem Rb{props:Int}:∀{l:List (Int×Int)} {i:Nat},i<l.length->(∀j,j<i->A0 props (l.getD j (0,0))=0)->A0 props (l.getD i (0,0))≠0->CD props l=A0 props (l.getD i (0,0)):=by
 intro l;induction l with
 |nil=>intro i hi;simp at hi
 |cons o r ih=>
  intro i hi hj hne;cases i with
  |zero=>simp only[List.getD_cons_zero]at hne⊢;simp[CD,hne]
  |succ i=>
   have h0:=hj 0 (by omega);simp only[List.getD_cons_zero]at h0;simp only[List.getD_cons_succ]at hne⊢;simp only[CD,h0,ne_eq,not_true_eq_false,if_false];exact ih (by simpa using hi) (fun j hjj=>by simpa using hj (j+1) (by omega)) hne
theorem Lo{props:Int}:∀{l:List (Int×Int)},(∀j,j<l.length->A0 props (l.getD j (0,0))=0)->CD props l=0:=by
 intro l;induction l with
 |nil=>intro _;rfl
 |cons o r ih=>
  intro hj;have h0:=hj 0 (by simp);simp only[List.getD_cons_zero]at h0;simp only[CD,h0,ne_eq,not_true_eq_false,if_false];exact ih (fun j hjj=>by simpa using hj (j+1) (by simpa using hjj))
theorem Ra{props:Int}:∀{l:List (Int×Int)},CD props l=0->∀j,j<l.length->A0 props (l.getD j (0,0))=0:=by
 intro l;induction l with
 |nil=>intro _ j hj;simp at hj
 |cons o r ih=>
  intro h j hj;simp only[CD]at h;split at h
  .rename_i h1;exact absurd h h1
  .rename_i h1;cases j with
   |zero=>simpa using h1
   |succ j=>simpa using ih h j (by simpa using hj)
def AN(l:List (Int×Int)):Nat->List Int
 |0=>[]
 |n+1=>AN l n++if Ah (l.getD n (0,0)).1=true then [(n:Int)]else []
theorem GC{l:List (Int×Int)}{n:Nat}(h:Ah (l.getD n (0,0)).1=true):AN l (n+1)=AN l n++[(n:Int)]:=by simp only[AN];rw[if_pos h]
theorem KX{l:List (Int×Int)}{n:Nat}(h:Ah (l.getD n (0,0)).1=ZY):AN l (n+1)=AN l n:=by simp only[AN];rw[if_neg (by rw[h];decide)];simp
theorem N9(l:List (Int×Int)):∀n,(AN l n).length<=n:=by
 intro n;induction n with
 |zero=>simp[AN]
 |succ n ih=>simp only[AN,List.length_append];split<;>simp<;>omega
def AA(l:List (Int×Int)):List Int:=AN l l.length
def Ad(props:Int)(l:List (Int×Int)):Int:=
 if props<0\/6<props then 2 else if AR (l.map Prod.fst)≠0 then AR (l.map Prod.fst)else if CD props l≠0 then CD props l else if 6<(AA l).length then 1 else 0
theorem It{props:Int}{l:List (Int×Int)}(h:props<0\/6<props):Ad props l=2:=by unfold Ad;rw[if_pos h]
theorem Ir{props:Int}{l:List (Int×Int)}(h:¬(props<0\/6<props))(h2:AR (l.map Prod.fst)≠0):Ad props l=AR (l.map Prod.fst):=by unfold Ad;rw[if_neg h,if_pos h2]
theorem Lg{props:Int}{l:List (Int×Int)}(h:¬(props<0\/6<props))(h2:AR (l.map Prod.fst)=0)(h3:CD props l≠0):Ad props l=CD props l:=by unfold Ad;rw[if_neg h,if_neg (by simpa using h2),if_pos h3]
theorem Is{props:Int}{l:List (Int×Int)}(h:¬(props<0\/6<props))(h2:AR (l.map Prod.fst)=0)(h3:CD props l=0):Ad props l=if 6<(AA l).length then 1 else 0:=by unfold Ad;rw[if_neg h,if_neg (by simpa using h2),if_neg (by simpa using h3)]
theorem CC{props:Int}{l:List (Int×Int)}(h:Ad props l=0):0<=props/\props<=6/\AR (l.map Prod.fst)=0/\CD props l=0/\(AA l).length<=6:=by
 by_cases hr:props<0\/6<props
 .rw[It hr]at h;omega
 .by_cases hz:AR (l.map Prod.fst)=0
  .by_cases hf:CD props l=0
   .rw[Is hr hz hf]at h;split at h
    .omega
    .exact ⟨by omega,by omega,hz,hf,by omega⟩
   .rw[Lg hr hz hf]at h;exact absurd h hf
  .rw[Ir hr hz]at h;exact absurd h hz
theorem Dt{ks:List Int}(h:AR ks=0):ks≠[]/\ks.length<=60:=by
 obtain⟨h1,h2⟩:=FZ h;refine⟨?_,h1⟩;rintro rfl;simp[cnt]at h2
theorem Lp(k:Int)(w:T) :
  I Tryz.prog 64 #[ZX V k] w fun e w'=>e=S (.bool (Ah k))/\w'=w:=by
 by_cases h:14<=k/\k<=18
 .have hk:k=14\/k=15\/k=16\/k=17\/k=18:=by omega
  clear h;rcases hk with rfl|rfl|rfl|rfl|rfl;all_goals
   go_enter Tryz.func64,Tryz.ntmps64;go_wp2;all_goals go_ret
   all_goals exact⟨rfl,rfl⟩
 .have hm:Ah k=false:=by simp[Ah];omega
  rw[hm];have e1:¬k=14:=by omega
  have e2:¬k=15:=by omega
  have e3:¬k=16:=by omega
  have e4:¬k=17:=by omega
  have e5:¬k=18:=by omega
  clear hm h;go_enter Tryz.func64,Tryz.ntmps64;go_wp2;all_goals go_ret
  all_goals exact⟨rfl,rfl⟩
theorem RW(k v props:Int)(w:T)(h0:0<=props)(h6:props<=6) :
  I Tryz.prog 63 #[ZZ #[ZX V k,.int V v],.int V props] w fun e w'=>e=S (.int V (A0 props (k,v)))/\U w.heap.size w w':=by
 by_cases hk:k<8
 .have hx:A0 props (k,v)=13:=by simp[A0,hk]
  rw[hx];clear hx;go_enter Tryz.func63,Tryz.ntmps63;go_wp2;all_goals go_ret
  all_goals exact⟨rfl,(Below.refl _ _).alloc (Nat.le_refl _) _⟩
 .by_cases h2:k=13
  .subst h2;by_cases hv:0<=v/\v<=props-1
   .have hx:A0 props (13,v)=0:=by simp[A0];omega
    rw[hx];obtain⟨ha,hb⟩:=hv;clear hx;go_enter Tryz.func63,Tryz.ntmps63;go_wp2;all_goals go_ret
    all_goals exact⟨rfl,(Below.refl _ _).alloc (Nat.le_refl _) _⟩
   .have hx:A0 props (13,v)=2:=by simp[A0];omega
    rw[hx];have hv':v<0\/props-1<v:=by omega
    clear hx hv;rcases hv' with hv|hv;all_goals
     go_enter Tryz.func63,Tryz.ntmps63;go_wp2;all_goals go_ret
     all_goals exact⟨rfl,(Below.refl _ _).alloc (Nat.le_refl _) _⟩
  .by_cases hv:v=0
   .subst hv;have hx:A0 props (k,0)=0:=by simp[A0,h2];omega
    rw[hx];clear hx;go_enter Tryz.func63,Tryz.ntmps63;go_wp2;all_goals go_ret
    all_goals exact⟨rfl,(Below.refl _ _).alloc (Nat.le_refl _) _⟩
   .have hx:A0 props (k,v)=2:=by simp[A0,h2];omega
    rw[hx];have hv':v<0\/0<v:=by omega
    clear hx hv;rcases hv' with hv|hv;all_goals
     go_enter Tryz.func63,Tryz.ntmps63;go_wp2;all_goals go_ret
     all_goals exact⟨rfl,(Below.refl _ _).alloc (Nat.le_refl _) _⟩

def H8(props:Int)(v:Q)(l:List (Int×Int))(w:T)(e:Ending)(w':T):Prop:=
 U w.heap.size w w'/\(Ad props l≠0->e=S (G #[ZZ #[Y Z 0 0,Y Z 0 0,Y Z 0 0],.int V (Ad props l)]))/\
 (Ad props l=0->∃B av,w.heap.size<=B/\e=S (G #[ZZ #[v,Y (X ⟨B,0,Z⟩) l.length l.length,av],.int V 0])/\w'.rowIs B 3 l.length (fun q=>.int V (Ao (l.map Prod.fst) q))/\w'.ownsRow w.heap.size 3 1 av (AA l).length (AB (AA l)))
def Bt(w:T)(b:Nat)(x y z:Q):Prop:=w.cell? ⟨b,0,Z⟩=X x/\w.cell? ⟨b,1,Z⟩=X y/\w.cell? ⟨b,2,Z⟩=X z/\w.frozen? ⟨b,0,Z⟩=ZY/\w.frozen? ⟨b,1,Z⟩=ZY/\w.frozen? ⟨b,2,Z⟩=ZY/\b<w.heap.size
theorem Bt.below{w w':T}{B b:Nat}{x y z:Q}(h:Bt w b x y z)(hb:U B w w')(hB:b<B):Bt w' b x y z:=
 ⟨(hb.cell (p:=⟨b,0,Z⟩) hB).trans h.1,(hb.cell (p:=⟨b,1,Z⟩) hB).trans h.2.1,(hb.cell (p:=⟨b,2,Z⟩) hB).trans h.2.2.1,(hb.frozen (p:=⟨b,0,Z⟩) hB).trans h.2.2.2.1,(hb.frozen (p:=⟨b,1,Z⟩) hB).trans h.2.2.2.2.1,(hb.frozen (p:=⟨b,2,Z⟩) hB).trans h.2.2.2.2.2.1,Nat.lt_of_lt_of_le h.2.2.2.2.2.2 hb.size⟩
theorem Bt.new(w:T)(x y z:Q)(t:TypeId):Bt (w.alloc (M #[x,y,z] t)) w.heap.size x y z:=by
 refine⟨?_,?_,?_,?_,?_,?_,?_⟩<;>simp[go_sem]
theorem Bt.read{w:T}{b:Nat}{x y z:Q}(h:Bt w b x y z)(u0 u1 u2:Q):(w.setCell ⟨b,0,Z⟩ u0).cell? ⟨b,0,Z⟩=X u0/\((w.setCell ⟨b,0,Z⟩ u0).setCell ⟨b,1,Z⟩ u1).cell? ⟨b,1,Z⟩=X u1/\(((w.setCell ⟨b,0,Z⟩ u0).setCell ⟨b,1,Z⟩ u1).setCell ⟨b,2,Z⟩ u2).cell? ⟨b,2,Z⟩=X u2:=by
 obtain⟨k0,k1,k2,_⟩:=h;refine⟨World.cell?_setCell_same' _ _ _ (by rw[k0];rfl),World.cell?_setCell_same' _ _ _ ?_,World.cell?_setCell_same' _ _ _ ?_⟩
 .simp[go_sem,k1]
 .simp[go_sem,k2]
theorem Tl(ao:Option Addr)(n cap:Nat)(props:Int)(w:T)(h:props<0\/6<props) :
  I Tryz.prog 45 #[Y ao n cap,.int V props] w fun e w'=>e=S (G #[ZZ #[Y Z 0 0,Y Z 0 0,Y Z 0 0],.int V 2])/\U w.heap.size w w':=by
 rcases h with h|h;all_goals
  go_enter Tryz.func45,Tryz.ntmps45;go_wp2_with fail
  exact bodyPost_ret (v:=G #[ZZ #[Y Z 0 0,Y Z 0 0,Y Z 0 0],.int V 2]) (by simp[results,Tryz.results45,go_sem]) rfl ⟨rfl,by exact(Below.refl _ _).alloc (Nat.le_refl _) _⟩
theorem Tg(v:Q)(ks:List Int)(props:Int)(w:T)(h0:0<=props)(h6:props<=6)(hB:0<w.heap.size)(hT:AH w)(hK:DP w v ks)(hz:AR ks≠0) :
  I Tryz.prog 45 #[v,.int V props] w fun e w'=>e=S (G #[ZZ #[Y Z 0 0,Y Z 0 0,Y Z 0 0],.int V (AR ks)])/\U w.heap.size w w':=by
 have hA:∀o,U w.heap.size w (w.alloc o):=fun o=>(Below.refl _ _).alloc (Nat.le_refl _) o;have hKA:∀o,DP (w.alloc o) v ks:=fun o=>hK.below (hA o);have hends:∀o,I Tryz.prog 62 #[v] (w.alloc o) fun e w'=>e=S (G #[Y Z 0 0,.int V (AR ks)])/\U (w.alloc o).heap.size (w.alloc o) w':=fun o=>(GL v ks (w.alloc o) (by simp) (hT.below (hA o) hB) (hKA o)).mono fun e w' ⟨h1,h2,_⟩=>⟨h2 hz,h1⟩;generalize AR ks=x at *;obtain⟨ao,cap,rfl,_⟩:=hK;clear hT hKA
 go_enter Tryz.func45,Tryz.ntmps45;go_wp2_with (go_at_call 62;refine(hends _).mono ?_;rintro e w1 ⟨rfl,hb1⟩;have h3:=(Bt.new w (Y Z 0 0) (Y Z 0 0) (Y Z 0 0) 123).below hb1 (by simp);obtain⟨k0,k1,k2,f0,f1,f2,_⟩:=id h3)
 refine bodyPost_ret (v:=G #[ZZ #[Y Z 0 0,Y Z 0 0,Y Z 0 0],.int V x]) ?_ rfl ⟨rfl,?_⟩
 .obtain ⟨q0,q1,q2⟩:=h3.read (Y Z 0 0) (Y Z 0 0) (Y Z 0 0);simp[results,Tryz.results45,go_sem,q0,q1,q2]
 .have hbw:=(hA _).trans (hb1.mono (hA _).size);exact((hbw.setCell (Nat.le_refl _) _).setCell (Nat.le_refl _) _).setCell (Nat.le_refl _) _
theorem Bt.set2{w:T}{b:Nat}{x y z:Q}(h:Bt w b x y z)(u:Q):Bt (w.setCell ⟨b,2,Z⟩ u) b x y u:=by
 obtain⟨k0,k1,k2,f0,f1,f2,hl⟩:=h;refine⟨?_,?_,World.cell?_setCell_same' _ _ _ (by rw[k2];rfl),?_,?_,?_,by simpa using hl⟩
 .simp[go_sem,k0]
 .simp[go_sem,k1]
 .rw[World.frozen?_setCell];exact f0
 .rw[World.frozen?_setCell];exact f1
 .rw[World.frozen?_setCell];exact f2
theorem Gz{w:T}{base:Nat}{e:TypeId}{s n:Nat}{v:Q}{xs:List Q}(h:w.ownsRow base e s v n xs){p:Addr}(hp:p.block<base)(u:Q):(w.setCell p u).ownsRow base e s v n xs:=by
 obtain⟨h1,h2⟩:=h;refine⟨h1,?_⟩;rcases h2 with h2|⟨g,cap,cur,hv,hg,hh,r⟩
 .exact .inl h2
 .exact .inr ⟨g,cap,cur,hv,hg,(Below.heap_setCell w p u g (by omega)).trans hh,r⟩
theorem S1{w:T}{base:Nat}{e:TypeId}{s n:Nat}{v:Q}{xs:List Q}(h:w.ownsRow base e s v n xs):∀z,v.ownBlock=X z->base<=z:=by
 intro z hz;rcases h.2 with⟨rfl,_⟩|⟨g,cap,cur,rfl,hb,_⟩
 .simp[Value.ownBlock]at hz
 .simp[Value.ownBlock]at hz;omega
theorem S4{w:T}{base:Nat}{e:TypeId}{s k:Nat}{v:Q}{xs:List Q}(h:w.ownsRow base e s v (k+1) xs):∃g cap,v=Y (X ⟨g,0,Z⟩) (k+1) cap:=by
 rcases h.2 with⟨_,h0⟩|⟨g,cap,_,rfl,_⟩
 .omega
 .exact ⟨g,cap,rfl⟩
def Em(l:List (Int×Int))(w1:T)(v ev:Q)(k:Nat)(wr:T):Prop:=U w1.heap.size w1 wr/\∃av,Bt wr w1.heap.size v ev av/\wr.ownsRow (w1.heap.size+1) 3 1 av (AN l k).length (AB (AN l k))
theorem Em.later{l:List (Int×Int)}{w1:T}{v ev:Q}{k:Nat}{wr w':T}(h:Em l w1 v ev k wr)(hb:U wr.heap.size wr w'):Em l w1 v ev k w':=by
 obtain⟨h1,av,h3,ho⟩:=h;exact⟨h1.trans (hb.mono h1.size),av,h3.below hb h3.2.2.2.2.2.2,Ar ho hb (Nat.le_refl _)⟩
theorem Tk(b off cap:Nat)(l:List (Int×Int))(props:Int)(w:T)(h0:0<=props)(h6:props<=6)(hB:0<w.heap.size)(hT:AH w)(hbl:b<w.heap.size)(hat:BP w b off l)(hcap:l.length<=cap)(hz:AR (l.map Prod.fst)=0) :
  I Tryz.prog 45 #[Y (X ⟨b,off,Z⟩) l.length cap,.int V props] w (H8 props (Y (X ⟨b,off,Z⟩) l.length cap) l w):=by
 obtain⟨hne,h60⟩:=Dt hz;rw[List.length_map]at h60;have hr:¬(props<0\/6<props):=by omega
 have hA:∀o,U w.heap.size w (w.alloc o):=fun o=>(Below.refl _ _).alloc (Nat.le_refl _) o;have hK:DP w (Y (X ⟨b,off,Z⟩) l.length cap) (l.map Prod.fst):=(show OpsV w _ l from⟨_,cap,rfl,⟨hcap,fun h=>by simp at h⟩,fun _=>⟨b,off,rfl,hbl,hat⟩⟩).kinds;have hends:∀o,I Tryz.prog 62 #[Y (X ⟨b,off,Z⟩) l.length cap] (w.alloc o) fun e w'=>U (w.alloc o).heap.size (w.alloc o) w'/\∃B,(w.alloc o).heap.size<=B/\e=S (G #[Y (X ⟨B,0,Z⟩) l.length l.length,.int V 0])/\w'.rowIs B 3 l.length (fun q=>.int V (Ao (l.map Prod.fst) q)):=fun o=>
  (GL _ _ (w.alloc o) (by simp) (hT.below (hA o) hB) (hK.below (hA o))).mono fun e w' ⟨h1,_,h3⟩=>⟨h1,by have:=h3 hz;rwa[List.length_map]at this⟩
 have HO:O (∀i,i<l.length->(∀j,j<i->A0 props (l.getD j (0,0))=0)->A0 props (l.getD i (0,0))≠0->Ad props l=A0 props (l.getD i (0,0))):=fun i hi hj hne=>by
  have hx:=Rb hi hj hne;rw[Lg hr hz (by rw[hx];exact hne),hx]
 have HE:O ((∀j,j<l.length->A0 props (l.getD j (0,0))=0)->Ad props l=if 6<(AN l l.length).length then 1 else 0):=fun hj=>Is hr hz (Lo hj);have HA:O (BP w b off l):=hat;have HLd:O (AA l=AN l l.length):=rfl;unfold H8;obtain⟨n,hn⟩:∃n,n=l.length:=⟨_,rfl⟩;have HN:O (n=l.length):=hn;rw[<-hn]at h60 HO HE hends HLd hcap⊢;obtain⟨i0,hi,hz0,hz1,hz2⟩:=info_parts Bd;clear hat hne hz hr hn hK hT;go_enter Tryz.func45,Tryz.ntmps45;go_wp2_with (go_at_call 62;refine(hends _).mono ?_;rintro e w1 ⟨hb1,B,hBl,rfl,hrow⟩;have h3:=(Bt.new w (Y Z 0 0) (Y Z 0 0) (Y Z 0 0) 123).below hb1 (by simp))
 have hbw1:=(hA _).trans (hb1.mono (hA _).size);have hs1:w.heap.size<w1.heap.size:=h3.2.2.2.2.2.2;have HS0:O (Em l w1 (Y (X ⟨b,off,Z⟩) n cap) (Y (X ⟨B,0,Z⟩) n n) 0 (w1.alloc (M #[Y (X ⟨b,off,Z⟩) n cap,Y (X ⟨B,0,Z⟩) n n,Y Z 0 0] 123))):=⟨(Below.refl _ _).alloc (Nat.le_refl _) _,_,Bt.new _ _ _ _ _,World.ownsRow_nil _ _ _ _⟩;have HRow:O (w1.rowIs B 3 n (fun q=>.int V (Ao (l.map Prod.fst) q))):=hrow;have HT3:O (Bt w1 w.heap.size (Y Z 0 0) (Y Z 0 0) (Y Z 0 0)):=h3;have hBw:w.heap.size<B:=by have:=hBl;simp at this;omega
 clear hends hb1 hrow h3 hBl;go_loopw [33] (fun i wr=>∃k:Nat,k<=n/\i=.int V k/\O (Em l w1 (Y (X ⟨b,off,Z⟩) n cap) (Y (X ⟨B,0,Z⟩) n n) k wr)/\O (∀j,j<k->A0 props (l.getD j (0,0))=0)) (fun i _=>n-(intOf i).toNat)
 case atStart=>exact⟨0,Nat.zero_le _,rfl,HS0.out,fun j hj=>by omega⟩
 case round=>
  obtain⟨k,hk,rfl,HSt,HJ⟩:=hrel;obtain⟨hbel,av,h3r,hown⟩:=HSt.out;have hbw:=hbw1.trans (hbel.mono hbw1.size);have hlen:=N9 l k;have hsr:=hbel.size;obtain⟨aao,aac,rfl⟩:=A3 hown;by_cases hlt:k<n
  .obtain ⟨c0,c1⟩:=(HA.out.below hbw hbl) k (by rw[<-HN.out];exact hlt);have HOi:=(show O _ from HO.out k hlt HJ.out);have HJ2:O (A0 props (l.getD k (0,0))=0->∀j,j<k+1->A0 props (l.getD j (0,0))=0):=fun h j hj=>by
    by_cases hji:j<k
    .exact HJ.out j hji
    .obtain rfl:j=k:=by omega
     exact h
   have HY:O (Ah (l.getD k (0,0)).1=true->AN l (k+1)=AN l k++[(k:Int)]):=GC;have HNo:O (Ah (l.getD k (0,0)).1=ZY->AN l (k+1)=AN l k):=KX;generalize l.getD k (0,0)=xy at c0 c1 HOi HJ2 HY HNo;obtain⟨x,y⟩:=xy;simp only at c0 c1 HY HNo;have hco:=fun w=>RW x y props w h0 h6;have hlk:=fun w=>Lp x w;have hAr:∀o,U wr.heap.size wr (wr.alloc o):=fun o=>(Below.refl _ _).alloc (Nat.le_refl _) o;have HW2:O (∀w2,U (wr.alloc (M #[ZX V x,.int V y] 91)).heap.size (wr.alloc (M #[ZX V x,.int V y] 91)) w2->w2.cell? ⟨wr.heap.size,0,Z⟩=X (.int V x)/\Em l w1 (Y (X ⟨b,off,Z⟩) n cap) (Y (X ⟨B,0,Z⟩) n n) k w2/\Bt w2 w.heap.size (Y Z 0 0) (Y Z 0 0) (Y Z 0 0)/\Bt w2 w1.heap.size (Y (X ⟨b,off,Z⟩) n cap) (Y (X ⟨B,0,Z⟩) n n) (.slice aao (AN l k).length aac)/\w2.ownsRow (w1.heap.size+1) 3 1 (.slice aao (AN l k).length aac) (AN l k).length (AB (AN l k))):=fun w2 hb2=>by
    have hb12:U wr.heap.size wr w2:=(hAr _).trans (hb2.mono (hAr _).size);refine⟨(hb2.cell (p:=⟨wr.heap.size,0,Z⟩) (by simp)).trans (by simp[go_sem]),HSt.out.later hb12,(HT3.out.below hbel hs1).below hb12 (by omega),h3r.below hb12 h3r.2.2.2.2.2.2,Ar hown hb12 (Nat.le_refl _)⟩
   obtain⟨L,hL⟩:∃L,L=(AN l k).length:=⟨_,rfl⟩;have HL:O (L=(AN l k).length):=hL;rw[<-hL]at hlen HW2;clear hL HO HE HA hown h3r HSt HS0 HRow;by_cases hze:A0 props (x,y)=0
   .have HJ3:=(show O _ from HJ2.out hze);rw[hze]at hco;clear hze HOi HJ2 HJ;cases hb:Ah x with
    |true=>
     have HAh:=(show O _ from HY.out hb);rw[hb]at hlk;have h63:L+1<=maxLen:=by unfold maxLen;omega
     have hkb:(L+1)*8<=140737488355328:=by omega
     clear HY HNo hb;go_wp2_with (first|(go_at_call 63;refine(hco _).mono ?_;rintro e w2 ⟨rfl,hb2⟩;obtain⟨c2,hst2,h3z,h3w,ho2⟩:=HW2.out w2 hb2;obtain⟨k0,k1,k2,f0,f1,f2,hl2⟩:=id h3w;have hown2:=fun o=>ho2.alloc o;have hbase:∀o,w1.heap.size+1<=(w2.alloc o).heap.size:=(fun o=>by simp;omega);have kA2:∀o,(w2.alloc o).cell? ⟨w1.heap.size,2,Z⟩=X (Y aao L aac):=(fun o=>(((Below.refl _ _).alloc (Nat.le_refl _) o).cell (p:=⟨w1.heap.size,2,Z⟩) hl2).trans k2))|(go_at_call 64;refine(hlk _).mono ?_;rintro e w3 ⟨rfl,rfl⟩)|(at_builtin;refine wpList_append_own _ rfl (.tmp 49) (.tmp 51) 39 rfl (w1.heap.size+1) 3 i0 (.int V 0) 1 8 Tryz.underlying39 hi hz0 hz1 hz2 rfl (by decide) _ _ _ rfl (hown2 _) ⟨_,0,Z⟩ 1 1 _ rfl rfl (cell_one_new _ _ _) (by intro u hu;simp at hu;subst hu;rfl) h63 hkb (hbase _) ?_;intro v5 w5 hown5 hgrow5 _;obtain⟨g5,cp5,rfl⟩:=S4 hown5;have hb25:U (w1.heap.size+1) _ w5:=((Below.refl _ _).alloc (by omega) _).grown hgrow5 (hbase _) (S1 ho2);have h35:=h3w.below hb25 (Nat.lt_succ_self _);obtain⟨k50,k51,k52,f50,f51,f52,hl5⟩:=id h35))
     have hb15:U w1.heap.size w1 w5:=hst2.1.trans (hb25.mono (Nat.le_succ _));refine⟨⟨k+1,hlt,by first|rfl|simp,⟨hb15.setCell (Nat.le_refl _) _,_,h35.set2 _,?_⟩,HJ3.out⟩,by simp[intOf];omega⟩;rw[HAh.out,List.length_append,<-HL.out];rw[show AB (AN l k++[(k:Int)])=AB (AN l k)++[.int V (k:Int)] by simp[AB]];exact Gz hown5 (Nat.lt_succ_self _) _
    |false=>
     have HAh:=(show O _ from HNo.out hb);rw[hb]at hlk;clear HY HNo hb;go_wp2_with (first|(go_at_call 63;refine(hco _).mono ?_;rintro e w2 ⟨rfl,hb2⟩;obtain⟨c2,hst2,h3z,h3w,ho2⟩:=HW2.out w2 hb2)|(go_at_call 64;refine(hlk _).mono ?_;rintro e w3 ⟨rfl,rfl⟩))
     obtain⟨q1,av',q2,q3⟩:=hst2;exact⟨⟨k+1,hlt,by first|rfl|simp,⟨q1,av',q2,by rw[HAh.out];exact q3⟩,HJ3.out⟩,by simp[intOf];omega⟩
   .have HX:O (Ad props l=A0 props (x,y)):=HOi.out hze;generalize A0 props (x,y)=err at hco hze HX;clear HOi HJ2 HY HNo hlk;go_wp2_with (go_at_call 63;refine(hco _).mono ?_;rintro e w2 ⟨rfl,hb2⟩;obtain⟨c2,hst2,h3z,h3w,ho2⟩:=HW2.out w2 hb2;obtain⟨k0,k1,k2,f0,f1,f2,hl2⟩:=id h3z)
    refine bodyPost_ret (v:=G #[ZZ #[Y Z 0 0,Y Z 0 0,Y Z 0 0],.int V err]) ?_ rfl ⟨?_,fun _=>by rw[HX.out],fun h=>absurd h (by rw[HX.out];exact hze)⟩
    .obtain ⟨q0,q1,q2⟩:=h3z.read (Y Z 0 0) (Y Z 0 0) (Y Z 0 0);simp[results,Tryz.results45,go_sem,q0,q1,q2]
    .have hbw2:=hbw1.trans (hst2.1.mono hbw1.size);exact((hbw2.setCell (Nat.le_refl _) _).setCell (Nat.le_refl _) _).setCell (Nat.le_refl _) _
  .have hkn:k=n:=by omega
   subst hkn;have HX:=(show O _ from HE.out HJ.out);have h3z:=HT3.out.below hbel hs1;have HRo:O (wr.rowIs B 3 k (fun q=>.int V (Ao (l.map Prod.fst) q))):=B6 HRow.out hbel;have HOw:O (wr.ownsRow (w1.heap.size+1) 3 1 (.slice aao (AN l k).length aac) (AN l k).length (AB (AN l k))):=hown;obtain⟨L,hL⟩:∃L,L=(AN l k).length:=⟨_,rfl⟩;have HL:O (L=(AN l k).length):=hL;rw[<-hL]at hlen HX HOw h3r;obtain⟨k0,k1,k2,f0,f1,f2,hl2⟩:=id h3r;obtain⟨z0,z1,z2,y0,y1,y2,zl2⟩:=id h3z;clear hL HO HE HA hown HSt HS0 HRow HJ;by_cases h6L:6<L
   .have HX2:O (Ad props l=1):=by show _=_;rw[HX.out,if_pos h6L]
    go_wp2_with fail
    refine bodyPost_ret (v:=G #[ZZ #[Y Z 0 0,Y Z 0 0,Y Z 0 0],.int V 1]) ?_ rfl ⟨?_,fun _=>by rw[HX2.out],fun h=>absurd h (by rw[HX2.out];decide)⟩
    .obtain ⟨q0,q1,q2⟩:=h3z.read (Y Z 0 0) (Y Z 0 0) (Y Z 0 0);simp[results,Tryz.results45,go_sem,q0,q1,q2]
    .exact ((hbw.setCell (Nat.le_refl _) _).setCell (Nat.le_refl _) _).setCell (Nat.le_refl _) _
   .have HX2:O (Ad props l=0):=by show _=_;rw[HX.out,if_neg h6L]
    go_wp2_with fail
    refine bodyPost_ret (v:=G #[ZZ #[Y (X ⟨b,off,Z⟩) k cap,Y (X ⟨B,0,Z⟩) k k,Y aao L aac],.int V 0]) ?_ rfl ⟨?_,fun h=>absurd HX2.out h,fun _=>⟨B,Y aao L aac,Nat.le_of_lt hBw,rfl,?_,?_⟩⟩
    .obtain ⟨q0,q1,q2⟩:=h3z.read (Y (X ⟨b,off,Z⟩) k cap) (Y (X ⟨B,0,Z⟩) k k) (Y aao L aac);simp[results,Tryz.results45,go_sem,q0,q1,q2]
    .exact ((hbw.setCell (Nat.le_refl _) _).setCell (Nat.le_refl _) _).setCell (Nat.le_refl _) _
    .have hne:∀q,B≠(⟨w.heap.size,q,Z⟩:Addr).block:=fun q=>by simp;omega
     exact HRo.out.of_block ((Below.heap_setCell _ _ _ B (hne 2)).trans ((Below.heap_setCell _ _ _ B (hne 1)).trans (Below.heap_setCell _ _ _ B (hne 0))))
    .rw[HLd.out,<-HL.out];exact A2 (Gz (Gz (Gz HOw.out (by simp;omega) _) (by simp;omega) _) (by simp;omega) _) (by omega)
theorem Iw(v:Q)(l:List (Int×Int))(props:Int)(w:T)(hB:0<w.heap.size)(hT:AH w)(hV:OpsV w v l) :
  I Tryz.prog 45 #[v,.int V props] w (H8 props v l w):=by
 by_cases hr:props<0\/6<props
 .obtain ⟨ao,cap,rfl,_⟩:=hV;exact(Tl ao _ cap props w hr).mono fun e w' ⟨h1,h2⟩=>⟨h2,fun _=>by rw[It hr];exact h1,fun h=>absurd h (by rw[It hr];decide)⟩
 .by_cases hz:AR (l.map Prod.fst)=0
  .obtain ⟨hne,_⟩:=Dt hz;obtain⟨ao,cap,rfl,h0,h⟩:=hV;obtain⟨b,off,rfl,hbl,hat⟩:=h (by rintro rfl;exact hne rfl);exact Tk b off cap l props w (by omega) (by omega) hB hT hbl hat h0.1 hz
  .exact (Tg v _ props w (by omega) (by omega) hB hT hV.kinds hz).mono fun e w' ⟨h1,h2⟩=>⟨h2,fun _=>by rw[Ir hr hz];exact h1,fun h=>absurd h (by rw[Ir hr hz];exact hz)⟩
theorem RY(v:Q)(l:List (Int×Int))(props:Int)(w:T)(hB:0<w.heap.size)(hT:AH w)(hV:OpsV w v l) :
  I Tryz.prog 44 #[v,.int V props] w fun e w'=>e=S (.int V (Ad props l))/\U w.heap.size w w':=by
 have hrd:I Tryz.prog 45 #[v,.int V props] w fun e w'=>U w.heap.size w w'/\∃ao an ac bo bn bc co cn cc,e=S (G #[ZZ #[Y ao an ac,Y bo bn bc,Y co cn cc],.int V (Ad props l)]):=by
  refine(Iw v l props w hB hT hV).mono fun e w' ⟨h1,h2,h3⟩=>⟨h1,?_⟩;by_cases hz:Ad props l=0
  .obtain ⟨B,av,_,he,_,ho⟩:=h3 hz;obtain⟨aa,ac,rfl⟩:=A3 ho;obtain⟨ao,cap,rfl,_⟩:=hV;exact⟨_,_,_,_,_,_,_,_,_,by rw[hz];exact he⟩
  .exact ⟨_,_,_,_,_,_,_,_,_,h2 hz⟩
 obtain⟨ao,cap,rfl,_⟩:=hV;generalize Ad props l=x at *;clear hT
 go_enter Tryz.func44,Tryz.ntmps44;go_wp2_with (go_at_call 45;refine hrd.mono ?_;rintro e w1 ⟨hb1,ao,an,ac,bo,bn,bc,co,cn,cc,rfl⟩)
 go_ret;exact⟨rfl,by first|exact hb1|exact hb1.alloc hb1.size _⟩
noncomputable def Af(m:Mo)(ps:List (List (Int×Int)))(l:List (Int×Int)):Int:=if CM m ps≠0 then CM m ps else Ad ps.length l
structure TaskV(w:T)(va vr pv fv:Q)(m:Mo)(ps:List (List (Int×Int)))(l:List (Int×Int)):Prop where
 mo:Ax w va vr m
 ps:TermsV w pv ps
 fo:OpsV w fv l
theorem TaskV.below{w w':T}{va vr pv fv:Q}{m:Mo}{ps:List (List (Int×Int))}{l:List (Int×Int)}(h:TaskV w va vr pv fv m ps l)(hb:U w.heap.size w w'):TaskV w' va vr pv fv m ps l:=⟨h.mo.below hb,h.ps.below hb,h.fo.below hb⟩
theorem MR(va vr pv fv:Q)(m:Mo)(ps:List (List (Int×Int)))(l:List (Int×Int))(w:T)(hB:0<w.heap.size)(hT:AH w)(hV:TaskV w va vr pv fv m ps l) :
  I Tryz.prog 27 #[ZZ #[va,vr,pv,fv]] w fun e w'=>e=S (.int V (Af m ps l))/\U w.heap.size w w':=by
 have hA:∀o,U w.heap.size w (w.alloc o):=fun o=>(Below.refl _ _).alloc (Nat.le_refl _) o;have HP:O (∀w1,U w.heap.size w w1->I Tryz.prog 43 #[ZZ #[va,vr],pv] w1 fun e w'=>e=S (.int V (CM m ps))/\U w1.heap.size w1 w'):=fun w1 h=>L7 va vr pv m ps w1 (Nat.lt_of_lt_of_le hB h.size) (hT.below h hB) (hV.mo.below h) (hV.ps.below h);have HL:O (∀w1,U w.heap.size w w1->I Tryz.prog 44 #[fv,.int V (ps.length:Int)] w1 fun e w'=>e=S (.int V (Ad ps.length l))/\U w1.heap.size w1 w'):=fun w1 h=>RY fv l ps.length w1 (Nat.lt_of_lt_of_le hB h.size) (hT.below h hB) (hV.fo.below h);unfold Af;obtain⟨ao,ac,rfl⟩:=hV.mo.1.shape;obtain⟨ro,rc,rfl⟩:=hV.mo.2.shape;obtain⟨po,pc,rfl⟩:=hV.ps.shape;obtain⟨fo,fc,rfl,_⟩:=id hV.fo;generalize CM m ps=x at *;generalize Ad ps.length l=y at *;generalize m.vars.length=vn at *;generalize m.rules.length=rn at *;generalize ps.length=pn at *;generalize l.length=fn at *;clear hV hT
 have hp:=HP.out _ (hA (M #[Y ao vn ac,Y ro rn rc,Y po pn pc,Y fo fn fc] 35));have HB:O (∀w1,U (w.heap.size+1) (w.alloc (M #[Y ao vn ac,Y ro rn rc,Y po pn pc,Y fo fn fc] 35)) w1->w1.cell? ⟨w.heap.size,2,Z⟩=X (Y po pn pc)/\w1.cell? ⟨w.heap.size,3,Z⟩=X (Y fo fn fc)):=fun w1 h=>⟨(h.cell (p:=⟨w.heap.size,2,Z⟩) (Nat.lt_succ_self _)).trans (by simp[go_sem]),(h.cell (p:=⟨w.heap.size,3,Z⟩) (Nat.lt_succ_self _)).trans (by simp[go_sem])⟩;by_cases hx:x=0
 .subst hx;rw[if_neg (by simp)];go_enter Tryz.func27,Tryz.ntmps27;go_wp2_with (first|(go_at_call 43;refine hp.mono ?_;rintro e w1 ⟨rfl,hb1⟩;have hbw:=(hA _).trans (hb1.mono (hA _).size);have hq:=HB.out w1 (by simpa using hb1);have k0:=hq.1;have k1:=hq.2;have hl:=HL.out w1 hbw)|(go_at_call 44;refine hl.mono ?_;rintro e w2 ⟨rfl,hb2⟩))
  go_ret;exact⟨rfl,hbw.trans (hb2.mono hbw.size)⟩
 .rw[if_pos hx];go_enter Tryz.func27,Tryz.ntmps27;go_wp2_with (go_at_call 43;refine hp.mono ?_;rintro e w1 ⟨rfl,hb1⟩;have hbw:=(hA _).trans (hb1.mono (hA _).size))
  go_ret;exact⟨rfl,hbw⟩
theorem RM(v:Q)(l:List (Int×Int))(props:Int)(w:T)(hB:0<w.heap.size)(hT:AH w)(hV:OpsV w v l)(hc:Ad props l=0) :
  I Tryz.prog 28 #[v,.int V props] w fun e w'=>∃ao ac,e=S (G #[.slice ao (AA l).length ac,.int V 0])/\U w.heap.size w w'/\O (w'.ownsRow w.heap.size 3 1 (.slice ao (AA l).length ac) (AA l).length (AB (AA l))):=by
 have hrd:I Tryz.prog 45 #[v,.int V props] w fun e w'=>U w.heap.size w w'/\∃ao an ac bo bn bc co cc,e=S (G #[ZZ #[Y ao an ac,Y bo bn bc,.slice co (AA l).length cc],.int V 0])/\O (w'.ownsRow w.heap.size 3 1 (.slice co (AA l).length cc) (AA l).length (AB (AA l))):=by
  refine(Iw v l props w hB hT hV).mono fun e w' ⟨h1,h2,h3⟩=>⟨h1,?_⟩;obtain⟨B,av,_,he,_,ho⟩:=h3 hc;obtain⟨aa,ac,rfl⟩:=A3 ho;obtain⟨ao,cap,rfl,_⟩:=hV;exact⟨_,_,_,_,_,_,_,_,he,ho⟩
 obtain⟨ao,cap,rfl,_⟩:=hV;generalize(AA l).length=an at *;clear hT hc
 go_enter Tryz.func28,Tryz.ntmps28;go_wp2_with (go_at_call 45;refine hrd.mono ?_;rintro e w1 ⟨hb1,ao,bn,ac,bo,bm,bc,co,cc,rfl,HI⟩)
 go_ret2;exact⟨_,_,rfl,by first|exact hb1|exact hb1.alloc hb1.size _,by first|exact HI.out|exact HI.out.alloc _⟩
theorem Ba{m:Mo}{ps:List (List (Int×Int))}{l:List (Int×Int)}(h:Af m ps l=0):CM m ps=0/\Ad ps.length l=0:=by
 unfold Af at h;split at h
 .rename_i h1;exact absurd h h1
 .rename_i h1;exact⟨by simpa using h1,h⟩
structure SurvAt(w:T)(B:Nat)(va vr pv fv av:Q)(bs bl:Nat):Prop where
 lt:B<w.heap.size
 c0:w.cell? ⟨B,0,Z⟩=X va
 c1:w.cell? ⟨B,1,Z⟩=X vr
 c2:w.cell? ⟨B,2,Z⟩=X pv
 c3:w.cell? ⟨B,3,Z⟩=X fv
 c4:w.cell? ⟨B,4,Z⟩=X av
 c5:w.cell? ⟨B,5,Z⟩=X (.map (X bs))
 c6:w.cell? ⟨B,6,Z⟩=X (.map (X bl))
theorem SurvAt.later{w w':T}{B:Nat}{va vr pv fv av:Q}{bs bl:Nat}(h:SurvAt w B va vr pv fv av bs bl)(hb:U w.heap.size w w'):SurvAt w' B va vr pv fv av bs bl:=
 ⟨Nat.lt_of_lt_of_le h.lt hb.size,(hb.cell (p:=⟨B,0,Z⟩) h.lt).trans h.c0,(hb.cell (p:=⟨B,1,Z⟩) h.lt).trans h.c1,(hb.cell (p:=⟨B,2,Z⟩) h.lt).trans h.c2,(hb.cell (p:=⟨B,3,Z⟩) h.lt).trans h.c3,(hb.cell (p:=⟨B,4,Z⟩) h.lt).trans h.c4,(hb.cell (p:=⟨B,5,Z⟩) h.lt).trans h.c5,(hb.cell (p:=⟨B,6,Z⟩) h.lt).trans h.c6⟩
theorem SurvAt.new(w:T)(va vr pv fv av:Q)(t:TypeId):SurvAt (((w.alloc (.map #[] 0)).alloc (.map #[] 0)).alloc (M #[va,vr,pv,fv,av,.map (X w.heap.size),.map (X (w.heap.size+1))] t)) (w.heap.size+2) va vr pv fv av w.heap.size (w.heap.size+1):=by
 have e:w.heap.size+2=((w.alloc (.map #[] 0)).alloc (.map #[] 0)).heap.size:=by simp
 rw[e];refine⟨by simp,?_,?_,?_,?_,?_,?_,?_⟩<;>simp[go_sem]
theorem Rq(w:T)(o:Obj):(((w.alloc (.map #[] 0)).alloc (.map #[] 0)).alloc o).heap[w.heap.size]? = X (.map #[] 0)/\(((w.alloc (.map #[] 0)).alloc (.map #[] 0)).alloc o).heap[w.heap.size+1]? = X (.map #[] 0):=by
 have h1:=(MapKept.heap_alloc w (.map #[] 0)).1;have h2:=(MapKept.heap_alloc (w.alloc (.map #[] 0)) (.map #[] 0)).1;have b1:U (w.alloc (.map #[] 0)).heap.size (w.alloc (.map #[] 0)) (((w.alloc (.map #[] 0)).alloc (.map #[] 0)).alloc o):=((Below.refl _ _).alloc (Nat.le_refl _) _).alloc (by simp) _;have b2:U ((w.alloc (.map #[] 0)).alloc (.map #[] 0)).heap.size ((w.alloc (.map #[] 0)).alloc (.map #[] 0)) (((w.alloc (.map #[] 0)).alloc (.map #[] 0)).alloc o):=(Below.refl _ _).alloc (Nat.le_refl _) _;refine⟨(b1.block _ (by simp)).trans h1,?_⟩;rw[World.size_alloc]at h2;exact(b2.block _ (by simp)).trans h2
def IB(w:T)(va vr pv fv:Q)(l:List (Int×Int))(e:Ending)(w':T):Prop:=
 ∃n ao ac,e=S (G #[E (X ⟨n+2,0,Z⟩),.int V 0])/\U w.heap.size w w'/\w.heap.size<=n/\w'.heap.size=n+3/\O (SurvAt w' (n+2) va vr pv fv (.slice ao (AA l).length ac) n (n+1))/\O (w'.ownsRow w.heap.size 3 1 (.slice ao (AA l).length ac) (AA l).length (AB (AA l)))/\O (w'.heap[n]? = X (.map #[] 0)/\w'.heap[n+1]? = X (.map #[] 0))
theorem U0(va vr pv fv:Q)(m:Mo)(ps:List (List (Int×Int)))(l:List (Int×Int))(w:T)(hB:0<w.heap.size)(hT:AH w)(hV:TaskV w va vr pv fv m ps l)(hc:Af m ps l=0) :
  I Tryz.prog 17 #[ZZ #[va,vr,pv,fv]] w (IB w va vr pv fv l):=by
 have hA:∀o,U w.heap.size w (w.alloc o):=fun o=>(Below.refl _ _).alloc (Nat.le_refl _) o;obtain⟨_,hl0⟩:=Ba hc;obtain⟨ao,ac,rfl⟩:=hV.mo.1.shape;obtain⟨ro,rc,rfl⟩:=hV.mo.2.shape;obtain⟨po,pc,rfl⟩:=hV.ps.shape;obtain⟨fo,fc,rfl,_⟩:=id hV.fo;have HC:O (∀w1,U w.heap.size w w1->I Tryz.prog 27 #[ZZ #[.slice ao m.vars.length ac,.slice ro m.rules.length rc,.slice po ps.length pc,.slice fo l.length fc]] w1 fun e w'=>e=S (.int V 0)/\U w1.heap.size w1 w'):=fun w1 h=>by
  have:=MR _ _ _ _ m ps l w1 (Nat.lt_of_lt_of_le hB h.size) (hT.below h hB) (hV.below h);rw[hc]at this;exact this
 have HL:O (∀w1,U w.heap.size w w1->I Tryz.prog 28 #[.slice fo l.length fc,.int V (ps.length:Int)] w1 fun e w'=>∃ho hc,e=S (G #[.slice ho (AA l).length hc,.int V 0])/\U w1.heap.size w1 w'/\O (w'.ownsRow w1.heap.size 3 1 (.slice ho (AA l).length hc) (AA l).length (AB (AA l)))):=fun w1 h=>RM _ l ps.length w1 (Nat.lt_of_lt_of_le hB h.size) (hT.below h hB) (hV.fo.below h) hl0;unfold IB;generalize AB (AA l)=av at *;generalize(AA l).length=an at *;generalize m.vars.length=vn at *;generalize m.rules.length=rn at *;generalize ps.length=pn at *;generalize l.length=fn at *;clear hV hT hc hl0;have hp:=HC.out _ (hA (M #[Y ao vn ac,Y ro rn rc,Y po pn pc,Y fo fn fc] 35))
 have HB:O (∀w1,U (w.heap.size+1) (w.alloc (M #[Y ao vn ac,Y ro rn rc,Y po pn pc,Y fo fn fc] 35)) w1->w1.cell? ⟨w.heap.size,0,Z⟩=X (Y ao vn ac)/\w1.cell? ⟨w.heap.size,1,Z⟩=X (Y ro rn rc)/\w1.cell? ⟨w.heap.size,2,Z⟩=X (Y po pn pc)/\w1.cell? ⟨w.heap.size,3,Z⟩=X (Y fo fn fc)):=fun w1 h=>⟨(h.cell (p:=⟨w.heap.size,0,Z⟩) (Nat.lt_succ_self _)).trans (by simp[go_sem]),(h.cell (p:=⟨w.heap.size,1,Z⟩) (Nat.lt_succ_self _)).trans (by simp[go_sem]),(h.cell (p:=⟨w.heap.size,2,Z⟩) (Nat.lt_succ_self _)).trans (by simp[go_sem]),(h.cell (p:=⟨w.heap.size,3,Z⟩) (Nat.lt_succ_self _)).trans (by simp[go_sem])⟩;have hmm:=@run_makeMap Tryz.prog;go_enter Tryz.func17,Tryz.ntmps17;go_wp2_with (first|(go_at_call 27;refine hp.mono ?_;rintro e w1 ⟨rfl,hb1⟩;have hbw:=(hA _).trans (hb1.mono (hA _).size);have hq:=HB.out w1 (by simpa using hb1);obtain⟨k0,k1,k2,k3⟩:=hq;have hl:=HL.out w1 hbw)|(go_at_call 28;refine hl.mono ?_;rintro e w2 ⟨ho,hc,rfl,hb2,HO⟩;have hbw2:=hbw.trans (hb2.mono hbw.size);obtain⟨j0,j1,j2,j3⟩:=HB.out w2 (by have:=hb1.trans (hb2.mono hb1.size);simpa using this)))
 go_ret2;have hm1:U w.heap.size w ((w2.alloc (.map #[] 0)).alloc (.map #[] 0)):=(hbw2.alloc hbw2.size _).alloc (by have:=hbw2.size;simp;omega) _;refine⟨w2.heap.size,ho,hc,by rfl,hm1.alloc hm1.size _,hbw2.size,by simp,SurvAt.new w2 _ _ _ _ _ _,?_,?_⟩
 .exact (((A2 HO.out hbw.size).alloc _).alloc _).alloc _
 .exact Rq w2 _
theorem Uz(va vr pv fv:Q)(m:Mo)(ps:List (List (Int×Int)))(l:List (Int×Int))(w:T)(hB:0<w.heap.size)(hT:AH w)(hV:TaskV w va vr pv fv m ps l)(hc:Af m ps l≠0) :
  I Tryz.prog 17 #[ZZ #[va,vr,pv,fv]] w fun e w'=>e=S (G #[E Z,.int V (Af m ps l)])/\U w.heap.size w w':=by
 have hA:∀o,U w.heap.size w (w.alloc o):=fun o=>(Below.refl _ _).alloc (Nat.le_refl _) o;obtain⟨ao,ac,rfl⟩:=hV.mo.1.shape;obtain⟨ro,rc,rfl⟩:=hV.mo.2.shape;obtain⟨po,pc,rfl⟩:=hV.ps.shape;obtain⟨fo,fc,rfl,_⟩:=id hV.fo;have hp:=MR _ _ _ _ m ps l _ (Nat.lt_of_lt_of_le hB (hA (M #[.slice ao m.vars.length ac,.slice ro m.rules.length rc,.slice po ps.length pc,.slice fo l.length fc] 35)).size) (hT.below (hA _) hB) (hV.below (hA _));generalize Af m ps l=c at *;generalize m.vars.length=vn at *;generalize m.rules.length=rn at *;generalize ps.length=pn at *;generalize l.length=fn at *;clear hV hT
 go_enter Tryz.func17,Tryz.ntmps17;go_wp2_with (first|(go_at_call 27;refine hp.mono ?_;rintro e w1 ⟨rfl,hb1⟩;have hbw:=(hA _).trans (hb1.mono (hA _).size)))
 go_ret2;exact⟨rfl,hbw⟩
theorem IW(B:Nat)(va vr pv fv:Q)(ao:Option Addr)(an ac bs bl:Nat)(w:T)(h6:an<=6)(hS:SurvAt w B va vr pv fv (Y ao an ac) bs bl) :
  I Tryz.prog 31 #[E (X ⟨B,0,Z⟩)] w fun e w'=>e=S (.int V ((2^an:Nat):Int))/\w'=w:=by
 have c4:=hS.c4;clear hS;rcases(show an=0\/an=1\/an=2\/an=3\/an=4\/an=5\/an=6 by omega)with rfl|rfl|rfl|rfl|rfl|rfl|rfl;all_goals
  go_enter Tryz.func31,Tryz.ntmps31;go_wp2;go_ret;exact⟨rfl,rfl⟩
open Go.ChangeShapes Go.WideShapes Go.ChangeAt Go.RowKit Go.Deep Go.Maps
def EW:Q->Option (DataW Q×List MemPlace):=fun v=>X (.held v,[])
def MapIs(w:T)(kt:TypeId)(b n:Nat)(f:Lit->Option Q):Prop:=
 ∃D:DataW Q,w.ownsMap Tryz.prog kt EW b n D/\∀x,Maps.has D x=(f x).isSome/\∀v,f x=X v->∀z,D.atKey x z=.held v
theorem MapIs.lt{w:T}{kt:TypeId}{b n:Nat}{f:Lit->Option Q}(h:MapIs w kt b n f):b<w.heap.size:=by
 obtain⟨D,h1,_⟩:=h;exact h1.lt
theorem MapIs.isMap{w:T}{kt:TypeId}{b n:Nat}{f:Lit->Option Q}(h:MapIs w kt b n f):∃es c,w.heap[b]? = X (.map es c):=by
 obtain⟨D,⟨es,c,h1,_⟩,_⟩:=h;exact⟨es,c,h1⟩
theorem MapIs.new{w:T}(kt:TypeId){b:Nat}(h:w.heap[b]? = X (.map #[] 0)):MapIs w kt b 0 (fun _=>Z):=by
 obtain⟨es,c,h1,h2,h3,h4⟩:=World.ownsMap_made w Tryz.prog kt EW;rw[(MapKept.heap_alloc w _).1]at h1;injection h1 with h1;injection h1 with h5 h6;subst h5 h6;exact⟨.map [],⟨#[],0,h,h2,Nat.le_refl _,rfl⟩,fun x=>⟨by simp[Maps.has],fun v hv=>by simp at hv⟩⟩
theorem MapIs.kept{w w':T}{kt:TypeId}{b n:Nat}{f:Lit->Option Q}(h:MapIs w kt b n f)(e:w'.heap[b]? = w.heap[b]?):MapIs w' kt b n f:=by
 obtain⟨D,⟨es,c,h1,h2⟩,h3⟩:=h;exact⟨D,⟨es,c,e.trans h1,h2⟩,h3⟩
theorem MapIs.look{w:T}{kt:TypeId}{b n:Nat}{f:Lit->Option Q}(h:MapIs w kt b n f)(K:Keyed Tryz.prog kt){t e:TypeId}(ht:Tryz.prog.underlying t=X (.map kt e)){z:Q}(hz:(zeroValue e).run Tryz.prog w=.ok z w)
  {key:Q} {kl:Lit} (hkey:keyOf Tryz.prog kt key=X kl):(Instr.lookup t (.map (X b)) key true).run Tryz.prog w=.ok (G #[(f kl).getD z,.bool (f kl).isSome]) w:=by
 obtain⟨D,h1,h2⟩:=h;obtain⟨v,ps,hrun,hR⟩:=h1.look_ok K ht hz (zd:=.held z) (zp:=[]) rfl hkey;obtain⟨hs,hv⟩:=h2 kl;simp only[EW,Option.some.injEq,Prod.mk.injEq]at hR;rw[hrun,hs];cases hf:f kl with
 |none=>
  rw[hf]at hs;have:=Maps.atKey_of_not_has (D:=D) (k:=kl) (by simpa using hs) (.held z);rw[this]at hR;have e1:=hR.1;injection e1 with e1;rw[e1];rfl
 |some u=>
  rw[hv u hf]at hR;have e1:=hR.1;injection e1 with e1;rw[e1];rfl
open Classical in
noncomputable def Df(f:Lit->Option Q)(kl:Lit)(val:Q):Lit->Option Value:=fun x=>if x=kl then X val else f x
theorem Ga(f:Lit->Option Q)(kl:Lit)(val:Q):Df f kl val kl=X val:=by unfold Df;rw[if_pos rfl]
theorem GZ{f:Lit->Option Q}{kl x:Lit}(h:x≠kl)(val:Q):Df f kl val x=f x:=by unfold Df;rw[if_neg h]
theorem MapIs.put{w:T}{kt:TypeId}{b n:Nat}{f:Lit->Option Q}(h:MapIs w kt b n f)(K:Keyed Tryz.prog kt){t e:TypeId}(ht:Tryz.prog.underlying t=X (.map kt e))(hn:n<maxLen)
  {key val:Q} {kl:Lit} (hkey:keyOf Tryz.prog kt key=X kl) (hlit:WideAt.IsKeyLit kl):∃w',(Instr.mapUpdate t (.map (X b)) key val).run Tryz.prog w=.ok () w'/\MapIs w' kt b (n+1) (Df f kl val)/\w.grownBy w' (X b):=by
 obtain⟨D,h1,h2⟩:=h;obtain⟨w',hrun,h3,h4⟩:=h1.update K ht hn hkey (val:=val) (d:=.held val) (ps:=[]) rfl;refine⟨w',hrun,⟨_,h3,fun x=>?_⟩,h4⟩;by_cases hx:x=kl
 .subst hx;rw[Ga];refine⟨by rw[Maps.has_put_same h1.isMap hlit];rfl,fun v hv z=>?_⟩;cases hv
  exact Maps.atKey_put_same h1.isMap hlit _ z
 .rw[GZ hx];refine⟨by rw[Maps.has_put_other hx];exact(h2 x).1,fun v hv z=>?_⟩;rw[Maps.atKey_put_other hx];exact(h2 x).2 v hv z
structure Sk(bs bl:Nat)(w w':T):Prop where
 os:w'.os=w.os
 tape:w'.tape=w.tape
 output:w'.output=w.output
 size:w.heap.size<=w'.heap.size
 block:∀i,i<w.heap.size->i≠bs->i≠bl->w'.heap[i]? = w.heap[i]?
theorem Sk.refl(bs bl:Nat)(w:T):Sk bs bl w w:=⟨rfl,rfl,rfl,Nat.le_refl _,fun _ _ _ _=>rfl⟩
theorem Sk.trans{bs bl:Nat}{a b c:T}(h:Sk bs bl a b)(k:Sk bs bl b c):Sk bs bl a c:=
 ⟨k.os.trans h.os,k.tape.trans h.tape,k.output.trans h.output,Nat.le_trans h.size k.size,fun i hi h1 h2=>(k.block i (Nat.lt_of_lt_of_le hi h.size) h1 h2).trans (h.block i hi h1 h2)⟩
theorem Sk.of{bs bl:Nat}{w w':T}(h:U w.heap.size w w'):Sk bs bl w w':=⟨h.os,h.tape,h.output,h.size,fun i hi _ _=>h.block i hi⟩
theorem Sk.grown{bs bl:Nat}{w w':T}{r:Nat}(h:w.grownBy w' (X r))(hr:r=bs\/r=bl):Sk bs bl w w':=
 ⟨h.os,h.tape,h.output,h.size,fun i hi h1 h2=>h.block i hi (by intro e;injection e with e;omega)⟩
theorem Sk.below{bs bl base:Nat}{w w':T}(h:Sk bs bl w w')(h1:base<=bs)(h2:base<=bl)(h3:base<=w.heap.size):U base w w':=
 ⟨h.os,h.tape,h.output,h.size,fun i hi=>h.block i (by omega) (by omega) (by omega)⟩
def Cd(w:T)(bs bl:Nat):Prop:=(∃es c,w.heap[bs]? = X (.map es c))/\∃es c,w.heap[bl]? = X (.map es c)
theorem I8{w:T}{p:Addr}{v:Q}(h:w.cell? p=X v){es:Array MapEntry}{c:Nat}:w.heap[p.block]?≠X (.map es c):=by
 intro e;simp[World.cell?,e]at h
theorem Sk.cell{bs bl:Nat}{w w':T}(h:Sk bs bl w w')(hm:Cd w bs bl){p:Addr}{v:Q}(hp:w.cell? p=X v):w'.cell? p=X v:=by
 obtain⟨⟨es,c,e1⟩,⟨es',c',e2⟩⟩:=hm;have hlt:=World.block_lt_of_cell? w p hp;rw[World.cell?_of_block (h.block p.block hlt (fun e=>I8 hp (by rw[e];exact e1)) (fun e=>I8 hp (by rw[e];exact e2)))];exact hp
def sec(l:List (Int×Int))(p:Nat):Nat:=Ao (l.map Prod.fst) (p+1)
def EP(claim:Int)(i:Nat):Bool:=decide (claim / 2^i % 2=1)
def mkB(o:Int×Int)(letter:List Bool)(a b:Bool):Bool:=
 if o.1=13 then letter.getD o.2.toNat ZY else if o.1=11 then true else if o.1=10 then !a else if o.1=8 then a&&b else if o.1=9 then a||b else ZY
def CQ(l:List (Int×Int))(letter:List Bool)(claim:Int):Nat->Nat->Bool
 |0,_=>ZY
 |f+1,p=>if Ah (l.getD p (0,0)).1=true then EP claim (AN l p).length else mkB (l.getD p (0,0)) letter (CQ l letter claim f (p+1)) (CQ l letter claim f (max (sec l p) (p+1)))
def tru(l:List (Int×Int))(letter:List Bool)(claim:Int)(p:Nat):Bool:=CQ l letter claim (l.length-p) p
theorem VQ(l:List (Int×Int))(letter:List Bool)(claim:Int):∀f g p,l.length<=f+p->l.length<=g+p->p<l.length->CQ l letter claim f p=CQ l letter claim g p:=by
 intro f;induction f with
 |zero=>intro g p h _ hp;omega
 |succ f ih=>
  intro g p h1 h2 hp;cases g with
  |zero=>omega
  |succ g=>
   simp only[CQ];have aux:∀q,p<q->CQ l letter claim f q=CQ l letter claim g q:=by
    intro q hq;by_cases hql:q<l.length
    .exact ih g q (by omega) (by omega) hql
    .have z:∀f q,l.length<=q->CQ l letter claim f q=false:=by
      intro f;induction f with
      |zero=>intro q _;rfl
      |succ f ihf=>
       intro q hq;simp only[CQ];rw[show l.getD q (0,0)=(0,0) by simp[List.getD_eq_getElem?_getD,hq]];simp[Ah,mkB]
     rw[z f q (by omega),z g q (by omega)]
   rw[aux (p+1) (by omega),aux (max (sec l p) (p+1)) (by omega)]
theorem VR{l:List (Int×Int)}{letter:List Bool}{claim:Int}{p:Nat}(hp:p<l.length)(h:Ah (l.getD p (0,0)).1=true):tru l letter claim p=EP claim (AN l p).length:=by
 unfold tru;obtain⟨f,hf⟩:∃f,l.length-p=f+1:=⟨l.length-p-1,by omega⟩;rw[hf];simp only[CQ];rw[if_pos h]
theorem VS{l:List (Int×Int)}{letter:List Bool}{claim:Int}{p:Nat}(hp:p<l.length)(h:Ah (l.getD p (0,0)).1=ZY)(hs:pn (l.getD p (0,0)).1=2->p+1<sec l p):tru l letter claim p=mkB (l.getD p (0,0)) letter (tru l letter claim (p+1)) (tru l letter claim (sec l p)):=by
 unfold tru;obtain⟨f,hf⟩:∃f,l.length-p=f+1:=⟨l.length-p-1,by omega⟩;rw[hf];have z:∀f q,l.length<=q->CQ l letter claim f q=false:=by
  intro f;induction f with
  |zero=>intro q _;rfl
  |succ f ihf=>
   intro q hq;simp only[CQ];rw[show l.getD q (0,0)=(0,0) by simp[List.getD_eq_getElem?_getD,hq]];simp[Ah,mkB]
 have aux:∀q,p<q->CQ l letter claim f q=CQ l letter claim (l.length-q) q:=by
  intro q hq;by_cases hql:q<l.length
  .exact VQ l letter claim f _ q (by omega) (by omega) hql
  .rw[z _ q (by omega),z _ q (by omega)]
 simp only[CQ];rw[if_neg (by rw[h];decide),aux (p+1) (by omega)];by_cases h2:pn (l.getD p (0,0)).1=2
 .rw[show max (sec l p) (p+1)=sec l p by have:=hs h2;omega,aux (sec l p) (by have:=hs h2;omega)]
 .have hk:(l.getD p (0,0)).1≠8/\(l.getD p (0,0)).1≠9:=by
   constructor<;>intro e<;>rw[e]at h2<;>exact absurd rfl h2
  simp only[mkB,hk.1,hk.2,if_false]
theorem GB(l:List (Int×Int)):∀n i,i<(AN l n).length->∃p:Nat,(AN l n).getD i 0=p/\p<n/\Ah (l.getD p (0,0)).1=true/\(AN l p).length=i:=by
 intro n;induction n with
 |zero=>intro i hi;simp[AN]at hi
 |succ n ih=>
  intro i hi;cases hb:Ah (l.getD n (0,0)).1 with
  |false=>
   rw[KX hb]at hi⊢;obtain⟨p,h1,h2,h3,h4⟩:=ih i hi;exact⟨p,h1,by omega,h3,h4⟩
  |true=>
   rw[GC hb]at hi⊢;by_cases hl:i<(AN l n).length
   .obtain ⟨p,h1,h2,h3,h4⟩:=ih i hl;refine⟨p,?_,by omega,h3,h4⟩;rw[<-h1];simp[List.getD_eq_getElem?_getD,List.getElem?_append_left hl]
   .have hi':i=(AN l n).length:=by simp at hi;omega
    subst hi';exact⟨n,by simp[List.getD_eq_getElem?_getD],by omega,hb,rfl⟩
theorem OA (l:List (Int × Int)) {p n:Nat} (h:p <= n):(AN l p).length <= (AN l n).length:=by
  induction n with
  | zero => obtain rfl : p = 0 := by omega
            exact Nat.le_refl _
  |succ n ih=>
    by_cases hp:p=n+1
    . subst hp;exact Nat.le_refl _
    . have:=ih (by omega)
      simp only[AN,List.length_append];omega
theorem EO(l:List (Int×Int)){p n:Nat}(h:p<n)(hb:Ah (l.getD p (0,0)).1=true):(AN l p).length<(AN l n).length:=by
 have:=OA l (p:=p+1) (n:=n) (by omega);rw[GC hb]at this;simp at this;omega
theorem G0{l:List (Int×Int)}(hz:AR (l.map Prod.fst)=0){p:Nat}(hp:p<l.length) :
  (1<=pn (l.getD p (0,0)).1->p+1<l.length)/\(pn (l.getD p (0,0)).1=2->p+1<sec l p/\sec l p<l.length):=by
 obtain⟨_,hc⟩:=FZ hz;obtain⟨ks,hks⟩:∃ks,ks=l.map Prod.fst:=⟨_,rfl⟩;have hlen:ks.length=l.length:=by rw[hks,List.length_map]
 have hget:ks.getD p 0=(l.getD p (0,0)).1:=by rw[hks];simp[List.getD_eq_getElem?_getD,hp]
 have hsec:sec l p=Ao ks (p+1):=by unfold sec;rw[<-hks]
 rw[<-hks]at hc;rw[<-hget,hsec,<-hlen];obtain⟨m,hm,hm1,hml⟩:=PE ks 1 ks.length p hc (by omega);have ha:=IX (ks:=ks) (q:=p) (by omega);rw[hm]at ha;split at ha
 .cases hr:cnt (ks.drop (p+1)) (pn (ks.getD p 0))with
  |no e=>rw[hr]at ha;simp[R.up]at ha
  |ok m2=>
   rw[hr]at ha;simp only[R.up,R.ok.injEq]at ha;have h2:=DE _ _ _ hr;rw[List.length_drop]at h2;refine⟨fun h=>by omega,fun h=>?_⟩;rw[h,show(2:Nat)=1+1 from rfl]at hr;obtain⟨a,b,hca,hcb,hab⟩:=Kt hr;have h3:=DE _ _ _ hca;have h4:=DE _ _ _ hcb;rw[Ie hca];omega
 .simp at ha
structure PartsAt(w:T)(bh bf bp bH n B pl:Nat)(h:Nat->Bool)(l:List (Int×Int)):Prop where
 holds:w.cell? ⟨bh,0,Z⟩=X (Y (X ⟨bH,0,Z⟩) n n)
 row:∀j,j<n->w.cell? ⟨bH,j,Z⟩=X (.bool (h j))
 ends : w.cell? ⟨bf, 1, Z⟩ = X (Y (X ⟨B, 0, Z⟩) n n)
 erow:∀j,j<n->w.cell? ⟨B,j,Z⟩=X (.int V (Ao (l.map Prod.fst) j))
 place:w.cell? ⟨bp,0,Z⟩=X (.int V pl)
theorem GU(bh bp bH n pl:Nat)(x:Bool)(w:T)(hn:n<=60)(hp:pl+1<n)(c0:w.cell? ⟨bh,0,Z⟩=X (Y (X ⟨bH,0,Z⟩) n n))(c1:w.cell? ⟨bp,0,Z⟩=X (.int V pl))(c2:w.cell? ⟨bH,pl+1,Z⟩=X (.bool x)) :
  I Tryz.prog 101 #[E (X ⟨bh,0,Z⟩),E (X ⟨bp,0,Z⟩)] w fun e w'=>e=S (.bool x)/\w'=w:=by
 go_enter Tryz.func101,Tryz.ntmps101;go_wp2_with fail
 go_ret;exact⟨rfl,rfl⟩
theorem Jd(bh bf bp bH n B pl s:Nat)(x:Bool)(w:T)(hn:n<=60)(hp:pl+1<n)(hs:s<n)(c0:w.cell? ⟨bh,0,Z⟩=X (Y (X ⟨bH,0,Z⟩) n n))(c1:w.cell? ⟨bp,0,Z⟩=X (.int V pl))(c2:w.cell? ⟨bf,1,Z⟩=X (Y (X ⟨B,0,Z⟩) n n))(c3:w.cell? ⟨B,pl+1,Z⟩=X (.int V s))(c4:w.cell? ⟨bH,s,Z⟩=X (.bool x)) :
  I Tryz.prog 102 #[E (X ⟨bh,0,Z⟩),E (X ⟨bf,0,Z⟩),E (X ⟨bp,0,Z⟩)] w fun e w'=>e=S (.bool x)/\∃q,w'=w.drewN q:=by
 go_enter Tryz.func102,Tryz.ntmps102;go_wp2_with fail
 go_quiet (fail)
 go_wp2_with fail
 go_ret;exact⟨rfl,_,rfl⟩
theorem G1(b off cap n B bH pl:Nat)(av:Q)(h:Nat->Bool)(l:List (Int×Int))(aao:Option Addr)(an ac:Nat)(hav:av=Y aao an ac)(w:T)(hr:∀j,j<n->w.cell? ⟨bH,j,Z⟩=X (.bool (h j)))(hbH:bH<w.heap.size)(he:∀j,j<n->w.cell? ⟨B,j,Z⟩=X (.int V (Ao (l.map Prod.fst) j)))(hbB:B<w.heap.size) :
  I Tryz.prog 71 #[ZZ #[Y (X ⟨b,off,Z⟩) n cap,Y (X ⟨B,0,Z⟩) n n,av],.int V pl,Y (X ⟨bH,0,Z⟩) n n] w fun e w'=>
   e=S (G #[.func (.func 101) #[] #[E (X ⟨w.heap.size+1+1,0,Z⟩),E (X ⟨w.heap.size+1,0,Z⟩)],.func (.func 102) #[] #[E (X ⟨w.heap.size+1+1,0,Z⟩),E (X ⟨w.heap.size,0,Z⟩),E (X ⟨w.heap.size+1,0,Z⟩)]])/\U w.heap.size w w'/\O (PartsAt w' (w.heap.size+1+1) w.heap.size (w.heap.size+1) bH n B pl h l):=by
 subst hav;have HR:=(show O _ from hr);have HE:=(show O _ from he);clear hr he;go_enter Tryz.func71,Tryz.ntmps71;go_wp2_with fail
 go_ret2;have hb:U w.heap.size w (((w.alloc (M #[Y (X ⟨b,off,Z⟩) n cap,Y (X ⟨B,0,Z⟩) n n,Y aao an ac] 123)).alloc (M #[ZX V pl] 3)).alloc (M #[Y (X ⟨bH,0,Z⟩) n n] 102)):=(((Below.refl _ _).alloc (Nat.le_refl _) _).alloc (by simp) _).alloc (by simp;omega) _;refine⟨rfl,hb,?_⟩;show PartsAt _ _ _ _ _ _ _ _ _ _;constructor
 .simp[go_sem]
 .exact fun j hj=>(hb.cell (p:=⟨bH,j,Z⟩) hbH).trans (HR.out j hj)
 .simp[go_sem]
 .exact fun j hj=>(hb.cell (p:=⟨B,j,Z⟩) hbB).trans (HE.out j hj)
 .simp[go_sem]
theorem PartsAt.below{w w':T}{bh bf bp bH n B pl:Nat}{h:Nat->Bool}{l:List (Int×Int)}(p:PartsAt w bh bf bp bH n B pl h l)(hb:U w.heap.size w w')(h1:bh<w.heap.size)(h2:bf<w.heap.size)(h3:bp<w.heap.size)(h4:bH<w.heap.size)(h5:B<w.heap.size):PartsAt w' bh bf bp bH n B pl h l:=
 ⟨(hb.cell (p:=⟨bh,0,Z⟩) h1).trans p.holds,fun j hj=>(hb.cell (p:=⟨bH,j,Z⟩) h4).trans (p.row j hj),(hb.cell (p:=⟨bf,1,Z⟩) h2).trans p.ends,fun j hj=>(hb.cell (p:=⟨B,j,Z⟩) h5).trans (p.erow j hj),(hb.cell (p:=⟨bp,0,Z⟩) h3).trans p.place⟩
theorem PartsAt.first{w:T}{bh bf bp bH n B pl:Nat}{h:Nat->Bool}{l:List (Int×Int)}(p:PartsAt w bh bf bp bH n B pl h l)(hn:n<=60)(hp:pl+1<n)(q:Nat) :
  I Tryz.prog 101 #[E (X ⟨bh,0,Z⟩),E (X ⟨bp,0,Z⟩)] (w.drewN q) fun e w'=>e=S (.bool (h (pl+1)))/\w'=w.drewN q:=
 GU bh bp bH n pl _ _ hn hp (by simpa using p.holds) (by simpa using p.place) (by simpa using p.row _ hp)
theorem PartsAt.second{w:T}{bh bf bp bH n B pl:Nat}{h:Nat->Bool}{l:List (Int×Int)}(p:PartsAt w bh bf bp bH n B pl h l)(hn:n<=60)(hp:pl+1<n)(hs:sec l pl<n)(q:Nat) :
  I Tryz.prog 102 #[E (X ⟨bh,0,Z⟩),E (X ⟨bf,0,Z⟩),E (X ⟨bp,0,Z⟩)] (w.drewN q) fun e w'=>e=S (.bool (h (sec l pl)))/\∃r,w'=w.drewN r:=
 (Jd bh bf bp bH n B pl (sec l pl) _ _ hn hp hs (by simpa using p.holds) (by simpa using p.place) (by simpa using p.ends) (by have:=p.erow _ hp;unfold sec;simpa using this) (by simpa using p.row _ hs)).mono fun e w' ⟨h1,r,h2⟩=>⟨h1,q+r,by rw[h2,World.drewN_drewN]⟩
theorem Rp(k v:Int)(lo:Option Addr)(lc bh bf bp bH n B pl:Nat)(letter:List Bool)(h:Nat->Bool)(l:List (Int×Int))(w:T)(hn:n<=60)
  (hL:BoolsV w (.slice lo letter.length lc) letter) (hP:PartsAt w bh bf bp bH n B pl h l) (b1:bh<w.heap.size) (b2:bf<w.heap.size) (b3:bp<w.heap.size) (b4:bH<w.heap.size) (b5:B<w.heap.size)
  (h13:k=13->0<=v/\v<letter.length) (h1:k=10\/k=8\/k=9->pl+1<n) (h2:k=8\/k=9->sec l pl<n) :
  I Tryz.prog 72 #[ZZ #[ZX V k,.int V v],.slice lo letter.length lc,.func (.func 101) #[] #[E (X ⟨bh,0,Z⟩),E (X ⟨bp,0,Z⟩)],.func (.func 102) #[] #[E (X ⟨bh,0,Z⟩),E (X ⟨bf,0,Z⟩),E (X ⟨bp,0,Z⟩)]] w fun e w'=>
   e=S (.bool (mkB (k,v) letter (h (pl+1)) (h (sec l pl))))/\U w.heap.size w w':=by
 have hA:∀o,U w.heap.size w (w.alloc o):=fun o=>(Below.refl _ _).alloc (Nat.le_refl _) o;have hP':=fun o=>hP.below (hA o) b1 b2 b3 b4 b5;by_cases e13:k=13
 .subst e13;obtain⟨hv0,hv1⟩:=h13 rfl;obtain⟨vn,rfl⟩:∃vn:Nat,v=vn:=⟨v.toNat,by omega⟩;obtain⟨lo',lc',hls,hll⟩:=hL;injection hls with e1 e2 e3;subst e1;obtain⟨b,off,rfl,hbl,hat⟩:=hll (by intro h;rw[h]at hv1;simp at hv1;omega);have hc:=fun o=>((hA o).cell (p:=⟨b,off+vn,Z⟩) hbl).trans (hat vn (by omega));have hm:mkB (13,(vn:Int)) letter (h (pl+1)) (h (sec l pl))=letter.getD vn false:=by simp[mkB]
  rw[hm];generalize letter.getD vn ZY=x at hc⊢;generalize letter.length=ln at *;have hvl:vn<ln:=by omega
  clear hm hll hat hv0 hv1 h1 h2 h13 hP hP';go_enter Tryz.func72,Tryz.ntmps72;go_wp2_with fail
  go_ret;exact⟨rfl,hA _⟩
 .by_cases e11:k=11
  .subst e11;have hm:mkB (11,v) letter (h (pl+1)) (h (sec l pl))=true:=by simp[mkB]
   rw[hm];clear hm hL h1 h2 h13 hP hP' e13;go_enter Tryz.func72,Tryz.ntmps72;go_wp2_with fail
   go_ret;exact⟨rfl,hA _⟩
  .by_cases e10:k=10
   .subst e10;have hp:=h1 (.inl rfl);have hf:=fun o=>(hP' o).first hn hp 0
    have hm:mkB (10,v) letter (h (pl+1)) (h (sec l pl))=!h (pl+1):=by simp[mkB]
    rw[hm];generalize h (pl+1)=x at hf⊢;clear hm hL h1 h2 h13 hP hP' e13 e11;go_enter Tryz.func72,Tryz.ntmps72;go_wp2_with (go_at_call 101;refine(hf _).mono ?_;rintro e w1 ⟨rfl,rfl⟩)
    go_ret;exact⟨rfl,below_drewN (hA _) 0⟩
   .by_cases e8:k=8
    .subst e8;have hp:=h1 (.inr (.inl rfl));have hs:=h2 (.inl rfl);have hf:=fun o q=>(hP' o).first hn hp q
     have hf2:=fun o q=>(hP' o).second hn hp hs q;have hm:mkB (8,v) letter (h (pl+1)) (h (sec l pl))=(h (pl+1)&&h (sec l pl)):=by simp[mkB]
     rw[hm];generalize h (pl+1)=x at hf⊢;generalize h (sec l pl)=y at hf2⊢;clear hm hL h1 h2 h13 hP hP' e13 e11 e10;cases x
     .go_enter Tryz.func72,Tryz.ntmps72;go_wp2_with (go_at_call 101;refine(hf _ 0).mono ?_;rintro e w1 ⟨rfl,rfl⟩)
      go_ret;exact⟨rfl,below_drewN (hA _) 0⟩
     .go_enter Tryz.func72,Tryz.ntmps72;go_wp2_with (first|(go_at_call 101;refine(hf _ 0).mono ?_;rintro e w1 ⟨rfl,rfl⟩)|(go_at_call 102;refine(hf2 _ 0).mono ?_;rintro e w1 ⟨rfl,r,rfl⟩))
      go_ret;exact⟨by simp,below_drewN (hA _) _⟩
    .by_cases e9:k=9
     .subst e9;have hp:=h1 (.inr (.inr rfl));have hs:=h2 (.inr rfl);have hf:=fun o q=>(hP' o).first hn hp q
      have hf2:=fun o q=>(hP' o).second hn hp hs q;have hm:mkB (9,v) letter (h (pl+1)) (h (sec l pl))=(h (pl+1)||h (sec l pl)):=by simp[mkB]
      rw[hm];generalize h (pl+1)=x at hf⊢;generalize h (sec l pl)=y at hf2⊢;clear hm hL h1 h2 h13 hP hP' e13 e11 e10 e8;cases x
      .go_enter Tryz.func72,Tryz.ntmps72;go_wp2_with (first|(go_at_call 101;refine(hf _ 0).mono ?_;rintro e w1 ⟨rfl,rfl⟩)|(go_at_call 102;refine(hf2 _ 0).mono ?_;rintro e w1 ⟨rfl,r,rfl⟩))
       go_ret;exact⟨by simp,below_drewN (hA _) _⟩
      .go_enter Tryz.func72,Tryz.ntmps72;go_wp2_with (go_at_call 101;refine(hf _ 0).mono ?_;rintro e w1 ⟨rfl,rfl⟩)
       go_ret;exact⟨rfl,below_drewN (hA _) 0⟩
     .have hm:mkB (k,v) letter (h (pl+1)) (h (sec l pl))=false:=by simp[mkB,e13,e11,e10,e8,e9]
      rw[hm];clear hm hL h1 h2 h13 hP hP';go_enter Tryz.func72,Tryz.ntmps72;go_wp2_with fail
      go_ret;exact⟨rfl,hA _⟩
open Go.ChangeShapes Go.WideShapes Go.ChangeAt Go.RowKit Go.Deep Go.Shelf
attribute [local go_sem] Oper.semAt_some
def FW{n:Nat}(h:0<n)(j:Nat):Fin n:=⟨n-1-j,by omega⟩
def C1{n:Nat}(h:0<n)(k:Nat):List (Fin n):=(List.range k).map (FW h)
theorem IF{n:Nat}(h:0<n)(k:Nat):C1 h (k+1)=C1 h k++[FW h k]:=by simp[C1,List.range_succ]
theorem OZ{n:Nat}(h:0<n)(k:Nat):(C1 h k).length=k:=by simp[C1]
def GD(l:List (Int×Int))(n:Nat)(x:Fin n):Array Value:=#[ZX V (x.1:Int),ZZ #[ZX V (l.getD x.1 (0,0)).1,.int V (l.getD x.1 (0,0)).2]]
def EH(n₀ Bs:Nat)(A B:T):Prop:=U n₀ A B/\B.heap[Bs]? = A.heap[Bs]?
set_option maxRecDepth 100000 in
theorem OW(F:Fence)(m:Nat)(h7:F.fn 100)(hro:F.round=Z)(hm:1<=m)(L Bs n₀ b off n cap:Nat)(l:List (Int×Int))(h0n:0<n)(h60:n<=60)(hnl:n=l.length)(hb:b<n₀)(J Jx:List (Fin n)->T->Prop)
  (hY:∀pre x W,J pre W->pre.length<n->YieldAt F (m-1) Tryz.prog L (GD l n x) W fun e W'=>
   (e=S (.bool true)/\J (pre++[x]) W'/\EH n₀ Bs W W')\/(e=S (.bool ZY)/\Jx (pre++[x]) W'))
  (W:T) (hBs:W.cell? ⟨Bs,0,Z⟩=X (Y (X ⟨b,off,Z⟩) n cap)) (hc:BP W b off l) (h0:J [] W) :
  CallsIn F m Tryz.prog 100 #[.func (.yield L) #[] #[],E (X ⟨Bs,0,Z⟩)] W fun e W'=>(∃v,e=S v)/\
   ((∃ys,ys=C1 h0n n/\J ys W')\/(∃pre,(∃k,k<=n/\pre=C1 h0n k)/\Jx pre W')):=by
 refine callsIn_of_wp Tryz.func100 rfl h7 ?_ hro;simp only[Tryz.ntmps100,List.size_toArray,List.length_cons,List.length_nil,Nat.reduceAdd,Nat.reduceSub,Array.replicate_succ,Array.replicate_zero,List.push_toArray,List.append_toArray,List.nil_append,List.cons_append];have HC:O (BP W b off l):=hc;have HN:O (n=l.length):=hnl;clear hc hnl;gi_wp2
 gi_loopw [3] (fun i wr=>∃k:Nat,k<=n/\i=.int V ((n:Int)-1-k)/\J (C1 h0n k) wr/\EH n₀ Bs W wr)
  (fun i _=>(intOf i+1).toNat)
 case atStart=>exact⟨0,Nat.zero_le _,by first|rfl|simp,h0,Below.refl _ _,rfl⟩
 case round=>
  obtain⟨k,hk,rfl,hJs,hnx,hbx⟩:=hrel;have hcb:wr.cell? ⟨Bs,0,Z⟩=X (Y (X ⟨b,off,Z⟩) n cap):=(World.cell?_of_block (w:=W) hbx).trans hBs;by_cases hlt:k<n
  .obtain ⟨p,hp⟩:∃p:Nat,p=n-1-k:=⟨_,rfl⟩;have hpi:(n:Int)-1-k=(p:Int):=by omega
   have hpn:p<n:=by omega
   obtain⟨c0,c1⟩:=(HC.out.below hnx hb) p (by rw[<-HN.out];exact hpn);obtain⟨fn,tmps,assign,body,hy,hR⟩:=hY _ (FW h0n k) wr hJs (by rw[OZ];exact hlt);have hba:(FW h0n k).1=p:=hp.symm;simp only[GD,hba]at hy;rw[hpi];have HPI:O ((n:Int)-1-k=(p:Int)):=hpi;clear hp hpi hba;generalize l.getD p (0,0)=xy at c0 c1 hy;obtain⟨x,y⟩:=xy;simp only at c0 c1 hy;gi_wp2
   refine hR.mono ?_;rintro e W3 (⟨rfl,hJ3,hk3,hk4⟩|⟨rfl,hJx3⟩)
   .gi_wp2
    go_roundw
    case rel=>exact⟨k+1,by omega,by have:=HPI.out;first|(congr 1;omega)|(simp;omega),by rw[IF];exact hJ3,hnx.trans hk3,hk4.trans hbx⟩
    case measure=>have:=HPI.out;first|(simp[intOf];omega)|simp[intOf]
   .gi_wp2
    refine bodyPost_ret (results_none rfl _ _ _) rfl ?_;exact⟨⟨_,rfl⟩,.inr ⟨_,⟨k+1,by omega,(IF _ _).symm⟩,hJx3⟩⟩
  .obtain rfl:k=n:=by omega
   have hpi:(k:Int)-1-k=-1:=by omega
   rw[hpi];gi_wp2
   go_end0
   exact⟨⟨_,rfl⟩,.inl ⟨_,rfl,hJs⟩⟩
theorem Oa(F:Fence)(m:Nat)(h5:F.fn 70)(hro:F.round=Z)(a:Option Addr)(len cap:Nat)(w:T) :
  CallsIn F m Tryz.prog 70 #[Y a len cap] w fun e w'=>e=S (.func (.func 100) #[] #[E (X ⟨w.heap.size,0,Z⟩)])/\w'=w.alloc (M #[Y a len cap] 33):=by
 refine callsIn_of_wp Tryz.func70 rfl h5 ?_ hro;simp only[Tryz.ntmps70,List.size_toArray,List.length_cons,List.length_nil,Nat.reduceAdd,Nat.reduceSub,Array.replicate_succ,Array.replicate_zero,List.push_toArray,List.append_toArray,List.nil_append,List.cons_append];gi_wp2
 go_ret;exact⟨rfl,rfl⟩
theorem Ob(F:Fence)(m:Nat)(h7:F.fn 100)(hro:F.round=Z)(hm:1<=m)(Bs n₀ b off n cap:Nat)(l:List (Int×Int))(h0n:0<n)(h60:n<=60)(hnl:n=l.length)(hb:b<n₀)(w:T)(hBs:Bs<w.heap.size)(hn₀:n₀<=w.heap.size)
  (hc:w.cell? ⟨Bs,0,Z⟩=X (Y (X ⟨b,off,Z⟩) n cap)) (hI:BP w b off l) :
  SeqStopsK F m Tryz.prog 100 #[E (X ⟨Bs,0,Z⟩)] (GD l n) (EH n₀ Bs) (fun ys=>ys=C1 h0n n)
   (fun pre=>∃k,k<=n/\pre=C1 h0n k) n w:=fun L J Jx W hW _ _ hY h0=>
 OW F m h7 hro hm L Bs n₀ b off n cap l h0n h60 hnl hb J Jx hY W ((hW.cell (p:=⟨Bs,0,Z⟩) hBs).trans hc) (hI.below (hW.mono hn₀) hb) h0
theorem OY{n₀ Bs:Nat}{A B C:T}(h:EH n₀ Bs A B)(k:EH n₀ Bs B C):EH n₀ Bs A C:=⟨h.1.trans k.1,k.2.trans h.2⟩
theorem OX{n₀ Bs:Nat}{w:T}(hn:n₀<=w.heap.size)(hB:Bs<w.heap.size)(W:T)(l:Nat)(o o':Obj)(hl:w.heap.size<=l)(h:W.heap[l]? = X o)(h1:o.isCells=ZY)(h2:o.isWalk=ZY):EH n₀ Bs W (W.putObj l o'):=
 ⟨belowK_b hn W l o o' hl h h1 h2,(belowK_b (n₀:=Bs+1) (w:=w) hB W l o o' hl h h1 h2).block Bs (Nat.lt_succ_self _)⟩
