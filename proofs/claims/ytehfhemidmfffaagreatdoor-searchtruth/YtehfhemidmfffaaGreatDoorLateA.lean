/- Joined texts. -/
import Derived.Test.YtehfhemidmfffaaGreatDoorIntsOf
import Derived.Test.YtehfhemidmfffaaGreatDoorMCount
import Derived.Test.YtehfhemidmfffaaGreatDoorDesignOpen
import Derived.Test.YtehfhemidmfffaaGreatDoorBools
import Derived.Shelf.Sort.Plain
import Derived.Shelf.Slices.Reverse
import Derived.Shelf.Slices.Empties
import Derived.Shelf.Slices.CompactI
import Derived.Shelf.Slices.In.SortNone
import Derived.Sort.OwnSortedInts
import Derived.Lib.OwnBridge
import Derived.Lib.AppendZeros
import Derived.RangeFuncNested
import Derived.RangeFuncBound
open Go renaming World→T,Value→Q,Calls→I
open Go.Ending renaming returned→S
open Go.IntKind renaming i64→V
open Go.Obj renaming cells→M
open Go.RowKit renaming Below→U,Hid→O
open Go.Value renaming slice→Y,agg→ZZ,tuple→G,pointer→E,int→ZX
open _root_.Bool renaming false→ZY
open _root_.Option renaming none→Z,some→X
open Go.Proofs.Tryz renaming func162→dE,func16→dD,func174→dF,func182→dG,func28→dH,func30→dI,func52→dJ,func54→dK,func57→dL,func79→dM,func80→dN,func88→dO,isAgg0→dP,isAgg255→dQ,isAgg3→dR,isAgg43→dT,isAgg4→dS,ntmps16→dU,ntmps174→dV,ntmps28→dW,ntmps30→dX,ntmps52→dY,ntmps54→dZ,ntmps57→ed,ntmps79→ee,ntmps80→eg,ntmps88→eh,prog→ei,results54→ej,sizeOf0→ep,sizeOf255→er,sizeOf3→eu,sizeOf43→ey,sizeOf4→ew,underlying0→ez,underlying255→eA,underlying27→eB,underlying3→bI,underlying43→aD,underlying4→eC,zeroValue0→eD,zeroValue255→eE,zeroValue3→eF,zeroValue43→eI,zeroValue4→eH
open Go.IntKind renaming bits→bC,i64→aY,max→bD,min→bE,signed→bF
open Go.MapKept renaming heap_alloc→du
open Go.World renaming block_lt_of_cell?→bW,cell?_of_block→eJ,cell?_setCell_other→bM,cell?_setCell_same'→eK,frozen?_setCell→bL,rowIs_made→eL
open _root_.Array renaming replicate_succ→cV,replicate_zero→cW
open _root_.Int renaming ediv_le_self→cX,ediv_nonneg→cY,mul_le_mul→cZ,natCast_nonneg→da,one_mul→db
open _root_.List renaming append_toArray→de,cons_append→dg,getD_cons_zero→dh,getD_eq_getElem?_getD→aL,getElem?_append_left→di,length_append→aN,length_cons→dj,length_map→aQ,length_nil→dk,length_range→dm,nil_append→dp,push_toArray→dq,range→aE,replicate→dr,size_toArray→dt
open _root_.Nat renaming le_of_lt→dw,le_refl→aU,le_succ→dx,lt_of_lt_of_le→dy,lt_succ_self→dz,reduceAdd→dA,reduceSub→dB,zero_le→dC
open _root_.Prod renaming fst→aW,mk→bK
namespace Go.Proofs.YtehfhemidmfffaaGreatDoor
open Go.ChangeShapes Go.WideShapes Go.ChangeAt Go.RowKit Go.Deep
open Terms Tm
set_option maxHeartbeats 6400000
set_option maxRecDepth 20000
theorem IntsV.shape{w:T}{v:Q}{l:List Int}(h:IntsV w v l):∃ao cap,v=.slice ao l.length cap:=by
 obtain⟨ao,cap,h1,_⟩:=h;exact⟨ao,cap,h1⟩
theorem IntsV.at{w:T}{ao:Option Addr}{cap n:Nat}{l:List Int}(h:IntsV w (Y ao n cap) l){i:Nat}(hi:i<l.length):∃b off,ao=X ⟨b,off,Z⟩/\b<w.heap.size/\w.cell? ⟨b,off+i,Z⟩=X (.int V (l.getD i 0)):=by
 obtain⟨ao',cap',h1,h3⟩:=h;injection h1 with e1 e2 e3;subst e1;obtain⟨b,off,e,hb,hh⟩:=h3 (by intro h;subst h;simp at hi);exact⟨b,off,e,hb,hh i hi⟩
open Classical in
noncomputable def B3(m:Mo)(vals:List Int):Int:=if mcode m=0 then(if vals.length=m.vars.length/\∀i,i<m.vars.length->inB m.vars vals i then 0 else 9)else mcode m
noncomputable def Cg(m:Mo)(vals:List Int):Int:=if B3 m vals=0 then Bn m.vars vals m.vars.length else 0
theorem PV{m:Mo}{vals:List Int}(h:mcode m≠0):B3 m vals=mcode m:=by unfold B3;rw[if_neg h]
theorem Ii{m:Mo}{vals:List Int}(h:mcode m=0)(h2:¬(vals.length=m.vars.length/\∀i,i<m.vars.length->inB m.vars vals i)):B3 m vals=9:=by unfold B3;rw[if_pos h,if_neg h2]
theorem Kw{m:Mo}{vals:List Int}(h:mcode m=0)(h2:vals.length=m.vars.length/\∀i,i<m.vars.length->inB m.vars vals i):B3 m vals=0:=by unfold B3;rw[if_pos h,if_pos h2]
theorem K5(va vv:Q)(l:List Vr)(vals:List Int)(w:T)(hok:Bz l)(hlen:vals.length=l.length)(hin:∀i,i<l.length->inB l vals i)(hV:VarsV w va l)(hI:IntsV w vv vals) :
  I ei 56 #[va,vv] w fun e w'=>e=S (.int V (Bn l vals l.length))/\U w.heap.size w w':=by
 obtain⟨ao,cap,rfl⟩:=hV.shape;obtain⟨io,icap,rfl⟩:=hI.shape;have HV:O (VarsV w (.slice ao l.length cap) l):=hV;have HI:O (IntsV w (.slice io vals.length icap) vals):=hI;have HOK:O (Bz l):=hok;have HIN:O (∀i,i<l.length->inB l vals i):=hin;have HLen:O (vals.length=l.length):=hlen;have h6:=hok.1;obtain⟨n,hn⟩:∃n,n=l.length:=⟨_,rfl⟩;have HN:O (n=l.length):=hn;rw[hlen,<-hn]at HI;rw[hlen,<-hn];rw[<-hn]at h6 HV;clear hV hI hn hok hin hlen;go_enter Tryz.func56,Tryz.ntmps56;go_wp2;go_loopw [5,10] (fun st i wr=>∃k:Nat,k<=n/\i=.int V k/\st=.int V (Bn l vals k)/\U w.heap.size w wr) (fun _ i _=>n-(intOf i).toNat)
 case atStart=>exact⟨0,dC _,rfl,rfl,Below.refl _ _⟩
 case round=>
  obtain⟨k,hk,rfl,rfl,hbel⟩:=hrel;by_cases hlt:k<n
  .obtain ⟨b,off,rfl,hblt,hat⟩:=HV.out.at (i:=k) (by rw[<-HN.out];exact hlt);obtain⟨ib,ioff,rfl,hilt,hic⟩:=HI.out.at (i:=k) (by rw[HLen.out,<-HN.out];exact hlt);obtain⟨c0,c1,c2,c3⟩:=hat.below hbel hblt;have hic2:=(hbel.cell (p:=⟨ib,ioff+k,Z⟩) hilt).trans hic;have hcb:=Io HOK.out (k:=k) (by rw[<-HN.out];exact hk) (fun i hi=>HIN.out i (by rw[<-HN.out];omega));have hpb:=HOK.out.prod (j:=k) (by rw[<-HN.out];exact hk);have hvb:=HOK.out.at (j:=k) (by rw[<-HN.out];exact hlt);have hxb:=HIN.out k (by rw[<-HN.out];exact hlt);have HPr:O (Bn l vals (k+1)=Bn l vals k*AN (l.getD k vr0)+(vals.getD k 0-(l.getD k vr0).lo)):=rfl;unfold inB at hxb;generalize Bn l vals k=st at *;generalize AL l k=pr at *;generalize l.getD k vr0=x at *;generalize vals.getD k 0=y at *;obtain⟨s,lo,hi,ini⟩:=x;simp only[AN]at c0 c1 c2 c3 HPr hvb hxb
   obtain⟨hv1,hv2,hv3,hv4,hv5,hv6,hv7⟩:=hvb;have hsp:=fun w=>Hs s lo hi ini w hv3 hv4 hv5;obtain⟨sp,hspe⟩:∃sp,hi-lo+1=sp:=⟨_,rfl⟩;rw[hspe]at hv1 hv2 hsp HPr;clear hspe hat hic;have hm1:0<=st*sp:=Int.mul_nonneg hcb.1 (by omega);have hm2:st*sp<=262144:=by
    have h1:st<=4096:=by omega
    have:=cZ h1 hv2 (by omega) (by omega);simpa using this
   have hw1:aY.wrap (st*sp)=st*sp:=F8 (by omega) (by omega);have hw2:aY.wrap (st*sp+y)=st*sp+y:=F8 (by omega) (by omega);have hw3:aY.wrap (st*sp+y-lo)=st*sp+y-lo:=F8 (by omega) (by omega);have hszw:=hbel.size;have hbA:=hbel.alloc hszw (M #[.string s,.int V lo,.int V hi,.int V ini] 90);have hic3:=(((Below.refl wr.heap.size wr).alloc (aU _) (M #[.string s,.int V lo,.int V hi,.int V ini] 90)).cell (p:=⟨ib,ioff+k,Z⟩) (by simp only;omega)).trans hic2;have hi0:(0:Int)<=(k:Int):=da _;have hi1:(k:Int)<(n:Int):=by omega
   have hS0:∀w',U (wr.heap.size+1) (wr.alloc (M #[.string s,.int V lo,.int V hi,.int V ini] 90)) w'->w'.cell? ⟨wr.heap.size,0,Z⟩=X (.string s)/\w'.cell? ⟨wr.heap.size,1,Z⟩=X (.int V lo)/\w'.cell? ⟨wr.heap.size,2,Z⟩=X (.int V hi)/\w'.cell? ⟨wr.heap.size,3,Z⟩=X (.int V ini)/\w'.cell? ⟨ib,ioff+k,Z⟩=X (.int V y):=fun w' hw'=>
    ⟨(hw'.cell (p:=⟨wr.heap.size,0,Z⟩) (by simp)).trans (by simp[go_sem]),(hw'.cell (p:=⟨wr.heap.size,1,Z⟩) (by simp)).trans (by simp[go_sem]),(hw'.cell (p:=⟨wr.heap.size,2,Z⟩) (by simp)).trans (by simp[go_sem]),(hw'.cell (p:=⟨wr.heap.size,3,Z⟩) (by simp)).trans (by simp[go_sem]),(hw'.cell (p:=⟨ib,ioff+k,Z⟩) (by simp only;omega)).trans hic3⟩
   have hB0:U (wr.heap.size+1) (wr.alloc (M #[.string s,.int V lo,.int V hi,.int V ini] 90)) (wr.alloc (M #[.string s,.int V lo,.int V hi,.int V ini] 90)):=Below.refl _ _;clear hic3 hic2;go_wp2_with fail
   go_region_held3 (fun w'=>w'.cell? ⟨wr.heap.size,0,Z⟩=X (.string s)/\w'.cell? ⟨wr.heap.size,1,Z⟩=X (.int V lo)/\w'.cell? ⟨wr.heap.size,2,Z⟩=X (.int V hi)/\w'.cell? ⟨wr.heap.size,3,Z⟩=X (.int V ini)/\w'.cell? ⟨ib,ioff+k,Z⟩=X (.int V y))
    (exact hS0 _ (by first|exact hB0|exact hB0.drew|exact hB0.drew.trans (hb2.mono (by simp))))
    (first|(go_at_call 83;refine(hsp _).mono ?_;rintro e w2 ⟨rfl,hb2⟩))
   go_wp2_with fail
   go_roundw
   case rel=>exact⟨k+1,hlt,by go_num,by rw[HPr.out];first|(congr 1;omega)|(simp[hw1,hw2,hw3];omega),hbA.drew.trans (hb2.mono (by simp;omega))⟩
   case measure=>simp[intOf];omega
  .have hkn:k=n:=by omega
   subst hkn;go_wp2;go_ret;exact⟨rfl,hbel⟩
theorem SY(va vr vv:Q)(m:Mo)(w:T)(hB:0<w.heap.size)(hT:AF w)(hV:A1 w va vr m)(io:Option Addr)(il ic:Nat)(hv:vv=Y io il ic)(h:mcode m≠0) :
  I ei 174 #[ZZ #[va,vr],vv] w fun e w'=>e=S (G #[ZX V 0,.int V (mcode m)])/\U w.heap.size w w':=by
 subst hv;have hA:∀o,U w.heap.size w (w.alloc o):=fun o=>(Below.refl _ _).alloc (aU _) o;have hch:=fun o=>C8 va vr m (w.alloc o) (dy hB (hA o).size) (hT.below (hA o) hB) (hV.below (hA o));obtain⟨ao,cap,rfl⟩:=hV.1.shape;obtain⟨ro,rc,rfl⟩:=hV.2.shape;generalize mcode m=x at *;generalize m.vars.length=n at *;generalize m.rules.length=rn at *;clear hV hT
 go_enter dF,dV;go_wp2_with (go_at_call 55;refine(hch _).mono ?_;rintro e w1 ⟨rfl,hb1⟩)
 go_ret2;exact⟨rfl,(hA _).trans (hb1.mono (hA _).size)⟩
theorem SZ(va vr vv:Q)(m:Mo)(w:T)(hB:0<w.heap.size)(hT:AF w)(hV:A1 w va vr m)(io:Option Addr)(il ic:Nat)(hv:vv=Y io il ic)(h:mcode m=0)(hl:il≠m.vars.length) :
  I ei 174 #[ZZ #[va,vr],vv] w fun e w'=>e=S (G #[ZX V 0,.int V 9])/\U w.heap.size w w':=by
 subst hv;have hA:∀o,U w.heap.size w (w.alloc o):=fun o=>(Below.refl _ _).alloc (aU _) o;have hch:=fun o=>C8 va vr m (w.alloc o) (dy hB (hA o).size) (hT.below (hA o) hB) (hV.below (hA o));rw[h]at hch;obtain⟨ao,cap,rfl⟩:=hV.1.shape;obtain⟨ro,rc,rfl⟩:=hV.2.shape;generalize m.vars.length=n at *;generalize m.rules.length=rn at *;have hne:((il:Int) == (n:Int))=false:=by rw[beq_eq_false_iff_ne];omega
 clear hV hT h;go_enter dF,dV;go_wp2_with (go_at_call 55;refine(hch _).mono ?_;rintro e w1 ⟨rfl,hb1⟩;have hcb:w1.cell? ⟨w.heap.size,0,Z⟩=X (Y ao n cap):=(hb1.cell (p:=⟨w.heap.size,0,Z⟩) (by simp)).trans (by simp[go_sem]))
 all_goals first|(exfalso;omega)|go_ret2
 all_goals exact⟨rfl,(hA _).trans (hb1.mono (hA _).size)⟩
theorem Sa(va vr vv:Q)(m:Mo)(vals:List Int)(w:T)(hB:0<w.heap.size)(hT:AF w)(hV:A1 w va vr m)(hI:IntsV w vv vals)(h:mcode m=0)(hlen:vals.length=m.vars.length) :
  I ei 174 #[ZZ #[va,vr],vv] w fun e w'=>e=S (G #[ZX V (Cg m vals),.int V (B3 m vals)])/\U w.heap.size w w':=by
 have hA:∀o,U w.heap.size w (w.alloc o):=fun o=>(Below.refl _ _).alloc (aU _) o;have hch:=fun o=>C8 va vr m (w.alloc o) (dy hB (hA o).size) (hT.below (hA o) hB) (hV.below (hA o));rw[h]at hch;have hok:=Cw h;have h6:=hok.1;have hcf:=(fun w1 (hb:U w.heap.size w w1) (hin:∀i,i<m.vars.length->inB m.vars vals i)=>K5 va vv m.vars vals w1 hok hlen hin (hV.1.below hb) (hI.below hb));obtain⟨ao,cap,rfl⟩:=hV.1.shape;obtain⟨ro,rc,rfl⟩:=hV.2.shape;obtain⟨io,icap,rfl⟩:=hI.shape;have HCF:=(show O _ from hcf);have HV:O (VarsV w (.slice ao m.vars.length cap) m.vars):=hV.1;have HI:O (IntsV w (.slice io vals.length icap) vals):=hI;have HYes:O ((∀i,i<m.vars.length->inB m.vars vals i)->B3 m vals=0/\Cg m vals=Bn m.vars vals m.vars.length):=fun hin=>by
  have h1:=Kw h ⟨hlen,hin⟩;exact⟨h1,by unfold Cg;rw[if_pos h1]⟩
 have HNo:O (∀k,k<m.vars.length->¬inB m.vars vals k->B3 m vals=9/\Cg m vals=0):=fun k hk hin=>by
  have h1:=Ii h (vals:=vals) (fun h=>hin (h.2 k hk));exact⟨h1,by unfold Cg;rw[h1,if_neg (by decide)]⟩
 have HLen:O (vals.length=m.vars.length):=hlen;obtain⟨n,hn⟩:∃n,n=m.vars.length:=⟨_,rfl⟩;have HN:O (n=m.vars.length):=hn;rw[hlen]at HCF HI⊢;rw[<-hn]at h6 hch HCF HV HI HYes HNo⊢;generalize m.rules.length=rn at *;generalize B3 m vals=cc at *;generalize Cg m vals=cv at *;clear hV hI hT hcf hlen hn hok h
 go_enter dF,dV;go_wp2_with (go_at_call 55;refine(hch _).mono ?_;rintro e w1 ⟨rfl,hb1⟩;have hcb:w1.cell? ⟨w.heap.size,0,Z⟩=X (Y ao n cap):=(hb1.cell (p:=⟨w.heap.size,0,Z⟩) (by simp)).trans (by simp[go_sem]))
 have hb1':U (w.heap.size+1) (w.alloc (M #[Y ao n cap,Y ro rn rc] 31)) w1:=hb1.mono (by simp);clear hch hcb hb1;go_loopw [23] (fun i wr=>∃k:Nat,k<=n/\i=.int V k/\O (∀i,i<k->inB m.vars vals i)/\U (w.heap.size+1) (w.alloc (M #[Y ao n cap,Y ro rn rc] 31)) wr) (fun i _=>n-(intOf i).toNat)
 case atStart=>exact⟨0,dC _,rfl,fun j hj=>by omega,hb1'⟩
 case round=>
  obtain⟨k,hk,rfl,HJ,hbelB⟩:=hrel;clear hb1';have hbel:=(hA _).trans (hbelB.mono (dx _));have hszb:w.heap.size+1<=wr.heap.size:=by have:=hbelB.size;simp at this;omega
  have cb:=(hbelB.cell (p:=⟨w.heap.size,0,Z⟩) (by simp)).trans (show _=X (Y ao n cap) by simp[go_sem]);by_cases hlt:k<n
  .obtain ⟨b,off,rfl,hblt,hat⟩:=HV.out.at (i:=k) (by rw[<-HN.out];exact hlt);obtain⟨ib,ioff,rfl,hilt,hic⟩:=HI.out.at (i:=k) (by rw[HLen.out,<-HN.out];exact hlt);obtain⟨c0,c1,c2,c3⟩:=hat.below hbel hblt;have hic2:=(hbel.cell (p:=⟨ib,ioff+k,Z⟩) hilt).trans hic;have HNk:=(show O _ from HNo.out k hlt);have HJ2:O (inB m.vars vals k->∀i,i<k+1->inB m.vars vals i):=fun h i hi=>by
    by_cases hik:i=k
    .subst hik;exact h
    .exact HJ.out i (by omega)
   unfold inB at HNk;have HJ3:O ((m.vars.getD k vr0).lo<=vals.getD k 0/\vals.getD k 0<=(m.vars.getD k vr0).hi->∀i,i<k+1->inB m.vars vals i):=fun h=>HJ2.out h;generalize m.vars.getD k vr0=x at *;generalize vals.getD k 0=y at *;obtain⟨s,lo,hi,ini⟩:=x;simp only at c0 c1 c2 c3 HNk HJ3
   have hwi:=fun w=>OB s lo hi ini y w;clear hat hic HJ2 HJ;have hbA:=hbelB.alloc hszb (M #[.string s,.int V lo,.int V hi,.int V ini] 90);have hbwA:=(hA _).trans (hbA.mono (dx _));have hic3:=(((Below.refl wr.heap.size wr).alloc (aU _) (M #[.string s,.int V lo,.int V hi,.int V ini] 90)).cell (p:=⟨ib,ioff+k,Z⟩) (by simp only;omega)).trans hic2;have hi0:(0:Int)<=(k:Int):=da _;have hi1:(k:Int)<(n:Int):=by omega
   have hS0:∀w',U (wr.heap.size+1) (wr.alloc (M #[.string s,.int V lo,.int V hi,.int V ini] 90)) w'->w'.cell? ⟨wr.heap.size,0,Z⟩=X (.string s)/\w'.cell? ⟨wr.heap.size,1,Z⟩=X (.int V lo)/\w'.cell? ⟨wr.heap.size,2,Z⟩=X (.int V hi)/\w'.cell? ⟨wr.heap.size,3,Z⟩=X (.int V ini)/\w'.cell? ⟨ib,ioff+k,Z⟩=X (.int V y):=fun w' hw'=>
    ⟨(hw'.cell (p:=⟨wr.heap.size,0,Z⟩) (by simp)).trans (by simp[go_sem]),(hw'.cell (p:=⟨wr.heap.size,1,Z⟩) (by simp)).trans (by simp[go_sem]),(hw'.cell (p:=⟨wr.heap.size,2,Z⟩) (by simp)).trans (by simp[go_sem]),(hw'.cell (p:=⟨wr.heap.size,3,Z⟩) (by simp)).trans (by simp[go_sem]),(hw'.cell (p:=⟨ib,ioff+k,Z⟩) (by simp only;omega)).trans hic3⟩
   have hB0:U (wr.heap.size+1) (wr.alloc (M #[.string s,.int V lo,.int V hi,.int V ini] 90)) (wr.alloc (M #[.string s,.int V lo,.int V hi,.int V ini] 90)):=Below.refl _ _;clear hic3 hic2;by_cases hin:lo<=y/\y<=hi
   .rw[decide_eq_true hin]at hwi;have HJ4:=(show O _ from HJ3.out hin);clear hin HJ3 HNk HNo HYes HCF;go_wp2_with fail
    go_region_held3 (fun w'=>w'.cell? ⟨wr.heap.size,0,Z⟩=X (.string s)/\w'.cell? ⟨wr.heap.size,1,Z⟩=X (.int V lo)/\w'.cell? ⟨wr.heap.size,2,Z⟩=X (.int V hi)/\w'.cell? ⟨wr.heap.size,3,Z⟩=X (.int V ini)/\w'.cell? ⟨ib,ioff+k,Z⟩=X (.int V y))
     (exact hS0 _ (by first|exact hB0|exact hB0.drew|exact hB0.drew.trans (hb2.mono (by simp))))
     (first|(go_at_call 139;refine(hwi _).mono ?_;rintro e w2 ⟨rfl,hb2⟩))
    go_wp2_with fail
    go_roundw
    case rel=>exact⟨k+1,hlt,by go_num,HJ4,hbA.drew.trans (hb2.mono (by simp;omega))⟩
    case measure=>simp[intOf];omega
   .rw[decide_eq_false hin]at hwi;have HR:=(show O _ from HNk.out hin);clear hin HJ3 HNk HNo HYes HCF;go_wp2_with fail
    go_region_held3 (fun w'=>w'.cell? ⟨wr.heap.size,0,Z⟩=X (.string s)/\w'.cell? ⟨wr.heap.size,1,Z⟩=X (.int V lo)/\w'.cell? ⟨wr.heap.size,2,Z⟩=X (.int V hi)/\w'.cell? ⟨wr.heap.size,3,Z⟩=X (.int V ini)/\w'.cell? ⟨ib,ioff+k,Z⟩=X (.int V y))
     (exact hS0 _ (by first|exact hB0|exact hB0.drew|exact hB0.drew.trans (hb2.mono (by simp))))
     (first|(go_at_call 139;refine(hwi _).mono ?_;rintro e w2 ⟨rfl,hb2⟩))
    go_wp2_with fail
    go_ret2;rw[HR.out.1,HR.out.2];exact⟨rfl,hbwA.drew.trans (hb2.mono hbwA.size)⟩
  .have hkn:k=n:=by omega
   subst hkn;have HR:=(show O _ from HYes.out HJ.out);have hcf:=HCF.out wr hbel HJ.out;generalize Bn m.vars vals k=cd at *;clear HJ HYes HNo HCF
   go_wp2_with (go_at_call 56;refine hcf.mono ?_;rintro e w2 ⟨rfl,hb2⟩)
   go_ret2;rw[HR.out.1,HR.out.2];exact⟨rfl,hbel.trans (hb2.mono hbel.size)⟩
theorem Sc(va vr vv:Q)(m:Mo)(vals:List Int)(w:T)(hB:0<w.heap.size)(hT:AF w)(hV:A1 w va vr m)(hI:IntsV w vv vals) :
  I ei 174 #[ZZ #[va,vr],vv] w fun e w'=>e=S (G #[ZX V (Cg m vals),.int V (B3 m vals)])/\U w.heap.size w w':=by
 obtain⟨io,ic,hv⟩:=hI.shape;by_cases h:mcode m=0
 .by_cases hl:vals.length=m.vars.length
  .exact Sa va vr vv m vals w hB hT hV hI h hl
  .have h9:=Ii h (vals:=vals) (fun h=>hl h.1);unfold Cg;rw[h9,if_neg (by decide)];exact SZ va vr vv m w hB hT hV io _ ic hv h hl
 .have h9:=PV (vals:=vals) h;unfold Cg;rw[h9,if_neg h];exact SY va vr vv m w hB hT hV io _ ic hv h
noncomputable def Av(m:Mo)(code:Int):Int:=if mcode m=0 then(if 0<=code/\code<AL m.vars m.vars.length then 0 else 9)else mcode m
theorem Wt{m:Mo}{code:Int}(h:mcode m≠0):Av m code=mcode m:=by unfold Av;rw[if_neg h]
theorem N9{m:Mo}{code:Int}(h:mcode m=0)(h2:¬(0<=code/\code<AL m.vars m.vars.length)):Av m code=9:=by unfold Av;rw[if_pos h,if_neg h2]
theorem EM{m:Mo}{code:Int}(h:mcode m=0)(h2:0<=code/\code<AL m.vars m.vars.length):Av m code=0:=by unfold Av;rw[if_pos h,if_pos h2]
theorem Gq{w:T}{B n:Nat}{f:Nat->Int}(h:w.rowIs B 3 n (fun j=>.int V (f j))):IntsV w (Y (X ⟨B,0,Z⟩) n n) ((aE n).map f):=by
 refine⟨X ⟨B,0,Z⟩,n,by simp,fun _=>⟨B,0,rfl,h.lt,fun i hi=>?_⟩⟩;simp only[aQ,dm]at hi;rw[Nat.zero_add,h.cell hi];simp[aL,hi]
noncomputable def FS(m:Mo)(code:Int):List Int:=if Av m code=0 then BA m.vars code else []
theorem MU(va vr:Q)(m:Mo)(code:Int)(w:T)(hB:0<w.heap.size)(hT:AF w)(hV:A1 w va vr m)(h:mcode m=0)(hc:0<=code/\code<AL m.vars m.vars.length) :
  I ei 57 #[ZZ #[va,vr],.int V code] w fun e w'=>∃B,e=S (G #[Y (X ⟨B,0,Z⟩) m.vars.length m.vars.length,.int V 0])/\w.heap.size<=B/\U w.heap.size w w'/\w'.rowIs B 3 m.vars.length (fun j=>.int V (F7 m.vars code j)):=by
 have hA:∀o,U w.heap.size w (w.alloc o):=fun o=>(Below.refl _ _).alloc (aU _) o;have hch:=fun o=>C8 va vr m (w.alloc o) (dy hB (hA o).size) (hT.below (hA o) hB) (hV.below (hA o));rw[h]at hch;have hok:=Cw h;have HOK:O (Bz m.vars):=hok;have h6:=hok.1;have hcf:=(fun w1 (hb:U w.heap.size w w1)=>K8 va m.vars w1 hok (hV.1.below hb));obtain⟨ao,cap,rfl⟩:=hV.1.shape;obtain⟨ro,rc,rfl⟩:=hV.2.shape;have HV:O (VarsV w (.slice ao m.vars.length cap) m.vars):=hV.1;have hN:=hok.prod (j:=m.vars.length) (aU _);have HS0:O (B1 m.vars m.vars.length=1):=VA _;obtain⟨hc1,hc2⟩:=hc;generalize AL m.vars m.vars.length=N at *;obtain⟨n,hn⟩:∃n,n=m.vars.length:=⟨_,rfl⟩
 have HN:O (n=m.vars.length):=hn;rw[<-hn]at h6 hch hcf HV HS0⊢;generalize m.rules.length=rn at *;have hmk:=run_make_row' (P:=ei) 43 3 (.int V 0) 8 aD BS rfl .i64 .i64 n (by omega) (by omega)
 clear hV hT hn hok h;go_enter dL,ed;go_wp2_with (first|(go_at_call 55;refine(hch _).mono ?_;rintro e w1 ⟨rfl,hb1⟩;have hcb:w1.cell? ⟨w.heap.size,0,Z⟩=X (Y ao n cap):=(hb1.cell (p:=⟨w.heap.size,0,Z⟩) (by simp)).trans (by simp[go_sem]);have hbw:=(hA _).trans (hb1.mono (hA _).size);have hs1:w.heap.size<w1.heap.size:=(by have:=hb1.size;simp at this;omega))|(go_at_call 84;refine(hcf _ hbw).mono ?_;rintro e w2 ⟨rfl,hb2⟩;have hcb2:=(hb2.cell (p:=⟨w.heap.size,0,Z⟩) hs1).trans hcb))
 have hbw2:=hbw.trans (hb2.mono hbw.size);have hrow0:=eL w2 (.int V 0) n 3;have hs2:=dy hs1 hb2.size;have HB2:O (U w.heap.size w w2):=hbw2;have hcb3:=hcb2;clear hch hcf hmk hb1 hb2 hcb hbw hs1 hbw2 hcb2;go_loopw [1,8] (fun cd i wr=>∃k:Nat,k<=n/\i=.int V ((k:Int)-1)/\cd=.int V (code / B1 m.vars k)/\O (wr.rowIs w2.heap.size 3 n (fun j=>if k<=j then .int V (F7 m.vars code j)else .int V 0))/\O (U w2.heap.size w2 wr)) (fun _ i _=>(intOf i+1).toNat)
 case atStart=>exact⟨n,aU _,by first|rfl|go_num,by rw[HS0.out];simp,hrow0.congr (fun i hi=>by rw[if_neg (by omega)]),(Below.refl _ _).alloc (aU _) _⟩
 case round=>
  obtain⟨k,hk,rfl,rfl,HRow,HBel⟩:=hrel;have hbel:=HBel.out;have hrow:=HRow.out;have hbw:=HB2.out.trans (hbel.mono HB2.out.size);have hszr:=hrow.lt;have cb:=(hbel.cell (p:=⟨w.heap.size,0,Z⟩) hs2).trans hcb3;by_cases hk0:0<k
  .obtain ⟨k,rfl⟩:∃k',k=k'+1:=⟨k-1,by omega⟩;rw[show(((k+1:Nat):Int)-1)=(k:Int) by omega];have hlt:k<n:=by omega
   obtain⟨b,off,rfl,hblt,hat⟩:=HV.out.at (i:=k) (by rw[<-HN.out];exact hlt);obtain⟨c0,c1,c2,c3⟩:=hat.below hbw hblt;have hvb:=HOK.out.at (j:=k) (by rw[<-HN.out];exact hlt);have hsg:=Na HOK.out (i:=k+1) (by rw[<-HN.out];exact hlt);have HQ:O (code / B1 m.vars (k+1) / AN (m.vars.getD k vr0)=code / B1 m.vars k):=UE HOK.out code (by rw[<-HN.out];exact hlt);have HVa:O (F7 m.vars code k=(m.vars.getD k vr0).lo+(code / B1 m.vars (k+1)) % AN (m.vars.getD k vr0)):=rfl;have hq0:0<=code / B1 m.vars (k+1):=cY hc1 (by omega);have hq1:code / B1 m.vars (k+1)<=4096:=by
    have:=cX (B1 m.vars (k+1)) hc1;omega
   have hf:wr.frozen? ⟨w2.heap.size,k,Z⟩=false:=hrow.frozen k;have hcl:wr.cell? ⟨w2.heap.size,k,Z⟩=X (.int V 0):=by rw[hrow.cell hlt,if_neg (by omega)]
   generalize code / B1 m.vars (k+1)=cd at *;generalize m.vars.getD k vr0=x at *;obtain⟨s,lo,hi,ini⟩:=x;simp only[AN]at c0 c1 c2 c3 HQ HVa hvb;obtain⟨hv1,hv2,hv3,hv4,hv5,hv6,hv7⟩:=hvb;have hsp:=fun w=>Hs s lo hi ini w hv3 hv4 hv5
   obtain⟨sp,hspe⟩:∃sp,hi-lo+1=sp:=⟨_,rfl⟩;rw[hspe]at hv1 hv2 hsp HQ HVa;clear hspe hat;have hr0:=Int.emod_nonneg cd (show sp≠0 by omega);have hr1:=Int.emod_lt_of_pos cd (show 0<sp by omega);have hi0:(0:Int)<=(k:Int):=da _;have hi1:(k:Int)<(n:Int):=by omega
   have hsz0:¬sp=0:=by omega
   have hsz1:(sp == 0)=false:=by rw[beq_eq_false_iff_ne];omega
   have ht:cd.tmod sp=cd % sp:=Int.tmod_eq_emod_of_nonneg hq0;have htd:cd.tdiv sp=cd / sp:=Int.tdiv_eq_ediv_of_nonneg hq0;have hd0:=cY hq0 (show 0<=sp by omega);have hd1:=cX sp hq0;have hw0:aY.wrap (cd % sp)=cd % sp:=F8 (by omega) (by omega);have hw1:aY.wrap (lo+cd % sp)=lo+cd % sp:=F8 (by omega) (by omega);have hbA:=hbel.alloc (dw hszr) (M #[.string s,.int V lo,.int V hi,.int V ini] 90);have HBA:=(show O _ from hbA);have hfA:=hrow.alloc (M #[.string s,.int V lo,.int V hi,.int V ini] 90);have HRA:=(show O _ from hfA);have hS0:∀w',U (wr.heap.size+1) (wr.alloc (M #[.string s,.int V lo,.int V hi,.int V ini] 90)) w'->w'.cell? ⟨wr.heap.size,0,Z⟩=X (.string s)/\w'.cell? ⟨wr.heap.size,1,Z⟩=X (.int V lo)/\w'.cell? ⟨wr.heap.size,2,Z⟩=X (.int V hi)/\w'.cell? ⟨wr.heap.size,3,Z⟩=X (.int V ini):=fun w' hw'=>
    ⟨(hw'.cell (p:=⟨wr.heap.size,0,Z⟩) (by simp)).trans (by simp[go_sem]),(hw'.cell (p:=⟨wr.heap.size,1,Z⟩) (by simp)).trans (by simp[go_sem]),(hw'.cell (p:=⟨wr.heap.size,2,Z⟩) (by simp)).trans (by simp[go_sem]),(hw'.cell (p:=⟨wr.heap.size,3,Z⟩) (by simp)).trans (by simp[go_sem])⟩
   have hne:∀j:Nat,(⟨wr.heap.size,j,Z⟩:Addr)≠⟨w2.heap.size,k,Z⟩:=fun j h=>by injection h with h1;omega
   have hS1:∀w' v,U (wr.heap.size+1) (wr.alloc (M #[.string s,.int V lo,.int V hi,.int V ini] 90)) w'->(w'.setCell ⟨w2.heap.size,k,Z⟩ v).cell? ⟨wr.heap.size,0,Z⟩=X (.string s)/\(w'.setCell ⟨w2.heap.size,k,Z⟩ v).cell? ⟨wr.heap.size,1,Z⟩=X (.int V lo)/\(w'.setCell ⟨w2.heap.size,k,Z⟩ v).cell? ⟨wr.heap.size,2,Z⟩=X (.int V hi)/\(w'.setCell ⟨w2.heap.size,k,Z⟩ v).cell? ⟨wr.heap.size,3,Z⟩=X (.int V ini):=fun w' v hw'=>by
    obtain⟨a0,a1,a2,a3⟩:=hS0 w' hw';exact⟨(bM _ _ _ _ (hne 0).symm).trans a0,(bM _ _ _ _ (hne 1).symm).trans a1,(bM _ _ _ _ (hne 2).symm).trans a2,(bM _ _ _ _ (hne 3).symm).trans a3⟩
   have hB0:U (wr.heap.size+1) (wr.alloc (M #[.string s,.int V lo,.int V hi,.int V ini] 90)) (wr.alloc (M #[.string s,.int V lo,.int V hi,.int V ini] 90)).drew:=(Below.refl _ _).drew;have hrw:=fun w' (hw':U (wr.heap.size+1) (wr.alloc (M #[.string s,.int V lo,.int V hi,.int V ini] 90)) w')=>hfA.of_block (hw'.block w2.heap.size (by omega));have hcf3:∀w',U (wr.heap.size+1) (wr.alloc (M #[.string s,.int V lo,.int V hi,.int V ini] 90)) w'->w'.frozen? ⟨w2.heap.size,k,Z⟩=ZY/\w'.cell? ⟨w2.heap.size,k,Z⟩=X (.int V 0):=fun w' hw'=>⟨(hrw w' hw').frozen k,by rw[(hrw w' hw').cell hlt,if_neg (by omega)]⟩;have HRw:=(show O _ from hrw);clear hfA hbA hrw hbel hrow hbw;go_wp2_with fail
   go_region_held3 (fun w'=>w'.cell? ⟨wr.heap.size,0,Z⟩=X (.string s)/\w'.cell? ⟨wr.heap.size,1,Z⟩=X (.int V lo)/\w'.cell? ⟨wr.heap.size,2,Z⟩=X (.int V hi)/\w'.cell? ⟨wr.heap.size,3,Z⟩=X (.int V ini))
    (first|exact hS0 _ hB0|exact hS0 _ (hB0.trans (hb3.mono (by simp)))|exact hS1 _ _ (hB0.trans (hb3.mono (by simp))))
    (first|(go_at_call 83;refine(hsp _).mono ?_;rintro e w3 ⟨rfl,hb3⟩;obtain⟨hf3,hc3⟩:=hcf3 _ (hB0.trans (hb3.mono (by simp)))))
   have hB3:=hB0.trans (hb3.mono (by simp));obtain⟨e0,e1,e2,e3⟩:=hS1 w3 (.int V (lo+cd % sp)) hB3;have hs3:wr.heap.size<w3.heap.size:=by have:=hb3.size;simp at this;omega
   have hrow4:∀w4,U w3.heap.size (w3.setCell ⟨w2.heap.size,k,Z⟩ (.int V (lo+cd % sp))) w4->w4.rowIs w2.heap.size 3 n (fun j=>if k<=j then .int V (F7 m.vars code j)else .int V 0)/\U w2.heap.size w2 w4:=fun w4 h4=>by
    refine⟨(((HRw.out w3 hB3).set k (.int V (lo+cd % sp))).of_block (h4.block w2.heap.size (by omega))).congr fun j hj=>?_,?_⟩
    .by_cases hjk:j=k
     .subst hjk;rw[if_pos rfl,if_pos (aU _),HVa.out]
     .rw[if_neg hjk];by_cases hkj:k+1<=j
      .rw[if_pos hkj,if_pos (by omega)]
      .rw[if_neg hkj,if_neg (by omega)]
    .exact ((HBA.out.trans (hB3.mono (by omega))).setCell (by simp) _).trans (h4.mono (by omega))
   have HR4:=(show O _ from hrow4);clear hrow4 hf hcl hf3 hc3 hcf3 hS0 hS1;go_wp2_with (go_at_call 83;refine(hsp _).mono ?_;rintro e w4 ⟨rfl,hb4⟩)
   have hb4':U w3.heap.size (w3.setCell ⟨w2.heap.size,k,Z⟩ (.int V (lo+cd % sp))) w4:=hb4.mono (by simp);go_roundw
   case rel=>exact⟨k,by omega,by first|rfl|go_num,by rw[<-HQ.out],(HR4.out _ hb4').1,(HR4.out _ hb4').2⟩
   case measure=>simp[intOf]
  .have hk0:k=0:=by omega
   subst hk0;go_wp2;go_ret2;exact⟨w2.heap.size,rfl,HB2.out.size,hbw,hrow.congr (fun i hi=>by rw[if_pos (by omega)])⟩
theorem S3(va vr:Q)(m:Mo)(code:Int)(w:T)(hB:0<w.heap.size)(hT:AF w)(hV:A1 w va vr m)(h:mcode m≠0) :
  I ei 57 #[ZZ #[va,vr],.int V code] w fun e w'=>e=S (G #[Y Z 0 0,.int V (mcode m)])/\U w.heap.size w w':=by
 have hA:∀o,U w.heap.size w (w.alloc o):=fun o=>(Below.refl _ _).alloc (aU _) o;have hch:=fun o=>C8 va vr m (w.alloc o) (dy hB (hA o).size) (hT.below (hA o) hB) (hV.below (hA o));obtain⟨ao,cap,rfl⟩:=hV.1.shape;obtain⟨ro,rc,rfl⟩:=hV.2.shape;generalize mcode m=x at *;generalize m.vars.length=n at *;generalize m.rules.length=rn at *;clear hV hT
 go_enter dL,ed;go_wp2_with (go_at_call 55;refine(hch _).mono ?_;rintro e w1 ⟨rfl,hb1⟩)
 go_ret2;exact⟨rfl,(hA _).trans (hb1.mono (hA _).size)⟩
theorem S4(va vr:Q)(m:Mo)(code:Int)(w:T)(hB:0<w.heap.size)(hT:AF w)(hV:A1 w va vr m)(h:mcode m=0)(hc:¬(0<=code/\code<AL m.vars m.vars.length)) :
  I ei 57 #[ZZ #[va,vr],.int V code] w fun e w'=>e=S (G #[Y Z 0 0,.int V 9])/\U w.heap.size w w':=by
 have hA:∀o,U w.heap.size w (w.alloc o):=fun o=>(Below.refl _ _).alloc (aU _) o;have hch:=fun o=>C8 va vr m (w.alloc o) (dy hB (hA o).size) (hT.below (hA o) hB) (hV.below (hA o));rw[h]at hch;have hok:=Cw h;have hcf:=(fun w1 (hb:U w.heap.size w w1)=>K8 va m.vars w1 hok (hV.1.below hb));obtain⟨ao,cap,rfl⟩:=hV.1.shape;obtain⟨ro,rc,rfl⟩:=hV.2.shape;have hN:=hok.prod (j:=m.vars.length) (aU _);generalize AL m.vars m.vars.length=N at *;generalize m.vars.length=n at *;generalize m.rules.length=rn at *;clear hV hT hok h
 by_cases h0:code<0
 .clear hc;go_enter dL,ed;go_wp2_with (go_at_call 55;refine(hch _).mono ?_;rintro e w1 ⟨rfl,hb1⟩)
  go_ret2;exact⟨rfl,(hA _).trans (hb1.mono (hA _).size)⟩
 .have h1:N<=code:=by omega
  clear hc;go_enter dL,ed;go_wp2_with (first|(go_at_call 55;refine(hch _).mono ?_;rintro e w1 ⟨rfl,hb1⟩;have hcb:w1.cell? ⟨w.heap.size,0,Z⟩=X (Y ao n cap):=(hb1.cell (p:=⟨w.heap.size,0,Z⟩) (by simp)).trans (by simp[go_sem]);have hbw:=(hA _).trans (hb1.mono (hA _).size))|(go_at_call 84;refine(hcf _ hbw).mono ?_;rintro e w2 ⟨rfl,hb2⟩))
  go_ret2;exact⟨rfl,hbw.trans (hb2.mono hbw.size)⟩
theorem MS(va vr:Q)(m:Mo)(code:Int)(w:T)(hB:0<w.heap.size)(hT:AF w)(hV:A1 w va vr m) :
  I ei 57 #[ZZ #[va,vr],.int V code] w fun e w'=>∃v,e=S (G #[v,.int V (Av m code)])/\U w.heap.size w w'/\IntsV w' v (FS m code):=by
 by_cases h:mcode m=0
 .by_cases hc:0<=code/\code<AL m.vars m.vars.length
  .have h0:=EM h hc;unfold FS;rw[h0,if_pos rfl];exact(MU va vr m code w hB hT hV h hc).mono fun e w' ⟨B,he,_,hb,hr⟩=>⟨_,he,hb,Gq hr⟩
  .have h0:=N9 h hc;unfold FS;rw[h0,if_neg (by decide)];exact(S4 va vr m code w hB hT hV h hc).mono fun e w' ⟨he,hb⟩=>⟨_,he,hb,Z,0,rfl,fun h=>absurd rfl h⟩
 .have h0:=Wt (code:=code) h;unfold FS;rw[h0,if_neg h];exact(S3 va vr m code w hB hT hV h).mono fun e w' ⟨he,hb⟩=>⟨_,he,hb,Z,0,rfl,fun h=>absurd rfl h⟩
theorem Lm(l:List Vr):(Bg l).length=l.length:=by simp[Bg]
theorem RZ{l:List Vr}{i:Nat}(h:i<l.length):(Bg l).getD i 0=(l.getD i vr0).ini:=by
 simp[Bg,aL,h]
theorem So(va vr:Q)(m:Mo)(w:T)(hB:0<w.heap.size)(hT:AF w)(hV:A1 w va vr m)(h:mcode m=0) :
  I ei 30 #[ZZ #[va,vr]] w fun e w'=>e=S (G #[ZX V (Bn m.vars (Bg m.vars) m.vars.length),.int V 0])/\U w.heap.size w w':=by
 have hA:∀o,U w.heap.size w (w.alloc o):=fun o=>(Below.refl _ _).alloc (aU _) o;have hch:=fun o=>C8 va vr m (w.alloc o) (dy hB (hA o).size) (hT.below (hA o) hB) (hV.below (hA o));rw[h]at hch;have hok:=Cw h;have h6:=hok.1;have hcf:=(fun vv w1 (hb:U w.heap.size w w1) (hI:IntsV w1 vv (Bg m.vars))=>K5 va vv m.vars (Bg m.vars) w1 hok (Lm _) (Ln hok) (hV.1.below hb) hI);obtain⟨ao,cap,rfl⟩:=hV.1.shape;obtain⟨ro,rc,rfl⟩:=hV.2.shape;have HCF:=(show O _ from hcf);have HV:O (VarsV w (.slice ao m.vars.length cap) m.vars):=hV.1;have HIn:O (∀i,i<m.vars.length->(Bg m.vars).getD i 0=(m.vars.getD i vr0).ini):=fun i hi=>RZ hi;have HLn:O ((Bg m.vars).length=m.vars.length):=Lm _;generalize Bn m.vars (Bg m.vars) m.vars.length=res at *;obtain⟨n,hn⟩:∃n,n=m.vars.length:=⟨_,rfl⟩
 have HN:O (n=m.vars.length):=hn;rw[<-hn]at h6 hch HCF HV HIn HLn⊢;generalize m.rules.length=rn at *;have hmk:=run_make_row' (P:=ei) 43 3 (.int V 0) 8 aD BS rfl .i64 .i64 n (by omega) (by omega)
 clear hV hT hn hok h hcf;go_enter dI,dX;go_wp2_with (go_at_call 55;refine(hch _).mono ?_;rintro e w1 ⟨rfl,hb1⟩;have hcb:w1.cell? ⟨w.heap.size,0,Z⟩=X (Y ao n cap):=(hb1.cell (p:=⟨w.heap.size,0,Z⟩) (by simp)).trans (by simp[go_sem]);have hs1:w.heap.size<w1.heap.size:=(by have:=hb1.size;simp at this;omega);have hcbA:∀o,(w1.alloc o).cell? ⟨w.heap.size,0,Z⟩=X (Y ao n cap):=(fun o=>(((Below.refl w1.heap.size w1).alloc (aU _) o).cell (p:=⟨w.heap.size,0,Z⟩) hs1).trans hcb))
 have hbw:=(hA _).trans (hb1.mono (hA _).size);have hrow0:=eL w1 (.int V 0) n 3;have HB1:O (U w.heap.size w w1):=hbw;clear hch hmk hb1 hbw hcbA;go_loopw [20] (fun i wr=>∃k:Nat,k<=n/\i=.int V k/\O (wr.rowIs w1.heap.size 3 n (fun j=>if j<k then .int V ((Bg m.vars).getD j 0)else .int V 0))/\O (U w1.heap.size w1 wr)) (fun i _=>n-(intOf i).toNat)
 case atStart=>exact⟨0,dC _,rfl,hrow0.congr (fun i hi=>by rw[if_neg (by omega)]),(Below.refl _ _).alloc (aU _) _⟩
 case round=>
  obtain⟨k,hk,rfl,HRow,HBel⟩:=hrel;have hbel:=HBel.out;have hrow:=HRow.out;have hbw:=HB1.out.trans (hbel.mono HB1.out.size);have hszr:=hrow.lt;have cb:=(hbel.cell (p:=⟨w.heap.size,0,Z⟩) hs1).trans hcb;by_cases hlt:k<n
  .obtain ⟨b,off,rfl,hblt,hat⟩:=HV.out.at (i:=k) (by rw[<-HN.out];exact hlt);obtain⟨c0,c1,c2,c3⟩:=hat.below hbw hblt;have HIk:=(show O _ from HIn.out k hlt);have hA2:=fun o=>hrow.alloc o;have hf:∀o,(wr.alloc o).frozen? ⟨w1.heap.size,k,Z⟩=false:=fun o=>(hA2 o).frozen k;have hcl:∀o,(wr.alloc o).cell? ⟨w1.heap.size,k,Z⟩=X (.int V 0):=fun o=>by rw[(hA2 o).cell hlt,if_neg (by omega)]
   generalize m.vars.getD k vr0=x at *;obtain⟨s,lo,hi,ini⟩:=x;simp only at c0 c1 c2 c3 HIk
   have hfin:(((wr.setCell ⟨w1.heap.size,k,Z⟩ (.int V ini)).alloc (M #[.string s,.int V lo,.int V hi,.int V ini] 90)).rowIs w1.heap.size 3 n (fun j=>if j<k+1 then .int V ((Bg m.vars).getD j 0)else .int V 0)):=((hrow.set k (.int V ini)).alloc _).congr fun j hj=>by
    by_cases hjk:j=k
    .subst hjk;rw[if_pos rfl,if_pos (by omega),HIk.out]
    .rw[if_neg hjk];by_cases hlk:j<k
     .rw[if_pos hlk,if_pos (by omega)]
     .rw[if_neg hlk,if_neg (by omega)]
   have hbA:=(hbel.setCell (p:=⟨w1.heap.size,k,Z⟩) (aU _) (.int V ini)).alloc (by simp;omega) (M #[.string s,.int V lo,.int V hi,.int V ini] 90);have HF:=(show O _ from hfin);have HBA:=(show O _ from hbA);have hfs:=hf (M #[.string s,.int V lo,.int V hi,.int V ini] 90);have hcs:=hcl (M #[.string s,.int V lo,.int V hi,.int V ini] 90);clear hat hA2 hf hcl hfin hbA hrow hbel hrow0;go_wp2_with fail
   go_roundw
   case rel=>exact⟨k+1,hlt,by go_num,HF.out,HBA.out⟩
   case measure=>simp[intOf];omega
  .have hkn:k=n:=by omega
   subst hkn;have hI:IntsV wr (Y (X ⟨w1.heap.size,0,Z⟩) k k) (Bg m.vars):=by
    have:=Gq (hrow.congr (g:=fun j=>.int V ((Bg m.vars).getD j 0)) (fun i hi=>by rw[if_pos hi]));have e:(aE k).map (fun j=>(Bg m.vars).getD j 0)=Bg m.vars:=by
     apply List.ext_getElem?
     intro i;by_cases hi:i<k
     .simp[hi,aL,show i<(Bg m.vars).length by rw[HLn.out];exact hi]
     .simp[hi,show¬i<(Bg m.vars).length by rw[HLn.out];exact hi]
    rwa[e]at this
   have hcf:=HCF.out _ wr hbw hI;clear hI hrow HCF HRow hrow0;go_wp2_with (go_at_call 56;refine hcf.mono ?_;rintro e w2 ⟨rfl,hb2⟩)
   go_ret2;exact⟨rfl,hbw.trans (hb2.mono hbw.size)⟩
theorem Sn(va vr:Q)(m:Mo)(w:T)(hB:0<w.heap.size)(hT:AF w)(hV:A1 w va vr m)(h:mcode m≠0) :
  I ei 30 #[ZZ #[va,vr]] w fun e w'=>e=S (G #[ZX V 0,.int V (mcode m)])/\U w.heap.size w w':=by
 have hA:∀o,U w.heap.size w (w.alloc o):=fun o=>(Below.refl _ _).alloc (aU _) o;have hch:=fun o=>C8 va vr m (w.alloc o) (dy hB (hA o).size) (hT.below (hA o) hB) (hV.below (hA o));obtain⟨ao,cap,rfl⟩:=hV.1.shape;obtain⟨ro,rc,rfl⟩:=hV.2.shape;generalize mcode m=x at *;generalize m.vars.length=n at *;generalize m.rules.length=rn at *;clear hV hT
 go_enter dI,dX;go_wp2_with (go_at_call 55;refine(hch _).mono ?_;rintro e w1 ⟨rfl,hb1⟩)
 go_ret2;exact⟨rfl,(hA _).trans (hb1.mono (hA _).size)⟩
theorem Sl(va vr:Q)(m:Mo)(w:T)(hB:0<w.heap.size)(hT:AF w)(hV:A1 w va vr m) :
  I ei 30 #[ZZ #[va,vr]] w fun e w'=>e=S (G #[ZX V (if mcode m=0 then Bn m.vars (Bg m.vars) m.vars.length else 0),.int V (mcode m)])/\U w.heap.size w w':=by
 by_cases h:mcode m=0
 .rw[if_pos h,h];exact So va vr m w hB hT hV h
 .rw[if_neg h];exact Sn va vr m w hB hT hV h
structure GV(a b:Vr):Prop where
 na:a.name=bX
 nb:b.name=bY
 a0:-1<=a.lo
 a1:a.lo<=1
 a2:a.lo<=a.hi
 a3:a.hi<=a.lo+3
 a4:a.lo<=a.ini
 a5:a.ini<=a.hi
 b0:-1<=b.lo
 b1:b.lo<=1
 b2:b.lo<=b.hi
 b3:b.hi<=b.lo+3
 b4:b.lo<=b.ini
 b5:b.ini<=b.hi
theorem RH(sp0 sp1 lw0 lw1 iv0 iv1:Int):∃a b,E9 sp0 sp1 lw0 lw1 iv0 iv1=[a,b]/\GV a b:=by
 obtain⟨p0,p1,p2,p3,p4,p5⟩:=Li bX sp0 lw0 iv0;obtain⟨q0,q1,q2,q3,q4,q5⟩:=Li bY sp1 lw1 iv1;exact⟨_,_,rfl,⟨rfl,rfl,p0,p1,p2,p3,p4,p5,q0,q1,q2,q3,q4,q5⟩⟩
theorem GV.sa{a b:Vr}(h:GV a b):1<=AN a/\AN a<=4:=by
 have:=h.a2;have:=h.a3;unfold AN;omega
theorem GV.sb{a b:Vr}(h:GV a b):1<=AN b/\AN b<=4:=by
 have:=h.b2;have:=h.b3;unfold AN;omega
theorem GV.prod{a b:Vr}(h:GV a b):1<=AN a*AN b/\AN a*AN b<=16:=by
 have h1:=h.sa;have h2:=h.sb;have h3:=cZ h1.1 h2.1 (by omega) (by omega);have h4:=cZ h1.2 h2.2 (by omega) (by omega);omega
theorem Sj{a b:Vr}(h:GV a b)(l:List Vr):Cj (a::b::l) 1 b.name=false:=by
 show(decide (a.name=b.name)||false)=ZY;rw[h.na,h.nb];simp[bXY]
theorem GV.vAt{a b:Vr}(h:GV a b)(l:List Vr):vAt (a::b::l) 0=0/\vAt (a::b::l) 1=0:=by
 have h1:=h.sa;have h2:=h.sb;obtain⟨na,nb,p0,p1,p2,p3,p4,p5,q0,q1,q2,q3,q4,q5⟩:=h;have v0:CJ a=true:=by simp only[CJ,decide_eq_true_eq];omega
 have v1:CJ b=true:=by simp only[CJ,decide_eq_true_eq];omega
 refine⟨(KE (l:=a::b::l) (k:=0) rfl rfl).2.2.2.2 (by rw[show((a::b::l).getD 0 vr0).name=bX from na];exact S7) rfl v0 ?_,(KE (l:=a::b::l) (k:=1) rfl rfl).2.2.2.2 (by rw[show((a::b::l).getD 1 vr0).name=bY from nb];exact S8) (Sj ⟨na,nb,p0,p1,p2,p3,p4,p5,q0,q1,q2,q3,q4,q5⟩ l) v1 ?_⟩
 .show¬(64<AN a\/4096<1*AN a);omega
 .show¬(64<AN b\/4096<(1*AN a)*AN b);rw[db];have:=cZ h1.2 h2.2 (by omega) (by omega);omega
theorem GV.vcode{a b:Vr}(h:GV a b):vcode [a,b]=0:=by
 unfold Go.Proofs.YtehfhemidmfffaaGreatDoor.vcode;rw[if_neg (by simp)];refine Da fun j hj=>?_;have hj2:j=0\/j=1:=by simp at hj;omega
 rcases hj2 with rfl|rfl
 .exact (h.vAt []).1
 .exact (h.vAt []).2
theorem GV.mcode{a b:Vr}(h:GV a b){rules:List Ru}(h5:rules.length<=12)(hr:∀j,j<rules.length->BH 2 (rules.getD j ru0)=0):mcode ⟨[a,b],rules⟩=0:=by
 unfold Go.Proofs.YtehfhemidmfffaaGreatDoor.mcode;rw[if_pos h.vcode,if_neg (show¬12<rules.length by omega)];exact Da hr
theorem T7(a b:Vr):AL [a,b] 2=AN a*AN b:=by
 show(1*AN a)*AN b=_;rw[db]
section
variable{a b:Vr}{va vr:Q}{w:T}
theorem GModel.shape{w:T}{va vr:Q}{x y:Vr}(h:GModel w va vr [x,y]):∃ao cap ro rn rc,va=Y ao 2 cap/\vr=Y ro rn rc/\rn<=5:=by
 obtain⟨rules,h1,h2,h3⟩:=h;obtain⟨ao,cap,e1⟩:=h1.1.shape;obtain⟨ro,rc,e2⟩:=h1.2.shape;exact⟨ao,cap,ro,_,rc,e1,e2,h2⟩
end
theorem PlansV.below{w w':T}{v:Q}{l:List Pl}(h:PlansV w v l)(hb:U w.heap.size w w'):PlansV w' v l:=SlV.imp h hb.size fun b _ _ hlt _ ⟨⟨u,h1,h2⟩,h3,h4,⟨u',h5,h6⟩,h7⟩=>
 ⟨⟨u,(hb.cell (p:=⟨b,_,Z⟩) hlt).trans h1,h2.mv hb⟩,(hb.cell (p:=⟨b,_,Z⟩) hlt).trans h3,h4,⟨u',(hb.cell (p:=⟨b,_,Z⟩) hlt).trans h5,h6.mv hb⟩,(hb.cell (p:=⟨b,_,Z⟩) hlt).trans h7⟩
theorem P7{w:T}{v:Q}{vars:List Vr}(h:KU w v vars):∃c0 c1 c2 c3 c4 c5 c6 a b rules,v=ZZ #[c0,c1,c2,c3,c4,c5,c6]/\GV a b/\
  ∀w',U w.heap.size w w'->I ei 13 #[ZZ #[c0,c1,c2,c3,c4,c5,c6]] w' fun e w2=>∃va vr,e=S (ZZ #[va,vr])/\U w'.heap.size w' w2/\Ey w2 va vr [a,b] rules:=by
 obtain⟨sp0,sp1,lw0,lw1,iv0,iv1,pv,ps,rfl,hI,hP,rfl⟩:=h;obtain⟨a,b,he,hG⟩:=RH sp0 sp1 lw0 lw1 iv0 iv1;refine⟨_,_,_,_,_,_,_,a,b,(ps.take 5).map C6,rfl,hG,fun w' hb=>?_⟩;rw[<-he];exact Sv sp0 sp1 lw0 lw1 iv0 iv1 pv ps w' hI (hP.below hb)
open Terms
theorem Pb:ei.cellsOf 66=2:=by kernel_rfl
theorem PR:ei.bytesOf 66=16:=by kernel_rfl
theorem TV{H:Type}{enc:TypeId×Q->H}{W:T}{base:Nat}{v:Q}{d:DataW H}{p:List MemPlace}{ts:List TypeId}{ds:List (DataW H)}{j:Nat}
  (hv:Value.okWide ei W .any base 27 v) (h:DataW.Trod enc ei W 0 (fun _=>true) true 27 v d p)
  (hsz:(DataW.weightsEach ei ts ds).all (·<=reachBytes)=true) (ht:ts[j]? = X 27) (hd:ds[j]? = X d):∃rs,Raws W W.heap.size v rs:=by
 obtain⟨a0,len,cap,rfl⟩:=okWide_slice eB hv;obtain⟨fuel,hf⟩:=h;rcases open_slice_pairs eB Tryz.underlying66 Pb rfl rfl Dj Dj hf with⟨hcs,hx⟩|⟨a,len',cap',m,n,V0,V1,D0,D1,P0,P1,hcs,_,hl,hm,hmm,hx,hcell⟩
 .simp[Value.cells]at hcs;obtain⟨rfl,rfl,rfl⟩:=hcs;exact⟨[],⟨⟨Z,0,rfl,fun h=>absurd rfl h⟩,by simp,fun i hi=>by simp at hi⟩⟩
 .simp[Value.cells]at hcs;obtain⟨rfl,rfl,rfl⟩:=hcs;simp at hmm;subst hmm;have hd2:ds[j]? = X (.slice ((aE len).map fun i=>.agg [D0 i,D1 i]) ((aE (m-len)).map fun j=>.agg [D0 (len+j),D1 (len+j)])):=by rw[hd,(bK.inj hx).1]
  have hs:=sized_slice hsz ht hd2 eB;rw[PR]at hs;simp only[aQ,dm,reachBytes]at hs;have hget:∀i,i<len->(((aE len).map fun i=>(intOf (V0 i),intOf (V1 i))).getD i (0,0))=(intOf (V0 i),intOf (V1 i)):=fun i hi=>by simp[aL,hi]
  have each:∀i,i<len->∃x0 x1,W.cell? (a.add (i*2))=X (.int V x0)/\W.cell? (a.add (i*2+1))=X (.int V x1)/\V0 i=.int V x0/\V1 i=.int V x1/\I64 x0/\I64 x1:=by
   intro i hi;obtain⟨c0,c1,t0,t1⟩:=hcell i (by omega);obtain⟨x0,e0,_,w0⟩:=DataW.trod_int bI t0;obtain⟨x1,e1,_,w1⟩:=DataW.trod_int bI t1;simp at e0 e1;refine⟨x0,x1,by rw[c0,e0],by rw[c1,e1],e0,e1,?_,?_⟩
   .simpa[I64,Lit.wf,bE,bD,bF,bC]using w0
   .simpa[I64,Lit.wf,bE,bD,bF,bC]using w1
  refine⟨(aE len).map fun i=>(intOf (V0 i),intOf (V1 i)),⟨⟨X a,m,by simp,fun hne=>?_⟩,by simp;omega,fun i hi=>?_⟩⟩
  .have hpos:0<len:=by
    rcases Nat.eq_zero_or_pos len with h0|h0
    .subst h0;simp at hne
    .exact h0
   obtain⟨b,off,spot⟩:=a;have hspot:spot=none:=by simpa[Addr.add]using World.cell?_spot (hcell 0 (by omega)).1
   subst hspot;refine⟨b,off,rfl,?_,fun i hi=>?_⟩
   .have:=bW W _ (hcell 0 (by omega)).1;simpa[Addr.add]using this
   .simp only[aQ,dm]at hi;obtain⟨x0,x1,c0,c1,e0,e1,_,_⟩:=each i hi;rw[add_plain]at c0 c1;rw[show off+(i*2+1)=off+i*2+1 by omega]at c1;rw[hget i hi,e0,e1];exact⟨c0,c1⟩
  .simp only[aQ,dm]at hi;obtain⟨x0,x1,_,_,e0,e1,h0,h1⟩:=each i hi;rw[hget i hi,e0,e1];exact⟨h0,h1⟩
def DO:Value:=Y Z 0 0
theorem E8{α:Type}(a b:List α)(d:α)(i:Nat):(a++b).getD i d=if i<a.length then a.getD i d else b.getD (i-a.length) d:=by
 by_cases h:i<a.length
 .rw[if_pos h];simp[aL,di h]
 .rw[if_neg h];simp[aL,List.getElem?_append_right (Nat.le_of_not_lt h)]
namespace Go.Proofs.YtehfhemidmfffaaGreatDoor.Terms
namespace Tm
set_option maxHeartbeats 6400000
set_option maxRecDepth 20000
def ho(σ:Nat->Nat->Bool):Tm->Nat->Prop
 |leaf k v=>fun i=>if k=13 then σ i v.toNat=true else k=11
 |un k _ a=>fun i=>if k=10 then¬ho σ a i else if k=14 then ho σ a (i+1)else if k=17 then∃j,i<=j/\ho σ a j else∀j,i<=j->ho σ a j
 |bi k _ a b=>fun i=>if k=8 then ho σ a i/\ho σ b i else if k=9 then ho σ a i\/ho σ b i else if k=15 then∃j,i<=j/\ho σ b j/\∀m,i<=m->m<j->ho σ a m else∀j,i<=j->ho σ b j\/∃m,i<=m/\m<j/\ho σ a m
open Classical in
noncomputable def hb(σ:Nat->Nat->Bool)(t:Tm)(i:Nat):Bool:=decide (ho σ t i)
end Tm
namespace Tm
end Tm
end Go.Proofs.YtehfhemidmfffaaGreatDoor.Terms
namespace Go.Proofs.YtehfhemidmfffaaGreatDoor.Terms
set_option maxHeartbeats 6400000
set_option maxRecDepth 20000
def Em(s n i:Nat):Nat:=if i<n then i else s+(i-s) % (n-s)
theorem MN{s n i:Nat}(h:i<n):Em s n i=i:=by unfold Em;rw[if_pos h]
namespace Tm
end Tm
end Go.Proofs.YtehfhemidmfffaaGreatDoor.Terms
open Go.ChangeShapes Go.WideShapes Go.ChangeAt Go.RowKit Go.Deep Go.Joins
section
variable{H:Type}{enc:TypeId×Q -> H}{W:T}
end
open Go.Shelf
def R0:Go.Shelf.Ren:=⟨fun|189=>151|125=>176|257=>175|128=>192|129=>193|294=>184|295=>185|296=>186|297=>187|298=>188|299=>189|216=>162|300=>190|301=>191|328=>197|329=>198|330=>199|331=>200|332=>201|215=>182|343=>203|n=>n,fun|28=>43|3=>3|46=>255|0=>0|51=>278|53=>280|4=>4|183=>272|182=>271|131=>117|5=>5|9=>9|218=>282|222=>286|228=>289|229=>290|n=>n,fun|n=>n⟩
theorem Lu:Go.Proofs.Lays.n189 ei R0:={
 mixed:=by kernel_rfl
 f125:=Tryz.func176.trans (congrArg X (by kernel_rfl))
 f128:=Tryz.func192.trans (congrArg X (by kernel_rfl))
 f129:=Tryz.func193.trans (congrArg X (by kernel_rfl))
 f189:=Tryz.func151.trans (congrArg X (by kernel_rfl))
 f215:=dG.trans (congrArg X (by kernel_rfl))
 f216:=dE.trans (congrArg X (by kernel_rfl))
 f257:=Tryz.func175.trans (congrArg X (by kernel_rfl))
 f294:=Tryz.func184.trans (congrArg X (by kernel_rfl))
 f295:=Tryz.func185.trans (congrArg X (by kernel_rfl))
 f296:=Tryz.func186.trans (congrArg X (by kernel_rfl))
 f297:=Tryz.func187.trans (congrArg X (by kernel_rfl))
 f298:=Tryz.func188.trans (congrArg X (by kernel_rfl))
 f299:=Tryz.func189.trans (congrArg X (by kernel_rfl))
 f300:=Tryz.func190.trans (congrArg X (by kernel_rfl))
 f301:=Tryz.func191.trans (congrArg X (by kernel_rfl))
 f328:=Tryz.func197.trans (congrArg X (by kernel_rfl))
 f329:=Tryz.func198.trans (congrArg X (by kernel_rfl))
 f330:=Tryz.func199.trans (congrArg X (by kernel_rfl))
 f331:=Tryz.func200.trans (congrArg X (by kernel_rfl))
 f332:=Tryz.func201.trans (congrArg X (by kernel_rfl))
 f343:=Tryz.func203.trans (congrArg X (by kernel_rfl))
 t0:=ez
 a0:=dP
 z0:=ep
 v0:=eD
 t3:=bI
 a3:=dR
 z3:=eu
 v3:=eF
 t4:=eC
 a4:=dS
 z4:=ew
 v4:=eH
 t5:=Tryz.underlying5
 a5:=Tryz.isAgg5
 z5:=Tryz.sizeOf5
 v5:=Tryz.zeroValue5
 t9:=Tryz.underlying9
 a9:=Tryz.isAgg9
 z9:=Tryz.sizeOf9
 v9:=Tryz.zeroValue9
 t28:=aD
 a28:=dT
 z28:=ey
 v28:=eI
 t46:=eA
 a46:=dQ
 z46:=er
 v46:=eE
 t51:=Tryz.underlying278
 a51:=Tryz.isAgg278
 z51:=Tryz.sizeOf278
 v51:=Tryz.zeroValue278
 t53:=Tryz.underlying280
 a53:=Tryz.isAgg280
 z53:=Tryz.sizeOf280
 v53:=Tryz.zeroValue280
 t131:=Tryz.underlying117
 a131:=Tryz.isAgg117
 z131:=Tryz.sizeOf117
 v131:=Tryz.zeroValue117
 t182:=Tryz.underlying271
 a182:=Tryz.isAgg271
 z182:=Tryz.sizeOf271
 v182:=Tryz.zeroValue271
 t183:=Tryz.underlying272
 a183:=Tryz.isAgg272
 z183:=Tryz.sizeOf272
 v183:=Tryz.zeroValue272
 t218:=Tryz.underlying282
 a218:=Tryz.isAgg282
 z218:=Tryz.sizeOf282
 v218:=Tryz.zeroValue282
 t222:=Tryz.underlying286
 a222:=Tryz.isAgg286
 z222:=Tryz.sizeOf286
 v222:=Tryz.zeroValue286
 t228:=Tryz.underlying289
 a228:=Tryz.isAgg289
 z228:=Tryz.sizeOf289
 v228:=Tryz.zeroValue289
 t229:=Tryz.underlying290
 a229:=Tryz.isAgg290
 z229:=Tryz.sizeOf290
 v229:=Tryz.zeroValue290}
open Go.Sort Go.RowKit in
theorem slices_Sort_int(blk off cap:Nat)(zs:List Int)(w:T)(hH:Holds (Value.int .i64) w blk off zs.toArray)(hblk:blk<w.heap.size)(hsz:zs.length<4611686018427387904) :
  I ei 151 #[Y (X ⟨blk,off,Z⟩) zs.length cap] w fun e w'=>
   e=S (G #[])/\∃n os,w'=grow (putRow (Value.int .i64) (Sort.ahead w n) blk off (zs.mergeSort fun x y=>decide (x<=y)).toArray) os:=Any.slices_Sort_int Lu blk off cap zs w hH hblk hsz
def R4:Go.Shelf.Ren:=⟨fun|20=>152|n=>n,fun|22=>43|3=>3|4=>4|0=>0|n=>n,fun|n=>n⟩
theorem R3:Go.Proofs.Lays2.n20 ei R4:={
 mixed:=by kernel_rfl
 f20:=Tryz.func152.trans (congrArg X (by kernel_rfl))
 t0:=ez
 a0:=dP
 z0:=ep
 v0:=eD
 t3:=bI
 a3:=dR
 z3:=eu
 v3:=eF
 t4:=eC
 a4:=dS
 z4:=ew
 v4:=eH
 t22:=aD
 a22:=dT
 z22:=ey
 v22:=eI
 i3:=by kernel_rfl}
open Go.RowKit Go.Lib Go.Sort in
theorem slices_Compact_int(blk off cap:Nat)(zs:List Int)(w:T)(hH:Holds (Value.int .i64) w blk off zs.toArray)(hsz:zs.length<=9223372036854775807)(hcap:zs.length<=cap) :
  I ei 152 #[Y (X ⟨blk,off,Z⟩) zs.length cap] w fun e w'=>e=S (Y (X ⟨blk,off,Z⟩) (Lib.compact zs).length cap)/\∃q,w'=putRow (Value.int .i64) (Sort.ahead w q) blk off (Lib.compact zs++dr (zs.length-(Lib.compact zs).length) 0).toArray:=Any.slices_Compact_int R3 blk off cap zs w hH hsz hcap
def R5:Go.Shelf.Ren:=⟨fun|25=>131|31=>162|32=>163|37=>182|n=>n,fun|22=>43|3=>3|4=>4|40=>255|0=>0|n=>n,fun|n=>n⟩
theorem Lv:Go.Proofs.Lays2.n25 ei R5:={
 mixed:=by kernel_rfl
 f25:=Tryz.func131.trans (congrArg X (by kernel_rfl))
 f31:=dE.trans (congrArg X (by kernel_rfl))
 f32:=Tryz.func163.trans (congrArg X (by kernel_rfl))
 f37:=dG.trans (congrArg X (by kernel_rfl))
 t0:=ez
 a0:=dP
 z0:=ep
 v0:=eD
 t3:=bI
 a3:=dR
 z3:=eu
 v3:=eF
 t4:=eC
 a4:=dS
 z4:=ew
 v4:=eH
 t22:=aD
 a22:=dT
 z22:=ey
 v22:=eI
 t40:=eA
 a40:=dQ
 z40:=er
 v40:=eE}
open Go.RowKit Go.Lib in
theorem slices_BinarySearch_int(b off n c:Nat)(zs:List Int)(x:Int)(w:T)(hz:n<=zs.length)(hbig:n<4611686018427387904)(hc:∀j,j<zs.length->w.cell? ⟨b,off+j,Z⟩=X (.int V (zs.getD j 0)))(hs:(zs.take n).Pairwise (· <= ·)) :
  I ei 131 #[Y (X ⟨b,off,Z⟩) n c,.int V x] w fun e w'=>e=S (G #[ZX V ((zs.take n).countP (· < x):Nat),.bool ((zs.take n).contains x)])/\∃q,w'=w.drewN q:=Any.slices_BinarySearch_int Lv b off n c zs x w hz hbig hc hs
open Go.RowKit Go.Sort in
theorem slices_Sort_int_none(p:Option Addr)(cap:Nat)(w:T) :
  I ei 151 #[Y p 0 cap] w fun e w'=>e=S (G #[])/\w'=w:=Any.slices_Sort_int_none Lu p cap w
theorem slices_BinarySearch_int_empty(a:Option Addr)(c:Nat)(x:Int)(w:T) :
  I ei 131 #[Y a 0 c,.int V x] w fun e w'=>e=S (G #[ZX V 0,.bool ZY])/\w'=w:=Any.slices_BinarySearch_int_empty Lv a c x w
open Go.RowKit Go.Sort
def leB(x y:Int):Bool:=decide (x<=y)
theorem Nh(g cap base:Nat)(zs:List Int)(w:T)(hz:zs.length<=100000)(ho:w.ownsRow base 3 1 (Y (X ⟨g,0,Z⟩) zs.length cap) zs.length (AB zs)) :
  I ei 151 #[Y (X ⟨g,0,Z⟩) zs.length cap] w fun e w'=>e=S (G #[])/\w.grownBy w' (X g)/\w'.ownsRow base 3 1 (Y (X ⟨g,0,Z⟩) zs.length cap) zs.length (AB (zs.mergeSort leB)):=by
 have ho':w.ownsRow base 3 1 (Y (X ⟨g,0,Z⟩) zs.length cap) zs.length (zs.map (Value.int .i64)):=ho;obtain⟨g',cap',hv,hbg,hlt,hn,hm,hl,hH⟩:=Lib.holds_of_ownsRow ho' (by simp);injection hv with h1 h2 h3;injection h1 with h1;injection h1 with h1;subst h1 h3;rcases ho.2 with⟨e0,_⟩|⟨g2,cap2,cur,e0,hb,hg,hnc,hcm,hcs,ht⟩
 .cases e0
 .injection e0 with e1 _ e3;injection e1 with e1;injection e1 with e1;subst e1 e3;refine(slices_Sort_int g 0 cap zs w hH hlt (by omega)).mono fun e w' ⟨he,n,os,hw⟩=>⟨he,?_,?_⟩
  .rw[hw];exact grownBy_sortedI _
  .rw[hw];exact ownsRow_sortedI (ts:=zs.mergeSort leB) (by simp) hbg hg hnc hcm hcs
theorem K6(g cap base:Nat)(zs:List Int)(w:T)(hz:zs.length<=100000)(ho:w.ownsRow base 3 1 (Y (X ⟨g,0,Z⟩) zs.length cap) zs.length (AB zs)) :
  I ei 152 #[Y (X ⟨g,0,Z⟩) zs.length cap] w fun e w'=>e=S (Y (X ⟨g,0,Z⟩) (Lib.compact zs).length cap)/\w.grownBy w' (X g)/\w'.ownsRow base 3 1 (Y (X ⟨g,0,Z⟩) (Lib.compact zs).length cap) (Lib.compact zs).length (AB (Lib.compact zs)):=by
 have ho':w.ownsRow base 3 1 (Y (X ⟨g,0,Z⟩) zs.length cap) zs.length (zs.map (Value.int .i64)):=ho;obtain⟨g',cap',hv,hbg,hlt,hn,hm,hl,hH⟩:=Lib.holds_of_ownsRow ho' (by simp);injection hv with h1 h2 h3;injection h1 with h1;injection h1 with h1;subst h1 h3;have hcl:=Lib.compact_length_le zs;refine(slices_Compact_int g 0 cap zs w hH (by omega) hn).mono fun e w' ⟨he,q,hw⟩=>⟨he,?_,?_⟩
 .rw[hw];refine⟨rfl,rfl,rfl,by simp[putRow,mapBlock,Sort.ahead],fun k _ hne=>?_⟩;have:g≠k:=fun e=>hne (by rw[e]);simp[putRow,mapBlock,Sort.ahead,Array.getElem?_modify,this]
 .rw[hw];have h:=Lib.ownsRow_putRow (q:=q) (k:=(Lib.compact zs).length) (ys:=Lib.compact zs++dr (zs.length-(Lib.compact zs).length) 0) ho' (by simp;omega) hcl;rw[List.take_left]at h;exact h
abbrev Rise(l:List Int):Prop:=l.Pairwise (· < ·)
theorem Pv{d:Array Int}{n:Nat}(hs:∀i j,i<=j->j<n->d[i]!<=d[j]!):∀m,m<=n->Rise (Lib.compactUpTo d m)/\∀x,x∈Lib.compactUpTo d m↔∃j,j<m/\d[j]! = x:=by
 intro m;induction m with
 |zero=>intro _;exact⟨by simp[Lib.compactUpTo],fun x=>by simp[Lib.compactUpTo]⟩
 |succ m ih=>
  intro hm;obtain⟨h1,h2⟩:=ih (by omega);rw[Lib.compactUpTo_succ];by_cases hk:Lib.keeps d m=true
  .rw[if_pos hk];refine⟨List.pairwise_append.2 ⟨h1,by simp,fun x hx y hy=>?_⟩,fun x=>?_⟩
   .simp at hy;subst hy;obtain⟨j,hj,rfl⟩:=(h2 x).1 hx;have h3:=hs j m (by omega) (by omega);have h4:=hs j (m-1) (by omega) (by omega);have h5:=hs (m-1) m (by omega) (by omega);have h6:d[m]!≠d[m-1]!:=by
     have:m≠0:=by omega
     simpa[Lib.keeps,this]using hk
    omega
   .simp only[List.mem_append,List.mem_singleton,h2];constructor
    .rintro (⟨j,hj,e⟩|e)
     .exact ⟨j,by omega,e⟩
     .exact ⟨m,by omega,e.symm⟩
    .rintro ⟨j,hj,e⟩;by_cases hjm:j=m
     .subst hjm;exact .inr e.symm
     .exact .inl ⟨j,by omega,e⟩
  .rw[if_neg hk,List.append_nil];refine⟨h1,fun x=>?_⟩;rw[h2];constructor
   .rintro ⟨j,hj,e⟩;exact⟨j,by omega,e⟩
   .rintro ⟨j,hj,e⟩;by_cases hjm:j=m
    .subst hjm;have h7:j≠0/\d[j]! = d[j-1]!:=by simpa[Lib.keeps]using hk
     exact⟨j-1,by omega,by rw[<-h7.2];exact e⟩
    .exact ⟨j,by omega,e⟩
def upL(l:List Int):List Int:=Lib.compact (l.mergeSort leB)
theorem N2(l:List Int):Rise (upL l)/\∀x,x∈upL l↔x∈l:=by
 have hp:(l.mergeSort leB).Pairwise (fun x y=>leB x y=true):=List.pairwise_mergeSort (le:=leB) (by intro a b c;simp only[leB,decide_eq_true_eq];omega) (by intro a b;simp only[leB,Bool.or_eq_true,decide_eq_true_eq];omega) l;have hs:∀i j,i<=j->j<(l.mergeSort leB).length->(l.mergeSort leB).toArray[i]!<=(l.mergeSort leB).toArray[j]!:=fun i j hij hj=>by
  rw[getElem!_pos _ i (by simpa using(by omega:i<(l.mergeSort leB).length)),getElem!_pos _ j (by simpa using hj)];rcases Nat.lt_or_eq_of_le hij with h|h
  .have:=List.pairwise_iff_getElem.1 hp i j (by omega) hj h;simpa[leB]using this
  .subst h;exact Int.le_refl _
 obtain⟨h1,h2⟩:=Pv hs (l.mergeSort leB).length (aU _);refine⟨h1,fun x=>?_⟩;show x∈Lib.compactUpTo _ _↔_;rw[h2,<-(List.mergeSort_perm l leB).mem_iff,List.mem_iff_getElem];constructor
 .rintro ⟨j,hj,e⟩;exact⟨j,hj,by rw[<-e,getElem!_pos _ j (by simpa using hj)];rfl⟩
 .rintro ⟨j,hj,e⟩;exact⟨j,hj,by rw[getElem!_pos _ j (by simpa using hj)];exact e⟩
def zL(a b:Nat)(k:Nat):Int:=if k=0 then 0 else if k=1 then(a:Int)else(a:Int)+(b:Int)
theorem TermsV.shape{w:T}{v:Q}{ts:List (List (Int×Int))}(h:TermsV w v ts):∃ao cap,v=.slice ao ts.length cap:=by
 obtain⟨ao,cap,h1,_⟩:=h;exact⟨ao,cap,h1⟩
theorem TermsV.at{w:T}{ao:Option Addr}{cap n:Nat}{ts:List (List (Int×Int))}(h:TermsV w (Y ao n cap) ts){i:Nat}(hi:i<ts.length):∃b off,ao=X ⟨b,off,Z⟩/\b<w.heap.size/\∃u,w.cell? ⟨b,off+i,Z⟩=X u/\OpsV w u (ts.getD i []):=by
 obtain⟨ao',cap',h1,h3⟩:=h;injection h1 with e1 e2 e3;subst e1;obtain⟨b,off,e,hb,hh⟩:=h3 (by intro h;subst h;simp at hi);exact⟨b,off,e,hb,hh i hi⟩
theorem Sy(va vr pv:Q)(m:Mo)(ps:List (List (Int×Int)))(w:T)(hB:0<w.heap.size)(hT:AF w)(hV:A1 w va vr m)(hP:TermsV w pv ps)(h:mcode m=0)(hl6:ps.length<=6) :
  I ei 52 #[ZZ #[va,vr],pv] w fun e w'=>e=S (.int V (A2 (fun i=>kcode m.vars.length (ps.getD i []) true) ps.length))/\U w.heap.size w w':=by
 have hA:∀o,U w.heap.size w (w.alloc o):=fun o=>(Below.refl _ _).alloc (aU _) o;have hch:=fun o=>C8 va vr m (w.alloc o) (dy hB (hA o).size) (hT.below (hA o) hB) (hV.below (hA o));rw[h]at hch;have h6:=(Cw h).1;obtain⟨ao,cap,rfl⟩:=hV.1.shape;obtain⟨ro,rc,rfl⟩:=hV.2.shape;obtain⟨po,pc,rfl⟩:=hP.shape;have HP:O (TermsV w (.slice po ps.length pc) ps):=hP;have HT:O (AF w):=hT;obtain⟨n,hn⟩:∃n,n=ps.length:=⟨_,rfl⟩;have HN:O (n=ps.length):=hn;rw[<-hn]at hl6 HP⊢;generalize m.vars.length=vn at *;generalize m.rules.length=rn at *;clear hV hT hP hn h;obtain⟨f,hf⟩:∃f:Nat->Int,f=fun i=>kcode vn (ps.getD i []) true:=⟨_,rfl⟩
 rw[<-hf];have HF:O (f=fun i=>kcode vn (ps.getD i []) true):=hf;clear hf;go_enter dJ,dY;go_wp2_with (go_at_call 55;refine(hch _).mono ?_;rintro e w1 ⟨rfl,hb1⟩)
 have hb1':U (w.heap.size+1) (w.alloc (M #[Y ao vn cap,Y ro rn rc] 31)) w1:=hb1.mono (by simp);clear hch hb1;go_loopw [19] (fun i wr=>∃k:Nat,k<=n/\i=.int V k/\O (∀j,j<k->f j=0)/\U (w.heap.size+1) (w.alloc (M #[Y ao vn cap,Y ro rn rc] 31)) wr) (fun i _=>n-(intOf i).toNat)
 case atStart=>exact⟨0,dC _,rfl,fun j hj=>by omega,hb1'⟩
 case round=>
  obtain⟨k,hk,rfl,HJ,hbel⟩:=hrel;clear hb1';have hbw:=(hA _).trans (hbel.mono (dx _));have hszb:w.heap.size+1<=wr.heap.size:=by have:=hbel.size;simp at this;omega
  have cb:=(hbel.cell (p:=⟨w.heap.size,0,Z⟩) (by simp)).trans (show _=X (Y ao vn cap) by simp[go_sem]);by_cases hlt:k<n
  .obtain ⟨b,off,rfl,hblt,u,c0',hO⟩:=HP.out.at (i:=k) (by rw[<-HN.out];exact hlt);have HFk:O (f k=kcode vn (ps.getD k []) true):=by show _=_;rw[HF.out]
   have HHit:O (∀c,f k=c->c≠0->A2 f n=c):=fun c h1 h2=>by rw[Gc hlt HJ.out (by rw[h1];exact h2),h1]
   have HStep:O (f k=0->∀j,j<k+1->f j=0):=fun h0 j hj=>by
    by_cases hjk:j=k
    .subst hjk;exact h0
    .exact HJ.out j (by omega)
   generalize ps.getD k []=p at *;obtain⟨ua,uc,rfl⟩:=hO.shape;have c0:=(hbw.cell (p:=⟨b,off+k,Z⟩) hblt).trans c0';have hcm:=GP _ p vn true wr (dy hB hbw.size) (HT.out.below hbw hB) (hO.below hbw);generalize p.length=pn at *;obtain⟨x,hx⟩:∃x,kcode vn p true=x:=⟨_,rfl⟩
   rw[hx]at hcm HFk;clear HJ c0' hO hx HF;by_cases hx0:x=0
   .subst hx0;have HJ2:=(show O _ from HStep.out HFk.out);clear HStep HHit HFk;go_wp2_with (go_at_call 77;refine hcm.mono ?_;rintro e w3 ⟨rfl,hb3⟩)
    go_roundw
    case rel=>exact⟨k+1,hlt,by go_num,HJ2,hbel.trans (hb3.mono hszb)⟩
    case measure=>simp[intOf];omega
   .have HR:O (A2 f n=x):=HHit.out x HFk.out hx0;clear HStep HHit HFk;go_wp2_with (go_at_call 77;refine hcm.mono ?_;rintro e w3 ⟨rfl,hb3⟩)
    go_ret;rw[HR.out];exact⟨rfl,hbw.trans (hb3.mono hbw.size)⟩
  .have hkn:k=n:=by omega
   have HR:O (A2 f n=0):=Da (fun j hj=>HJ.out j (by omega));go_wp2;go_ret;rw[HR.out];exact⟨rfl,hbw⟩
theorem MR(va vr pv:Q)(m:Mo)(ps:List (List (Int×Int)))(w:T)(hB:0<w.heap.size)(hT:AF w)(hV:A1 w va vr m)(hP:TermsV w pv ps) :
  I ei 52 #[ZZ #[va,vr],pv] w fun e w'=>e=S (.int V (CP m ps))/\U w.heap.size w w':=by
 unfold CP;by_cases h:mcode m=0
 .rw[if_pos h];by_cases h6:6<ps.length
  .rw[if_pos h6];have hA:∀o,U w.heap.size w (w.alloc o):=fun o=>(Below.refl _ _).alloc (aU _) o;have hch:=fun o=>C8 va vr m (w.alloc o) (dy hB (hA o).size) (hT.below (hA o) hB) (hV.below (hA o));rw[h]at hch;obtain⟨ao,cap,rfl⟩:=hV.1.shape;obtain⟨ro,rc,rfl⟩:=hV.2.shape;obtain⟨po,pc,rfl⟩:=hP.shape;generalize m.vars.length=vn at *;generalize m.rules.length=rn at *;generalize ps.length=n at *;clear hV hT hP h
   go_enter dJ,dY;go_wp2_with (go_at_call 55;refine(hch _).mono ?_;rintro e w1 ⟨rfl,hb1⟩)
   go_ret;exact⟨rfl,(hA _).trans (hb1.mono (hA _).size)⟩
  .rw[if_neg h6];exact Sy va vr pv m ps w hB hT hV hP h (by omega)
 .rw[if_neg h];have hA:∀o,U w.heap.size w (w.alloc o):=fun o=>(Below.refl _ _).alloc (aU _) o;have hch:=fun o=>C8 va vr m (w.alloc o) (dy hB (hA o).size) (hT.below (hA o) hB) (hV.below (hA o));obtain⟨ao,cap,rfl⟩:=hV.1.shape;obtain⟨ro,rc,rfl⟩:=hV.2.shape;obtain⟨po,pc,rfl⟩:=hP.shape;generalize mcode m=x at *;generalize m.vars.length=vn at *;generalize m.rules.length=rn at *;generalize ps.length=n at *;clear hV hT hP
  go_enter dJ,dY;go_wp2_with (go_at_call 55;refine(hch _).mono ?_;rintro e w1 ⟨rfl,hb1⟩)
  go_ret;exact⟨rfl,(hA _).trans (hb1.mono (hA _).size)⟩
def Ag(k:Int):Bool:=decide (14<=k/\k<=18)
def A4(props:Int)(o:Int×Int):Int:=if o.1<8 then 13 else if o.2<0\/(if o.1=13 then props-1 else 0)<o.2 then 2 else 0
def CF(props:Int):List (Int×Int)->Int
 |[]=>0
 |o::r=>if A4 props o≠0 then A4 props o else CF props r
theorem SC{props:Int}:∀{l:List (Int×Int)} {i:Nat},i<l.length->(∀j,j<i->A4 props (l.getD j (0,0))=0)->A4 props (l.getD i (0,0))≠0->CF props l=A4 props (l.getD i (0,0)):=by
 intro l;induction l with
 |nil=>intro i hi;simp at hi
 |cons o r ih=>
  intro i hi hj hne;cases i with
  |zero=>simp only[dh]at hne⊢;simp[CF,hne]
  |succ i=>
   have h0:=hj 0 (by omega);simp only[dh]at h0;simp only[List.getD_cons_succ]at hne⊢;simp only[CF,h0,ne_eq,not_true_eq_false,if_false];exact ih (by simpa using hi) (fun j hjj=>by simpa using hj (j+1) (by omega)) hne
theorem L7{props:Int}:∀{l:List (Int×Int)},(∀j,j<l.length->A4 props (l.getD j (0,0))=0)->CF props l=0:=by
 intro l;induction l with
 |nil=>intro _;rfl
 |cons o r ih=>
  intro hj;have h0:=hj 0 (by simp);simp only[dh]at h0;simp only[CF,h0,ne_eq,not_true_eq_false,if_false];exact ih (fun j hjj=>by simpa using hj (j+1) (by simpa using hjj))
theorem SB{props:Int}:∀{l:List (Int×Int)},CF props l=0->∀j,j<l.length->A4 props (l.getD j (0,0))=0:=by
 intro l;induction l with
 |nil=>intro _ j hj;simp at hj
 |cons o r ih=>
  intro h j hj;simp only[CF]at h;split at h
  .rename_i h1;exact absurd h h1
  .rename_i h1;cases j with
   |zero=>simpa using h1
   |succ j=>simpa using ih h j (by simpa using hj)
def AO(l:List (Int×Int)):Nat->List Int
 |0=>[]
 |n+1=>AO l n++if Ag (l.getD n (0,0)).1=true then [(n:Int)]else []
theorem GK{l:List (Int×Int)}{n:Nat}(h:Ag (l.getD n (0,0)).1=true):AO l (n+1)=AO l n++[(n:Int)]:=by simp only[AO];rw[if_pos h]
theorem Kg{l:List (Int×Int)}{n:Nat}(h:Ag (l.getD n (0,0)).1=ZY):AO l (n+1)=AO l n:=by simp only[AO];rw[if_neg (by rw[h];decide)];simp
theorem Og(l:List (Int×Int)):∀n,(AO l n).length<=n:=by
 intro n;induction n with
 |zero=>simp[AO]
 |succ n ih=>simp only[AO,aN];split<;>simp<;>omega
def AA(l:List (Int×Int)):List Int:=AO l l.length
def Ad(props:Int)(l:List (Int×Int)):Int:=
 if props<0\/6<props then 2 else if AU (l.map aW)≠0 then AU (l.map aW)else if CF props l≠0 then CF props l else if 6<(AA l).length then 1 else 0
theorem JB{props:Int}{l:List (Int×Int)}(h:props<0\/6<props):Ad props l=2:=by unfold Ad;rw[if_pos h]
theorem I9{props:Int}{l:List (Int×Int)}(h:¬(props<0\/6<props))(h2:AU (l.map aW)≠0):Ad props l=AU (l.map aW):=by unfold Ad;rw[if_neg h,if_pos h2]
theorem Lw{props:Int}{l:List (Int×Int)}(h:¬(props<0\/6<props))(h2:AU (l.map aW)=0)(h3:CF props l≠0):Ad props l=CF props l:=by unfold Ad;rw[if_neg h,if_neg (by simpa using h2),if_pos h3]
theorem JA{props:Int}{l:List (Int×Int)}(h:¬(props<0\/6<props))(h2:AU (l.map aW)=0)(h3:CF props l=0):Ad props l=if 6<(AA l).length then 1 else 0:=by unfold Ad;rw[if_neg h,if_neg (by simpa using h2),if_neg (by simpa using h3)]
theorem B6{props:Int}{l:List (Int×Int)}(h:Ad props l=0):0<=props/\props<=6/\AU (l.map aW)=0/\CF props l=0/\(AA l).length<=6:=by
 by_cases hr:props<0\/6<props
 .rw[JB hr]at h;omega
 .by_cases hz:AU (l.map aW)=0
  .by_cases hf:CF props l=0
   .rw[JA hr hz hf]at h;split at h
    .omega
    .exact ⟨by omega,by omega,hz,hf,by omega⟩
   .rw[Lw hr hz hf]at h;exact absurd h hf
  .rw[I9 hr hz]at h;exact absurd h hz
theorem D3{ks:List Int}(h:AU ks=0):ks≠[]/\ks.length<=60:=by
 obtain⟨h1,h2⟩:=Fe h;refine⟨?_,h1⟩;rintro rfl;simp[cnt]at h2
theorem L9(k:Int)(w:T) :
  I ei 80 #[ZX V k] w fun e w'=>e=S (.bool (Ag k))/\w'=w:=by
 by_cases h:14<=k/\k<=18
 .have hk:k=14\/k=15\/k=16\/k=17\/k=18:=by omega
  clear h;rcases hk with rfl|rfl|rfl|rfl|rfl;all_goals
   go_enter dN,eg;go_wp2;all_goals go_ret
   all_goals exact⟨rfl,rfl⟩
 .have hm:Ag k=false:=by simp[Ag];omega
  rw[hm];have e1:¬k=14:=by omega
  have e2:¬k=15:=by omega
  have e3:¬k=16:=by omega
  have e4:¬k=17:=by omega
  have e5:¬k=18:=by omega
  clear hm h;go_enter dN,eg;go_wp2;all_goals go_ret
  all_goals exact⟨rfl,rfl⟩
theorem R8(k v props:Int)(w:T)(h0:0<=props)(h6:props<=6) :
  I ei 79 #[ZZ #[ZX V k,.int V v],.int V props] w fun e w'=>e=S (.int V (A4 props (k,v)))/\U w.heap.size w w':=by
 by_cases hk:k<8
 .have hx:A4 props (k,v)=13:=by simp[A4,hk]
  rw[hx];clear hx;go_enter dM,ee;go_wp2;all_goals go_ret
  all_goals exact⟨rfl,(Below.refl _ _).alloc (aU _) _⟩
 .by_cases h2:k=13
  .subst h2;by_cases hv:0<=v/\v<=props-1
   .have hx:A4 props (13,v)=0:=by simp[A4];omega
    rw[hx];obtain⟨ha,hb⟩:=hv;clear hx;go_enter dM,ee;go_wp2;all_goals go_ret
    all_goals exact⟨rfl,(Below.refl _ _).alloc (aU _) _⟩
   .have hx:A4 props (13,v)=2:=by simp[A4];omega
    rw[hx];have hv':v<0\/props-1<v:=by omega
    clear hx hv;rcases hv' with hv|hv;all_goals
     go_enter dM,ee;go_wp2;all_goals go_ret
     all_goals exact⟨rfl,(Below.refl _ _).alloc (aU _) _⟩
  .by_cases hv:v=0
   .subst hv;have hx:A4 props (k,0)=0:=by simp[A4,h2];omega
    rw[hx];clear hx;go_enter dM,ee;go_wp2;all_goals go_ret
    all_goals exact⟨rfl,(Below.refl _ _).alloc (aU _) _⟩
   .have hx:A4 props (k,v)=2:=by simp[A4,h2];omega
    rw[hx];have hv':v<0\/0<v:=by omega
    clear hx hv;rcases hv' with hv|hv;all_goals
     go_enter dM,ee;go_wp2;all_goals go_ret
     all_goals exact⟨rfl,(Below.refl _ _).alloc (aU _) _⟩

def IK(props:Int)(v:Q)(l:List (Int×Int))(w:T)(e:Ending)(w':T):Prop:=
 U w.heap.size w w'/\(Ad props l≠0->e=S (G #[ZZ #[Y Z 0 0,Y Z 0 0,Y Z 0 0],.int V (Ad props l)]))/\
 (Ad props l=0->∃B av,w.heap.size<=B/\e=S (G #[ZZ #[v,Y (X ⟨B,0,Z⟩) l.length l.length,av],.int V 0])/\w'.rowIs B 3 l.length (fun q=>.int V (An (l.map aW) q))/\w'.ownsRow w.heap.size 3 1 av (AA l).length (AB (AA l)))
def Bv(w:T)(b:Nat)(x y z:Q):Prop:=w.cell? ⟨b,0,Z⟩=X x/\w.cell? ⟨b,1,Z⟩=X y/\w.cell? ⟨b,2,Z⟩=X z/\w.frozen? ⟨b,0,Z⟩=ZY/\w.frozen? ⟨b,1,Z⟩=ZY/\w.frozen? ⟨b,2,Z⟩=ZY/\b<w.heap.size
theorem Bv.below{w w':T}{B b:Nat}{x y z:Q}(h:Bv w b x y z)(hb:U B w w')(hB:b<B):Bv w' b x y z:=
 ⟨(hb.cell (p:=⟨b,0,Z⟩) hB).trans h.1,(hb.cell (p:=⟨b,1,Z⟩) hB).trans h.2.1,(hb.cell (p:=⟨b,2,Z⟩) hB).trans h.2.2.1,(hb.frozen (p:=⟨b,0,Z⟩) hB).trans h.2.2.2.1,(hb.frozen (p:=⟨b,1,Z⟩) hB).trans h.2.2.2.2.1,(hb.frozen (p:=⟨b,2,Z⟩) hB).trans h.2.2.2.2.2.1,dy h.2.2.2.2.2.2 hb.size⟩
theorem Bv.new(w:T)(x y z:Q)(t:TypeId):Bv (w.alloc (M #[x,y,z] t)) w.heap.size x y z:=by
 refine⟨?_,?_,?_,?_,?_,?_,?_⟩<;>simp[go_sem]
theorem Bv.read{w:T}{b:Nat}{x y z:Q}(h:Bv w b x y z)(u0 u1 u2:Q):(w.setCell ⟨b,0,Z⟩ u0).cell? ⟨b,0,Z⟩=X u0/\((w.setCell ⟨b,0,Z⟩ u0).setCell ⟨b,1,Z⟩ u1).cell? ⟨b,1,Z⟩=X u1/\(((w.setCell ⟨b,0,Z⟩ u0).setCell ⟨b,1,Z⟩ u1).setCell ⟨b,2,Z⟩ u2).cell? ⟨b,2,Z⟩=X u2:=by
 obtain⟨k0,k1,k2,_⟩:=h;refine⟨eK _ _ _ (by rw[k0];rfl),eK _ _ _ ?_,eK _ _ _ ?_⟩
 .simp[go_sem,k1]
 .simp[go_sem,k2]
theorem UR(ao:Option Addr)(n cap:Nat)(props:Int)(w:T)(h:props<0\/6<props) :
  I ei 54 #[Y ao n cap,.int V props] w fun e w'=>e=S (G #[ZZ #[Y Z 0 0,Y Z 0 0,Y Z 0 0],.int V 2])/\U w.heap.size w w':=by
 rcases h with h|h;all_goals
  go_enter dK,dZ;go_wp2_with fail
  exact bodyPost_ret (v:=G #[ZZ #[Y Z 0 0,Y Z 0 0,Y Z 0 0],.int V 2]) (by simp[results,ej,go_sem]) rfl ⟨rfl,by exact(Below.refl _ _).alloc (aU _) _⟩
theorem UN(v:Q)(ks:List Int)(props:Int)(w:T)(h0:0<=props)(h6:props<=6)(hB:0<w.heap.size)(hT:AF w)(hK:DW w v ks)(hz:AU ks≠0) :
  I ei 54 #[v,.int V props] w fun e w'=>e=S (G #[ZZ #[Y Z 0 0,Y Z 0 0,Y Z 0 0],.int V (AU ks)])/\U w.heap.size w w':=by
 have hA:∀o,U w.heap.size w (w.alloc o):=fun o=>(Below.refl _ _).alloc (aU _) o;have hKA:∀o,DW (w.alloc o) v ks:=fun o=>hK.below (hA o);have hends:∀o,I ei 78 #[v] (w.alloc o) fun e w'=>e=S (G #[Y Z 0 0,.int V (AU ks)])/\U (w.alloc o).heap.size (w.alloc o) w':=fun o=>(GU v ks (w.alloc o) (by simp) (hT.below (hA o) hB) (hKA o)).mono fun e w' ⟨h1,h2,_⟩=>⟨h2 hz,h1⟩;generalize AU ks=x at *;obtain⟨ao,cap,rfl,_⟩:=hK;clear hT hKA
 go_enter dK,dZ;go_wp2_with (go_at_call 78;refine(hends _).mono ?_;rintro e w1 ⟨rfl,hb1⟩;have h3:=(Bv.new w (Y Z 0 0) (Y Z 0 0) (Y Z 0 0) 138).below hb1 (by simp);obtain⟨k0,k1,k2,f0,f1,f2,_⟩:=id h3)
 refine bodyPost_ret (v:=G #[ZZ #[Y Z 0 0,Y Z 0 0,Y Z 0 0],.int V x]) ?_ rfl ⟨rfl,?_⟩
 .obtain ⟨q0,q1,q2⟩:=h3.read (Y Z 0 0) (Y Z 0 0) (Y Z 0 0);simp[results,ej,go_sem,q0,q1,q2]
 .have hbw:=(hA _).trans (hb1.mono (hA _).size);exact((hbw.setCell (aU _) _).setCell (aU _) _).setCell (aU _) _
theorem Bv.set2{w:T}{b:Nat}{x y z:Q}(h:Bv w b x y z)(u:Q):Bv (w.setCell ⟨b,2,Z⟩ u) b x y u:=by
 obtain⟨k0,k1,k2,f0,f1,f2,hl⟩:=h;refine⟨?_,?_,eK _ _ _ (by rw[k2];rfl),?_,?_,?_,by simpa using hl⟩
 .simp[go_sem,k0]
 .simp[go_sem,k1]
 .rw[bL];exact f0
 .rw[bL];exact f1
 .rw[bL];exact f2
theorem Hb{w:T}{base:Nat}{e:TypeId}{s n:Nat}{v:Q}{xs:List Q}(h:w.ownsRow base e s v n xs){p:Addr}(hp:p.block<base)(u:Q):(w.setCell p u).ownsRow base e s v n xs:=by
 obtain⟨h1,h2⟩:=h;refine⟨h1,?_⟩;rcases h2 with h2|⟨g,cap,cur,hv,hg,hh,r⟩
 .exact .inl h2
 .exact .inr ⟨g,cap,cur,hv,hg,(Below.heap_setCell w p u g (by omega)).trans hh,r⟩
theorem Tk{w:T}{base:Nat}{e:TypeId}{s n:Nat}{v:Q}{xs:List Q}(h:w.ownsRow base e s v n xs):∀z,v.ownBlock=X z->base<=z:=by
 intro z hz;rcases h.2 with⟨rfl,_⟩|⟨g,cap,cur,rfl,hb,_⟩
 .simp[Value.ownBlock]at hz
 .simp[Value.ownBlock]at hz;omega
theorem To{w:T}{base:Nat}{e:TypeId}{s k:Nat}{v:Q}{xs:List Q}(h:w.ownsRow base e s v (k+1) xs):∃g cap,v=Y (X ⟨g,0,Z⟩) (k+1) cap:=by
 rcases h.2 with⟨_,h0⟩|⟨g,cap,_,rfl,_⟩
 .omega
 .exact ⟨g,cap,rfl⟩
def Ew(l:List (Int×Int))(w1:T)(v ev:Q)(k:Nat)(wr:T):Prop:=U w1.heap.size w1 wr/\∃av,Bv wr w1.heap.size v ev av/\wr.ownsRow (w1.heap.size+1) 3 1 av (AO l k).length (AB (AO l k))
theorem Ew.later{l:List (Int×Int)}{w1:T}{v ev:Q}{k:Nat}{wr w':T}(h:Ew l w1 v ev k wr)(hb:U wr.heap.size wr w'):Ew l w1 v ev k w':=by
 obtain⟨h1,av,h3,ho⟩:=h;exact⟨h1.trans (hb.mono h1.size),av,h3.below hb h3.2.2.2.2.2.2,Ap ho hb (aU _)⟩
theorem UQ(b off cap:Nat)(l:List (Int×Int))(props:Int)(w:T)(h0:0<=props)(h6:props<=6)(hB:0<w.heap.size)(hT:AF w)(hbl:b<w.heap.size)(hat:BR w b off l)(hcap:l.length<=cap)(hz:AU (l.map aW)=0) :
  I ei 54 #[Y (X ⟨b,off,Z⟩) l.length cap,.int V props] w (IK props (Y (X ⟨b,off,Z⟩) l.length cap) l w):=by
 obtain⟨hne,h60⟩:=D3 hz;rw[aQ]at h60;have hr:¬(props<0\/6<props):=by omega
 have hA:∀o,U w.heap.size w (w.alloc o):=fun o=>(Below.refl _ _).alloc (aU _) o;have hK:DW w (Y (X ⟨b,off,Z⟩) l.length cap) (l.map aW):=(show OpsV w _ l from⟨_,cap,rfl,⟨hcap,fun h=>by simp at h⟩,fun _=>⟨b,off,rfl,hbl,hat⟩⟩).kinds;have hends:∀o,I ei 78 #[Y (X ⟨b,off,Z⟩) l.length cap] (w.alloc o) fun e w'=>U (w.alloc o).heap.size (w.alloc o) w'/\∃B,(w.alloc o).heap.size<=B/\e=S (G #[Y (X ⟨B,0,Z⟩) l.length l.length,.int V 0])/\w'.rowIs B 3 l.length (fun q=>.int V (An (l.map aW) q)):=fun o=>
  (GU _ _ (w.alloc o) (by simp) (hT.below (hA o) hB) (hK.below (hA o))).mono fun e w' ⟨h1,_,h3⟩=>⟨h1,by have:=h3 hz;rwa[aQ]at this⟩
 have HO:O (∀i,i<l.length->(∀j,j<i->A4 props (l.getD j (0,0))=0)->A4 props (l.getD i (0,0))≠0->Ad props l=A4 props (l.getD i (0,0))):=fun i hi hj hne=>by
  have hx:=SC hi hj hne;rw[Lw hr hz (by rw[hx];exact hne),hx]
 have HE:O ((∀j,j<l.length->A4 props (l.getD j (0,0))=0)->Ad props l=if 6<(AO l l.length).length then 1 else 0):=fun hj=>JA hr hz (L7 hj);have HA:O (BR w b off l):=hat;have HLd:O (AA l=AO l l.length):=rfl;unfold IK;obtain⟨n,hn⟩:∃n,n=l.length:=⟨_,rfl⟩;have HN:O (n=l.length):=hn;rw[<-hn]at h60 HO HE hends HLd hcap⊢;obtain⟨i0,hi,hz0,hz1,hz2⟩:=info_parts BS;clear hat hne hz hr hn hK hT;go_enter dK,dZ;go_wp2_with (go_at_call 78;refine(hends _).mono ?_;rintro e w1 ⟨hb1,B,hBl,rfl,hrow⟩;have h3:=(Bv.new w (Y Z 0 0) (Y Z 0 0) (Y Z 0 0) 138).below hb1 (by simp))
 have hbw1:=(hA _).trans (hb1.mono (hA _).size);have hs1:w.heap.size<w1.heap.size:=h3.2.2.2.2.2.2;have HS0:O (Ew l w1 (Y (X ⟨b,off,Z⟩) n cap) (Y (X ⟨B,0,Z⟩) n n) 0 (w1.alloc (M #[Y (X ⟨b,off,Z⟩) n cap,Y (X ⟨B,0,Z⟩) n n,Y Z 0 0] 138))):=⟨(Below.refl _ _).alloc (aU _) _,_,Bv.new _ _ _ _ _,World.ownsRow_nil _ _ _ _⟩;have HRow:O (w1.rowIs B 3 n (fun q=>.int V (An (l.map aW) q))):=hrow;have HT3:O (Bv w1 w.heap.size (Y Z 0 0) (Y Z 0 0) (Y Z 0 0)):=h3;have hBw:w.heap.size<B:=by have:=hBl;simp at this;omega
 clear hends hb1 hrow h3 hBl;go_loopw [33] (fun i wr=>∃k:Nat,k<=n/\i=.int V k/\O (Ew l w1 (Y (X ⟨b,off,Z⟩) n cap) (Y (X ⟨B,0,Z⟩) n n) k wr)/\O (∀j,j<k->A4 props (l.getD j (0,0))=0)) (fun i _=>n-(intOf i).toNat)
 case atStart=>exact⟨0,dC _,rfl,HS0.out,fun j hj=>by omega⟩
 case round=>
  obtain⟨k,hk,rfl,HSt,HJ⟩:=hrel;obtain⟨hbel,av,h3r,hown⟩:=HSt.out;have hbw:=hbw1.trans (hbel.mono hbw1.size);have hlen:=Og l k;have hsr:=hbel.size;obtain⟨aao,aac,rfl⟩:=Au hown;by_cases hlt:k<n
  .obtain ⟨c0,c1⟩:=(HA.out.below hbw hbl) k (by rw[<-HN.out];exact hlt);have HOi:=(show O _ from HO.out k hlt HJ.out);have HJ2:O (A4 props (l.getD k (0,0))=0->∀j,j<k+1->A4 props (l.getD j (0,0))=0):=fun h j hj=>by
    by_cases hji:j<k
    .exact HJ.out j hji
    .obtain rfl:j=k:=by omega
     exact h
   have HY:O (Ag (l.getD k (0,0)).1=true->AO l (k+1)=AO l k++[(k:Int)]):=GK;have HNo:O (Ag (l.getD k (0,0)).1=ZY->AO l (k+1)=AO l k):=Kg;generalize l.getD k (0,0)=xy at c0 c1 HOi HJ2 HY HNo;obtain⟨x,y⟩:=xy;simp only at c0 c1 HY HNo;have hco:=fun w=>R8 x y props w h0 h6;have hlk:=fun w=>L9 x w;have hAr:∀o,U wr.heap.size wr (wr.alloc o):=fun o=>(Below.refl _ _).alloc (aU _) o;have HW2:O (∀w2,U (wr.alloc (M #[ZX V x,.int V y] 100)).heap.size (wr.alloc (M #[ZX V x,.int V y] 100)) w2->w2.cell? ⟨wr.heap.size,0,Z⟩=X (.int V x)/\Ew l w1 (Y (X ⟨b,off,Z⟩) n cap) (Y (X ⟨B,0,Z⟩) n n) k w2/\Bv w2 w.heap.size (Y Z 0 0) (Y Z 0 0) (Y Z 0 0)/\Bv w2 w1.heap.size (Y (X ⟨b,off,Z⟩) n cap) (Y (X ⟨B,0,Z⟩) n n) (.slice aao (AO l k).length aac)/\w2.ownsRow (w1.heap.size+1) 3 1 (.slice aao (AO l k).length aac) (AO l k).length (AB (AO l k))):=fun w2 hb2=>by
    have hb12:U wr.heap.size wr w2:=(hAr _).trans (hb2.mono (hAr _).size);refine⟨(hb2.cell (p:=⟨wr.heap.size,0,Z⟩) (by simp)).trans (by simp[go_sem]),HSt.out.later hb12,(HT3.out.below hbel hs1).below hb12 (by omega),h3r.below hb12 h3r.2.2.2.2.2.2,Ap hown hb12 (aU _)⟩
   obtain⟨L,hL⟩:∃L,L=(AO l k).length:=⟨_,rfl⟩;have HL:O (L=(AO l k).length):=hL;rw[<-hL]at hlen HW2;clear hL HO HE HA hown h3r HSt HS0 HRow;by_cases hze:A4 props (x,y)=0
   .have HJ3:=(show O _ from HJ2.out hze);rw[hze]at hco;clear hze HOi HJ2 HJ;cases hb:Ag x with
    |true=>
     have HAh:=(show O _ from HY.out hb);rw[hb]at hlk;have h63:L+1<=maxLen:=by unfold maxLen;omega
     have hkb:(L+1)*8<=140737488355328:=by omega
     clear HY HNo hb;go_wp2_with (first|(go_at_call 79;refine(hco _).mono ?_;rintro e w2 ⟨rfl,hb2⟩;obtain⟨c2,hst2,h3z,h3w,ho2⟩:=HW2.out w2 hb2;obtain⟨k0,k1,k2,f0,f1,f2,hl2⟩:=id h3w;have hown2:=fun o=>ho2.alloc o;have hbase:∀o,w1.heap.size+1<=(w2.alloc o).heap.size:=(fun o=>by simp;omega);have kA2:∀o,(w2.alloc o).cell? ⟨w1.heap.size,2,Z⟩=X (Y aao L aac):=(fun o=>(((Below.refl _ _).alloc (aU _) o).cell (p:=⟨w1.heap.size,2,Z⟩) hl2).trans k2))|(go_at_call 80;refine(hlk _).mono ?_;rintro e w3 ⟨rfl,rfl⟩)|(at_builtin;refine wpList_append_own _ rfl (.tmp 49) (.tmp 51) 43 rfl (w1.heap.size+1) 3 i0 (.int V 0) 1 8 aD hi hz0 hz1 hz2 rfl (by decide) _ _ _ rfl (hown2 _) ⟨_,0,Z⟩ 1 1 _ rfl rfl (cell_one_new _ _ _) (by intro u hu;simp at hu;subst hu;rfl) h63 hkb (hbase _) ?_;intro v5 w5 hown5 hgrow5 _;obtain⟨g5,cp5,rfl⟩:=To hown5;have hb25:U (w1.heap.size+1) _ w5:=((Below.refl _ _).alloc (by omega) _).grown hgrow5 (hbase _) (Tk ho2);have h35:=h3w.below hb25 (dz _);obtain⟨k50,k51,k52,f50,f51,f52,hl5⟩:=id h35))
     have hb15:U w1.heap.size w1 w5:=hst2.1.trans (hb25.mono (dx _));refine⟨⟨k+1,hlt,by first|rfl|simp,⟨hb15.setCell (aU _) _,_,h35.set2 _,?_⟩,HJ3.out⟩,by simp[intOf];omega⟩;rw[HAh.out,aN,<-HL.out];rw[show AB (AO l k++[(k:Int)])=AB (AO l k)++[.int V (k:Int)] by simp[AB]];exact Hb hown5 (dz _) _
    |false=>
     have HAh:=(show O _ from HNo.out hb);rw[hb]at hlk;clear HY HNo hb;go_wp2_with (first|(go_at_call 79;refine(hco _).mono ?_;rintro e w2 ⟨rfl,hb2⟩;obtain⟨c2,hst2,h3z,h3w,ho2⟩:=HW2.out w2 hb2)|(go_at_call 80;refine(hlk _).mono ?_;rintro e w3 ⟨rfl,rfl⟩))
     obtain⟨q1,av',q2,q3⟩:=hst2;exact⟨⟨k+1,hlt,by first|rfl|simp,⟨q1,av',q2,by rw[HAh.out];exact q3⟩,HJ3.out⟩,by simp[intOf];omega⟩
   .have HX:O (Ad props l=A4 props (x,y)):=HOi.out hze;generalize A4 props (x,y)=err at hco hze HX;clear HOi HJ2 HY HNo hlk;go_wp2_with (go_at_call 79;refine(hco _).mono ?_;rintro e w2 ⟨rfl,hb2⟩;obtain⟨c2,hst2,h3z,h3w,ho2⟩:=HW2.out w2 hb2;obtain⟨k0,k1,k2,f0,f1,f2,hl2⟩:=id h3z)
    refine bodyPost_ret (v:=G #[ZZ #[Y Z 0 0,Y Z 0 0,Y Z 0 0],.int V err]) ?_ rfl ⟨?_,fun _=>by rw[HX.out],fun h=>absurd h (by rw[HX.out];exact hze)⟩
    .obtain ⟨q0,q1,q2⟩:=h3z.read (Y Z 0 0) (Y Z 0 0) (Y Z 0 0);simp[results,ej,go_sem,q0,q1,q2]
    .have hbw2:=hbw1.trans (hst2.1.mono hbw1.size);exact((hbw2.setCell (aU _) _).setCell (aU _) _).setCell (aU _) _
  .have hkn:k=n:=by omega
   subst hkn;have HX:=(show O _ from HE.out HJ.out);have h3z:=HT3.out.below hbel hs1;have HRo:O (wr.rowIs B 3 k (fun q=>.int V (An (l.map aW) q))):=CA HRow.out hbel;have HOw:O (wr.ownsRow (w1.heap.size+1) 3 1 (.slice aao (AO l k).length aac) (AO l k).length (AB (AO l k))):=hown;obtain⟨L,hL⟩:∃L,L=(AO l k).length:=⟨_,rfl⟩;have HL:O (L=(AO l k).length):=hL;rw[<-hL]at hlen HX HOw h3r;obtain⟨k0,k1,k2,f0,f1,f2,hl2⟩:=id h3r;obtain⟨z0,z1,z2,y0,y1,y2,zl2⟩:=id h3z;clear hL HO HE HA hown HSt HS0 HRow HJ;by_cases h6L:6<L
   .have HX2:O (Ad props l=1):=by show _=_;rw[HX.out,if_pos h6L]
    go_wp2_with fail
    refine bodyPost_ret (v:=G #[ZZ #[Y Z 0 0,Y Z 0 0,Y Z 0 0],.int V 1]) ?_ rfl ⟨?_,fun _=>by rw[HX2.out],fun h=>absurd h (by rw[HX2.out];decide)⟩
    .obtain ⟨q0,q1,q2⟩:=h3z.read (Y Z 0 0) (Y Z 0 0) (Y Z 0 0);simp[results,ej,go_sem,q0,q1,q2]
    .exact ((hbw.setCell (aU _) _).setCell (aU _) _).setCell (aU _) _
   .have HX2:O (Ad props l=0):=by show _=_;rw[HX.out,if_neg h6L]
    go_wp2_with fail
    refine bodyPost_ret (v:=G #[ZZ #[Y (X ⟨b,off,Z⟩) k cap,Y (X ⟨B,0,Z⟩) k k,Y aao L aac],.int V 0]) ?_ rfl ⟨?_,fun h=>absurd HX2.out h,fun _=>⟨B,Y aao L aac,dw hBw,rfl,?_,?_⟩⟩
    .obtain ⟨q0,q1,q2⟩:=h3z.read (Y (X ⟨b,off,Z⟩) k cap) (Y (X ⟨B,0,Z⟩) k k) (Y aao L aac);simp[results,ej,go_sem,q0,q1,q2]
    .exact ((hbw.setCell (aU _) _).setCell (aU _) _).setCell (aU _) _
    .have hne:∀q,B≠(⟨w.heap.size,q,Z⟩:Addr).block:=fun q=>by simp;omega
     exact HRo.out.of_block ((Below.heap_setCell _ _ _ B (hne 2)).trans ((Below.heap_setCell _ _ _ B (hne 1)).trans (Below.heap_setCell _ _ _ B (hne 0))))
    .rw[HLd.out,<-HL.out];exact Az (Hb (Hb (Hb HOw.out (by simp;omega) _) (by simp;omega) _) (by simp;omega) _) (by omega)
theorem JE(v:Q)(l:List (Int×Int))(props:Int)(w:T)(hB:0<w.heap.size)(hT:AF w)(hV:OpsV w v l) :
  I ei 54 #[v,.int V props] w (IK props v l w):=by
 by_cases hr:props<0\/6<props
 .obtain ⟨ao,cap,rfl,_⟩:=hV;exact(UR ao _ cap props w hr).mono fun e w' ⟨h1,h2⟩=>⟨h2,fun _=>by rw[JB hr];exact h1,fun h=>absurd h (by rw[JB hr];decide)⟩
 .by_cases hz:AU (l.map aW)=0
  .obtain ⟨hne,_⟩:=D3 hz;obtain⟨ao,cap,rfl,h0,h⟩:=hV;obtain⟨b,off,rfl,hbl,hat⟩:=h (by rintro rfl;exact hne rfl);exact UQ b off cap l props w (by omega) (by omega) hB hT hbl hat h0.1 hz
  .exact (UN v _ props w (by omega) (by omega) hB hT hV.kinds hz).mono fun e w' ⟨h1,h2⟩=>⟨h2,fun _=>by rw[I9 hr hz];exact h1,fun h=>absurd h (by rw[I9 hr hz];exact hz)⟩
theorem R9(v:Q)(l:List (Int×Int))(props:Int)(w:T)(hB:0<w.heap.size)(hT:AF w)(hV:OpsV w v l) :
  I ei 53 #[v,.int V props] w fun e w'=>e=S (.int V (Ad props l))/\U w.heap.size w w':=by
 have hrd:I ei 54 #[v,.int V props] w fun e w'=>U w.heap.size w w'/\∃ao an ac bo bn bc co cn cc,e=S (G #[ZZ #[Y ao an ac,Y bo bn bc,Y co cn cc],.int V (Ad props l)]):=by
  refine(JE v l props w hB hT hV).mono fun e w' ⟨h1,h2,h3⟩=>⟨h1,?_⟩;by_cases hz:Ad props l=0
  .obtain ⟨B,av,_,he,_,ho⟩:=h3 hz;obtain⟨aa,ac,rfl⟩:=Au ho;obtain⟨ao,cap,rfl,_⟩:=hV;exact⟨_,_,_,_,_,_,_,_,_,by rw[hz];exact he⟩
  .exact ⟨_,_,_,_,_,_,_,_,_,h2 hz⟩
 obtain⟨ao,cap,rfl,_⟩:=hV;generalize Ad props l=x at *;clear hT
 go_enter Tryz.func53,Tryz.ntmps53;go_wp2_with (go_at_call 54;refine hrd.mono ?_;rintro e w1 ⟨hb1,ao,an,ac,bo,bn,bc,co,cn,cc,rfl⟩)
 go_ret;exact⟨rfl,by first|exact hb1|exact hb1.alloc hb1.size _⟩
noncomputable def AX(m:Mo)(ps:List (List (Int×Int)))(l:List (Int×Int)):Int:=if CP m ps≠0 then CP m ps else Ad ps.length l
structure TaskV(w:T)(va vr pv fv:Q)(m:Mo)(ps:List (List (Int×Int)))(l:List (Int×Int)):Prop where
 mo:A1 w va vr m
 ps:TermsV w pv ps
 fo:OpsV w fv l
theorem TaskV.below{w w':T}{va vr pv fv:Q}{m:Mo}{ps:List (List (Int×Int))}{l:List (Int×Int)}(h:TaskV w va vr pv fv m ps l)(hb:U w.heap.size w w'):TaskV w' va vr pv fv m ps l:=⟨h.mo.below hb,h.ps.below hb,h.fo.below hb⟩
theorem Ms(va vr pv fv:Q)(m:Mo)(ps:List (List (Int×Int)))(l:List (Int×Int))(w:T)(hB:0<w.heap.size)(hT:AF w)(hV:TaskV w va vr pv fv m ps l) :
  I ei 28 #[ZZ #[va,vr,pv,fv]] w fun e w'=>e=S (.int V (AX m ps l))/\U w.heap.size w w':=by
 have hA:∀o,U w.heap.size w (w.alloc o):=fun o=>(Below.refl _ _).alloc (aU _) o;have HP:O (∀w1,U w.heap.size w w1->I ei 52 #[ZZ #[va,vr],pv] w1 fun e w'=>e=S (.int V (CP m ps))/\U w1.heap.size w1 w'):=fun w1 h=>MR va vr pv m ps w1 (dy hB h.size) (hT.below h hB) (hV.mo.below h) (hV.ps.below h);have HL:O (∀w1,U w.heap.size w w1->I ei 53 #[fv,.int V (ps.length:Int)] w1 fun e w'=>e=S (.int V (Ad ps.length l))/\U w1.heap.size w1 w'):=fun w1 h=>R9 fv l ps.length w1 (dy hB h.size) (hT.below h hB) (hV.fo.below h);unfold AX;obtain⟨ao,ac,rfl⟩:=hV.mo.1.shape;obtain⟨ro,rc,rfl⟩:=hV.mo.2.shape;obtain⟨po,pc,rfl⟩:=hV.ps.shape;obtain⟨fo,fc,rfl,_⟩:=id hV.fo;generalize CP m ps=x at *;generalize Ad ps.length l=y at *;generalize m.vars.length=vn at *;generalize m.rules.length=rn at *;generalize ps.length=pn at *;generalize l.length=fn at *;clear hV hT
 have hp:=HP.out _ (hA (M #[Y ao vn ac,Y ro rn rc,Y po pn pc,Y fo fn fc] 35));have HB:O (∀w1,U (w.heap.size+1) (w.alloc (M #[Y ao vn ac,Y ro rn rc,Y po pn pc,Y fo fn fc] 35)) w1->w1.cell? ⟨w.heap.size,2,Z⟩=X (Y po pn pc)/\w1.cell? ⟨w.heap.size,3,Z⟩=X (Y fo fn fc)):=fun w1 h=>⟨(h.cell (p:=⟨w.heap.size,2,Z⟩) (dz _)).trans (by simp[go_sem]),(h.cell (p:=⟨w.heap.size,3,Z⟩) (dz _)).trans (by simp[go_sem])⟩;by_cases hx:x=0
 .subst hx;rw[if_neg (by simp)];go_enter dH,dW;go_wp2_with (first|(go_at_call 52;refine hp.mono ?_;rintro e w1 ⟨rfl,hb1⟩;have hbw:=(hA _).trans (hb1.mono (hA _).size);have hq:=HB.out w1 (by simpa using hb1);have k0:=hq.1;have k1:=hq.2;have hl:=HL.out w1 hbw)|(go_at_call 53;refine hl.mono ?_;rintro e w2 ⟨rfl,hb2⟩))
  go_ret;exact⟨rfl,hbw.trans (hb2.mono hbw.size)⟩
 .rw[if_pos hx];go_enter dH,dW;go_wp2_with (go_at_call 52;refine hp.mono ?_;rintro e w1 ⟨rfl,hb1⟩;have hbw:=(hA _).trans (hb1.mono (hA _).size))
  go_ret;exact⟨rfl,hbw⟩
theorem Rt(v:Q)(l:List (Int×Int))(props:Int)(w:T)(hB:0<w.heap.size)(hT:AF w)(hV:OpsV w v l)(hc:Ad props l=0) :
  I ei 29 #[v,.int V props] w fun e w'=>∃ao ac,e=S (G #[.slice ao (AA l).length ac,.int V 0])/\U w.heap.size w w'/\O (w'.ownsRow w.heap.size 3 1 (.slice ao (AA l).length ac) (AA l).length (AB (AA l))):=by
 have hrd:I ei 54 #[v,.int V props] w fun e w'=>U w.heap.size w w'/\∃ao an ac bo bn bc co cc,e=S (G #[ZZ #[Y ao an ac,Y bo bn bc,.slice co (AA l).length cc],.int V 0])/\O (w'.ownsRow w.heap.size 3 1 (.slice co (AA l).length cc) (AA l).length (AB (AA l))):=by
  refine(JE v l props w hB hT hV).mono fun e w' ⟨h1,h2,h3⟩=>⟨h1,?_⟩;obtain⟨B,av,_,he,_,ho⟩:=h3 hc;obtain⟨aa,ac,rfl⟩:=Au ho;obtain⟨ao,cap,rfl,_⟩:=hV;exact⟨_,_,_,_,_,_,_,_,he,ho⟩
 obtain⟨ao,cap,rfl,_⟩:=hV;generalize(AA l).length=an at *;clear hT hc
 go_enter Tryz.func29,Tryz.ntmps29;go_wp2_with (go_at_call 54;refine hrd.mono ?_;rintro e w1 ⟨hb1,ao,bn,ac,bo,bm,bc,co,cc,rfl,HI⟩)
 go_ret2;exact⟨_,_,rfl,by first|exact hb1|exact hb1.alloc hb1.size _,by first|exact HI.out|exact HI.out.alloc _⟩
theorem BU{m:Mo}{ps:List (List (Int×Int))}{l:List (Int×Int)}(h:AX m ps l=0):CP m ps=0/\Ad ps.length l=0:=by
 unfold AX at h;split at h
 .rename_i h1;exact absurd h h1
 .rename_i h1;exact⟨by simpa using h1,h⟩
structure SurvAt(w:T)(B:Nat)(va vr pv fv av:Q)(bs bl:Nat):Prop where
 lt:B<w.heap.size
 c0:w.cell? ⟨B,0,Z⟩=X va
 c1:w.cell? ⟨B,1,Z⟩=X vr
 c2:w.cell? ⟨B,2,Z⟩=X pv
 c3:w.cell? ⟨B,3,Z⟩=X fv
 c4:w.cell? ⟨B,4,Z⟩=X av
 c5:w.cell? ⟨B,5,Z⟩=X (.map (X bs))
 c6:w.cell? ⟨B,6,Z⟩=X (.map (X bl))
theorem SurvAt.later{w w':T}{B:Nat}{va vr pv fv av:Q}{bs bl:Nat}(h:SurvAt w B va vr pv fv av bs bl)(hb:U w.heap.size w w'):SurvAt w' B va vr pv fv av bs bl:=
 ⟨dy h.lt hb.size,(hb.cell (p:=⟨B,0,Z⟩) h.lt).trans h.c0,(hb.cell (p:=⟨B,1,Z⟩) h.lt).trans h.c1,(hb.cell (p:=⟨B,2,Z⟩) h.lt).trans h.c2,(hb.cell (p:=⟨B,3,Z⟩) h.lt).trans h.c3,(hb.cell (p:=⟨B,4,Z⟩) h.lt).trans h.c4,(hb.cell (p:=⟨B,5,Z⟩) h.lt).trans h.c5,(hb.cell (p:=⟨B,6,Z⟩) h.lt).trans h.c6⟩
theorem SurvAt.new(w:T)(va vr pv fv av:Q)(t:TypeId):SurvAt (((w.alloc (.map #[] 0)).alloc (.map #[] 0)).alloc (M #[va,vr,pv,fv,av,.map (X w.heap.size),.map (X (w.heap.size+1))] t)) (w.heap.size+2) va vr pv fv av w.heap.size (w.heap.size+1):=by
 have e:w.heap.size+2=((w.alloc (.map #[] 0)).alloc (.map #[] 0)).heap.size:=by simp
 rw[e];refine⟨by simp,?_,?_,?_,?_,?_,?_,?_⟩<;>simp[go_sem]
theorem SU(w:T)(o:Obj):(((w.alloc (.map #[] 0)).alloc (.map #[] 0)).alloc o).heap[w.heap.size]? = X (.map #[] 0)/\(((w.alloc (.map #[] 0)).alloc (.map #[] 0)).alloc o).heap[w.heap.size+1]? = X (.map #[] 0):=by
 have h1:=(du w (.map #[] 0)).1;have h2:=(du (w.alloc (.map #[] 0)) (.map #[] 0)).1;have b1:U (w.alloc (.map #[] 0)).heap.size (w.alloc (.map #[] 0)) (((w.alloc (.map #[] 0)).alloc (.map #[] 0)).alloc o):=((Below.refl _ _).alloc (aU _) _).alloc (by simp) _;have b2:U ((w.alloc (.map #[] 0)).alloc (.map #[] 0)).heap.size ((w.alloc (.map #[] 0)).alloc (.map #[] 0)) (((w.alloc (.map #[] 0)).alloc (.map #[] 0)).alloc o):=(Below.refl _ _).alloc (aU _) _;refine⟨(b1.block _ (by simp)).trans h1,?_⟩;rw[World.size_alloc]at h2;exact(b2.block _ (by simp)).trans h2
def IP(w:T)(va vr pv fv:Q)(l:List (Int×Int))(e:Ending)(w':T):Prop:=
 ∃n ao ac,e=S (G #[E (X ⟨n+2,0,Z⟩),.int V 0])/\U w.heap.size w w'/\w.heap.size<=n/\w'.heap.size=n+3/\O (SurvAt w' (n+2) va vr pv fv (.slice ao (AA l).length ac) n (n+1))/\O (w'.ownsRow w.heap.size 3 1 (.slice ao (AA l).length ac) (AA l).length (AB (AA l)))/\O (w'.heap[n]? = X (.map #[] 0)/\w'.heap[n+1]? = X (.map #[] 0))
theorem Vv(va vr pv fv:Q)(m:Mo)(ps:List (List (Int×Int)))(l:List (Int×Int))(w:T)(hB:0<w.heap.size)(hT:AF w)(hV:TaskV w va vr pv fv m ps l)(hc:AX m ps l=0) :
  I ei 16 #[ZZ #[va,vr,pv,fv]] w (IP w va vr pv fv l):=by
 have hA:∀o,U w.heap.size w (w.alloc o):=fun o=>(Below.refl _ _).alloc (aU _) o;obtain⟨_,hl0⟩:=BU hc;obtain⟨ao,ac,rfl⟩:=hV.mo.1.shape;obtain⟨ro,rc,rfl⟩:=hV.mo.2.shape;obtain⟨po,pc,rfl⟩:=hV.ps.shape;obtain⟨fo,fc,rfl,_⟩:=id hV.fo;have HC:O (∀w1,U w.heap.size w w1->I ei 28 #[ZZ #[.slice ao m.vars.length ac,.slice ro m.rules.length rc,.slice po ps.length pc,.slice fo l.length fc]] w1 fun e w'=>e=S (.int V 0)/\U w1.heap.size w1 w'):=fun w1 h=>by
  have:=Ms _ _ _ _ m ps l w1 (dy hB h.size) (hT.below h hB) (hV.below h);rw[hc]at this;exact this
 have HL:O (∀w1,U w.heap.size w w1->I ei 29 #[.slice fo l.length fc,.int V (ps.length:Int)] w1 fun e w'=>∃ho hc,e=S (G #[.slice ho (AA l).length hc,.int V 0])/\U w1.heap.size w1 w'/\O (w'.ownsRow w1.heap.size 3 1 (.slice ho (AA l).length hc) (AA l).length (AB (AA l)))):=fun w1 h=>Rt _ l ps.length w1 (dy hB h.size) (hT.below h hB) (hV.fo.below h) hl0;unfold IP;generalize AB (AA l)=av at *;generalize(AA l).length=an at *;generalize m.vars.length=vn at *;generalize m.rules.length=rn at *;generalize ps.length=pn at *;generalize l.length=fn at *;clear hV hT hc hl0;have hp:=HC.out _ (hA (M #[Y ao vn ac,Y ro rn rc,Y po pn pc,Y fo fn fc] 35))
 have HB:O (∀w1,U (w.heap.size+1) (w.alloc (M #[Y ao vn ac,Y ro rn rc,Y po pn pc,Y fo fn fc] 35)) w1->w1.cell? ⟨w.heap.size,0,Z⟩=X (Y ao vn ac)/\w1.cell? ⟨w.heap.size,1,Z⟩=X (Y ro rn rc)/\w1.cell? ⟨w.heap.size,2,Z⟩=X (Y po pn pc)/\w1.cell? ⟨w.heap.size,3,Z⟩=X (Y fo fn fc)):=fun w1 h=>⟨(h.cell (p:=⟨w.heap.size,0,Z⟩) (dz _)).trans (by simp[go_sem]),(h.cell (p:=⟨w.heap.size,1,Z⟩) (dz _)).trans (by simp[go_sem]),(h.cell (p:=⟨w.heap.size,2,Z⟩) (dz _)).trans (by simp[go_sem]),(h.cell (p:=⟨w.heap.size,3,Z⟩) (dz _)).trans (by simp[go_sem])⟩;have hmm:=@run_makeMap ei;go_enter dD,dU;go_wp2_with (first|(go_at_call 28;refine hp.mono ?_;rintro e w1 ⟨rfl,hb1⟩;have hbw:=(hA _).trans (hb1.mono (hA _).size);have hq:=HB.out w1 (by simpa using hb1);obtain⟨k0,k1,k2,k3⟩:=hq;have hl:=HL.out w1 hbw)|(go_at_call 29;refine hl.mono ?_;rintro e w2 ⟨ho,hc,rfl,hb2,HO⟩;have hbw2:=hbw.trans (hb2.mono hbw.size);obtain⟨j0,j1,j2,j3⟩:=HB.out w2 (by have:=hb1.trans (hb2.mono hb1.size);simpa using this)))
 go_ret2;have hm1:U w.heap.size w ((w2.alloc (.map #[] 0)).alloc (.map #[] 0)):=(hbw2.alloc hbw2.size _).alloc (by have:=hbw2.size;simp;omega) _;refine⟨w2.heap.size,ho,hc,by rfl,hm1.alloc hm1.size _,hbw2.size,by simp,SurvAt.new w2 _ _ _ _ _ _,?_,?_⟩
 .exact (((Az HO.out hbw.size).alloc _).alloc _).alloc _
 .exact SU w2 _
theorem Vu(va vr pv fv:Q)(m:Mo)(ps:List (List (Int×Int)))(l:List (Int×Int))(w:T)(hB:0<w.heap.size)(hT:AF w)(hV:TaskV w va vr pv fv m ps l)(hc:AX m ps l≠0) :
  I ei 16 #[ZZ #[va,vr,pv,fv]] w fun e w'=>e=S (G #[E Z,.int V (AX m ps l)])/\U w.heap.size w w':=by
 have hA:∀o,U w.heap.size w (w.alloc o):=fun o=>(Below.refl _ _).alloc (aU _) o;obtain⟨ao,ac,rfl⟩:=hV.mo.1.shape;obtain⟨ro,rc,rfl⟩:=hV.mo.2.shape;obtain⟨po,pc,rfl⟩:=hV.ps.shape;obtain⟨fo,fc,rfl,_⟩:=id hV.fo;have hp:=Ms _ _ _ _ m ps l _ (dy hB (hA (M #[.slice ao m.vars.length ac,.slice ro m.rules.length rc,.slice po ps.length pc,.slice fo l.length fc] 35)).size) (hT.below (hA _) hB) (hV.below (hA _));generalize AX m ps l=c at *;generalize m.vars.length=vn at *;generalize m.rules.length=rn at *;generalize ps.length=pn at *;generalize l.length=fn at *;clear hV hT
 go_enter dD,dU;go_wp2_with (first|(go_at_call 28;refine hp.mono ?_;rintro e w1 ⟨rfl,hb1⟩;have hbw:=(hA _).trans (hb1.mono (hA _).size)))
 go_ret2;exact⟨rfl,hbw⟩
theorem Il(B:Nat)(va vr pv fv:Q)(ao:Option Addr)(an ac bs bl:Nat)(w:T)(h6:an<=6)(hS:SurvAt w B va vr pv fv (Y ao an ac) bs bl) :
  I ei 32 #[E (X ⟨B,0,Z⟩)] w fun e w'=>e=S (.int V ((2^an:Nat):Int))/\w'=w:=by
 have c4:=hS.c4;clear hS;rcases(show an=0\/an=1\/an=2\/an=3\/an=4\/an=5\/an=6 by omega)with rfl|rfl|rfl|rfl|rfl|rfl|rfl;all_goals
  go_enter Tryz.func32,Tryz.ntmps32;go_wp2;go_ret;exact⟨rfl,rfl⟩
open Go.ChangeShapes Go.WideShapes Go.ChangeAt Go.RowKit Go.Deep Go.Maps
def Eh:Q->Option (DataW Q×List MemPlace):=fun v=>X (.held v,[])
def MapIs(w:T)(kt:TypeId)(b n:Nat)(f:Lit->Option Q):Prop:=
 ∃D:DataW Q,w.ownsMap ei kt Eh b n D/\∀x,Maps.has D x=(f x).isSome/\∀v,f x=X v->∀z,D.atKey x z=.held v
theorem MapIs.lt{w:T}{kt:TypeId}{b n:Nat}{f:Lit->Option Q}(h:MapIs w kt b n f):b<w.heap.size:=by
 obtain⟨D,h1,_⟩:=h;exact h1.lt
theorem MapIs.isMap{w:T}{kt:TypeId}{b n:Nat}{f:Lit->Option Q}(h:MapIs w kt b n f):∃es c,w.heap[b]? = X (.map es c):=by
 obtain⟨D,⟨es,c,h1,_⟩,_⟩:=h;exact⟨es,c,h1⟩
theorem MapIs.new{w:T}(kt:TypeId){b:Nat}(h:w.heap[b]? = X (.map #[] 0)):MapIs w kt b 0 (fun _=>Z):=by
 obtain⟨es,c,h1,h2,h3,h4⟩:=World.ownsMap_made w ei kt Eh;rw[(du w _).1]at h1;injection h1 with h1;injection h1 with h5 h6;subst h5 h6;exact⟨.map [],⟨#[],0,h,h2,aU _,rfl⟩,fun x=>⟨by simp[Maps.has],fun v hv=>by simp at hv⟩⟩
theorem MapIs.kept{w w':T}{kt:TypeId}{b n:Nat}{f:Lit->Option Q}(h:MapIs w kt b n f)(e:w'.heap[b]? = w.heap[b]?):MapIs w' kt b n f:=by
 obtain⟨D,⟨es,c,h1,h2⟩,h3⟩:=h;exact⟨D,⟨es,c,e.trans h1,h2⟩,h3⟩
theorem MapIs.look{w:T}{kt:TypeId}{b n:Nat}{f:Lit->Option Q}(h:MapIs w kt b n f)(K:Keyed ei kt){t e:TypeId}(ht:ei.underlying t=X (.map kt e)){z:Q}(hz:(zeroValue e).run ei w=.ok z w)
  {key:Q} {kl:Lit} (hkey:keyOf ei kt key=X kl):(Instr.lookup t (.map (X b)) key true).run ei w=.ok (G #[(f kl).getD z,.bool (f kl).isSome]) w:=by
 obtain⟨D,h1,h2⟩:=h;obtain⟨v,ps,hrun,hR⟩:=h1.look_ok K ht hz (zd:=.held z) (zp:=[]) rfl hkey;obtain⟨hs,hv⟩:=h2 kl;simp only[Eh,Option.some.injEq,bK.injEq]at hR;rw[hrun,hs];cases hf:f kl with
 |none=>
  rw[hf]at hs;have:=Maps.atKey_of_not_has (D:=D) (k:=kl) (by simpa using hs) (.held z);rw[this]at hR;have e1:=hR.1;injection e1 with e1;rw[e1];rfl
 |some u=>
  rw[hv u hf]at hR;have e1:=hR.1;injection e1 with e1;rw[e1];rfl
open Classical in
noncomputable def Dm(f:Lit->Option Q)(kl:Lit)(val:Q):Lit->Option Value:=fun x=>if x=kl then X val else f x
theorem Gh(f:Lit->Option Q)(kl:Lit)(val:Q):Dm f kl val kl=X val:=by unfold Dm;rw[if_pos rfl]
theorem Gg{f:Lit->Option Q}{kl x:Lit}(h:x≠kl)(val:Q):Dm f kl val x=f x:=by unfold Dm;rw[if_neg h]
theorem MapIs.put{w:T}{kt:TypeId}{b n:Nat}{f:Lit->Option Q}(h:MapIs w kt b n f)(K:Keyed ei kt){t e:TypeId}(ht:ei.underlying t=X (.map kt e))(hn:n<maxLen)
  {key val:Q} {kl:Lit} (hkey:keyOf ei kt key=X kl) (hlit:WideAt.IsKeyLit kl):∃w',(Instr.mapUpdate t (.map (X b)) key val).run ei w=.ok () w'/\MapIs w' kt b (n+1) (Dm f kl val)/\w.grownBy w' (X b):=by
 obtain⟨D,h1,h2⟩:=h;obtain⟨w',hrun,h3,h4⟩:=h1.update K ht hn hkey (val:=val) (d:=.held val) (ps:=[]) rfl;refine⟨w',hrun,⟨_,h3,fun x=>?_⟩,h4⟩;by_cases hx:x=kl
 .subst hx;rw[Gh];refine⟨by rw[Maps.has_put_same h1.isMap hlit];rfl,fun v hv z=>?_⟩;cases hv
  exact Maps.atKey_put_same h1.isMap hlit _ z
 .rw[Gg hx];refine⟨by rw[Maps.has_put_other hx];exact(h2 x).1,fun v hv z=>?_⟩;rw[Maps.atKey_put_other hx];exact(h2 x).2 v hv z
structure Sk(bs bl:Nat)(w w':T):Prop where
 os:w'.os=w.os
 tape:w'.tape=w.tape
 output:w'.output=w.output
 size:w.heap.size<=w'.heap.size
 block:∀i,i<w.heap.size->i≠bs->i≠bl->w'.heap[i]? = w.heap[i]?
theorem Sk.refl(bs bl:Nat)(w:T):Sk bs bl w w:=⟨rfl,rfl,rfl,aU _,fun _ _ _ _=>rfl⟩
theorem Sk.trans{bs bl:Nat}{a b c:T}(h:Sk bs bl a b)(k:Sk bs bl b c):Sk bs bl a c:=
 ⟨k.os.trans h.os,k.tape.trans h.tape,k.output.trans h.output,Nat.le_trans h.size k.size,fun i hi h1 h2=>(k.block i (dy hi h.size) h1 h2).trans (h.block i hi h1 h2)⟩
theorem Sk.of{bs bl:Nat}{w w':T}(h:U w.heap.size w w'):Sk bs bl w w':=⟨h.os,h.tape,h.output,h.size,fun i hi _ _=>h.block i hi⟩
theorem Sk.grown{bs bl:Nat}{w w':T}{r:Nat}(h:w.grownBy w' (X r))(hr:r=bs\/r=bl):Sk bs bl w w':=
 ⟨h.os,h.tape,h.output,h.size,fun i hi h1 h2=>h.block i hi (by intro e;injection e with e;omega)⟩
theorem Sk.below{bs bl base:Nat}{w w':T}(h:Sk bs bl w w')(h1:base<=bs)(h2:base<=bl)(h3:base<=w.heap.size):U base w w':=
 ⟨h.os,h.tape,h.output,h.size,fun i hi=>h.block i (by omega) (by omega) (by omega)⟩
def Cf(w:T)(bs bl:Nat):Prop:=(∃es c,w.heap[bs]? = X (.map es c))/\∃es c,w.heap[bl]? = X (.map es c)
theorem JQ{w:T}{p:Addr}{v:Q}(h:w.cell? p=X v){es:Array MapEntry}{c:Nat}:w.heap[p.block]?≠X (.map es c):=by
 intro e;simp[World.cell?,e]at h
theorem Sk.cell{bs bl:Nat}{w w':T}(h:Sk bs bl w w')(hm:Cf w bs bl){p:Addr}{v:Q}(hp:w.cell? p=X v):w'.cell? p=X v:=by
 obtain⟨⟨es,c,e1⟩,⟨es',c',e2⟩⟩:=hm;have hlt:=bW w p hp;rw[eJ (h.block p.block hlt (fun e=>JQ hp (by rw[e];exact e1)) (fun e=>JQ hp (by rw[e];exact e2)))];exact hp
def sec(l:List (Int×Int))(p:Nat):Nat:=An (l.map aW) (p+1)
def DH(claim:Int)(i:Nat):Bool:=decide (claim / 2^i % 2=1)
def mkB(o:Int×Int)(letter:List Bool)(a b:Bool):Bool:=
 if o.1=13 then letter.getD o.2.toNat ZY else if o.1=11 then true else if o.1=10 then !a else if o.1=8 then a&&b else if o.1=9 then a||b else ZY
def CT(l:List (Int×Int))(letter:List Bool)(claim:Int):Nat->Nat->Bool
 |0,_=>ZY
 |f+1,p=>if Ag (l.getD p (0,0)).1=true then DH claim (AO l p).length else mkB (l.getD p (0,0)) letter (CT l letter claim f (p+1)) (CT l letter claim f (max (sec l p) (p+1)))
def tru(l:List (Int×Int))(letter:List Bool)(claim:Int)(p:Nat):Bool:=CT l letter claim (l.length-p) p
theorem WS(l:List (Int×Int))(letter:List Bool)(claim:Int):∀f g p,l.length<=f+p->l.length<=g+p->p<l.length->CT l letter claim f p=CT l letter claim g p:=by
 intro f;induction f with
 |zero=>intro g p h _ hp;omega
 |succ f ih=>
  intro g p h1 h2 hp;cases g with
  |zero=>omega
  |succ g=>
   simp only[CT];have aux:∀q,p<q->CT l letter claim f q=CT l letter claim g q:=by
    intro q hq;by_cases hql:q<l.length
    .exact ih g q (by omega) (by omega) hql
    .have z:∀f q,l.length<=q->CT l letter claim f q=false:=by
      intro f;induction f with
      |zero=>intro q _;rfl
      |succ f ihf=>
       intro q hq;simp only[CT];rw[show l.getD q (0,0)=(0,0) by simp[aL,hq]];simp[Ag,mkB]
     rw[z f q (by omega),z g q (by omega)]
   rw[aux (p+1) (by omega),aux (max (sec l p) (p+1)) (by omega)]
theorem WT{l:List (Int×Int)}{letter:List Bool}{claim:Int}{p:Nat}(hp:p<l.length)(h:Ag (l.getD p (0,0)).1=true):tru l letter claim p=DH claim (AO l p).length:=by
 unfold tru;obtain⟨f,hf⟩:∃f,l.length-p=f+1:=⟨l.length-p-1,by omega⟩;rw[hf];simp only[CT];rw[if_pos h]
theorem WU{l:List (Int×Int)}{letter:List Bool}{claim:Int}{p:Nat}(hp:p<l.length)(h:Ag (l.getD p (0,0)).1=ZY)(hs:pn (l.getD p (0,0)).1=2->p+1<sec l p):tru l letter claim p=mkB (l.getD p (0,0)) letter (tru l letter claim (p+1)) (tru l letter claim (sec l p)):=by
 unfold tru;obtain⟨f,hf⟩:∃f,l.length-p=f+1:=⟨l.length-p-1,by omega⟩;rw[hf];have z:∀f q,l.length<=q->CT l letter claim f q=false:=by
  intro f;induction f with
  |zero=>intro q _;rfl
  |succ f ihf=>
   intro q hq;simp only[CT];rw[show l.getD q (0,0)=(0,0) by simp[aL,hq]];simp[Ag,mkB]
 have aux:∀q,p<q->CT l letter claim f q=CT l letter claim (l.length-q) q:=by
  intro q hq;by_cases hql:q<l.length
  .exact WS l letter claim f _ q (by omega) (by omega) hql
  .rw[z _ q (by omega),z _ q (by omega)]
 simp only[CT];rw[if_neg (by rw[h];decide),aux (p+1) (by omega)];by_cases h2:pn (l.getD p (0,0)).1=2
 .rw[show max (sec l p) (p+1)=sec l p by have:=hs h2;omega,aux (sec l p) (by have:=hs h2;omega)]
 .have hk:(l.getD p (0,0)).1≠8/\(l.getD p (0,0)).1≠9:=by
   constructor<;>intro e<;>rw[e]at h2<;>exact absurd rfl h2
  simp only[mkB,hk.1,hk.2,if_false]
theorem GJ(l:List (Int×Int)):∀n i,i<(AO l n).length->∃p:Nat,(AO l n).getD i 0=p/\p<n/\Ag (l.getD p (0,0)).1=true/\(AO l p).length=i:=by
 intro n;induction n with
 |zero=>intro i hi;simp[AO]at hi
 |succ n ih=>
  intro i hi;cases hb:Ag (l.getD n (0,0)).1 with
  |false=>
   rw[Kg hb]at hi⊢;obtain⟨p,h1,h2,h3,h4⟩:=ih i hi;exact⟨p,h1,by omega,h3,h4⟩
  |true=>
   rw[GK hb]at hi⊢;by_cases hl:i<(AO l n).length
   .obtain ⟨p,h1,h2,h3,h4⟩:=ih i hl;refine⟨p,?_,by omega,h3,h4⟩;rw[<-h1];simp[aL,di hl]
   .have hi':i=(AO l n).length:=by simp at hi;omega
    subst hi';exact⟨n,by simp[aL],by omega,hb,rfl⟩
theorem Oh (l:List (Int × Int)) {p n:Nat} (h:p <= n):(AO l p).length <= (AO l n).length:=by
  induction n with
  | zero => obtain rfl : p = 0 := by omega
            exact aU _
  |succ n ih=>
    by_cases hp:p=n+1
    . subst hp;exact aU _
    . have:=ih (by omega)
      simp only[AO,aN];omega
theorem EY(l:List (Int×Int)){p n:Nat}(h:p<n)(hb:Ag (l.getD p (0,0)).1=true):(AO l p).length<(AO l n).length:=by
 have:=Oh l (p:=p+1) (n:=n) (by omega);rw[GK hb]at this;simp at this;omega
theorem Hd{l:List (Int×Int)}(hz:AU (l.map aW)=0){p:Nat}(hp:p<l.length) :
  (1<=pn (l.getD p (0,0)).1->p+1<l.length)/\(pn (l.getD p (0,0)).1=2->p+1<sec l p/\sec l p<l.length):=by
 obtain⟨_,hc⟩:=Fe hz;obtain⟨ks,hks⟩:∃ks,ks=l.map aW:=⟨_,rfl⟩;have hlen:ks.length=l.length:=by rw[hks,aQ]
 have hget:ks.getD p 0=(l.getD p (0,0)).1:=by rw[hks];simp[aL,hp]
 have hsec:sec l p=An ks (p+1):=by unfold sec;rw[<-hks]
 rw[<-hks]at hc;rw[<-hget,hsec,<-hlen];obtain⟨m,hm,hm1,hml⟩:=Pr ks 1 ks.length p hc (by omega);have ha:=Im (ks:=ks) (q:=p) (by omega);rw[hm]at ha;split at ha
 .cases hr:cnt (ks.drop (p+1)) (pn (ks.getD p 0))with
  |no e=>rw[hr]at ha;simp[R.up]at ha
  |ok m2=>
   rw[hr]at ha;simp only[R.up,R.ok.injEq]at ha;have h2:=DK _ _ _ hr;rw[List.length_drop]at h2;refine⟨fun h=>by omega,fun h=>?_⟩;rw[h,show(2:Nat)=1+1 from rfl]at hr;obtain⟨a,b,hca,hcb,hab⟩:=K3 hr;have h3:=DK _ _ _ hca;have h4:=DK _ _ _ hcb;rw[It hca];omega
 .simp at ha
structure PartsAt(w:T)(bh bf bp bH n B pl:Nat)(h:Nat->Bool)(l:List (Int×Int)):Prop where
 holds:w.cell? ⟨bh,0,Z⟩=X (Y (X ⟨bH,0,Z⟩) n n)
 row:∀j,j<n->w.cell? ⟨bH,j,Z⟩=X (.bool (h j))
 ends : w.cell? ⟨bf, 1, Z⟩ = X (Y (X ⟨B, 0, Z⟩) n n)
 erow:∀j,j<n->w.cell? ⟨B,j,Z⟩=X (.int V (An (l.map aW) j))
 place:w.cell? ⟨bp,0,Z⟩=X (.int V pl)
theorem Gd(bh bp bH n pl:Nat)(x:Bool)(w:T)(hn:n<=60)(hp:pl+1<n)(c0:w.cell? ⟨bh,0,Z⟩=X (Y (X ⟨bH,0,Z⟩) n n))(c1:w.cell? ⟨bp,0,Z⟩=X (.int V pl))(c2:w.cell? ⟨bH,pl+1,Z⟩=X (.bool x)) :
  I ei 120 #[E (X ⟨bh,0,Z⟩),E (X ⟨bp,0,Z⟩)] w fun e w'=>e=S (.bool x)/\w'=w:=by
 go_enter Tryz.func120,Tryz.ntmps120;go_wp2_with fail
 go_ret;exact⟨rfl,rfl⟩
theorem Jw(bh bf bp bH n B pl s:Nat)(x:Bool)(w:T)(hn:n<=60)(hp:pl+1<n)(hs:s<n)(c0:w.cell? ⟨bh,0,Z⟩=X (Y (X ⟨bH,0,Z⟩) n n))(c1:w.cell? ⟨bp,0,Z⟩=X (.int V pl))(c2:w.cell? ⟨bf,1,Z⟩=X (Y (X ⟨B,0,Z⟩) n n))(c3:w.cell? ⟨B,pl+1,Z⟩=X (.int V s))(c4:w.cell? ⟨bH,s,Z⟩=X (.bool x)) :
  I ei 121 #[E (X ⟨bh,0,Z⟩),E (X ⟨bf,0,Z⟩),E (X ⟨bp,0,Z⟩)] w fun e w'=>e=S (.bool x)/\∃q,w'=w.drewN q:=by
 go_enter Tryz.func121,Tryz.ntmps121;go_wp2_with fail
 go_quiet (fail)
 go_wp2_with fail
 go_ret;exact⟨rfl,_,rfl⟩
theorem He(b off cap n B bH pl:Nat)(av:Q)(h:Nat->Bool)(l:List (Int×Int))(aao:Option Addr)(an ac:Nat)(hav:av=Y aao an ac)(w:T)(hr:∀j,j<n->w.cell? ⟨bH,j,Z⟩=X (.bool (h j)))(hbH:bH<w.heap.size)(he:∀j,j<n->w.cell? ⟨B,j,Z⟩=X (.int V (An (l.map aW) j)))(hbB:B<w.heap.size) :
  I ei 87 #[ZZ #[Y (X ⟨b,off,Z⟩) n cap,Y (X ⟨B,0,Z⟩) n n,av],.int V pl,Y (X ⟨bH,0,Z⟩) n n] w fun e w'=>
   e=S (G #[.func (.func 120) #[] #[E (X ⟨w.heap.size+1+1,0,Z⟩),E (X ⟨w.heap.size+1,0,Z⟩)],.func (.func 121) #[] #[E (X ⟨w.heap.size+1+1,0,Z⟩),E (X ⟨w.heap.size,0,Z⟩),E (X ⟨w.heap.size+1,0,Z⟩)]])/\U w.heap.size w w'/\O (PartsAt w' (w.heap.size+1+1) w.heap.size (w.heap.size+1) bH n B pl h l):=by
 subst hav;have HR:=(show O _ from hr);have HE:=(show O _ from he);clear hr he;go_enter Tryz.func87,Tryz.ntmps87;go_wp2_with fail
 go_ret2;have hb:U w.heap.size w (((w.alloc (M #[Y (X ⟨b,off,Z⟩) n cap,Y (X ⟨B,0,Z⟩) n n,Y aao an ac] 138)).alloc (M #[ZX V pl] 3)).alloc (M #[Y (X ⟨bH,0,Z⟩) n n] 111)):=(((Below.refl _ _).alloc (aU _) _).alloc (by simp) _).alloc (by simp;omega) _;refine⟨rfl,hb,?_⟩;show PartsAt _ _ _ _ _ _ _ _ _ _;constructor
 .simp[go_sem]
 .exact fun j hj=>(hb.cell (p:=⟨bH,j,Z⟩) hbH).trans (HR.out j hj)
 .simp[go_sem]
 .exact fun j hj=>(hb.cell (p:=⟨B,j,Z⟩) hbB).trans (HE.out j hj)
 .simp[go_sem]
theorem PartsAt.below{w w':T}{bh bf bp bH n B pl:Nat}{h:Nat->Bool}{l:List (Int×Int)}(p:PartsAt w bh bf bp bH n B pl h l)(hb:U w.heap.size w w')(h1:bh<w.heap.size)(h2:bf<w.heap.size)(h3:bp<w.heap.size)(h4:bH<w.heap.size)(h5:B<w.heap.size):PartsAt w' bh bf bp bH n B pl h l:=
 ⟨(hb.cell (p:=⟨bh,0,Z⟩) h1).trans p.holds,fun j hj=>(hb.cell (p:=⟨bH,j,Z⟩) h4).trans (p.row j hj),(hb.cell (p:=⟨bf,1,Z⟩) h2).trans p.ends,fun j hj=>(hb.cell (p:=⟨B,j,Z⟩) h5).trans (p.erow j hj),(hb.cell (p:=⟨bp,0,Z⟩) h3).trans p.place⟩
theorem PartsAt.first{w:T}{bh bf bp bH n B pl:Nat}{h:Nat->Bool}{l:List (Int×Int)}(p:PartsAt w bh bf bp bH n B pl h l)(hn:n<=60)(hp:pl+1<n)(q:Nat) :
  I ei 120 #[E (X ⟨bh,0,Z⟩),E (X ⟨bp,0,Z⟩)] (w.drewN q) fun e w'=>e=S (.bool (h (pl+1)))/\w'=w.drewN q:=
 Gd bh bp bH n pl _ _ hn hp (by simpa using p.holds) (by simpa using p.place) (by simpa using p.row _ hp)
theorem PartsAt.second{w:T}{bh bf bp bH n B pl:Nat}{h:Nat->Bool}{l:List (Int×Int)}(p:PartsAt w bh bf bp bH n B pl h l)(hn:n<=60)(hp:pl+1<n)(hs:sec l pl<n)(q:Nat) :
  I ei 121 #[E (X ⟨bh,0,Z⟩),E (X ⟨bf,0,Z⟩),E (X ⟨bp,0,Z⟩)] (w.drewN q) fun e w'=>e=S (.bool (h (sec l pl)))/\∃r,w'=w.drewN r:=
 (Jw bh bf bp bH n B pl (sec l pl) _ _ hn hp hs (by simpa using p.holds) (by simpa using p.place) (by simpa using p.ends) (by have:=p.erow _ hp;unfold sec;simpa using this) (by simpa using p.row _ hs)).mono fun e w' ⟨h1,r,h2⟩=>⟨h1,q+r,by rw[h2,World.drewN_drewN]⟩
theorem ST(k v:Int)(lo:Option Addr)(lc bh bf bp bH n B pl:Nat)(letter:List Bool)(h:Nat->Bool)(l:List (Int×Int))(w:T)(hn:n<=60)
  (hL:BoolsV w (.slice lo letter.length lc) letter) (hP:PartsAt w bh bf bp bH n B pl h l) (b1:bh<w.heap.size) (b2:bf<w.heap.size) (b3:bp<w.heap.size) (b4:bH<w.heap.size) (b5:B<w.heap.size)
  (h13:k=13->0<=v/\v<letter.length) (h1:k=10\/k=8\/k=9->pl+1<n) (h2:k=8\/k=9->sec l pl<n) :
  I ei 88 #[ZZ #[ZX V k,.int V v],.slice lo letter.length lc,.func (.func 120) #[] #[E (X ⟨bh,0,Z⟩),E (X ⟨bp,0,Z⟩)],.func (.func 121) #[] #[E (X ⟨bh,0,Z⟩),E (X ⟨bf,0,Z⟩),E (X ⟨bp,0,Z⟩)]] w fun e w'=>
   e=S (.bool (mkB (k,v) letter (h (pl+1)) (h (sec l pl))))/\U w.heap.size w w':=by
 have hA:∀o,U w.heap.size w (w.alloc o):=fun o=>(Below.refl _ _).alloc (aU _) o;have hP':=fun o=>hP.below (hA o) b1 b2 b3 b4 b5;by_cases e13:k=13
 .subst e13;obtain⟨hv0,hv1⟩:=h13 rfl;obtain⟨vn,rfl⟩:∃vn:Nat,v=vn:=⟨v.toNat,by omega⟩;obtain⟨lo',lc',hls,hll⟩:=hL;injection hls with e1 e2 e3;subst e1;obtain⟨b,off,rfl,hbl,hat⟩:=hll (by intro h;rw[h]at hv1;simp at hv1;omega);have hc:=fun o=>((hA o).cell (p:=⟨b,off+vn,Z⟩) hbl).trans (hat vn (by omega));have hm:mkB (13,(vn:Int)) letter (h (pl+1)) (h (sec l pl))=letter.getD vn false:=by simp[mkB]
  rw[hm];generalize letter.getD vn ZY=x at hc⊢;generalize letter.length=ln at *;have hvl:vn<ln:=by omega
  clear hm hll hat hv0 hv1 h1 h2 h13 hP hP';go_enter dO,eh;go_wp2_with fail
  go_ret;exact⟨rfl,hA _⟩
 .by_cases e11:k=11
  .subst e11;have hm:mkB (11,v) letter (h (pl+1)) (h (sec l pl))=true:=by simp[mkB]
   rw[hm];clear hm hL h1 h2 h13 hP hP' e13;go_enter dO,eh;go_wp2_with fail
   go_ret;exact⟨rfl,hA _⟩
  .by_cases e10:k=10
   .subst e10;have hp:=h1 (.inl rfl);have hf:=fun o=>(hP' o).first hn hp 0
    have hm:mkB (10,v) letter (h (pl+1)) (h (sec l pl))=!h (pl+1):=by simp[mkB]
    rw[hm];generalize h (pl+1)=x at hf⊢;clear hm hL h1 h2 h13 hP hP' e13 e11;go_enter dO,eh;go_wp2_with (go_at_call 120;refine(hf _).mono ?_;rintro e w1 ⟨rfl,rfl⟩)
    go_ret;exact⟨rfl,below_drewN (hA _) 0⟩
   .by_cases e8:k=8
    .subst e8;have hp:=h1 (.inr (.inl rfl));have hs:=h2 (.inl rfl);have hf:=fun o q=>(hP' o).first hn hp q
     have hf2:=fun o q=>(hP' o).second hn hp hs q;have hm:mkB (8,v) letter (h (pl+1)) (h (sec l pl))=(h (pl+1)&&h (sec l pl)):=by simp[mkB]
     rw[hm];generalize h (pl+1)=x at hf⊢;generalize h (sec l pl)=y at hf2⊢;clear hm hL h1 h2 h13 hP hP' e13 e11 e10;cases x
     .go_enter dO,eh;go_wp2_with (go_at_call 120;refine(hf _ 0).mono ?_;rintro e w1 ⟨rfl,rfl⟩)
      go_ret;exact⟨rfl,below_drewN (hA _) 0⟩
     .go_enter dO,eh;go_wp2_with (first|(go_at_call 120;refine(hf _ 0).mono ?_;rintro e w1 ⟨rfl,rfl⟩)|(go_at_call 121;refine(hf2 _ 0).mono ?_;rintro e w1 ⟨rfl,r,rfl⟩))
      go_ret;exact⟨by simp,below_drewN (hA _) _⟩
    .by_cases e9:k=9
     .subst e9;have hp:=h1 (.inr (.inr rfl));have hs:=h2 (.inr rfl);have hf:=fun o q=>(hP' o).first hn hp q
      have hf2:=fun o q=>(hP' o).second hn hp hs q;have hm:mkB (9,v) letter (h (pl+1)) (h (sec l pl))=(h (pl+1)||h (sec l pl)):=by simp[mkB]
      rw[hm];generalize h (pl+1)=x at hf⊢;generalize h (sec l pl)=y at hf2⊢;clear hm hL h1 h2 h13 hP hP' e13 e11 e10 e8;cases x
      .go_enter dO,eh;go_wp2_with (first|(go_at_call 120;refine(hf _ 0).mono ?_;rintro e w1 ⟨rfl,rfl⟩)|(go_at_call 121;refine(hf2 _ 0).mono ?_;rintro e w1 ⟨rfl,r,rfl⟩))
       go_ret;exact⟨by simp,below_drewN (hA _) _⟩
      .go_enter dO,eh;go_wp2_with (go_at_call 120;refine(hf _ 0).mono ?_;rintro e w1 ⟨rfl,rfl⟩)
       go_ret;exact⟨rfl,below_drewN (hA _) 0⟩
     .have hm:mkB (k,v) letter (h (pl+1)) (h (sec l pl))=false:=by simp[mkB,e13,e11,e10,e8,e9]
      rw[hm];clear hm hL h1 h2 h13 hP hP';go_enter dO,eh;go_wp2_with fail
      go_ret;exact⟨rfl,hA _⟩
open Go.ChangeShapes Go.WideShapes Go.ChangeAt Go.RowKit Go.Deep Go.Shelf
attribute [local go_sem] Oper.semAt_some
def Fc{n:Nat}(h:0<n)(j:Nat):Fin n:=⟨n-1-j,by omega⟩
def C3{n:Nat}(h:0<n)(k:Nat):List (Fin n):=(aE k).map (Fc h)
theorem IX{n:Nat}(h:0<n)(k:Nat):C3 h (k+1)=C3 h k++[Fc h k]:=by simp[C3,List.range_succ]
theorem O8{n:Nat}(h:0<n)(k:Nat):(C3 h k).length=k:=by simp[C3]
def GL(l:List (Int×Int))(n:Nat)(x:Fin n):Array Value:=#[ZX V (x.1:Int),ZZ #[ZX V (l.getD x.1 (0,0)).1,.int V (l.getD x.1 (0,0)).2]]
def EP(n₀ Bs:Nat)(A B:T):Prop:=U n₀ A B/\B.heap[Bs]? = A.heap[Bs]?
set_option maxRecDepth 100000 in
theorem O5(F:Fence)(m:Nat)(h7:F.fn 119)(hro:F.round=Z)(hm:1<=m)(L Bs n₀ b off n cap:Nat)(l:List (Int×Int))(h0n:0<n)(h60:n<=60)(hnl:n=l.length)(hb:b<n₀)(J Jx:List (Fin n)->T->Prop)
  (hY:∀pre x W,J pre W->pre.length<n->YieldAt F (m-1) ei L (GL l n x) W fun e W'=>
   (e=S (.bool true)/\J (pre++[x]) W'/\EP n₀ Bs W W')\/(e=S (.bool ZY)/\Jx (pre++[x]) W'))
  (W:T) (hBs:W.cell? ⟨Bs,0,Z⟩=X (Y (X ⟨b,off,Z⟩) n cap)) (hc:BR W b off l) (h0:J [] W) :
  CallsIn F m ei 119 #[.func (.yield L) #[] #[],E (X ⟨Bs,0,Z⟩)] W fun e W'=>(∃v,e=S v)/\
   ((∃ys,ys=C3 h0n n/\J ys W')\/(∃pre,(∃k,k<=n/\pre=C3 h0n k)/\Jx pre W')):=by
 refine callsIn_of_wp Tryz.func119 rfl h7 ?_ hro;simp only[Tryz.ntmps119,dt,dj,dk,dA,dB,cV,cW,dq,de,dp,dg];have HC:O (BR W b off l):=hc;have HN:O (n=l.length):=hnl;clear hc hnl;gi_wp2
 gi_loopw [3] (fun i wr=>∃k:Nat,k<=n/\i=.int V ((n:Int)-1-k)/\J (C3 h0n k) wr/\EP n₀ Bs W wr)
  (fun i _=>(intOf i+1).toNat)
 case atStart=>exact⟨0,dC _,by first|rfl|simp,h0,Below.refl _ _,rfl⟩
 case round=>
  obtain⟨k,hk,rfl,hJs,hnx,hbx⟩:=hrel;have hcb:wr.cell? ⟨Bs,0,Z⟩=X (Y (X ⟨b,off,Z⟩) n cap):=(eJ (w:=W) hbx).trans hBs;by_cases hlt:k<n
  .obtain ⟨p,hp⟩:∃p:Nat,p=n-1-k:=⟨_,rfl⟩;have hpi:(n:Int)-1-k=(p:Int):=by omega
   have hpn:p<n:=by omega
   obtain⟨c0,c1⟩:=(HC.out.below hnx hb) p (by rw[<-HN.out];exact hpn);obtain⟨fn,tmps,assign,body,hy,hR⟩:=hY _ (Fc h0n k) wr hJs (by rw[O8];exact hlt);have hba:(Fc h0n k).1=p:=hp.symm;simp only[GL,hba]at hy;rw[hpi];have HPI:O ((n:Int)-1-k=(p:Int)):=hpi;clear hp hpi hba;generalize l.getD p (0,0)=xy at c0 c1 hy;obtain⟨x,y⟩:=xy;simp only at c0 c1 hy;gi_wp2
   refine hR.mono ?_;rintro e W3 (⟨rfl,hJ3,hk3,hk4⟩|⟨rfl,hJx3⟩)
   .gi_wp2
    go_roundw
    case rel=>exact⟨k+1,by omega,by have:=HPI.out;first|(congr 1;omega)|(simp;omega),by rw[IX];exact hJ3,hnx.trans hk3,hk4.trans hbx⟩
    case measure=>have:=HPI.out;first|(simp[intOf];omega)|simp[intOf]
   .gi_wp2
    refine bodyPost_ret (results_none rfl _ _ _) rfl ?_;exact⟨⟨_,rfl⟩,.inr ⟨_,⟨k+1,by omega,(IX _ _).symm⟩,hJx3⟩⟩
  .obtain rfl:k=n:=by omega
   have hpi:(k:Int)-1-k=-1:=by omega
   rw[hpi];gi_wp2
   go_end0
   exact⟨⟨_,rfl⟩,.inl ⟨_,rfl,hJs⟩⟩
theorem O9(F:Fence)(m:Nat)(h5:F.fn 86)(hro:F.round=Z)(a:Option Addr)(len cap:Nat)(w:T) :
  CallsIn F m ei 86 #[Y a len cap] w fun e w'=>e=S (.func (.func 119) #[] #[E (X ⟨w.heap.size,0,Z⟩)])/\w'=w.alloc (M #[Y a len cap] 33):=by
 refine callsIn_of_wp Tryz.func86 rfl h5 ?_ hro;simp only[Tryz.ntmps86,dt,dj,dk,dA,dB,cV,cW,dq,de,dp,dg];gi_wp2
 go_ret;exact⟨rfl,rfl⟩
theorem PA(F:Fence)(m:Nat)(h7:F.fn 119)(hro:F.round=Z)(hm:1<=m)(Bs n₀ b off n cap:Nat)(l:List (Int×Int))(h0n:0<n)(h60:n<=60)(hnl:n=l.length)(hb:b<n₀)(w:T)(hBs:Bs<w.heap.size)(hn₀:n₀<=w.heap.size)
  (hc:w.cell? ⟨Bs,0,Z⟩=X (Y (X ⟨b,off,Z⟩) n cap)) (hI:BR w b off l) :
  SeqStopsK F m ei 119 #[E (X ⟨Bs,0,Z⟩)] (GL l n) (EP n₀ Bs) (fun ys=>ys=C3 h0n n)
   (fun pre=>∃k,k<=n/\pre=C3 h0n k) n w:=fun L J Jx W hW _ _ hY h0=>
 O5 F m h7 hro hm L Bs n₀ b off n cap l h0n h60 hnl hb J Jx hY W ((hW.cell (p:=⟨Bs,0,Z⟩) hBs).trans hc) (hI.below (hW.mono hn₀) hb) h0
theorem O7{n₀ Bs:Nat}{A B C:T}(h:EP n₀ Bs A B)(k:EP n₀ Bs B C):EP n₀ Bs A C:=⟨h.1.trans k.1,k.2.trans h.2⟩
theorem O6{n₀ Bs:Nat}{w:T}(hn:n₀<=w.heap.size)(hB:Bs<w.heap.size)(W:T)(l:Nat)(o o':Obj)(hl:w.heap.size<=l)(h:W.heap[l]? = X o)(h1:o.isCells=ZY)(h2:o.isWalk=ZY):EP n₀ Bs W (W.putObj l o'):=
 ⟨belowK_b hn W l o o' hl h h1 h2,(belowK_b (n₀:=Bs+1) (w:=w) hB W l o o' hl h h1 h2).block Bs (dz _)⟩
