/- Joined texts. -/
import Derived.Test.YtehfhemidmfffaaGreatDoorMCode
import Derived.Test.YtehfhemidmfffaaGreatDoorDesignOpen
import Derived.Test.YtehfhemidmfffaaGreatDoorBools
import Derived.Lib.AppendZeros
import Derived.Laws.EntriesVeiled
import Derived.RangeFuncNested
import Derived.RangeFuncBound
import Derived.RangeFuncCalls
import Derived.RangeFuncLeaves
import Derived.Shelf.Abstract
import Derived.Shelf.RegionOpen
import Derived.OwnWalkIn
import Derived.TacticsInMore
import Derived.LoopNIn
import Derived.LoopIn
import Derived.Test.YtehfhemidmfffaaGreatDoorAnyOps
import Derived.Shelf.Sort.Plain
import Derived.Shelf.Slices.Reverse
import Derived.Shelf.Slices.Empties
import Derived.Ground.Names2Prog
import Derived.Shelf.Slices.CompactI
import Derived.Shelf.Slices.SearchI
import Derived.Shelf.Slices.In.SortNone
import Derived.Sort.OwnSortedInts
import Derived.Lib.OwnBridge
import Derived.Lib.RowBridge
open Go renaming World→O,Value→E,Calls→ZX
open Go.Ending renaming returned→M
open Go.IntKind renaming i64→Y
open Go.Obj renaming cells→ZY
open Go.RowKit renaming Below→I,Hid→ZZ
open Go.Value renaming slice→X,agg→ZT,tuple→ZV,pointer→ZW,int→ZU
open _root_.Bool renaming false→ZS
open _root_.Option renaming none→Z,some→U
namespace Go.Proofs.YtehfhemidmfffaaGreatDoor
open Go.ChangeShapes Go.WideShapes Go.ChangeAt Go.RowKit Go.Deep
open Terms Tm
set_option maxHeartbeats 6400000
set_option maxRecDepth 20000
noncomputable def Ao(m:Mo)(code:Int):Int:=if mcode m=0 then(if 0<=code/\code<AK m.vars m.vars.length then 0 else 9)else mcode m
theorem Vk{m:Mo}{code:Int}(h:mcode m≠0):Ao m code=mcode m:=by unfold Ao;rw[if_neg h]
theorem Na{m:Mo}{code:Int}(h:mcode m=0)(h2:¬(0<=code/\code<AK m.vars m.vars.length)):Ao m code=9:=by unfold Ao;rw[if_pos h,if_neg h2]
theorem D7{m:Mo}{code:Int}(h:mcode m=0)(h2:0<=code/\code<AK m.vars m.vars.length):Ao m code=0:=by unfold Ao;rw[if_pos h,if_pos h2]
theorem Gd{w:O}{B n:Nat}{f:Nat->Int}(h:w.rowIs B 3 n (fun j=>.int Y (f j))):IntsV w (X (U ⟨B,0,Z⟩) n n) ((List.range n).map f):=by
 refine⟨U ⟨B,0,Z⟩,n,by simp,fun _=>⟨B,0,rfl,h.lt,fun i hi=>?_⟩⟩;simp only[List.length_map,List.length_range]at hi;rw[Nat.zero_add,h.cell hi];simp[List.getD_eq_getElem?_getD,hi]
noncomputable def FI(m:Mo)(code:Int):List Int:=if Ao m code=0 then A7 m.vars code else []
theorem Ly(va vr:E)(m:Mo)(code:Int)(w:O)(hB:0<w.heap.size)(hT:AH w)(hV:Av w va vr m)(h:mcode m=0)(hc:0<=code/\code<AK m.vars m.vars.length) :
  ZX Tryz.prog 57 #[ZT #[va,vr],.int Y code] w fun e w'=>∃B,e=M (ZV #[X (U ⟨B,0,Z⟩) m.vars.length m.vars.length,.int Y 0])/\w.heap.size<=B/\I w.heap.size w w'/\w'.rowIs B 3 m.vars.length (fun j=>.int Y (F1 m.vars code j)):=by
 have hA:∀o,I w.heap.size w (w.alloc o):=fun o=>(Below.refl _ _).alloc (Nat.le_refl _) o;have hch:=fun o=>C5 va vr m (w.alloc o) (Nat.lt_of_lt_of_le hB (hA o).size) (hT.below (hA o) hB) (hV.below (hA o));rw[h]at hch;have hok:=Cu h;have HOK:ZZ (Br m.vars):=hok;have h6:=hok.1;have hcf:=(fun w1 (hb:I w.heap.size w w1)=>Kp va m.vars w1 hok (hV.1.below hb));obtain⟨ao,cap,rfl⟩:=hV.1.shape;obtain⟨ro,rc,rfl⟩:=hV.2.shape;have HV:ZZ (VarsV w (.slice ao m.vars.length cap) m.vars):=hV.1;have hN:=hok.prod (j:=m.vars.length) (Nat.le_refl _);have HS0:ZZ (Bu m.vars m.vars.length=1):=UQ _;obtain⟨hc1,hc2⟩:=hc;generalize AK m.vars m.vars.length=N at *;obtain⟨n,hn⟩:∃n,n=m.vars.length:=⟨_,rfl⟩
 have HN:ZZ (n=m.vars.length):=hn;rw[<-hn]at h6 hch hcf HV HS0⊢;generalize m.rules.length=rn at *;have hmk:=run_make_row' (P:=Tryz.prog) 43 3 (.int Y 0) 8 Tryz.underlying43 Ba rfl .i64 .i64 n (by omega) (by omega)
 clear hV hT hn hok h;go_enter Tryz.func57,Tryz.ntmps57;go_wp2_with (first|(go_at_call 55;refine(hch _).mono ?_;rintro e w1 ⟨rfl,hb1⟩;have hcb:w1.cell? ⟨w.heap.size,0,Z⟩=U (X ao n cap):=(hb1.cell (p:=⟨w.heap.size,0,Z⟩) (by simp)).trans (by simp[go_sem]);have hbw:=(hA _).trans (hb1.mono (hA _).size);have hs1:w.heap.size<w1.heap.size:=(by have:=hb1.size;simp at this;omega))|(go_at_call 84;refine(hcf _ hbw).mono ?_;rintro e w2 ⟨rfl,hb2⟩;have hcb2:=(hb2.cell (p:=⟨w.heap.size,0,Z⟩) hs1).trans hcb))
 have hbw2:=hbw.trans (hb2.mono hbw.size);have hrow0:=World.rowIs_made w2 (.int Y 0) n 3;have hs2:=Nat.lt_of_lt_of_le hs1 hb2.size;have HB2:ZZ (I w.heap.size w w2):=hbw2;have hcb3:=hcb2;clear hch hcf hmk hb1 hb2 hcb hbw hs1 hbw2 hcb2;go_loopw [1,8] (fun cd i wr=>∃k:Nat,k<=n/\i=.int Y ((k:Int)-1)/\cd=.int Y (code / Bu m.vars k)/\ZZ (wr.rowIs w2.heap.size 3 n (fun j=>if k<=j then .int Y (F1 m.vars code j)else .int Y 0))/\ZZ (I w2.heap.size w2 wr)) (fun _ i _=>(intOf i+1).toNat)
 case atStart=>exact⟨n,Nat.le_refl _,by first|rfl|go_num,by rw[HS0.out];simp,hrow0.congr (fun i hi=>by rw[if_neg (by omega)]),(Below.refl _ _).alloc (Nat.le_refl _) _⟩
 case round=>
  obtain⟨k,hk,rfl,rfl,HRow,HBel⟩:=hrel;have hbel:=HBel.out;have hrow:=HRow.out;have hbw:=HB2.out.trans (hbel.mono HB2.out.size);have hszr:=hrow.lt;have cb:=(hbel.cell (p:=⟨w.heap.size,0,Z⟩) hs2).trans hcb3;by_cases hk0:0<k
  .obtain ⟨k,rfl⟩:∃k',k=k'+1:=⟨k-1,by omega⟩;rw[show(((k+1:Nat):Int)-1)=(k:Int) by omega];have hlt:k<n:=by omega
   obtain⟨b,off,rfl,hblt,hat⟩:=HV.out.at (i:=k) (by rw[<-HN.out];exact hlt);obtain⟨c0,c1,c2,c3⟩:=hat.below hbw hblt;have hvb:=HOK.out.at (j:=k) (by rw[<-HN.out];exact hlt);have hsg:=M6 HOK.out (i:=k+1) (by rw[<-HN.out];exact hlt);have HQ:ZZ (code / Bu m.vars (k+1) / AM (m.vars.getD k vr0)=code / Bu m.vars k):=TU HOK.out code (by rw[<-HN.out];exact hlt);have HVa:ZZ (F1 m.vars code k=(m.vars.getD k vr0).lo+(code / Bu m.vars (k+1)) % AM (m.vars.getD k vr0)):=rfl;have hq0:0<=code / Bu m.vars (k+1):=Int.ediv_nonneg hc1 (by omega);have hq1:code / Bu m.vars (k+1)<=4096:=by
    have:=Int.ediv_le_self (Bu m.vars (k+1)) hc1;omega
   have hf:wr.frozen? ⟨w2.heap.size,k,Z⟩=false:=hrow.frozen k;have hcl:wr.cell? ⟨w2.heap.size,k,Z⟩=U (.int Y 0):=by rw[hrow.cell hlt,if_neg (by omega)]
   generalize code / Bu m.vars (k+1)=cd at *;generalize m.vars.getD k vr0=x at *;obtain⟨s,lo,hi,ini⟩:=x;simp only[AM]at c0 c1 c2 c3 HQ HVa hvb;obtain⟨hv1,hv2,hv3,hv4,hv5,hv6,hv7⟩:=hvb;have hsp:=fun w=>G6 s lo hi ini w hv3 hv4 hv5
   obtain⟨sp,hspe⟩:∃sp,hi-lo+1=sp:=⟨_,rfl⟩;rw[hspe]at hv1 hv2 hsp HQ HVa;clear hspe hat;have hr0:=Int.emod_nonneg cd (show sp≠0 by omega);have hr1:=Int.emod_lt_of_pos cd (show 0<sp by omega);have hi0:(0:Int)<=(k:Int):=Int.natCast_nonneg _;have hi1:(k:Int)<(n:Int):=by omega
   have hsz0:¬sp=0:=by omega
   have hsz1:(sp == 0)=false:=by rw[beq_eq_false_iff_ne];omega
   have ht:cd.tmod sp=cd % sp:=Int.tmod_eq_emod_of_nonneg hq0;have htd:cd.tdiv sp=cd / sp:=Int.tdiv_eq_ediv_of_nonneg hq0;have hd0:=Int.ediv_nonneg hq0 (show 0<=sp by omega);have hd1:=Int.ediv_le_self sp hq0;have hw0:IntKind.i64.wrap (cd % sp)=cd % sp:=FH (by omega) (by omega);have hw1:IntKind.i64.wrap (lo+cd % sp)=lo+cd % sp:=FH (by omega) (by omega);have hbA:=hbel.alloc (Nat.le_of_lt hszr) (ZY #[.string s,.int Y lo,.int Y hi,.int Y ini] 90);have HBA:=(show ZZ _ from hbA);have hfA:=hrow.alloc (ZY #[.string s,.int Y lo,.int Y hi,.int Y ini] 90);have HRA:=(show ZZ _ from hfA);have hS0:∀w',I (wr.heap.size+1) (wr.alloc (ZY #[.string s,.int Y lo,.int Y hi,.int Y ini] 90)) w'->w'.cell? ⟨wr.heap.size,0,Z⟩=U (.string s)/\w'.cell? ⟨wr.heap.size,1,Z⟩=U (.int Y lo)/\w'.cell? ⟨wr.heap.size,2,Z⟩=U (.int Y hi)/\w'.cell? ⟨wr.heap.size,3,Z⟩=U (.int Y ini):=fun w' hw'=>
    ⟨(hw'.cell (p:=⟨wr.heap.size,0,Z⟩) (by simp)).trans (by simp[go_sem]),(hw'.cell (p:=⟨wr.heap.size,1,Z⟩) (by simp)).trans (by simp[go_sem]),(hw'.cell (p:=⟨wr.heap.size,2,Z⟩) (by simp)).trans (by simp[go_sem]),(hw'.cell (p:=⟨wr.heap.size,3,Z⟩) (by simp)).trans (by simp[go_sem])⟩
   have hne:∀j:Nat,(⟨wr.heap.size,j,Z⟩:Addr)≠⟨w2.heap.size,k,Z⟩:=fun j h=>by injection h with h1;omega
   have hS1:∀w' v,I (wr.heap.size+1) (wr.alloc (ZY #[.string s,.int Y lo,.int Y hi,.int Y ini] 90)) w'->(w'.setCell ⟨w2.heap.size,k,Z⟩ v).cell? ⟨wr.heap.size,0,Z⟩=U (.string s)/\(w'.setCell ⟨w2.heap.size,k,Z⟩ v).cell? ⟨wr.heap.size,1,Z⟩=U (.int Y lo)/\(w'.setCell ⟨w2.heap.size,k,Z⟩ v).cell? ⟨wr.heap.size,2,Z⟩=U (.int Y hi)/\(w'.setCell ⟨w2.heap.size,k,Z⟩ v).cell? ⟨wr.heap.size,3,Z⟩=U (.int Y ini):=fun w' v hw'=>by
    obtain⟨a0,a1,a2,a3⟩:=hS0 w' hw';exact⟨(World.cell?_setCell_other _ _ _ _ (hne 0).symm).trans a0,(World.cell?_setCell_other _ _ _ _ (hne 1).symm).trans a1,(World.cell?_setCell_other _ _ _ _ (hne 2).symm).trans a2,(World.cell?_setCell_other _ _ _ _ (hne 3).symm).trans a3⟩
   have hB0:I (wr.heap.size+1) (wr.alloc (ZY #[.string s,.int Y lo,.int Y hi,.int Y ini] 90)) (wr.alloc (ZY #[.string s,.int Y lo,.int Y hi,.int Y ini] 90)).drew:=(Below.refl _ _).drew;have hrw:=fun w' (hw':I (wr.heap.size+1) (wr.alloc (ZY #[.string s,.int Y lo,.int Y hi,.int Y ini] 90)) w')=>hfA.of_block (hw'.block w2.heap.size (by omega));have hcf3:∀w',I (wr.heap.size+1) (wr.alloc (ZY #[.string s,.int Y lo,.int Y hi,.int Y ini] 90)) w'->w'.frozen? ⟨w2.heap.size,k,Z⟩=ZS/\w'.cell? ⟨w2.heap.size,k,Z⟩=U (.int Y 0):=fun w' hw'=>⟨(hrw w' hw').frozen k,by rw[(hrw w' hw').cell hlt,if_neg (by omega)]⟩;have HRw:=(show ZZ _ from hrw);clear hfA hbA hrw hbel hrow hbw;go_wp2_with fail
   go_region_held3 (fun w'=>w'.cell? ⟨wr.heap.size,0,Z⟩=U (.string s)/\w'.cell? ⟨wr.heap.size,1,Z⟩=U (.int Y lo)/\w'.cell? ⟨wr.heap.size,2,Z⟩=U (.int Y hi)/\w'.cell? ⟨wr.heap.size,3,Z⟩=U (.int Y ini))
    (first|exact hS0 _ hB0|exact hS0 _ (hB0.trans (hb3.mono (by simp)))|exact hS1 _ _ (hB0.trans (hb3.mono (by simp))))
    (first|(go_at_call 83;refine(hsp _).mono ?_;rintro e w3 ⟨rfl,hb3⟩;obtain⟨hf3,hc3⟩:=hcf3 _ (hB0.trans (hb3.mono (by simp)))))
   have hB3:=hB0.trans (hb3.mono (by simp));obtain⟨e0,e1,e2,e3⟩:=hS1 w3 (.int Y (lo+cd % sp)) hB3;have hs3:wr.heap.size<w3.heap.size:=by have:=hb3.size;simp at this;omega
   have hrow4:∀w4,I w3.heap.size (w3.setCell ⟨w2.heap.size,k,Z⟩ (.int Y (lo+cd % sp))) w4->w4.rowIs w2.heap.size 3 n (fun j=>if k<=j then .int Y (F1 m.vars code j)else .int Y 0)/\I w2.heap.size w2 w4:=fun w4 h4=>by
    refine⟨(((HRw.out w3 hB3).set k (.int Y (lo+cd % sp))).of_block (h4.block w2.heap.size (by omega))).congr fun j hj=>?_,?_⟩
    .by_cases hjk:j=k
     .subst hjk;rw[if_pos rfl,if_pos (Nat.le_refl _),HVa.out]
     .rw[if_neg hjk];by_cases hkj:k+1<=j
      .rw[if_pos hkj,if_pos (by omega)]
      .rw[if_neg hkj,if_neg (by omega)]
    .exact ((HBA.out.trans (hB3.mono (by omega))).setCell (by simp) _).trans (h4.mono (by omega))
   have HR4:=(show ZZ _ from hrow4);clear hrow4 hf hcl hf3 hc3 hcf3 hS0 hS1;go_wp2_with (go_at_call 83;refine(hsp _).mono ?_;rintro e w4 ⟨rfl,hb4⟩)
   have hb4':I w3.heap.size (w3.setCell ⟨w2.heap.size,k,Z⟩ (.int Y (lo+cd % sp))) w4:=hb4.mono (by simp);go_roundw
   case rel=>exact⟨k,by omega,by first|rfl|go_num,by rw[<-HQ.out],(HR4.out _ hb4').1,(HR4.out _ hb4').2⟩
   case measure=>simp[intOf]
  .have hk0:k=0:=by omega
   subst hk0;go_wp2;go_ret2;exact⟨w2.heap.size,rfl,HB2.out.size,hbw,hrow.congr (fun i hi=>by rw[if_pos (by omega)])⟩
theorem SI(va vr:E)(m:Mo)(code:Int)(w:O)(hB:0<w.heap.size)(hT:AH w)(hV:Av w va vr m)(h:mcode m≠0) :
  ZX Tryz.prog 57 #[ZT #[va,vr],.int Y code] w fun e w'=>e=M (ZV #[X Z 0 0,.int Y (mcode m)])/\I w.heap.size w w':=by
 have hA:∀o,I w.heap.size w (w.alloc o):=fun o=>(Below.refl _ _).alloc (Nat.le_refl _) o;have hch:=fun o=>C5 va vr m (w.alloc o) (Nat.lt_of_lt_of_le hB (hA o).size) (hT.below (hA o) hB) (hV.below (hA o));obtain⟨ao,cap,rfl⟩:=hV.1.shape;obtain⟨ro,rc,rfl⟩:=hV.2.shape;generalize mcode m=x at *;generalize m.vars.length=n at *;generalize m.rules.length=rn at *;clear hV hT
 go_enter Tryz.func57,Tryz.ntmps57;go_wp2_with (go_at_call 55;refine(hch _).mono ?_;rintro e w1 ⟨rfl,hb1⟩)
 go_ret2;exact⟨rfl,(hA _).trans (hb1.mono (hA _).size)⟩
theorem SJ(va vr:E)(m:Mo)(code:Int)(w:O)(hB:0<w.heap.size)(hT:AH w)(hV:Av w va vr m)(h:mcode m=0)(hc:¬(0<=code/\code<AK m.vars m.vars.length)) :
  ZX Tryz.prog 57 #[ZT #[va,vr],.int Y code] w fun e w'=>e=M (ZV #[X Z 0 0,.int Y 9])/\I w.heap.size w w':=by
 have hA:∀o,I w.heap.size w (w.alloc o):=fun o=>(Below.refl _ _).alloc (Nat.le_refl _) o;have hch:=fun o=>C5 va vr m (w.alloc o) (Nat.lt_of_lt_of_le hB (hA o).size) (hT.below (hA o) hB) (hV.below (hA o));rw[h]at hch;have hok:=Cu h;have hcf:=(fun w1 (hb:I w.heap.size w w1)=>Kp va m.vars w1 hok (hV.1.below hb));obtain⟨ao,cap,rfl⟩:=hV.1.shape;obtain⟨ro,rc,rfl⟩:=hV.2.shape;have hN:=hok.prod (j:=m.vars.length) (Nat.le_refl _);generalize AK m.vars m.vars.length=N at *;generalize m.vars.length=n at *;generalize m.rules.length=rn at *;clear hV hT hok h
 by_cases h0:code<0
 .clear hc;go_enter Tryz.func57,Tryz.ntmps57;go_wp2_with (go_at_call 55;refine(hch _).mono ?_;rintro e w1 ⟨rfl,hb1⟩)
  go_ret2;exact⟨rfl,(hA _).trans (hb1.mono (hA _).size)⟩
 .have h1:N<=code:=by omega
  clear hc;go_enter Tryz.func57,Tryz.ntmps57;go_wp2_with (first|(go_at_call 55;refine(hch _).mono ?_;rintro e w1 ⟨rfl,hb1⟩;have hcb:w1.cell? ⟨w.heap.size,0,Z⟩=U (X ao n cap):=(hb1.cell (p:=⟨w.heap.size,0,Z⟩) (by simp)).trans (by simp[go_sem]);have hbw:=(hA _).trans (hb1.mono (hA _).size))|(go_at_call 84;refine(hcf _ hbw).mono ?_;rintro e w2 ⟨rfl,hb2⟩))
  go_ret2;exact⟨rfl,hbw.trans (hb2.mono hbw.size)⟩
theorem Lx(va vr:E)(m:Mo)(code:Int)(w:O)(hB:0<w.heap.size)(hT:AH w)(hV:Av w va vr m) :
  ZX Tryz.prog 57 #[ZT #[va,vr],.int Y code] w fun e w'=>∃v,e=M (ZV #[v,.int Y (Ao m code)])/\I w.heap.size w w'/\IntsV w' v (FI m code):=by
 by_cases h:mcode m=0
 .by_cases hc:0<=code/\code<AK m.vars m.vars.length
  .have h0:=D7 h hc;unfold FI;rw[h0,if_pos rfl];exact(Ly va vr m code w hB hT hV h hc).mono fun e w' ⟨B,he,_,hb,hr⟩=>⟨_,he,hb,Gd hr⟩
  .have h0:=Na h hc;unfold FI;rw[h0,if_neg (by decide)];exact(SJ va vr m code w hB hT hV h hc).mono fun e w' ⟨he,hb⟩=>⟨_,he,hb,Z,0,rfl,fun h=>absurd rfl h⟩
 .have h0:=Vk (code:=code) h;unfold FI;rw[h0,if_neg h];exact(SI va vr m code w hB hT hV h).mono fun e w' ⟨he,hb⟩=>⟨_,he,hb,Z,0,rfl,fun h=>absurd rfl h⟩
theorem LM(l:List Vr):(Bd l).length=l.length:=by simp[Bd]
theorem Qy{l:List Vr}{i:Nat}(h:i<l.length):(Bd l).getD i 0=(l.getD i vr0).ini:=by
 simp[Bd,List.getD_eq_getElem?_getD,h]
theorem R7(va vr:E)(m:Mo)(w:O)(hB:0<w.heap.size)(hT:AH w)(hV:Av w va vr m)(h:mcode m=0) :
  ZX Tryz.prog 30 #[ZT #[va,vr]] w fun e w'=>e=M (ZV #[ZU Y (Bk m.vars (Bd m.vars) m.vars.length),.int Y 0])/\I w.heap.size w w':=by
 have hA:∀o,I w.heap.size w (w.alloc o):=fun o=>(Below.refl _ _).alloc (Nat.le_refl _) o;have hch:=fun o=>C5 va vr m (w.alloc o) (Nat.lt_of_lt_of_le hB (hA o).size) (hT.below (hA o) hB) (hV.below (hA o));rw[h]at hch;have hok:=Cu h;have h6:=hok.1;have hcf:=(fun vv w1 (hb:I w.heap.size w w1) (hI:IntsV w1 vv (Bd m.vars))=>Km va vv m.vars (Bd m.vars) w1 hok (LM _) (LN hok) (hV.1.below hb) hI);obtain⟨ao,cap,rfl⟩:=hV.1.shape;obtain⟨ro,rc,rfl⟩:=hV.2.shape;have HCF:=(show ZZ _ from hcf);have HV:ZZ (VarsV w (.slice ao m.vars.length cap) m.vars):=hV.1;have HIn:ZZ (∀i,i<m.vars.length->(Bd m.vars).getD i 0=(m.vars.getD i vr0).ini):=fun i hi=>Qy hi;have HLn:ZZ ((Bd m.vars).length=m.vars.length):=LM _;generalize Bk m.vars (Bd m.vars) m.vars.length=res at *;obtain⟨n,hn⟩:∃n,n=m.vars.length:=⟨_,rfl⟩
 have HN:ZZ (n=m.vars.length):=hn;rw[<-hn]at h6 hch HCF HV HIn HLn⊢;generalize m.rules.length=rn at *;have hmk:=run_make_row' (P:=Tryz.prog) 43 3 (.int Y 0) 8 Tryz.underlying43 Ba rfl .i64 .i64 n (by omega) (by omega)
 clear hV hT hn hok h hcf;go_enter Tryz.func30,Tryz.ntmps30;go_wp2_with (go_at_call 55;refine(hch _).mono ?_;rintro e w1 ⟨rfl,hb1⟩;have hcb:w1.cell? ⟨w.heap.size,0,Z⟩=U (X ao n cap):=(hb1.cell (p:=⟨w.heap.size,0,Z⟩) (by simp)).trans (by simp[go_sem]);have hs1:w.heap.size<w1.heap.size:=(by have:=hb1.size;simp at this;omega);have hcbA:∀o,(w1.alloc o).cell? ⟨w.heap.size,0,Z⟩=U (X ao n cap):=(fun o=>(((Below.refl w1.heap.size w1).alloc (Nat.le_refl _) o).cell (p:=⟨w.heap.size,0,Z⟩) hs1).trans hcb))
 have hbw:=(hA _).trans (hb1.mono (hA _).size);have hrow0:=World.rowIs_made w1 (.int Y 0) n 3;have HB1:ZZ (I w.heap.size w w1):=hbw;clear hch hmk hb1 hbw hcbA;go_loopw [20] (fun i wr=>∃k:Nat,k<=n/\i=.int Y k/\ZZ (wr.rowIs w1.heap.size 3 n (fun j=>if j<k then .int Y ((Bd m.vars).getD j 0)else .int Y 0))/\ZZ (I w1.heap.size w1 wr)) (fun i _=>n-(intOf i).toNat)
 case atStart=>exact⟨0,Nat.zero_le _,rfl,hrow0.congr (fun i hi=>by rw[if_neg (by omega)]),(Below.refl _ _).alloc (Nat.le_refl _) _⟩
 case round=>
  obtain⟨k,hk,rfl,HRow,HBel⟩:=hrel;have hbel:=HBel.out;have hrow:=HRow.out;have hbw:=HB1.out.trans (hbel.mono HB1.out.size);have hszr:=hrow.lt;have cb:=(hbel.cell (p:=⟨w.heap.size,0,Z⟩) hs1).trans hcb;by_cases hlt:k<n
  .obtain ⟨b,off,rfl,hblt,hat⟩:=HV.out.at (i:=k) (by rw[<-HN.out];exact hlt);obtain⟨c0,c1,c2,c3⟩:=hat.below hbw hblt;have HIk:=(show ZZ _ from HIn.out k hlt);have hA2:=fun o=>hrow.alloc o;have hf:∀o,(wr.alloc o).frozen? ⟨w1.heap.size,k,Z⟩=false:=fun o=>(hA2 o).frozen k;have hcl:∀o,(wr.alloc o).cell? ⟨w1.heap.size,k,Z⟩=U (.int Y 0):=fun o=>by rw[(hA2 o).cell hlt,if_neg (by omega)]
   generalize m.vars.getD k vr0=x at *;obtain⟨s,lo,hi,ini⟩:=x;simp only at c0 c1 c2 c3 HIk
   have hfin:(((wr.setCell ⟨w1.heap.size,k,Z⟩ (.int Y ini)).alloc (ZY #[.string s,.int Y lo,.int Y hi,.int Y ini] 90)).rowIs w1.heap.size 3 n (fun j=>if j<k+1 then .int Y ((Bd m.vars).getD j 0)else .int Y 0)):=((hrow.set k (.int Y ini)).alloc _).congr fun j hj=>by
    by_cases hjk:j=k
    .subst hjk;rw[if_pos rfl,if_pos (by omega),HIk.out]
    .rw[if_neg hjk];by_cases hlk:j<k
     .rw[if_pos hlk,if_pos (by omega)]
     .rw[if_neg hlk,if_neg (by omega)]
   have hbA:=(hbel.setCell (p:=⟨w1.heap.size,k,Z⟩) (Nat.le_refl _) (.int Y ini)).alloc (by simp;omega) (ZY #[.string s,.int Y lo,.int Y hi,.int Y ini] 90);have HF:=(show ZZ _ from hfin);have HBA:=(show ZZ _ from hbA);have hfs:=hf (ZY #[.string s,.int Y lo,.int Y hi,.int Y ini] 90);have hcs:=hcl (ZY #[.string s,.int Y lo,.int Y hi,.int Y ini] 90);clear hat hA2 hf hcl hfin hbA hrow hbel hrow0;go_wp2_with fail
   go_roundw
   case rel=>exact⟨k+1,hlt,by go_num,HF.out,HBA.out⟩
   case measure=>simp[intOf];omega
  .have hkn:k=n:=by omega
   subst hkn;have hI:IntsV wr (X (U ⟨w1.heap.size,0,Z⟩) k k) (Bd m.vars):=by
    have:=Gd (hrow.congr (g:=fun j=>.int Y ((Bd m.vars).getD j 0)) (fun i hi=>by rw[if_pos hi]));have e:(List.range k).map (fun j=>(Bd m.vars).getD j 0)=Bd m.vars:=by
     apply List.ext_getElem?
     intro i;by_cases hi:i<k
     .simp[hi,List.getD_eq_getElem?_getD,show i<(Bd m.vars).length by rw[HLn.out];exact hi]
     .simp[hi,show¬i<(Bd m.vars).length by rw[HLn.out];exact hi]
    rwa[e]at this
   have hcf:=HCF.out _ wr hbw hI;clear hI hrow HCF HRow hrow0;go_wp2_with (go_at_call 56;refine hcf.mono ?_;rintro e w2 ⟨rfl,hb2⟩)
   go_ret2;exact⟨rfl,hbw.trans (hb2.mono hbw.size)⟩
theorem R6(va vr:E)(m:Mo)(w:O)(hB:0<w.heap.size)(hT:AH w)(hV:Av w va vr m)(h:mcode m≠0) :
  ZX Tryz.prog 30 #[ZT #[va,vr]] w fun e w'=>e=M (ZV #[ZU Y 0,.int Y (mcode m)])/\I w.heap.size w w':=by
 have hA:∀o,I w.heap.size w (w.alloc o):=fun o=>(Below.refl _ _).alloc (Nat.le_refl _) o;have hch:=fun o=>C5 va vr m (w.alloc o) (Nat.lt_of_lt_of_le hB (hA o).size) (hT.below (hA o) hB) (hV.below (hA o));obtain⟨ao,cap,rfl⟩:=hV.1.shape;obtain⟨ro,rc,rfl⟩:=hV.2.shape;generalize mcode m=x at *;generalize m.vars.length=n at *;generalize m.rules.length=rn at *;clear hV hT
 go_enter Tryz.func30,Tryz.ntmps30;go_wp2_with (go_at_call 55;refine(hch _).mono ?_;rintro e w1 ⟨rfl,hb1⟩)
 go_ret2;exact⟨rfl,(hA _).trans (hb1.mono (hA _).size)⟩
theorem R5(va vr:E)(m:Mo)(w:O)(hB:0<w.heap.size)(hT:AH w)(hV:Av w va vr m) :
  ZX Tryz.prog 30 #[ZT #[va,vr]] w fun e w'=>e=M (ZV #[ZU Y (if mcode m=0 then Bk m.vars (Bd m.vars) m.vars.length else 0),.int Y (mcode m)])/\I w.heap.size w w':=by
 by_cases h:mcode m=0
 .rw[if_pos h,h];exact R7 va vr m w hB hT hV h
 .rw[if_neg h];exact R6 va vr m w hB hT hV h
structure GV(a b:Vr):Prop where
 na:a.name=bX
 nb:b.name=bY
 a0:-1<=a.lo
 a1:a.lo<=1
 a2:a.lo<=a.hi
 a3:a.hi<=a.lo+3
 a4:a.lo<=a.ini
 a5:a.ini<=a.hi
 b0:-1<=b.lo
 b1:b.lo<=1
 b2:b.lo<=b.hi
 b3:b.hi<=b.lo+3
 b4:b.lo<=b.ini
 b5:b.ini<=b.hi
theorem Qj(sp0 sp1 lw0 lw1 iv0 iv1:Int):∃a b,E0 sp0 sp1 lw0 lw1 iv0 iv1=[a,b]/\GV a b:=by
 obtain⟨p0,p1,p2,p3,p4,p5⟩:=LI bX sp0 lw0 iv0;obtain⟨q0,q1,q2,q3,q4,q5⟩:=LI bY sp1 lw1 iv1;exact⟨_,_,rfl,⟨rfl,rfl,p0,p1,p2,p3,p4,p5,q0,q1,q2,q3,q4,q5⟩⟩
theorem GV.sa{a b:Vr}(h:GV a b):1<=AM a/\AM a<=4:=by
 have:=h.a2;have:=h.a3;unfold AM;omega
theorem GV.sb{a b:Vr}(h:GV a b):1<=AM b/\AM b<=4:=by
 have:=h.b2;have:=h.b3;unfold AM;omega
theorem GV.prod{a b:Vr}(h:GV a b):1<=AM a*AM b/\AM a*AM b<=16:=by
 have h1:=h.sa;have h2:=h.sb;have h3:=Int.mul_le_mul h1.1 h2.1 (by omega) (by omega);have h4:=Int.mul_le_mul h1.2 h2.2 (by omega) (by omega);omega
theorem R4{a b:Vr}(h:GV a b)(l:List Vr):Cj (a::b::l) 1 b.name=false:=by
 show(decide (a.name=b.name)||false)=ZS;rw[h.na,h.nb];simp[bXY]
theorem GV.vAt{a b:Vr}(h:GV a b)(l:List Vr):vAt (a::b::l) 0=0/\vAt (a::b::l) 1=0:=by
 have h1:=h.sa;have h2:=h.sb;obtain⟨na,nb,p0,p1,p2,p3,p4,p5,q0,q1,q2,q3,q4,q5⟩:=h;have v0:CH a=true:=by simp only[CH,decide_eq_true_eq];omega
 have v1:CH b=true:=by simp only[CH,decide_eq_true_eq];omega
 refine⟨(Jr (l:=a::b::l) (k:=0) rfl rfl).2.2.2.2 (by rw[show((a::b::l).getD 0 vr0).name=bX from na];exact SO) rfl v0 ?_,(Jr (l:=a::b::l) (k:=1) rfl rfl).2.2.2.2 (by rw[show((a::b::l).getD 1 vr0).name=bY from nb];exact SP) (R4 ⟨na,nb,p0,p1,p2,p3,p4,p5,q0,q1,q2,q3,q4,q5⟩ l) v1 ?_⟩
 .show¬(64<AM a\/4096<1*AM a);omega
 .show¬(64<AM b\/4096<(1*AM a)*AM b);rw[Int.one_mul];have:=Int.mul_le_mul h1.2 h2.2 (by omega) (by omega);omega
theorem GV.vcode{a b:Vr}(h:GV a b):vcode [a,b]=0:=by
 unfold Go.Proofs.YtehfhemidmfffaaGreatDoor.vcode;rw[if_neg (by simp)];refine DQ fun j hj=>?_;have hj2:j=0\/j=1:=by simp at hj;omega
 rcases hj2 with rfl|rfl
 .exact (h.vAt []).1
 .exact (h.vAt []).2
theorem GV.mcode{a b:Vr}(h:GV a b){rules:List Ru}(h5:rules.length<=12)(hr:∀j,j<rules.length->BE 2 (rules.getD j ru0)=0):mcode ⟨[a,b],rules⟩=0:=by
 unfold Go.Proofs.YtehfhemidmfffaaGreatDoor.mcode;rw[if_pos h.vcode,if_neg (show¬12<rules.length by omega)];exact DQ hr
theorem TN(a b:Vr):AK [a,b] 2=AM a*AM b:=by
 show(1*AM a)*AM b=_;rw[Int.one_mul]
section
variable{a b:Vr}{va vr:E}{w:O}
theorem GModel.shape{w:O}{va vr:E}{x y:Vr}(h:GModel w va vr [x,y]):∃ao cap ro rn rc,va=X ao 2 cap/\vr=X ro rn rc/\rn<=5:=by
 obtain⟨rules,h1,h2,h3⟩:=h;obtain⟨ao,cap,e1⟩:=h1.1.shape;obtain⟨ro,rc,e2⟩:=h1.2.shape;exact⟨ao,cap,ro,_,rc,e1,e2,h2⟩
end
theorem PlansV.below{w w':O}{v:E}{l:List Pl}(h:PlansV w v l)(hb:I w.heap.size w w'):PlansV w' v l:=SlV.imp h hb.size fun b _ _ hlt _ ⟨⟨u,h1,h2⟩,h3,h4,⟨u',h5,h6⟩,h7⟩=>
 ⟨⟨u,(hb.cell (p:=⟨b,_,Z⟩) hlt).trans h1,h2.mv hb⟩,(hb.cell (p:=⟨b,_,Z⟩) hlt).trans h3,h4,⟨u',(hb.cell (p:=⟨b,_,Z⟩) hlt).trans h5,h6.mv hb⟩,(hb.cell (p:=⟨b,_,Z⟩) hlt).trans h7⟩
theorem PN{w:O}{v:E}{vars:List Vr}(h:KA w v vars):∃c0 c1 c2 c3 c4 c5 c6 a b rules,v=ZT #[c0,c1,c2,c3,c4,c5,c6]/\GV a b/\
  ∀w',I w.heap.size w w'->ZX Tryz.prog 13 #[ZT #[c0,c1,c2,c3,c4,c5,c6]] w' fun e w2=>∃va vr,e=M (ZT #[va,vr])/\I w'.heap.size w' w2/\Ek w2 va vr [a,b] rules:=by
 obtain⟨sp0,sp1,lw0,lw1,iv0,iv1,pv,ps,rfl,hI,hP,rfl⟩:=h;obtain⟨a,b,he,hG⟩:=Qj sp0 sp1 lw0 lw1 iv0 iv1;refine⟨_,_,_,_,_,_,_,a,b,(ps.take 5).map C3,rfl,hG,fun w' hb=>?_⟩;rw[<-he];exact SC sp0 sp1 lw0 lw1 iv0 iv1 pv ps w' hI (hP.below hb)
open Terms
def DE:Value:=X Z 0 0
theorem Ey{α:Type}(a b:List α)(d:α)(i:Nat):(a++b).getD i d=if i<a.length then a.getD i d else b.getD (i-a.length) d:=by
 by_cases h:i<a.length
 .rw[if_pos h];simp[List.getD_eq_getElem?_getD,List.getElem?_append_left h]
 .rw[if_neg h];simp[List.getD_eq_getElem?_getD,List.getElem?_append_right (Nat.le_of_not_lt h)]
def zL(a b:Nat)(k:Nat):Int:=if k=0 then 0 else if k=1 then(a:Int)else(a:Int)+(b:Int)
namespace Go.Proofs.YtehfhemidmfffaaGreatDoor.Terms
namespace Tm
set_option maxHeartbeats 6400000
set_option maxRecDepth 20000
def ho(σ:Nat->Nat->Bool):Tm->Nat->Prop
 |leaf k v=>fun i=>if k=13 then σ i v.toNat=true else k=11
 |un k _ a=>fun i=>if k=10 then¬ho σ a i else if k=14 then ho σ a (i+1)else if k=17 then∃j,i<=j/\ho σ a j else∀j,i<=j->ho σ a j
 |bi k _ a b=>fun i=>if k=8 then ho σ a i/\ho σ b i else if k=9 then ho σ a i\/ho σ b i else if k=15 then∃j,i<=j/\ho σ b j/\∀m,i<=m->m<j->ho σ a m else∀j,i<=j->ho σ b j\/∃m,i<=m/\m<j/\ho σ a m
open Classical in
noncomputable def hb(σ:Nat->Nat->Bool)(t:Tm)(i:Nat):Bool:=decide (ho σ t i)
end Tm
namespace Tm
end Tm
end Go.Proofs.YtehfhemidmfffaaGreatDoor.Terms
namespace Go.Proofs.YtehfhemidmfffaaGreatDoor.Terms
namespace Tm
set_option maxHeartbeats 6400000
set_option maxRecDepth 20000
end Tm
end Go.Proofs.YtehfhemidmfffaaGreatDoor.Terms
def Af(k:Int):Bool:=decide (14<=k/\k<=18)
def Ay(props:Int)(o:Int×Int):Int:=if o.1<8 then 13 else if o.2<0\/(if o.1=13 then props-1 else 0)<o.2 then 2 else 0
def CD(props:Int):List (Int×Int)->Int
 |[]=>0
 |o::r=>if Ay props o≠0 then Ay props o else CD props r
theorem RY{props:Int}:∀{l:List (Int×Int)} {i:Nat},i<l.length->(∀j,j<i->Ay props (l.getD j (0,0))=0)->Ay props (l.getD i (0,0))≠0->CD props l=Ay props (l.getD i (0,0)):=by
 intro l;induction l with
 |nil=>intro i hi;simp at hi
 |cons o r ih=>
  intro i hi hj hne;cases i with
  |zero=>simp only[List.getD_cons_zero]at hne⊢;simp[CD,hne]
  |succ i=>
   have h0:=hj 0 (by omega);simp only[List.getD_cons_zero]at h0;simp only[List.getD_cons_succ]at hne⊢;simp only[CD,h0,ne_eq,not_true_eq_false,if_false];exact ih (by simpa using hi) (fun j hjj=>by simpa using hj (j+1) (by omega)) hne
theorem Lh{props:Int}:∀{l:List (Int×Int)},(∀j,j<l.length->Ay props (l.getD j (0,0))=0)->CD props l=0:=by
 intro l;induction l with
 |nil=>intro _;rfl
 |cons o r ih=>
  intro hj;have h0:=hj 0 (by simp);simp only[List.getD_cons_zero]at h0;simp only[CD,h0,ne_eq,not_true_eq_false,if_false];exact ih (fun j hjj=>by simpa using hj (j+1) (by simpa using hjj))
theorem RW{props:Int}:∀{l:List (Int×Int)},CD props l=0->∀j,j<l.length->Ay props (l.getD j (0,0))=0:=by
 intro l;induction l with
 |nil=>intro _ j hj;simp at hj
 |cons o r ih=>
  intro h j hj;simp only[CD]at h;split at h
  .rename_i h1;exact absurd h h1
  .rename_i h1;cases j with
   |zero=>simpa using h1
   |succ j=>simpa using ih h j (by simpa using hj)
def AN(l:List (Int×Int)):Nat->List Int
 |0=>[]
 |n+1=>AN l n++if Af (l.getD n (0,0)).1=true then [(n:Int)]else []
theorem GA{l:List (Int×Int)}{n:Nat}(h:Af (l.getD n (0,0)).1=true):AN l (n+1)=AN l n++[(n:Int)]:=by simp only[AN];rw[if_pos h]
theorem KN{l:List (Int×Int)}{n:Nat}(h:Af (l.getD n (0,0)).1=ZS):AN l (n+1)=AN l n:=by simp only[AN];rw[if_neg (by rw[h];decide)];simp
theorem N5(l:List (Int×Int)):∀n,(AN l n).length<=n:=by
 intro n;induction n with
 |zero=>simp[AN]
 |succ n ih=>simp only[AN,List.length_append];split<;>simp<;>omega
def AA(l:List (Int×Int)):List Int:=AN l l.length
def Aa(props:Int)(l:List (Int×Int)):Int:=
 if props<0\/6<props then 2 else if AR (l.map Prod.fst)≠0 then AR (l.map Prod.fst)else if CD props l≠0 then CD props l else if 6<(AA l).length then 1 else 0
theorem Ik{props:Int}{l:List (Int×Int)}(h:props<0\/6<props):Aa props l=2:=by unfold Aa;rw[if_pos h]
theorem Ii{props:Int}{l:List (Int×Int)}(h:¬(props<0\/6<props))(h2:AR (l.map Prod.fst)≠0):Aa props l=AR (l.map Prod.fst):=by unfold Aa;rw[if_neg h,if_pos h2]
theorem LZ{props:Int}{l:List (Int×Int)}(h:¬(props<0\/6<props))(h2:AR (l.map Prod.fst)=0)(h3:CD props l≠0):Aa props l=CD props l:=by unfold Aa;rw[if_neg h,if_neg (by simpa using h2),if_pos h3]
theorem Ij{props:Int}{l:List (Int×Int)}(h:¬(props<0\/6<props))(h2:AR (l.map Prod.fst)=0)(h3:CD props l=0):Aa props l=if 6<(AA l).length then 1 else 0:=by unfold Aa;rw[if_neg h,if_neg (by simpa using h2),if_neg (by simpa using h3)]
theorem CC{props:Int}{l:List (Int×Int)}(h:Aa props l=0):0<=props/\props<=6/\AR (l.map Prod.fst)=0/\CD props l=0/\(AA l).length<=6:=by
 by_cases hr:props<0\/6<props
 .rw[Ik hr]at h;omega
 .by_cases hz:AR (l.map Prod.fst)=0
  .by_cases hf:CD props l=0
   .rw[Ij hr hz hf]at h;split at h
    .omega
    .exact ⟨by omega,by omega,hz,hf,by omega⟩
   .rw[LZ hr hz hf]at h;exact absurd h hf
  .rw[Ii hr hz]at h;exact absurd h hz
theorem Dn{ks:List Int}(h:AR ks=0):ks≠[]/\ks.length<=60:=by
 obtain⟨h1,h2⟩:=FW h;refine⟨?_,h1⟩;rintro rfl;simp[cnt]at h2
def sec(l:List (Int×Int))(p:Nat):Nat:=Am (l.map Prod.fst) (p+1)
def EI(claim:Int)(i:Nat):Bool:=decide (claim / 2^i % 2=1)
def mkB(o:Int×Int)(letter:List Bool)(a b:Bool):Bool:=
 if o.1=13 then letter.getD o.2.toNat ZS else if o.1=11 then true else if o.1=10 then !a else if o.1=8 then a&&b else if o.1=9 then a||b else ZS
def CQ(l:List (Int×Int))(letter:List Bool)(claim:Int):Nat->Nat->Bool
 |0,_=>ZS
 |f+1,p=>if Af (l.getD p (0,0)).1=true then EI claim (AN l p).length else mkB (l.getD p (0,0)) letter (CQ l letter claim f (p+1)) (CQ l letter claim f (max (sec l p) (p+1)))
def tru(l:List (Int×Int))(letter:List Bool)(claim:Int)(p:Nat):Bool:=CQ l letter claim (l.length-p) p
theorem VT(l:List (Int×Int))(letter:List Bool)(claim:Int):∀f g p,l.length<=f+p->l.length<=g+p->p<l.length->CQ l letter claim f p=CQ l letter claim g p:=by
 intro f;induction f with
 |zero=>intro g p h _ hp;omega
 |succ f ih=>
  intro g p h1 h2 hp;cases g with
  |zero=>omega
  |succ g=>
   simp only[CQ];have aux:∀q,p<q->CQ l letter claim f q=CQ l letter claim g q:=by
    intro q hq;by_cases hql:q<l.length
    .exact ih g q (by omega) (by omega) hql
    .have z:∀f q,l.length<=q->CQ l letter claim f q=false:=by
      intro f;induction f with
      |zero=>intro q _;rfl
      |succ f ihf=>
       intro q hq;simp only[CQ];rw[show l.getD q (0,0)=(0,0) by simp[List.getD_eq_getElem?_getD,hq]];simp[Af,mkB]
     rw[z f q (by omega),z g q (by omega)]
   rw[aux (p+1) (by omega),aux (max (sec l p) (p+1)) (by omega)]
theorem VU{l:List (Int×Int)}{letter:List Bool}{claim:Int}{p:Nat}(hp:p<l.length)(h:Af (l.getD p (0,0)).1=true):tru l letter claim p=EI claim (AN l p).length:=by
 unfold tru;obtain⟨f,hf⟩:∃f,l.length-p=f+1:=⟨l.length-p-1,by omega⟩;rw[hf];simp only[CQ];rw[if_pos h]
theorem VV{l:List (Int×Int)}{letter:List Bool}{claim:Int}{p:Nat}(hp:p<l.length)(h:Af (l.getD p (0,0)).1=ZS)(hs:pn (l.getD p (0,0)).1=2->p+1<sec l p):tru l letter claim p=mkB (l.getD p (0,0)) letter (tru l letter claim (p+1)) (tru l letter claim (sec l p)):=by
 unfold tru;obtain⟨f,hf⟩:∃f,l.length-p=f+1:=⟨l.length-p-1,by omega⟩;rw[hf];have z:∀f q,l.length<=q->CQ l letter claim f q=false:=by
  intro f;induction f with
  |zero=>intro q _;rfl
  |succ f ihf=>
   intro q hq;simp only[CQ];rw[show l.getD q (0,0)=(0,0) by simp[List.getD_eq_getElem?_getD,hq]];simp[Af,mkB]
 have aux:∀q,p<q->CQ l letter claim f q=CQ l letter claim (l.length-q) q:=by
  intro q hq;by_cases hql:q<l.length
  .exact VT l letter claim f _ q (by omega) (by omega) hql
  .rw[z _ q (by omega),z _ q (by omega)]
 simp only[CQ];rw[if_neg (by rw[h];decide),aux (p+1) (by omega)];by_cases h2:pn (l.getD p (0,0)).1=2
 .rw[show max (sec l p) (p+1)=sec l p by have:=hs h2;omega,aux (sec l p) (by have:=hs h2;omega)]
 .have hk:(l.getD p (0,0)).1≠8/\(l.getD p (0,0)).1≠9:=by
   constructor<;>intro e<;>rw[e]at h2<;>exact absurd rfl h2
  simp only[mkB,hk.1,hk.2,if_false]
theorem F9(l:List (Int×Int)):∀n i,i<(AN l n).length->∃p:Nat,(AN l n).getD i 0=p/\p<n/\Af (l.getD p (0,0)).1=true/\(AN l p).length=i:=by
 intro n;induction n with
 |zero=>intro i hi;simp[AN]at hi
 |succ n ih=>
  intro i hi;cases hb:Af (l.getD n (0,0)).1 with
  |false=>
   rw[KN hb]at hi⊢;obtain⟨p,h1,h2,h3,h4⟩:=ih i hi;exact⟨p,h1,by omega,h3,h4⟩
  |true=>
   rw[GA hb]at hi⊢;by_cases hl:i<(AN l n).length
   .obtain ⟨p,h1,h2,h3,h4⟩:=ih i hl;refine⟨p,?_,by omega,h3,h4⟩;rw[<-h1];simp[List.getD_eq_getElem?_getD,List.getElem?_append_left hl]
   .have hi':i=(AN l n).length:=by simp at hi;omega
    subst hi';exact⟨n,by simp[List.getD_eq_getElem?_getD],by omega,hb,rfl⟩
theorem N6 (l:List (Int × Int)) {p n:Nat} (h:p <= n):(AN l p).length <= (AN l n).length:=by
  induction n with
  | zero => obtain rfl : p = 0 := by omega
            exact Nat.le_refl _
  |succ n ih=>
    by_cases hp:p=n+1
    . subst hp;exact Nat.le_refl _
    . have:=ih (by omega)
      simp only[AN,List.length_append];omega
theorem EH(l:List (Int×Int)){p n:Nat}(h:p<n)(hb:Af (l.getD p (0,0)).1=true):(AN l p).length<(AN l n).length:=by
 have:=N6 l (p:=p+1) (n:=n) (by omega);rw[GA hb]at this;simp at this;omega
theorem Gt{l:List (Int×Int)}(hz:AR (l.map Prod.fst)=0){p:Nat}(hp:p<l.length) :
  (1<=pn (l.getD p (0,0)).1->p+1<l.length)/\(pn (l.getD p (0,0)).1=2->p+1<sec l p/\sec l p<l.length):=by
 obtain⟨_,hc⟩:=FW hz;obtain⟨ks,hks⟩:∃ks,ks=l.map Prod.fst:=⟨_,rfl⟩;have hlen:ks.length=l.length:=by rw[hks,List.length_map]
 have hget:ks.getD p 0=(l.getD p (0,0)).1:=by rw[hks];simp[List.getD_eq_getElem?_getD,hp]
 have hsec:sec l p=Am ks (p+1):=by unfold sec;rw[<-hks]
 rw[<-hks]at hc;rw[<-hget,hsec,<-hlen];obtain⟨m,hm,hm1,hml⟩:=O9 ks 1 ks.length p hc (by omega);have ha:=IJ (ks:=ks) (q:=p) (by omega);rw[hm]at ha;split at ha
 .cases hr:cnt (ks.drop (p+1)) (pn (ks.getD p 0))with
  |no e=>rw[hr]at ha;simp[R.up]at ha
  |ok m2=>
   rw[hr]at ha;simp only[R.up,R.ok.injEq]at ha;have h2:=DB _ _ _ hr;rw[List.length_drop]at h2;refine⟨fun h=>by omega,fun h=>?_⟩;rw[h,show(2:Nat)=1+1 from rfl]at hr;obtain⟨a,b,hca,hcb,hab⟩:=Kk hr;have h3:=DB _ _ _ hca;have h4:=DB _ _ _ hcb;rw[IU hca];omega
 .simp at ha

theorem Li(k:Int)(w:O) :
  ZX Tryz.prog 80 #[ZU Y k] w fun e w'=>e=M (.bool (Af k))/\w'=w:=by
 by_cases h:14<=k/\k<=18
 .have hk:k=14\/k=15\/k=16\/k=17\/k=18:=by omega
  clear h;rcases hk with rfl|rfl|rfl|rfl|rfl;all_goals
   go_enter Tryz.func80,Tryz.ntmps80;go_wp2;all_goals go_ret
   all_goals exact⟨rfl,rfl⟩
 .have hm:Af k=false:=by simp[Af];omega
  rw[hm];have e1:¬k=14:=by omega
  have e2:¬k=15:=by omega
  have e3:¬k=16:=by omega
  have e4:¬k=17:=by omega
  have e5:¬k=18:=by omega
  clear hm h;go_enter Tryz.func80,Tryz.ntmps80;go_wp2;all_goals go_ret
  all_goals exact⟨rfl,rfl⟩
theorem RT(k v props:Int)(w:O)(h0:0<=props)(h6:props<=6) :
  ZX Tryz.prog 79 #[ZT #[ZU Y k,.int Y v],.int Y props] w fun e w'=>e=M (.int Y (Ay props (k,v)))/\I w.heap.size w w':=by
 by_cases hk:k<8
 .have hx:Ay props (k,v)=13:=by simp[Ay,hk]
  rw[hx];clear hx;go_enter Tryz.func79,Tryz.ntmps79;go_wp2;all_goals go_ret
  all_goals exact⟨rfl,(Below.refl _ _).alloc (Nat.le_refl _) _⟩
 .by_cases h2:k=13
  .subst h2;by_cases hv:0<=v/\v<=props-1
   .have hx:Ay props (13,v)=0:=by simp[Ay];omega
    rw[hx];obtain⟨ha,hb⟩:=hv;clear hx;go_enter Tryz.func79,Tryz.ntmps79;go_wp2;all_goals go_ret
    all_goals exact⟨rfl,(Below.refl _ _).alloc (Nat.le_refl _) _⟩
   .have hx:Ay props (13,v)=2:=by simp[Ay];omega
    rw[hx];have hv':v<0\/props-1<v:=by omega
    clear hx hv;rcases hv' with hv|hv;all_goals
     go_enter Tryz.func79,Tryz.ntmps79;go_wp2;all_goals go_ret
     all_goals exact⟨rfl,(Below.refl _ _).alloc (Nat.le_refl _) _⟩
  .by_cases hv:v=0
   .subst hv;have hx:Ay props (k,0)=0:=by simp[Ay,h2];omega
    rw[hx];clear hx;go_enter Tryz.func79,Tryz.ntmps79;go_wp2;all_goals go_ret
    all_goals exact⟨rfl,(Below.refl _ _).alloc (Nat.le_refl _) _⟩
   .have hx:Ay props (k,v)=2:=by simp[Ay,h2];omega
    rw[hx];have hv':v<0\/0<v:=by omega
    clear hx hv;rcases hv' with hv|hv;all_goals
     go_enter Tryz.func79,Tryz.ntmps79;go_wp2;all_goals go_ret
     all_goals exact⟨rfl,(Below.refl _ _).alloc (Nat.le_refl _) _⟩
def Hr(props:Int)(v:E)(l:List (Int×Int))(w:O)(e:Ending)(w':O):Prop:=
 I w.heap.size w w'/\(Aa props l≠0->e=M (ZV #[ZT #[X Z 0 0,X Z 0 0,X Z 0 0],.int Y (Aa props l)]))/\
 (Aa props l=0->∃B av,w.heap.size<=B/\e=M (ZV #[ZT #[v,X (U ⟨B,0,Z⟩) l.length l.length,av],.int Y 0])/\w'.rowIs B 3 l.length (fun q=>.int Y (Am (l.map Prod.fst) q))/\w'.ownsRow w.heap.size 3 1 av (AA l).length (AB (AA l)))
def Bq(w:O)(b:Nat)(x y z:E):Prop:=w.cell? ⟨b,0,Z⟩=U x/\w.cell? ⟨b,1,Z⟩=U y/\w.cell? ⟨b,2,Z⟩=U z/\w.frozen? ⟨b,0,Z⟩=ZS/\w.frozen? ⟨b,1,Z⟩=ZS/\w.frozen? ⟨b,2,Z⟩=ZS/\b<w.heap.size
theorem Bq.below{w w':O}{B b:Nat}{x y z:E}(h:Bq w b x y z)(hb:I B w w')(hB:b<B):Bq w' b x y z:=
 ⟨(hb.cell (p:=⟨b,0,Z⟩) hB).trans h.1,(hb.cell (p:=⟨b,1,Z⟩) hB).trans h.2.1,(hb.cell (p:=⟨b,2,Z⟩) hB).trans h.2.2.1,(hb.frozen (p:=⟨b,0,Z⟩) hB).trans h.2.2.2.1,(hb.frozen (p:=⟨b,1,Z⟩) hB).trans h.2.2.2.2.1,(hb.frozen (p:=⟨b,2,Z⟩) hB).trans h.2.2.2.2.2.1,Nat.lt_of_lt_of_le h.2.2.2.2.2.2 hb.size⟩
theorem Bq.new(w:O)(x y z:E)(t:TypeId):Bq (w.alloc (ZY #[x,y,z] t)) w.heap.size x y z:=by
 refine⟨?_,?_,?_,?_,?_,?_,?_⟩<;>simp[go_sem]
theorem Bq.read{w:O}{b:Nat}{x y z:E}(h:Bq w b x y z)(u0 u1 u2:E):(w.setCell ⟨b,0,Z⟩ u0).cell? ⟨b,0,Z⟩=U u0/\((w.setCell ⟨b,0,Z⟩ u0).setCell ⟨b,1,Z⟩ u1).cell? ⟨b,1,Z⟩=U u1/\(((w.setCell ⟨b,0,Z⟩ u0).setCell ⟨b,1,Z⟩ u1).setCell ⟨b,2,Z⟩ u2).cell? ⟨b,2,Z⟩=U u2:=by
 obtain⟨k0,k1,k2,_⟩:=h;refine⟨World.cell?_setCell_same' _ _ _ (by rw[k0];rfl),World.cell?_setCell_same' _ _ _ ?_,World.cell?_setCell_same' _ _ _ ?_⟩
 .simp[go_sem,k1]
 .simp[go_sem,k2]
theorem Th(ao:Option Addr)(n cap:Nat)(props:Int)(w:O)(h:props<0\/6<props) :
  ZX Tryz.prog 54 #[X ao n cap,.int Y props] w fun e w'=>e=M (ZV #[ZT #[X Z 0 0,X Z 0 0,X Z 0 0],.int Y 2])/\I w.heap.size w w':=by
 rcases h with h|h;all_goals
  go_enter Tryz.func54,Tryz.ntmps54;go_wp2_with fail
  exact bodyPost_ret (v:=ZV #[ZT #[X Z 0 0,X Z 0 0,X Z 0 0],.int Y 2]) (by simp[results,Tryz.results54,go_sem]) rfl ⟨rfl,by exact(Below.refl _ _).alloc (Nat.le_refl _) _⟩
theorem Td(v:E)(ks:List Int)(props:Int)(w:O)(h0:0<=props)(h6:props<=6)(hB:0<w.heap.size)(hT:AH w)(hK:DM w v ks)(hz:AR ks≠0) :
  ZX Tryz.prog 54 #[v,.int Y props] w fun e w'=>e=M (ZV #[ZT #[X Z 0 0,X Z 0 0,X Z 0 0],.int Y (AR ks)])/\I w.heap.size w w':=by
 have hA:∀o,I w.heap.size w (w.alloc o):=fun o=>(Below.refl _ _).alloc (Nat.le_refl _) o;have hKA:∀o,DM (w.alloc o) v ks:=fun o=>hK.below (hA o);have hends:∀o,ZX Tryz.prog 78 #[v] (w.alloc o) fun e w'=>e=M (ZV #[X Z 0 0,.int Y (AR ks)])/\I (w.alloc o).heap.size (w.alloc o) w':=fun o=>(GJ v ks (w.alloc o) (by simp) (hT.below (hA o) hB) (hKA o)).mono fun e w' ⟨h1,h2,_⟩=>⟨h2 hz,h1⟩;generalize AR ks=x at *;obtain⟨ao,cap,rfl,_⟩:=hK;clear hT hKA
 go_enter Tryz.func54,Tryz.ntmps54;go_wp2_with (go_at_call 78;refine(hends _).mono ?_;rintro e w1 ⟨rfl,hb1⟩;have h3:=(Bq.new w (X Z 0 0) (X Z 0 0) (X Z 0 0) 138).below hb1 (by simp);obtain⟨k0,k1,k2,f0,f1,f2,_⟩:=id h3)
 refine bodyPost_ret (v:=ZV #[ZT #[X Z 0 0,X Z 0 0,X Z 0 0],.int Y x]) ?_ rfl ⟨rfl,?_⟩
 .obtain ⟨q0,q1,q2⟩:=h3.read (X Z 0 0) (X Z 0 0) (X Z 0 0);simp[results,Tryz.results54,go_sem,q0,q1,q2]
 .have hbw:=(hA _).trans (hb1.mono (hA _).size);exact((hbw.setCell (Nat.le_refl _) _).setCell (Nat.le_refl _) _).setCell (Nat.le_refl _) _
theorem Bq.set2{w:O}{b:Nat}{x y z:E}(h:Bq w b x y z)(u:E):Bq (w.setCell ⟨b,2,Z⟩ u) b x y u:=by
 obtain⟨k0,k1,k2,f0,f1,f2,hl⟩:=h;refine⟨?_,?_,World.cell?_setCell_same' _ _ _ (by rw[k2];rfl),?_,?_,?_,by simpa using hl⟩
 .simp[go_sem,k0]
 .simp[go_sem,k1]
 .rw[World.frozen?_setCell];exact f0
 .rw[World.frozen?_setCell];exact f1
 .rw[World.frozen?_setCell];exact f2
theorem Gs{w:O}{base:Nat}{e:TypeId}{s n:Nat}{v:E}{xs:List E}(h:w.ownsRow base e s v n xs){p:Addr}(hp:p.block<base)(u:E):(w.setCell p u).ownsRow base e s v n xs:=by
 obtain⟨h1,h2⟩:=h;refine⟨h1,?_⟩;rcases h2 with h2|⟨g,cap,cur,hv,hg,hh,r⟩
 .exact .inl h2
 .exact .inr ⟨g,cap,cur,hv,hg,(Below.heap_setCell w p u g (by omega)).trans hh,r⟩
theorem Sz{w:O}{base:Nat}{e:TypeId}{s n:Nat}{v:E}{xs:List E}(h:w.ownsRow base e s v n xs):∀z,v.ownBlock=U z->base<=z:=by
 intro z hz;rcases h.2 with⟨rfl,_⟩|⟨g,cap,cur,rfl,hb,_⟩
 .simp[Value.ownBlock]at hz
 .simp[Value.ownBlock]at hz;omega
theorem S2{w:O}{base:Nat}{e:TypeId}{s k:Nat}{v:E}{xs:List E}(h:w.ownsRow base e s v (k+1) xs):∃g cap,v=X (U ⟨g,0,Z⟩) (k+1) cap:=by
 rcases h.2 with⟨_,h0⟩|⟨g,cap,_,rfl,_⟩
 .omega
 .exact ⟨g,cap,rfl⟩
def Eg(l:List (Int×Int))(w1:O)(v ev:E)(k:Nat)(wr:O):Prop:=I w1.heap.size w1 wr/\∃av,Bq wr w1.heap.size v ev av/\wr.ownsRow (w1.heap.size+1) 3 1 av (AN l k).length (AB (AN l k))
theorem Eg.later{l:List (Int×Int)}{w1:O}{v ev:E}{k:Nat}{wr w':O}(h:Eg l w1 v ev k wr)(hb:I wr.heap.size wr w'):Eg l w1 v ev k w':=by
 obtain⟨h1,av,h3,ho⟩:=h;exact⟨h1.trans (hb.mono h1.size),av,h3.below hb h3.2.2.2.2.2.2,As ho hb (Nat.le_refl _)⟩
theorem Tg(b off cap:Nat)(l:List (Int×Int))(props:Int)(w:O)(h0:0<=props)(h6:props<=6)(hB:0<w.heap.size)(hT:AH w)(hbl:b<w.heap.size)(hat:BN w b off l)(hcap:l.length<=cap)(hz:AR (l.map Prod.fst)=0) :
  ZX Tryz.prog 54 #[X (U ⟨b,off,Z⟩) l.length cap,.int Y props] w (Hr props (X (U ⟨b,off,Z⟩) l.length cap) l w):=by
 obtain⟨hne,h60⟩:=Dn hz;rw[List.length_map]at h60;have hr:¬(props<0\/6<props):=by omega
 have hA:∀o,I w.heap.size w (w.alloc o):=fun o=>(Below.refl _ _).alloc (Nat.le_refl _) o;have hK:DM w (X (U ⟨b,off,Z⟩) l.length cap) (l.map Prod.fst):=(show OpsV w _ l from⟨_,cap,rfl,⟨hcap,fun h=>by simp at h⟩,fun _=>⟨b,off,rfl,hbl,hat⟩⟩).kinds;have hends:∀o,ZX Tryz.prog 78 #[X (U ⟨b,off,Z⟩) l.length cap] (w.alloc o) fun e w'=>I (w.alloc o).heap.size (w.alloc o) w'/\∃B,(w.alloc o).heap.size<=B/\e=M (ZV #[X (U ⟨B,0,Z⟩) l.length l.length,.int Y 0])/\w'.rowIs B 3 l.length (fun q=>.int Y (Am (l.map Prod.fst) q)):=fun o=>
  (GJ _ _ (w.alloc o) (by simp) (hT.below (hA o) hB) (hK.below (hA o))).mono fun e w' ⟨h1,_,h3⟩=>⟨h1,by have:=h3 hz;rwa[List.length_map]at this⟩
 have HO:ZZ (∀i,i<l.length->(∀j,j<i->Ay props (l.getD j (0,0))=0)->Ay props (l.getD i (0,0))≠0->Aa props l=Ay props (l.getD i (0,0))):=fun i hi hj hne=>by
  have hx:=RY hi hj hne;rw[LZ hr hz (by rw[hx];exact hne),hx]
 have HE:ZZ ((∀j,j<l.length->Ay props (l.getD j (0,0))=0)->Aa props l=if 6<(AN l l.length).length then 1 else 0):=fun hj=>Ij hr hz (Lh hj);have HA:ZZ (BN w b off l):=hat;have HLd:ZZ (AA l=AN l l.length):=rfl;unfold Hr;obtain⟨n,hn⟩:∃n,n=l.length:=⟨_,rfl⟩;have HN:ZZ (n=l.length):=hn;rw[<-hn]at h60 HO HE hends HLd hcap⊢;obtain⟨i0,hi,hz0,hz1,hz2⟩:=info_parts Ba;clear hat hne hz hr hn hK hT;go_enter Tryz.func54,Tryz.ntmps54;go_wp2_with (go_at_call 78;refine(hends _).mono ?_;rintro e w1 ⟨hb1,B,hBl,rfl,hrow⟩;have h3:=(Bq.new w (X Z 0 0) (X Z 0 0) (X Z 0 0) 138).below hb1 (by simp))
 have hbw1:=(hA _).trans (hb1.mono (hA _).size);have hs1:w.heap.size<w1.heap.size:=h3.2.2.2.2.2.2;have HS0:ZZ (Eg l w1 (X (U ⟨b,off,Z⟩) n cap) (X (U ⟨B,0,Z⟩) n n) 0 (w1.alloc (ZY #[X (U ⟨b,off,Z⟩) n cap,X (U ⟨B,0,Z⟩) n n,X Z 0 0] 138))):=⟨(Below.refl _ _).alloc (Nat.le_refl _) _,_,Bq.new _ _ _ _ _,World.ownsRow_nil _ _ _ _⟩;have HRow:ZZ (w1.rowIs B 3 n (fun q=>.int Y (Am (l.map Prod.fst) q))):=hrow;have HT3:ZZ (Bq w1 w.heap.size (X Z 0 0) (X Z 0 0) (X Z 0 0)):=h3;have hBw:w.heap.size<B:=by have:=hBl;simp at this;omega
 clear hends hb1 hrow h3 hBl;go_loopw [33] (fun i wr=>∃k:Nat,k<=n/\i=.int Y k/\ZZ (Eg l w1 (X (U ⟨b,off,Z⟩) n cap) (X (U ⟨B,0,Z⟩) n n) k wr)/\ZZ (∀j,j<k->Ay props (l.getD j (0,0))=0)) (fun i _=>n-(intOf i).toNat)
 case atStart=>exact⟨0,Nat.zero_le _,rfl,HS0.out,fun j hj=>by omega⟩
 case round=>
  obtain⟨k,hk,rfl,HSt,HJ⟩:=hrel;obtain⟨hbel,av,h3r,hown⟩:=HSt.out;have hbw:=hbw1.trans (hbel.mono hbw1.size);have hlen:=N5 l k;have hsr:=hbel.size;obtain⟨aao,aac,rfl⟩:=A1 hown;by_cases hlt:k<n
  .obtain ⟨c0,c1⟩:=(HA.out.below hbw hbl) k (by rw[<-HN.out];exact hlt);have HOi:=(show ZZ _ from HO.out k hlt HJ.out);have HJ2:ZZ (Ay props (l.getD k (0,0))=0->∀j,j<k+1->Ay props (l.getD j (0,0))=0):=fun h j hj=>by
    by_cases hji:j<k
    .exact HJ.out j hji
    .obtain rfl:j=k:=by omega
     exact h
   have HY:ZZ (Af (l.getD k (0,0)).1=true->AN l (k+1)=AN l k++[(k:Int)]):=GA;have HNo:ZZ (Af (l.getD k (0,0)).1=ZS->AN l (k+1)=AN l k):=KN;generalize l.getD k (0,0)=xy at c0 c1 HOi HJ2 HY HNo;obtain⟨x,y⟩:=xy;simp only at c0 c1 HY HNo;have hco:=fun w=>RT x y props w h0 h6;have hlk:=fun w=>Li x w;have hAr:∀o,I wr.heap.size wr (wr.alloc o):=fun o=>(Below.refl _ _).alloc (Nat.le_refl _) o;have HW2:ZZ (∀w2,I (wr.alloc (ZY #[ZU Y x,.int Y y] 100)).heap.size (wr.alloc (ZY #[ZU Y x,.int Y y] 100)) w2->w2.cell? ⟨wr.heap.size,0,Z⟩=U (.int Y x)/\Eg l w1 (X (U ⟨b,off,Z⟩) n cap) (X (U ⟨B,0,Z⟩) n n) k w2/\Bq w2 w.heap.size (X Z 0 0) (X Z 0 0) (X Z 0 0)/\Bq w2 w1.heap.size (X (U ⟨b,off,Z⟩) n cap) (X (U ⟨B,0,Z⟩) n n) (.slice aao (AN l k).length aac)/\w2.ownsRow (w1.heap.size+1) 3 1 (.slice aao (AN l k).length aac) (AN l k).length (AB (AN l k))):=fun w2 hb2=>by
    have hb12:I wr.heap.size wr w2:=(hAr _).trans (hb2.mono (hAr _).size);refine⟨(hb2.cell (p:=⟨wr.heap.size,0,Z⟩) (by simp)).trans (by simp[go_sem]),HSt.out.later hb12,(HT3.out.below hbel hs1).below hb12 (by omega),h3r.below hb12 h3r.2.2.2.2.2.2,As hown hb12 (Nat.le_refl _)⟩
   obtain⟨L,hL⟩:∃L,L=(AN l k).length:=⟨_,rfl⟩;have HL:ZZ (L=(AN l k).length):=hL;rw[<-hL]at hlen HW2;clear hL HO HE HA hown h3r HSt HS0 HRow;by_cases hze:Ay props (x,y)=0
   .have HJ3:=(show ZZ _ from HJ2.out hze);rw[hze]at hco;clear hze HOi HJ2 HJ;cases hb:Af x with
    |true=>
     have HAh:=(show ZZ _ from HY.out hb);rw[hb]at hlk;have h63:L+1<=maxLen:=by unfold maxLen;omega
     have hkb:(L+1)*8<=140737488355328:=by omega
     clear HY HNo hb;go_wp2_with (first|(go_at_call 79;refine(hco _).mono ?_;rintro e w2 ⟨rfl,hb2⟩;obtain⟨c2,hst2,h3z,h3w,ho2⟩:=HW2.out w2 hb2;obtain⟨k0,k1,k2,f0,f1,f2,hl2⟩:=id h3w;have hown2:=fun o=>ho2.alloc o;have hbase:∀o,w1.heap.size+1<=(w2.alloc o).heap.size:=(fun o=>by simp;omega);have kA2:∀o,(w2.alloc o).cell? ⟨w1.heap.size,2,Z⟩=U (X aao L aac):=(fun o=>(((Below.refl _ _).alloc (Nat.le_refl _) o).cell (p:=⟨w1.heap.size,2,Z⟩) hl2).trans k2))|(go_at_call 80;refine(hlk _).mono ?_;rintro e w3 ⟨rfl,rfl⟩)|(at_builtin;refine wpList_append_own _ rfl (.tmp 49) (.tmp 51) 43 rfl (w1.heap.size+1) 3 i0 (.int Y 0) 1 8 Tryz.underlying43 hi hz0 hz1 hz2 rfl (by decide) _ _ _ rfl (hown2 _) ⟨_,0,Z⟩ 1 1 _ rfl rfl (cell_one_new _ _ _) (by intro u hu;simp at hu;subst hu;rfl) h63 hkb (hbase _) ?_;intro v5 w5 hown5 hgrow5 _;obtain⟨g5,cp5,rfl⟩:=S2 hown5;have hb25:I (w1.heap.size+1) _ w5:=((Below.refl _ _).alloc (by omega) _).grown hgrow5 (hbase _) (Sz ho2);have h35:=h3w.below hb25 (Nat.lt_succ_self _);obtain⟨k50,k51,k52,f50,f51,f52,hl5⟩:=id h35))
     have hb15:I w1.heap.size w1 w5:=hst2.1.trans (hb25.mono (Nat.le_succ _));refine⟨⟨k+1,hlt,by first|rfl|simp,⟨hb15.setCell (Nat.le_refl _) _,_,h35.set2 _,?_⟩,HJ3.out⟩,by simp[intOf];omega⟩;rw[HAh.out,List.length_append,<-HL.out];rw[show AB (AN l k++[(k:Int)])=AB (AN l k)++[.int Y (k:Int)] by simp[AB]];exact Gs hown5 (Nat.lt_succ_self _) _
    |false=>
     have HAh:=(show ZZ _ from HNo.out hb);rw[hb]at hlk;clear HY HNo hb;go_wp2_with (first|(go_at_call 79;refine(hco _).mono ?_;rintro e w2 ⟨rfl,hb2⟩;obtain⟨c2,hst2,h3z,h3w,ho2⟩:=HW2.out w2 hb2)|(go_at_call 80;refine(hlk _).mono ?_;rintro e w3 ⟨rfl,rfl⟩))
     obtain⟨q1,av',q2,q3⟩:=hst2;exact⟨⟨k+1,hlt,by first|rfl|simp,⟨q1,av',q2,by rw[HAh.out];exact q3⟩,HJ3.out⟩,by simp[intOf];omega⟩
   .have HX:ZZ (Aa props l=Ay props (x,y)):=HOi.out hze;generalize Ay props (x,y)=err at hco hze HX;clear HOi HJ2 HY HNo hlk;go_wp2_with (go_at_call 79;refine(hco _).mono ?_;rintro e w2 ⟨rfl,hb2⟩;obtain⟨c2,hst2,h3z,h3w,ho2⟩:=HW2.out w2 hb2;obtain⟨k0,k1,k2,f0,f1,f2,hl2⟩:=id h3z)
    refine bodyPost_ret (v:=ZV #[ZT #[X Z 0 0,X Z 0 0,X Z 0 0],.int Y err]) ?_ rfl ⟨?_,fun _=>by rw[HX.out],fun h=>absurd h (by rw[HX.out];exact hze)⟩
    .obtain ⟨q0,q1,q2⟩:=h3z.read (X Z 0 0) (X Z 0 0) (X Z 0 0);simp[results,Tryz.results54,go_sem,q0,q1,q2]
    .have hbw2:=hbw1.trans (hst2.1.mono hbw1.size);exact((hbw2.setCell (Nat.le_refl _) _).setCell (Nat.le_refl _) _).setCell (Nat.le_refl _) _
  .have hkn:k=n:=by omega
   subst hkn;have HX:=(show ZZ _ from HE.out HJ.out);have h3z:=HT3.out.below hbel hs1;have HRo:ZZ (wr.rowIs B 3 k (fun q=>.int Y (Am (l.map Prod.fst) q))):=B6 HRow.out hbel;have HOw:ZZ (wr.ownsRow (w1.heap.size+1) 3 1 (.slice aao (AN l k).length aac) (AN l k).length (AB (AN l k))):=hown;obtain⟨L,hL⟩:∃L,L=(AN l k).length:=⟨_,rfl⟩;have HL:ZZ (L=(AN l k).length):=hL;rw[<-hL]at hlen HX HOw h3r;obtain⟨k0,k1,k2,f0,f1,f2,hl2⟩:=id h3r;obtain⟨z0,z1,z2,y0,y1,y2,zl2⟩:=id h3z;clear hL HO HE HA hown HSt HS0 HRow HJ;by_cases h6L:6<L
   .have HX2:ZZ (Aa props l=1):=by show _=_;rw[HX.out,if_pos h6L]
    go_wp2_with fail
    refine bodyPost_ret (v:=ZV #[ZT #[X Z 0 0,X Z 0 0,X Z 0 0],.int Y 1]) ?_ rfl ⟨?_,fun _=>by rw[HX2.out],fun h=>absurd h (by rw[HX2.out];decide)⟩
    .obtain ⟨q0,q1,q2⟩:=h3z.read (X Z 0 0) (X Z 0 0) (X Z 0 0);simp[results,Tryz.results54,go_sem,q0,q1,q2]
    .exact ((hbw.setCell (Nat.le_refl _) _).setCell (Nat.le_refl _) _).setCell (Nat.le_refl _) _
   .have HX2:ZZ (Aa props l=0):=by show _=_;rw[HX.out,if_neg h6L]
    go_wp2_with fail
    refine bodyPost_ret (v:=ZV #[ZT #[X (U ⟨b,off,Z⟩) k cap,X (U ⟨B,0,Z⟩) k k,X aao L aac],.int Y 0]) ?_ rfl ⟨?_,fun h=>absurd HX2.out h,fun _=>⟨B,X aao L aac,Nat.le_of_lt hBw,rfl,?_,?_⟩⟩
    .obtain ⟨q0,q1,q2⟩:=h3z.read (X (U ⟨b,off,Z⟩) k cap) (X (U ⟨B,0,Z⟩) k k) (X aao L aac);simp[results,Tryz.results54,go_sem,q0,q1,q2]
    .exact ((hbw.setCell (Nat.le_refl _) _).setCell (Nat.le_refl _) _).setCell (Nat.le_refl _) _
    .have hne:∀q,B≠(⟨w.heap.size,q,Z⟩:Addr).block:=fun q=>by simp;omega
     exact HRo.out.of_block ((Below.heap_setCell _ _ _ B (hne 2)).trans ((Below.heap_setCell _ _ _ B (hne 1)).trans (Below.heap_setCell _ _ _ B (hne 0))))
    .rw[HLd.out,<-HL.out];exact A0 (Gs (Gs (Gs HOw.out (by simp;omega) _) (by simp;omega) _) (by simp;omega) _) (by omega)
theorem Io(v:E)(l:List (Int×Int))(props:Int)(w:O)(hB:0<w.heap.size)(hT:AH w)(hV:OpsV w v l) :
  ZX Tryz.prog 54 #[v,.int Y props] w (Hr props v l w):=by
 by_cases hr:props<0\/6<props
 .obtain ⟨ao,cap,rfl,_⟩:=hV;exact(Th ao _ cap props w hr).mono fun e w' ⟨h1,h2⟩=>⟨h2,fun _=>by rw[Ik hr];exact h1,fun h=>absurd h (by rw[Ik hr];decide)⟩
 .by_cases hz:AR (l.map Prod.fst)=0
  .obtain ⟨hne,_⟩:=Dn hz;obtain⟨ao,cap,rfl,h0,h⟩:=hV;obtain⟨b,off,rfl,hbl,hat⟩:=h (by rintro rfl;exact hne rfl);exact Tg b off cap l props w (by omega) (by omega) hB hT hbl hat h0.1 hz
  .exact (Td v _ props w (by omega) (by omega) hB hT hV.kinds hz).mono fun e w' ⟨h1,h2⟩=>⟨h2,fun _=>by rw[Ii hr hz];exact h1,fun h=>absurd h (by rw[Ii hr hz];exact hz)⟩
theorem RU(v:E)(l:List (Int×Int))(props:Int)(w:O)(hB:0<w.heap.size)(hT:AH w)(hV:OpsV w v l) :
  ZX Tryz.prog 53 #[v,.int Y props] w fun e w'=>e=M (.int Y (Aa props l))/\I w.heap.size w w':=by
 have hrd:ZX Tryz.prog 54 #[v,.int Y props] w fun e w'=>I w.heap.size w w'/\∃ao an ac bo bn bc co cn cc,e=M (ZV #[ZT #[X ao an ac,X bo bn bc,X co cn cc],.int Y (Aa props l)]):=by
  refine(Io v l props w hB hT hV).mono fun e w' ⟨h1,h2,h3⟩=>⟨h1,?_⟩;by_cases hz:Aa props l=0
  .obtain ⟨B,av,_,he,_,ho⟩:=h3 hz;obtain⟨aa,ac,rfl⟩:=A1 ho;obtain⟨ao,cap,rfl,_⟩:=hV;exact⟨_,_,_,_,_,_,_,_,_,by rw[hz];exact he⟩
  .exact ⟨_,_,_,_,_,_,_,_,_,h2 hz⟩
 obtain⟨ao,cap,rfl,_⟩:=hV;generalize Aa props l=x at *;clear hT
 go_enter Tryz.func53,Tryz.ntmps53;go_wp2_with (go_at_call 54;refine hrd.mono ?_;rintro e w1 ⟨hb1,ao,an,ac,bo,bn,bc,co,cn,cc,rfl⟩)
 go_ret;exact⟨rfl,by first|exact hb1|exact hb1.alloc hb1.size _⟩
structure PartsAt(w:O)(bh bf bp bH n B pl:Nat)(h:Nat->Bool)(l:List (Int×Int)):Prop where
 holds:w.cell? ⟨bh,0,Z⟩=U (X (U ⟨bH,0,Z⟩) n n)
 row:∀j,j<n->w.cell? ⟨bH,j,Z⟩=U (.bool (h j))
 ends : w.cell? ⟨bf, 1, Z⟩ = U (X (U ⟨B, 0, Z⟩) n n)
 erow:∀j,j<n->w.cell? ⟨B,j,Z⟩=U (.int Y (Am (l.map Prod.fst) j))
 place:w.cell? ⟨bp,0,Z⟩=U (.int Y pl)
theorem GQ(bh bp bH n pl:Nat)(x:Bool)(w:O)(hn:n<=60)(hp:pl+1<n)(c0:w.cell? ⟨bh,0,Z⟩=U (X (U ⟨bH,0,Z⟩) n n))(c1:w.cell? ⟨bp,0,Z⟩=U (.int Y pl))(c2:w.cell? ⟨bH,pl+1,Z⟩=U (.bool x)) :
  ZX Tryz.prog 120 #[ZW (U ⟨bh,0,Z⟩),ZW (U ⟨bp,0,Z⟩)] w fun e w'=>e=M (.bool x)/\w'=w:=by
 go_enter Tryz.func120,Tryz.ntmps120;go_wp2_with fail
 go_ret;exact⟨rfl,rfl⟩
theorem JZ(bh bf bp bH n B pl s:Nat)(x:Bool)(w:O)(hn:n<=60)(hp:pl+1<n)(hs:s<n)(c0:w.cell? ⟨bh,0,Z⟩=U (X (U ⟨bH,0,Z⟩) n n))(c1:w.cell? ⟨bp,0,Z⟩=U (.int Y pl))(c2:w.cell? ⟨bf,1,Z⟩=U (X (U ⟨B,0,Z⟩) n n))(c3:w.cell? ⟨B,pl+1,Z⟩=U (.int Y s))(c4:w.cell? ⟨bH,s,Z⟩=U (.bool x)) :
  ZX Tryz.prog 121 #[ZW (U ⟨bh,0,Z⟩),ZW (U ⟨bf,0,Z⟩),ZW (U ⟨bp,0,Z⟩)] w fun e w'=>e=M (.bool x)/\∃q,w'=w.drewN q:=by
 go_enter Tryz.func121,Tryz.ntmps121;go_wp2_with fail
 go_quiet (fail)
 go_wp2_with fail
 go_ret;exact⟨rfl,_,rfl⟩
theorem Gu(b off cap n B bH pl:Nat)(av:E)(h:Nat->Bool)(l:List (Int×Int))(aao:Option Addr)(an ac:Nat)(hav:av=X aao an ac)(w:O)(hr:∀j,j<n->w.cell? ⟨bH,j,Z⟩=U (.bool (h j)))(hbH:bH<w.heap.size)(he:∀j,j<n->w.cell? ⟨B,j,Z⟩=U (.int Y (Am (l.map Prod.fst) j)))(hbB:B<w.heap.size) :
  ZX Tryz.prog 87 #[ZT #[X (U ⟨b,off,Z⟩) n cap,X (U ⟨B,0,Z⟩) n n,av],.int Y pl,X (U ⟨bH,0,Z⟩) n n] w fun e w'=>
   e=M (ZV #[.func (.func 120) #[] #[ZW (U ⟨w.heap.size+1+1,0,Z⟩),ZW (U ⟨w.heap.size+1,0,Z⟩)],.func (.func 121) #[] #[ZW (U ⟨w.heap.size+1+1,0,Z⟩),ZW (U ⟨w.heap.size,0,Z⟩),ZW (U ⟨w.heap.size+1,0,Z⟩)]])/\I w.heap.size w w'/\ZZ (PartsAt w' (w.heap.size+1+1) w.heap.size (w.heap.size+1) bH n B pl h l):=by
 subst hav;have HR:=(show ZZ _ from hr);have HE:=(show ZZ _ from he);clear hr he;go_enter Tryz.func87,Tryz.ntmps87;go_wp2_with fail
 go_ret2;have hb:I w.heap.size w (((w.alloc (ZY #[X (U ⟨b,off,Z⟩) n cap,X (U ⟨B,0,Z⟩) n n,X aao an ac] 138)).alloc (ZY #[ZU Y pl] 3)).alloc (ZY #[X (U ⟨bH,0,Z⟩) n n] 111)):=(((Below.refl _ _).alloc (Nat.le_refl _) _).alloc (by simp) _).alloc (by simp;omega) _;refine⟨rfl,hb,?_⟩;show PartsAt _ _ _ _ _ _ _ _ _ _;constructor
 .simp[go_sem]
 .exact fun j hj=>(hb.cell (p:=⟨bH,j,Z⟩) hbH).trans (HR.out j hj)
 .simp[go_sem]
 .exact fun j hj=>(hb.cell (p:=⟨B,j,Z⟩) hbB).trans (HE.out j hj)
 .simp[go_sem]
theorem PartsAt.below{w w':O}{bh bf bp bH n B pl:Nat}{h:Nat->Bool}{l:List (Int×Int)}(p:PartsAt w bh bf bp bH n B pl h l)(hb:I w.heap.size w w')(h1:bh<w.heap.size)(h2:bf<w.heap.size)(h3:bp<w.heap.size)(h4:bH<w.heap.size)(h5:B<w.heap.size):PartsAt w' bh bf bp bH n B pl h l:=
 ⟨(hb.cell (p:=⟨bh,0,Z⟩) h1).trans p.holds,fun j hj=>(hb.cell (p:=⟨bH,j,Z⟩) h4).trans (p.row j hj),(hb.cell (p:=⟨bf,1,Z⟩) h2).trans p.ends,fun j hj=>(hb.cell (p:=⟨B,j,Z⟩) h5).trans (p.erow j hj),(hb.cell (p:=⟨bp,0,Z⟩) h3).trans p.place⟩
theorem PartsAt.first{w:O}{bh bf bp bH n B pl:Nat}{h:Nat->Bool}{l:List (Int×Int)}(p:PartsAt w bh bf bp bH n B pl h l)(hn:n<=60)(hp:pl+1<n)(q:Nat) :
  ZX Tryz.prog 120 #[ZW (U ⟨bh,0,Z⟩),ZW (U ⟨bp,0,Z⟩)] (w.drewN q) fun e w'=>e=M (.bool (h (pl+1)))/\w'=w.drewN q:=
 GQ bh bp bH n pl _ _ hn hp (by simpa using p.holds) (by simpa using p.place) (by simpa using p.row _ hp)
theorem PartsAt.second{w:O}{bh bf bp bH n B pl:Nat}{h:Nat->Bool}{l:List (Int×Int)}(p:PartsAt w bh bf bp bH n B pl h l)(hn:n<=60)(hp:pl+1<n)(hs:sec l pl<n)(q:Nat) :
  ZX Tryz.prog 121 #[ZW (U ⟨bh,0,Z⟩),ZW (U ⟨bf,0,Z⟩),ZW (U ⟨bp,0,Z⟩)] (w.drewN q) fun e w'=>e=M (.bool (h (sec l pl)))/\∃r,w'=w.drewN r:=
 (JZ bh bf bp bH n B pl (sec l pl) _ _ hn hp hs (by simpa using p.holds) (by simpa using p.place) (by simpa using p.ends) (by have:=p.erow _ hp;unfold sec;simpa using this) (by simpa using p.row _ hs)).mono fun e w' ⟨h1,r,h2⟩=>⟨h1,q+r,by rw[h2,World.drewN_drewN]⟩
theorem Rm(k v:Int)(lo:Option Addr)(lc bh bf bp bH n B pl:Nat)(letter:List Bool)(h:Nat->Bool)(l:List (Int×Int))(w:O)(hn:n<=60)
  (hL:BoolsV w (.slice lo letter.length lc) letter) (hP:PartsAt w bh bf bp bH n B pl h l) (b1:bh<w.heap.size) (b2:bf<w.heap.size) (b3:bp<w.heap.size) (b4:bH<w.heap.size) (b5:B<w.heap.size)
  (h13:k=13->0<=v/\v<letter.length) (h1:k=10\/k=8\/k=9->pl+1<n) (h2:k=8\/k=9->sec l pl<n) :
  ZX Tryz.prog 88 #[ZT #[ZU Y k,.int Y v],.slice lo letter.length lc,.func (.func 120) #[] #[ZW (U ⟨bh,0,Z⟩),ZW (U ⟨bp,0,Z⟩)],.func (.func 121) #[] #[ZW (U ⟨bh,0,Z⟩),ZW (U ⟨bf,0,Z⟩),ZW (U ⟨bp,0,Z⟩)]] w fun e w'=>
   e=M (.bool (mkB (k,v) letter (h (pl+1)) (h (sec l pl))))/\I w.heap.size w w':=by
 have hA:∀o,I w.heap.size w (w.alloc o):=fun o=>(Below.refl _ _).alloc (Nat.le_refl _) o;have hP':=fun o=>hP.below (hA o) b1 b2 b3 b4 b5;by_cases e13:k=13
 .subst e13;obtain⟨hv0,hv1⟩:=h13 rfl;obtain⟨vn,rfl⟩:∃vn:Nat,v=vn:=⟨v.toNat,by omega⟩;obtain⟨lo',lc',hls,hll⟩:=hL;injection hls with e1 e2 e3;subst e1;obtain⟨b,off,rfl,hbl,hat⟩:=hll (by intro h;rw[h]at hv1;simp at hv1;omega);have hc:=fun o=>((hA o).cell (p:=⟨b,off+vn,Z⟩) hbl).trans (hat vn (by omega));have hm:mkB (13,(vn:Int)) letter (h (pl+1)) (h (sec l pl))=letter.getD vn false:=by simp[mkB]
  rw[hm];generalize letter.getD vn ZS=x at hc⊢;generalize letter.length=ln at *;have hvl:vn<ln:=by omega
  clear hm hll hat hv0 hv1 h1 h2 h13 hP hP';go_enter Tryz.func88,Tryz.ntmps88;go_wp2_with fail
  go_ret;exact⟨rfl,hA _⟩
 .by_cases e11:k=11
  .subst e11;have hm:mkB (11,v) letter (h (pl+1)) (h (sec l pl))=true:=by simp[mkB]
   rw[hm];clear hm hL h1 h2 h13 hP hP' e13;go_enter Tryz.func88,Tryz.ntmps88;go_wp2_with fail
   go_ret;exact⟨rfl,hA _⟩
  .by_cases e10:k=10
   .subst e10;have hp:=h1 (.inl rfl);have hf:=fun o=>(hP' o).first hn hp 0
    have hm:mkB (10,v) letter (h (pl+1)) (h (sec l pl))=!h (pl+1):=by simp[mkB]
    rw[hm];generalize h (pl+1)=x at hf⊢;clear hm hL h1 h2 h13 hP hP' e13 e11;go_enter Tryz.func88,Tryz.ntmps88;go_wp2_with (go_at_call 120;refine(hf _).mono ?_;rintro e w1 ⟨rfl,rfl⟩)
    go_ret;exact⟨rfl,below_drewN (hA _) 0⟩
   .by_cases e8:k=8
    .subst e8;have hp:=h1 (.inr (.inl rfl));have hs:=h2 (.inl rfl);have hf:=fun o q=>(hP' o).first hn hp q
     have hf2:=fun o q=>(hP' o).second hn hp hs q;have hm:mkB (8,v) letter (h (pl+1)) (h (sec l pl))=(h (pl+1)&&h (sec l pl)):=by simp[mkB]
     rw[hm];generalize h (pl+1)=x at hf⊢;generalize h (sec l pl)=y at hf2⊢;clear hm hL h1 h2 h13 hP hP' e13 e11 e10;cases x
     .go_enter Tryz.func88,Tryz.ntmps88;go_wp2_with (go_at_call 120;refine(hf _ 0).mono ?_;rintro e w1 ⟨rfl,rfl⟩)
      go_ret;exact⟨rfl,below_drewN (hA _) 0⟩
     .go_enter Tryz.func88,Tryz.ntmps88;go_wp2_with (first|(go_at_call 120;refine(hf _ 0).mono ?_;rintro e w1 ⟨rfl,rfl⟩)|(go_at_call 121;refine(hf2 _ 0).mono ?_;rintro e w1 ⟨rfl,r,rfl⟩))
      go_ret;exact⟨by simp,below_drewN (hA _) _⟩
    .by_cases e9:k=9
     .subst e9;have hp:=h1 (.inr (.inr rfl));have hs:=h2 (.inr rfl);have hf:=fun o q=>(hP' o).first hn hp q
      have hf2:=fun o q=>(hP' o).second hn hp hs q;have hm:mkB (9,v) letter (h (pl+1)) (h (sec l pl))=(h (pl+1)||h (sec l pl)):=by simp[mkB]
      rw[hm];generalize h (pl+1)=x at hf⊢;generalize h (sec l pl)=y at hf2⊢;clear hm hL h1 h2 h13 hP hP' e13 e11 e10 e8;cases x
      .go_enter Tryz.func88,Tryz.ntmps88;go_wp2_with (first|(go_at_call 120;refine(hf _ 0).mono ?_;rintro e w1 ⟨rfl,rfl⟩)|(go_at_call 121;refine(hf2 _ 0).mono ?_;rintro e w1 ⟨rfl,r,rfl⟩))
       go_ret;exact⟨by simp,below_drewN (hA _) _⟩
      .go_enter Tryz.func88,Tryz.ntmps88;go_wp2_with (go_at_call 120;refine(hf _ 0).mono ?_;rintro e w1 ⟨rfl,rfl⟩)
       go_ret;exact⟨rfl,below_drewN (hA _) 0⟩
     .have hm:mkB (k,v) letter (h (pl+1)) (h (sec l pl))=false:=by simp[mkB,e13,e11,e10,e8,e9]
      rw[hm];clear hm hL h1 h2 h13 hP hP';go_enter Tryz.func88,Tryz.ntmps88;go_wp2_with fail
      go_ret;exact⟨rfl,hA _⟩
open Go.ChangeShapes Go.WideShapes Go.ChangeAt Go.RowKit Go.Deep Go.Shelf
attribute [local go_sem] Oper.semAt_some
def FU{n:Nat}(h:0<n)(j:Nat):Fin n:=⟨n-1-j,by omega⟩
def C0{n:Nat}(h:0<n)(k:Nat):List (Fin n):=(List.range k).map (FU h)
theorem Hy{n:Nat}(h:0<n)(k:Nat):C0 h (k+1)=C0 h k++[FU h k]:=by simp[C0,List.range_succ]
theorem OV{n:Nat}(h:0<n)(k:Nat):(C0 h k).length=k:=by simp[C0]
def GB(l:List (Int×Int))(n:Nat)(x:Fin n):Array Value:=#[ZU Y (x.1:Int),ZT #[ZU Y (l.getD x.1 (0,0)).1,.int Y (l.getD x.1 (0,0)).2]]
def EA(n₀ Bs:Nat)(A B:O):Prop:=I n₀ A B/\B.heap[Bs]? = A.heap[Bs]?
set_option maxRecDepth 100000 in
theorem OS(F:Fence)(m:Nat)(h7:F.fn 119)(hro:F.round=Z)(hm:1<=m)(L Bs n₀ b off n cap:Nat)(l:List (Int×Int))(h0n:0<n)(h60:n<=60)(hnl:n=l.length)(hb:b<n₀)(J Jx:List (Fin n)->O->Prop)
  (hY:∀pre x W,J pre W->pre.length<n->YieldAt F (m-1) Tryz.prog L (GB l n x) W fun e W'=>
   (e=M (.bool true)/\J (pre++[x]) W'/\EA n₀ Bs W W')\/(e=M (.bool ZS)/\Jx (pre++[x]) W'))
  (W:O) (hBs:W.cell? ⟨Bs,0,Z⟩=U (X (U ⟨b,off,Z⟩) n cap)) (hc:BN W b off l) (h0:J [] W) :
  CallsIn F m Tryz.prog 119 #[.func (.yield L) #[] #[],ZW (U ⟨Bs,0,Z⟩)] W fun e W'=>(∃v,e=M v)/\
   ((∃ys,ys=C0 h0n n/\J ys W')\/(∃pre,(∃k,k<=n/\pre=C0 h0n k)/\Jx pre W')):=by
 refine callsIn_of_wp Tryz.func119 rfl h7 ?_ hro;simp only[Tryz.ntmps119,List.size_toArray,List.length_cons,List.length_nil,Nat.reduceAdd,Nat.reduceSub,Array.replicate_succ,Array.replicate_zero,List.push_toArray,List.append_toArray,List.nil_append,List.cons_append];have HC:ZZ (BN W b off l):=hc;have HN:ZZ (n=l.length):=hnl;clear hc hnl;gi_wp2
 gi_loopw [3] (fun i wr=>∃k:Nat,k<=n/\i=.int Y ((n:Int)-1-k)/\J (C0 h0n k) wr/\EA n₀ Bs W wr)
  (fun i _=>(intOf i+1).toNat)
 case atStart=>exact⟨0,Nat.zero_le _,by first|rfl|simp,h0,Below.refl _ _,rfl⟩
 case round=>
  obtain⟨k,hk,rfl,hJs,hnx,hbx⟩:=hrel;have hcb:wr.cell? ⟨Bs,0,Z⟩=U (X (U ⟨b,off,Z⟩) n cap):=(World.cell?_of_block (w:=W) hbx).trans hBs;by_cases hlt:k<n
  .obtain ⟨p,hp⟩:∃p:Nat,p=n-1-k:=⟨_,rfl⟩;have hpi:(n:Int)-1-k=(p:Int):=by omega
   have hpn:p<n:=by omega
   obtain⟨c0,c1⟩:=(HC.out.below hnx hb) p (by rw[<-HN.out];exact hpn);obtain⟨fn,tmps,assign,body,hy,hR⟩:=hY _ (FU h0n k) wr hJs (by rw[OV];exact hlt);have hba:(FU h0n k).1=p:=hp.symm;simp only[GB,hba]at hy;rw[hpi];have HPI:ZZ ((n:Int)-1-k=(p:Int)):=hpi;clear hp hpi hba;generalize l.getD p (0,0)=xy at c0 c1 hy;obtain⟨x,y⟩:=xy;simp only at c0 c1 hy;gi_wp2
   refine hR.mono ?_;rintro e W3 (⟨rfl,hJ3,hk3,hk4⟩|⟨rfl,hJx3⟩)
   .gi_wp2
    go_roundw
    case rel=>exact⟨k+1,by omega,by have:=HPI.out;first|(congr 1;omega)|(simp;omega),by rw[Hy];exact hJ3,hnx.trans hk3,hk4.trans hbx⟩
    case measure=>have:=HPI.out;first|(simp[intOf];omega)|simp[intOf]
   .gi_wp2
    refine bodyPost_ret (results_none rfl _ _ _) rfl ?_;exact⟨⟨_,rfl⟩,.inr ⟨_,⟨k+1,by omega,(Hy _ _).symm⟩,hJx3⟩⟩
  .obtain rfl:k=n:=by omega
   have hpi:(k:Int)-1-k=-1:=by omega
   rw[hpi];gi_wp2
   go_end0
   exact⟨⟨_,rfl⟩,.inl ⟨_,rfl,hJs⟩⟩
theorem OW(F:Fence)(m:Nat)(h5:F.fn 86)(hro:F.round=Z)(a:Option Addr)(len cap:Nat)(w:O) :
  CallsIn F m Tryz.prog 86 #[X a len cap] w fun e w'=>e=M (.func (.func 119) #[] #[ZW (U ⟨w.heap.size,0,Z⟩)])/\w'=w.alloc (ZY #[X a len cap] 33):=by
 refine callsIn_of_wp Tryz.func86 rfl h5 ?_ hro;simp only[Tryz.ntmps86,List.size_toArray,List.length_cons,List.length_nil,Nat.reduceAdd,Nat.reduceSub,Array.replicate_succ,Array.replicate_zero,List.push_toArray,List.append_toArray,List.nil_append,List.cons_append];gi_wp2
 go_ret;exact⟨rfl,rfl⟩
theorem OX(F:Fence)(m:Nat)(h7:F.fn 119)(hro:F.round=Z)(hm:1<=m)(Bs n₀ b off n cap:Nat)(l:List (Int×Int))(h0n:0<n)(h60:n<=60)(hnl:n=l.length)(hb:b<n₀)(w:O)(hBs:Bs<w.heap.size)(hn₀:n₀<=w.heap.size)
  (hc:w.cell? ⟨Bs,0,Z⟩=U (X (U ⟨b,off,Z⟩) n cap)) (hI:BN w b off l) :
  SeqStopsK F m Tryz.prog 119 #[ZW (U ⟨Bs,0,Z⟩)] (GB l n) (EA n₀ Bs) (fun ys=>ys=C0 h0n n)
   (fun pre=>∃k,k<=n/\pre=C0 h0n k) n w:=fun L J Jx W hW _ _ hY h0=>
 OS F m h7 hro hm L Bs n₀ b off n cap l h0n h60 hnl hb J Jx hY W ((hW.cell (p:=⟨Bs,0,Z⟩) hBs).trans hc) (hI.below (hW.mono hn₀) hb) h0
theorem OU{n₀ Bs:Nat}{A B C:O}(h:EA n₀ Bs A B)(k:EA n₀ Bs B C):EA n₀ Bs A C:=⟨h.1.trans k.1,k.2.trans h.2⟩
theorem OT{n₀ Bs:Nat}{w:O}(hn:n₀<=w.heap.size)(hB:Bs<w.heap.size)(W:O)(l:Nat)(o o':Obj)(hl:w.heap.size<=l)(h:W.heap[l]? = U o)(h1:o.isCells=ZS)(h2:o.isWalk=ZS):EA n₀ Bs W (W.putObj l o'):=
 ⟨belowK_b hn W l o o' hl h h1 h2,(belowK_b (n₀:=Bs+1) (w:=w) hB W l o o' hl h h1 h2).block Bs (Nat.lt_succ_self _)⟩
theorem Ve{P:Program}(L n:Nat){o:Oper}{a:Act}{next:Act->O->Prop}{Q:Exit->Act->O->Prop}{r:Result Next}(h:o.upon P a next Q r):o.uponIn (Fence.wide.inRound L) n P a next Q r:=by
 have hd:∀m:Nat,(Fence.wide.inRound L).depth.isSome=true->1<=m:=fun m h=>by simp[Fence.wide,Fence.inRound]at h
 cases r with
 |halt x w'=>cases x<;>first|exact h|exact h.elim
 |ok x w'=>
  cases x with
  |value v=>exact h
  |skip=>exact h
  |defer d=>exact h
  |enter f args=>exact⟨hd _,CallsIn.inRound L ((callsIn_wide.2 h).mono fun e w'' he=>by cases e<;>exact he)⟩
  |row row args=>exact⟨hd _,fun c cs _=>by obtain⟨v,w'',h1,h2⟩:=h c cs;exact⟨v,w'',h1,stepsIn_wide.2 h2⟩⟩
  |_=>exact(h:False).elim
theorem OE{P:Program}(L n:Nat){md:Region.Mode}{ops:Array Oper}{Q:Exit->Act->O->Prop}(hd:∀(i:Nat) (o:Oper),ops[i]? = U o->∀c,o.op≠Op.defer c)(hQ:LetsOut Q->False) :
  ∀(fuel:Nat) (listed:Array Bool) (a:Act) (w:O),wpAny P md ops Q fuel listed a w->wpAnyIn (Fence.wide.inRound L) n P md ops Q fuel listed a w:=by
 intro fuel;induction fuel with
 |zero=>intro listed a w h;exact h
 |succ fuel ih=>
  intro listed a w h;refine⟨h.1,fun i hi=>?_⟩;have h1:=wpOp_mono (K':=wpAnyIn (Fence.wide.inRound L) n P md ops Q fuel (listed.setIfInBounds i true)) (fun a' w' h'=>ih _ a' w' h') (h.2 i hi);unfold wpOp at h1;unfold wpOpIn;cases ho:ops[i]? with
  |none=>simp only[ho]at h1⊢;exact h1
  |some o=>
   simp only[ho]at h1⊢;split
   .rename_i hw;rw[if_pos hw]at h1;rcases h1 with h1|⟨_,h1⟩
    .refine ⟨fun f _=>trivial,?_⟩;rw[Oper.semAt_eq _ _ _ (hd i o ho)];exact Ve L n h1
    .exact (hQ h1).elim
   .rename_i hw;rw[if_neg hw]at h1;exact⟨fun f _=>trivial,h1⟩
theorem Tp{P:Program}{L n id:Nat}{ops:Array Oper}{Q:Exit->Act->O->Prop}{a:Act}{w:O}(S:O->Prop)(hm:P.follows .mixedOrders=true)(hd:∀(i:Nat) (o:Oper),ops[i]? = U o->∀c,o.op≠Op.defer c)(hQ:LetsOut Q->False)
  (h:wpAnyH P .any ops Q S ops.size (Array.replicate ops.size ZS) a w.drew):(Code.region id ops true).wpIn (Fence.wide.inRound L) n P Q a w:=
 wpIn_region_any hm (OE L n hd hQ _ _ _ _ (wpAny_of_held _ _ _ _ h))
theorem Vv{P:Program}{ops:Array Oper}{Q:Exit->Act->O->Prop}{i:Nat}{K:Act->O->Prop}{a:Act}{w:O}{o:Oper}{f:FuncId}{args:Array E}{R:Ending->O->Prop}(hi:ops[i]? = U o)(hw:Region.wanted o (yielded ops a.tmps)=true)(hr:(execOp a.eval o).run P w=.ok (.enter f args) w)(h:ZX P f args w R)
  (hR:∀e w',R e w'->∃v,e=M v/\K (a.put o.dst v) w'):wpOp P ops Q i K a w:=by
 unfold wpOp;simp only[hi];rw[if_pos hw];refine Or.inl ?_;unfold Oper.wp;rw[hr];refine h.mono fun e w' he=>?_;obtain⟨v,rfl,hk⟩:=hR e w' he;exact hk
theorem Vw{P:Program}{ops:Array Oper}{Q:Exit->Act->O->Prop}{i:Nat}{K:Act->O->Prop}{a:Act}{w w':O}{o:Oper}(hi:ops[i]? = U o)(hw:Region.wanted o (yielded ops a.tmps)=true)(hr:(execOp a.eval o).run P w=.ok .skip w')(h:K (a.put o.dst undef) w'):wpOp P ops Q i K a w:=by
 unfold wpOp;simp only[hi];rw[if_pos hw];refine Or.inl ?_;unfold Oper.wp;rw[hr];exact h
attribute [local go_sem] Oper.semAt_some
theorem RI(v:E)(l:List (Int×Int))(props:Int)(w:O)(hB:0<w.heap.size)(hT:AH w)(hV:OpsV w v l)(hc:Aa props l=0) :
  ZX Tryz.prog 29 #[v,.int Y props] w fun e w'=>∃ao ac,e=M (ZV #[.slice ao (AA l).length ac,.int Y 0])/\I w.heap.size w w'/\ZZ (w'.ownsRow w.heap.size 3 1 (.slice ao (AA l).length ac) (AA l).length (AB (AA l))):=by
 have hrd:ZX Tryz.prog 54 #[v,.int Y props] w fun e w'=>I w.heap.size w w'/\∃ao an ac bo bn bc co cc,e=M (ZV #[ZT #[X ao an ac,X bo bn bc,.slice co (AA l).length cc],.int Y 0])/\ZZ (w'.ownsRow w.heap.size 3 1 (.slice co (AA l).length cc) (AA l).length (AB (AA l))):=by
  refine(Io v l props w hB hT hV).mono fun e w' ⟨h1,h2,h3⟩=>⟨h1,?_⟩;obtain⟨B,av,_,he,_,ho⟩:=h3 hc;obtain⟨aa,ac,rfl⟩:=A1 ho;obtain⟨ao,cap,rfl,_⟩:=hV;exact⟨_,_,_,_,_,_,_,_,he,ho⟩
 obtain⟨ao,cap,rfl,_⟩:=hV;generalize(AA l).length=an at *;clear hT hc
 go_enter Tryz.func29,Tryz.ntmps29;go_wp2_with (go_at_call 54;refine hrd.mono ?_;rintro e w1 ⟨hb1,ao,bn,ac,bo,bm,bc,co,cc,rfl,HI⟩)
 go_ret2;exact⟨_,_,rfl,by first|exact hb1|exact hb1.alloc hb1.size _,by first|exact HI.out|exact HI.out.alloc _⟩
attribute [local go_sem] Oper.semAt_some
inductive ForT(props:Int):Nat->List (Int×Int)->Prop
 |prop (v:Int):0<=v->v<props->ForT props 0 [(13,v)]
 |not (m:Nat) (a:List (Int×Int)):ForT props m a->ForT props m ((10,0)::a)
 |bin (m n:Nat) (k:Int) (a b:List (Int×Int)):8<=k->k<=9->ForT props m a->ForT props n b->ForT props (m+n) ((k,0)::(a++b))
 |tun (m:Nat) (k:Int) (a:List (Int×Int)):k=14\/k=17\/k=18->ForT props m a->ForT props (m+1) ((k,0)::a)
 |tbi (m n:Nat) (k:Int) (a b:List (Int×Int)):15<=k->k<=16->ForT props m a->ForT props n b->ForT props (m+n+1) ((k,0)::(a++b))
theorem GrownAt.factsF{w:O}{G:Nat}{rawv:E}{at':Nat}{vars props tempo:Int}{l:List (Int×Int)}(h:GrownAt w G rawv at' vars props tempo l) :
  w.cell? ⟨G,1,Z⟩=U (.int Y at')/\w.cell? ⟨G,3,Z⟩=U (.int Y props)/\w.cell? ⟨G,4,Z⟩=U (.int Y tempo)/\w.frozen? ⟨G,4,Z⟩=ZS/\G<w.heap.size:=by
 obtain⟨outv,hh,ho⟩:=h;obtain⟨_,a,b,_,f,c⟩:=Ds hh;exact⟨a,by simp[World.cell?,hh],by simp[World.cell?,hh],f 4,c⟩
theorem GrownAt.setTempo{w:O}{G:Nat}{rawv:E}{at':Nat}{vars props tempo:Int}{l:List (Int×Int)}(h:GrownAt w G rawv at' vars props tempo l)(n:Int):GrownAt (w.setCell ⟨G,4,Z⟩ (.int Y n)) G rawv at' vars props n l:=by
 obtain⟨outv,hh,ho⟩:=h;refine⟨outv,by simp[World.setCell,Array.getElem?_modify,hh],?_⟩;exact ownsRow_setCell_below ho (by simp) _
def EB(G:Nat)(rawv:E)(at':Nat)(vars props:Int)(tempo:Nat)(l:List (Int×Int))(d:Nat)(w:O)(e:Ending)(w':O):Prop:=
 ∃t m,e=M (ZV #[])/\ForT props m t/\m<=tempo/\(at'+t.length<=at'+1\/at'+t.length<=13+d)/\t.length+1<=2^(d+1)/\GrownAt w' G rawv (at'+t.length) vars props ((tempo-m:Nat):Int) (l++t)/\I G w w'
theorem Vb(d:Nat):2<=2^(d+1):=by
 have:2^(d+1)=2*2^d:=by rw[Nat.pow_succ,Nat.mul_comm]
 have:0<2^d:=Nat.two_pow_pos d;omega
theorem JP{G:Nat}{rawv:E}{at':Nat}{vars props:Int}{tempo:Nat}{q:Int}{l:List (Int×Int)}{d:Nat}{w w5:O}(h0:0<=q)(h1:q<props)(hb:I G w w5)(hg:GrownAt w5 G rawv (at'+1) vars props (tempo:Int) (l++[(13,q)])):EB G rawv at' vars props tempo l d w (M (ZV #[])) w5:=
 ⟨[(13,q)],0,rfl,.prop _ h0 h1,Nat.zero_le _,.inl (by simp),by have:=Vb d;simpa using this,by simpa using hg,hb⟩
theorem L3{G:Nat}{rawv:E}{at':Nat}{vars props:Int}{tempo m:Nat}{l:List (Int×Int)}{d:Nat}{w w5:O}{ta:List (Int×Int)}(hta:ForT props m ta)(hm:m<=tempo)
  (hn:at'+1+ta.length<=13+(d+1)) (h2:ta.length+1<=2^(d+1)) (hb:I G w w5) (hg:GrownAt w5 G rawv (at'+1+ta.length) vars props ((tempo-m:Nat):Int) (l++[(10,0)]++ta)):EB G rawv at' vars props tempo l (d+1) w (M (ZV #[])) w5:=by
 have e1:at'+((10,(0:Int))::ta:List (Int×Int)).length=at'+1+ta.length:=by simp;omega
 have e2:l++(10,(0:Int))::ta=l++[(10,0)]++ta:=by simp
 have e3:2^(d+1+1)=2*2^(d+1):=by rw[Nat.pow_succ,Nat.mul_comm]
 refine⟨(10,0)::ta,m,rfl,.not _ _ hta,hm,?_,?_,?_,hb⟩
 .rw[e1];omega
 .simp only[List.length_cons];rw[e3];omega
 .rw[e1,e2];exact hg
theorem KT{G:Nat}{rawv:E}{at':Nat}{vars props:Int}{tempo m n:Nat}{K:Int}{l:List (Int×Int)}{d:Nat}{w w5:O}{ta tb:List (Int×Int)}(hta:ForT props m ta)(htb:ForT props n tb)(h8:8<=K)(h9:K<=9)(hm:m<=tempo)(hn':n<=tempo-m)
  (hn:at'+1+ta.length+tb.length<=13+(d+1)) (h2:ta.length+1<=2^(d+1)) (h3:tb.length+1<=2^(d+1)) (hb:I G w w5) (hg:GrownAt w5 G rawv (at'+1+ta.length+tb.length) vars props ((tempo-m-n:Nat):Int) (l++[(K,0)]++ta++tb)):EB G rawv at' vars props tempo l (d+1) w (M (ZV #[])) w5:=by
 have e1:at'+((K,(0:Int))::(ta++tb)).length=at'+1+ta.length+tb.length:=by simp;omega
 have e2:l++(K,(0:Int))::(ta++tb)=l++[(K,0)]++ta++tb:=by simp
 have e3:2^(d+1+1)=2*2^(d+1):=by rw[Nat.pow_succ,Nat.mul_comm]
 refine⟨(K,0)::(ta++tb),m+n,rfl,.bin _ _ _ _ _ h8 h9 hta htb,by omega,?_,?_,?_,hb⟩
 .rw[e1];omega
 .simp only[List.length_cons,List.length_append];rw[e3];omega
 .rw[e1,e2,show tempo-(m+n)=tempo-m-n by omega];exact hg
theorem Va{G:Nat}{rawv:E}{at':Nat}{vars props:Int}{tempo m:Nat}{K:Int}{l:List (Int×Int)}{d:Nat}{w w5:O}{ta:List (Int×Int)}(hta:ForT props m ta)(hK:K=14\/K=17\/K=18)(ht:0<tempo)(hm:m<=tempo-1)
  (hn:at'+1+ta.length<=13+(d+1)) (h2:ta.length+1<=2^(d+1)) (hb:I G w w5) (hg:GrownAt w5 G rawv (at'+1+ta.length) vars props ((tempo-1-m:Nat):Int) (l++[(K,0)]++ta)):EB G rawv at' vars props tempo l (d+1) w (M (ZV #[])) w5:=by
 have e1:at'+((K,(0:Int))::ta:List (Int×Int)).length=at'+1+ta.length:=by simp;omega
 have e2:l++(K,(0:Int))::ta=l++[(K,0)]++ta:=by simp
 have e3:2^(d+1+1)=2*2^(d+1):=by rw[Nat.pow_succ,Nat.mul_comm]
 refine⟨(K,0)::ta,m+1,rfl,.tun _ _ _ hK hta,by omega,?_,?_,?_,hb⟩
 .rw[e1];omega
 .simp only[List.length_cons];rw[e3];omega
 .rw[e1,e2,show tempo-(m+1)=tempo-1-m by omega];exact hg
theorem VC{G:Nat}{rawv:E}{at':Nat}{vars props:Int}{tempo m n:Nat}{K:Int}{l:List (Int×Int)}{d:Nat}{w w5:O}{ta tb:List (Int×Int)}(hta:ForT props m ta)(htb:ForT props n tb)(h8:15<=K)(h9:K<=16)(ht:0<tempo)(hm:m<=tempo-1)(hn':n<=tempo-1-m)
  (hn:at'+1+ta.length+tb.length<=13+(d+1)) (h2:ta.length+1<=2^(d+1)) (h3:tb.length+1<=2^(d+1)) (hb:I G w w5) (hg:GrownAt w5 G rawv (at'+1+ta.length+tb.length) vars props ((tempo-1-m-n:Nat):Int) (l++[(K,0)]++ta++tb)):EB G rawv at' vars props tempo l (d+1) w (M (ZV #[])) w5:=by
 have e1:at'+((K,(0:Int))::(ta++tb)).length=at'+1+ta.length+tb.length:=by simp;omega
 have e2:l++(K,(0:Int))::(ta++tb)=l++[(K,0)]++ta++tb:=by simp
 have e3:2^(d+1+1)=2*2^(d+1):=by rw[Nat.pow_succ,Nat.mul_comm]
 refine⟨(K,0)::(ta++tb),m+n+1,rfl,.tbi _ _ _ _ _ h8 h9 hta htb,by omega,?_,?_,?_,hb⟩
 .rw[e1];omega
 .simp only[List.length_cons,List.length_append];rw[e3];omega
 .rw[e1,e2,show tempo-(m+n+1)=tempo-1-m-n by omega];exact hg
theorem K4(G:Nat)(rawv:E)(rs:List (Int×Int))(at':Nat)(vars props:Int)(tempo:Nat)(l:List (Int×Int))(d:Nat)(w:O)(hat:at'<=60)(hl:l.length<=60)(hp1:1<=props)(hp2:props<=100)(hd:d<=100)(hleaf:d=0\/12<=at')
  (hR:Raws w G rawv rs) (h:GrownAt w G rawv at' vars props (tempo:Int) l) :
  ZX Tryz.prog 27 #[ZW (U ⟨G,0,Z⟩),.int Y d] w (EB G rawv at' vars props tempo l d w):=by
 have htake:=NI G rawv rs at' vars props tempo l w (by omega) hR h;have hlt:G<w.heap.size:=h.factsF.2.2.2.2;clear hR h;have htst:((d:Int) == 0)=true\/((d:Int) == 0)=ZS/\decide ((12:Int)<(at':Int)+1)=true:=by
  by_cases h0:d=0
  .left;simp[h0]
  .right;simp;omega
 clear hleaf;rcases htst with hd0|⟨hd0,h10⟩;all_goals
  go_enter Tryz.func27,Tryz.ntmps27;go_wp2_with (first|(go_at_call 50;refine htake.mono ?_;rintro e w1 ⟨k,v,hk,hv,rfl,hg1,hb1⟩;obtain⟨d1,d3,d4,f4,dlt⟩:=hg1.factsF;have hg2:=hg1.alloc (ZY #[ZU Y k,.int Y v] 132))|(go_at_call 21;refine(E8 _ _ _ (by assumption) (by decide) (by decide)).mono ?_;rintro e w2 ⟨r,hr0,hr1,rfl,rfl⟩)|(go_at_call 51;refine(CP G rawv (at'+1) vars props tempo _ _ l _ (by omega) hg2).mono ?_;rintro e w3 ⟨rfl,hg3,hb3⟩))
  have hgd:GrownAt (w1.alloc (ZY #[ZU Y k,.int Y v] 132)).drew G rawv (at'+1) vars props tempo l:=hg2;clear hg1 hg2 htake;go_region_with (first|(go_at_call 21;refine(E8 _ _ _ (by assumption) (by omega) (by omega)).mono ?_;rintro e w2 ⟨q,hq0,hq1,rfl,rfl⟩)|(go_at_call 51;refine(CP G rawv (at'+1) vars props tempo _ _ l _ (by omega) hgd).mono ?_;rintro e w3 ⟨rfl,hg3,hb3⟩))
  all_goals
   go_wp2_with fail
   go_end0
   exact JP hq0 hq1 ((hb1.alloc (Nat.le_of_lt dlt) _).drew.trans hb3) hg3
theorem QN(G:Nat)(rawv:E)(rs:List (Int×Int))(vars props:Int)(hp1:1<=props)(hp2:props<=100)(d:Nat):∀(at':Nat) (tempo:Nat) (l:List (Int×Int)) (w:O),d<=5->tempo<=100->at'<=40->l.length=at'->Raws w G rawv rs->GrownAt w G rawv at' vars props (tempo:Int) l->
  ZX Tryz.prog 27 #[ZW (U ⟨G,0,Z⟩),.int Y d] w (EB G rawv at' vars props tempo l d w):=by
 induction d with
 |zero=>intro at' tempo l w _ _ ha hl hR h;exact K4 G rawv rs at' vars props tempo l 0 w (by omega) (by omega) hp1 hp2 (by omega) (.inl rfl) hR h
 |succ d ih=>
  intro at' tempo l w hd htm ha hl hR h;by_cases hleaf:12<=at'
  .exact K4 G rawv rs at' vars props tempo l (d+1) w (by omega) (by omega) hp1 hp2 (by omega) (.inr hleaf) hR h
  have htake:=NI G rawv rs at' vars props tempo l w (by omega) hR h;have hlt:G<w.heap.size:=h.factsF.2.2.2.2;have HR:ZZ (Raws w G rawv rs):=hR;have HL:ZZ (l.length=at'):=hl;have hl98:l.length<=40:=by omega
  clear hR h hl;have hat10:at'<12:=by omega
  have hdd:((d+1:Nat):Int)=(d:Int)+1:=by omega
  rw[hdd];have hd0:((d:Int)+1 == 0)=false:=by simp;omega
  have h10:decide ((12:Int)<(at':Int)+1)=false:=by simp;omega
  clear hdd hleaf;by_cases ht0:tempo=0
  .have htt:(((tempo:Nat):Int) == 0)=true:=by simp;omega
   clear ht0;go_enter Tryz.func27,Tryz.ntmps27;go_wp2_with (first|(go_at_call 50;refine htake.mono ?_;rintro e w1 ⟨k,v,hk,hv,rfl,hg1,hb1⟩;obtain⟨d1,d3,d4,f4,dlt⟩:=hg1.factsF;have hg2:=hg1.alloc (ZY #[ZU Y k,.int Y v] 132))|(go_at_call 21;refine(E8 _ _ _ (by assumption) (by decide) (by decide)).mono ?_;rintro e w2 ⟨r,hr0,hr1,rfl,rfl⟩;have hcs:r<=8\/r=9\/r=10\/r=11\/r=12\/13<=r:=(by omega);rcases hcs with h9|rfl|rfl|rfl|rfl|h13)|(go_at_call 51;refine(CP G rawv (at'+1) vars props tempo _ _ l _ (by omega) hg2).mono ?_;rintro e w3 ⟨rfl,hg3,hb3⟩))
   .have hgd:GrownAt (w1.alloc (ZY #[ZU Y k,.int Y v] 132)).drew G rawv (at'+1) vars props tempo l:=hg2;clear hg1 hg2 htake ih;go_region_with (first|(go_at_call 21;refine(E8 _ _ _ (by assumption) (by omega) (by omega)).mono ?_;rintro e w2 ⟨q,hq0,hq1,rfl,rfl⟩)|(go_at_call 51;refine(CP G rawv (at'+1) vars props tempo _ _ l _ (by omega) hgd).mono ?_;rintro e w3 ⟨rfl,hg3,hb3⟩))
    all_goals
     go_wp2_with fail
     go_end0
     exact JP hq0 hq1 ((hb1.alloc (Nat.le_of_lt dlt) _).drew.trans hb3) hg3
   all_goals
    have hb13:=(hb1.alloc (Nat.le_of_lt dlt) (ZY #[ZU Y k,.int Y v] 132)).trans hb3;have hn1:=ih (at'+1) tempo _ w3 (by omega) (by omega) (by omega) (by rw[List.length_append,HL.out];rfl) (HR.out.below hb13) hg3;clear hg1 hg2 htake;go_wp2_with (go_at_call 27;refine hn1.mono ?_;rintro e w4 ⟨ta,m,rfl,hta,hm,ha14,h2a,hg4,hb4⟩;have H2a:=(show ZZ _ from h2a);clear h2a)
    first
     |(go_end0;exact L3 hta hm (by omega) H2a.out (hb13.trans hb4) hg4)
     |(have hb14:=hb13.trans hb4;have hn2:=ih (at'+1+ta.length) (tempo-m) _ w4 (by omega) (by omega) (by omega) (by rw[List.length_append,List.length_append,HL.out];rfl) (HR.out.below hb14) hg4;clear hn1 ih;go_wp2_with (go_at_call 27;refine hn2.mono ?_;rintro e w5 ⟨tb,n,rfl,htb,hn,hb14',h2b,hg5,hb5⟩);go_end0;exact KT hta htb (by omega) (by omega) hm hn (by omega) H2a.out h2b (hb14.trans hb5) hg5)
  .have htt:(((tempo:Nat):Int) == 0)=false:=by simp;omega
   have HT0:ZZ (0<tempo):=by show 0<tempo;omega
   have HTI:ZZ ((tempo:Int)-1=((tempo-1:Nat):Int)):=by show _=_;omega
   go_enter Tryz.func27,Tryz.ntmps27;go_wp2_with (first|(go_at_call 50;refine htake.mono ?_;rintro e w1 ⟨k,v,hk,hv,rfl,hg1,hb1⟩;obtain⟨d1,d3,d4,f4,dlt⟩:=hg1.factsF;have hg2:=hg1.alloc (ZY #[ZU Y k,.int Y v] 132))|(go_at_call 21;refine(E8 _ _ _ (by assumption) (by decide) (by decide)).mono ?_;rintro e w2 ⟨r,hr0,hr1,rfl,rfl⟩;have hcs:r<=8\/r=9\/r=10\/r=11\/r=12\/13<=r:=(by omega);rcases hcs with h9|rfl|rfl|rfl|rfl|h13)|(go_at_call 51;refine(CP G rawv (at'+1) vars props tempo _ _ l _ (by omega) hg2).mono ?_;rintro e w3 ⟨rfl,hg3,hb3⟩))
   .have hgd:GrownAt (w1.alloc (ZY #[ZU Y k,.int Y v] 132)).drew G rawv (at'+1) vars props tempo l:=hg2;clear hg1 hg2 htake ih;go_region_with (first|(go_at_call 21;refine(E8 _ _ _ (by assumption) (by omega) (by omega)).mono ?_;rintro e w2 ⟨q,hq0,hq1,rfl,rfl⟩)|(go_at_call 51;refine(CP G rawv (at'+1) vars props tempo _ _ l _ (by omega) hgd).mono ?_;rintro e w3 ⟨rfl,hg3,hb3⟩))
    all_goals
     go_wp2_with fail
     go_end0
     exact JP hq0 hq1 ((hb1.alloc (Nat.le_of_lt dlt) _).drew.trans hb3) hg3
   .have hb13:=(hb1.alloc (Nat.le_of_lt dlt) (ZY #[ZU Y k,.int Y v] 132)).trans hb3;have hn1:=ih (at'+1) tempo _ w3 (by omega) (by omega) (by omega) (by rw[List.length_append,HL.out];rfl) (HR.out.below hb13) hg3;clear hg1 hg2 htake ih;go_wp2_with (go_at_call 27;refine hn1.mono ?_;rintro e w4 ⟨ta,m,rfl,hta,hm,ha14,h2a,hg4,hb4⟩;have H2a:=(show ZZ _ from h2a);clear h2a)
    go_end0
    exact L3 hta hm (by omega) H2a.out (hb13.trans hb4) hg4
   .have hb13:=(hb1.alloc (Nat.le_of_lt dlt) (ZY #[ZU Y k,.int Y v] 132)).trans hb3;have hn1:=ih (at'+1) tempo _ w3 (by omega) (by omega) (by omega) (by rw[List.length_append,HL.out];rfl) (HR.out.below hb13) hg3;clear hg1 hg2 htake;go_wp2_with (go_at_call 27;refine hn1.mono ?_;rintro e w4 ⟨ta,m,rfl,hta,hm,ha14,h2a,hg4,hb4⟩;have H2a:=(show ZZ _ from h2a);clear h2a)
    have hb14:=hb13.trans hb4;have hn2:=ih (at'+1+ta.length) (tempo-m) _ w4 (by omega) (by omega) (by omega) (by rw[List.length_append,List.length_append,HL.out];rfl) (HR.out.below hb14) hg4;clear hn1 ih;go_wp2_with (go_at_call 27;refine hn2.mono ?_;rintro e w5 ⟨tb,n,rfl,htb,hn,hb14',h2b,hg5,hb5⟩)
    go_end0
    exact KT hta htb (by omega) (by omega) hm hn (by omega) H2a.out h2b (hb14.trans hb5) hg5
   iterate 4
    .have hgt:=((hg1.setTempo ((tempo:Int)-1)).alloc (ZY #[ZU Y k,.int Y v] 132)).alloc (ZY #[ZU Y 14,.int Y 17,.int Y 18,.int Y 17] 3);have hbt:=((hb1.setCell (p:=⟨G,4,Z⟩) (Nat.le_refl _) (.int Y ((tempo:Int)-1))).alloc (by simp;omega) (ZY #[ZU Y k,.int Y v] 132)).alloc (by simp;omega) (ZY #[ZU Y 14,.int Y 17,.int Y 18,.int Y 17] 3);have hpt:=fun kk=>CP G rawv (at'+1) vars props ((tempo:Int)-1) kk 0 l _ (by omega) hgt;clear hg1 hg2 htake hgt;go_wp2_with (go_at_call 51;refine(hpt _).mono ?_;rintro e w3 ⟨rfl,hg3,hb3⟩)
     have hb13:=hbt.trans hb3;rw[HTI.out]at hg3;clear hpt;have hn1:=ih (at'+1) (tempo-1) _ w3 (by omega) (by omega) (by omega) (by rw[List.length_append,HL.out];rfl) (HR.out.below hb13) hg3;clear ih;go_wp2_with (go_at_call 27;refine hn1.mono ?_;rintro e w4 ⟨ta,m,rfl,hta,hm,ha14,h2a,hg4,hb4⟩;have H2a:=(show ZZ _ from h2a);clear h2a)
     go_end0
     exact Va hta (by decide) HT0.out hm (by omega) H2a.out (hb13.trans hb4) hg4
   .have hgt:=(hg1.setTempo ((tempo:Int)-1)).alloc (ZY #[ZU Y k,.int Y v] 132);have hbt:=(hb1.setCell (p:=⟨G,4,Z⟩) (Nat.le_refl _) (.int Y ((tempo:Int)-1))).alloc (by simp;omega) (ZY #[ZU Y k,.int Y v] 132);have hpt:=fun kk=>CP G rawv (at'+1) vars props ((tempo:Int)-1) kk 0 l _ (by omega) hgt;clear hg1 hg2 htake hgt;go_wp2_with (go_at_call 51;refine(hpt _).mono ?_;rintro e w3 ⟨rfl,hg3,hb3⟩)
    have hb13:=hbt.trans hb3;rw[HTI.out]at hg3;clear hpt;have hn1:=ih (at'+1) (tempo-1) _ w3 (by omega) (by omega) (by omega) (by rw[List.length_append,HL.out];rfl) (HR.out.below hb13) hg3;go_wp2_with (go_at_call 27;refine hn1.mono ?_;rintro e w4 ⟨ta,m,rfl,hta,hm,ha14,h2a,hg4,hb4⟩;have H2a:=(show ZZ _ from h2a);clear h2a)
    have hb14:=hb13.trans hb4;have hn2:=ih (at'+1+ta.length) ((tempo-1)-m) _ w4 (by omega) (by omega) (by omega) (by rw[List.length_append,List.length_append,HL.out];rfl) (HR.out.below hb14) hg4;clear hn1 ih;go_wp2_with (go_at_call 27;refine hn2.mono ?_;rintro e w5 ⟨tb,n,rfl,htb,hn,hb14',h2b,hg5,hb5⟩)
    go_end0
    exact VC hta htb (by omega) (by omega) HT0.out hm hn (by omega) H2a.out h2b (hb14.trans hb5) hg5
theorem Qe(w:O)(rawv:E)(vars props tempo:Int) :
  GrownAt (w.alloc (ZY #[rawv,.int Y 0,.int Y vars,.int Y props,.int Y tempo,X Z 0 0] 104)) w.heap.size rawv 0 vars props tempo []:=
 ⟨_,blk_alloc_new _ _,World.ownsRow_nil _ _ _ _⟩
theorem QM(rawv:E)(rs:List (Int×Int))(props:Int)(tempo:Nat)(w:O)(hp1:1<=props)(hp2:props<=100)(ht:tempo<=100)(hR:Raws w w.heap.size rawv rs) :
  ZX Tryz.prog 15 #[rawv,.int Y props,.int Y (tempo:Int)] w fun e w'=>∃a c t m,e=M (.slice a t.length c)/\ForT props m t/\m<=tempo/\t.length<=17/\OpsV w' (.slice a t.length c) t/\I w.heap.size w w':=by
 have hb0:=(Below.refl w.heap.size w).alloc (Nat.le_refl _) (ZY #[rawv,.int Y 0,.int Y 0,.int Y props,.int Y (tempo:Int),X Z 0 0] 104);have htr:=QN w.heap.size rawv rs 0 props hp1 hp2 4 0 tempo [] _ (by omega) ht (by omega) rfl (hR.below hb0) (Qe w rawv 0 props tempo);obtain⟨ra,rn,rc,hra⟩:∃a n c,rawv=X a n c:=by obtain⟨⟨a,c,h,_⟩,_,_⟩:=hR;exact⟨_,_,_,h⟩
 subst hra;clear hR;go_enter Tryz.func15,Tryz.ntmps15;go_wp2_with (go_at_call 27;refine htr.mono ?_;rintro e w1 ⟨t,m,rfl,ht,hm,hlen,_,hg1,hb1⟩;obtain⟨outv,hh,ho⟩:=hg1;obtain⟨_,_,_,c5,_,hlt⟩:=Ds hh)
 go_ret;rw[List.nil_append]at ho;obtain⟨a,c,rfl⟩:=A1 ho;exact⟨a,c,t,m,rfl,ht,hm,by omega,Gn ho,hb0.trans hb1⟩
structure FOk(m:Nat)(t:List (Int×Int))(T:Tm):Prop where
 ops:T.ops=t
 wf:T.Wf
 good:∀o,o∈t->Ay 3 o=0
 many:(t.filter fun o=>Af o.1).length=m
theorem FOk.not{m:Nat}{t:List (Int×Int)}{T:Tm}(h:FOk m t T):FOk m ((10,0)::t) (.un 10 0 T):=by
 obtain⟨h1,h2,h3,h4⟩:=h;refine⟨by simp[Tm.ops,h1],⟨by decide,by decide,h2⟩,fun o ho=>?_,?_⟩
 .rcases List.mem_cons.1 ho with rfl|ho
  .rfl
  .exact h3 o ho
 .rw[List.filter_cons,if_neg (by decide)];exact h4
theorem FOk.tun{m:Nat}{k:Int}{t:List (Int×Int)}{T:Tm}(hk:k=14\/k=17\/k=18)(h:FOk m t T):FOk (m+1) ((k,0)::t) (.un k 0 T):=by
 obtain⟨h1,h2,h3,h4⟩:=h;refine⟨by simp[Tm.ops,h1],?_,fun o ho=>?_,?_⟩
 .rcases hk with rfl|rfl|rfl<;>exact⟨by decide,by decide,h2⟩
 .rcases List.mem_cons.1 ho with rfl|ho
  .rcases hk with rfl|rfl|rfl<;>rfl
  .exact h3 o ho
 .rw[List.filter_cons,if_pos (by rcases hk with rfl|rfl|rfl<;>decide),List.length_cons,h4]
theorem FOk.bin{m n:Nat}{k:Int}{t s:List (Int×Int)}{T S:Tm}(h8:8<=k)(h9:k<=9)(h:FOk m t T)(g:FOk n s S):FOk (m+n) ((k,0)::(t++s)) (.bi k 0 T S):=by
 obtain⟨h1,h2,h3,h4⟩:=h;obtain⟨g1,g2,g3,g4⟩:=g;have hk:k=8\/k=9:=by omega
 refine⟨by simp[Tm.ops,h1,g1],?_,fun o ho=>?_,?_⟩
 .rcases hk with rfl|rfl<;>exact⟨by decide,by decide,h2,g2⟩
 .rcases List.mem_cons.1 ho with rfl|ho
  .rcases hk with rfl|rfl<;>rfl
  .rcases List.mem_append.1 ho with ho|ho
   .exact h3 o ho
   .exact g3 o ho
 .rw[List.filter_cons,if_neg (by rcases hk with rfl|rfl<;>decide),List.filter_append,List.length_append,h4,g4]
theorem FOk.tbi{m n:Nat}{k:Int}{t s:List (Int×Int)}{T S:Tm}(h8:15<=k)(h9:k<=16)(h:FOk m t T)(g:FOk n s S):FOk (m+n+1) ((k,0)::(t++s)) (.bi k 0 T S):=by
 obtain⟨h1,h2,h3,h4⟩:=h;obtain⟨g1,g2,g3,g4⟩:=g;have hk:k=15\/k=16:=by omega
 refine⟨by simp[Tm.ops,h1,g1],?_,fun o ho=>?_,?_⟩
 .rcases hk with rfl|rfl<;>exact⟨by decide,by decide,h2,g2⟩
 .rcases List.mem_cons.1 ho with rfl|ho
  .rcases hk with rfl|rfl<;>rfl
  .rcases List.mem_append.1 ho with ho|ho
   .exact h3 o ho
   .exact g3 o ho
 .rw[List.filter_cons,if_pos (by rcases hk with rfl|rfl<;>decide),List.length_cons,List.filter_append,List.length_append,h4,g4]
theorem ForT.ok{m:Nat}{t:List (Int×Int)}(h:ForT 3 m t):∃T,FOk m t T:=by
 induction h with
 |prop v h0 h1=>
  refine⟨.leaf 13 v,rfl,⟨by decide,by decide⟩,fun o ho=>?_,by rw[List.filter_cons,if_neg (by show¬Af 13=true;decide)];rfl⟩;obtain rfl:o=(13,v):=by simpa using ho
  unfold Ay;rw[if_neg (by show¬(13:Int)<8;decide),if_neg (by simp;omega)]
 |not m a _ ih=>obtain⟨T,hT⟩:=ih;exact⟨_,hT.not⟩
 |bin m n k a b h8 h9 _ _ iha ihb=>obtain⟨A,hA⟩:=iha;obtain⟨B,hB⟩:=ihb;exact⟨_,hA.bin h8 h9 hB⟩
 |tun m k a hk _ ih=>obtain⟨T,hT⟩:=ih;exact⟨_,hT.tun hk⟩
 |tbi m n k a b h8 h9 _ _ iha ihb=>obtain⟨A,hA⟩:=iha;obtain⟨B,hB⟩:=ihb;exact⟨_,hA.tbi h8 h9 hB⟩
theorem ForT.ne{props:Int}{m:Nat}{t:List (Int×Int)}(h:ForT props m t):t≠[]:=by cases h<;>simp
theorem N7(l:List (Int×Int)):∀n,n<=l.length->(AN l n).length=((l.take n).filter fun o=>Af o.1).length:=by
 intro n;induction n with
 |zero=>intro _;rfl
 |succ n ih=>
  intro hn;rw[List.take_succ_eq_append_getElem (by omega),List.filter_append,List.length_append,<-ih (by omega)];simp only[AN,List.length_append];congr 1
  rw[List.getD_eq_getElem?_getD,List.getElem?_eq_getElem (by omega),Option.getD_some,List.filter_cons];cases Af (l[n]).1<;>simp
theorem FOk.ahead{m:Nat}{t:List (Int×Int)}{T:Tm}(h:FOk m t T):(AA t).length=m:=by
 unfold AA;rw[N7 t t.length (Nat.le_refl _),List.take_length,h.many]
theorem FOk.size{m:Nat}{t:List (Int×Int)}{T:Tm}(h:FOk m t T):T.size=t.length:=by rw[<-Tm.ops_length,h.ops]
theorem FOk.ends{m:Nat}{t:List (Int×Int)}{T:Tm}(h:FOk m t T)(hl:t.length<=60):AR (t.map Prod.fst)=0:=by
 have h1:=Tm.one h.wf;rw[h.ops]at h1;unfold AR;rw[List.length_map,if_neg (by have:=h.size;have:=T.size_pos;omega),h1,h.size];simp
theorem FOk.code{m:Nat}{t:List (Int×Int)}{T:Tm}(h:FOk m t T)(hl:t.length<=60)(hm:m<=6):Aa 3 t=0:=by
 rw[Ij (by omega) (h.ends hl) (Lh fun j hj=>h.good _ (by rw[List.getD_eq_getElem?_getD,List.getElem?_eq_getElem hj,Option.getD_some];exact List.getElem_mem hj)),h.ahead,if_neg (by omega)]
open Go.ChangeShapes Go.WideShapes Go.ChangeAt Go.RowKit Go.Deep Go.Joins
section
variable{H:Type}{enc:TypeId×E -> H}{W:O}
def FQ(t:TypeId)(d:DataW H):Prop:=∀n∈d.weights Tryz.prog t,n<=reachBytes
theorem Lq{P:Program}{e:TypeId}{x:DataW H}{n:Nat}(hn:n∈x.weights P e):∀{l:List (DataW H)},x∈l->n∈DataW.weightsAll P e l
 |y::l,hx=>by
  simp only[DataW.weightsAll,List.mem_append];rcases List.mem_cons.1 hx with rfl|hx
  .exact .inl hn
  .exact .inr (Lq hn hx)
theorem FQ.slice{t e:TypeId}{elems spare:List (DataW H)}(hu:Tryz.prog.underlying t=U (.slice e))(h:FQ t (.slice elems spare)):(elems.length+spare.length)*Tryz.prog.bytesOf e<=reachBytes/\∀x∈elems,FQ e x:=by
 refine⟨h _ (by simp[DataW.weights,hu]),fun x hx n hn=>h n ?_⟩;simp only[DataW.weights,hu,List.mem_cons,List.mem_append];exact .inr (.inl (Lq hn hx))
theorem Mb{α:Type}(f:Nat->α)(d:α){n i:Nat}(hi:i<n):((List.range n).map f).getD i d=f i:=by simp[List.getD_eq_getElem?_getD,hi]
end
structure IntsR(w:O)(v:E)(l:List Int):Prop where
 v:IntsV w v l
 len:l.length<=140737488355328
 range:∀i,i<l.length->I64 (l.getD i 0)
theorem U8{ts:List (List (Int×Int))}{i:Nat}(hi:i<ts.length):(ts.take (i+1)).flatten=(ts.take i).flatten++ts.getD i []:=by
 rw[List.take_succ_eq_append_getElem hi,List.flatten_append];simp[List.getD_eq_getElem?_getD,hi]
theorem Q8(kind:Int)(v:E)(ts:List (List (Int×Int)))(w:O)(hn:ts.length<=10)(hl:∀i,i<=ts.length->(ts.take i).flatten.length<=200)(hne:∀i,i<ts.length->ts.getD i []≠[])(hV:TermsV w v ts) :
  ZX Tryz.prog 26 #[ZU Y kind,v] w fun e w'=>∃v',e=M v'/\I w.heap.size w w'/\w'.ownsRow w.heap.size 100 2 v' ((kind,0)::ts.flatten).length (flat ((kind,0)::ts.flatten)):=by
 obtain⟨i0,hi,hz0,hz1,hz2⟩:=info_parts LL;obtain⟨va,vc,rfl,hat⟩:=hV;obtain⟨n,hnn⟩:∃n,n=ts.length:=⟨_,rfl⟩;have HN:ZZ (n=ts.length):=hnn;have HL:=(show ZZ _ from hl);have HNE:=(show ZZ _ from hne);have HA:=(show ZZ _ from hat);rw[<-hnn]at hn⊢;clear hl hne hat hnn;go_enter Tryz.func26,Tryz.ntmps26;go_wp2_with fail
 go_loopw [5,6] (fun out c wr=>∃i:Nat,i<=n/\c=.int Y i/\wr.ownsRow w.heap.size 100 2 out ((ts.take i).flatten.length+1) (flat ((kind,0)::(ts.take i).flatten))/\I w.heap.size w wr) (fun _ c _=>n-(intOf c).toNat)
 case atStart=>exact⟨0,Nat.zero_le _,rfl,World.ownsRow_lit w #[ZU Y kind,.int Y 0] 1 (Nat.le_refl _) (by unfold maxLen;omega) rfl,(Below.refl _ _).alloc (Nat.le_refl _) _⟩
 case round=>
  obtain⟨i,hile,rfl,hown,hbel⟩:=hrel;by_cases hlt:i<n
  .have hlt':i<ts.length:=by rw[<-HN.out];exact hlt
   obtain⟨b,off,rfl,hbl,hcs⟩:=HA.out (by intro h;rw[h]at hlt';simp at hlt');obtain⟨u,hu,hou⟩:=hcs i hlt';have hcu:=(hbel.cell (p:=⟨b,off+i,Z⟩) hbl).trans hu;obtain⟨ua,uc,hus,_,huat⟩:=hou.below hbel;obtain⟨ub,uoff,rfl,hubl,huat⟩:=huat (HNE.out i hlt');have HS:ZZ ((ts.take (i+1)).flatten=(ts.take i).flatten++ts.getD i []):=U8 hlt';have hl1:=HL.out (i+1) (by omega);rw[HS.out,List.length_append]at hl1;have HC:ZZ (∀j x,(flat (ts.getD i []))[j]? = U x->wr.cell? ((⟨ub,uoff,Z⟩:Addr).add j)=U x):=huat.cells;obtain⟨m,hm⟩:∃m,m=(ts.getD i []).length:=⟨_,rfl⟩;have HM:ZZ (m=(ts.getD i []).length):=hm;rw[<-hm]at hus hl1;subst hus;obtain⟨q,hq⟩:∃q,q=(ts.take i).flatten.length:=⟨_,rfl⟩;have HQ:ZZ (q=(ts.take i).flatten.length):=hq;rw[<-hq]at hown hl1;clear hou hu hcs huat hm hq hlt';generalize ts.getD i []=tt at HC HM HS;go_wp2_with (at_builtin;refine wpList_append_own _ rfl (.tmp 16) (.tmp 20) 33 rfl w.heap.size 100 i0 (ZT #[ZU Y 0,.int Y 0]) 2 16 Tryz.underlying33 hi hz0 hz1 hz2 rfl (by decide) _ _ _ rfl hown ⟨ub,uoff,Z⟩ m uc (flat tt) rfl ?c0 HC.out (IW _) ?c3 ?c4 ?c5 ?_)
   case c0=>rw[GR,HM.out]
   case c3=>unfold maxLen;omega
   case c4=>omega
   case c5=>exact hbel.size
   intro v' w4 hown' hgrow _;have hb4:I w.heap.size w w4:=hbel.grown hgrow hbel.size (fun k hk=>(hown.lt k hk).1);have ho4:w4.ownsRow w.heap.size 100 2 v' ((ts.take (i+1)).flatten.length+1) (flat ((kind,0)::(ts.take (i+1)).flatten)):=by
    have e1:(ts.take (i+1)).flatten.length+1=q+1+m:=by rw[HS.out,List.length_append,<-HQ.out,<-HM.out];omega
    have e2:flat ((kind,0)::(ts.take (i+1)).flatten)=flat ((kind,0)::(ts.take i).flatten)++flat tt:=by rw[HS.out,<-Fa];rfl
    rw[e1,e2];exact hown'
   clear hown' hgrow hown;go_wp2;go_roundw
   case rel=>exact⟨i+1,by omega,by go_num,ho4,hb4⟩
   case measure=>simp[intOf];omega
  .have hin:i=n:=by omega
   subst hin;rw[show ts.take i=ts by rw[HN.out,List.take_length]]at hown;clear hlt hile;go_wp2_with fail
   go_ret;exact⟨_,rfl,hbel,hown⟩
theorem Ig(kind:Int)(g:Nat)(lv mv:E)(l m:List (Int×Int))(w:O)(hc:w.cell? ⟨g,0,Z⟩=U lv)(hd:w.cell? ⟨g,1,Z⟩=U mv)(hl:l.length<=60)(hm:m.length<=60)(hne:l≠[])(hne2:m≠[])(hV:OpsV w lv l)(hM:OpsV w mv m) :
  ZX Tryz.prog 26 #[ZU Y kind,X (U ⟨g,0,Z⟩) 2 2] w fun e w'=>∃a c,e=M (.slice a ((kind,0)::(l++m)).length c)/\I w.heap.size w w'/\OpsV w' (.slice a ((kind,0)::(l++m)).length c) ((kind,0)::(l++m)):=by
 have hT:TermsV w (X (U ⟨g,0,Z⟩) 2 2) [l,m]:=⟨_,2,rfl,fun _=>⟨g,0,rfl,World.block_lt_of_cell? w ⟨g,0,Z⟩ hc,fun i hi=>by
  have:i=0\/i=1:=by simp at hi;omega
  rcases this with rfl|rfl
  .exact ⟨lv,hc,hV⟩
  .exact ⟨mv,hd,hM⟩⟩⟩
 refine(Q8 kind _ [l,m] w (by simp) (fun i hi=>?_) (fun i hi=>?_) hT).mono fun e w' ⟨v',he,hb,ho⟩=>?_
 .have:i=0\/i=1\/i=2:=by simp at hi;omega
  rcases this with rfl|rfl|rfl<;>simp<;>omega
 .have:i=0\/i=1:=by simp at hi;omega
  rcases this with rfl|rfl
  .exact hne
  .exact hne2
 .have h2:[l,m].flatten=l++m:=by simp
  rw[h2]at ho;obtain⟨a,c,rfl⟩:=A1 ho;exact⟨a,c,he,hb,Gn ho⟩
theorem Raws.up{w w':O}{v:E}{rs:List (Int×Int)}(h:Raws w w.heap.size v rs)(hb:I w.heap.size w w'):Raws w' w'.heap.size v rs:=by
 obtain⟨⟨ao,cap,hv,h1⟩,h2,h3⟩:=h;refine⟨⟨ao,cap,hv,fun hne=>?_⟩,h2,h3⟩;obtain⟨b,off,ha,hlt,hat⟩:=h1 hne;exact⟨b,off,ha,Nat.lt_of_lt_of_le hlt hb.size,hat.below hb hlt⟩
section
variable{H:Type}{enc:TypeId×E -> H}{W:O}
theorem Ok:Tryz.prog.bytesOf 3=8:=by kernel_rfl
theorem Sj{fuel:Nat}{v:E}{d:DataW H}{p:List MemPlace}(hf:DataW.trod enc Tryz.prog W 0 (fun _=>true) true fuel 43 [v]=U (d,p))(hw:FQ 43 d):∃l,IntsR W v l:=by
 rcases open_slice1 Tryz.underlying43 Dm hf with⟨hcs,hx⟩|⟨a,len,cap,m,n,V,D,Pl,hcs,_,hl,hm,hmm,hx,hcell⟩
 .simp at hcs;subst hcs;exact⟨[],⟨Z,0,rfl,fun h=>absurd rfl h⟩,by simp,fun i hi=>by simp at hi⟩
 .simp at hcs;subst hcs;simp at hmm;subst hmm;rw[(Prod.mk.inj hx).1]at hw;have hs:=(hw.slice Tryz.underlying43).1;rw[Ok]at hs;simp only[List.length_map,List.length_range,reachBytes]at hs;have each:∀i,i<len->∃x0,W.cell? (a.add i)=U (.int Y x0)/\V i=.int Y x0/\I64 x0:=by
   intro i hi;obtain⟨c0,t0⟩:=hcell i (by omega);obtain⟨x0,e0,_,w0⟩:=DataW.trod_int Tryz.underlying3 t0;simp at e0;exact⟨x0,by rw[c0,e0],e0,by simpa[I64,Lit.wf,IntKind.min,IntKind.max,IntKind.signed,IntKind.bits]using w0⟩
  refine⟨(List.range len).map fun i=>intOf (V i),⟨U a,m,by simp,fun hne=>?_⟩,by simp;omega,fun i hi=>?_⟩
  .have hpos:0<len:=by
    rcases Nat.eq_zero_or_pos len with h0|h0
    .subst h0;simp at hne
    .exact h0
   obtain⟨b,off,spot⟩:=a;have hspot:spot=none:=by simpa[Addr.add]using World.cell?_spot (hcell 0 (by omega)).1
   subst hspot;refine⟨b,off,rfl,?_,fun i hi=>?_⟩
   .have:=World.block_lt_of_cell? W _ (hcell 0 (by omega)).1;simpa[Addr.add]using this
   .simp only[List.length_map,List.length_range]at hi;obtain⟨x0,c0,e0,_⟩:=each i hi;rw[add_plain]at c0;rw[c0,Mb _ _ hi,e0];rfl
  .simp only[List.length_map,List.length_range]at hi;obtain⟨x0,_,e0,h0⟩:=each i hi;rw[Mb _ _ hi,e0];exact h0
end
theorem Si{H:Type}{enc:TypeId×E->H}{W:O}{base:Nat}{v:E}{d:DataW H}{p:List MemPlace}{ts:List TypeId}{ds:List (DataW H)}{j:Nat}
  (hv:Value.okWide Tryz.prog W .any base 43 v) (h:DataW.Trod enc Tryz.prog W 0 (fun _=>true) true 43 v d p)
  (hsz:(DataW.weightsEach Tryz.prog ts ds).all (·<=reachBytes)=true) (ht:ts[j]? = U 43) (hd:ds[j]? = U d):∃l,IntsR W v l:=by
 obtain⟨a0,len0,cap0,rfl⟩:=okWide_slice Tryz.underlying43 hv;obtain⟨fuel,hf⟩:=h;have hw:FQ 43 d:=fun n hn=>by
  have:=List.all_eq_true.1 hsz _ (DataW.weights_mem_each ht hd n hn);simpa using this
 exact Sj (fuel:=fuel) hf hw
open Go.Shelf
def RN:Go.Shelf.Ren:=⟨fun|189=>151|125=>176|257=>175|128=>192|129=>193|294=>184|295=>185|296=>186|297=>187|298=>188|299=>189|216=>162|300=>190|301=>191|328=>197|329=>198|330=>199|331=>200|332=>201|215=>182|343=>203|n=>n,fun|28=>43|3=>3|46=>255|0=>0|51=>278|53=>280|4=>4|183=>272|182=>271|131=>117|5=>5|9=>9|218=>282|222=>286|228=>289|229=>290|n=>n,fun|n=>n⟩
theorem LX:Go.Proofs.Lays.n189 Tryz.prog RN:={
 mixed:=by kernel_rfl
 f125:=Tryz.func176.trans (congrArg U (by kernel_rfl))
 f128:=Tryz.func192.trans (congrArg U (by kernel_rfl))
 f129:=Tryz.func193.trans (congrArg U (by kernel_rfl))
 f189:=Tryz.func151.trans (congrArg U (by kernel_rfl))
 f215:=Tryz.func182.trans (congrArg U (by kernel_rfl))
 f216:=Tryz.func162.trans (congrArg U (by kernel_rfl))
 f257:=Tryz.func175.trans (congrArg U (by kernel_rfl))
 f294:=Tryz.func184.trans (congrArg U (by kernel_rfl))
 f295:=Tryz.func185.trans (congrArg U (by kernel_rfl))
 f296:=Tryz.func186.trans (congrArg U (by kernel_rfl))
 f297:=Tryz.func187.trans (congrArg U (by kernel_rfl))
 f298:=Tryz.func188.trans (congrArg U (by kernel_rfl))
 f299:=Tryz.func189.trans (congrArg U (by kernel_rfl))
 f300:=Tryz.func190.trans (congrArg U (by kernel_rfl))
 f301:=Tryz.func191.trans (congrArg U (by kernel_rfl))
 f328:=Tryz.func197.trans (congrArg U (by kernel_rfl))
 f329:=Tryz.func198.trans (congrArg U (by kernel_rfl))
 f330:=Tryz.func199.trans (congrArg U (by kernel_rfl))
 f331:=Tryz.func200.trans (congrArg U (by kernel_rfl))
 f332:=Tryz.func201.trans (congrArg U (by kernel_rfl))
 f343:=Tryz.func203.trans (congrArg U (by kernel_rfl))
 t0:=Tryz.underlying0
 a0:=Tryz.isAgg0
 z0:=Tryz.sizeOf0
 v0:=Tryz.zeroValue0
 t3:=Tryz.underlying3
 a3:=Tryz.isAgg3
 z3:=Tryz.sizeOf3
 v3:=Tryz.zeroValue3
 t4:=Tryz.underlying4
 a4:=Tryz.isAgg4
 z4:=Tryz.sizeOf4
 v4:=Tryz.zeroValue4
 t5:=Tryz.underlying5
 a5:=Tryz.isAgg5
 z5:=Tryz.sizeOf5
 v5:=Tryz.zeroValue5
 t9:=Tryz.underlying9
 a9:=Tryz.isAgg9
 z9:=Tryz.sizeOf9
 v9:=Tryz.zeroValue9
 t28:=Tryz.underlying43
 a28:=Tryz.isAgg43
 z28:=Tryz.sizeOf43
 v28:=Tryz.zeroValue43
 t46:=Tryz.underlying255
 a46:=Tryz.isAgg255
 z46:=Tryz.sizeOf255
 v46:=Tryz.zeroValue255
 t51:=Tryz.underlying278
 a51:=Tryz.isAgg278
 z51:=Tryz.sizeOf278
 v51:=Tryz.zeroValue278
 t53:=Tryz.underlying280
 a53:=Tryz.isAgg280
 z53:=Tryz.sizeOf280
 v53:=Tryz.zeroValue280
 t131:=Tryz.underlying117
 a131:=Tryz.isAgg117
 z131:=Tryz.sizeOf117
 v131:=Tryz.zeroValue117
 t182:=Tryz.underlying271
 a182:=Tryz.isAgg271
 z182:=Tryz.sizeOf271
 v182:=Tryz.zeroValue271
 t183:=Tryz.underlying272
 a183:=Tryz.isAgg272
 z183:=Tryz.sizeOf272
 v183:=Tryz.zeroValue272
 t218:=Tryz.underlying282
 a218:=Tryz.isAgg282
 z218:=Tryz.sizeOf282
 v218:=Tryz.zeroValue282
 t222:=Tryz.underlying286
 a222:=Tryz.isAgg286
 z222:=Tryz.sizeOf286
 v222:=Tryz.zeroValue286
 t228:=Tryz.underlying289
 a228:=Tryz.isAgg289
 z228:=Tryz.sizeOf289
 v228:=Tryz.zeroValue289
 t229:=Tryz.underlying290
 a229:=Tryz.isAgg290
 z229:=Tryz.sizeOf290
 v229:=Tryz.zeroValue290}
open Go.Sort Go.RowKit in
theorem slices_Sort_int(blk off cap:Nat)(zs:List Int)(w:O)(hH:Holds (Value.int .i64) w blk off zs.toArray)(hblk:blk<w.heap.size)(hsz:zs.length<4611686018427387904) :
  ZX Tryz.prog 151 #[X (U ⟨blk,off,Z⟩) zs.length cap] w fun e w'=>
   e=M (ZV #[])/\∃n os,w'=grow (putRow (Value.int .i64) (Sort.ahead w n) blk off (zs.mergeSort fun x y=>decide (x<=y)).toArray) os:=Any.slices_Sort_int LX blk off cap zs w hH hblk hsz
def RR:Go.Shelf.Ren:=⟨fun|20=>152|n=>n,fun|22=>43|3=>3|4=>4|0=>0|n=>n,fun|n=>n⟩
theorem RQ:Go.Proofs.Lays2.n20 Tryz.prog RR:={
 mixed:=by kernel_rfl
 f20:=Tryz.func152.trans (congrArg U (by kernel_rfl))
 t0:=Tryz.underlying0
 a0:=Tryz.isAgg0
 z0:=Tryz.sizeOf0
 v0:=Tryz.zeroValue0
 t3:=Tryz.underlying3
 a3:=Tryz.isAgg3
 z3:=Tryz.sizeOf3
 v3:=Tryz.zeroValue3
 t4:=Tryz.underlying4
 a4:=Tryz.isAgg4
 z4:=Tryz.sizeOf4
 v4:=Tryz.zeroValue4
 t22:=Tryz.underlying43
 a22:=Tryz.isAgg43
 z22:=Tryz.sizeOf43
 v22:=Tryz.zeroValue43
 i3:=by kernel_rfl}
open Go.RowKit Go.Lib Go.Sort in
theorem slices_Compact_int(blk off cap:Nat)(zs:List Int)(w:O)(hH:Holds (Value.int .i64) w blk off zs.toArray)(hsz:zs.length<=9223372036854775807)(hcap:zs.length<=cap) :
  ZX Tryz.prog 152 #[X (U ⟨blk,off,Z⟩) zs.length cap] w fun e w'=>e=M (X (U ⟨blk,off,Z⟩) (Lib.compact zs).length cap)/\∃q,w'=putRow (Value.int .i64) (Sort.ahead w q) blk off (Lib.compact zs++List.replicate (zs.length-(Lib.compact zs).length) 0).toArray:=Any.slices_Compact_int RQ blk off cap zs w hH hsz hcap
def RS:Go.Shelf.Ren:=⟨fun|25=>131|31=>162|32=>163|37=>182|n=>n,fun|22=>43|3=>3|4=>4|40=>255|0=>0|n=>n,fun|n=>n⟩
theorem LY:Go.Proofs.Lays2.n25 Tryz.prog RS:={
 mixed:=by kernel_rfl
 f25:=Tryz.func131.trans (congrArg U (by kernel_rfl))
 f31:=Tryz.func162.trans (congrArg U (by kernel_rfl))
 f32:=Tryz.func163.trans (congrArg U (by kernel_rfl))
 f37:=Tryz.func182.trans (congrArg U (by kernel_rfl))
 t0:=Tryz.underlying0
 a0:=Tryz.isAgg0
 z0:=Tryz.sizeOf0
 v0:=Tryz.zeroValue0
 t3:=Tryz.underlying3
 a3:=Tryz.isAgg3
 z3:=Tryz.sizeOf3
 v3:=Tryz.zeroValue3
 t4:=Tryz.underlying4
 a4:=Tryz.isAgg4
 z4:=Tryz.sizeOf4
 v4:=Tryz.zeroValue4
 t22:=Tryz.underlying43
 a22:=Tryz.isAgg43
 z22:=Tryz.sizeOf43
 v22:=Tryz.zeroValue43
 t40:=Tryz.underlying255
 a40:=Tryz.isAgg255
 z40:=Tryz.sizeOf255
 v40:=Tryz.zeroValue255}
open Go.RowKit Go.Lib in
theorem slices_BinarySearch_int(b off n c:Nat)(zs:List Int)(x:Int)(w:O)(hz:n<=zs.length)(hbig:n<4611686018427387904)(hc:∀j,j<zs.length->w.cell? ⟨b,off+j,Z⟩=U (.int Y (zs.getD j 0)))(hs:(zs.take n).Pairwise (· <= ·)) :
  ZX Tryz.prog 131 #[X (U ⟨b,off,Z⟩) n c,.int Y x] w fun e w'=>e=M (ZV #[ZU Y ((zs.take n).countP (· < x):Nat),.bool ((zs.take n).contains x)])/\∃q,w'=w.drewN q:=Any.slices_BinarySearch_int LY b off n c zs x w hz hbig hc hs
open Go.RowKit Go.Sort in
theorem slices_Sort_int_none(p:Option Addr)(cap:Nat)(w:O) :
  ZX Tryz.prog 151 #[X p 0 cap] w fun e w'=>e=M (ZV #[])/\w'=w:=Any.slices_Sort_int_none LX p cap w
theorem slices_BinarySearch_int_empty(a:Option Addr)(c:Nat)(x:Int)(w:O) :
  ZX Tryz.prog 131 #[X a 0 c,.int Y x] w fun e w'=>e=M (ZV #[ZU Y 0,.bool ZS])/\w'=w:=Any.slices_BinarySearch_int_empty LY a c x w
open Go.RowKit Go.Sort
def leB(x y:Int):Bool:=decide (x<=y)
theorem NB(g cap base:Nat)(zs:List Int)(w:O)(hz:zs.length<=100000)(ho:w.ownsRow base 3 1 (X (U ⟨g,0,Z⟩) zs.length cap) zs.length (AB zs)) :
  ZX Tryz.prog 151 #[X (U ⟨g,0,Z⟩) zs.length cap] w fun e w'=>e=M (ZV #[])/\w.grownBy w' (U g)/\w'.ownsRow base 3 1 (X (U ⟨g,0,Z⟩) zs.length cap) zs.length (AB (zs.mergeSort leB)):=by
 have ho':w.ownsRow base 3 1 (X (U ⟨g,0,Z⟩) zs.length cap) zs.length (zs.map (Value.int .i64)):=ho;obtain⟨g',cap',hv,hbg,hlt,hn,hm,hl,hH⟩:=Lib.holds_of_ownsRow ho' (by simp);injection hv with h1 h2 h3;injection h1 with h1;injection h1 with h1;subst h1 h3;rcases ho.2 with⟨e0,_⟩|⟨g2,cap2,cur,e0,hb,hg,hnc,hcm,hcs,ht⟩
 .cases e0
 .injection e0 with e1 _ e3;injection e1 with e1;injection e1 with e1;subst e1 e3;refine(slices_Sort_int g 0 cap zs w hH hlt (by omega)).mono fun e w' ⟨he,n,os,hw⟩=>⟨he,?_,?_⟩
  .rw[hw];exact grownBy_sortedI _
  .rw[hw];exact ownsRow_sortedI (ts:=zs.mergeSort leB) (by simp) hbg hg hnc hcm hcs
theorem Kn(g cap base:Nat)(zs:List Int)(w:O)(hz:zs.length<=100000)(ho:w.ownsRow base 3 1 (X (U ⟨g,0,Z⟩) zs.length cap) zs.length (AB zs)) :
  ZX Tryz.prog 152 #[X (U ⟨g,0,Z⟩) zs.length cap] w fun e w'=>e=M (X (U ⟨g,0,Z⟩) (Lib.compact zs).length cap)/\w.grownBy w' (U g)/\w'.ownsRow base 3 1 (X (U ⟨g,0,Z⟩) (Lib.compact zs).length cap) (Lib.compact zs).length (AB (Lib.compact zs)):=by
 have ho':w.ownsRow base 3 1 (X (U ⟨g,0,Z⟩) zs.length cap) zs.length (zs.map (Value.int .i64)):=ho;obtain⟨g',cap',hv,hbg,hlt,hn,hm,hl,hH⟩:=Lib.holds_of_ownsRow ho' (by simp);injection hv with h1 h2 h3;injection h1 with h1;injection h1 with h1;subst h1 h3;have hcl:=Lib.compact_length_le zs;refine(slices_Compact_int g 0 cap zs w hH (by omega) hn).mono fun e w' ⟨he,q,hw⟩=>⟨he,?_,?_⟩
 .rw[hw];refine⟨rfl,rfl,rfl,by simp[putRow,mapBlock,Sort.ahead],fun k _ hne=>?_⟩;have:g≠k:=fun e=>hne (by rw[e]);simp[putRow,mapBlock,Sort.ahead,Array.getElem?_modify,this]
 .rw[hw];have h:=Lib.ownsRow_putRow (q:=q) (k:=(Lib.compact zs).length) (ys:=Lib.compact zs++List.replicate (zs.length-(Lib.compact zs).length) 0) ho' (by simp;omega) hcl;rw[List.take_left]at h;exact h
abbrev Rise(l:List Int):Prop:=l.Pairwise (· < ·)
theorem PD{d:Array Int}{n:Nat}(hs:∀i j,i<=j->j<n->d[i]!<=d[j]!):∀m,m<=n->Rise (Lib.compactUpTo d m)/\∀x,x∈Lib.compactUpTo d m↔∃j,j<m/\d[j]! = x:=by
 intro m;induction m with
 |zero=>intro _;exact⟨by simp[Lib.compactUpTo],fun x=>by simp[Lib.compactUpTo]⟩
 |succ m ih=>
  intro hm;obtain⟨h1,h2⟩:=ih (by omega);rw[Lib.compactUpTo_succ];by_cases hk:Lib.keeps d m=true
  .rw[if_pos hk];refine⟨List.pairwise_append.2 ⟨h1,by simp,fun x hx y hy=>?_⟩,fun x=>?_⟩
   .simp at hy;subst hy;obtain⟨j,hj,rfl⟩:=(h2 x).1 hx;have h3:=hs j m (by omega) (by omega);have h4:=hs j (m-1) (by omega) (by omega);have h5:=hs (m-1) m (by omega) (by omega);have h6:d[m]!≠d[m-1]!:=by
     have:m≠0:=by omega
     simpa[Lib.keeps,this]using hk
    omega
   .simp only[List.mem_append,List.mem_singleton,h2];constructor
    .rintro (⟨j,hj,e⟩|e)
     .exact ⟨j,by omega,e⟩
     .exact ⟨m,by omega,e.symm⟩
    .rintro ⟨j,hj,e⟩;by_cases hjm:j=m
     .subst hjm;exact .inr e.symm
     .exact .inl ⟨j,by omega,e⟩
  .rw[if_neg hk,List.append_nil];refine⟨h1,fun x=>?_⟩;rw[h2];constructor
   .rintro ⟨j,hj,e⟩;exact⟨j,by omega,e⟩
   .rintro ⟨j,hj,e⟩;by_cases hjm:j=m
    .subst hjm;have h7:j≠0/\d[j]! = d[j-1]!:=by simpa[Lib.keeps]using hk
     exact⟨j-1,by omega,by rw[<-h7.2];exact e⟩
    .exact ⟨j,by omega,e⟩
def upL(l:List Int):List Int:=Lib.compact (l.mergeSort leB)
theorem NW(l:List Int):Rise (upL l)/\∀x,x∈upL l↔x∈l:=by
 have hp:(l.mergeSort leB).Pairwise (fun x y=>leB x y=true):=List.pairwise_mergeSort (le:=leB) (by intro a b c;simp only[leB,decide_eq_true_eq];omega) (by intro a b;simp only[leB,Bool.or_eq_true,decide_eq_true_eq];omega) l;have hs:∀i j,i<=j->j<(l.mergeSort leB).length->(l.mergeSort leB).toArray[i]!<=(l.mergeSort leB).toArray[j]!:=fun i j hij hj=>by
  rw[getElem!_pos _ i (by simpa using(by omega:i<(l.mergeSort leB).length)),getElem!_pos _ j (by simpa using hj)];rcases Nat.lt_or_eq_of_le hij with h|h
  .have:=List.pairwise_iff_getElem.1 hp i j (by omega) hj h;simpa[leB]using this
  .subst h;exact Int.le_refl _
 obtain⟨h1,h2⟩:=PD hs (l.mergeSort leB).length (Nat.le_refl _);refine⟨h1,fun x=>?_⟩;show x∈Lib.compactUpTo _ _↔_;rw[h2,<-(List.mergeSort_perm l leB).mem_iff,List.mem_iff_getElem];constructor
 .rintro ⟨j,hj,e⟩;exact⟨j,hj,by rw[<-e,getElem!_pos _ j (by simpa using hj)];rfl⟩
 .rintro ⟨j,hj,e⟩;exact⟨j,hj,by rw[getElem!_pos _ j (by simpa using hj)];exact e⟩
theorem TermsV.shape{w:O}{v:E}{ts:List (List (Int×Int))}(h:TermsV w v ts):∃ao cap,v=.slice ao ts.length cap:=by
 obtain⟨ao,cap,h1,_⟩:=h;exact⟨ao,cap,h1⟩
theorem TermsV.at{w:O}{ao:Option Addr}{cap n:Nat}{ts:List (List (Int×Int))}(h:TermsV w (X ao n cap) ts){i:Nat}(hi:i<ts.length):∃b off,ao=U ⟨b,off,Z⟩/\b<w.heap.size/\∃u,w.cell? ⟨b,off+i,Z⟩=U u/\OpsV w u (ts.getD i []):=by
 obtain⟨ao',cap',h1,h3⟩:=h;injection h1 with e1 e2 e3;subst e1;obtain⟨b,off,e,hb,hh⟩:=h3 (by intro h;subst h;simp at hi);exact⟨b,off,e,hb,hh i hi⟩
theorem SD(va vr pv:E)(m:Mo)(ps:List (List (Int×Int)))(w:O)(hB:0<w.heap.size)(hT:AH w)(hV:Av w va vr m)(hP:TermsV w pv ps)(h:mcode m=0)(hl6:ps.length<=6) :
  ZX Tryz.prog 52 #[ZT #[va,vr],pv] w fun e w'=>e=M (.int Y (Aw (fun i=>kcode m.vars.length (ps.getD i []) true) ps.length))/\I w.heap.size w w':=by
 have hA:∀o,I w.heap.size w (w.alloc o):=fun o=>(Below.refl _ _).alloc (Nat.le_refl _) o;have hch:=fun o=>C5 va vr m (w.alloc o) (Nat.lt_of_lt_of_le hB (hA o).size) (hT.below (hA o) hB) (hV.below (hA o));rw[h]at hch;have h6:=(Cu h).1;obtain⟨ao,cap,rfl⟩:=hV.1.shape;obtain⟨ro,rc,rfl⟩:=hV.2.shape;obtain⟨po,pc,rfl⟩:=hP.shape;have HP:ZZ (TermsV w (.slice po ps.length pc) ps):=hP;have HT:ZZ (AH w):=hT;obtain⟨n,hn⟩:∃n,n=ps.length:=⟨_,rfl⟩;have HN:ZZ (n=ps.length):=hn;rw[<-hn]at hl6 HP⊢;generalize m.vars.length=vn at *;generalize m.rules.length=rn at *;clear hV hT hP hn h;obtain⟨f,hf⟩:∃f:Nat->Int,f=fun i=>kcode vn (ps.getD i []) true:=⟨_,rfl⟩
 rw[<-hf];have HF:ZZ (f=fun i=>kcode vn (ps.getD i []) true):=hf;clear hf;go_enter Tryz.func52,Tryz.ntmps52;go_wp2_with (go_at_call 55;refine(hch _).mono ?_;rintro e w1 ⟨rfl,hb1⟩)
 have hb1':I (w.heap.size+1) (w.alloc (ZY #[X ao vn cap,X ro rn rc] 31)) w1:=hb1.mono (by simp);clear hch hb1;go_loopw [19] (fun i wr=>∃k:Nat,k<=n/\i=.int Y k/\ZZ (∀j,j<k->f j=0)/\I (w.heap.size+1) (w.alloc (ZY #[X ao vn cap,X ro rn rc] 31)) wr) (fun i _=>n-(intOf i).toNat)
 case atStart=>exact⟨0,Nat.zero_le _,rfl,fun j hj=>by omega,hb1'⟩
 case round=>
  obtain⟨k,hk,rfl,HJ,hbel⟩:=hrel;clear hb1';have hbw:=(hA _).trans (hbel.mono (Nat.le_succ _));have hszb:w.heap.size+1<=wr.heap.size:=by have:=hbel.size;simp at this;omega
  have cb:=(hbel.cell (p:=⟨w.heap.size,0,Z⟩) (by simp)).trans (show _=U (X ao vn cap) by simp[go_sem]);by_cases hlt:k<n
  .obtain ⟨b,off,rfl,hblt,u,c0',hO⟩:=HP.out.at (i:=k) (by rw[<-HN.out];exact hlt);have HFk:ZZ (f k=kcode vn (ps.getD k []) true):=by show _=_;rw[HF.out]
   have HHit:ZZ (∀c,f k=c->c≠0->Aw f n=c):=fun c h1 h2=>by rw[GP hlt HJ.out (by rw[h1];exact h2),h1]
   have HStep:ZZ (f k=0->∀j,j<k+1->f j=0):=fun h0 j hj=>by
    by_cases hjk:j=k
    .subst hjk;exact h0
    .exact HJ.out j (by omega)
   generalize ps.getD k []=p at *;obtain⟨ua,uc,rfl⟩:=hO.shape;have c0:=(hbw.cell (p:=⟨b,off+k,Z⟩) hblt).trans c0';have hcm:=GE _ p vn true wr (Nat.lt_of_lt_of_le hB hbw.size) (HT.out.below hbw hB) (hO.below hbw);generalize p.length=pn at *;obtain⟨x,hx⟩:∃x,kcode vn p true=x:=⟨_,rfl⟩
   rw[hx]at hcm HFk;clear HJ c0' hO hx HF;by_cases hx0:x=0
   .subst hx0;have HJ2:=(show ZZ _ from HStep.out HFk.out);clear HStep HHit HFk;go_wp2_with (go_at_call 77;refine hcm.mono ?_;rintro e w3 ⟨rfl,hb3⟩)
    go_roundw
    case rel=>exact⟨k+1,hlt,by go_num,HJ2,hbel.trans (hb3.mono hszb)⟩
    case measure=>simp[intOf];omega
   .have HR:ZZ (Aw f n=x):=HHit.out x HFk.out hx0;clear HStep HHit HFk;go_wp2_with (go_at_call 77;refine hcm.mono ?_;rintro e w3 ⟨rfl,hb3⟩)
    go_ret;rw[HR.out];exact⟨rfl,hbw.trans (hb3.mono hbw.size)⟩
  .have hkn:k=n:=by omega
   have HR:ZZ (Aw f n=0):=DQ (fun j hj=>HJ.out j (by omega));go_wp2;go_ret;rw[HR.out];exact⟨rfl,hbw⟩
theorem Lw(va vr pv:E)(m:Mo)(ps:List (List (Int×Int)))(w:O)(hB:0<w.heap.size)(hT:AH w)(hV:Av w va vr m)(hP:TermsV w pv ps) :
  ZX Tryz.prog 52 #[ZT #[va,vr],pv] w fun e w'=>e=M (.int Y (CM m ps))/\I w.heap.size w w':=by
 unfold CM;by_cases h:mcode m=0
 .rw[if_pos h];by_cases h6:6<ps.length
  .rw[if_pos h6];have hA:∀o,I w.heap.size w (w.alloc o):=fun o=>(Below.refl _ _).alloc (Nat.le_refl _) o;have hch:=fun o=>C5 va vr m (w.alloc o) (Nat.lt_of_lt_of_le hB (hA o).size) (hT.below (hA o) hB) (hV.below (hA o));rw[h]at hch;obtain⟨ao,cap,rfl⟩:=hV.1.shape;obtain⟨ro,rc,rfl⟩:=hV.2.shape;obtain⟨po,pc,rfl⟩:=hP.shape;generalize m.vars.length=vn at *;generalize m.rules.length=rn at *;generalize ps.length=n at *;clear hV hT hP h
   go_enter Tryz.func52,Tryz.ntmps52;go_wp2_with (go_at_call 55;refine(hch _).mono ?_;rintro e w1 ⟨rfl,hb1⟩)
   go_ret;exact⟨rfl,(hA _).trans (hb1.mono (hA _).size)⟩
  .rw[if_neg h6];exact SD va vr pv m ps w hB hT hV hP h (by omega)
 .rw[if_neg h];have hA:∀o,I w.heap.size w (w.alloc o):=fun o=>(Below.refl _ _).alloc (Nat.le_refl _) o;have hch:=fun o=>C5 va vr m (w.alloc o) (Nat.lt_of_lt_of_le hB (hA o).size) (hT.below (hA o) hB) (hV.below (hA o));obtain⟨ao,cap,rfl⟩:=hV.1.shape;obtain⟨ro,rc,rfl⟩:=hV.2.shape;obtain⟨po,pc,rfl⟩:=hP.shape;generalize mcode m=x at *;generalize m.vars.length=vn at *;generalize m.rules.length=rn at *;generalize ps.length=n at *;clear hV hT hP
  go_enter Tryz.func52,Tryz.ntmps52;go_wp2_with (go_at_call 55;refine(hch _).mono ?_;rintro e w1 ⟨rfl,hb1⟩)
  go_ret;exact⟨rfl,(hA _).trans (hb1.mono (hA _).size)⟩
