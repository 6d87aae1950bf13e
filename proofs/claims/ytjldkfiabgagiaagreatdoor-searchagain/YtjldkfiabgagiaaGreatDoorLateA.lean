/- Joined texts. -/
import Derived.Test.YtjldkfiabgagiaaGreatDoorMCode
import Derived.Test.YtjldkfiabgagiaaGreatDoorDesignOpen
import Derived.Test.YtjldkfiabgagiaaGreatDoorBools
import Derived.Shelf.Sort.Plain
import Derived.Ground.Names2Prog
import Derived.Shelf.Slices.CompactI
import Derived.Shelf.Slices.SearchI
import Derived.Shelf.Slices.In.SortNone
import Derived.Shelf.Slices.Empties
import Derived.Sort.OwnSortedInts
import Derived.Lib.OwnBridge
import Derived.Lib.RowBridge
import Derived.Lib.AppendZeros
import Derived.RangeFuncNested
import Derived.RangeFuncBound
import Derived.RangeFuncCalls
import Derived.RangeFuncLeaves
import Derived.Shelf.Abstract
import Derived.Shelf.RegionOpen
import Derived.OwnWalkIn
import Derived.TacticsInMore
import Derived.LoopNIn
import Derived.LoopIn
namespace Go.Proofs.YtjldkfiabgagiaaGreatDoor
open Go.ChangeShapes Go.WideShapes Go.ChangeAt Go.RowKit Go.Deep
open Terms Tm
set_option maxHeartbeats 6400000
set_option maxRecDepth 20000
noncomputable def Ar(m:Mo)(code:Int):Int:=if mcode m=0 then(if 0<=code/\code<AK m.vars m.vars.length then 0 else 9)else mcode m
theorem Vp{m:Mo}{code:Int}(h:mcode m≠0):Ar m code=mcode m:=by unfold Ar;rw[if_neg h]
theorem Na{m:Mo}{code:Int}(h:mcode m=0)(h2:¬(0<=code/\code<AK m.vars m.vars.length)):Ar m code=9:=by unfold Ar;rw[if_pos h,if_neg h2]
theorem EB{m:Mo}{code:Int}(h:mcode m=0)(h2:0<=code/\code<AK m.vars m.vars.length):Ar m code=0:=by unfold Ar;rw[if_pos h,if_pos h2]
theorem Gj{w:World}{B n:Nat}{f:Nat->Int}(h:w.rowIs B 3 n (fun j=>.int .i64 (f j))):IntsV w (.slice (some ⟨B,0,none⟩) n n) ((List.range n).map f):=by
 refine⟨some ⟨B,0,none⟩,n,by simp,fun _=>⟨B,0,rfl,h.lt,fun i hi=>?_⟩⟩;simp only[List.length_map,List.length_range]at hi;rw[Nat.zero_add,h.cell hi];simp[List.getD_eq_getElem?_getD,hi]
noncomputable def FK(m:Mo)(code:Int):List Int:=if Ar m code=0 then A7 m.vars code else []
theorem Ly(va vr:Value)(m:Mo)(code:Int)(w:World)(hB:0<w.heap.size)(hT:AH w)(hV:Aw w va vr m)(h:mcode m=0)(hc:0<=code/\code<AK m.vars m.vars.length) :
  Calls Tryz.prog 48 #[.agg #[va,vr],.int .i64 code] w fun e w'=>∃B,e=.returned (.tuple #[.slice (some ⟨B,0,none⟩) m.vars.length m.vars.length,.int .i64 0])/\w.heap.size<=B/\Below w.heap.size w w'/\w'.rowIs B 3 m.vars.length (fun j=>.int .i64 (F2 m.vars code j)):=by
 have hA:∀o,Below w.heap.size w (w.alloc o):=fun o=>(Below.refl _ _).alloc (Nat.le_refl _) o;have hch:=fun o=>C5 va vr m (w.alloc o) (Nat.lt_of_lt_of_le hB (hA o).size) (hT.below (hA o) hB) (hV.below (hA o));rw[h]at hch;have hok:=Cu h;have HOK:Hid (Br m.vars):=hok;have h6:=hok.1;have hcf:=(fun w1 (hb:Below w.heap.size w w1)=>Ko va m.vars w1 hok (hV.1.below hb));obtain⟨ao,cap,rfl⟩:=hV.1.shape;obtain⟨ro,rc,rfl⟩:=hV.2.shape;have HV:Hid (VarsV w (.slice ao m.vars.length cap) m.vars):=hV.1;have hN:=hok.prod (j:=m.vars.length) (Nat.le_refl _);have HS0:Hid (Bu m.vars m.vars.length=1):=UU _;obtain⟨hc1,hc2⟩:=hc;generalize AK m.vars m.vars.length=N at *;obtain⟨n,hn⟩:∃n,n=m.vars.length:=⟨_,rfl⟩
 have HN:Hid (n=m.vars.length):=hn;rw[<-hn]at h6 hch hcf HV HS0⊢;generalize m.rules.length=rn at *;have hmk:=run_make_row' (P:=Tryz.prog) 39 3 (.int .i64 0) 8 Tryz.underlying39 Ba rfl .i64 .i64 n (by omega) (by omega)
 clear hV hT hn hok h;go_enter Tryz.func48,Tryz.ntmps48;go_wp2_with (first|(go_at_call 46;refine(hch _).mono ?_;rintro e w1 ⟨rfl,hb1⟩;have hcb:w1.cell? ⟨w.heap.size,0,none⟩=some (.slice ao n cap):=(hb1.cell (p:=⟨w.heap.size,0,none⟩) (by simp)).trans (by simp[go_sem]);have hbw:=(hA _).trans (hb1.mono (hA _).size);have hs1:w.heap.size<w1.heap.size:=(by have:=hb1.size;simp at this;omega))|(go_at_call 68;refine(hcf _ hbw).mono ?_;rintro e w2 ⟨rfl,hb2⟩;have hcb2:=(hb2.cell (p:=⟨w.heap.size,0,none⟩) hs1).trans hcb))
 have hbw2:=hbw.trans (hb2.mono hbw.size);have hrow0:=World.rowIs_made w2 (.int .i64 0) n 3;have hs2:=Nat.lt_of_lt_of_le hs1 hb2.size;have HB2:Hid (Below w.heap.size w w2):=hbw2;have hcb3:=hcb2;clear hch hcf hmk hb1 hb2 hcb hbw hs1 hbw2 hcb2;go_loopw [1,8] (fun cd i wr=>∃k:Nat,k<=n/\i=.int .i64 ((k:Int)-1)/\cd=.int .i64 (code / Bu m.vars k)/\Hid (wr.rowIs w2.heap.size 3 n (fun j=>if k<=j then .int .i64 (F2 m.vars code j)else .int .i64 0))/\Hid (Below w2.heap.size w2 wr)) (fun _ i _=>(intOf i+1).toNat)
 case atStart=>exact⟨n,Nat.le_refl _,by first|rfl|go_num,by rw[HS0.out];simp,hrow0.congr (fun i hi=>by rw[if_neg (by omega)]),(Below.refl _ _).alloc (Nat.le_refl _) _⟩
 case round=>
  obtain⟨k,hk,rfl,rfl,HRow,HBel⟩:=hrel;have hbel:=HBel.out;have hrow:=HRow.out;have hbw:=HB2.out.trans (hbel.mono HB2.out.size);have hszr:=hrow.lt;have cb:=(hbel.cell (p:=⟨w.heap.size,0,none⟩) hs2).trans hcb3;by_cases hk0:0<k
  .obtain ⟨k,rfl⟩:∃k',k=k'+1:=⟨k-1,by omega⟩;rw[show(((k+1:Nat):Int)-1)=(k:Int) by omega];have hlt:k<n:=by omega
   obtain⟨b,off,rfl,hblt,hat⟩:=HV.out.at (i:=k) (by rw[<-HN.out];exact hlt);obtain⟨c0,c1,c2,c3⟩:=hat.below hbw hblt;have hvb:=HOK.out.at (j:=k) (by rw[<-HN.out];exact hlt);have hsg:=M5 HOK.out (i:=k+1) (by rw[<-HN.out];exact hlt);have HQ:Hid (code / Bu m.vars (k+1) / AM (m.vars.getD k vr0)=code / Bu m.vars k):=Tf HOK.out code (by rw[<-HN.out];exact hlt);have HVa:Hid (F2 m.vars code k=(m.vars.getD k vr0).lo+(code / Bu m.vars (k+1)) % AM (m.vars.getD k vr0)):=rfl;have hq0:0<=code / Bu m.vars (k+1):=Int.ediv_nonneg hc1 (by omega);have hq1:code / Bu m.vars (k+1)<=4096:=by
    have:=Int.ediv_le_self (Bu m.vars (k+1)) hc1;omega
   have hf:wr.frozen? ⟨w2.heap.size,k,none⟩=false:=hrow.frozen k;have hcl:wr.cell? ⟨w2.heap.size,k,none⟩=some (.int .i64 0):=by rw[hrow.cell hlt,if_neg (by omega)]
   generalize code / Bu m.vars (k+1)=cd at *;generalize m.vars.getD k vr0=x at *;obtain⟨s,lo,hi,ini⟩:=x;simp only[AM]at c0 c1 c2 c3 HQ HVa hvb;obtain⟨hv1,hv2,hv3,hv4,hv5,hv6,hv7⟩:=hvb;have hsp:=fun w=>Hf s lo hi ini w hv3 hv4 hv5
   obtain⟨sp,hspe⟩:∃sp,hi-lo+1=sp:=⟨_,rfl⟩;rw[hspe]at hv1 hv2 hsp HQ HVa;clear hspe hat;have hr0:=Int.emod_nonneg cd (show sp≠0 by omega);have hr1:=Int.emod_lt_of_pos cd (show 0<sp by omega);have hi0:(0:Int)<=(k:Int):=Int.natCast_nonneg _;have hi1:(k:Int)<(n:Int):=by omega
   have hsz0:¬sp=0:=by omega
   have hsz1:(sp == 0)=false:=by rw[beq_eq_false_iff_ne];omega
   have ht:cd.tmod sp=cd % sp:=Int.tmod_eq_emod_of_nonneg hq0;have htd:cd.tdiv sp=cd / sp:=Int.tdiv_eq_ediv_of_nonneg hq0;have hd0:=Int.ediv_nonneg hq0 (show 0<=sp by omega);have hd1:=Int.ediv_le_self sp hq0;have hw0:IntKind.i64.wrap (cd % sp)=cd % sp:=F3 (by omega) (by omega);have hw1:IntKind.i64.wrap (lo+cd % sp)=lo+cd % sp:=F3 (by omega) (by omega);have hbA:=hbel.alloc (Nat.le_of_lt hszr) (.cells #[.string s,.int .i64 lo,.int .i64 hi,.int .i64 ini] 81);have HBA:=(show Hid _ from hbA);have hfA:=hrow.alloc (.cells #[.string s,.int .i64 lo,.int .i64 hi,.int .i64 ini] 81);have HRA:=(show Hid _ from hfA);have hS0:∀w',Below (wr.heap.size+1) (wr.alloc (.cells #[.string s,.int .i64 lo,.int .i64 hi,.int .i64 ini] 81)) w'->w'.cell? ⟨wr.heap.size,0,none⟩=some (.string s)/\w'.cell? ⟨wr.heap.size,1,none⟩=some (.int .i64 lo)/\w'.cell? ⟨wr.heap.size,2,none⟩=some (.int .i64 hi)/\w'.cell? ⟨wr.heap.size,3,none⟩=some (.int .i64 ini):=fun w' hw'=>
    ⟨(hw'.cell (p:=⟨wr.heap.size,0,none⟩) (by simp)).trans (by simp[go_sem]),(hw'.cell (p:=⟨wr.heap.size,1,none⟩) (by simp)).trans (by simp[go_sem]),(hw'.cell (p:=⟨wr.heap.size,2,none⟩) (by simp)).trans (by simp[go_sem]),(hw'.cell (p:=⟨wr.heap.size,3,none⟩) (by simp)).trans (by simp[go_sem])⟩
   have hne:∀j:Nat,(⟨wr.heap.size,j,none⟩:Addr)≠⟨w2.heap.size,k,none⟩:=fun j h=>by injection h with h1;omega
   have hS1:∀w' v,Below (wr.heap.size+1) (wr.alloc (.cells #[.string s,.int .i64 lo,.int .i64 hi,.int .i64 ini] 81)) w'->(w'.setCell ⟨w2.heap.size,k,none⟩ v).cell? ⟨wr.heap.size,0,none⟩=some (.string s)/\(w'.setCell ⟨w2.heap.size,k,none⟩ v).cell? ⟨wr.heap.size,1,none⟩=some (.int .i64 lo)/\(w'.setCell ⟨w2.heap.size,k,none⟩ v).cell? ⟨wr.heap.size,2,none⟩=some (.int .i64 hi)/\(w'.setCell ⟨w2.heap.size,k,none⟩ v).cell? ⟨wr.heap.size,3,none⟩=some (.int .i64 ini):=fun w' v hw'=>by
    obtain⟨a0,a1,a2,a3⟩:=hS0 w' hw';exact⟨(World.cell?_setCell_other _ _ _ _ (hne 0).symm).trans a0,(World.cell?_setCell_other _ _ _ _ (hne 1).symm).trans a1,(World.cell?_setCell_other _ _ _ _ (hne 2).symm).trans a2,(World.cell?_setCell_other _ _ _ _ (hne 3).symm).trans a3⟩
   have hB0:Below (wr.heap.size+1) (wr.alloc (.cells #[.string s,.int .i64 lo,.int .i64 hi,.int .i64 ini] 81)) (wr.alloc (.cells #[.string s,.int .i64 lo,.int .i64 hi,.int .i64 ini] 81)).drew:=(Below.refl _ _).drew;have hrw:=fun w' (hw':Below (wr.heap.size+1) (wr.alloc (.cells #[.string s,.int .i64 lo,.int .i64 hi,.int .i64 ini] 81)) w')=>hfA.of_block (hw'.block w2.heap.size (by omega));have hcf3:∀w',Below (wr.heap.size+1) (wr.alloc (.cells #[.string s,.int .i64 lo,.int .i64 hi,.int .i64 ini] 81)) w'->w'.frozen? ⟨w2.heap.size,k,none⟩=false/\w'.cell? ⟨w2.heap.size,k,none⟩=some (.int .i64 0):=fun w' hw'=>⟨(hrw w' hw').frozen k,by rw[(hrw w' hw').cell hlt,if_neg (by omega)]⟩;have HRw:=(show Hid _ from hrw);clear hfA hbA hrw hbel hrow hbw;go_wp2_with fail
   go_region_held3 (fun w'=>w'.cell? ⟨wr.heap.size,0,none⟩=some (.string s)/\w'.cell? ⟨wr.heap.size,1,none⟩=some (.int .i64 lo)/\w'.cell? ⟨wr.heap.size,2,none⟩=some (.int .i64 hi)/\w'.cell? ⟨wr.heap.size,3,none⟩=some (.int .i64 ini))
    (first|exact hS0 _ hB0|exact hS0 _ (hB0.trans (hb3.mono (by simp)))|exact hS1 _ _ (hB0.trans (hb3.mono (by simp))))
    (first|(go_at_call 67;refine(hsp _).mono ?_;rintro e w3 ⟨rfl,hb3⟩;obtain⟨hf3,hc3⟩:=hcf3 _ (hB0.trans (hb3.mono (by simp)))))
   have hB3:=hB0.trans (hb3.mono (by simp));obtain⟨e0,e1,e2,e3⟩:=hS1 w3 (.int .i64 (lo+cd % sp)) hB3;have hs3:wr.heap.size<w3.heap.size:=by have:=hb3.size;simp at this;omega
   have hrow4:∀w4,Below w3.heap.size (w3.setCell ⟨w2.heap.size,k,none⟩ (.int .i64 (lo+cd % sp))) w4->w4.rowIs w2.heap.size 3 n (fun j=>if k<=j then .int .i64 (F2 m.vars code j)else .int .i64 0)/\Below w2.heap.size w2 w4:=fun w4 h4=>by
    refine⟨(((HRw.out w3 hB3).set k (.int .i64 (lo+cd % sp))).of_block (h4.block w2.heap.size (by omega))).congr fun j hj=>?_,?_⟩
    .by_cases hjk:j=k
     .subst hjk;rw[if_pos rfl,if_pos (Nat.le_refl _),HVa.out]
     .rw[if_neg hjk];by_cases hkj:k+1<=j
      .rw[if_pos hkj,if_pos (by omega)]
      .rw[if_neg hkj,if_neg (by omega)]
    .exact ((HBA.out.trans (hB3.mono (by omega))).setCell (by simp) _).trans (h4.mono (by omega))
   have HR4:=(show Hid _ from hrow4);clear hrow4 hf hcl hf3 hc3 hcf3 hS0 hS1;go_wp2_with (go_at_call 67;refine(hsp _).mono ?_;rintro e w4 ⟨rfl,hb4⟩)
   have hb4':Below w3.heap.size (w3.setCell ⟨w2.heap.size,k,none⟩ (.int .i64 (lo+cd % sp))) w4:=hb4.mono (by simp);go_roundw
   case rel=>exact⟨k,by omega,by first|rfl|go_num,by rw[<-HQ.out],(HR4.out _ hb4').1,(HR4.out _ hb4').2⟩
   case measure=>simp[intOf]
  .have hk0:k=0:=by omega
   subst hk0;go_wp2;go_ret2;exact⟨w2.heap.size,rfl,HB2.out.size,hbw,hrow.congr (fun i hi=>by rw[if_pos (by omega)])⟩
theorem SU(va vr:Value)(m:Mo)(code:Int)(w:World)(hB:0<w.heap.size)(hT:AH w)(hV:Aw w va vr m)(h:mcode m≠0) :
  Calls Tryz.prog 48 #[.agg #[va,vr],.int .i64 code] w fun e w'=>e=.returned (.tuple #[.slice none 0 0,.int .i64 (mcode m)])/\Below w.heap.size w w':=by
 have hA:∀o,Below w.heap.size w (w.alloc o):=fun o=>(Below.refl _ _).alloc (Nat.le_refl _) o;have hch:=fun o=>C5 va vr m (w.alloc o) (Nat.lt_of_lt_of_le hB (hA o).size) (hT.below (hA o) hB) (hV.below (hA o));obtain⟨ao,cap,rfl⟩:=hV.1.shape;obtain⟨ro,rc,rfl⟩:=hV.2.shape;generalize mcode m=x at *;generalize m.vars.length=n at *;generalize m.rules.length=rn at *;clear hV hT
 go_enter Tryz.func48,Tryz.ntmps48;go_wp2_with (go_at_call 46;refine(hch _).mono ?_;rintro e w1 ⟨rfl,hb1⟩)
 go_ret2;exact⟨rfl,(hA _).trans (hb1.mono (hA _).size)⟩
theorem SV(va vr:Value)(m:Mo)(code:Int)(w:World)(hB:0<w.heap.size)(hT:AH w)(hV:Aw w va vr m)(h:mcode m=0)(hc:¬(0<=code/\code<AK m.vars m.vars.length)) :
  Calls Tryz.prog 48 #[.agg #[va,vr],.int .i64 code] w fun e w'=>e=.returned (.tuple #[.slice none 0 0,.int .i64 9])/\Below w.heap.size w w':=by
 have hA:∀o,Below w.heap.size w (w.alloc o):=fun o=>(Below.refl _ _).alloc (Nat.le_refl _) o;have hch:=fun o=>C5 va vr m (w.alloc o) (Nat.lt_of_lt_of_le hB (hA o).size) (hT.below (hA o) hB) (hV.below (hA o));rw[h]at hch;have hok:=Cu h;have hcf:=(fun w1 (hb:Below w.heap.size w w1)=>Ko va m.vars w1 hok (hV.1.below hb));obtain⟨ao,cap,rfl⟩:=hV.1.shape;obtain⟨ro,rc,rfl⟩:=hV.2.shape;have hN:=hok.prod (j:=m.vars.length) (Nat.le_refl _);generalize AK m.vars m.vars.length=N at *;generalize m.vars.length=n at *;generalize m.rules.length=rn at *;clear hV hT hok h
 by_cases h0:code<0
 .clear hc;go_enter Tryz.func48,Tryz.ntmps48;go_wp2_with (go_at_call 46;refine(hch _).mono ?_;rintro e w1 ⟨rfl,hb1⟩)
  go_ret2;exact⟨rfl,(hA _).trans (hb1.mono (hA _).size)⟩
 .have h1:N<=code:=by omega
  clear hc;go_enter Tryz.func48,Tryz.ntmps48;go_wp2_with (first|(go_at_call 46;refine(hch _).mono ?_;rintro e w1 ⟨rfl,hb1⟩;have hcb:w1.cell? ⟨w.heap.size,0,none⟩=some (.slice ao n cap):=(hb1.cell (p:=⟨w.heap.size,0,none⟩) (by simp)).trans (by simp[go_sem]);have hbw:=(hA _).trans (hb1.mono (hA _).size))|(go_at_call 68;refine(hcf _ hbw).mono ?_;rintro e w2 ⟨rfl,hb2⟩))
  go_ret2;exact⟨rfl,hbw.trans (hb2.mono hbw.size)⟩
theorem Lx(va vr:Value)(m:Mo)(code:Int)(w:World)(hB:0<w.heap.size)(hT:AH w)(hV:Aw w va vr m) :
  Calls Tryz.prog 48 #[.agg #[va,vr],.int .i64 code] w fun e w'=>∃v,e=.returned (.tuple #[v,.int .i64 (Ar m code)])/\Below w.heap.size w w'/\IntsV w' v (FK m code):=by
 by_cases h:mcode m=0
 .by_cases hc:0<=code/\code<AK m.vars m.vars.length
  .have h0:=EB h hc;unfold FK;rw[h0,if_pos rfl];exact(Ly va vr m code w hB hT hV h hc).mono fun e w' ⟨B,he,_,hb,hr⟩=>⟨_,he,hb,Gj hr⟩
  .have h0:=Na h hc;unfold FK;rw[h0,if_neg (by decide)];exact(SV va vr m code w hB hT hV h hc).mono fun e w' ⟨he,hb⟩=>⟨_,he,hb,none,0,rfl,fun h=>absurd rfl h⟩
 .have h0:=Vp (code:=code) h;unfold FK;rw[h0,if_neg h];exact(SU va vr m code w hB hT hV h).mono fun e w' ⟨he,hb⟩=>⟨_,he,hb,none,0,rfl,fun h=>absurd rfl h⟩
theorem LL(l:List Vr):(Bd l).length=l.length:=by simp[Bd]
theorem Q1{l:List Vr}{i:Nat}(h:i<l.length):(Bd l).getD i 0=(l.getD i vr0).ini:=by
 simp[Bd,List.getD_eq_getElem?_getD,h]
theorem SB(va vr:Value)(m:Mo)(w:World)(hB:0<w.heap.size)(hT:AH w)(hV:Aw w va vr m)(h:mcode m=0) :
  Calls Tryz.prog 29 #[.agg #[va,vr]] w fun e w'=>e=.returned (.tuple #[.int .i64 (Bl m.vars (Bd m.vars) m.vars.length),.int .i64 0])/\Below w.heap.size w w':=by
 have hA:∀o,Below w.heap.size w (w.alloc o):=fun o=>(Below.refl _ _).alloc (Nat.le_refl _) o;have hch:=fun o=>C5 va vr m (w.alloc o) (Nat.lt_of_lt_of_le hB (hA o).size) (hT.below (hA o) hB) (hV.below (hA o));rw[h]at hch;have hok:=Cu h;have h6:=hok.1;have hcf:=(fun vv w1 (hb:Below w.heap.size w w1) (hI:IntsV w1 vv (Bd m.vars))=>Kl va vv m.vars (Bd m.vars) w1 hok (LL _) (LM hok) (hV.1.below hb) hI);obtain⟨ao,cap,rfl⟩:=hV.1.shape;obtain⟨ro,rc,rfl⟩:=hV.2.shape;have HCF:=(show Hid _ from hcf);have HV:Hid (VarsV w (.slice ao m.vars.length cap) m.vars):=hV.1;have HIn:Hid (∀i,i<m.vars.length->(Bd m.vars).getD i 0=(m.vars.getD i vr0).ini):=fun i hi=>Q1 hi;have HLn:Hid ((Bd m.vars).length=m.vars.length):=LL _;generalize Bl m.vars (Bd m.vars) m.vars.length=res at *;obtain⟨n,hn⟩:∃n,n=m.vars.length:=⟨_,rfl⟩
 have HN:Hid (n=m.vars.length):=hn;rw[<-hn]at h6 hch HCF HV HIn HLn⊢;generalize m.rules.length=rn at *;have hmk:=run_make_row' (P:=Tryz.prog) 39 3 (.int .i64 0) 8 Tryz.underlying39 Ba rfl .i64 .i64 n (by omega) (by omega)
 clear hV hT hn hok h hcf;go_enter Tryz.func29,Tryz.ntmps29;go_wp2_with (go_at_call 46;refine(hch _).mono ?_;rintro e w1 ⟨rfl,hb1⟩;have hcb:w1.cell? ⟨w.heap.size,0,none⟩=some (.slice ao n cap):=(hb1.cell (p:=⟨w.heap.size,0,none⟩) (by simp)).trans (by simp[go_sem]);have hs1:w.heap.size<w1.heap.size:=(by have:=hb1.size;simp at this;omega);have hcbA:∀o,(w1.alloc o).cell? ⟨w.heap.size,0,none⟩=some (.slice ao n cap):=(fun o=>(((Below.refl w1.heap.size w1).alloc (Nat.le_refl _) o).cell (p:=⟨w.heap.size,0,none⟩) hs1).trans hcb))
 have hbw:=(hA _).trans (hb1.mono (hA _).size);have hrow0:=World.rowIs_made w1 (.int .i64 0) n 3;have HB1:Hid (Below w.heap.size w w1):=hbw;clear hch hmk hb1 hbw hcbA;go_loopw [20] (fun i wr=>∃k:Nat,k<=n/\i=.int .i64 k/\Hid (wr.rowIs w1.heap.size 3 n (fun j=>if j<k then .int .i64 ((Bd m.vars).getD j 0)else .int .i64 0))/\Hid (Below w1.heap.size w1 wr)) (fun i _=>n-(intOf i).toNat)
 case atStart=>exact⟨0,Nat.zero_le _,rfl,hrow0.congr (fun i hi=>by rw[if_neg (by omega)]),(Below.refl _ _).alloc (Nat.le_refl _) _⟩
 case round=>
  obtain⟨k,hk,rfl,HRow,HBel⟩:=hrel;have hbel:=HBel.out;have hrow:=HRow.out;have hbw:=HB1.out.trans (hbel.mono HB1.out.size);have hszr:=hrow.lt;have cb:=(hbel.cell (p:=⟨w.heap.size,0,none⟩) hs1).trans hcb;by_cases hlt:k<n
  .obtain ⟨b,off,rfl,hblt,hat⟩:=HV.out.at (i:=k) (by rw[<-HN.out];exact hlt);obtain⟨c0,c1,c2,c3⟩:=hat.below hbw hblt;have HIk:=(show Hid _ from HIn.out k hlt);have hA2:=fun o=>hrow.alloc o;have hf:∀o,(wr.alloc o).frozen? ⟨w1.heap.size,k,none⟩=false:=fun o=>(hA2 o).frozen k;have hcl:∀o,(wr.alloc o).cell? ⟨w1.heap.size,k,none⟩=some (.int .i64 0):=fun o=>by rw[(hA2 o).cell hlt,if_neg (by omega)]
   generalize m.vars.getD k vr0=x at *;obtain⟨s,lo,hi,ini⟩:=x;simp only at c0 c1 c2 c3 HIk
   have hfin:(((wr.setCell ⟨w1.heap.size,k,none⟩ (.int .i64 ini)).alloc (.cells #[.string s,.int .i64 lo,.int .i64 hi,.int .i64 ini] 81)).rowIs w1.heap.size 3 n (fun j=>if j<k+1 then .int .i64 ((Bd m.vars).getD j 0)else .int .i64 0)):=((hrow.set k (.int .i64 ini)).alloc _).congr fun j hj=>by
    by_cases hjk:j=k
    .subst hjk;rw[if_pos rfl,if_pos (by omega),HIk.out]
    .rw[if_neg hjk];by_cases hlk:j<k
     .rw[if_pos hlk,if_pos (by omega)]
     .rw[if_neg hlk,if_neg (by omega)]
   have hbA:=(hbel.setCell (p:=⟨w1.heap.size,k,none⟩) (Nat.le_refl _) (.int .i64 ini)).alloc (by simp;omega) (.cells #[.string s,.int .i64 lo,.int .i64 hi,.int .i64 ini] 81);have HF:=(show Hid _ from hfin);have HBA:=(show Hid _ from hbA);have hfs:=hf (.cells #[.string s,.int .i64 lo,.int .i64 hi,.int .i64 ini] 81);have hcs:=hcl (.cells #[.string s,.int .i64 lo,.int .i64 hi,.int .i64 ini] 81);clear hat hA2 hf hcl hfin hbA hrow hbel hrow0;go_wp2_with fail
   go_roundw
   case rel=>exact⟨k+1,hlt,by go_num,HF.out,HBA.out⟩
   case measure=>simp[intOf];omega
  .have hkn:k=n:=by omega
   subst hkn;have hI:IntsV wr (.slice (some ⟨w1.heap.size,0,none⟩) k k) (Bd m.vars):=by
    have:=Gj (hrow.congr (g:=fun j=>.int .i64 ((Bd m.vars).getD j 0)) (fun i hi=>by rw[if_pos hi]));have e:(List.range k).map (fun j=>(Bd m.vars).getD j 0)=Bd m.vars:=by
     apply List.ext_getElem?
     intro i;by_cases hi:i<k
     .simp[hi,List.getD_eq_getElem?_getD,show i<(Bd m.vars).length by rw[HLn.out];exact hi]
     .simp[hi,show¬i<(Bd m.vars).length by rw[HLn.out];exact hi]
    rwa[e]at this
   have hcf:=HCF.out _ wr hbw hI;clear hI hrow HCF HRow hrow0;go_wp2_with (go_at_call 47;refine hcf.mono ?_;rintro e w2 ⟨rfl,hb2⟩)
   go_ret2;exact⟨rfl,hbw.trans (hb2.mono hbw.size)⟩
theorem SA(va vr:Value)(m:Mo)(w:World)(hB:0<w.heap.size)(hT:AH w)(hV:Aw w va vr m)(h:mcode m≠0) :
  Calls Tryz.prog 29 #[.agg #[va,vr]] w fun e w'=>e=.returned (.tuple #[.int .i64 0,.int .i64 (mcode m)])/\Below w.heap.size w w':=by
 have hA:∀o,Below w.heap.size w (w.alloc o):=fun o=>(Below.refl _ _).alloc (Nat.le_refl _) o;have hch:=fun o=>C5 va vr m (w.alloc o) (Nat.lt_of_lt_of_le hB (hA o).size) (hT.below (hA o) hB) (hV.below (hA o));obtain⟨ao,cap,rfl⟩:=hV.1.shape;obtain⟨ro,rc,rfl⟩:=hV.2.shape;generalize mcode m=x at *;generalize m.vars.length=n at *;generalize m.rules.length=rn at *;clear hV hT
 go_enter Tryz.func29,Tryz.ntmps29;go_wp2_with (go_at_call 46;refine(hch _).mono ?_;rintro e w1 ⟨rfl,hb1⟩)
 go_ret2;exact⟨rfl,(hA _).trans (hb1.mono (hA _).size)⟩
theorem R9(va vr:Value)(m:Mo)(w:World)(hB:0<w.heap.size)(hT:AH w)(hV:Aw w va vr m) :
  Calls Tryz.prog 29 #[.agg #[va,vr]] w fun e w'=>e=.returned (.tuple #[.int .i64 (if mcode m=0 then Bl m.vars (Bd m.vars) m.vars.length else 0),.int .i64 (mcode m)])/\Below w.heap.size w w':=by
 by_cases h:mcode m=0
 .rw[if_pos h,h];exact SB va vr m w hB hT hV h
 .rw[if_neg h];exact SA va vr m w hB hT hV h
structure GV(a b:Vr):Prop where
 na:a.name=bX
 nb:b.name=bY
 a0:-1<=a.lo
 a1:a.lo<=1
 a2:a.lo<=a.hi
 a3:a.hi<=a.lo+3
 a4:a.lo<=a.ini
 a5:a.ini<=a.hi
 b0:-1<=b.lo
 b1:b.lo<=1
 b2:b.lo<=b.hi
 b3:b.hi<=b.lo+3
 b4:b.lo<=b.ini
 b5:b.ini<=b.hi
theorem Qm(sp0 sp1 lw0 lw1 iv0 iv1:Int):∃a b,E2 sp0 sp1 lw0 lw1 iv0 iv1=[a,b]/\GV a b:=by
 obtain⟨p0,p1,p2,p3,p4,p5⟩:=LH bX sp0 lw0 iv0;obtain⟨q0,q1,q2,q3,q4,q5⟩:=LH bY sp1 lw1 iv1;exact⟨_,_,rfl,⟨rfl,rfl,p0,p1,p2,p3,p4,p5,q0,q1,q2,q3,q4,q5⟩⟩
theorem GV.sa{a b:Vr}(h:GV a b):1<=AM a/\AM a<=4:=by
 have:=h.a2;have:=h.a3;unfold AM;omega
theorem GV.sb{a b:Vr}(h:GV a b):1<=AM b/\AM b<=4:=by
 have:=h.b2;have:=h.b3;unfold AM;omega
theorem GV.prod{a b:Vr}(h:GV a b):1<=AM a*AM b/\AM a*AM b<=16:=by
 have h1:=h.sa;have h2:=h.sb;have h3:=Int.mul_le_mul h1.1 h2.1 (by omega) (by omega);have h4:=Int.mul_le_mul h1.2 h2.2 (by omega) (by omega);omega
theorem R8{a b:Vr}(h:GV a b)(l:List Vr):Ch (a::b::l) 1 b.name=false:=by
 show(decide (a.name=b.name)||false)=false;rw[h.na,h.nb];simp[bXY]
theorem GV.vAt{a b:Vr}(h:GV a b)(l:List Vr):vAt (a::b::l) 0=0/\vAt (a::b::l) 1=0:=by
 have h1:=h.sa;have h2:=h.sb;obtain⟨na,nb,p0,p1,p2,p3,p4,p5,q0,q1,q2,q3,q4,q5⟩:=h;have v0:CG a=true:=by simp only[CG,decide_eq_true_eq];omega
 have v1:CG b=true:=by simp only[CG,decide_eq_true_eq];omega
 refine⟨(Jt (l:=a::b::l) (k:=0) rfl rfl).2.2.2.2 (by rw[show((a::b::l).getD 0 vr0).name=bX from na];exact SY) rfl v0 ?_,(Jt (l:=a::b::l) (k:=1) rfl rfl).2.2.2.2 (by rw[show((a::b::l).getD 1 vr0).name=bY from nb];exact SZ) (R8 ⟨na,nb,p0,p1,p2,p3,p4,p5,q0,q1,q2,q3,q4,q5⟩ l) v1 ?_⟩
 .show¬(64<AM a\/4096<1*AM a);omega
 .show¬(64<AM b\/4096<(1*AM a)*AM b);rw[Int.one_mul];have:=Int.mul_le_mul h1.2 h2.2 (by omega) (by omega);omega
theorem GV.vcode{a b:Vr}(h:GV a b):vcode [a,b]=0:=by
 unfold Go.Proofs.YtjldkfiabgagiaaGreatDoor.vcode;rw[if_neg (by simp)];refine DP fun j hj=>?_;have hj2:j=0\/j=1:=by simp at hj;omega
 rcases hj2 with rfl|rfl
 .exact (h.vAt []).1
 .exact (h.vAt []).2
theorem GV.mcode{a b:Vr}(h:GV a b){rules:List Ru}(h5:rules.length<=12)(hr:∀j,j<rules.length->BE 2 (rules.getD j ru0)=0):mcode ⟨[a,b],rules⟩=0:=by
 unfold Go.Proofs.YtjldkfiabgagiaaGreatDoor.mcode;rw[if_pos h.vcode,if_neg (show¬12<rules.length by omega)];exact DP hr
theorem TY(a b:Vr):AK [a,b] 2=AM a*AM b:=by
 show(1*AM a)*AM b=_;rw[Int.one_mul]
section
variable{a b:Vr}{va vr:Value}{w:World}
theorem GModel.shape{w:World}{va vr:Value}{x y:Vr}(h:GModel w va vr [x,y]):∃ao cap ro rn rc,va=.slice ao 2 cap/\vr=.slice ro rn rc/\rn<=5:=by
 obtain⟨rules,h1,h2,h3⟩:=h;obtain⟨ao,cap,e1⟩:=h1.1.shape;obtain⟨ro,rc,e2⟩:=h1.2.shape;exact⟨ao,cap,ro,_,rc,e1,e2,h2⟩
end
theorem PlansV.below{w w':World}{v:Value}{l:List Pl}(h:PlansV w v l)(hb:Below w.heap.size w w'):PlansV w' v l:=SlV.imp h hb.size fun b _ _ hlt _ ⟨⟨u,h1,h2⟩,h3,h4,⟨u',h5,h6⟩,h7⟩=>
 ⟨⟨u,(hb.cell (p:=⟨b,_,none⟩) hlt).trans h1,h2.mv hb⟩,(hb.cell (p:=⟨b,_,none⟩) hlt).trans h3,h4,⟨u',(hb.cell (p:=⟨b,_,none⟩) hlt).trans h5,h6.mv hb⟩,(hb.cell (p:=⟨b,_,none⟩) hlt).trans h7⟩
theorem PU{w:World}{v:Value}{vars:List Vr}(h:KC w v vars):∃c0 c1 c2 c3 c4 c5 c6 a b rules,v=.agg #[c0,c1,c2,c3,c4,c5,c6]/\GV a b/\
  ∀w',Below w.heap.size w w'->Calls Tryz.prog 14 #[.agg #[c0,c1,c2,c3,c4,c5,c6]] w' fun e w2=>∃va vr,e=.returned (.agg #[va,vr])/\Below w'.heap.size w' w2/\El w2 va vr [a,b] rules:=by
 obtain⟨sp0,sp1,lw0,lw1,iv0,iv1,pv,ps,rfl,hI,hP,rfl⟩:=h;obtain⟨a,b,he,hG⟩:=Qm sp0 sp1 lw0 lw1 iv0 iv1;refine⟨_,_,_,_,_,_,_,a,b,(ps.take 5).map C3,rfl,hG,fun w' hb=>?_⟩;rw[<-he];exact SG sp0 sp1 lw0 lw1 iv0 iv1 pv ps w' hI (hP.below hb)
open Terms
theorem O0:Tryz.prog.cellsOf 76=2:=by kernel_rfl
theorem Oo:Tryz.prog.bytesOf 76=16:=by kernel_rfl
theorem Sx{H:Type}{enc:TypeId×Value->H}{W:World}{base:Nat}{v:Value}{d:DataW H}{p:List MemPlace}{ts:List TypeId}{ds:List (DataW H)}{j:Nat}
  (hv:Value.okWide Tryz.prog W .any base 27 v) (h:DataW.Trod enc Tryz.prog W 0 (fun _=>true) true 27 v d p)
  (hsz:(DataW.weightsEach Tryz.prog ts ds).all (·<=reachBytes)=true) (ht:ts[j]? = some 27) (hd:ds[j]? = some d):∃rs,Raws W W.heap.size v rs:=by
 obtain⟨a0,len,cap,rfl⟩:=okWide_slice Tryz.underlying27 hv;obtain⟨fuel,hf⟩:=h;rcases open_slice_pairs Tryz.underlying27 Tryz.underlying76 O0 rfl rfl DZ DZ hf with⟨hcs,hx⟩|⟨a,len',cap',m,n,V0,V1,D0,D1,P0,P1,hcs,_,hl,hm,hmm,hx,hcell⟩
 .simp[Value.cells]at hcs;obtain⟨rfl,rfl,rfl⟩:=hcs;exact⟨[],⟨⟨none,0,rfl,fun h=>absurd rfl h⟩,by simp,fun i hi=>by simp at hi⟩⟩
 .simp[Value.cells]at hcs;obtain⟨rfl,rfl,rfl⟩:=hcs;simp at hmm;subst hmm;have hd2:ds[j]? = some (.slice ((List.range len).map fun i=>.agg [D0 i,D1 i]) ((List.range (m-len)).map fun j=>.agg [D0 (len+j),D1 (len+j)])):=by rw[hd,(Prod.mk.inj hx).1]
  have hs:=sized_slice hsz ht hd2 Tryz.underlying27;rw[Oo]at hs;simp only[List.length_map,List.length_range,reachBytes]at hs;have hget:∀i,i<len->(((List.range len).map fun i=>(intOf (V0 i),intOf (V1 i))).getD i (0,0))=(intOf (V0 i),intOf (V1 i)):=fun i hi=>by simp[List.getD_eq_getElem?_getD,hi]
  have each:∀i,i<len->∃x0 x1,W.cell? (a.add (i*2))=some (.int .i64 x0)/\W.cell? (a.add (i*2+1))=some (.int .i64 x1)/\V0 i=.int .i64 x0/\V1 i=.int .i64 x1/\I64 x0/\I64 x1:=by
   intro i hi;obtain⟨c0,c1,t0,t1⟩:=hcell i (by omega);obtain⟨x0,e0,_,w0⟩:=DataW.trod_int Tryz.underlying3 t0;obtain⟨x1,e1,_,w1⟩:=DataW.trod_int Tryz.underlying3 t1;simp at e0 e1;refine⟨x0,x1,by rw[c0,e0],by rw[c1,e1],e0,e1,?_,?_⟩
   .simpa[I64,Lit.wf,IntKind.min,IntKind.max,IntKind.signed,IntKind.bits]using w0
   .simpa[I64,Lit.wf,IntKind.min,IntKind.max,IntKind.signed,IntKind.bits]using w1
  refine⟨(List.range len).map fun i=>(intOf (V0 i),intOf (V1 i)),⟨⟨some a,m,by simp,fun hne=>?_⟩,by simp;omega,fun i hi=>?_⟩⟩
  .have hpos:0<len:=by
    rcases Nat.eq_zero_or_pos len with h0|h0
    .subst h0;simp at hne
    .exact h0
   obtain⟨b,off,spot⟩:=a;have hspot:spot=none:=by simpa[Addr.add]using World.cell?_spot (hcell 0 (by omega)).1
   subst hspot;refine⟨b,off,rfl,?_,fun i hi=>?_⟩
   .have:=World.block_lt_of_cell? W _ (hcell 0 (by omega)).1;simpa[Addr.add]using this
   .simp only[List.length_map,List.length_range]at hi;obtain⟨x0,x1,c0,c1,e0,e1,_,_⟩:=each i hi;rw[add_plain]at c0 c1;rw[show off+(i*2+1)=off+i*2+1 by omega]at c1;rw[hget i hi,e0,e1];exact⟨c0,c1⟩
  .simp only[List.length_map,List.length_range]at hi;obtain⟨x0,x1,_,_,e0,e1,h0,h1⟩:=each i hi;rw[hget i hi,e0,e1];exact⟨h0,h1⟩
def DE:Value:=.slice none 0 0
theorem Ez{α:Type}(a b:List α)(d:α)(i:Nat):(a++b).getD i d=if i<a.length then a.getD i d else b.getD (i-a.length) d:=by
 by_cases h:i<a.length
 .rw[if_pos h];simp[List.getD_eq_getElem?_getD,List.getElem?_append_left h]
 .rw[if_neg h];simp[List.getD_eq_getElem?_getD,List.getElem?_append_right (Nat.le_of_not_lt h)]
namespace Go.Proofs.YtjldkfiabgagiaaGreatDoor.Terms
namespace Tm
set_option maxHeartbeats 6400000
set_option maxRecDepth 20000
def ho(σ:Nat->Nat->Bool):Tm->Nat->Prop
 |leaf k v=>fun i=>if k=13 then σ i v.toNat=true else k=11
 |un k _ a=>fun i=>if k=10 then¬ho σ a i else if k=14 then ho σ a (i+1)else if k=17 then∃j,i<=j/\ho σ a j else∀j,i<=j->ho σ a j
 |bi k _ a b=>fun i=>if k=8 then ho σ a i/\ho σ b i else if k=9 then ho σ a i\/ho σ b i else if k=15 then∃j,i<=j/\ho σ b j/\∀m,i<=m->m<j->ho σ a m else∀j,i<=j->ho σ b j\/∃m,i<=m/\m<j/\ho σ a m
open Classical in
noncomputable def hb(σ:Nat->Nat->Bool)(t:Tm)(i:Nat):Bool:=decide (ho σ t i)
end Tm
namespace Tm
end Tm
end Go.Proofs.YtjldkfiabgagiaaGreatDoor.Terms
namespace Go.Proofs.YtjldkfiabgagiaaGreatDoor.Terms
namespace Tm
set_option maxHeartbeats 6400000
set_option maxRecDepth 20000
end Tm
end Go.Proofs.YtjldkfiabgagiaaGreatDoor.Terms
open Go.ChangeShapes Go.WideShapes Go.ChangeAt Go.RowKit Go.Deep Go.Joins
section
variable{H:Type}{enc:TypeId×Value -> H}{W:World}
end
open Go.Shelf
def RR:Go.Shelf.Ren:=⟨fun|189=>133|125=>164|257=>163|128=>182|129=>183|294=>174|295=>175|296=>176|297=>177|298=>178|299=>179|216=>144|300=>180|301=>181|328=>188|329=>189|330=>190|331=>191|332=>192|215=>170|343=>194|n=>n,fun|28=>39|3=>3|46=>235|0=>0|51=>266|53=>268|4=>4|183=>260|182=>259|131=>108|5=>5|9=>9|218=>270|222=>274|228=>277|229=>278|n=>n,fun|n=>n⟩
theorem LV:Go.Proofs.Lays.n189 Tryz.prog RR:={
 mixed:=by kernel_rfl
 f125:=Tryz.func164.trans (congrArg some (by kernel_rfl))
 f128:=Tryz.func182.trans (congrArg some (by kernel_rfl))
 f129:=Tryz.func183.trans (congrArg some (by kernel_rfl))
 f189:=Tryz.func133.trans (congrArg some (by kernel_rfl))
 f215:=Tryz.func170.trans (congrArg some (by kernel_rfl))
 f216:=Tryz.func144.trans (congrArg some (by kernel_rfl))
 f257:=Tryz.func163.trans (congrArg some (by kernel_rfl))
 f294:=Tryz.func174.trans (congrArg some (by kernel_rfl))
 f295:=Tryz.func175.trans (congrArg some (by kernel_rfl))
 f296:=Tryz.func176.trans (congrArg some (by kernel_rfl))
 f297:=Tryz.func177.trans (congrArg some (by kernel_rfl))
 f298:=Tryz.func178.trans (congrArg some (by kernel_rfl))
 f299:=Tryz.func179.trans (congrArg some (by kernel_rfl))
 f300:=Tryz.func180.trans (congrArg some (by kernel_rfl))
 f301:=Tryz.func181.trans (congrArg some (by kernel_rfl))
 f328:=Tryz.func188.trans (congrArg some (by kernel_rfl))
 f329:=Tryz.func189.trans (congrArg some (by kernel_rfl))
 f330:=Tryz.func190.trans (congrArg some (by kernel_rfl))
 f331:=Tryz.func191.trans (congrArg some (by kernel_rfl))
 f332:=Tryz.func192.trans (congrArg some (by kernel_rfl))
 f343:=Tryz.func194.trans (congrArg some (by kernel_rfl))
 t0:=Tryz.underlying0
 a0:=Tryz.isAgg0
 z0:=Tryz.sizeOf0
 v0:=Tryz.zeroValue0
 t3:=Tryz.underlying3
 a3:=Tryz.isAgg3
 z3:=Tryz.sizeOf3
 v3:=Tryz.zeroValue3
 t4:=Tryz.underlying4
 a4:=Tryz.isAgg4
 z4:=Tryz.sizeOf4
 v4:=Tryz.zeroValue4
 t5:=Tryz.underlying5
 a5:=Tryz.isAgg5
 z5:=Tryz.sizeOf5
 v5:=Tryz.zeroValue5
 t9:=Tryz.underlying9
 a9:=Tryz.isAgg9
 z9:=Tryz.sizeOf9
 v9:=Tryz.zeroValue9
 t28:=Tryz.underlying39
 a28:=Tryz.isAgg39
 z28:=Tryz.sizeOf39
 v28:=Tryz.zeroValue39
 t46:=Tryz.underlying235
 a46:=Tryz.isAgg235
 z46:=Tryz.sizeOf235
 v46:=Tryz.zeroValue235
 t51:=Tryz.underlying266
 a51:=Tryz.isAgg266
 z51:=Tryz.sizeOf266
 v51:=Tryz.zeroValue266
 t53:=Tryz.underlying268
 a53:=Tryz.isAgg268
 z53:=Tryz.sizeOf268
 v53:=Tryz.zeroValue268
 t131:=Tryz.underlying108
 a131:=Tryz.isAgg108
 z131:=Tryz.sizeOf108
 v131:=Tryz.zeroValue108
 t182:=Tryz.underlying259
 a182:=Tryz.isAgg259
 z182:=Tryz.sizeOf259
 v182:=Tryz.zeroValue259
 t183:=Tryz.underlying260
 a183:=Tryz.isAgg260
 z183:=Tryz.sizeOf260
 v183:=Tryz.zeroValue260
 t218:=Tryz.underlying270
 a218:=Tryz.isAgg270
 z218:=Tryz.sizeOf270
 v218:=Tryz.zeroValue270
 t222:=Tryz.underlying274
 a222:=Tryz.isAgg274
 z222:=Tryz.sizeOf274
 v222:=Tryz.zeroValue274
 t228:=Tryz.underlying277
 a228:=Tryz.isAgg277
 z228:=Tryz.sizeOf277
 v228:=Tryz.zeroValue277
 t229:=Tryz.underlying278
 a229:=Tryz.isAgg278
 z229:=Tryz.sizeOf278
 v229:=Tryz.zeroValue278}
open Go.Sort Go.RowKit in
theorem slices_Sort_int(blk off cap:Nat)(zs:List Int)(w:World)(hH:Holds (Value.int .i64) w blk off zs.toArray)(hblk:blk<w.heap.size)(hsz:zs.length<4611686018427387904) :
  Calls Tryz.prog 133 #[.slice (some ⟨blk,off,none⟩) zs.length cap] w fun e w'=>
   e=.returned (.tuple #[])/\∃n os,w'=grow (putRow (Value.int .i64) (Sort.ahead w n) blk off (zs.mergeSort fun x y=>decide (x<=y)).toArray) os:=Any.slices_Sort_int LV blk off cap zs w hH hblk hsz
def RV:Go.Shelf.Ren:=⟨fun|20=>134|n=>n,fun|22=>39|3=>3|4=>4|0=>0|n=>n,fun|n=>n⟩
theorem RU:Go.Proofs.Lays2.n20 Tryz.prog RV:={
 mixed:=by kernel_rfl
 f20:=Tryz.func134.trans (congrArg some (by kernel_rfl))
 t0:=Tryz.underlying0
 a0:=Tryz.isAgg0
 z0:=Tryz.sizeOf0
 v0:=Tryz.zeroValue0
 t3:=Tryz.underlying3
 a3:=Tryz.isAgg3
 z3:=Tryz.sizeOf3
 v3:=Tryz.zeroValue3
 t4:=Tryz.underlying4
 a4:=Tryz.isAgg4
 z4:=Tryz.sizeOf4
 v4:=Tryz.zeroValue4
 t22:=Tryz.underlying39
 a22:=Tryz.isAgg39
 z22:=Tryz.sizeOf39
 v22:=Tryz.zeroValue39
 i3:=by kernel_rfl}
open Go.RowKit Go.Lib Go.Sort in
theorem slices_Compact_int(blk off cap:Nat)(zs:List Int)(w:World)(hH:Holds (Value.int .i64) w blk off zs.toArray)(hsz:zs.length<=9223372036854775807)(hcap:zs.length<=cap) :
  Calls Tryz.prog 134 #[.slice (some ⟨blk,off,none⟩) zs.length cap] w fun e w'=>e=.returned (.slice (some ⟨blk,off,none⟩) (Lib.compact zs).length cap)/\∃q,w'=putRow (Value.int .i64) (Sort.ahead w q) blk off (Lib.compact zs++List.replicate (zs.length-(Lib.compact zs).length) 0).toArray:=Any.slices_Compact_int RU blk off cap zs w hH hsz hcap
def RW:Go.Shelf.Ren:=⟨fun|25=>112|31=>144|32=>145|37=>170|n=>n,fun|22=>39|3=>3|4=>4|40=>235|0=>0|n=>n,fun|n=>n⟩
theorem LW:Go.Proofs.Lays2.n25 Tryz.prog RW:={
 mixed:=by kernel_rfl
 f25:=Tryz.func112.trans (congrArg some (by kernel_rfl))
 f31:=Tryz.func144.trans (congrArg some (by kernel_rfl))
 f32:=Tryz.func145.trans (congrArg some (by kernel_rfl))
 f37:=Tryz.func170.trans (congrArg some (by kernel_rfl))
 t0:=Tryz.underlying0
 a0:=Tryz.isAgg0
 z0:=Tryz.sizeOf0
 v0:=Tryz.zeroValue0
 t3:=Tryz.underlying3
 a3:=Tryz.isAgg3
 z3:=Tryz.sizeOf3
 v3:=Tryz.zeroValue3
 t4:=Tryz.underlying4
 a4:=Tryz.isAgg4
 z4:=Tryz.sizeOf4
 v4:=Tryz.zeroValue4
 t22:=Tryz.underlying39
 a22:=Tryz.isAgg39
 z22:=Tryz.sizeOf39
 v22:=Tryz.zeroValue39
 t40:=Tryz.underlying235
 a40:=Tryz.isAgg235
 z40:=Tryz.sizeOf235
 v40:=Tryz.zeroValue235}
open Go.RowKit Go.Lib in
theorem slices_BinarySearch_int(b off n c:Nat)(zs:List Int)(x:Int)(w:World)(hz:n<=zs.length)(hbig:n<4611686018427387904)(hc:∀j,j<zs.length->w.cell? ⟨b,off+j,none⟩=some (.int .i64 (zs.getD j 0)))(hs:(zs.take n).Pairwise (· <= ·)) :
  Calls Tryz.prog 112 #[.slice (some ⟨b,off,none⟩) n c,.int .i64 x] w fun e w'=>e=.returned (.tuple #[.int .i64 ((zs.take n).countP (· < x):Nat),.bool ((zs.take n).contains x)])/\∃q,w'=w.drewN q:=Any.slices_BinarySearch_int LW b off n c zs x w hz hbig hc hs
open Go.RowKit Go.Sort in
theorem slices_Sort_int_none(p:Option Addr)(cap:Nat)(w:World) :
  Calls Tryz.prog 133 #[.slice p 0 cap] w fun e w'=>e=.returned (.tuple #[])/\w'=w:=Any.slices_Sort_int_none LV p cap w
open Go.RowKit Go.Lib in
theorem slices_BinarySearch_int_empty(a:Option Addr)(c:Nat)(x:Int)(w:World) :
  Calls Tryz.prog 112 #[.slice a 0 c,.int .i64 x] w fun e w'=>e=.returned (.tuple #[.int .i64 0,.bool false])/\w'=w:=Any.slices_BinarySearch_int_empty LW a c x w
open Go.RowKit Go.Sort
def leB(x y:Int):Bool:=decide (x<=y)
theorem NA(g cap base:Nat)(zs:List Int)(w:World)(hz:zs.length<=100000)(ho:w.ownsRow base 3 1 (.slice (some ⟨g,0,none⟩) zs.length cap) zs.length (AB zs)) :
  Calls Tryz.prog 133 #[.slice (some ⟨g,0,none⟩) zs.length cap] w fun e w'=>e=.returned (.tuple #[])/\w.grownBy w' (some g)/\w'.ownsRow base 3 1 (.slice (some ⟨g,0,none⟩) zs.length cap) zs.length (AB (zs.mergeSort leB)):=by
 have ho':w.ownsRow base 3 1 (.slice (some ⟨g,0,none⟩) zs.length cap) zs.length (zs.map (Value.int .i64)):=ho;obtain⟨g',cap',hv,hbg,hlt,hn,hm,hl,hH⟩:=Lib.holds_of_ownsRow ho' (by simp);injection hv with h1 h2 h3;injection h1 with h1;injection h1 with h1;subst h1 h3;rcases ho.2 with⟨e0,_⟩|⟨g2,cap2,cur,e0,hb,hg,hnc,hcm,hcs,ht⟩
 .cases e0
 .injection e0 with e1 _ e3;injection e1 with e1;injection e1 with e1;subst e1 e3;refine(slices_Sort_int g 0 cap zs w hH hlt (by omega)).mono fun e w' ⟨he,n,os,hw⟩=>⟨he,?_,?_⟩
  .rw[hw];exact grownBy_sortedI _
  .rw[hw];exact ownsRow_sortedI (ts:=zs.mergeSort leB) (by simp) hbg hg hnc hcm hcs
theorem Km(g cap base:Nat)(zs:List Int)(w:World)(hz:zs.length<=100000)(ho:w.ownsRow base 3 1 (.slice (some ⟨g,0,none⟩) zs.length cap) zs.length (AB zs)) :
  Calls Tryz.prog 134 #[.slice (some ⟨g,0,none⟩) zs.length cap] w fun e w'=>e=.returned (.slice (some ⟨g,0,none⟩) (Lib.compact zs).length cap)/\w.grownBy w' (some g)/\w'.ownsRow base 3 1 (.slice (some ⟨g,0,none⟩) (Lib.compact zs).length cap) (Lib.compact zs).length (AB (Lib.compact zs)):=by
 have ho':w.ownsRow base 3 1 (.slice (some ⟨g,0,none⟩) zs.length cap) zs.length (zs.map (Value.int .i64)):=ho;obtain⟨g',cap',hv,hbg,hlt,hn,hm,hl,hH⟩:=Lib.holds_of_ownsRow ho' (by simp);injection hv with h1 h2 h3;injection h1 with h1;injection h1 with h1;subst h1 h3;have hcl:=Lib.compact_length_le zs;refine(slices_Compact_int g 0 cap zs w hH (by omega) hn).mono fun e w' ⟨he,q,hw⟩=>⟨he,?_,?_⟩
 .rw[hw];refine⟨rfl,rfl,rfl,by simp[putRow,mapBlock,Sort.ahead],fun k _ hne=>?_⟩;have:g≠k:=fun e=>hne (by rw[e]);simp[putRow,mapBlock,Sort.ahead,Array.getElem?_modify,this]
 .rw[hw];have h:=Lib.ownsRow_putRow (q:=q) (k:=(Lib.compact zs).length) (ys:=Lib.compact zs++List.replicate (zs.length-(Lib.compact zs).length) 0) ho' (by simp;omega) hcl;rw[List.take_left]at h;exact h
abbrev Rise(l:List Int):Prop:=l.Pairwise (· < ·)
theorem PJ{d:Array Int}{n:Nat}(hs:∀i j,i<=j->j<n->d[i]!<=d[j]!):∀m,m<=n->Rise (Lib.compactUpTo d m)/\∀x,x∈Lib.compactUpTo d m↔∃j,j<m/\d[j]! = x:=by
 intro m;induction m with
 |zero=>intro _;exact⟨by simp[Lib.compactUpTo],fun x=>by simp[Lib.compactUpTo]⟩
 |succ m ih=>
  intro hm;obtain⟨h1,h2⟩:=ih (by omega);rw[Lib.compactUpTo_succ];by_cases hk:Lib.keeps d m=true
  .rw[if_pos hk];refine⟨List.pairwise_append.2 ⟨h1,by simp,fun x hx y hy=>?_⟩,fun x=>?_⟩
   .simp at hy;subst hy;obtain⟨j,hj,rfl⟩:=(h2 x).1 hx;have h3:=hs j m (by omega) (by omega);have h4:=hs j (m-1) (by omega) (by omega);have h5:=hs (m-1) m (by omega) (by omega);have h6:d[m]!≠d[m-1]!:=by
     have:m≠0:=by omega
     simpa[Lib.keeps,this]using hk
    omega
   .simp only[List.mem_append,List.mem_singleton,h2];constructor
    .rintro (⟨j,hj,e⟩|e)
     .exact ⟨j,by omega,e⟩
     .exact ⟨m,by omega,e.symm⟩
    .rintro ⟨j,hj,e⟩;by_cases hjm:j=m
     .subst hjm;exact .inr e.symm
     .exact .inl ⟨j,by omega,e⟩
  .rw[if_neg hk,List.append_nil];refine⟨h1,fun x=>?_⟩;rw[h2];constructor
   .rintro ⟨j,hj,e⟩;exact⟨j,by omega,e⟩
   .rintro ⟨j,hj,e⟩;by_cases hjm:j=m
    .subst hjm;have h7:j≠0/\d[j]! = d[j-1]!:=by simpa[Lib.keeps]using hk
     exact⟨j-1,by omega,by rw[<-h7.2];exact e⟩
    .exact ⟨j,by omega,e⟩
def upL(l:List Int):List Int:=Lib.compact (l.mergeSort leB)
theorem NW(l:List Int):Rise (upL l)/\∀x,x∈upL l↔x∈l:=by
 have hp:(l.mergeSort leB).Pairwise (fun x y=>leB x y=true):=List.pairwise_mergeSort (le:=leB) (by intro a b c;simp only[leB,decide_eq_true_eq];omega) (by intro a b;simp only[leB,Bool.or_eq_true,decide_eq_true_eq];omega) l;have hs:∀i j,i<=j->j<(l.mergeSort leB).length->(l.mergeSort leB).toArray[i]!<=(l.mergeSort leB).toArray[j]!:=fun i j hij hj=>by
  rw[getElem!_pos _ i (by simpa using(by omega:i<(l.mergeSort leB).length)),getElem!_pos _ j (by simpa using hj)];rcases Nat.lt_or_eq_of_le hij with h|h
  .have:=List.pairwise_iff_getElem.1 hp i j (by omega) hj h;simpa[leB]using this
  .subst h;exact Int.le_refl _
 obtain⟨h1,h2⟩:=PJ hs (l.mergeSort leB).length (Nat.le_refl _);refine⟨h1,fun x=>?_⟩;show x∈Lib.compactUpTo _ _↔_;rw[h2,<-(List.mergeSort_perm l leB).mem_iff,List.mem_iff_getElem];constructor
 .rintro ⟨j,hj,e⟩;exact⟨j,hj,by rw[<-e,getElem!_pos _ j (by simpa using hj)];rfl⟩
 .rintro ⟨j,hj,e⟩;exact⟨j,hj,by rw[getElem!_pos _ j (by simpa using hj)];exact e⟩
def zL(a b:Nat)(k:Nat):Int:=if k=0 then 0 else if k=1 then(a:Int)else(a:Int)+(b:Int)
theorem TermsV.shape{w:World}{v:Value}{ts:List (List (Int×Int))}(h:TermsV w v ts):∃ao cap,v=.slice ao ts.length cap:=by
 obtain⟨ao,cap,h1,_⟩:=h;exact⟨ao,cap,h1⟩
theorem TermsV.at{w:World}{ao:Option Addr}{cap n:Nat}{ts:List (List (Int×Int))}(h:TermsV w (.slice ao n cap) ts){i:Nat}(hi:i<ts.length):∃b off,ao=some ⟨b,off,none⟩/\b<w.heap.size/\∃u,w.cell? ⟨b,off+i,none⟩=some u/\OpsV w u (ts.getD i []):=by
 obtain⟨ao',cap',h1,h3⟩:=h;injection h1 with e1 e2 e3;subst e1;obtain⟨b,off,e,hb,hh⟩:=h3 (by intro h;subst h;simp at hi);exact⟨b,off,e,hb,hh i hi⟩
theorem SJ(va vr pv:Value)(m:Mo)(ps:List (List (Int×Int)))(w:World)(hB:0<w.heap.size)(hT:AH w)(hV:Aw w va vr m)(hP:TermsV w pv ps)(h:mcode m=0)(hl6:ps.length<=6) :
  Calls Tryz.prog 43 #[.agg #[va,vr],pv] w fun e w'=>e=.returned (.int .i64 (Ax (fun i=>kcode m.vars.length (ps.getD i []) true) ps.length))/\Below w.heap.size w w':=by
 have hA:∀o,Below w.heap.size w (w.alloc o):=fun o=>(Below.refl _ _).alloc (Nat.le_refl _) o;have hch:=fun o=>C5 va vr m (w.alloc o) (Nat.lt_of_lt_of_le hB (hA o).size) (hT.below (hA o) hB) (hV.below (hA o));rw[h]at hch;have h6:=(Cu h).1;obtain⟨ao,cap,rfl⟩:=hV.1.shape;obtain⟨ro,rc,rfl⟩:=hV.2.shape;obtain⟨po,pc,rfl⟩:=hP.shape;have HP:Hid (TermsV w (.slice po ps.length pc) ps):=hP;have HT:Hid (AH w):=hT;obtain⟨n,hn⟩:∃n,n=ps.length:=⟨_,rfl⟩;have HN:Hid (n=ps.length):=hn;rw[<-hn]at hl6 HP⊢;generalize m.vars.length=vn at *;generalize m.rules.length=rn at *;clear hV hT hP hn h;obtain⟨f,hf⟩:∃f:Nat->Int,f=fun i=>kcode vn (ps.getD i []) true:=⟨_,rfl⟩
 rw[<-hf];have HF:Hid (f=fun i=>kcode vn (ps.getD i []) true):=hf;clear hf;go_enter Tryz.func43,Tryz.ntmps43;go_wp2_with (go_at_call 46;refine(hch _).mono ?_;rintro e w1 ⟨rfl,hb1⟩)
 have hb1':Below (w.heap.size+1) (w.alloc (.cells #[.slice ao vn cap,.slice ro rn rc] 31)) w1:=hb1.mono (by simp);clear hch hb1;go_loopw [19] (fun i wr=>∃k:Nat,k<=n/\i=.int .i64 k/\Hid (∀j,j<k->f j=0)/\Below (w.heap.size+1) (w.alloc (.cells #[.slice ao vn cap,.slice ro rn rc] 31)) wr) (fun i _=>n-(intOf i).toNat)
 case atStart=>exact⟨0,Nat.zero_le _,rfl,fun j hj=>by omega,hb1'⟩
 case round=>
  obtain⟨k,hk,rfl,HJ,hbel⟩:=hrel;clear hb1';have hbw:=(hA _).trans (hbel.mono (Nat.le_succ _));have hszb:w.heap.size+1<=wr.heap.size:=by have:=hbel.size;simp at this;omega
  have cb:=(hbel.cell (p:=⟨w.heap.size,0,none⟩) (by simp)).trans (show _=some (.slice ao vn cap) by simp[go_sem]);by_cases hlt:k<n
  .obtain ⟨b,off,rfl,hblt,u,c0',hO⟩:=HP.out.at (i:=k) (by rw[<-HN.out];exact hlt);have HFk:Hid (f k=kcode vn (ps.getD k []) true):=by show _=_;rw[HF.out]
   have HHit:Hid (∀c,f k=c->c≠0->Ax f n=c):=fun c h1 h2=>by rw[GW hlt HJ.out (by rw[h1];exact h2),h1]
   have HStep:Hid (f k=0->∀j,j<k+1->f j=0):=fun h0 j hj=>by
    by_cases hjk:j=k
    .subst hjk;exact h0
    .exact HJ.out j (by omega)
   generalize ps.getD k []=p at *;obtain⟨ua,uc,rfl⟩:=hO.shape;have c0:=(hbw.cell (p:=⟨b,off+k,none⟩) hblt).trans c0';have hcm:=GI _ p vn true wr (Nat.lt_of_lt_of_le hB hbw.size) (HT.out.below hbw hB) (hO.below hbw);generalize p.length=pn at *;obtain⟨x,hx⟩:∃x,kcode vn p true=x:=⟨_,rfl⟩
   rw[hx]at hcm HFk;clear HJ c0' hO hx HF;by_cases hx0:x=0
   .subst hx0;have HJ2:=(show Hid _ from HStep.out HFk.out);clear HStep HHit HFk;go_wp2_with (go_at_call 61;refine hcm.mono ?_;rintro e w3 ⟨rfl,hb3⟩)
    go_roundw
    case rel=>exact⟨k+1,hlt,by go_num,HJ2,hbel.trans (hb3.mono hszb)⟩
    case measure=>simp[intOf];omega
   .have HR:Hid (Ax f n=x):=HHit.out x HFk.out hx0;clear HStep HHit HFk;go_wp2_with (go_at_call 61;refine hcm.mono ?_;rintro e w3 ⟨rfl,hb3⟩)
    go_ret;rw[HR.out];exact⟨rfl,hbw.trans (hb3.mono hbw.size)⟩
  .have hkn:k=n:=by omega
   have HR:Hid (Ax f n=0):=DP (fun j hj=>HJ.out j (by omega));go_wp2;go_ret;rw[HR.out];exact⟨rfl,hbw⟩
theorem Lw(va vr pv:Value)(m:Mo)(ps:List (List (Int×Int)))(w:World)(hB:0<w.heap.size)(hT:AH w)(hV:Aw w va vr m)(hP:TermsV w pv ps) :
  Calls Tryz.prog 43 #[.agg #[va,vr],pv] w fun e w'=>e=.returned (.int .i64 (CL m ps))/\Below w.heap.size w w':=by
 unfold CL;by_cases h:mcode m=0
 .rw[if_pos h];by_cases h6:6<ps.length
  .rw[if_pos h6];have hA:∀o,Below w.heap.size w (w.alloc o):=fun o=>(Below.refl _ _).alloc (Nat.le_refl _) o;have hch:=fun o=>C5 va vr m (w.alloc o) (Nat.lt_of_lt_of_le hB (hA o).size) (hT.below (hA o) hB) (hV.below (hA o));rw[h]at hch;obtain⟨ao,cap,rfl⟩:=hV.1.shape;obtain⟨ro,rc,rfl⟩:=hV.2.shape;obtain⟨po,pc,rfl⟩:=hP.shape;generalize m.vars.length=vn at *;generalize m.rules.length=rn at *;generalize ps.length=n at *;clear hV hT hP h
   go_enter Tryz.func43,Tryz.ntmps43;go_wp2_with (go_at_call 46;refine(hch _).mono ?_;rintro e w1 ⟨rfl,hb1⟩)
   go_ret;exact⟨rfl,(hA _).trans (hb1.mono (hA _).size)⟩
  .rw[if_neg h6];exact SJ va vr pv m ps w hB hT hV hP h (by omega)
 .rw[if_neg h];have hA:∀o,Below w.heap.size w (w.alloc o):=fun o=>(Below.refl _ _).alloc (Nat.le_refl _) o;have hch:=fun o=>C5 va vr m (w.alloc o) (Nat.lt_of_lt_of_le hB (hA o).size) (hT.below (hA o) hB) (hV.below (hA o));obtain⟨ao,cap,rfl⟩:=hV.1.shape;obtain⟨ro,rc,rfl⟩:=hV.2.shape;obtain⟨po,pc,rfl⟩:=hP.shape;generalize mcode m=x at *;generalize m.vars.length=vn at *;generalize m.rules.length=rn at *;generalize ps.length=n at *;clear hV hT hP
  go_enter Tryz.func43,Tryz.ntmps43;go_wp2_with (go_at_call 46;refine(hch _).mono ?_;rintro e w1 ⟨rfl,hb1⟩)
  go_ret;exact⟨rfl,(hA _).trans (hb1.mono (hA _).size)⟩
def Af(k:Int):Bool:=decide (14<=k/\k<=18)
def Az(props:Int)(o:Int×Int):Int:=if o.1<8 then 13 else if o.2<0\/(if o.1=13 then props-1 else 0)<o.2 then 2 else 0
def CC(props:Int):List (Int×Int)->Int
 |[]=>0
 |o::r=>if Az props o≠0 then Az props o else CC props r
theorem Rc{props:Int}:∀{l:List (Int×Int)} {i:Nat},i<l.length->(∀j,j<i->Az props (l.getD j (0,0))=0)->Az props (l.getD i (0,0))≠0->CC props l=Az props (l.getD i (0,0)):=by
 intro l;induction l with
 |nil=>intro i hi;simp at hi
 |cons o r ih=>
  intro i hi hj hne;cases i with
  |zero=>simp only[List.getD_cons_zero]at hne⊢;simp[CC,hne]
  |succ i=>
   have h0:=hj 0 (by omega);simp only[List.getD_cons_zero]at h0;simp only[List.getD_cons_succ]at hne⊢;simp only[CC,h0,ne_eq,not_true_eq_false,if_false];exact ih (by simpa using hi) (fun j hjj=>by simpa using hj (j+1) (by omega)) hne
theorem Lf{props:Int}:∀{l:List (Int×Int)},(∀j,j<l.length->Az props (l.getD j (0,0))=0)->CC props l=0:=by
 intro l;induction l with
 |nil=>intro _;rfl
 |cons o r ih=>
  intro hj;have h0:=hj 0 (by simp);simp only[List.getD_cons_zero]at h0;simp only[CC,h0,ne_eq,not_true_eq_false,if_false];exact ih (fun j hjj=>by simpa using hj (j+1) (by simpa using hjj))
theorem Rb{props:Int}:∀{l:List (Int×Int)},CC props l=0->∀j,j<l.length->Az props (l.getD j (0,0))=0:=by
 intro l;induction l with
 |nil=>intro _ j hj;simp at hj
 |cons o r ih=>
  intro h j hj;simp only[CC]at h;split at h
  .rename_i h1;exact absurd h h1
  .rename_i h1;cases j with
   |zero=>simpa using h1
   |succ j=>simpa using ih h j (by simpa using hj)
def AN(l:List (Int×Int)):Nat->List Int
 |0=>[]
 |n+1=>AN l n++if Af (l.getD n (0,0)).1=true then [(n:Int)]else []
theorem GE{l:List (Int×Int)}{n:Nat}(h:Af (l.getD n (0,0)).1=true):AN l (n+1)=AN l n++[(n:Int)]:=by simp only[AN];rw[if_pos h]
theorem KN{l:List (Int×Int)}{n:Nat}(h:Af (l.getD n (0,0)).1=false):AN l (n+1)=AN l n:=by simp only[AN];rw[if_neg (by rw[h];decide)];simp
theorem N8(l:List (Int×Int)):∀n,(AN l n).length<=n:=by
 intro n;induction n with
 |zero=>simp[AN]
 |succ n ih=>simp only[AN,List.length_append];split<;>simp<;>omega
def AA(l:List (Int×Int)):List Int:=AN l l.length
def Ab(props:Int)(l:List (Int×Int)):Int:=
 if props<0\/6<props then 2 else if AR (l.map Prod.fst)≠0 then AR (l.map Prod.fst)else if CC props l≠0 then CC props l else if 6<(AA l).length then 1 else 0
theorem It{props:Int}{l:List (Int×Int)}(h:props<0\/6<props):Ab props l=2:=by unfold Ab;rw[if_pos h]
theorem Ir{props:Int}{l:List (Int×Int)}(h:¬(props<0\/6<props))(h2:AR (l.map Prod.fst)≠0):Ab props l=AR (l.map Prod.fst):=by unfold Ab;rw[if_neg h,if_pos h2]
theorem LX{props:Int}{l:List (Int×Int)}(h:¬(props<0\/6<props))(h2:AR (l.map Prod.fst)=0)(h3:CC props l≠0):Ab props l=CC props l:=by unfold Ab;rw[if_neg h,if_neg (by simpa using h2),if_pos h3]
theorem Is{props:Int}{l:List (Int×Int)}(h:¬(props<0\/6<props))(h2:AR (l.map Prod.fst)=0)(h3:CC props l=0):Ab props l=if 6<(AA l).length then 1 else 0:=by unfold Ab;rw[if_neg h,if_neg (by simpa using h2),if_neg (by simpa using h3)]
theorem CB{props:Int}{l:List (Int×Int)}(h:Ab props l=0):0<=props/\props<=6/\AR (l.map Prod.fst)=0/\CC props l=0/\(AA l).length<=6:=by
 by_cases hr:props<0\/6<props
 .rw[It hr]at h;omega
 .by_cases hz:AR (l.map Prod.fst)=0
  .by_cases hf:CC props l=0
   .rw[Is hr hz hf]at h;split at h
    .omega
    .exact ⟨by omega,by omega,hz,hf,by omega⟩
   .rw[LX hr hz hf]at h;exact absurd h hf
  .rw[Ir hr hz]at h;exact absurd h hz
theorem Dq{ks:List Int}(h:AR ks=0):ks≠[]/\ks.length<=60:=by
 obtain⟨h1,h2⟩:=FW h;refine⟨?_,h1⟩;rintro rfl;simp[cnt]at h2
theorem Lg(k:Int)(w:World) :
  Calls Tryz.prog 64 #[.int .i64 k] w fun e w'=>e=.returned (.bool (Af k))/\w'=w:=by
 by_cases h:14<=k/\k<=18
 .have hk:k=14\/k=15\/k=16\/k=17\/k=18:=by omega
  clear h;rcases hk with rfl|rfl|rfl|rfl|rfl;all_goals
   go_enter Tryz.func64,Tryz.ntmps64;go_wp2;all_goals go_ret
   all_goals exact⟨rfl,rfl⟩
 .have hm:Af k=false:=by simp[Af];omega
  rw[hm];have e1:¬k=14:=by omega
  have e2:¬k=15:=by omega
  have e3:¬k=16:=by omega
  have e4:¬k=17:=by omega
  have e5:¬k=18:=by omega
  clear hm h;go_enter Tryz.func64,Tryz.ntmps64;go_wp2;all_goals go_ret
  all_goals exact⟨rfl,rfl⟩
theorem RY(k v props:Int)(w:World)(h0:0<=props)(h6:props<=6) :
  Calls Tryz.prog 63 #[.agg #[.int .i64 k,.int .i64 v],.int .i64 props] w fun e w'=>e=.returned (.int .i64 (Az props (k,v)))/\Below w.heap.size w w':=by
 by_cases hk:k<8
 .have hx:Az props (k,v)=13:=by simp[Az,hk]
  rw[hx];clear hx;go_enter Tryz.func63,Tryz.ntmps63;go_wp2;all_goals go_ret
  all_goals exact⟨rfl,(Below.refl _ _).alloc (Nat.le_refl _) _⟩
 .by_cases h2:k=13
  .subst h2;by_cases hv:0<=v/\v<=props-1
   .have hx:Az props (13,v)=0:=by simp[Az];omega
    rw[hx];obtain⟨ha,hb⟩:=hv;clear hx;go_enter Tryz.func63,Tryz.ntmps63;go_wp2;all_goals go_ret
    all_goals exact⟨rfl,(Below.refl _ _).alloc (Nat.le_refl _) _⟩
   .have hx:Az props (13,v)=2:=by simp[Az];omega
    rw[hx];have hv':v<0\/props-1<v:=by omega
    clear hx hv;rcases hv' with hv|hv;all_goals
     go_enter Tryz.func63,Tryz.ntmps63;go_wp2;all_goals go_ret
     all_goals exact⟨rfl,(Below.refl _ _).alloc (Nat.le_refl _) _⟩
  .by_cases hv:v=0
   .subst hv;have hx:Az props (k,0)=0:=by simp[Az,h2];omega
    rw[hx];clear hx;go_enter Tryz.func63,Tryz.ntmps63;go_wp2;all_goals go_ret
    all_goals exact⟨rfl,(Below.refl _ _).alloc (Nat.le_refl _) _⟩
   .have hx:Az props (k,v)=2:=by simp[Az,h2];omega
    rw[hx];have hv':v<0\/0<v:=by omega
    clear hx hv;rcases hv' with hv|hv;all_goals
     go_enter Tryz.func63,Tryz.ntmps63;go_wp2;all_goals go_ret
     all_goals exact⟨rfl,(Below.refl _ _).alloc (Nat.le_refl _) _⟩

def H7(props:Int)(v:Value)(l:List (Int×Int))(w:World)(e:Ending)(w':World):Prop:=
 Below w.heap.size w w'/\(Ab props l≠0->e=.returned (.tuple #[.agg #[.slice none 0 0,.slice none 0 0,.slice none 0 0],.int .i64 (Ab props l)]))/\
 (Ab props l=0->∃B av,w.heap.size<=B/\e=.returned (.tuple #[.agg #[v,.slice (some ⟨B,0,none⟩) l.length l.length,av],.int .i64 0])/\w'.rowIs B 3 l.length (fun q=>.int .i64 (Al (l.map Prod.fst) q))/\w'.ownsRow w.heap.size 3 1 av (AA l).length (AB (AA l)))
def Bq(w:World)(b:Nat)(x y z:Value):Prop:=w.cell? ⟨b,0,none⟩=some x/\w.cell? ⟨b,1,none⟩=some y/\w.cell? ⟨b,2,none⟩=some z/\w.frozen? ⟨b,0,none⟩=false/\w.frozen? ⟨b,1,none⟩=false/\w.frozen? ⟨b,2,none⟩=false/\b<w.heap.size
theorem Bq.below{w w':World}{B b:Nat}{x y z:Value}(h:Bq w b x y z)(hb:Below B w w')(hB:b<B):Bq w' b x y z:=
 ⟨(hb.cell (p:=⟨b,0,none⟩) hB).trans h.1,(hb.cell (p:=⟨b,1,none⟩) hB).trans h.2.1,(hb.cell (p:=⟨b,2,none⟩) hB).trans h.2.2.1,(hb.frozen (p:=⟨b,0,none⟩) hB).trans h.2.2.2.1,(hb.frozen (p:=⟨b,1,none⟩) hB).trans h.2.2.2.2.1,(hb.frozen (p:=⟨b,2,none⟩) hB).trans h.2.2.2.2.2.1,Nat.lt_of_lt_of_le h.2.2.2.2.2.2 hb.size⟩
theorem Bq.new(w:World)(x y z:Value)(t:TypeId):Bq (w.alloc (.cells #[x,y,z] t)) w.heap.size x y z:=by
 refine⟨?_,?_,?_,?_,?_,?_,?_⟩<;>simp[go_sem]
theorem Bq.read{w:World}{b:Nat}{x y z:Value}(h:Bq w b x y z)(u0 u1 u2:Value):(w.setCell ⟨b,0,none⟩ u0).cell? ⟨b,0,none⟩=some u0/\((w.setCell ⟨b,0,none⟩ u0).setCell ⟨b,1,none⟩ u1).cell? ⟨b,1,none⟩=some u1/\(((w.setCell ⟨b,0,none⟩ u0).setCell ⟨b,1,none⟩ u1).setCell ⟨b,2,none⟩ u2).cell? ⟨b,2,none⟩=some u2:=by
 obtain⟨k0,k1,k2,_⟩:=h;refine⟨World.cell?_setCell_same' _ _ _ (by rw[k0];rfl),World.cell?_setCell_same' _ _ _ ?_,World.cell?_setCell_same' _ _ _ ?_⟩
 .simp[go_sem,k1]
 .simp[go_sem,k2]
theorem Tu(ao:Option Addr)(n cap:Nat)(props:Int)(w:World)(h:props<0\/6<props) :
  Calls Tryz.prog 45 #[.slice ao n cap,.int .i64 props] w fun e w'=>e=.returned (.tuple #[.agg #[.slice none 0 0,.slice none 0 0,.slice none 0 0],.int .i64 2])/\Below w.heap.size w w':=by
 rcases h with h|h;all_goals
  go_enter Tryz.func45,Tryz.ntmps45;go_wp2_with fail
  exact bodyPost_ret (v:=.tuple #[.agg #[.slice none 0 0,.slice none 0 0,.slice none 0 0],.int .i64 2]) (by simp[results,Tryz.results45,go_sem]) rfl ⟨rfl,by exact(Below.refl _ _).alloc (Nat.le_refl _) _⟩
theorem Tq(v:Value)(ks:List Int)(props:Int)(w:World)(h0:0<=props)(h6:props<=6)(hB:0<w.heap.size)(hT:AH w)(hK:DM w v ks)(hz:AR ks≠0) :
  Calls Tryz.prog 45 #[v,.int .i64 props] w fun e w'=>e=.returned (.tuple #[.agg #[.slice none 0 0,.slice none 0 0,.slice none 0 0],.int .i64 (AR ks)])/\Below w.heap.size w w':=by
 have hA:∀o,Below w.heap.size w (w.alloc o):=fun o=>(Below.refl _ _).alloc (Nat.le_refl _) o;have hKA:∀o,DM (w.alloc o) v ks:=fun o=>hK.below (hA o);have hends:∀o,Calls Tryz.prog 62 #[v] (w.alloc o) fun e w'=>e=.returned (.tuple #[.slice none 0 0,.int .i64 (AR ks)])/\Below (w.alloc o).heap.size (w.alloc o) w':=fun o=>(GN v ks (w.alloc o) (by simp) (hT.below (hA o) hB) (hKA o)).mono fun e w' ⟨h1,h2,_⟩=>⟨h2 hz,h1⟩;generalize AR ks=x at *;obtain⟨ao,cap,rfl,_⟩:=hK;clear hT hKA
 go_enter Tryz.func45,Tryz.ntmps45;go_wp2_with (go_at_call 62;refine(hends _).mono ?_;rintro e w1 ⟨rfl,hb1⟩;have h3:=(Bq.new w (.slice none 0 0) (.slice none 0 0) (.slice none 0 0) 123).below hb1 (by simp);obtain⟨k0,k1,k2,f0,f1,f2,_⟩:=id h3)
 refine bodyPost_ret (v:=.tuple #[.agg #[.slice none 0 0,.slice none 0 0,.slice none 0 0],.int .i64 x]) ?_ rfl ⟨rfl,?_⟩
 .obtain ⟨q0,q1,q2⟩:=h3.read (.slice none 0 0) (.slice none 0 0) (.slice none 0 0);simp[results,Tryz.results45,go_sem,q0,q1,q2]
 .have hbw:=(hA _).trans (hb1.mono (hA _).size);exact((hbw.setCell (Nat.le_refl _) _).setCell (Nat.le_refl _) _).setCell (Nat.le_refl _) _
theorem Bq.set2{w:World}{b:Nat}{x y z:Value}(h:Bq w b x y z)(u:Value):Bq (w.setCell ⟨b,2,none⟩ u) b x y u:=by
 obtain⟨k0,k1,k2,f0,f1,f2,hl⟩:=h;refine⟨?_,?_,World.cell?_setCell_same' _ _ _ (by rw[k2];rfl),?_,?_,?_,by simpa using hl⟩
 .simp[go_sem,k0]
 .simp[go_sem,k1]
 .rw[World.frozen?_setCell];exact f0
 .rw[World.frozen?_setCell];exact f1
 .rw[World.frozen?_setCell];exact f2
theorem G0{w:World}{base:Nat}{e:TypeId}{s n:Nat}{v:Value}{xs:List Value}(h:w.ownsRow base e s v n xs){p:Addr}(hp:p.block<base)(u:Value):(w.setCell p u).ownsRow base e s v n xs:=by
 obtain⟨h1,h2⟩:=h;refine⟨h1,?_⟩;rcases h2 with h2|⟨g,cap,cur,hv,hg,hh,r⟩
 .exact .inl h2
 .exact .inr ⟨g,cap,cur,hv,hg,(Below.heap_setCell w p u g (by omega)).trans hh,r⟩
theorem S9{w:World}{base:Nat}{e:TypeId}{s n:Nat}{v:Value}{xs:List Value}(h:w.ownsRow base e s v n xs):∀z,v.ownBlock=some z->base<=z:=by
 intro z hz;rcases h.2 with⟨rfl,_⟩|⟨g,cap,cur,rfl,hb,_⟩
 .simp[Value.ownBlock]at hz
 .simp[Value.ownBlock]at hz;omega
theorem TD{w:World}{base:Nat}{e:TypeId}{s k:Nat}{v:Value}{xs:List Value}(h:w.ownsRow base e s v (k+1) xs):∃g cap,v=.slice (some ⟨g,0,none⟩) (k+1) cap:=by
 rcases h.2 with⟨_,h0⟩|⟨g,cap,_,rfl,_⟩
 .omega
 .exact ⟨g,cap,rfl⟩
def Eh(l:List (Int×Int))(w1:World)(v ev:Value)(k:Nat)(wr:World):Prop:=Below w1.heap.size w1 wr/\∃av,Bq wr w1.heap.size v ev av/\wr.ownsRow (w1.heap.size+1) 3 1 av (AN l k).length (AB (AN l k))
theorem Eh.later{l:List (Int×Int)}{w1:World}{v ev:Value}{k:Nat}{wr w':World}(h:Eh l w1 v ev k wr)(hb:Below wr.heap.size wr w'):Eh l w1 v ev k w':=by
 obtain⟨h1,av,h3,ho⟩:=h;exact⟨h1.trans (hb.mono h1.size),av,h3.below hb h3.2.2.2.2.2.2,Aq ho hb (Nat.le_refl _)⟩
theorem Tt(b off cap:Nat)(l:List (Int×Int))(props:Int)(w:World)(h0:0<=props)(h6:props<=6)(hB:0<w.heap.size)(hT:AH w)(hbl:b<w.heap.size)(hat:BO w b off l)(hcap:l.length<=cap)(hz:AR (l.map Prod.fst)=0) :
  Calls Tryz.prog 45 #[.slice (some ⟨b,off,none⟩) l.length cap,.int .i64 props] w (H7 props (.slice (some ⟨b,off,none⟩) l.length cap) l w):=by
 obtain⟨hne,h60⟩:=Dq hz;rw[List.length_map]at h60;have hr:¬(props<0\/6<props):=by omega
 have hA:∀o,Below w.heap.size w (w.alloc o):=fun o=>(Below.refl _ _).alloc (Nat.le_refl _) o;have hK:DM w (.slice (some ⟨b,off,none⟩) l.length cap) (l.map Prod.fst):=(show OpsV w _ l from⟨_,cap,rfl,⟨hcap,fun h=>by simp at h⟩,fun _=>⟨b,off,rfl,hbl,hat⟩⟩).kinds;have hends:∀o,Calls Tryz.prog 62 #[.slice (some ⟨b,off,none⟩) l.length cap] (w.alloc o) fun e w'=>Below (w.alloc o).heap.size (w.alloc o) w'/\∃B,(w.alloc o).heap.size<=B/\e=.returned (.tuple #[.slice (some ⟨B,0,none⟩) l.length l.length,.int .i64 0])/\w'.rowIs B 3 l.length (fun q=>.int .i64 (Al (l.map Prod.fst) q)):=fun o=>
  (GN _ _ (w.alloc o) (by simp) (hT.below (hA o) hB) (hK.below (hA o))).mono fun e w' ⟨h1,_,h3⟩=>⟨h1,by have:=h3 hz;rwa[List.length_map]at this⟩
 have HO:Hid (∀i,i<l.length->(∀j,j<i->Az props (l.getD j (0,0))=0)->Az props (l.getD i (0,0))≠0->Ab props l=Az props (l.getD i (0,0))):=fun i hi hj hne=>by
  have hx:=Rc hi hj hne;rw[LX hr hz (by rw[hx];exact hne),hx]
 have HE:Hid ((∀j,j<l.length->Az props (l.getD j (0,0))=0)->Ab props l=if 6<(AN l l.length).length then 1 else 0):=fun hj=>Is hr hz (Lf hj);have HA:Hid (BO w b off l):=hat;have HLd:Hid (AA l=AN l l.length):=rfl;unfold H7;obtain⟨n,hn⟩:∃n,n=l.length:=⟨_,rfl⟩;have HN:Hid (n=l.length):=hn;rw[<-hn]at h60 HO HE hends HLd hcap⊢;obtain⟨i0,hi,hz0,hz1,hz2⟩:=info_parts Ba;clear hat hne hz hr hn hK hT;go_enter Tryz.func45,Tryz.ntmps45;go_wp2_with (go_at_call 62;refine(hends _).mono ?_;rintro e w1 ⟨hb1,B,hBl,rfl,hrow⟩;have h3:=(Bq.new w (.slice none 0 0) (.slice none 0 0) (.slice none 0 0) 123).below hb1 (by simp))
 have hbw1:=(hA _).trans (hb1.mono (hA _).size);have hs1:w.heap.size<w1.heap.size:=h3.2.2.2.2.2.2;have HS0:Hid (Eh l w1 (.slice (some ⟨b,off,none⟩) n cap) (.slice (some ⟨B,0,none⟩) n n) 0 (w1.alloc (.cells #[.slice (some ⟨b,off,none⟩) n cap,.slice (some ⟨B,0,none⟩) n n,.slice none 0 0] 123))):=⟨(Below.refl _ _).alloc (Nat.le_refl _) _,_,Bq.new _ _ _ _ _,World.ownsRow_nil _ _ _ _⟩;have HRow:Hid (w1.rowIs B 3 n (fun q=>.int .i64 (Al (l.map Prod.fst) q))):=hrow;have HT3:Hid (Bq w1 w.heap.size (.slice none 0 0) (.slice none 0 0) (.slice none 0 0)):=h3;have hBw:w.heap.size<B:=by have:=hBl;simp at this;omega
 clear hends hb1 hrow h3 hBl;go_loopw [33] (fun i wr=>∃k:Nat,k<=n/\i=.int .i64 k/\Hid (Eh l w1 (.slice (some ⟨b,off,none⟩) n cap) (.slice (some ⟨B,0,none⟩) n n) k wr)/\Hid (∀j,j<k->Az props (l.getD j (0,0))=0)) (fun i _=>n-(intOf i).toNat)
 case atStart=>exact⟨0,Nat.zero_le _,rfl,HS0.out,fun j hj=>by omega⟩
 case round=>
  obtain⟨k,hk,rfl,HSt,HJ⟩:=hrel;obtain⟨hbel,av,h3r,hown⟩:=HSt.out;have hbw:=hbw1.trans (hbel.mono hbw1.size);have hlen:=N8 l k;have hsr:=hbel.size;obtain⟨aao,aac,rfl⟩:=A2 hown;by_cases hlt:k<n
  .obtain ⟨c0,c1⟩:=(HA.out.below hbw hbl) k (by rw[<-HN.out];exact hlt);have HOi:=(show Hid _ from HO.out k hlt HJ.out);have HJ2:Hid (Az props (l.getD k (0,0))=0->∀j,j<k+1->Az props (l.getD j (0,0))=0):=fun h j hj=>by
    by_cases hji:j<k
    .exact HJ.out j hji
    .obtain rfl:j=k:=by omega
     exact h
   have HY:Hid (Af (l.getD k (0,0)).1=true->AN l (k+1)=AN l k++[(k:Int)]):=GE;have HNo:Hid (Af (l.getD k (0,0)).1=false->AN l (k+1)=AN l k):=KN;generalize l.getD k (0,0)=xy at c0 c1 HOi HJ2 HY HNo;obtain⟨x,y⟩:=xy;simp only at c0 c1 HY HNo;have hco:=fun w=>RY x y props w h0 h6;have hlk:=fun w=>Lg x w;have hAr:∀o,Below wr.heap.size wr (wr.alloc o):=fun o=>(Below.refl _ _).alloc (Nat.le_refl _) o;have HW2:Hid (∀w2,Below (wr.alloc (.cells #[.int .i64 x,.int .i64 y] 91)).heap.size (wr.alloc (.cells #[.int .i64 x,.int .i64 y] 91)) w2->w2.cell? ⟨wr.heap.size,0,none⟩=some (.int .i64 x)/\Eh l w1 (.slice (some ⟨b,off,none⟩) n cap) (.slice (some ⟨B,0,none⟩) n n) k w2/\Bq w2 w.heap.size (.slice none 0 0) (.slice none 0 0) (.slice none 0 0)/\Bq w2 w1.heap.size (.slice (some ⟨b,off,none⟩) n cap) (.slice (some ⟨B,0,none⟩) n n) (.slice aao (AN l k).length aac)/\w2.ownsRow (w1.heap.size+1) 3 1 (.slice aao (AN l k).length aac) (AN l k).length (AB (AN l k))):=fun w2 hb2=>by
    have hb12:Below wr.heap.size wr w2:=(hAr _).trans (hb2.mono (hAr _).size);refine⟨(hb2.cell (p:=⟨wr.heap.size,0,none⟩) (by simp)).trans (by simp[go_sem]),HSt.out.later hb12,(HT3.out.below hbel hs1).below hb12 (by omega),h3r.below hb12 h3r.2.2.2.2.2.2,Aq hown hb12 (Nat.le_refl _)⟩
   obtain⟨L,hL⟩:∃L,L=(AN l k).length:=⟨_,rfl⟩;have HL:Hid (L=(AN l k).length):=hL;rw[<-hL]at hlen HW2;clear hL HO HE HA hown h3r HSt HS0 HRow;by_cases hze:Az props (x,y)=0
   .have HJ3:=(show Hid _ from HJ2.out hze);rw[hze]at hco;clear hze HOi HJ2 HJ;cases hb:Af x with
    |true=>
     have HAh:=(show Hid _ from HY.out hb);rw[hb]at hlk;have h63:L+1<=maxLen:=by unfold maxLen;omega
     have hkb:(L+1)*8<=140737488355328:=by omega
     clear HY HNo hb;go_wp2_with (first|(go_at_call 63;refine(hco _).mono ?_;rintro e w2 ⟨rfl,hb2⟩;obtain⟨c2,hst2,h3z,h3w,ho2⟩:=HW2.out w2 hb2;obtain⟨k0,k1,k2,f0,f1,f2,hl2⟩:=id h3w;have hown2:=fun o=>ho2.alloc o;have hbase:∀o,w1.heap.size+1<=(w2.alloc o).heap.size:=(fun o=>by simp;omega);have kA2:∀o,(w2.alloc o).cell? ⟨w1.heap.size,2,none⟩=some (.slice aao L aac):=(fun o=>(((Below.refl _ _).alloc (Nat.le_refl _) o).cell (p:=⟨w1.heap.size,2,none⟩) hl2).trans k2))|(go_at_call 64;refine(hlk _).mono ?_;rintro e w3 ⟨rfl,rfl⟩)|(at_builtin;refine wpList_append_own _ rfl (.tmp 49) (.tmp 51) 39 rfl (w1.heap.size+1) 3 i0 (.int .i64 0) 1 8 Tryz.underlying39 hi hz0 hz1 hz2 rfl (by decide) _ _ _ rfl (hown2 _) ⟨_,0,none⟩ 1 1 _ rfl rfl (cell_one_new _ _ _) (by intro u hu;simp at hu;subst hu;rfl) h63 hkb (hbase _) ?_;intro v5 w5 hown5 hgrow5 _;obtain⟨g5,cp5,rfl⟩:=TD hown5;have hb25:Below (w1.heap.size+1) _ w5:=((Below.refl _ _).alloc (by omega) _).grown hgrow5 (hbase _) (S9 ho2);have h35:=h3w.below hb25 (Nat.lt_succ_self _);obtain⟨k50,k51,k52,f50,f51,f52,hl5⟩:=id h35))
     have hb15:Below w1.heap.size w1 w5:=hst2.1.trans (hb25.mono (Nat.le_succ _));refine⟨⟨k+1,hlt,by first|rfl|simp,⟨hb15.setCell (Nat.le_refl _) _,_,h35.set2 _,?_⟩,HJ3.out⟩,by simp[intOf];omega⟩;rw[HAh.out,List.length_append,<-HL.out];rw[show AB (AN l k++[(k:Int)])=AB (AN l k)++[.int .i64 (k:Int)] by simp[AB]];exact G0 hown5 (Nat.lt_succ_self _) _
    |false=>
     have HAh:=(show Hid _ from HNo.out hb);rw[hb]at hlk;clear HY HNo hb;go_wp2_with (first|(go_at_call 63;refine(hco _).mono ?_;rintro e w2 ⟨rfl,hb2⟩;obtain⟨c2,hst2,h3z,h3w,ho2⟩:=HW2.out w2 hb2)|(go_at_call 64;refine(hlk _).mono ?_;rintro e w3 ⟨rfl,rfl⟩))
     obtain⟨q1,av',q2,q3⟩:=hst2;exact⟨⟨k+1,hlt,by first|rfl|simp,⟨q1,av',q2,by rw[HAh.out];exact q3⟩,HJ3.out⟩,by simp[intOf];omega⟩
   .have HX:Hid (Ab props l=Az props (x,y)):=HOi.out hze;generalize Az props (x,y)=err at hco hze HX;clear HOi HJ2 HY HNo hlk;go_wp2_with (go_at_call 63;refine(hco _).mono ?_;rintro e w2 ⟨rfl,hb2⟩;obtain⟨c2,hst2,h3z,h3w,ho2⟩:=HW2.out w2 hb2;obtain⟨k0,k1,k2,f0,f1,f2,hl2⟩:=id h3z)
    refine bodyPost_ret (v:=.tuple #[.agg #[.slice none 0 0,.slice none 0 0,.slice none 0 0],.int .i64 err]) ?_ rfl ⟨?_,fun _=>by rw[HX.out],fun h=>absurd h (by rw[HX.out];exact hze)⟩
    .obtain ⟨q0,q1,q2⟩:=h3z.read (.slice none 0 0) (.slice none 0 0) (.slice none 0 0);simp[results,Tryz.results45,go_sem,q0,q1,q2]
    .have hbw2:=hbw1.trans (hst2.1.mono hbw1.size);exact((hbw2.setCell (Nat.le_refl _) _).setCell (Nat.le_refl _) _).setCell (Nat.le_refl _) _
  .have hkn:k=n:=by omega
   subst hkn;have HX:=(show Hid _ from HE.out HJ.out);have h3z:=HT3.out.below hbel hs1;have HRo:Hid (wr.rowIs B 3 k (fun q=>.int .i64 (Al (l.map Prod.fst) q))):=B3 HRow.out hbel;have HOw:Hid (wr.ownsRow (w1.heap.size+1) 3 1 (.slice aao (AN l k).length aac) (AN l k).length (AB (AN l k))):=hown;obtain⟨L,hL⟩:∃L,L=(AN l k).length:=⟨_,rfl⟩;have HL:Hid (L=(AN l k).length):=hL;rw[<-hL]at hlen HX HOw h3r;obtain⟨k0,k1,k2,f0,f1,f2,hl2⟩:=id h3r;obtain⟨z0,z1,z2,y0,y1,y2,zl2⟩:=id h3z;clear hL HO HE HA hown HSt HS0 HRow HJ;by_cases h6L:6<L
   .have HX2:Hid (Ab props l=1):=by show _=_;rw[HX.out,if_pos h6L]
    go_wp2_with fail
    refine bodyPost_ret (v:=.tuple #[.agg #[.slice none 0 0,.slice none 0 0,.slice none 0 0],.int .i64 1]) ?_ rfl ⟨?_,fun _=>by rw[HX2.out],fun h=>absurd h (by rw[HX2.out];decide)⟩
    .obtain ⟨q0,q1,q2⟩:=h3z.read (.slice none 0 0) (.slice none 0 0) (.slice none 0 0);simp[results,Tryz.results45,go_sem,q0,q1,q2]
    .exact ((hbw.setCell (Nat.le_refl _) _).setCell (Nat.le_refl _) _).setCell (Nat.le_refl _) _
   .have HX2:Hid (Ab props l=0):=by show _=_;rw[HX.out,if_neg h6L]
    go_wp2_with fail
    refine bodyPost_ret (v:=.tuple #[.agg #[.slice (some ⟨b,off,none⟩) k cap,.slice (some ⟨B,0,none⟩) k k,.slice aao L aac],.int .i64 0]) ?_ rfl ⟨?_,fun h=>absurd HX2.out h,fun _=>⟨B,.slice aao L aac,Nat.le_of_lt hBw,rfl,?_,?_⟩⟩
    .obtain ⟨q0,q1,q2⟩:=h3z.read (.slice (some ⟨b,off,none⟩) k cap) (.slice (some ⟨B,0,none⟩) k k) (.slice aao L aac);simp[results,Tryz.results45,go_sem,q0,q1,q2]
    .exact ((hbw.setCell (Nat.le_refl _) _).setCell (Nat.le_refl _) _).setCell (Nat.le_refl _) _
    .have hne:∀q,B≠(⟨w.heap.size,q,none⟩:Addr).block:=fun q=>by simp;omega
     exact HRo.out.of_block ((Below.heap_setCell _ _ _ B (hne 2)).trans ((Below.heap_setCell _ _ _ B (hne 1)).trans (Below.heap_setCell _ _ _ B (hne 0))))
    .rw[HLd.out,<-HL.out];exact A1 (G0 (G0 (G0 HOw.out (by simp;omega) _) (by simp;omega) _) (by simp;omega) _) (by omega)
theorem Iw(v:Value)(l:List (Int×Int))(props:Int)(w:World)(hB:0<w.heap.size)(hT:AH w)(hV:OpsV w v l) :
  Calls Tryz.prog 45 #[v,.int .i64 props] w (H7 props v l w):=by
 by_cases hr:props<0\/6<props
 .obtain ⟨ao,cap,rfl,_⟩:=hV;exact(Tu ao _ cap props w hr).mono fun e w' ⟨h1,h2⟩=>⟨h2,fun _=>by rw[It hr];exact h1,fun h=>absurd h (by rw[It hr];decide)⟩
 .by_cases hz:AR (l.map Prod.fst)=0
  .obtain ⟨hne,_⟩:=Dq hz;obtain⟨ao,cap,rfl,h0,h⟩:=hV;obtain⟨b,off,rfl,hbl,hat⟩:=h (by rintro rfl;exact hne rfl);exact Tt b off cap l props w (by omega) (by omega) hB hT hbl hat h0.1 hz
  .exact (Tq v _ props w (by omega) (by omega) hB hT hV.kinds hz).mono fun e w' ⟨h1,h2⟩=>⟨h2,fun _=>by rw[Ir hr hz];exact h1,fun h=>absurd h (by rw[Ir hr hz];exact hz)⟩
theorem RZ(v:Value)(l:List (Int×Int))(props:Int)(w:World)(hB:0<w.heap.size)(hT:AH w)(hV:OpsV w v l) :
  Calls Tryz.prog 44 #[v,.int .i64 props] w fun e w'=>e=.returned (.int .i64 (Ab props l))/\Below w.heap.size w w':=by
 have hrd:Calls Tryz.prog 45 #[v,.int .i64 props] w fun e w'=>Below w.heap.size w w'/\∃ao an ac bo bn bc co cn cc,e=.returned (.tuple #[.agg #[.slice ao an ac,.slice bo bn bc,.slice co cn cc],.int .i64 (Ab props l)]):=by
  refine(Iw v l props w hB hT hV).mono fun e w' ⟨h1,h2,h3⟩=>⟨h1,?_⟩;by_cases hz:Ab props l=0
  .obtain ⟨B,av,_,he,_,ho⟩:=h3 hz;obtain⟨aa,ac,rfl⟩:=A2 ho;obtain⟨ao,cap,rfl,_⟩:=hV;exact⟨_,_,_,_,_,_,_,_,_,by rw[hz];exact he⟩
  .exact ⟨_,_,_,_,_,_,_,_,_,h2 hz⟩
 obtain⟨ao,cap,rfl,_⟩:=hV;generalize Ab props l=x at *;clear hT
 go_enter Tryz.func44,Tryz.ntmps44;go_wp2_with (go_at_call 45;refine hrd.mono ?_;rintro e w1 ⟨hb1,ao,an,ac,bo,bn,bc,co,cn,cc,rfl⟩)
 go_ret;exact⟨rfl,by first|exact hb1|exact hb1.alloc hb1.size _⟩
noncomputable def Ad(m:Mo)(ps:List (List (Int×Int)))(l:List (Int×Int)):Int:=if CL m ps≠0 then CL m ps else Ab ps.length l
structure TaskV(w:World)(va vr pv fv:Value)(m:Mo)(ps:List (List (Int×Int)))(l:List (Int×Int)):Prop where
 mo:Aw w va vr m
 ps:TermsV w pv ps
 fo:OpsV w fv l
theorem TaskV.below{w w':World}{va vr pv fv:Value}{m:Mo}{ps:List (List (Int×Int))}{l:List (Int×Int)}(h:TaskV w va vr pv fv m ps l)(hb:Below w.heap.size w w'):TaskV w' va vr pv fv m ps l:=⟨h.mo.below hb,h.ps.below hb,h.fo.below hb⟩
theorem MK(va vr pv fv:Value)(m:Mo)(ps:List (List (Int×Int)))(l:List (Int×Int))(w:World)(hB:0<w.heap.size)(hT:AH w)(hV:TaskV w va vr pv fv m ps l) :
  Calls Tryz.prog 27 #[.agg #[va,vr,pv,fv]] w fun e w'=>e=.returned (.int .i64 (Ad m ps l))/\Below w.heap.size w w':=by
 have hA:∀o,Below w.heap.size w (w.alloc o):=fun o=>(Below.refl _ _).alloc (Nat.le_refl _) o;have HP:Hid (∀w1,Below w.heap.size w w1->Calls Tryz.prog 43 #[.agg #[va,vr],pv] w1 fun e w'=>e=.returned (.int .i64 (CL m ps))/\Below w1.heap.size w1 w'):=fun w1 h=>Lw va vr pv m ps w1 (Nat.lt_of_lt_of_le hB h.size) (hT.below h hB) (hV.mo.below h) (hV.ps.below h);have HL:Hid (∀w1,Below w.heap.size w w1->Calls Tryz.prog 44 #[fv,.int .i64 (ps.length:Int)] w1 fun e w'=>e=.returned (.int .i64 (Ab ps.length l))/\Below w1.heap.size w1 w'):=fun w1 h=>RZ fv l ps.length w1 (Nat.lt_of_lt_of_le hB h.size) (hT.below h hB) (hV.fo.below h);unfold Ad;obtain⟨ao,ac,rfl⟩:=hV.mo.1.shape;obtain⟨ro,rc,rfl⟩:=hV.mo.2.shape;obtain⟨po,pc,rfl⟩:=hV.ps.shape;obtain⟨fo,fc,rfl,_⟩:=id hV.fo;generalize CL m ps=x at *;generalize Ab ps.length l=y at *;generalize m.vars.length=vn at *;generalize m.rules.length=rn at *;generalize ps.length=pn at *;generalize l.length=fn at *;clear hV hT
 have hp:=HP.out _ (hA (.cells #[.slice ao vn ac,.slice ro rn rc,.slice po pn pc,.slice fo fn fc] 35));have HB:Hid (∀w1,Below (w.heap.size+1) (w.alloc (.cells #[.slice ao vn ac,.slice ro rn rc,.slice po pn pc,.slice fo fn fc] 35)) w1->w1.cell? ⟨w.heap.size,2,none⟩=some (.slice po pn pc)/\w1.cell? ⟨w.heap.size,3,none⟩=some (.slice fo fn fc)):=fun w1 h=>⟨(h.cell (p:=⟨w.heap.size,2,none⟩) (Nat.lt_succ_self _)).trans (by simp[go_sem]),(h.cell (p:=⟨w.heap.size,3,none⟩) (Nat.lt_succ_self _)).trans (by simp[go_sem])⟩;by_cases hx:x=0
 .subst hx;rw[if_neg (by simp)];go_enter Tryz.func27,Tryz.ntmps27;go_wp2_with (first|(go_at_call 43;refine hp.mono ?_;rintro e w1 ⟨rfl,hb1⟩;have hbw:=(hA _).trans (hb1.mono (hA _).size);have hq:=HB.out w1 (by simpa using hb1);have k0:=hq.1;have k1:=hq.2;have hl:=HL.out w1 hbw)|(go_at_call 44;refine hl.mono ?_;rintro e w2 ⟨rfl,hb2⟩))
  go_ret;exact⟨rfl,hbw.trans (hb2.mono hbw.size)⟩
 .rw[if_pos hx];go_enter Tryz.func27,Tryz.ntmps27;go_wp2_with (go_at_call 43;refine hp.mono ?_;rintro e w1 ⟨rfl,hb1⟩;have hbw:=(hA _).trans (hb1.mono (hA _).size))
  go_ret;exact⟨rfl,hbw⟩
theorem RM(v:Value)(l:List (Int×Int))(props:Int)(w:World)(hB:0<w.heap.size)(hT:AH w)(hV:OpsV w v l)(hc:Ab props l=0) :
  Calls Tryz.prog 28 #[v,.int .i64 props] w fun e w'=>∃ao ac,e=.returned (.tuple #[.slice ao (AA l).length ac,.int .i64 0])/\Below w.heap.size w w'/\Hid (w'.ownsRow w.heap.size 3 1 (.slice ao (AA l).length ac) (AA l).length (AB (AA l))):=by
 have hrd:Calls Tryz.prog 45 #[v,.int .i64 props] w fun e w'=>Below w.heap.size w w'/\∃ao an ac bo bn bc co cc,e=.returned (.tuple #[.agg #[.slice ao an ac,.slice bo bn bc,.slice co (AA l).length cc],.int .i64 0])/\Hid (w'.ownsRow w.heap.size 3 1 (.slice co (AA l).length cc) (AA l).length (AB (AA l))):=by
  refine(Iw v l props w hB hT hV).mono fun e w' ⟨h1,h2,h3⟩=>⟨h1,?_⟩;obtain⟨B,av,_,he,_,ho⟩:=h3 hc;obtain⟨aa,ac,rfl⟩:=A2 ho;obtain⟨ao,cap,rfl,_⟩:=hV;exact⟨_,_,_,_,_,_,_,_,he,ho⟩
 obtain⟨ao,cap,rfl,_⟩:=hV;generalize(AA l).length=an at *;clear hT hc
 go_enter Tryz.func28,Tryz.ntmps28;go_wp2_with (go_at_call 45;refine hrd.mono ?_;rintro e w1 ⟨hb1,ao,bn,ac,bo,bm,bc,co,cc,rfl,HI⟩)
 go_ret2;exact⟨_,_,rfl,by first|exact hb1|exact hb1.alloc hb1.size _,by first|exact HI.out|exact HI.out.alloc _⟩
theorem BX{m:Mo}{ps:List (List (Int×Int))}{l:List (Int×Int)}(h:Ad m ps l=0):CL m ps=0/\Ab ps.length l=0:=by
 unfold Ad at h;split at h
 .rename_i h1;exact absurd h h1
 .rename_i h1;exact⟨by simpa using h1,h⟩
structure SurvAt(w:World)(B:Nat)(va vr pv fv av:Value)(bs bl:Nat):Prop where
 lt:B<w.heap.size
 c0:w.cell? ⟨B,0,none⟩=some va
 c1:w.cell? ⟨B,1,none⟩=some vr
 c2:w.cell? ⟨B,2,none⟩=some pv
 c3:w.cell? ⟨B,3,none⟩=some fv
 c4:w.cell? ⟨B,4,none⟩=some av
 c5:w.cell? ⟨B,5,none⟩=some (.map (some bs))
 c6:w.cell? ⟨B,6,none⟩=some (.map (some bl))
theorem SurvAt.later{w w':World}{B:Nat}{va vr pv fv av:Value}{bs bl:Nat}(h:SurvAt w B va vr pv fv av bs bl)(hb:Below w.heap.size w w'):SurvAt w' B va vr pv fv av bs bl:=
 ⟨Nat.lt_of_lt_of_le h.lt hb.size,(hb.cell (p:=⟨B,0,none⟩) h.lt).trans h.c0,(hb.cell (p:=⟨B,1,none⟩) h.lt).trans h.c1,(hb.cell (p:=⟨B,2,none⟩) h.lt).trans h.c2,(hb.cell (p:=⟨B,3,none⟩) h.lt).trans h.c3,(hb.cell (p:=⟨B,4,none⟩) h.lt).trans h.c4,(hb.cell (p:=⟨B,5,none⟩) h.lt).trans h.c5,(hb.cell (p:=⟨B,6,none⟩) h.lt).trans h.c6⟩
theorem SurvAt.new(w:World)(va vr pv fv av:Value)(t:TypeId):SurvAt (((w.alloc (.map #[] 0)).alloc (.map #[] 0)).alloc (.cells #[va,vr,pv,fv,av,.map (some w.heap.size),.map (some (w.heap.size+1))] t)) (w.heap.size+2) va vr pv fv av w.heap.size (w.heap.size+1):=by
 have e:w.heap.size+2=((w.alloc (.map #[] 0)).alloc (.map #[] 0)).heap.size:=by simp
 rw[e];refine⟨by simp,?_,?_,?_,?_,?_,?_,?_⟩<;>simp[go_sem]
theorem Rr(w:World)(o:Obj):(((w.alloc (.map #[] 0)).alloc (.map #[] 0)).alloc o).heap[w.heap.size]? = some (.map #[] 0)/\(((w.alloc (.map #[] 0)).alloc (.map #[] 0)).alloc o).heap[w.heap.size+1]? = some (.map #[] 0):=by
 have h1:=(MapKept.heap_alloc w (.map #[] 0)).1;have h2:=(MapKept.heap_alloc (w.alloc (.map #[] 0)) (.map #[] 0)).1;have b1:Below (w.alloc (.map #[] 0)).heap.size (w.alloc (.map #[] 0)) (((w.alloc (.map #[] 0)).alloc (.map #[] 0)).alloc o):=((Below.refl _ _).alloc (Nat.le_refl _) _).alloc (by simp) _;have b2:Below ((w.alloc (.map #[] 0)).alloc (.map #[] 0)).heap.size ((w.alloc (.map #[] 0)).alloc (.map #[] 0)) (((w.alloc (.map #[] 0)).alloc (.map #[] 0)).alloc o):=(Below.refl _ _).alloc (Nat.le_refl _) _;refine⟨(b1.block _ (by simp)).trans h1,?_⟩;rw[World.size_alloc]at h2;exact(b2.block _ (by simp)).trans h2
def IB(w:World)(va vr pv fv:Value)(l:List (Int×Int))(e:Ending)(w':World):Prop:=
 ∃n ao ac,e=.returned (.tuple #[.pointer (some ⟨n+2,0,none⟩),.int .i64 0])/\Below w.heap.size w w'/\w.heap.size<=n/\w'.heap.size=n+3/\Hid (SurvAt w' (n+2) va vr pv fv (.slice ao (AA l).length ac) n (n+1))/\Hid (w'.ownsRow w.heap.size 3 1 (.slice ao (AA l).length ac) (AA l).length (AB (AA l)))/\Hid (w'.heap[n]? = some (.map #[] 0)/\w'.heap[n+1]? = some (.map #[] 0))
theorem U8(va vr pv fv:Value)(m:Mo)(ps:List (List (Int×Int)))(l:List (Int×Int))(w:World)(hB:0<w.heap.size)(hT:AH w)(hV:TaskV w va vr pv fv m ps l)(hc:Ad m ps l=0) :
  Calls Tryz.prog 17 #[.agg #[va,vr,pv,fv]] w (IB w va vr pv fv l):=by
 have hA:∀o,Below w.heap.size w (w.alloc o):=fun o=>(Below.refl _ _).alloc (Nat.le_refl _) o;obtain⟨_,hl0⟩:=BX hc;obtain⟨ao,ac,rfl⟩:=hV.mo.1.shape;obtain⟨ro,rc,rfl⟩:=hV.mo.2.shape;obtain⟨po,pc,rfl⟩:=hV.ps.shape;obtain⟨fo,fc,rfl,_⟩:=id hV.fo;have HC:Hid (∀w1,Below w.heap.size w w1->Calls Tryz.prog 27 #[.agg #[.slice ao m.vars.length ac,.slice ro m.rules.length rc,.slice po ps.length pc,.slice fo l.length fc]] w1 fun e w'=>e=.returned (.int .i64 0)/\Below w1.heap.size w1 w'):=fun w1 h=>by
  have:=MK _ _ _ _ m ps l w1 (Nat.lt_of_lt_of_le hB h.size) (hT.below h hB) (hV.below h);rw[hc]at this;exact this
 have HL:Hid (∀w1,Below w.heap.size w w1->Calls Tryz.prog 28 #[.slice fo l.length fc,.int .i64 (ps.length:Int)] w1 fun e w'=>∃ho hc,e=.returned (.tuple #[.slice ho (AA l).length hc,.int .i64 0])/\Below w1.heap.size w1 w'/\Hid (w'.ownsRow w1.heap.size 3 1 (.slice ho (AA l).length hc) (AA l).length (AB (AA l)))):=fun w1 h=>RM _ l ps.length w1 (Nat.lt_of_lt_of_le hB h.size) (hT.below h hB) (hV.fo.below h) hl0;unfold IB;generalize AB (AA l)=av at *;generalize(AA l).length=an at *;generalize m.vars.length=vn at *;generalize m.rules.length=rn at *;generalize ps.length=pn at *;generalize l.length=fn at *;clear hV hT hc hl0;have hp:=HC.out _ (hA (.cells #[.slice ao vn ac,.slice ro rn rc,.slice po pn pc,.slice fo fn fc] 35))
 have HB:Hid (∀w1,Below (w.heap.size+1) (w.alloc (.cells #[.slice ao vn ac,.slice ro rn rc,.slice po pn pc,.slice fo fn fc] 35)) w1->w1.cell? ⟨w.heap.size,0,none⟩=some (.slice ao vn ac)/\w1.cell? ⟨w.heap.size,1,none⟩=some (.slice ro rn rc)/\w1.cell? ⟨w.heap.size,2,none⟩=some (.slice po pn pc)/\w1.cell? ⟨w.heap.size,3,none⟩=some (.slice fo fn fc)):=fun w1 h=>⟨(h.cell (p:=⟨w.heap.size,0,none⟩) (Nat.lt_succ_self _)).trans (by simp[go_sem]),(h.cell (p:=⟨w.heap.size,1,none⟩) (Nat.lt_succ_self _)).trans (by simp[go_sem]),(h.cell (p:=⟨w.heap.size,2,none⟩) (Nat.lt_succ_self _)).trans (by simp[go_sem]),(h.cell (p:=⟨w.heap.size,3,none⟩) (Nat.lt_succ_self _)).trans (by simp[go_sem])⟩;have hmm:=@run_makeMap Tryz.prog;go_enter Tryz.func17,Tryz.ntmps17;go_wp2_with (first|(go_at_call 27;refine hp.mono ?_;rintro e w1 ⟨rfl,hb1⟩;have hbw:=(hA _).trans (hb1.mono (hA _).size);have hq:=HB.out w1 (by simpa using hb1);obtain⟨k0,k1,k2,k3⟩:=hq;have hl:=HL.out w1 hbw)|(go_at_call 28;refine hl.mono ?_;rintro e w2 ⟨ho,hc,rfl,hb2,HO⟩;have hbw2:=hbw.trans (hb2.mono hbw.size);obtain⟨j0,j1,j2,j3⟩:=HB.out w2 (by have:=hb1.trans (hb2.mono hb1.size);simpa using this)))
 go_ret2;have hm1:Below w.heap.size w ((w2.alloc (.map #[] 0)).alloc (.map #[] 0)):=(hbw2.alloc hbw2.size _).alloc (by have:=hbw2.size;simp;omega) _;refine⟨w2.heap.size,ho,hc,by rfl,hm1.alloc hm1.size _,hbw2.size,by simp,SurvAt.new w2 _ _ _ _ _ _,?_,?_⟩
 .exact (((A1 HO.out hbw.size).alloc _).alloc _).alloc _
 .exact Rr w2 _
theorem U7(va vr pv fv:Value)(m:Mo)(ps:List (List (Int×Int)))(l:List (Int×Int))(w:World)(hB:0<w.heap.size)(hT:AH w)(hV:TaskV w va vr pv fv m ps l)(hc:Ad m ps l≠0) :
  Calls Tryz.prog 17 #[.agg #[va,vr,pv,fv]] w fun e w'=>e=.returned (.tuple #[.pointer none,.int .i64 (Ad m ps l)])/\Below w.heap.size w w':=by
 have hA:∀o,Below w.heap.size w (w.alloc o):=fun o=>(Below.refl _ _).alloc (Nat.le_refl _) o;obtain⟨ao,ac,rfl⟩:=hV.mo.1.shape;obtain⟨ro,rc,rfl⟩:=hV.mo.2.shape;obtain⟨po,pc,rfl⟩:=hV.ps.shape;obtain⟨fo,fc,rfl,_⟩:=id hV.fo;have hp:=MK _ _ _ _ m ps l _ (Nat.lt_of_lt_of_le hB (hA (.cells #[.slice ao m.vars.length ac,.slice ro m.rules.length rc,.slice po ps.length pc,.slice fo l.length fc] 35)).size) (hT.below (hA _) hB) (hV.below (hA _));generalize Ad m ps l=c at *;generalize m.vars.length=vn at *;generalize m.rules.length=rn at *;generalize ps.length=pn at *;generalize l.length=fn at *;clear hV hT
 go_enter Tryz.func17,Tryz.ntmps17;go_wp2_with (first|(go_at_call 27;refine hp.mono ?_;rintro e w1 ⟨rfl,hb1⟩;have hbw:=(hA _).trans (hb1.mono (hA _).size)))
 go_ret2;exact⟨rfl,hbw⟩
theorem IW(B:Nat)(va vr pv fv:Value)(ao:Option Addr)(an ac bs bl:Nat)(w:World)(h6:an<=6)(hS:SurvAt w B va vr pv fv (.slice ao an ac) bs bl) :
  Calls Tryz.prog 31 #[.pointer (some ⟨B,0,none⟩)] w fun e w'=>e=.returned (.int .i64 ((2^an:Nat):Int))/\w'=w:=by
 have c4:=hS.c4;clear hS;rcases(show an=0\/an=1\/an=2\/an=3\/an=4\/an=5\/an=6 by omega)with rfl|rfl|rfl|rfl|rfl|rfl|rfl;all_goals
  go_enter Tryz.func31,Tryz.ntmps31;go_wp2;go_ret;exact⟨rfl,rfl⟩
open Go.ChangeShapes Go.WideShapes Go.ChangeAt Go.RowKit Go.Deep Go.Maps
def ET:Value->Option (DataW Value×List MemPlace):=fun v=>some (.held v,[])
def MapIs(w:World)(kt:TypeId)(b n:Nat)(f:Lit->Option Value):Prop:=
 ∃D:DataW Value,w.ownsMap Tryz.prog kt ET b n D/\∀x,Maps.has D x=(f x).isSome/\∀v,f x=some v->∀z,D.atKey x z=.held v
theorem MapIs.lt{w:World}{kt:TypeId}{b n:Nat}{f:Lit->Option Value}(h:MapIs w kt b n f):b<w.heap.size:=by
 obtain⟨D,h1,_⟩:=h;exact h1.lt
theorem MapIs.isMap{w:World}{kt:TypeId}{b n:Nat}{f:Lit->Option Value}(h:MapIs w kt b n f):∃es c,w.heap[b]? = some (.map es c):=by
 obtain⟨D,⟨es,c,h1,_⟩,_⟩:=h;exact⟨es,c,h1⟩
theorem MapIs.new{w:World}(kt:TypeId){b:Nat}(h:w.heap[b]? = some (.map #[] 0)):MapIs w kt b 0 (fun _=>none):=by
 obtain⟨es,c,h1,h2,h3,h4⟩:=World.ownsMap_made w Tryz.prog kt ET;rw[(MapKept.heap_alloc w _).1]at h1;injection h1 with h1;injection h1 with h5 h6;subst h5 h6;exact⟨.map [],⟨#[],0,h,h2,Nat.le_refl _,rfl⟩,fun x=>⟨by simp[Maps.has],fun v hv=>by simp at hv⟩⟩
theorem MapIs.kept{w w':World}{kt:TypeId}{b n:Nat}{f:Lit->Option Value}(h:MapIs w kt b n f)(e:w'.heap[b]? = w.heap[b]?):MapIs w' kt b n f:=by
 obtain⟨D,⟨es,c,h1,h2⟩,h3⟩:=h;exact⟨D,⟨es,c,e.trans h1,h2⟩,h3⟩
theorem MapIs.look{w:World}{kt:TypeId}{b n:Nat}{f:Lit->Option Value}(h:MapIs w kt b n f)(K:Keyed Tryz.prog kt){t e:TypeId}(ht:Tryz.prog.underlying t=some (.map kt e)){z:Value}(hz:(zeroValue e).run Tryz.prog w=.ok z w)
  {key:Value} {kl:Lit} (hkey:keyOf Tryz.prog kt key=some kl):(Instr.lookup t (.map (some b)) key true).run Tryz.prog w=.ok (.tuple #[(f kl).getD z,.bool (f kl).isSome]) w:=by
 obtain⟨D,h1,h2⟩:=h;obtain⟨v,ps,hrun,hR⟩:=h1.look_ok K ht hz (zd:=.held z) (zp:=[]) rfl hkey;obtain⟨hs,hv⟩:=h2 kl;simp only[ET,Option.some.injEq,Prod.mk.injEq]at hR;rw[hrun,hs];cases hf:f kl with
 |none=>
  rw[hf]at hs;have:=Maps.atKey_of_not_has (D:=D) (k:=kl) (by simpa using hs) (.held z);rw[this]at hR;have e1:=hR.1;injection e1 with e1;rw[e1];rfl
 |some u=>
  rw[hv u hf]at hR;have e1:=hR.1;injection e1 with e1;rw[e1];rfl
open Classical in
noncomputable def Da(f:Lit->Option Value)(kl:Lit)(val:Value):Lit->Option Value:=fun x=>if x=kl then some val else f x
theorem Gc(f:Lit->Option Value)(kl:Lit)(val:Value):Da f kl val kl=some val:=by unfold Da;rw[if_pos rfl]
theorem Gb{f:Lit->Option Value}{kl x:Lit}(h:x≠kl)(val:Value):Da f kl val x=f x:=by unfold Da;rw[if_neg h]
theorem MapIs.put{w:World}{kt:TypeId}{b n:Nat}{f:Lit->Option Value}(h:MapIs w kt b n f)(K:Keyed Tryz.prog kt){t e:TypeId}(ht:Tryz.prog.underlying t=some (.map kt e))(hn:n<maxLen)
  {key val:Value} {kl:Lit} (hkey:keyOf Tryz.prog kt key=some kl) (hlit:WideAt.IsKeyLit kl):∃w',(Instr.mapUpdate t (.map (some b)) key val).run Tryz.prog w=.ok () w'/\MapIs w' kt b (n+1) (Da f kl val)/\w.grownBy w' (some b):=by
 obtain⟨D,h1,h2⟩:=h;obtain⟨w',hrun,h3,h4⟩:=h1.update K ht hn hkey (val:=val) (d:=.held val) (ps:=[]) rfl;refine⟨w',hrun,⟨_,h3,fun x=>?_⟩,h4⟩;by_cases hx:x=kl
 .subst hx;rw[Gc];refine⟨by rw[Maps.has_put_same h1.isMap hlit];rfl,fun v hv z=>?_⟩;cases hv
  exact Maps.atKey_put_same h1.isMap hlit _ z
 .rw[Gb hx];refine⟨by rw[Maps.has_put_other hx];exact(h2 x).1,fun v hv z=>?_⟩;rw[Maps.atKey_put_other hx];exact(h2 x).2 v hv z
structure Sk(bs bl:Nat)(w w':World):Prop where
 os:w'.os=w.os
 tape:w'.tape=w.tape
 output:w'.output=w.output
 size:w.heap.size<=w'.heap.size
 block:∀i,i<w.heap.size->i≠bs->i≠bl->w'.heap[i]? = w.heap[i]?
theorem Sk.refl(bs bl:Nat)(w:World):Sk bs bl w w:=⟨rfl,rfl,rfl,Nat.le_refl _,fun _ _ _ _=>rfl⟩
theorem Sk.trans{bs bl:Nat}{a b c:World}(h:Sk bs bl a b)(k:Sk bs bl b c):Sk bs bl a c:=
 ⟨k.os.trans h.os,k.tape.trans h.tape,k.output.trans h.output,Nat.le_trans h.size k.size,fun i hi h1 h2=>(k.block i (Nat.lt_of_lt_of_le hi h.size) h1 h2).trans (h.block i hi h1 h2)⟩
theorem Sk.of{bs bl:Nat}{w w':World}(h:Below w.heap.size w w'):Sk bs bl w w':=⟨h.os,h.tape,h.output,h.size,fun i hi _ _=>h.block i hi⟩
theorem Sk.grown{bs bl:Nat}{w w':World}{r:Nat}(h:w.grownBy w' (some r))(hr:r=bs\/r=bl):Sk bs bl w w':=
 ⟨h.os,h.tape,h.output,h.size,fun i hi h1 h2=>h.block i hi (by intro e;injection e with e;omega)⟩
theorem Sk.below{bs bl base:Nat}{w w':World}(h:Sk bs bl w w')(h1:base<=bs)(h2:base<=bl)(h3:base<=w.heap.size):Below base w w':=
 ⟨h.os,h.tape,h.output,h.size,fun i hi=>h.block i (by omega) (by omega) (by omega)⟩
def Cc(w:World)(bs bl:Nat):Prop:=(∃es c,w.heap[bs]? = some (.map es c))/\∃es c,w.heap[bl]? = some (.map es c)
theorem I8{w:World}{p:Addr}{v:Value}(h:w.cell? p=some v){es:Array MapEntry}{c:Nat}:w.heap[p.block]?≠some (.map es c):=by
 intro e;simp[World.cell?,e]at h
theorem Sk.cell{bs bl:Nat}{w w':World}(h:Sk bs bl w w')(hm:Cc w bs bl){p:Addr}{v:Value}(hp:w.cell? p=some v):w'.cell? p=some v:=by
 obtain⟨⟨es,c,e1⟩,⟨es',c',e2⟩⟩:=hm;have hlt:=World.block_lt_of_cell? w p hp;rw[World.cell?_of_block (h.block p.block hlt (fun e=>I8 hp (by rw[e];exact e1)) (fun e=>I8 hp (by rw[e];exact e2)))];exact hp
def sec(l:List (Int×Int))(p:Nat):Nat:=Al (l.map Prod.fst) (p+1)
def EM(claim:Int)(i:Nat):Bool:=decide (claim / 2^i % 2=1)
def mkB(o:Int×Int)(letter:List Bool)(a b:Bool):Bool:=
 if o.1=13 then letter.getD o.2.toNat false else if o.1=11 then true else if o.1=10 then !a else if o.1=8 then a&&b else if o.1=9 then a||b else false
def CP(l:List (Int×Int))(letter:List Bool)(claim:Int):Nat->Nat->Bool
 |0,_=>false
 |f+1,p=>if Af (l.getD p (0,0)).1=true then EM claim (AN l p).length else mkB (l.getD p (0,0)) letter (CP l letter claim f (p+1)) (CP l letter claim f (max (sec l p) (p+1)))
def tru(l:List (Int×Int))(letter:List Bool)(claim:Int)(p:Nat):Bool:=CP l letter claim (l.length-p) p
theorem VY(l:List (Int×Int))(letter:List Bool)(claim:Int):∀f g p,l.length<=f+p->l.length<=g+p->p<l.length->CP l letter claim f p=CP l letter claim g p:=by
 intro f;induction f with
 |zero=>intro g p h _ hp;omega
 |succ f ih=>
  intro g p h1 h2 hp;cases g with
  |zero=>omega
  |succ g=>
   simp only[CP];have aux:∀q,p<q->CP l letter claim f q=CP l letter claim g q:=by
    intro q hq;by_cases hql:q<l.length
    .exact ih g q (by omega) (by omega) hql
    .have z:∀f q,l.length<=q->CP l letter claim f q=false:=by
      intro f;induction f with
      |zero=>intro q _;rfl
      |succ f ihf=>
       intro q hq;simp only[CP];rw[show l.getD q (0,0)=(0,0) by simp[List.getD_eq_getElem?_getD,hq]];simp[Af,mkB]
     rw[z f q (by omega),z g q (by omega)]
   rw[aux (p+1) (by omega),aux (max (sec l p) (p+1)) (by omega)]
theorem VZ{l:List (Int×Int)}{letter:List Bool}{claim:Int}{p:Nat}(hp:p<l.length)(h:Af (l.getD p (0,0)).1=true):tru l letter claim p=EM claim (AN l p).length:=by
 unfold tru;obtain⟨f,hf⟩:∃f,l.length-p=f+1:=⟨l.length-p-1,by omega⟩;rw[hf];simp only[CP];rw[if_pos h]
theorem Va{l:List (Int×Int)}{letter:List Bool}{claim:Int}{p:Nat}(hp:p<l.length)(h:Af (l.getD p (0,0)).1=false)(hs:pn (l.getD p (0,0)).1=2->p+1<sec l p):tru l letter claim p=mkB (l.getD p (0,0)) letter (tru l letter claim (p+1)) (tru l letter claim (sec l p)):=by
 unfold tru;obtain⟨f,hf⟩:∃f,l.length-p=f+1:=⟨l.length-p-1,by omega⟩;rw[hf];have z:∀f q,l.length<=q->CP l letter claim f q=false:=by
  intro f;induction f with
  |zero=>intro q _;rfl
  |succ f ihf=>
   intro q hq;simp only[CP];rw[show l.getD q (0,0)=(0,0) by simp[List.getD_eq_getElem?_getD,hq]];simp[Af,mkB]
 have aux:∀q,p<q->CP l letter claim f q=CP l letter claim (l.length-q) q:=by
  intro q hq;by_cases hql:q<l.length
  .exact VY l letter claim f _ q (by omega) (by omega) hql
  .rw[z _ q (by omega),z _ q (by omega)]
 simp only[CP];rw[if_neg (by rw[h];decide),aux (p+1) (by omega)];by_cases h2:pn (l.getD p (0,0)).1=2
 .rw[show max (sec l p) (p+1)=sec l p by have:=hs h2;omega,aux (sec l p) (by have:=hs h2;omega)]
 .have hk:(l.getD p (0,0)).1≠8/\(l.getD p (0,0)).1≠9:=by
   constructor<;>intro e<;>rw[e]at h2<;>exact absurd rfl h2
  simp only[mkB,hk.1,hk.2,if_false]
theorem GD(l:List (Int×Int)):∀n i,i<(AN l n).length->∃p:Nat,(AN l n).getD i 0=p/\p<n/\Af (l.getD p (0,0)).1=true/\(AN l p).length=i:=by
 intro n;induction n with
 |zero=>intro i hi;simp[AN]at hi
 |succ n ih=>
  intro i hi;cases hb:Af (l.getD n (0,0)).1 with
  |false=>
   rw[KN hb]at hi⊢;obtain⟨p,h1,h2,h3,h4⟩:=ih i hi;exact⟨p,h1,by omega,h3,h4⟩
  |true=>
   rw[GE hb]at hi⊢;by_cases hl:i<(AN l n).length
   .obtain ⟨p,h1,h2,h3,h4⟩:=ih i hl;refine⟨p,?_,by omega,h3,h4⟩;rw[<-h1];simp[List.getD_eq_getElem?_getD,List.getElem?_append_left hl]
   .have hi':i=(AN l n).length:=by simp at hi;omega
    subst hi';exact⟨n,by simp[List.getD_eq_getElem?_getD],by omega,hb,rfl⟩
theorem N9 (l:List (Int × Int)) {p n:Nat} (h:p <= n):(AN l p).length <= (AN l n).length:=by
  induction n with
  | zero => obtain rfl : p = 0 := by omega
            exact Nat.le_refl _
  |succ n ih=>
    by_cases hp:p=n+1
    . subst hp;exact Nat.le_refl _
    . have:=ih (by omega)
      simp only[AN,List.length_append];omega
theorem EL(l:List (Int×Int)){p n:Nat}(h:p<n)(hb:Af (l.getD p (0,0)).1=true):(AN l p).length<(AN l n).length:=by
 have:=N9 l (p:=p+1) (n:=n) (by omega);rw[GE hb]at this;simp at this;omega
theorem G1{l:List (Int×Int)}(hz:AR (l.map Prod.fst)=0){p:Nat}(hp:p<l.length) :
  (1<=pn (l.getD p (0,0)).1->p+1<l.length)/\(pn (l.getD p (0,0)).1=2->p+1<sec l p/\sec l p<l.length):=by
 obtain⟨_,hc⟩:=FW hz;obtain⟨ks,hks⟩:∃ks,ks=l.map Prod.fst:=⟨_,rfl⟩;have hlen:ks.length=l.length:=by rw[hks,List.length_map]
 have hget:ks.getD p 0=(l.getD p (0,0)).1:=by rw[hks];simp[List.getD_eq_getElem?_getD,hp]
 have hsec:sec l p=Al ks (p+1):=by unfold sec;rw[<-hks]
 rw[<-hks]at hc;rw[<-hget,hsec,<-hlen];obtain⟨m,hm,hm1,hml⟩:=PE ks 1 ks.length p hc (by omega);have ha:=IX (ks:=ks) (q:=p) (by omega);rw[hm]at ha;split at ha
 .cases hr:cnt (ks.drop (p+1)) (pn (ks.getD p 0))with
  |no e=>rw[hr]at ha;simp[R.up]at ha
  |ok m2=>
   rw[hr]at ha;simp only[R.up,R.ok.injEq]at ha;have h2:=DB _ _ _ hr;rw[List.length_drop]at h2;refine⟨fun h=>by omega,fun h=>?_⟩;rw[h,show(2:Nat)=1+1 from rfl]at hr;obtain⟨a,b,hca,hcb,hab⟩:=Kj hr;have h3:=DB _ _ _ hca;have h4:=DB _ _ _ hcb;rw[Ie hca];omega
 .simp at ha
structure PartsAt(w:World)(bh bf bp bH n B pl:Nat)(h:Nat->Bool)(l:List (Int×Int)):Prop where
 holds:w.cell? ⟨bh,0,none⟩=some (.slice (some ⟨bH,0,none⟩) n n)
 row:∀j,j<n->w.cell? ⟨bH,j,none⟩=some (.bool (h j))
 ends : w.cell? ⟨bf, 1, none⟩ = some (.slice (some ⟨B, 0, none⟩) n n)
 erow:∀j,j<n->w.cell? ⟨B,j,none⟩=some (.int .i64 (Al (l.map Prod.fst) j))
 place:w.cell? ⟨bp,0,none⟩=some (.int .i64 pl)
theorem GX(bh bp bH n pl:Nat)(x:Bool)(w:World)(hn:n<=60)(hp:pl+1<n)(c0:w.cell? ⟨bh,0,none⟩=some (.slice (some ⟨bH,0,none⟩) n n))(c1:w.cell? ⟨bp,0,none⟩=some (.int .i64 pl))(c2:w.cell? ⟨bH,pl+1,none⟩=some (.bool x)) :
  Calls Tryz.prog 101 #[.pointer (some ⟨bh,0,none⟩),.pointer (some ⟨bp,0,none⟩)] w fun e w'=>e=.returned (.bool x)/\w'=w:=by
 go_enter Tryz.func101,Tryz.ntmps101;go_wp2_with fail
 go_ret;exact⟨rfl,rfl⟩
theorem Jc(bh bf bp bH n B pl s:Nat)(x:Bool)(w:World)(hn:n<=60)(hp:pl+1<n)(hs:s<n)(c0:w.cell? ⟨bh,0,none⟩=some (.slice (some ⟨bH,0,none⟩) n n))(c1:w.cell? ⟨bp,0,none⟩=some (.int .i64 pl))(c2:w.cell? ⟨bf,1,none⟩=some (.slice (some ⟨B,0,none⟩) n n))(c3:w.cell? ⟨B,pl+1,none⟩=some (.int .i64 s))(c4:w.cell? ⟨bH,s,none⟩=some (.bool x)) :
  Calls Tryz.prog 102 #[.pointer (some ⟨bh,0,none⟩),.pointer (some ⟨bf,0,none⟩),.pointer (some ⟨bp,0,none⟩)] w fun e w'=>e=.returned (.bool x)/\∃q,w'=w.drewN q:=by
 go_enter Tryz.func102,Tryz.ntmps102;go_wp2_with fail
 go_quiet (fail)
 go_wp2_with fail
 go_ret;exact⟨rfl,_,rfl⟩
theorem G2(b off cap n B bH pl:Nat)(av:Value)(h:Nat->Bool)(l:List (Int×Int))(aao:Option Addr)(an ac:Nat)(hav:av=.slice aao an ac)(w:World)(hr:∀j,j<n->w.cell? ⟨bH,j,none⟩=some (.bool (h j)))(hbH:bH<w.heap.size)(he:∀j,j<n->w.cell? ⟨B,j,none⟩=some (.int .i64 (Al (l.map Prod.fst) j)))(hbB:B<w.heap.size) :
  Calls Tryz.prog 71 #[.agg #[.slice (some ⟨b,off,none⟩) n cap,.slice (some ⟨B,0,none⟩) n n,av],.int .i64 pl,.slice (some ⟨bH,0,none⟩) n n] w fun e w'=>
   e=.returned (.tuple #[.func (.func 101) #[] #[.pointer (some ⟨w.heap.size+1+1,0,none⟩),.pointer (some ⟨w.heap.size+1,0,none⟩)],.func (.func 102) #[] #[.pointer (some ⟨w.heap.size+1+1,0,none⟩),.pointer (some ⟨w.heap.size,0,none⟩),.pointer (some ⟨w.heap.size+1,0,none⟩)]])/\Below w.heap.size w w'/\Hid (PartsAt w' (w.heap.size+1+1) w.heap.size (w.heap.size+1) bH n B pl h l):=by
 subst hav;have HR:=(show Hid _ from hr);have HE:=(show Hid _ from he);clear hr he;go_enter Tryz.func71,Tryz.ntmps71;go_wp2_with fail
 go_ret2;have hb:Below w.heap.size w (((w.alloc (.cells #[.slice (some ⟨b,off,none⟩) n cap,.slice (some ⟨B,0,none⟩) n n,.slice aao an ac] 123)).alloc (.cells #[.int .i64 pl] 3)).alloc (.cells #[.slice (some ⟨bH,0,none⟩) n n] 102)):=(((Below.refl _ _).alloc (Nat.le_refl _) _).alloc (by simp) _).alloc (by simp;omega) _;refine⟨rfl,hb,?_⟩;show PartsAt _ _ _ _ _ _ _ _ _ _;constructor
 .simp[go_sem]
 .exact fun j hj=>(hb.cell (p:=⟨bH,j,none⟩) hbH).trans (HR.out j hj)
 .simp[go_sem]
 .exact fun j hj=>(hb.cell (p:=⟨B,j,none⟩) hbB).trans (HE.out j hj)
 .simp[go_sem]
theorem PartsAt.below{w w':World}{bh bf bp bH n B pl:Nat}{h:Nat->Bool}{l:List (Int×Int)}(p:PartsAt w bh bf bp bH n B pl h l)(hb:Below w.heap.size w w')(h1:bh<w.heap.size)(h2:bf<w.heap.size)(h3:bp<w.heap.size)(h4:bH<w.heap.size)(h5:B<w.heap.size):PartsAt w' bh bf bp bH n B pl h l:=
 ⟨(hb.cell (p:=⟨bh,0,none⟩) h1).trans p.holds,fun j hj=>(hb.cell (p:=⟨bH,j,none⟩) h4).trans (p.row j hj),(hb.cell (p:=⟨bf,1,none⟩) h2).trans p.ends,fun j hj=>(hb.cell (p:=⟨B,j,none⟩) h5).trans (p.erow j hj),(hb.cell (p:=⟨bp,0,none⟩) h3).trans p.place⟩
theorem PartsAt.first{w:World}{bh bf bp bH n B pl:Nat}{h:Nat->Bool}{l:List (Int×Int)}(p:PartsAt w bh bf bp bH n B pl h l)(hn:n<=60)(hp:pl+1<n)(q:Nat) :
  Calls Tryz.prog 101 #[.pointer (some ⟨bh,0,none⟩),.pointer (some ⟨bp,0,none⟩)] (w.drewN q) fun e w'=>e=.returned (.bool (h (pl+1)))/\w'=w.drewN q:=
 GX bh bp bH n pl _ _ hn hp (by simpa using p.holds) (by simpa using p.place) (by simpa using p.row _ hp)
theorem PartsAt.second{w:World}{bh bf bp bH n B pl:Nat}{h:Nat->Bool}{l:List (Int×Int)}(p:PartsAt w bh bf bp bH n B pl h l)(hn:n<=60)(hp:pl+1<n)(hs:sec l pl<n)(q:Nat) :
  Calls Tryz.prog 102 #[.pointer (some ⟨bh,0,none⟩),.pointer (some ⟨bf,0,none⟩),.pointer (some ⟨bp,0,none⟩)] (w.drewN q) fun e w'=>e=.returned (.bool (h (sec l pl)))/\∃r,w'=w.drewN r:=
 (Jc bh bf bp bH n B pl (sec l pl) _ _ hn hp hs (by simpa using p.holds) (by simpa using p.place) (by simpa using p.ends) (by have:=p.erow _ hp;unfold sec;simpa using this) (by simpa using p.row _ hs)).mono fun e w' ⟨h1,r,h2⟩=>⟨h1,q+r,by rw[h2,World.drewN_drewN]⟩
theorem Rq(k v:Int)(lo:Option Addr)(lc bh bf bp bH n B pl:Nat)(letter:List Bool)(h:Nat->Bool)(l:List (Int×Int))(w:World)(hn:n<=60)
  (hL:BoolsV w (.slice lo letter.length lc) letter) (hP:PartsAt w bh bf bp bH n B pl h l) (b1:bh<w.heap.size) (b2:bf<w.heap.size) (b3:bp<w.heap.size) (b4:bH<w.heap.size) (b5:B<w.heap.size)
  (h13:k=13->0<=v/\v<letter.length) (h1:k=10\/k=8\/k=9->pl+1<n) (h2:k=8\/k=9->sec l pl<n) :
  Calls Tryz.prog 72 #[.agg #[.int .i64 k,.int .i64 v],.slice lo letter.length lc,.func (.func 101) #[] #[.pointer (some ⟨bh,0,none⟩),.pointer (some ⟨bp,0,none⟩)],.func (.func 102) #[] #[.pointer (some ⟨bh,0,none⟩),.pointer (some ⟨bf,0,none⟩),.pointer (some ⟨bp,0,none⟩)]] w fun e w'=>
   e=.returned (.bool (mkB (k,v) letter (h (pl+1)) (h (sec l pl))))/\Below w.heap.size w w':=by
 have hA:∀o,Below w.heap.size w (w.alloc o):=fun o=>(Below.refl _ _).alloc (Nat.le_refl _) o;have hP':=fun o=>hP.below (hA o) b1 b2 b3 b4 b5;by_cases e13:k=13
 .subst e13;obtain⟨hv0,hv1⟩:=h13 rfl;obtain⟨vn,rfl⟩:∃vn:Nat,v=vn:=⟨v.toNat,by omega⟩;obtain⟨lo',lc',hls,hll⟩:=hL;injection hls with e1 e2 e3;subst e1;obtain⟨b,off,rfl,hbl,hat⟩:=hll (by intro h;rw[h]at hv1;simp at hv1;omega);have hc:=fun o=>((hA o).cell (p:=⟨b,off+vn,none⟩) hbl).trans (hat vn (by omega));have hm:mkB (13,(vn:Int)) letter (h (pl+1)) (h (sec l pl))=letter.getD vn false:=by simp[mkB]
  rw[hm];generalize letter.getD vn false=x at hc⊢;generalize letter.length=ln at *;have hvl:vn<ln:=by omega
  clear hm hll hat hv0 hv1 h1 h2 h13 hP hP';go_enter Tryz.func72,Tryz.ntmps72;go_wp2_with fail
  go_ret;exact⟨rfl,hA _⟩
 .by_cases e11:k=11
  .subst e11;have hm:mkB (11,v) letter (h (pl+1)) (h (sec l pl))=true:=by simp[mkB]
   rw[hm];clear hm hL h1 h2 h13 hP hP' e13;go_enter Tryz.func72,Tryz.ntmps72;go_wp2_with fail
   go_ret;exact⟨rfl,hA _⟩
  .by_cases e10:k=10
   .subst e10;have hp:=h1 (.inl rfl);have hf:=fun o=>(hP' o).first hn hp 0
    have hm:mkB (10,v) letter (h (pl+1)) (h (sec l pl))=!h (pl+1):=by simp[mkB]
    rw[hm];generalize h (pl+1)=x at hf⊢;clear hm hL h1 h2 h13 hP hP' e13 e11;go_enter Tryz.func72,Tryz.ntmps72;go_wp2_with (go_at_call 101;refine(hf _).mono ?_;rintro e w1 ⟨rfl,rfl⟩)
    go_ret;exact⟨rfl,below_drewN (hA _) 0⟩
   .by_cases e8:k=8
    .subst e8;have hp:=h1 (.inr (.inl rfl));have hs:=h2 (.inl rfl);have hf:=fun o q=>(hP' o).first hn hp q
     have hf2:=fun o q=>(hP' o).second hn hp hs q;have hm:mkB (8,v) letter (h (pl+1)) (h (sec l pl))=(h (pl+1)&&h (sec l pl)):=by simp[mkB]
     rw[hm];generalize h (pl+1)=x at hf⊢;generalize h (sec l pl)=y at hf2⊢;clear hm hL h1 h2 h13 hP hP' e13 e11 e10;cases x
     .go_enter Tryz.func72,Tryz.ntmps72;go_wp2_with (go_at_call 101;refine(hf _ 0).mono ?_;rintro e w1 ⟨rfl,rfl⟩)
      go_ret;exact⟨rfl,below_drewN (hA _) 0⟩
     .go_enter Tryz.func72,Tryz.ntmps72;go_wp2_with (first|(go_at_call 101;refine(hf _ 0).mono ?_;rintro e w1 ⟨rfl,rfl⟩)|(go_at_call 102;refine(hf2 _ 0).mono ?_;rintro e w1 ⟨rfl,r,rfl⟩))
      go_ret;exact⟨by simp,below_drewN (hA _) _⟩
    .by_cases e9:k=9
     .subst e9;have hp:=h1 (.inr (.inr rfl));have hs:=h2 (.inr rfl);have hf:=fun o q=>(hP' o).first hn hp q
      have hf2:=fun o q=>(hP' o).second hn hp hs q;have hm:mkB (9,v) letter (h (pl+1)) (h (sec l pl))=(h (pl+1)||h (sec l pl)):=by simp[mkB]
      rw[hm];generalize h (pl+1)=x at hf⊢;generalize h (sec l pl)=y at hf2⊢;clear hm hL h1 h2 h13 hP hP' e13 e11 e10 e8;cases x
      .go_enter Tryz.func72,Tryz.ntmps72;go_wp2_with (first|(go_at_call 101;refine(hf _ 0).mono ?_;rintro e w1 ⟨rfl,rfl⟩)|(go_at_call 102;refine(hf2 _ 0).mono ?_;rintro e w1 ⟨rfl,r,rfl⟩))
       go_ret;exact⟨by simp,below_drewN (hA _) _⟩
      .go_enter Tryz.func72,Tryz.ntmps72;go_wp2_with (go_at_call 101;refine(hf _ 0).mono ?_;rintro e w1 ⟨rfl,rfl⟩)
       go_ret;exact⟨rfl,below_drewN (hA _) 0⟩
     .have hm:mkB (k,v) letter (h (pl+1)) (h (sec l pl))=false:=by simp[mkB,e13,e11,e10,e8,e9]
      rw[hm];clear hm hL h1 h2 h13 hP hP';go_enter Tryz.func72,Tryz.ntmps72;go_wp2_with fail
      go_ret;exact⟨rfl,hA _⟩
open Go.ChangeShapes Go.WideShapes Go.ChangeAt Go.RowKit Go.Deep Go.Shelf
attribute [local go_sem] Oper.semAt_some
def FU{n:Nat}(h:0<n)(j:Nat):Fin n:=⟨n-1-j,by omega⟩
def C0{n:Nat}(h:0<n)(k:Nat):List (Fin n):=(List.range k).map (FU h)
theorem IF{n:Nat}(h:0<n)(k:Nat):C0 h (k+1)=C0 h k++[FU h k]:=by simp[C0,List.range_succ]
theorem OY{n:Nat}(h:0<n)(k:Nat):(C0 h k).length=k:=by simp[C0]
def GF(l:List (Int×Int))(n:Nat)(x:Fin n):Array Value:=#[.int .i64 (x.1:Int),.agg #[.int .i64 (l.getD x.1 (0,0)).1,.int .i64 (l.getD x.1 (0,0)).2]]
def EE(n₀ Bs:Nat)(A B:World):Prop:=Below n₀ A B/\B.heap[Bs]? = A.heap[Bs]?
set_option maxRecDepth 100000 in
theorem OV(F:Fence)(m:Nat)(h7:F.fn 100)(hro:F.round=none)(hm:1<=m)(L Bs n₀ b off n cap:Nat)(l:List (Int×Int))(h0n:0<n)(h60:n<=60)(hnl:n=l.length)(hb:b<n₀)(J Jx:List (Fin n)->World->Prop)
  (hY:∀pre x W,J pre W->pre.length<n->YieldAt F (m-1) Tryz.prog L (GF l n x) W fun e W'=>
   (e=.returned (.bool true)/\J (pre++[x]) W'/\EE n₀ Bs W W')\/(e=.returned (.bool false)/\Jx (pre++[x]) W'))
  (W:World) (hBs:W.cell? ⟨Bs,0,none⟩=some (.slice (some ⟨b,off,none⟩) n cap)) (hc:BO W b off l) (h0:J [] W) :
  CallsIn F m Tryz.prog 100 #[.func (.yield L) #[] #[],.pointer (some ⟨Bs,0,none⟩)] W fun e W'=>(∃v,e=.returned v)/\
   ((∃ys,ys=C0 h0n n/\J ys W')\/(∃pre,(∃k,k<=n/\pre=C0 h0n k)/\Jx pre W')):=by
 refine callsIn_of_wp Tryz.func100 rfl h7 ?_ hro;simp only[Tryz.ntmps100,List.size_toArray,List.length_cons,List.length_nil,Nat.reduceAdd,Nat.reduceSub,Array.replicate_succ,Array.replicate_zero,List.push_toArray,List.append_toArray,List.nil_append,List.cons_append];have HC:Hid (BO W b off l):=hc;have HN:Hid (n=l.length):=hnl;clear hc hnl;gi_wp2
 gi_loopw [3] (fun i wr=>∃k:Nat,k<=n/\i=.int .i64 ((n:Int)-1-k)/\J (C0 h0n k) wr/\EE n₀ Bs W wr)
  (fun i _=>(intOf i+1).toNat)
 case atStart=>exact⟨0,Nat.zero_le _,by first|rfl|simp,h0,Below.refl _ _,rfl⟩
 case round=>
  obtain⟨k,hk,rfl,hJs,hnx,hbx⟩:=hrel;have hcb:wr.cell? ⟨Bs,0,none⟩=some (.slice (some ⟨b,off,none⟩) n cap):=(World.cell?_of_block (w:=W) hbx).trans hBs;by_cases hlt:k<n
  .obtain ⟨p,hp⟩:∃p:Nat,p=n-1-k:=⟨_,rfl⟩;have hpi:(n:Int)-1-k=(p:Int):=by omega
   have hpn:p<n:=by omega
   obtain⟨c0,c1⟩:=(HC.out.below hnx hb) p (by rw[<-HN.out];exact hpn);obtain⟨fn,tmps,assign,body,hy,hR⟩:=hY _ (FU h0n k) wr hJs (by rw[OY];exact hlt);have hba:(FU h0n k).1=p:=hp.symm;simp only[GF,hba]at hy;rw[hpi];have HPI:Hid ((n:Int)-1-k=(p:Int)):=hpi;clear hp hpi hba;generalize l.getD p (0,0)=xy at c0 c1 hy;obtain⟨x,y⟩:=xy;simp only at c0 c1 hy;gi_wp2
   refine hR.mono ?_;rintro e W3 (⟨rfl,hJ3,hk3,hk4⟩|⟨rfl,hJx3⟩)
   .gi_wp2
    go_roundw
    case rel=>exact⟨k+1,by omega,by have:=HPI.out;first|(congr 1;omega)|(simp;omega),by rw[IF];exact hJ3,hnx.trans hk3,hk4.trans hbx⟩
    case measure=>have:=HPI.out;first|(simp[intOf];omega)|simp[intOf]
   .gi_wp2
    refine bodyPost_ret (results_none rfl _ _ _) rfl ?_;exact⟨⟨_,rfl⟩,.inr ⟨_,⟨k+1,by omega,(IF _ _).symm⟩,hJx3⟩⟩
  .obtain rfl:k=n:=by omega
   have hpi:(k:Int)-1-k=-1:=by omega
   rw[hpi];gi_wp2
   go_end0
   exact⟨⟨_,rfl⟩,.inl ⟨_,rfl,hJs⟩⟩
theorem OZ(F:Fence)(m:Nat)(h5:F.fn 70)(hro:F.round=none)(a:Option Addr)(len cap:Nat)(w:World) :
  CallsIn F m Tryz.prog 70 #[.slice a len cap] w fun e w'=>e=.returned (.func (.func 100) #[] #[.pointer (some ⟨w.heap.size,0,none⟩)])/\w'=w.alloc (.cells #[.slice a len cap] 33):=by
 refine callsIn_of_wp Tryz.func70 rfl h5 ?_ hro;simp only[Tryz.ntmps70,List.size_toArray,List.length_cons,List.length_nil,Nat.reduceAdd,Nat.reduceSub,Array.replicate_succ,Array.replicate_zero,List.push_toArray,List.append_toArray,List.nil_append,List.cons_append];gi_wp2
 go_ret;exact⟨rfl,rfl⟩
theorem Oa(F:Fence)(m:Nat)(h7:F.fn 100)(hro:F.round=none)(hm:1<=m)(Bs n₀ b off n cap:Nat)(l:List (Int×Int))(h0n:0<n)(h60:n<=60)(hnl:n=l.length)(hb:b<n₀)(w:World)(hBs:Bs<w.heap.size)(hn₀:n₀<=w.heap.size)
  (hc:w.cell? ⟨Bs,0,none⟩=some (.slice (some ⟨b,off,none⟩) n cap)) (hI:BO w b off l) :
  SeqStopsK F m Tryz.prog 100 #[.pointer (some ⟨Bs,0,none⟩)] (GF l n) (EE n₀ Bs) (fun ys=>ys=C0 h0n n)
   (fun pre=>∃k,k<=n/\pre=C0 h0n k) n w:=fun L J Jx W hW _ _ hY h0=>
 OV F m h7 hro hm L Bs n₀ b off n cap l h0n h60 hnl hb J Jx hY W ((hW.cell (p:=⟨Bs,0,none⟩) hBs).trans hc) (hI.below (hW.mono hn₀) hb) h0
theorem OX{n₀ Bs:Nat}{A B C:World}(h:EE n₀ Bs A B)(k:EE n₀ Bs B C):EE n₀ Bs A C:=⟨h.1.trans k.1,k.2.trans h.2⟩
theorem OW{n₀ Bs:Nat}{w:World}(hn:n₀<=w.heap.size)(hB:Bs<w.heap.size)(W:World)(l:Nat)(o o':Obj)(hl:w.heap.size<=l)(h:W.heap[l]? = some o)(h1:o.isCells=false)(h2:o.isWalk=false):EE n₀ Bs W (W.putObj l o'):=
 ⟨belowK_b hn W l o o' hl h h1 h2,(belowK_b (n₀:=Bs+1) (w:=w) hB W l o o' hl h h1 h2).block Bs (Nat.lt_succ_self _)⟩
attribute [local go_sem] Oper.semAt_some
def Bb(l:List (Int×Int))(claim:Int)(k:Nat)(j:Nat):Bool:=if Af (l.getD j (0,0)).1=true/\(AN l j).length<k then EM claim (AN l j).length else false
def Hh(l:List (Int×Int))(letter:List Bool)(h:Nat->Bool)(p:Nat):Nat->Bool:=if Af (l.getD p (0,0)).1=true then h else fun j=>if j=p then mkB (l.getD p (0,0)) letter (h (p+1)) (h (sec l p))else h j
def CA(l:List (Int×Int))(letter:List Bool)(h:Nat->Bool){n:Nat}(xs:List (Fin n)):Nat->Bool:=xs.foldl (fun h x=>Hh l letter h x.1) h
theorem K0(l:List (Int×Int))(letter:List Bool)(h:Nat->Bool){n:Nat}(xs:List (Fin n))(x:Fin n):CA l letter h (xs++[x])=Hh l letter (CA l letter h xs) x.1:=by simp[CA]
theorem QN{l:List (Int×Int)}{letter:List Bool}{claim:Int}(hz:AR (l.map Prod.fst)=0){n:Nat}(h0n:0<n)(hn:n=l.length) :
  ∀k,k<=n->∀j,j<n->CA l letter (Bb l claim (AA l).length) (C0 h0n k) j=if n-k<=j then tru l letter claim j else Bb l claim (AA l).length j:=by
 intro k;induction k with
 |zero=>
  intro _ j hj;rw[if_neg (by omega)];simp[C0,CA]
 |succ k ih=>
  intro hk j hj;have ih':=ih (by omega);rw[IF,K0];have hp:(FU h0n k).1=n-1-k:=rfl;rw[hp];obtain⟨p,hpe⟩:∃p,p=n-1-k:=⟨_,rfl⟩;rw[<-hpe];have hpl:p<l.length:=by omega
  unfold Hh;cases hb:Af (l.getD p (0,0)).1 with
  |true=>
   rw[if_pos rfl,ih' j hj];by_cases hjp:j=p
   .subst hjp;rw[if_neg (by omega),if_pos (by omega),VZ hpl hb];unfold Bb;exact if_pos ⟨hb,EL l hpl hb⟩
   .by_cases hle:n-k<=j
    .rw[if_pos hle,if_pos (by omega)]
    .rw[if_neg hle,if_neg (by omega)]
  |false=>
   rw[if_neg (by decide)];by_cases hjp:j=p
   .subst hjp;rw[if_pos rfl,if_pos (by omega)];obtain⟨h1,h2⟩:=G1 hz hpl;rw[Va hpl hb (fun h=>(h2 h).1)];have hpn:=JR (l.getD j (0,0)).1;by_cases p2:pn (l.getD j (0,0)).1=2
    .obtain ⟨s1,s2⟩:=h2 p2;have s0:=h1 (by omega);rw[ih' (j+1) (by omega),ih' (sec l j) (by omega),if_pos (by omega),if_pos (by omega)]
    .have hk89:(l.getD j (0,0)).1≠8/\(l.getD j (0,0)).1≠9:=by
      constructor<;>intro e<;>rw[e]at p2<;>exact absurd rfl p2
     by_cases p1:pn (l.getD j (0,0)).1=1
     .have s0:=h1 (by omega);rw[ih' (j+1) (by omega),if_pos (by omega)];simp only[mkB,hk89.1,hk89.2,if_false]
     .have hk10:(l.getD j (0,0)).1≠10:=by intro e;rw[e]at p1;exact absurd rfl p1
      simp only[mkB,hk89.1,hk89.2,hk10,if_false]
   .rw[if_neg hjp,ih' j hj];by_cases hle:n-k<=j
    .rw[if_pos hle,if_pos (by omega)]
    .rw[if_neg hle,if_neg (by omega)]
structure TrSt(w:World)(fo ev av lv:Value)(n:Nat)(h:Nat->Bool)(W0s:Nat)(W:World):Prop where
 three:Bq W w.heap.size fo ev av
 letter:W.cell? ⟨w.heap.size+1,0,none⟩=some lv
 holds:W.cell? ⟨w.heap.size+1+1+1,0,none⟩=some (.slice (some ⟨w.heap.size+1+1,0,none⟩) n n)
 row:W.rowIs (w.heap.size+1+1) 4 n (fun j=>.bool (h j))
 below:Below w.heap.size w W
 size:W0s<=W.heap.size
theorem TrSt.later{w:World}{fo ev av lv:Value}{n:Nat}{h:Nat->Bool}{s B:Nat}{W W':World}(t:TrSt w fo ev av lv n h s W)(hb:Below B W W')(hB:w.heap.size+4<=B):TrSt w fo ev av lv n h s W':=
 ⟨t.three.below hb (by omega),(hb.cell (p:=⟨w.heap.size+1,0,none⟩) (by simp;omega)).trans t.letter,(hb.cell (p:=⟨w.heap.size+1+1+1,0,none⟩) (by simp;omega)).trans t.holds,t.row.of_block (hb.block _ (by omega)),t.below.trans (hb.mono (by omega)),Nat.le_trans t.size hb.size⟩
theorem TrSt.congr{w:World}{fo ev av lv:Value}{n:Nat}{h h':Nat->Bool}{s:Nat}{W:World}(t:TrSt w fo ev av lv n h s W)(e:∀j,j<n->h j=h' j):TrSt w fo ev av lv n h' s W:=
 ⟨t.three,t.letter,t.holds,t.row.congr fun j hj=>by rw[e j hj],t.below,t.size⟩
theorem TrSt.put{w:World}{fo ev av lv:Value}{n:Nat}{h:Nat->Bool}{s:Nat}{W:World}(t:TrSt w fo ev av lv n h s W)(p:Nat)(x:Bool):TrSt w fo ev av lv n (fun j=>if j=p then x else h j) s (W.setCell ⟨w.heap.size+1+1,p,none⟩ (.bool x)):=by
 have hb:∀k,k≠w.heap.size+1+1->(W.setCell ⟨w.heap.size+1+1,p,none⟩ (.bool x)).heap[k]? = W.heap[k]?:=fun k hk=>Below.heap_setCell W _ _ k hk;have hc:∀k q,k≠w.heap.size+1+1->(W.setCell ⟨w.heap.size+1+1,p,none⟩ (.bool x)).cell? ⟨k,q,none⟩=W.cell? ⟨k,q,none⟩:=fun k q hk=>World.cell?_of_block (w:=W) (hb k hk);have hf:∀q,(W.setCell ⟨w.heap.size+1+1,p,none⟩ (.bool x)).frozen? ⟨w.heap.size,q,none⟩=W.frozen? ⟨w.heap.size,q,none⟩:=fun q=>by rw[World.frozen?_setCell]
 obtain⟨k0,k1,k2,f0,f1,f2,hl⟩:=t.three;refine⟨⟨(hc _ _ (by omega)).trans k0,(hc _ _ (by omega)).trans k1,(hc _ _ (by omega)).trans k2,(hf 0).trans f0,(hf 1).trans f1,(hf 2).trans f2,by simpa using hl⟩,(hc _ _ (by omega)).trans t.letter,(hc _ _ (by omega)).trans t.holds,?_,t.below.setCell (by simp;omega) _,by simpa using t.size⟩;refine(t.row.set p (.bool x)).congr fun i _=>?_;by_cases hip:i=p
 .rw[if_pos hip,if_pos hip]
 .rw[if_neg hip,if_neg hip]
theorem TrSt.drew{w:World}{fo ev av lv:Value}{n:Nat}{h:Nat->Bool}{s:Nat}{W:World}(t:TrSt w fo ev av lv n h s W):TrSt w fo ev av lv n h s W.drew:=
 ⟨⟨t.three.1,t.three.2.1,t.three.2.2.1,t.three.2.2.2.1,t.three.2.2.2.2.1,t.three.2.2.2.2.2.1,t.three.2.2.2.2.2.2⟩,t.letter,t.holds,t.row.of_block rfl,t.below.drew,t.size⟩
theorem Oh:∀c,c<64->(bits BinOp.and IntKind.i64 ((c:Nat):Int) 1 == 1)=decide (((c:Nat):Int) % 2=1):=by decide
theorem Og{claim:Int}{k:Nat}(h0:0<=claim)(h:claim<64):(bits BinOp.and IntKind.i64 (claim / 2^k) 1 == 1)=EM claim k:=by
 have h2:(0:Int)<2^k:=Int.pow_pos (by decide);have h3:0<=claim / 2^k:=Int.ediv_nonneg h0 (Int.le_of_lt h2);have h4:claim / 2^k<=claim:=Int.ediv_le_self _ h0;obtain⟨c,hc⟩:∃c:Nat,claim / 2^k=c:=⟨(claim / 2^k).toNat,by omega⟩;unfold EM;rw[hc];exact Oh c (by omega)
theorem Q0{l:List (Int×Int)}{claim:Int}{k p:Nat}(hlk:Af (l.getD p (0,0)).1=true)(hpi:(AN l p).length=k)(j:Nat):(if j=p then EM claim k else Bb l claim k j)=Bb l claim (k+1) j:=by
 unfold Bb;by_cases hjp:j=p
 .subst hjp;rw[if_pos rfl,if_pos ⟨hlk,by omega⟩,hpi]
 .rw[if_neg hjp];by_cases hb:Af (l.getD j (0,0)).1=true
  .have hne:(AN l j).length≠k:=by
    intro e;rcases Nat.lt_or_gt_of_ne hjp with h|h
    .have:=EL l h hb;omega
    .have:=EL l h hlk;omega
   by_cases hl:(AN l j).length<k
   .rw[if_pos ⟨hb,hl⟩,if_pos ⟨hb,by omega⟩]
   .rw[if_neg (fun h=>hl h.2),if_neg (fun h=>by have:=h.2;omega)]
  .rw[if_neg (fun h=>hb h.1),if_neg (fun h=>hb h.1)]
theorem Ve(fv lv:Value)(fo ev:Value)(aao:Option Addr)(an ac:Nat)(claim:Int)(lo:Option Addr)(ln lc:Nat)(oo eo:Option Addr)(on oc en ec:Nat)(hfo:fo=.slice oo on oc)(hev:ev=.slice eo en ec)(hlv:lv=.slice lo ln lc)(hfv:fv=.agg #[fo,ev,.slice aao an ac])(h6:an<=6)(w:World)(h:claim<0\/2^an<=claim) :
  Calls Tryz.prog 51 #[fv,lv,.int .i64 claim] w fun e w'=>e=.returned (.tuple #[.slice none 0 0,.int .i64 2])/\Below w.heap.size w w':=by
 subst hfo hev hlv hfv;have hb:∀o o',Below w.heap.size w ((w.alloc o).alloc o'):=fun o o'=>((Below.refl _ _).alloc (Nat.le_refl _) o).alloc (by simp) o';rcases h with h|h
 .go_enter Tryz.func51,Tryz.ntmps51;go_wp2_with fail
  go_ret2;exact⟨rfl,hb _ _⟩
 .have h0:0<=claim:=by have:(0:Int)<2^an:=Int.pow_pos (by decide);omega
  have hcase:an=0\/an=1\/an=2\/an=3\/an=4\/an=5\/an=6:=by omega
  clear h6;rcases hcase with rfl|rfl|rfl|rfl|rfl|rfl|rfl;all_goals
   simp only[Int.reducePow]at h;go_enter Tryz.func51,Tryz.ntmps51;go_wp2_with fail
   go_ret2;exact⟨rfl,hb _ _⟩
theorem Vj{P:Program}(L n:Nat){o:Oper}{a:Act}{next:Act->World->Prop}{Q:Exit->Act->World->Prop}{r:Result Next}(h:o.upon P a next Q r):o.uponIn (Fence.wide.inRound L) n P a next Q r:=by
 have hd:∀m:Nat,(Fence.wide.inRound L).depth.isSome=true->1<=m:=fun m h=>by simp[Fence.wide,Fence.inRound]at h
 cases r with
 |halt x w'=>cases x<;>first|exact h|exact h.elim
 |ok x w'=>
  cases x with
  |value v=>exact h
  |skip=>exact h
  |defer d=>exact h
  |enter f args=>exact⟨hd _,CallsIn.inRound L ((callsIn_wide.2 h).mono fun e w'' he=>by cases e<;>exact he)⟩
  |row row args=>exact⟨hd _,fun c cs _=>by obtain⟨v,w'',h1,h2⟩:=h c cs;exact⟨v,w'',h1,stepsIn_wide.2 h2⟩⟩
  |_=>exact(h:False).elim
theorem OI{P:Program}(L n:Nat){md:Region.Mode}{ops:Array Oper}{Q:Exit->Act->World->Prop}(hd:∀(i:Nat) (o:Oper),ops[i]? = some o->∀c,o.op≠Op.defer c)(hQ:LetsOut Q->False) :
  ∀(fuel:Nat) (listed:Array Bool) (a:Act) (w:World),wpAny P md ops Q fuel listed a w->wpAnyIn (Fence.wide.inRound L) n P md ops Q fuel listed a w:=by
 intro fuel;induction fuel with
 |zero=>intro listed a w h;exact h
 |succ fuel ih=>
  intro listed a w h;refine⟨h.1,fun i hi=>?_⟩;have h1:=wpOp_mono (K':=wpAnyIn (Fence.wide.inRound L) n P md ops Q fuel (listed.setIfInBounds i true)) (fun a' w' h'=>ih _ a' w' h') (h.2 i hi);unfold wpOp at h1;unfold wpOpIn;cases ho:ops[i]? with
  |none=>simp only[ho]at h1⊢;exact h1
  |some o=>
   simp only[ho]at h1⊢;split
   .rename_i hw;rw[if_pos hw]at h1;rcases h1 with h1|⟨_,h1⟩
    .refine ⟨fun f _=>trivial,?_⟩;rw[Oper.semAt_eq _ _ _ (hd i o ho)];exact Vj L n h1
    .exact (hQ h1).elim
   .rename_i hw;rw[if_neg hw]at h1;exact⟨fun f _=>trivial,h1⟩
theorem T0{P:Program}{L n id:Nat}{ops:Array Oper}{Q:Exit->Act->World->Prop}{a:Act}{w:World}(S:World->Prop)(hm:P.follows .mixedOrders=true)(hd:∀(i:Nat) (o:Oper),ops[i]? = some o->∀c,o.op≠Op.defer c)(hQ:LetsOut Q->False)
  (h:wpAnyH P .any ops Q S ops.size (Array.replicate ops.size false) a w.drew):(Code.region id ops true).wpIn (Fence.wide.inRound L) n P Q a w:=
 wpIn_region_any hm (OI L n hd hQ _ _ _ _ (wpAny_of_held _ _ _ _ h))
theorem V4{P:Program}{ops:Array Oper}{Q:Exit->Act->World->Prop}{i:Nat}{K:Act->World->Prop}{a:Act}{w:World}{o:Oper}{f:FuncId}{args:Array Value}{R:Ending->World->Prop}(hi:ops[i]? = some o)(hw:Region.wanted o (yielded ops a.tmps)=true)(hr:(execOp a.eval o).run P w=.ok (.enter f args) w)(h:Calls P f args w R)
  (hR:∀e w',R e w'->∃v,e=.returned v/\K (a.put o.dst v) w'):wpOp P ops Q i K a w:=by
 unfold wpOp;simp only[hi];rw[if_pos hw];refine Or.inl ?_;unfold Oper.wp;rw[hr];refine h.mono fun e w' he=>?_;obtain⟨v,rfl,hk⟩:=hR e w' he;exact hk
theorem V5{P:Program}{ops:Array Oper}{Q:Exit->Act->World->Prop}{i:Nat}{K:Act->World->Prop}{a:Act}{w w':World}{o:Oper}(hi:ops[i]? = some o)(hw:Region.wanted o (yielded ops a.tmps)=true)(hr:(execOp a.eval o).run P w=.ok .skip w')(h:K (a.put o.dst undef) w'):wpOp P ops Q i K a w:=by
 unfold wpOp;simp only[hi];rw[if_pos hw];refine Or.inl ?_;unfold Oper.wp;rw[hr];exact h
