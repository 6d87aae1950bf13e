/- Joined texts. -/
import Derived.Test.YtiimhhjkgeepjaaGreatDoorMCode
import Derived.Test.YtiimhhjkgeepjaaGreatDoorDesignOpen
import Derived.Test.YtiimhhjkgeepjaaGreatDoorBools
import Derived.RangeFuncNested
import Derived.RangeFuncBound
import Derived.RangeFuncCalls
import Derived.RangeFuncLeaves
import Derived.Shelf.Abstract
import Derived.Shelf.RegionOpen
import Derived.OwnWalkIn
import Derived.TacticsInMore
import Derived.LoopNIn
import Derived.LoopIn
namespace Go.Proofs.YtiimhhjkgeepjaaGreatDoor
open Go.ChangeShapes Go.WideShapes Go.ChangeAt Go.RowKit Go.Deep
open Terms Tm
set_option maxHeartbeats 6400000
set_option maxRecDepth 20000
noncomputable def zAr (m:Mo) (code:Int):Int:=if mcode m=0 then (if 0 <= code/\code < zAC m.vars m.vars.length then 0 else 9) else mcode m
theorem zO7 {m:Mo} {code:Int} (h:mcode m≠0):zAr m code=mcode m:=by unfold zAr;rw [if_neg h]
theorem zKl {m:Mo} {code:Int} (h:mcode m=0) (h2:¬ (0 <= code/\code < zAC m.vars m.vars.length)):zAr m code=9:=by unfold zAr;rw [if_pos h,if_neg h2]
theorem zBk {m:Mo} {code:Int} (h:mcode m=0) (h2:0 <= code/\code < zAC m.vars m.vars.length):zAr m code=0:=by unfold zAr;rw [if_pos h,if_pos h2]
theorem zDn {w:World} {B n:Nat} {f:Nat->Int} (h:w.rowIs B 3 n (fun j=>.int .i64 (f j))):zAD w (.slice (some ⟨B,0,none⟩) n n) ((List.range n).map f):=by
 refine ⟨some ⟨B,0,none⟩,n,by simp,fun _=>⟨B,0,rfl,h.lt,fun i hi=>?_⟩⟩
 simp only [List.length_map,List.length_range] at hi;rw [Nat.zero_add,h.cell hi];simp [List.getD_eq_getElem?_getD,hi]
noncomputable def zGs (m:Mo) (code:Int):List Int:=if zAr m code=0 then zA0 m.vars code else []
theorem zGW (va vr:Value) (m:Mo) (code:Int) (w:World) (hB:0 < w.heap.size) (hT:zAJ w) (hV:zAa w va vr m) (h:mcode m=0) (hc:0 <= code/\code < zAC m.vars m.vars.length) :
  Calls Tryz.prog 43 #[.agg #[va,vr],.int .i64 code] w fun e w'=>∃ B,e=.returned (.tuple #[.slice (some ⟨B,0,none⟩) m.vars.length m.vars.length,.int .i64 0])/\w.heap.size <= B/\Below w.heap.size w w'/\w'.rowIs B 3 m.vars.length (fun j=>.int .i64 (zHz m.vars code j)):=by
 have hA:∀ o,Below w.heap.size w (w.alloc o):=fun o=>(Below.refl _ _).alloc (Nat.le_refl _) o
 have hch:=fun o=>zBU va vr m (w.alloc o) (Nat.lt_of_lt_of_le hB (hA o).size) (hT.below (hA o) hB) (hV.below (hA o))
 rw [h] at hch;have hok:=zAt h;have HOK:Hid (zBZ m.vars):=hok;have h6:=hok.1;have hcf:=(fun w1 (hb:Below w.heap.size w w1)=>zG3 va m.vars w1 hok (hV.1.below hb))
 obtain ⟨ao,cap,rfl⟩:=hV.1.shape;obtain ⟨ro,rc,rfl⟩:=hV.2.shape;have HV:Hid (zCI w (.slice ao m.vars.length cap) m.vars):=hV.1;have hN:=hok.prod (j:=m.vars.length) (Nat.le_refl _);have HS0:Hid (zCh m.vars m.vars.length=1):=zQc _;obtain ⟨hc1,hc2⟩:=hc;generalize zAC m.vars m.vars.length=N at *;obtain ⟨n,hn⟩:∃ n,n=m.vars.length:=⟨_,rfl⟩
 have HN:Hid (n=m.vars.length):=hn;rw [<- hn] at h6 hch hcf HV HS0 ⊢;generalize m.rules.length=rn at *;have hmk:=run_make_row' (P:=Tryz.prog) 37 3 (.int .i64 0) 8 Tryz.underlying37 zA8 rfl .i64 .i64 n (by omega) (by omega)
 clear hV hT hn hok h
 go_enter Tryz.func43,Tryz.ntmps43
 go_wp2_with (first | (go_at_call 16;refine (hch _).mono ?_;rintro e w1 ⟨rfl,hb1⟩;have hcb:w1.cell? ⟨w.heap.size,0,none⟩=some (.slice ao n cap):=(hb1.cell (p:=⟨w.heap.size,0,none⟩) (by simp)).trans (by simp [go_sem]);have hbw:=(hA _).trans (hb1.mono (hA _).size);have hs1:w.heap.size < w1.heap.size:=(by have:=hb1.size;simp at this;omega)) | (go_at_call 68;refine (hcf _ hbw).mono ?_;rintro e w2 ⟨rfl,hb2⟩;have hcb2:=(hb2.cell (p:=⟨w.heap.size,0,none⟩) hs1).trans hcb))
 have hbw2:=hbw.trans (hb2.mono hbw.size);have hrow0:=World.rowIs_made w2 (.int .i64 0) n 3;have hs2:=Nat.lt_of_lt_of_le hs1 hb2.size;have HB2:Hid (Below w.heap.size w w2):=hbw2;have hcb3:=hcb2;clear hch hcf hmk hb1 hb2 hcb hbw hs1 hbw2 hcb2
 go_loopw [1,8] (fun cd i wr=>∃ k:Nat,k <= n/\i=.int .i64 ((k:Int) - 1)/\cd=.int .i64 (code / zCh m.vars k)/\Hid (wr.rowIs w2.heap.size 3 n (fun j=>if k <= j then .int .i64 (zHz m.vars code j) else .int .i64 0))/\Hid (Below w2.heap.size w2 wr)) (fun _ i _=>(intOf i+1).toNat)
 case atStart=>exact ⟨n,Nat.le_refl _,by first | rfl | go_num,by rw [HS0.out];simp,hrow0.congr (fun i hi=>by rw [if_neg (by omega)]),(Below.refl _ _).alloc (Nat.le_refl _) _⟩
 case round=>
  obtain ⟨k,hk,rfl,rfl,HRow,HBel⟩:=hrel;have hbel:=HBel.out;have hrow:=HRow.out;have hbw:=HB2.out.trans (hbel.mono HB2.out.size);have hszr:=hrow.lt;have cb:=(hbel.cell (p:=⟨w.heap.size,0,none⟩) hs2).trans hcb3
  by_cases hk0:0 < k
  ·obtain ⟨k,rfl⟩:∃ k',k=k' + 1:=⟨k - 1,by omega⟩
   rw [show (((k+1:Nat):Int) - 1)=(k:Int) by omega]
   have hlt:k < n:=by omega
   obtain ⟨b,off,rfl,hblt,hat⟩:=HV.out.at (i:=k) (by rw [<- HN.out];exact hlt)
   obtain ⟨c0,c1,c2,c3⟩:=hat.below hbw hblt;have hvb:=HOK.out.at (j:=k) (by rw [<- HN.out];exact hlt)
   have hsg:=zG8 HOK.out (i:=k+1) (by rw [<- HN.out];exact hlt)
   have HQ:Hid (code / zCh m.vars (k+1) / zAH (m.vars.getD k vr0)=code / zCh m.vars k):=zQ2 HOK.out code (by rw [<- HN.out];exact hlt)
   have HVa:Hid (zHz m.vars code k=(m.vars.getD k vr0).lo+(code / zCh m.vars (k+1)) % zAH (m.vars.getD k vr0)):=rfl;have hq0:0 <= code / zCh m.vars (k+1):=Int.ediv_nonneg hc1 (by omega)
   have hq1:code / zCh m.vars (k+1) <= 4096:=by
    have:=Int.ediv_le_self (zCh m.vars (k+1)) hc1;omega
   have hf:wr.frozen? ⟨w2.heap.size,k,none⟩=false:=hrow.frozen k;have hcl:wr.cell? ⟨w2.heap.size,k,none⟩=some (.int .i64 0):=by rw [hrow.cell hlt,if_neg (by omega)]
   generalize code / zCh m.vars (k+1)=cd at *;generalize m.vars.getD k vr0=x at *;obtain ⟨s,lo,hi,ini⟩:=x;simp only [zAH] at c0 c1 c2 c3 HQ HVa hvb;obtain ⟨hv1,hv2,hv3,hv4,hv5,hv6,hv7⟩:=hvb;have hsp:=fun w=>zFY s lo hi ini w hv3 hv4 hv5
   obtain ⟨sp,hspe⟩:∃ sp,hi - lo+1=sp:=⟨_,rfl⟩
   rw [hspe] at hv1 hv2 hsp HQ HVa;clear hspe hat;have hr0:=Int.emod_nonneg cd (show sp≠0 by omega)
   have hr1:=Int.emod_lt_of_pos cd (show 0 < sp by omega)
   have hi0:(0:Int) <= (k:Int):=Int.natCast_nonneg _;have hi1:(k:Int) < (n:Int):=by omega
   have hsz0:¬ sp=0:=by omega
   have hsz1:(sp == 0)=false:=by rw [beq_eq_false_iff_ne];omega
   have ht:cd.tmod sp=cd % sp:=Int.tmod_eq_emod_of_nonneg hq0;have htd:cd.tdiv sp=cd / sp:=Int.tdiv_eq_ediv_of_nonneg hq0;have hd0:=Int.ediv_nonneg hq0 (show 0 <= sp by omega)
   have hd1:=Int.ediv_le_self sp hq0;have hw0:IntKind.i64.wrap (cd % sp)=cd % sp:=zKI (by omega) (by omega)
   have hw1:IntKind.i64.wrap (lo+cd % sp)=lo+cd % sp:=zKI (by omega) (by omega)
   have hbA:=hbel.alloc (Nat.le_of_lt hszr) (.cells #[.string s,.int .i64 lo,.int .i64 hi,.int .i64 ini] 59);have HBA:=(show Hid _ from hbA)
   have hfA:=hrow.alloc (.cells #[.string s,.int .i64 lo,.int .i64 hi,.int .i64 ini] 59);have HRA:=(show Hid _ from hfA)
   have hS0:∀ w',Below (wr.heap.size+1) (wr.alloc (.cells #[.string s,.int .i64 lo,.int .i64 hi,.int .i64 ini] 59)) w'->w'.cell? ⟨wr.heap.size,0,none⟩=some (.string s)/\w'.cell? ⟨wr.heap.size,1,none⟩=some (.int .i64 lo)/\w'.cell? ⟨wr.heap.size,2,none⟩=some (.int .i64 hi)/\w'.cell? ⟨wr.heap.size,3,none⟩=some (.int .i64 ini):=fun w' hw'=>
    ⟨(hw'.cell (p:=⟨wr.heap.size,0,none⟩) (by simp)).trans (by simp [go_sem]),(hw'.cell (p:=⟨wr.heap.size,1,none⟩) (by simp)).trans (by simp [go_sem]),(hw'.cell (p:=⟨wr.heap.size,2,none⟩) (by simp)).trans (by simp [go_sem]),(hw'.cell (p:=⟨wr.heap.size,3,none⟩) (by simp)).trans (by simp [go_sem])⟩
   have hne:∀ j:Nat,(⟨wr.heap.size,j,none⟩:Addr)≠⟨w2.heap.size,k,none⟩:=fun j h=>by injection h with h1;omega
   have hS1:∀ w' v,Below (wr.heap.size+1) (wr.alloc (.cells #[.string s,.int .i64 lo,.int .i64 hi,.int .i64 ini] 59)) w'->(w'.setCell ⟨w2.heap.size,k,none⟩ v).cell? ⟨wr.heap.size,0,none⟩=some (.string s)/\(w'.setCell ⟨w2.heap.size,k,none⟩ v).cell? ⟨wr.heap.size,1,none⟩=some (.int .i64 lo)/\(w'.setCell ⟨w2.heap.size,k,none⟩ v).cell? ⟨wr.heap.size,2,none⟩=some (.int .i64 hi)/\(w'.setCell ⟨w2.heap.size,k,none⟩ v).cell? ⟨wr.heap.size,3,none⟩=some (.int .i64 ini):=fun w' v hw'=>by
    obtain ⟨a0,a1,a2,a3⟩:=hS0 w' hw';exact ⟨(World.cell?_setCell_other _ _ _ _ (hne 0).symm).trans a0,(World.cell?_setCell_other _ _ _ _ (hne 1).symm).trans a1,(World.cell?_setCell_other _ _ _ _ (hne 2).symm).trans a2,(World.cell?_setCell_other _ _ _ _ (hne 3).symm).trans a3⟩
   have hB0:Below (wr.heap.size+1) (wr.alloc (.cells #[.string s,.int .i64 lo,.int .i64 hi,.int .i64 ini] 59)) (wr.alloc (.cells #[.string s,.int .i64 lo,.int .i64 hi,.int .i64 ini] 59)).drew:=(Below.refl _ _).drew
   have hrw:=fun w' (hw':Below (wr.heap.size+1) (wr.alloc (.cells #[.string s,.int .i64 lo,.int .i64 hi,.int .i64 ini] 59)) w')=>hfA.of_block (hw'.block w2.heap.size (by omega))
   have hcf3:∀ w',Below (wr.heap.size+1) (wr.alloc (.cells #[.string s,.int .i64 lo,.int .i64 hi,.int .i64 ini] 59)) w'->w'.frozen? ⟨w2.heap.size,k,none⟩=false/\w'.cell? ⟨w2.heap.size,k,none⟩=some (.int .i64 0):=fun w' hw'=>⟨(hrw w' hw').frozen k,by rw [(hrw w' hw').cell hlt,if_neg (by omega)]⟩
   have HRw:=(show Hid _ from hrw)
   clear hfA hbA hrw hbel hrow hbw
   go_wp2_with fail
   go_region_held3 (fun w'=>w'.cell? ⟨wr.heap.size,0,none⟩=some (.string s)/\w'.cell? ⟨wr.heap.size,1,none⟩=some (.int .i64 lo)/\w'.cell? ⟨wr.heap.size,2,none⟩=some (.int .i64 hi)/\w'.cell? ⟨wr.heap.size,3,none⟩=some (.int .i64 ini))
    (first | exact hS0 _ hB0 | exact hS0 _ (hB0.trans (hb3.mono (by simp))) | exact hS1 _ _ (hB0.trans (hb3.mono (by simp))))
    (first | (go_at_call 32;refine (hsp _).mono ?_;rintro e w3 ⟨rfl,hb3⟩;obtain ⟨hf3,hc3⟩:=hcf3 _ (hB0.trans (hb3.mono (by simp)))))
   have hB3:=hB0.trans (hb3.mono (by simp))
   obtain ⟨e0,e1,e2,e3⟩:=hS1 w3 (.int .i64 (lo+cd % sp)) hB3;have hs3:wr.heap.size < w3.heap.size:=by have:=hb3.size;simp at this;omega
   have hrow4:∀ w4,Below w3.heap.size (w3.setCell ⟨w2.heap.size,k,none⟩ (.int .i64 (lo+cd % sp))) w4->w4.rowIs w2.heap.size 3 n (fun j=>if k <= j then .int .i64 (zHz m.vars code j) else .int .i64 0)/\Below w2.heap.size w2 w4:=fun w4 h4=>by
    refine ⟨(((HRw.out w3 hB3).set k (.int .i64 (lo+cd % sp))).of_block (h4.block w2.heap.size (by omega))).congr fun j hj=>?_,?_⟩
    ·by_cases hjk:j=k
     ·subst hjk;rw [if_pos rfl,if_pos (Nat.le_refl _),HVa.out]
     ·rw [if_neg hjk]
      by_cases hkj:k+1 <= j
      ·rw [if_pos hkj,if_pos (by omega)]
      ·rw [if_neg hkj,if_neg (by omega)]
    ·exact ((HBA.out.trans (hB3.mono (by omega))).setCell (by simp) _).trans (h4.mono (by omega))
   have HR4:=(show Hid _ from hrow4)
   clear hrow4 hf hcl hf3 hc3 hcf3 hS0 hS1
   go_wp2_with (go_at_call 32;refine (hsp _).mono ?_;rintro e w4 ⟨rfl,hb4⟩)
   have hb4':Below w3.heap.size (w3.setCell ⟨w2.heap.size,k,none⟩ (.int .i64 (lo+cd % sp))) w4:=hb4.mono (by simp)
   go_roundw
   case rel=>exact ⟨k,by omega,by first | rfl | go_num,by rw [<- HQ.out],(HR4.out _ hb4').1,(HR4.out _ hb4').2⟩
   case measure=>simp [intOf]
  ·have hk0:k=0:=by omega
   subst hk0
   go_wp2
   go_ret2
   exact ⟨w2.heap.size,rfl,HB2.out.size,hbw,hrow.congr (fun i hi=>by rw [if_pos (by omega)])⟩
theorem zLn (va vr:Value) (m:Mo) (code:Int) (w:World) (hB:0 < w.heap.size) (hT:zAJ w) (hV:zAa w va vr m) (h:mcode m≠0) :
  Calls Tryz.prog 43 #[.agg #[va,vr],.int .i64 code] w fun e w'=>e=.returned (.tuple #[.slice none 0 0,.int .i64 (mcode m)])/\Below w.heap.size w w':=by
 have hA:∀ o,Below w.heap.size w (w.alloc o):=fun o=>(Below.refl _ _).alloc (Nat.le_refl _) o
 have hch:=fun o=>zBU va vr m (w.alloc o) (Nat.lt_of_lt_of_le hB (hA o).size) (hT.below (hA o) hB) (hV.below (hA o))
 obtain ⟨ao,cap,rfl⟩:=hV.1.shape;obtain ⟨ro,rc,rfl⟩:=hV.2.shape;generalize mcode m=x at *;generalize m.vars.length=n at *;generalize m.rules.length=rn at *;clear hV hT
 go_enter Tryz.func43,Tryz.ntmps43
 go_wp2_with (go_at_call 16;refine (hch _).mono ?_;rintro e w1 ⟨rfl,hb1⟩)
 go_ret2
 exact ⟨rfl,(hA _).trans (hb1.mono (hA _).size)⟩
theorem zNj (va vr:Value) (m:Mo) (code:Int) (w:World) (hB:0 < w.heap.size) (hT:zAJ w) (hV:zAa w va vr m) (h:mcode m=0) (hc:¬ (0 <= code/\code < zAC m.vars m.vars.length)) :
  Calls Tryz.prog 43 #[.agg #[va,vr],.int .i64 code] w fun e w'=>e=.returned (.tuple #[.slice none 0 0,.int .i64 9])/\Below w.heap.size w w':=by
 have hA:∀ o,Below w.heap.size w (w.alloc o):=fun o=>(Below.refl _ _).alloc (Nat.le_refl _) o
 have hch:=fun o=>zBU va vr m (w.alloc o) (Nat.lt_of_lt_of_le hB (hA o).size) (hT.below (hA o) hB) (hV.below (hA o))
 rw [h] at hch;have hok:=zAt h;have hcf:=(fun w1 (hb:Below w.heap.size w w1)=>zG3 va m.vars w1 hok (hV.1.below hb))
 obtain ⟨ao,cap,rfl⟩:=hV.1.shape;obtain ⟨ro,rc,rfl⟩:=hV.2.shape;have hN:=hok.prod (j:=m.vars.length) (Nat.le_refl _);generalize zAC m.vars m.vars.length=N at *;generalize m.vars.length=n at *;generalize m.rules.length=rn at *;clear hV hT hok h
 by_cases h0:code < 0
 ·clear hc
  go_enter Tryz.func43,Tryz.ntmps43
  go_wp2_with (go_at_call 16;refine (hch _).mono ?_;rintro e w1 ⟨rfl,hb1⟩)
  go_ret2
  exact ⟨rfl,(hA _).trans (hb1.mono (hA _).size)⟩
 ·have h1:N <= code:=by omega
  clear hc
  go_enter Tryz.func43,Tryz.ntmps43
  go_wp2_with (first | (go_at_call 16;refine (hch _).mono ?_;rintro e w1 ⟨rfl,hb1⟩;have hcb:w1.cell? ⟨w.heap.size,0,none⟩=some (.slice ao n cap):=(hb1.cell (p:=⟨w.heap.size,0,none⟩) (by simp)).trans (by simp [go_sem]);have hbw:=(hA _).trans (hb1.mono (hA _).size)) | (go_at_call 68;refine (hcf _ hbw).mono ?_;rintro e w2 ⟨rfl,hb2⟩))
  go_ret2
  exact ⟨rfl,hbw.trans (hb2.mono hbw.size)⟩
theorem zHG (va vr:Value) (m:Mo) (code:Int) (w:World) (hB:0 < w.heap.size) (hT:zAJ w) (hV:zAa w va vr m) :
  Calls Tryz.prog 43 #[.agg #[va,vr],.int .i64 code] w fun e w'=>∃ v,e=.returned (.tuple #[v,.int .i64 (zAr m code)])/\Below w.heap.size w w'/\zAD w' v (zGs m code):=by
 by_cases h:mcode m=0
 ·by_cases hc:0 <= code/\code < zAC m.vars m.vars.length
  ·have h0:=zBk h hc
   unfold zGs;rw [h0,if_pos rfl];exact (zGW va vr m code w hB hT hV h hc).mono fun e w' ⟨B,he,_,hb,hr⟩=>⟨_,he,hb,zDn hr⟩
  ·have h0:=zKl h hc
   unfold zGs;rw [h0,if_neg (by decide)]
   exact (zNj va vr m code w hB hT hV h hc).mono fun e w' ⟨he,hb⟩=>⟨_,he,hb,none,0,rfl,fun h=>absurd rfl h⟩
 ·have h0:=zO7 (code:=code) h
  unfold zGs;rw [h0,if_neg h];exact (zLn va vr m code w hB hT hV h).mono fun e w' ⟨he,hb⟩=>⟨_,he,hb,none,0,rfl,fun h=>absurd rfl h⟩
theorem zF5 (l:List Vr):(zA7 l).length=l.length:=by simp [zA7]
theorem zNc {l:List Vr} {i:Nat} (h:i < l.length):(zA7 l).getD i 0=(l.getD i vr0).ini:=by
 simp [zA7,List.getD_eq_getElem?_getD,h]
theorem zLQ (va vr:Value) (m:Mo) (w:World) (hB:0 < w.heap.size) (hT:zAJ w) (hV:zAa w va vr m) (h:mcode m=0) :
  Calls Tryz.prog 6 #[.agg #[va,vr]] w fun e w'=>e=.returned (.tuple #[.int .i64 (zBF m.vars (zA7 m.vars) m.vars.length),.int .i64 0])/\Below w.heap.size w w':=by
 have hA:∀ o,Below w.heap.size w (w.alloc o):=fun o=>(Below.refl _ _).alloc (Nat.le_refl _) o
 have hch:=fun o=>zBU va vr m (w.alloc o) (Nat.lt_of_lt_of_le hB (hA o).size) (hT.below (hA o) hB) (hV.below (hA o))
 rw [h] at hch;have hok:=zAt h;have h6:=hok.1;have hcf:=(fun vv w1 (hb:Below w.heap.size w w1) (hI:zAD w1 vv (zA7 m.vars))=>zII va vv m.vars (zA7 m.vars) w1 hok (zF5 _) (zHV hok) (hV.1.below hb) hI)
 obtain ⟨ao,cap,rfl⟩:=hV.1.shape;obtain ⟨ro,rc,rfl⟩:=hV.2.shape;have HCF:=(show Hid _ from hcf)
 have HV:Hid (zCI w (.slice ao m.vars.length cap) m.vars):=hV.1;have HIn:Hid (∀ i,i < m.vars.length->(zA7 m.vars).getD i 0=(m.vars.getD i vr0).ini):=fun i hi=>zNc hi
 have HLn:Hid ((zA7 m.vars).length=m.vars.length):=zF5 _;generalize zBF m.vars (zA7 m.vars) m.vars.length=res at *;obtain ⟨n,hn⟩:∃ n,n=m.vars.length:=⟨_,rfl⟩
 have HN:Hid (n=m.vars.length):=hn;rw [<- hn] at h6 hch HCF HV HIn HLn ⊢;generalize m.rules.length=rn at *;have hmk:=run_make_row' (P:=Tryz.prog) 37 3 (.int .i64 0) 8 Tryz.underlying37 zA8 rfl .i64 .i64 n (by omega) (by omega)
 clear hV hT hn hok h hcf
 go_enter Tryz.func6,Tryz.ntmps6
 go_wp2_with (go_at_call 16;refine (hch _).mono ?_;rintro e w1 ⟨rfl,hb1⟩;have hcb:w1.cell? ⟨w.heap.size,0,none⟩=some (.slice ao n cap):=(hb1.cell (p:=⟨w.heap.size,0,none⟩) (by simp)).trans (by simp [go_sem]);have hs1:w.heap.size < w1.heap.size:=(by have:=hb1.size;simp at this;omega);have hcbA:∀ o,(w1.alloc o).cell? ⟨w.heap.size,0,none⟩=some (.slice ao n cap):=(fun o=>(((Below.refl w1.heap.size w1).alloc (Nat.le_refl _) o).cell (p:=⟨w.heap.size,0,none⟩) hs1).trans hcb))
 have hbw:=(hA _).trans (hb1.mono (hA _).size);have hrow0:=World.rowIs_made w1 (.int .i64 0) n 3;have HB1:Hid (Below w.heap.size w w1):=hbw;clear hch hmk hb1 hbw hcbA
 go_loopw [20] (fun i wr=>∃ k:Nat,k <= n/\i=.int .i64 k/\Hid (wr.rowIs w1.heap.size 3 n (fun j=>if j < k then .int .i64 ((zA7 m.vars).getD j 0) else .int .i64 0))/\Hid (Below w1.heap.size w1 wr)) (fun i _=>n - (intOf i).toNat)
 case atStart=>exact ⟨0,Nat.zero_le _,rfl,hrow0.congr (fun i hi=>by rw [if_neg (by omega)]),(Below.refl _ _).alloc (Nat.le_refl _) _⟩
 case round=>
  obtain ⟨k,hk,rfl,HRow,HBel⟩:=hrel;have hbel:=HBel.out;have hrow:=HRow.out;have hbw:=HB1.out.trans (hbel.mono HB1.out.size);have hszr:=hrow.lt;have cb:=(hbel.cell (p:=⟨w.heap.size,0,none⟩) hs1).trans hcb
  by_cases hlt:k < n
  ·obtain ⟨b,off,rfl,hblt,hat⟩:=HV.out.at (i:=k) (by rw [<- HN.out];exact hlt)
   obtain ⟨c0,c1,c2,c3⟩:=hat.below hbw hblt;have HIk:=(show Hid _ from HIn.out k hlt)
   have hA2:=fun o=>hrow.alloc o
   have hf:∀ o,(wr.alloc o).frozen? ⟨w1.heap.size,k,none⟩=false:=fun o=>(hA2 o).frozen k
   have hcl:∀ o,(wr.alloc o).cell? ⟨w1.heap.size,k,none⟩=some (.int .i64 0):=fun o=>by rw [(hA2 o).cell hlt,if_neg (by omega)]
   generalize m.vars.getD k vr0=x at *;obtain ⟨s,lo,hi,ini⟩:=x;simp only at c0 c1 c2 c3 HIk
   have hfin:(((wr.setCell ⟨w1.heap.size,k,none⟩ (.int .i64 ini)).alloc (.cells #[.string s,.int .i64 lo,.int .i64 hi,.int .i64 ini] 59)).rowIs w1.heap.size 3 n (fun j=>if j < k+1 then .int .i64 ((zA7 m.vars).getD j 0) else .int .i64 0)):=((hrow.set k (.int .i64 ini)).alloc _).congr fun j hj=>by
    by_cases hjk:j=k
    ·subst hjk;rw [if_pos rfl,if_pos (by omega),HIk.out]
    ·rw [if_neg hjk]
     by_cases hlk:j < k
     ·rw [if_pos hlk,if_pos (by omega)]
     ·rw [if_neg hlk,if_neg (by omega)]
   have hbA:=(hbel.setCell (p:=⟨w1.heap.size,k,none⟩) (Nat.le_refl _) (.int .i64 ini)).alloc (by simp;omega) (.cells #[.string s,.int .i64 lo,.int .i64 hi,.int .i64 ini] 59)
   have HF:=(show Hid _ from hfin)
   have HBA:=(show Hid _ from hbA)
   have hfs:=hf (.cells #[.string s,.int .i64 lo,.int .i64 hi,.int .i64 ini] 59);have hcs:=hcl (.cells #[.string s,.int .i64 lo,.int .i64 hi,.int .i64 ini] 59);clear hat hA2 hf hcl hfin hbA hrow hbel hrow0
   go_wp2_with fail
   go_roundw
   case rel=>exact ⟨k+1,hlt,by go_num,HF.out,HBA.out⟩
   case measure=>simp [intOf];omega
  ·have hkn:k=n:=by omega
   subst hkn
   have hI:zAD wr (.slice (some ⟨w1.heap.size,0,none⟩) k k) (zA7 m.vars):=by
    have:=zDn (hrow.congr (g:=fun j=>.int .i64 ((zA7 m.vars).getD j 0)) (fun i hi=>by rw [if_pos hi]))
    have e:(List.range k).map (fun j=>(zA7 m.vars).getD j 0)=zA7 m.vars:=by
     apply List.ext_getElem?
     intro i
     by_cases hi:i < k
     ·simp [hi,List.getD_eq_getElem?_getD,show i < (zA7 m.vars).length by rw [HLn.out];exact hi]
     ·simp [hi,show ¬ i < (zA7 m.vars).length by rw [HLn.out];exact hi]
    rwa [e] at this
   have hcf:=HCF.out _ wr hbw hI;clear hI hrow HCF HRow hrow0
   go_wp2_with (go_at_call 17;refine hcf.mono ?_;rintro e w2 ⟨rfl,hb2⟩)
   go_ret2
   exact ⟨rfl,hbw.trans (hb2.mono hbw.size)⟩
theorem zNV (va vr:Value) (m:Mo) (w:World) (hB:0 < w.heap.size) (hT:zAJ w) (hV:zAa w va vr m) (h:mcode m≠0) :
  Calls Tryz.prog 6 #[.agg #[va,vr]] w fun e w'=>e=.returned (.tuple #[.int .i64 0,.int .i64 (mcode m)])/\Below w.heap.size w w':=by
 have hA:∀ o,Below w.heap.size w (w.alloc o):=fun o=>(Below.refl _ _).alloc (Nat.le_refl _) o
 have hch:=fun o=>zBU va vr m (w.alloc o) (Nat.lt_of_lt_of_le hB (hA o).size) (hT.below (hA o) hB) (hV.below (hA o))
 obtain ⟨ao,cap,rfl⟩:=hV.1.shape;obtain ⟨ro,rc,rfl⟩:=hV.2.shape;generalize mcode m=x at *;generalize m.vars.length=n at *;generalize m.rules.length=rn at *;clear hV hT
 go_enter Tryz.func6,Tryz.ntmps6
 go_wp2_with (go_at_call 16;refine (hch _).mono ?_;rintro e w1 ⟨rfl,hb1⟩)
 go_ret2
 exact ⟨rfl,(hA _).trans (hb1.mono (hA _).size)⟩
theorem zEN (va vr:Value) (m:Mo) (w:World) (hB:0 < w.heap.size) (hT:zAJ w) (hV:zAa w va vr m) :
  Calls Tryz.prog 6 #[.agg #[va,vr]] w fun e w'=>e=.returned (.tuple #[.int .i64 (if mcode m=0 then zBF m.vars (zA7 m.vars) m.vars.length else 0),.int .i64 (mcode m)])/\Below w.heap.size w w':=by
 by_cases h:mcode m=0
 ·rw [if_pos h,h]
  exact zLQ va vr m w hB hT hV h
 ·rw [if_neg h]
  exact zNV va vr m w hB hT hV h
structure GV (a b:Vr):Prop where
 na:a.name=bX
 nb:b.name=bY
 a0:-1 <= a.lo
 a1:a.lo <= 1
 a2:a.lo <= a.hi
 a3:a.hi <= a.lo+3
 a4:a.lo <= a.ini
 a5:a.ini <= a.hi
 b0:-1 <= b.lo
 b1:b.lo <= 1
 b2:b.lo <= b.hi
 b3:b.hi <= b.lo+3
 b4:b.lo <= b.ini
 b5:b.ini <= b.hi
theorem zQz (sp0 sp1 lw0 lw1 iv0 iv1:Int):∃ a b,zG2 sp0 sp1 lw0 lw1 iv0 iv1=[a,b]/\GV a b:=by
 obtain ⟨p0,p1,p2,p3,p4,p5⟩:=zHJ bX sp0 lw0 iv0;obtain ⟨q0,q1,q2,q3,q4,q5⟩:=zHJ bY sp1 lw1 iv1;exact ⟨_,_,rfl,⟨rfl,rfl,p0,p1,p2,p3,p4,p5,q0,q1,q2,q3,q4,q5⟩⟩
theorem GV.sa {a b:Vr} (h:GV a b):1 <= zAH a/\zAH a <= 4:=by
 have:=h.a2;have:=h.a3
 unfold zAH;omega
theorem GV.sb {a b:Vr} (h:GV a b):1 <= zAH b/\zAH b <= 4:=by
 have:=h.b2;have:=h.b3
 unfold zAH;omega
theorem GV.prod {a b:Vr} (h:GV a b):1 <= zAH a*zAH b/\zAH a*zAH b <= 16:=by
 have h1:=h.sa;have h2:=h.sb
 have h3:=Int.mul_le_mul h1.1 h2.1 (by omega) (by omega)
 have h4:=Int.mul_le_mul h1.2 h2.2 (by omega) (by omega)
 omega
theorem zTM {a b:Vr} (h:GV a b) (l:List Vr):zBy (a:: b:: l) 1 b.name=false:=by
 show (decide (a.name=b.name)||false)=false
 rw [h.na,h.nb];simp [bXY]
theorem GV.vAt {a b:Vr} (h:GV a b) (l:List Vr):vAt (a:: b:: l) 0=0/\vAt (a:: b:: l) 1=0:=by
 have h1:=h.sa;have h2:=h.sb
 obtain ⟨na,nb,p0,p1,p2,p3,p4,p5,q0,q1,q2,q3,q4,q5⟩:=h;have v0:zBx a=true:=by simp only [zBx,decide_eq_true_eq];omega
 have v1:zBx b=true:=by simp only [zBx,decide_eq_true_eq];omega
 refine ⟨(zKb (l:=a:: b:: l) (k:=0) rfl rfl).2.2.2.2 (by rw [show ((a:: b:: l).getD 0 vr0).name=bX from na];exact zR6) rfl v0 ?_,(zKb (l:=a:: b:: l) (k:=1) rfl rfl).2.2.2.2 (by rw [show ((a:: b:: l).getD 1 vr0).name=bY from nb];exact zSH) (zTM ⟨na,nb,p0,p1,p2,p3,p4,p5,q0,q1,q2,q3,q4,q5⟩ l) v1 ?_⟩
 ·show ¬ (64 < zAH a\/4096 < 1*zAH a)
  omega
 ·show ¬ (64 < zAH b\/4096 < (1*zAH a)*zAH b)
  rw [Int.one_mul];have:=Int.mul_le_mul h1.2 h2.2 (by omega) (by omega)
  omega
theorem GV.vcode {a b:Vr} (h:GV a b):vcode [a,b]=0:=by
 unfold Go.Proofs.YtiimhhjkgeepjaaGreatDoor.vcode;rw [if_neg (by simp)]
 refine zBQ fun j hj=>?_
 have hj2:j=0\/j=1:=by simp at hj;omega
 rcases hj2 with rfl | rfl
 ·exact (h.vAt []).1
 ·exact (h.vAt []).2
theorem GV.mcode {a b:Vr} (h:GV a b) {rules:List Ru} (h5:rules.length <= 12) (hr:∀ j,j < rules.length->zBD 2 (rules.getD j ru0)=0):mcode ⟨[a,b],rules⟩=0:=by
 unfold Go.Proofs.YtiimhhjkgeepjaaGreatDoor.mcode;rw [if_pos h.vcode,if_neg (show ¬ 12 < rules.length by omega)]
 exact zBQ hr
theorem zKs (a b:Vr):zAC [a,b] 2=zAH a*zAH b:=by
 show (1*zAH a)*zAH b=_
 rw [Int.one_mul]
section
variable {a b : Vr} {va vr : Value} {w : World}
theorem zK3.shape {w:World} {va vr:Value} {x y:Vr} (h:zK3 w va vr [x,y]):∃ ao cap ro rn rc,va=.slice ao 2 cap/\vr=.slice ro rn rc/\rn <= 5:=by
 obtain ⟨rules,h1,h2,h3⟩:=h;obtain ⟨ao,cap,e1⟩:=h1.1.shape;obtain ⟨ro,rc,e2⟩:=h1.2.shape;exact ⟨ao,cap,ro,_,rc,e1,e2,h2⟩
end
theorem zD8.below {w w':World} {v:Value} {l:List Pl} (h:zD8 w v l) (hb:Below w.heap.size w w'):zD8 w' v l:=SlV.imp h hb.size fun b _ _ hlt _ ⟨⟨u,h1,h2⟩,h3,h4,⟨u',h5,h6⟩,h7⟩=>
 ⟨⟨u,(hb.cell (p:=⟨b,_,none⟩) hlt).trans h1,h2.mv hb⟩,(hb.cell (p:=⟨b,_,none⟩) hlt).trans h3,h4,⟨u',(hb.cell (p:=⟨b,_,none⟩) hlt).trans h5,h6.mv hb⟩,(hb.cell (p:=⟨b,_,none⟩) hlt).trans h7⟩
theorem zBP.shape {w:World} {v:Value} {ts:List (List (Int × Int))} (h:zBP w v ts):∃ ao cap,v=.slice ao ts.length cap:=by
 obtain ⟨ao,cap,h1,_⟩:=h;exact ⟨ao,cap,h1⟩
theorem zBP.at {w:World} {ao:Option Addr} {cap n:Nat} {ts:List (List (Int × Int))} (h:zBP w (.slice ao n cap) ts) {i:Nat} (hi:i < ts.length):∃ b off,ao=some ⟨b,off,none⟩/\b < w.heap.size/\∃ u,w.cell? ⟨b,off+i,none⟩=some u/\zAR w u (ts.getD i []):=by
 obtain ⟨ao',cap',h1,h3⟩:=h
 injection h1 with e1 e2 e3
 subst e1;obtain ⟨b,off,e,hb,hh⟩:=h3 (by intro h;subst h;simp at hi)
 exact ⟨b,off,e,hb,hh i hi⟩
theorem zLM (va vr pv:Value) (m:Mo) (ps:List (List (Int × Int))) (w:World) (hB:0 < w.heap.size) (hT:zAJ w) (hV:zAa w va vr m) (hP:zBP w pv ps) (h:mcode m=0) (hl6:ps.length <= 6) :
  Calls Tryz.prog 36 #[.agg #[va,vr],pv] w fun e w'=>e=.returned (.int .i64 (zAf (fun i=>kcode m.vars.length (ps.getD i []) true) ps.length))/\Below w.heap.size w w':=by
 have hA:∀ o,Below w.heap.size w (w.alloc o):=fun o=>(Below.refl _ _).alloc (Nat.le_refl _) o
 have hch:=fun o=>zBU va vr m (w.alloc o) (Nat.lt_of_lt_of_le hB (hA o).size) (hT.below (hA o) hB) (hV.below (hA o))
 rw [h] at hch;have h6:=(zAt h).1;obtain ⟨ao,cap,rfl⟩:=hV.1.shape;obtain ⟨ro,rc,rfl⟩:=hV.2.shape;obtain ⟨po,pc,rfl⟩:=hP.shape;have HP:Hid (zBP w (.slice po ps.length pc) ps):=hP;have HT:Hid (zAJ w):=hT;obtain ⟨n,hn⟩:∃ n,n=ps.length:=⟨_,rfl⟩
 have HN:Hid (n=ps.length):=hn;rw [<- hn] at hl6 HP ⊢;generalize m.vars.length=vn at *;generalize m.rules.length=rn at *;clear hV hT hP hn h;obtain ⟨f,hf⟩:∃ f:Nat->Int,f=fun i=>kcode vn (ps.getD i []) true:=⟨_,rfl⟩
 rw [<- hf];have HF:Hid (f=fun i=>kcode vn (ps.getD i []) true):=hf
 clear hf
 go_enter Tryz.func36,Tryz.ntmps36
 go_wp2_with (go_at_call 16;refine (hch _).mono ?_;rintro e w1 ⟨rfl,hb1⟩)
 have hb1':Below (w.heap.size+1) (w.alloc (.cells #[.slice ao vn cap,.slice ro rn rc] 32)) w1:=hb1.mono (by simp)
 clear hch hb1
 go_loopw [19] (fun i wr=>∃ k:Nat,k <= n/\i=.int .i64 k/\Hid (∀ j,j < k->f j=0)/\Below (w.heap.size+1) (w.alloc (.cells #[.slice ao vn cap,.slice ro rn rc] 32)) wr) (fun i _=>n - (intOf i).toNat)
 case atStart=>exact ⟨0,Nat.zero_le _,rfl,fun j hj=>by omega,hb1'⟩
 case round=>
  obtain ⟨k,hk,rfl,HJ,hbel⟩:=hrel;clear hb1';have hbw:=(hA _).trans (hbel.mono (Nat.le_succ _));have hszb:w.heap.size+1 <= wr.heap.size:=by have:=hbel.size;simp at this;omega
  have cb:=(hbel.cell (p:=⟨w.heap.size,0,none⟩) (by simp)).trans (show _=some (.slice ao vn cap) by simp [go_sem])
  by_cases hlt:k < n
  ·obtain ⟨b,off,rfl,hblt,u,c0',hO⟩:=HP.out.at (i:=k) (by rw [<- HN.out];exact hlt)
   have HFk:Hid (f k=kcode vn (ps.getD k []) true):=by show _=_;rw [HF.out]
   have HHit:Hid (∀ c,f k=c->c≠0->zAf f n=c):=fun c h1 h2=>by rw [zD0 hlt HJ.out (by rw [h1];exact h2),h1]
   have HStep:Hid (f k=0->∀ j,j < k+1->f j=0):=fun h0 j hj=>by
    by_cases hjk:j=k
    ·subst hjk;exact h0
    ·exact HJ.out j (by omega)
   generalize ps.getD k []=p at *;obtain ⟨ua,uc,rfl⟩:=hO.shape;have c0:=(hbw.cell (p:=⟨b,off+k,none⟩) hblt).trans c0';have hcm:=zC9 _ p vn true wr (Nat.lt_of_lt_of_le hB hbw.size) (HT.out.below hbw hB) (hO.below hbw);generalize p.length=pn at *;obtain ⟨x,hx⟩:∃ x,kcode vn p true=x:=⟨_,rfl⟩
   rw [hx] at hcm HFk;clear HJ c0' hO hx HF
   by_cases hx0:x=0
   ·subst hx0
    have HJ2:=(show Hid _ from HStep.out HFk.out)
    clear HStep HHit HFk
    go_wp2_with (go_at_call 50;refine hcm.mono ?_;rintro e w3 ⟨rfl,hb3⟩)
    go_roundw
    case rel=>exact ⟨k+1,hlt,by go_num,HJ2,hbel.trans (hb3.mono hszb)⟩
    case measure=>simp [intOf];omega
   ·have HR:Hid (zAf f n=x):=HHit.out x HFk.out hx0
    clear HStep HHit HFk
    go_wp2_with (go_at_call 50;refine hcm.mono ?_;rintro e w3 ⟨rfl,hb3⟩)
    go_ret
    rw [HR.out];exact ⟨rfl,hbw.trans (hb3.mono hbw.size)⟩
  ·have hkn:k=n:=by omega
   have HR:Hid (zAf f n=0):=zBQ (fun j hj=>HJ.out j (by omega))
   go_wp2
   go_ret
   rw [HR.out];exact ⟨rfl,hbw⟩
theorem zHu (va vr pv:Value) (m:Mo) (ps:List (List (Int × Int))) (w:World) (hB:0 < w.heap.size) (hT:zAJ w) (hV:zAa w va vr m) (hP:zBP w pv ps) :
  Calls Tryz.prog 36 #[.agg #[va,vr],pv] w fun e w'=>e=.returned (.int .i64 (zCQ m ps))/\Below w.heap.size w w':=by
 unfold zCQ
 by_cases h:mcode m=0
 ·rw [if_pos h]
  by_cases h6:6 < ps.length
  ·rw [if_pos h6]
   have hA:∀ o,Below w.heap.size w (w.alloc o):=fun o=>(Below.refl _ _).alloc (Nat.le_refl _) o
   have hch:=fun o=>zBU va vr m (w.alloc o) (Nat.lt_of_lt_of_le hB (hA o).size) (hT.below (hA o) hB) (hV.below (hA o))
   rw [h] at hch;obtain ⟨ao,cap,rfl⟩:=hV.1.shape;obtain ⟨ro,rc,rfl⟩:=hV.2.shape;obtain ⟨po,pc,rfl⟩:=hP.shape;generalize m.vars.length=vn at *;generalize m.rules.length=rn at *;generalize ps.length=n at *;clear hV hT hP h
   go_enter Tryz.func36,Tryz.ntmps36
   go_wp2_with (go_at_call 16;refine (hch _).mono ?_;rintro e w1 ⟨rfl,hb1⟩)
   go_ret
   exact ⟨rfl,(hA _).trans (hb1.mono (hA _).size)⟩
  ·rw [if_neg h6]
   exact zLM va vr pv m ps w hB hT hV hP h (by omega)
 ·rw [if_neg h]
  have hA:∀ o,Below w.heap.size w (w.alloc o):=fun o=>(Below.refl _ _).alloc (Nat.le_refl _) o
  have hch:=fun o=>zBU va vr m (w.alloc o) (Nat.lt_of_lt_of_le hB (hA o).size) (hT.below (hA o) hB) (hV.below (hA o))
  obtain ⟨ao,cap,rfl⟩:=hV.1.shape;obtain ⟨ro,rc,rfl⟩:=hV.2.shape;obtain ⟨po,pc,rfl⟩:=hP.shape;generalize mcode m=x at *;generalize m.vars.length=vn at *;generalize m.rules.length=rn at *;generalize ps.length=n at *;clear hV hT hP
  go_enter Tryz.func36,Tryz.ntmps36
  go_wp2_with (go_at_call 16;refine (hch _).mono ?_;rintro e w1 ⟨rfl,hb1⟩)
  go_ret
  exact ⟨rfl,(hA _).trans (hb1.mono (hA _).size)⟩
end Go.Proofs.YtiimhhjkgeepjaaGreatDoor
namespace Go.Proofs.YtiimhhjkgeepjaaGreatDoor
open Go.ChangeShapes Go.WideShapes Go.ChangeAt Go.RowKit Go.Deep
open Terms
set_option maxHeartbeats 6400000
set_option maxRecDepth 20000
def zAP (k:Int):Bool:=decide (14 <= k/\k <= 18)
def zAc (props:Int) (o:Int × Int):Int:=if o.1 < 8 then 13 else if o.2 < 0\/(if o.1=13 then props - 1 else 0) < o.2 then 2 else 0
def zBo (props:Int):List (Int × Int)->Int
 | []=>0
 | o:: r=>if zAc props o≠0 then zAc props o else zBo props r
theorem zPK {props:Int}:∀ {l:List (Int × Int)} {i:Nat},i < l.length->(∀ j,j < i->zAc props (l.getD j (0,0))=0)->zAc props (l.getD i (0,0))≠0->zBo props l=zAc props (l.getD i (0,0)):=by
 intro l
 induction l with
 | nil=>intro i hi;simp at hi
 | cons o r ih=>
  intro i hi hj hne
  cases i with
  | zero=>simp only [List.getD_cons_zero] at hne ⊢;simp [zBo,hne]
  | succ i=>
   have h0:=hj 0 (by omega)
   simp only [List.getD_cons_zero] at h0;simp only [List.getD_cons_succ] at hne ⊢;simp only [zBo,h0,ne_eq,not_true_eq_false,if_false];exact ih (by simpa using hi) (fun j hjj=>by simpa using hj (j+1) (by omega)) hne
theorem zHA {props:Int}:∀ {l:List (Int × Int)},(∀ j,j < l.length->zAc props (l.getD j (0,0))=0)->zBo props l=0:=by
 intro l
 induction l with
 | nil=>intro _;rfl
 | cons o r ih=>
  intro hj;have h0:=hj 0 (by simp)
  simp only [List.getD_cons_zero] at h0;simp only [zBo,h0,ne_eq,not_true_eq_false,if_false];exact ih (fun j hjj=>by simpa using hj (j+1) (by simpa using hjj))
theorem zIO {props:Int}:∀ {l:List (Int × Int)},zBo props l=0->∀ j,j < l.length->zAc props (l.getD j (0,0))=0:=by
 intro l
 induction l with
 | nil=>intro _ j hj;simp at hj
 | cons o r ih=>
  intro h j hj;simp only [zBo] at h
  split at h
  ·rename_i h1;exact absurd h h1
  ·rename_i h1
   cases j with
   | zero=>simpa using h1
   | succ j=>simpa using ih h j (by simpa using hj)
def zAF (l:List (Int × Int)):Nat->List Int
 | 0=>[]
 | n+1=>zAF l n++if zAP (l.getD n (0,0)).1=true then [(n:Int)] else []
theorem zCT {l:List (Int × Int)} {n:Nat} (h:zAP (l.getD n (0,0)).1=true):zAF l (n+1)=zAF l n++[(n:Int)]:=by simp only [zAF];rw [if_pos h]
theorem zID {l:List (Int × Int)} {n:Nat} (h:zAP (l.getD n (0,0)).1=false):zAF l (n+1)=zAF l n:=by simp only [zAF];rw [if_neg (by rw [h];decide)];simp
theorem zIo (l:List (Int × Int)):∀ n,(zAF l n).length <= n:=by
 intro n
 induction n with
 | zero=>simp [zAF]
 | succ n ih=>simp only [zAF,List.length_append];split <;> simp <;> omega
def zAA (l:List (Int × Int)):List Int:=zAF l l.length
def zAV (props:Int) (l:List (Int × Int)):Int:=
 if props < 0\/6 < props then 2 else if zAE (l.map Prod.fst)≠0 then zAE (l.map Prod.fst) else if zBo props l≠0 then zBo props l else if 6 < (zAA l).length then 1 else 0
theorem zE3 {props:Int} {l:List (Int × Int)} (h:props < 0\/6 < props):zAV props l=2:=by unfold zAV;rw [if_pos h]
theorem zFd {props:Int} {l:List (Int × Int)} (h:¬ (props < 0\/6 < props)) (h2:zAE (l.map Prod.fst)≠0):zAV props l=zAE (l.map Prod.fst):=by unfold zAV;rw [if_neg h,if_pos h2]
theorem zJv {props:Int} {l:List (Int × Int)} (h:¬ (props < 0\/6 < props)) (h2:zAE (l.map Prod.fst)=0) (h3:zBo props l≠0):zAV props l=zBo props l:=by unfold zAV;rw [if_neg h,if_neg (by simpa using h2),if_pos h3]
theorem zFV {props:Int} {l:List (Int × Int)} (h:¬ (props < 0\/6 < props)) (h2:zAE (l.map Prod.fst)=0) (h3:zBo props l=0):zAV props l=if 6 < (zAA l).length then 1 else 0:=by unfold zAV;rw [if_neg h,if_neg (by simpa using h2),if_neg (by simpa using h3)]
theorem zAv {props:Int} {l:List (Int × Int)} (h:zAV props l=0):0 <= props/\props <= 6/\zAE (l.map Prod.fst)=0/\zBo props l=0/\(zAA l).length <= 6:=by
 by_cases hr:props < 0\/6 < props
 ·rw [zE3 hr] at h;omega
 ·by_cases hz:zAE (l.map Prod.fst)=0
  ·by_cases hf:zBo props l=0
   ·rw [zFV hr hz hf] at h
    split at h
    ·omega
    ·exact ⟨by omega,by omega,hz,hf,by omega⟩
   ·rw [zJv hr hz hf] at h;exact absurd h hf
  ·rw [zFd hr hz] at h;exact absurd h hz
theorem zCq {ks:List Int} (h:zAE ks=0):ks≠[]/\ks.length <= 60:=by
 obtain ⟨h1,h2⟩:=zEB h;refine ⟨?_,h1⟩
 rintro rfl
 simp [cnt] at h2
theorem zK4 (k:Int) (w:World) :
  Calls Tryz.prog 90 #[.int .i64 k] w fun e w'=>e=.returned (.bool (zAP k))/\w'=w:=by
 by_cases h:14 <= k/\k <= 18
 ·have hk:k=14\/k=15\/k=16\/k=17\/k=18:=by omega
  clear h
  rcases hk with rfl | rfl | rfl | rfl | rfl
  all_goals
   go_enter Tryz.func90,Tryz.ntmps90
   go_wp2
   all_goals go_ret
   all_goals exact ⟨rfl,rfl⟩
 ·have hm:zAP k=false:=by simp [zAP];omega
  rw [hm];have e1:¬ k=14:=by omega
  have e2:¬ k=15:=by omega
  have e3:¬ k=16:=by omega
  have e4:¬ k=17:=by omega
  have e5:¬ k=18:=by omega
  clear hm h
  go_enter Tryz.func90,Tryz.ntmps90
  go_wp2
  all_goals go_ret
  all_goals exact ⟨rfl,rfl⟩
theorem zKe (k v props:Int) (w:World) (h0:0 <= props) (h6:props <= 6) :
  Calls Tryz.prog 89 #[.agg #[.int .i64 k,.int .i64 v],.int .i64 props] w fun e w'=>e=.returned (.int .i64 (zAc props (k,v)))/\Below w.heap.size w w':=by
 by_cases hk:k < 8
 ·have hx:zAc props (k,v)=13:=by simp [zAc,hk]
  rw [hx];clear hx
  go_enter Tryz.func89,Tryz.ntmps89
  go_wp2
  all_goals go_ret
  all_goals exact ⟨rfl,(Below.refl _ _).alloc (Nat.le_refl _) _⟩
 ·by_cases h2:k=13
  ·subst h2
   by_cases hv:0 <= v/\v <= props - 1
   ·have hx:zAc props (13,v)=0:=by simp [zAc];omega
    rw [hx];obtain ⟨ha,hb⟩:=hv;clear hx
    go_enter Tryz.func89,Tryz.ntmps89
    go_wp2
    all_goals go_ret
    all_goals exact ⟨rfl,(Below.refl _ _).alloc (Nat.le_refl _) _⟩
   ·have hx:zAc props (13,v)=2:=by simp [zAc];omega
    rw [hx];have hv':v < 0\/props - 1 < v:=by omega
    clear hx hv
    rcases hv' with hv | hv
    all_goals
     go_enter Tryz.func89,Tryz.ntmps89
     go_wp2
     all_goals go_ret
     all_goals exact ⟨rfl,(Below.refl _ _).alloc (Nat.le_refl _) _⟩
  ·by_cases hv:v=0
   ·subst hv
    have hx:zAc props (k,0)=0:=by simp [zAc,h2];omega
    rw [hx];clear hx
    go_enter Tryz.func89,Tryz.ntmps89
    go_wp2
    all_goals go_ret
    all_goals exact ⟨rfl,(Below.refl _ _).alloc (Nat.le_refl _) _⟩
   ·have hx:zAc props (k,v)=2:=by simp [zAc,h2];omega
    rw [hx];have hv':v < 0\/0 < v:=by omega
    clear hx hv
    rcases hv' with hv | hv
    all_goals
     go_enter Tryz.func89,Tryz.ntmps89
     go_wp2
     all_goals go_ret
     all_goals exact ⟨rfl,(Below.refl _ _).alloc (Nat.le_refl _) _⟩
end Go.Proofs.YtiimhhjkgeepjaaGreatDoor
set_option maxHeartbeats 6400000
set_option maxRecDepth 20000

namespace Go.Proofs.YtiimhhjkgeepjaaGreatDoor
open Go.ChangeShapes Go.WideShapes Go.ChangeAt Go.RowKit Go.Deep
open Terms
set_option maxHeartbeats 6400000
set_option maxRecDepth 20000
def zGN (props:Int) (v:Value) (l:List (Int × Int)) (w:World) (e:Ending) (w':World):Prop:=
 Below w.heap.size w w'/\(zAV props l≠0->e=.returned (.tuple #[.agg #[.slice none 0 0,.slice none 0 0,.slice none 0 0],.int .i64 (zAV props l)]))/\
 (zAV props l=0->∃ B av,w.heap.size <= B/\e=.returned (.tuple #[.agg #[v,.slice (some ⟨B,0,none⟩) l.length l.length,av],.int .i64 0])/\w'.rowIs B 3 l.length (fun q=>.int .i64 (zAi (l.map Prod.fst) q))/\w'.ownsRow w.heap.size 3 1 av (zAA l).length (zAL (zAA l)))
def zB7 (w:World) (b:Nat) (x y z:Value):Prop:=w.cell? ⟨b,0,none⟩=some x/\w.cell? ⟨b,1,none⟩=some y/\w.cell? ⟨b,2,none⟩=some z/\w.frozen? ⟨b,0,none⟩=false/\w.frozen? ⟨b,1,none⟩=false/\w.frozen? ⟨b,2,none⟩=false/\b < w.heap.size
theorem zB7.below {w w':World} {B b:Nat} {x y z:Value} (h:zB7 w b x y z) (hb:Below B w w') (hB:b < B):zB7 w' b x y z:=
 ⟨(hb.cell (p:=⟨b,0,none⟩) hB).trans h.1,(hb.cell (p:=⟨b,1,none⟩) hB).trans h.2.1,(hb.cell (p:=⟨b,2,none⟩) hB).trans h.2.2.1,(hb.frozen (p:=⟨b,0,none⟩) hB).trans h.2.2.2.1,(hb.frozen (p:=⟨b,1,none⟩) hB).trans h.2.2.2.2.1,(hb.frozen (p:=⟨b,2,none⟩) hB).trans h.2.2.2.2.2.1,Nat.lt_of_lt_of_le h.2.2.2.2.2.2 hb.size⟩
theorem zB7.new (w:World) (x y z:Value) (t:TypeId):zB7 (w.alloc (.cells #[x,y,z] t)) w.heap.size x y z:=by
 refine ⟨?_,?_,?_,?_,?_,?_,?_⟩ <;> simp [go_sem]
theorem zB7.read {w:World} {b:Nat} {x y z:Value} (h:zB7 w b x y z) (u0 u1 u2:Value):(w.setCell ⟨b,0,none⟩ u0).cell? ⟨b,0,none⟩=some u0/\((w.setCell ⟨b,0,none⟩ u0).setCell ⟨b,1,none⟩ u1).cell? ⟨b,1,none⟩=some u1/\(((w.setCell ⟨b,0,none⟩ u0).setCell ⟨b,1,none⟩ u1).setCell ⟨b,2,none⟩ u2).cell? ⟨b,2,none⟩=some u2:=by
 obtain ⟨k0,k1,k2,_⟩:=h;refine ⟨World.cell?_setCell_same' _ _ _ (by rw [k0];rfl),World.cell?_setCell_same' _ _ _ ?_,World.cell?_setCell_same' _ _ _ ?_⟩
 ·simp [go_sem,k1]
 ·simp [go_sem,k2]
theorem zMy (ao:Option Addr) (n cap:Nat) (props:Int) (w:World) (h:props < 0\/6 < props) :
  Calls Tryz.prog 63 #[.slice ao n cap,.int .i64 props] w fun e w'=>e=.returned (.tuple #[.agg #[.slice none 0 0,.slice none 0 0,.slice none 0 0],.int .i64 2])/\Below w.heap.size w w':=by
 rcases h with h | h
 all_goals
  go_enter Tryz.func63,Tryz.ntmps63
  go_wp2_with fail
  exact bodyPost_ret (v:=.tuple #[.agg #[.slice none 0 0,.slice none 0 0,.slice none 0 0],.int .i64 2]) (by simp [results,Tryz.results63,go_sem]) rfl ⟨rfl,by exact (Below.refl _ _).alloc (Nat.le_refl _) _⟩
theorem zOW (v:Value) (ks:List Int) (props:Int) (w:World) (h0:0 <= props) (h6:props <= 6) (hB:0 < w.heap.size) (hT:zAJ w) (hK:zD5 w v ks) (hz:zAE ks≠0) :
  Calls Tryz.prog 63 #[v,.int .i64 props] w fun e w'=>e=.returned (.tuple #[.agg #[.slice none 0 0,.slice none 0 0,.slice none 0 0],.int .i64 (zAE ks)])/\Below w.heap.size w w':=by
 have hA:∀ o,Below w.heap.size w (w.alloc o):=fun o=>(Below.refl _ _).alloc (Nat.le_refl _) o
 have hKA:∀ o,zD5 (w.alloc o) v ks:=fun o=>hK.below (hA o)
 have hends:∀ o,Calls Tryz.prog 88 #[v] (w.alloc o) fun e w'=>e=.returned (.tuple #[.slice none 0 0,.int .i64 (zAE ks)])/\Below (w.alloc o).heap.size (w.alloc o) w':=fun o=>(zEe v ks (w.alloc o) (by simp) (hT.below (hA o) hB) (hKA o)).mono fun e w' ⟨h1,h2,_⟩=>⟨h2 hz,h1⟩
 generalize zAE ks=x at *;obtain ⟨ao,cap,rfl,_⟩:=hK;clear hT hKA
 go_enter Tryz.func63,Tryz.ntmps63
 go_wp2_with (go_at_call 88;refine (hends _).mono ?_;rintro e w1 ⟨rfl,hb1⟩;have h3:=(zB7.new w (.slice none 0 0) (.slice none 0 0) (.slice none 0 0) 141).below hb1 (by simp);obtain ⟨k0,k1,k2,f0,f1,f2,_⟩:=id h3)
 refine bodyPost_ret (v:=.tuple #[.agg #[.slice none 0 0,.slice none 0 0,.slice none 0 0],.int .i64 x]) ?_ rfl ⟨rfl,?_⟩
 ·obtain ⟨q0,q1,q2⟩:=h3.read (.slice none 0 0) (.slice none 0 0) (.slice none 0 0)
  simp [results,Tryz.results63,go_sem,q0,q1,q2]
 ·have hbw:=(hA _).trans (hb1.mono (hA _).size)
  exact ((hbw.setCell (Nat.le_refl _) _).setCell (Nat.le_refl _) _).setCell (Nat.le_refl _) _
theorem zB7.set2 {w:World} {b:Nat} {x y z:Value} (h:zB7 w b x y z) (u:Value):zB7 (w.setCell ⟨b,2,none⟩ u) b x y u:=by
 obtain ⟨k0,k1,k2,f0,f1,f2,hl⟩:=h;refine ⟨?_,?_,World.cell?_setCell_same' _ _ _ (by rw [k2];rfl),?_,?_,?_,by simpa using hl⟩
 ·simp [go_sem,k0]
 ·simp [go_sem,k1]
 ·rw [World.frozen?_setCell];exact f0
 ·rw [World.frozen?_setCell];exact f1
 ·rw [World.frozen?_setCell];exact f2
theorem zFx {w:World} {base:Nat} {e:TypeId} {s n:Nat} {v:Value} {xs:List Value} (h:w.ownsRow base e s v n xs) {p:Addr} (hp:p.block < base) (u:Value):(w.setCell p u).ownsRow base e s v n xs:=by
 obtain ⟨h1,h2⟩:=h;refine ⟨h1,?_⟩
 rcases h2 with h2 | ⟨g,cap,cur,hv,hg,hh,r⟩
 ·exact .inl h2
 ·exact .inr ⟨g,cap,cur,hv,hg,(Below.heap_setCell w p u g (by omega)).trans hh,r⟩
theorem zNN {w:World} {base:Nat} {e:TypeId} {s n:Nat} {v:Value} {xs:List Value} (h:w.ownsRow base e s v n xs):∀ z,v.ownBlock=some z->base <= z:=by
 intro z hz
 rcases h.2 with ⟨rfl,_⟩ | ⟨g,cap,cur,rfl,hb,_⟩
 ·simp [Value.ownBlock] at hz
 ·simp [Value.ownBlock] at hz;omega
theorem zOI {w:World} {base:Nat} {e:TypeId} {s k:Nat} {v:Value} {xs:List Value} (h:w.ownsRow base e s v (k+1) xs):∃ g cap,v=.slice (some ⟨g,0,none⟩) (k+1) cap:=by
 rcases h.2 with ⟨_,h0⟩ | ⟨g,cap,_,rfl,_⟩
 ·omega
 ·exact ⟨g,cap,rfl⟩
def zIj (l:List (Int × Int)) (w1:World) (v ev:Value) (k:Nat) (wr:World):Prop:=Below w1.heap.size w1 wr/\∃ av,zB7 wr w1.heap.size v ev av/\wr.ownsRow (w1.heap.size+1) 3 1 av (zAF l k).length (zAL (zAF l k))
theorem zIj.later {l:List (Int × Int)} {w1:World} {v ev:Value} {k:Nat} {wr w':World} (h:zIj l w1 v ev k wr) (hb:Below wr.heap.size wr w'):zIj l w1 v ev k w':=by
 obtain ⟨h1,av,h3,ho⟩:=h;exact ⟨h1.trans (hb.mono h1.size),av,h3.below hb h3.2.2.2.2.2.2,zAW ho hb (Nat.le_refl _)⟩
theorem zOZ (b off cap:Nat) (l:List (Int × Int)) (props:Int) (w:World) (h0:0 <= props) (h6:props <= 6) (hB:0 < w.heap.size) (hT:zAJ w) (hbl:b < w.heap.size) (hat:zA4 w b off l) (hcap:l.length <= cap) (hz:zAE (l.map Prod.fst)=0) :
  Calls Tryz.prog 63 #[.slice (some ⟨b,off,none⟩) l.length cap,.int .i64 props] w (zGN props (.slice (some ⟨b,off,none⟩) l.length cap) l w):=by
 obtain ⟨hne,h60⟩:=zCq hz;rw [List.length_map] at h60;have hr:¬ (props < 0\/6 < props):=by omega
 have hA:∀ o,Below w.heap.size w (w.alloc o):=fun o=>(Below.refl _ _).alloc (Nat.le_refl _) o
 have hK:zD5 w (.slice (some ⟨b,off,none⟩) l.length cap) (l.map Prod.fst):=(show zAR w _ l from ⟨_,cap,rfl,⟨hcap,fun h=>by simp at h⟩,fun _=>⟨b,off,rfl,hbl,hat⟩⟩).kinds
 have hends:∀ o,Calls Tryz.prog 88 #[.slice (some ⟨b,off,none⟩) l.length cap] (w.alloc o) fun e w'=>Below (w.alloc o).heap.size (w.alloc o) w'/\∃ B,(w.alloc o).heap.size <= B/\e=.returned (.tuple #[.slice (some ⟨B,0,none⟩) l.length l.length,.int .i64 0])/\w'.rowIs B 3 l.length (fun q=>.int .i64 (zAi (l.map Prod.fst) q)):=fun o=>
  (zEe _ _ (w.alloc o) (by simp) (hT.below (hA o) hB) (hK.below (hA o))).mono fun e w' ⟨h1,_,h3⟩=>⟨h1,by have:=h3 hz;rwa [List.length_map] at this⟩
 have HO:Hid (∀ i,i < l.length->(∀ j,j < i->zAc props (l.getD j (0,0))=0)->zAc props (l.getD i (0,0))≠0->zAV props l=zAc props (l.getD i (0,0))):=fun i hi hj hne=>by
  have hx:=zPK hi hj hne;rw [zJv hr hz (by rw [hx];exact hne),hx]
 have HE:Hid ((∀ j,j < l.length->zAc props (l.getD j (0,0))=0)->zAV props l=if 6 < (zAF l l.length).length then 1 else 0):=fun hj=>zFV hr hz (zHA hj)
 have HA:Hid (zA4 w b off l):=hat;have HLd:Hid (zAA l=zAF l l.length):=rfl;unfold zGN;obtain ⟨n,hn⟩:∃ n,n=l.length:=⟨_,rfl⟩
 have HN:Hid (n=l.length):=hn;rw [<- hn] at h60 HO HE hends HLd hcap ⊢;obtain ⟨i0,hi,hz0,hz1,hz2⟩:=info_parts zA8;clear hat hne hz hr hn hK hT
 go_enter Tryz.func63,Tryz.ntmps63
 go_wp2_with (go_at_call 88;refine (hends _).mono ?_;rintro e w1 ⟨hb1,B,hBl,rfl,hrow⟩;have h3:=(zB7.new w (.slice none 0 0) (.slice none 0 0) (.slice none 0 0) 141).below hb1 (by simp))
 have hbw1:=(hA _).trans (hb1.mono (hA _).size);have hs1:w.heap.size < w1.heap.size:=h3.2.2.2.2.2.2
 have HS0:Hid (zIj l w1 (.slice (some ⟨b,off,none⟩) n cap) (.slice (some ⟨B,0,none⟩) n n) 0 (w1.alloc (.cells #[.slice (some ⟨b,off,none⟩) n cap,.slice (some ⟨B,0,none⟩) n n,.slice none 0 0] 141))):=⟨(Below.refl _ _).alloc (Nat.le_refl _) _,_,zB7.new _ _ _ _ _,World.ownsRow_nil _ _ _ _⟩;have HRow:Hid (w1.rowIs B 3 n (fun q=>.int .i64 (zAi (l.map Prod.fst) q))):=hrow
 have HT3:Hid (zB7 w1 w.heap.size (.slice none 0 0) (.slice none 0 0) (.slice none 0 0)):=h3;have hBw:w.heap.size < B:=by have:=hBl;simp at this;omega
 clear hends hb1 hrow h3 hBl
 go_loopw [33] (fun i wr=>∃ k:Nat,k <= n/\i=.int .i64 k/\Hid (zIj l w1 (.slice (some ⟨b,off,none⟩) n cap) (.slice (some ⟨B,0,none⟩) n n) k wr)/\Hid (∀ j,j < k->zAc props (l.getD j (0,0))=0)) (fun i _=>n - (intOf i).toNat)
 case atStart=>exact ⟨0,Nat.zero_le _,rfl,HS0.out,fun j hj=>by omega⟩
 case round=>
  obtain ⟨k,hk,rfl,HSt,HJ⟩:=hrel;obtain ⟨hbel,av,h3r,hown⟩:=HSt.out;have hbw:=hbw1.trans (hbel.mono hbw1.size);have hlen:=zIo l k;have hsr:=hbel.size;obtain ⟨aao,aac,rfl⟩:=zAU hown
  by_cases hlt:k < n
  ·obtain ⟨c0,c1⟩:=(HA.out.below hbw hbl) k (by rw [<- HN.out];exact hlt)
   have HOi:=(show Hid _ from HO.out k hlt HJ.out)
   have HJ2:Hid (zAc props (l.getD k (0,0))=0->∀ j,j < k+1->zAc props (l.getD j (0,0))=0):=fun h j hj=>by
    by_cases hji:j < k
    ·exact HJ.out j hji
    ·obtain rfl:j=k:=by omega
     exact h
   have HY:Hid (zAP (l.getD k (0,0)).1=true->zAF l (k+1)=zAF l k++[(k:Int)]):=zCT;have HNo:Hid (zAP (l.getD k (0,0)).1=false->zAF l (k+1)=zAF l k):=zID;generalize l.getD k (0,0)=xy at c0 c1 HOi HJ2 HY HNo;obtain ⟨x,y⟩:=xy;simp only at c0 c1 HY HNo
   have hco:=fun w=>zKe x y props w h0 h6
   have hlk:=fun w=>zK4 x w
   have hAr:∀ o,Below wr.heap.size wr (wr.alloc o):=fun o=>(Below.refl _ _).alloc (Nat.le_refl _) o
   have HW2:Hid (∀ w2,Below (wr.alloc (.cells #[.int .i64 x,.int .i64 y] 69)).heap.size (wr.alloc (.cells #[.int .i64 x,.int .i64 y] 69)) w2->w2.cell? ⟨wr.heap.size,0,none⟩=some (.int .i64 x)/\zIj l w1 (.slice (some ⟨b,off,none⟩) n cap) (.slice (some ⟨B,0,none⟩) n n) k w2/\zB7 w2 w.heap.size (.slice none 0 0) (.slice none 0 0) (.slice none 0 0)/\zB7 w2 w1.heap.size (.slice (some ⟨b,off,none⟩) n cap) (.slice (some ⟨B,0,none⟩) n n) (.slice aao (zAF l k).length aac)/\w2.ownsRow (w1.heap.size+1) 3 1 (.slice aao (zAF l k).length aac) (zAF l k).length (zAL (zAF l k))):=fun w2 hb2=>by
    have hb12:Below wr.heap.size wr w2:=(hAr _).trans (hb2.mono (hAr _).size);refine ⟨(hb2.cell (p:=⟨wr.heap.size,0,none⟩) (by simp)).trans (by simp [go_sem]),HSt.out.later hb12,(HT3.out.below hbel hs1).below hb12 (by omega),h3r.below hb12 h3r.2.2.2.2.2.2,zAW hown hb12 (Nat.le_refl _)⟩
   obtain ⟨L,hL⟩:∃ L,L=(zAF l k).length:=⟨_,rfl⟩
   have HL:Hid (L=(zAF l k).length):=hL;rw [<- hL] at hlen HW2;clear hL HO HE HA hown h3r HSt HS0 HRow
   by_cases hze:zAc props (x,y)=0
   ·have HJ3:=(show Hid _ from HJ2.out hze)
    rw [hze] at hco;clear hze HOi HJ2 HJ
    cases hb:zAP x with
    | true=>
     have HAh:=(show Hid _ from HY.out hb)
     rw [hb] at hlk;have h63:L+1 <= maxLen:=by unfold maxLen;omega
     have hkb:(L+1)*8 <= 140737488355328:=by omega
     clear HY HNo hb
     go_wp2_with (first | (go_at_call 89;refine (hco _).mono ?_;rintro e w2 ⟨rfl,hb2⟩;obtain ⟨c2,hst2,h3z,h3w,ho2⟩:=HW2.out w2 hb2;obtain ⟨k0,k1,k2,f0,f1,f2,hl2⟩:=id h3w;have hown2:=fun o=>ho2.alloc o;have hbase:∀ o,w1.heap.size+1 <= (w2.alloc o).heap.size:=(fun o=>by simp;omega);have kA2:∀ o,(w2.alloc o).cell? ⟨w1.heap.size,2,none⟩=some (.slice aao L aac):=(fun o=>(((Below.refl _ _).alloc (Nat.le_refl _) o).cell (p:=⟨w1.heap.size,2,none⟩) hl2).trans k2)) | (go_at_call 90;refine (hlk _).mono ?_;rintro e w3 ⟨rfl,rfl⟩) | (at_builtin;refine wpList_append_own _ rfl (.tmp 49) (.tmp 51) 37 rfl (w1.heap.size+1) 3 i0 (.int .i64 0) 1 8 Tryz.underlying37 hi hz0 hz1 hz2 rfl (by decide) _ _ _ rfl (hown2 _) ⟨_,0,none⟩ 1 1 _ rfl rfl (cell_one_new _ _ _) (by intro u hu;simp at hu;subst hu;rfl) h63 hkb (hbase _) ?_;intro v5 w5 hown5 hgrow5 _;obtain ⟨g5,cp5,rfl⟩:=zOI hown5;have hb25:Below (w1.heap.size+1) _ w5:=((Below.refl _ _).alloc (by omega) _).grown hgrow5 (hbase _) (zNN ho2);have h35:=h3w.below hb25 (Nat.lt_succ_self _);obtain ⟨k50,k51,k52,f50,f51,f52,hl5⟩:=id h35))
     have hb15:Below w1.heap.size w1 w5:=hst2.1.trans (hb25.mono (Nat.le_succ _));refine ⟨⟨k+1,hlt,by first | rfl | simp,⟨hb15.setCell (Nat.le_refl _) _,_,h35.set2 _,?_⟩,HJ3.out⟩,by simp [intOf];omega⟩
     rw [HAh.out,List.length_append,<- HL.out];rw [show zAL (zAF l k++[(k:Int)])=zAL (zAF l k)++[.int .i64 (k:Int)] by simp [zAL]]
     exact zFx hown5 (Nat.lt_succ_self _) _
    | false=>
     have HAh:=(show Hid _ from HNo.out hb)
     rw [hb] at hlk;clear HY HNo hb
     go_wp2_with (first | (go_at_call 89;refine (hco _).mono ?_;rintro e w2 ⟨rfl,hb2⟩;obtain ⟨c2,hst2,h3z,h3w,ho2⟩:=HW2.out w2 hb2) | (go_at_call 90;refine (hlk _).mono ?_;rintro e w3 ⟨rfl,rfl⟩))
     obtain ⟨q1,av',q2,q3⟩:=hst2;exact ⟨⟨k+1,hlt,by first | rfl | simp,⟨q1,av',q2,by rw [HAh.out];exact q3⟩,HJ3.out⟩,by simp [intOf];omega⟩
   ·have HX:Hid (zAV props l=zAc props (x,y)):=HOi.out hze
    generalize zAc props (x,y)=err at hco hze HX;clear HOi HJ2 HY HNo hlk
    go_wp2_with (go_at_call 89;refine (hco _).mono ?_;rintro e w2 ⟨rfl,hb2⟩;obtain ⟨c2,hst2,h3z,h3w,ho2⟩:=HW2.out w2 hb2;obtain ⟨k0,k1,k2,f0,f1,f2,hl2⟩:=id h3z)
    refine bodyPost_ret (v:=.tuple #[.agg #[.slice none 0 0,.slice none 0 0,.slice none 0 0],.int .i64 err]) ?_ rfl ⟨?_,fun _=>by rw [HX.out],fun h=>absurd h (by rw [HX.out];exact hze)⟩
    ·obtain ⟨q0,q1,q2⟩:=h3z.read (.slice none 0 0) (.slice none 0 0) (.slice none 0 0)
     simp [results,Tryz.results63,go_sem,q0,q1,q2]
    ·have hbw2:=hbw1.trans (hst2.1.mono hbw1.size)
     exact ((hbw2.setCell (Nat.le_refl _) _).setCell (Nat.le_refl _) _).setCell (Nat.le_refl _) _
  ·have hkn:k=n:=by omega
   subst hkn;have HX:=(show Hid _ from HE.out HJ.out)
   have h3z:=HT3.out.below hbel hs1;have HRo:Hid (wr.rowIs B 3 k (fun q=>.int .i64 (zAi (l.map Prod.fst) q))):=zAp HRow.out hbel
   have HOw:Hid (wr.ownsRow (w1.heap.size+1) 3 1 (.slice aao (zAF l k).length aac) (zAF l k).length (zAL (zAF l k))):=hown;obtain ⟨L,hL⟩:∃ L,L=(zAF l k).length:=⟨_,rfl⟩
   have HL:Hid (L=(zAF l k).length):=hL;rw [<- hL] at hlen HX HOw h3r;obtain ⟨k0,k1,k2,f0,f1,f2,hl2⟩:=id h3r;obtain ⟨z0,z1,z2,y0,y1,y2,zl2⟩:=id h3z;clear hL HO HE HA hown HSt HS0 HRow HJ
   by_cases h6L:6 < L
   ·have HX2:Hid (zAV props l=1):=by show _=_;rw [HX.out,if_pos h6L]
    go_wp2_with fail
    refine bodyPost_ret (v:=.tuple #[.agg #[.slice none 0 0,.slice none 0 0,.slice none 0 0],.int .i64 1]) ?_ rfl ⟨?_,fun _=>by rw [HX2.out],fun h=>absurd h (by rw [HX2.out];decide)⟩
    ·obtain ⟨q0,q1,q2⟩:=h3z.read (.slice none 0 0) (.slice none 0 0) (.slice none 0 0)
     simp [results,Tryz.results63,go_sem,q0,q1,q2]
    ·exact ((hbw.setCell (Nat.le_refl _) _).setCell (Nat.le_refl _) _).setCell (Nat.le_refl _) _
   ·have HX2:Hid (zAV props l=0):=by show _=_;rw [HX.out,if_neg h6L]
    go_wp2_with fail
    refine bodyPost_ret (v:=.tuple #[.agg #[.slice (some ⟨b,off,none⟩) k cap,.slice (some ⟨B,0,none⟩) k k,.slice aao L aac],.int .i64 0]) ?_ rfl ⟨?_,fun h=>absurd HX2.out h,fun _=>⟨B,.slice aao L aac,Nat.le_of_lt hBw,rfl,?_,?_⟩⟩
    ·obtain ⟨q0,q1,q2⟩:=h3z.read (.slice (some ⟨b,off,none⟩) k cap) (.slice (some ⟨B,0,none⟩) k k) (.slice aao L aac)
     simp [results,Tryz.results63,go_sem,q0,q1,q2]
    ·exact ((hbw.setCell (Nat.le_refl _) _).setCell (Nat.le_refl _) _).setCell (Nat.le_refl _) _
    ·have hne:∀ q,B≠(⟨w.heap.size,q,none⟩:Addr).block:=fun q=>by simp;omega
     exact HRo.out.of_block ((Below.heap_setCell _ _ _ B (hne 2)).trans ((Below.heap_setCell _ _ _ B (hne 1)).trans (Below.heap_setCell _ _ _ B (hne 0))))
    ·rw [HLd.out,<- HL.out]
     exact zAw (zFx (zFx (zFx HOw.out (by simp;omega) _) (by simp;omega) _) (by simp;omega) _) (by omega)
theorem zGJ (v:Value) (l:List (Int × Int)) (props:Int) (w:World) (hB:0 < w.heap.size) (hT:zAJ w) (hV:zAR w v l) :
  Calls Tryz.prog 63 #[v,.int .i64 props] w (zGN props v l w):=by
 by_cases hr:props < 0\/6 < props
 ·obtain ⟨ao,cap,rfl,_⟩:=hV
  exact (zMy ao _ cap props w hr).mono fun e w' ⟨h1,h2⟩=>⟨h2,fun _=>by rw [zE3 hr];exact h1,fun h=>absurd h (by rw [zE3 hr];decide)⟩
 ·by_cases hz:zAE (l.map Prod.fst)=0
  ·obtain ⟨hne,_⟩:=zCq hz
   obtain ⟨ao,cap,rfl,h0,h⟩:=hV;obtain ⟨b,off,rfl,hbl,hat⟩:=h (by rintro rfl;exact hne rfl)
   exact zOZ b off cap l props w (by omega) (by omega) hB hT hbl hat h0.1 hz
  ·exact (zOW v _ props w (by omega) (by omega) hB hT hV.kinds hz).mono fun e w' ⟨h1,h2⟩=>⟨h2,fun _=>by rw [zFd hr hz];exact h1,fun h=>absurd h (by rw [zFd hr hz];exact hz)⟩
theorem zNu (v:Value) (l:List (Int × Int)) (props:Int) (w:World) (hB:0 < w.heap.size) (hT:zAJ w) (hV:zAR w v l) :
  Calls Tryz.prog 37 #[v,.int .i64 props] w fun e w'=>e=.returned (.int .i64 (zAV props l))/\Below w.heap.size w w':=by
 have hrd:Calls Tryz.prog 63 #[v,.int .i64 props] w fun e w'=>Below w.heap.size w w'/\∃ ao an ac bo bn bc co cn cc,e=.returned (.tuple #[.agg #[.slice ao an ac,.slice bo bn bc,.slice co cn cc],.int .i64 (zAV props l)]):=by
  refine (zGJ v l props w hB hT hV).mono fun e w' ⟨h1,h2,h3⟩=>⟨h1,?_⟩
  by_cases hz:zAV props l=0
  ·obtain ⟨B,av,_,he,_,ho⟩:=h3 hz
   obtain ⟨aa,ac,rfl⟩:=zAU ho;obtain ⟨ao,cap,rfl,_⟩:=hV;exact ⟨_,_,_,_,_,_,_,_,_,by rw [hz];exact he⟩
  ·exact ⟨_,_,_,_,_,_,_,_,_,h2 hz⟩
 obtain ⟨ao,cap,rfl,_⟩:=hV;generalize zAV props l=x at *;clear hT
 go_enter Tryz.func37,Tryz.ntmps37
 go_wp2_with (go_at_call 63;refine hrd.mono ?_;rintro e w1 ⟨hb1,ao,an,ac,bo,bn,bc,co,cn,cc,rfl⟩)
 go_ret
 exact ⟨rfl,by first | exact hb1 | exact hb1.alloc hb1.size _⟩
end Go.Proofs.YtiimhhjkgeepjaaGreatDoor
namespace Go.Proofs.YtiimhhjkgeepjaaGreatDoor
open Go.ChangeShapes Go.WideShapes Go.ChangeAt Go.RowKit Go.Deep
open Terms Tm
set_option maxHeartbeats 6400000
set_option maxRecDepth 20000
noncomputable def zAK (m:Mo) (ps:List (List (Int × Int))) (l:List (Int × Int)):Int:=if zCQ m ps≠0 then zCQ m ps else zAV ps.length l
structure TaskV (w:World) (va vr pv fv:Value) (m:Mo) (ps:List (List (Int × Int))) (l:List (Int × Int)):Prop where
 mo:zAa w va vr m
 ps:zBP w pv ps
 fo:zAR w fv l
theorem TaskV.below {w w':World} {va vr pv fv:Value} {m:Mo} {ps:List (List (Int × Int))} {l:List (Int × Int)} (h:TaskV w va vr pv fv m ps l) (hb:Below w.heap.size w w'):TaskV w' va vr pv fv m ps l:=⟨h.mo.below hb,h.ps.below hb,h.fo.below hb⟩
theorem zDf (va vr pv fv:Value) (m:Mo) (ps:List (List (Int × Int))) (l:List (Int × Int)) (w:World) (hB:0 < w.heap.size) (hT:zAJ w) (hV:TaskV w va vr pv fv m ps l) :
  Calls Tryz.prog 20 #[.agg #[va,vr,pv,fv]] w fun e w'=>e=.returned (.int .i64 (zAK m ps l))/\Below w.heap.size w w':=by
 have hA:∀ o,Below w.heap.size w (w.alloc o):=fun o=>(Below.refl _ _).alloc (Nat.le_refl _) o
 have HP:Hid (∀ w1,Below w.heap.size w w1->Calls Tryz.prog 36 #[.agg #[va,vr],pv] w1 fun e w'=>e=.returned (.int .i64 (zCQ m ps))/\Below w1.heap.size w1 w'):=fun w1 h=>zHu va vr pv m ps w1 (Nat.lt_of_lt_of_le hB h.size) (hT.below h hB) (hV.mo.below h) (hV.ps.below h)
 have HL:Hid (∀ w1,Below w.heap.size w w1->Calls Tryz.prog 37 #[fv,.int .i64 (ps.length:Int)] w1 fun e w'=>e=.returned (.int .i64 (zAV ps.length l))/\Below w1.heap.size w1 w'):=fun w1 h=>zNu fv l ps.length w1 (Nat.lt_of_lt_of_le hB h.size) (hT.below h hB) (hV.fo.below h)
 unfold zAK;obtain ⟨ao,ac,rfl⟩:=hV.mo.1.shape;obtain ⟨ro,rc,rfl⟩:=hV.mo.2.shape;obtain ⟨po,pc,rfl⟩:=hV.ps.shape;obtain ⟨fo,fc,rfl,_⟩:=id hV.fo;generalize zCQ m ps=x at *;generalize zAV ps.length l=y at *;generalize m.vars.length=vn at *;generalize m.rules.length=rn at *;generalize ps.length=pn at *;generalize l.length=fn at *;clear hV hT
 have hp:=HP.out _ (hA (.cells #[.slice ao vn ac,.slice ro rn rc,.slice po pn pc,.slice fo fn fc] 45))
 have HB:Hid (∀ w1,Below (w.heap.size+1) (w.alloc (.cells #[.slice ao vn ac,.slice ro rn rc,.slice po pn pc,.slice fo fn fc] 45)) w1->w1.cell? ⟨w.heap.size,2,none⟩=some (.slice po pn pc)/\w1.cell? ⟨w.heap.size,3,none⟩=some (.slice fo fn fc)):=fun w1 h=>⟨(h.cell (p:=⟨w.heap.size,2,none⟩) (Nat.lt_succ_self _)).trans (by simp [go_sem]),(h.cell (p:=⟨w.heap.size,3,none⟩) (Nat.lt_succ_self _)).trans (by simp [go_sem])⟩
 by_cases hx:x=0
 ·subst hx
  rw [if_neg (by simp)]
  go_enter Tryz.func20,Tryz.ntmps20
  go_wp2_with (first | (go_at_call 36;refine hp.mono ?_;rintro e w1 ⟨rfl,hb1⟩;have hbw:=(hA _).trans (hb1.mono (hA _).size);have hq:=HB.out w1 (by simpa using hb1);have k0:=hq.1;have k1:=hq.2;have hl:=HL.out w1 hbw) | (go_at_call 37;refine hl.mono ?_;rintro e w2 ⟨rfl,hb2⟩))
  go_ret
  exact ⟨rfl,hbw.trans (hb2.mono hbw.size)⟩
 ·rw [if_pos hx]
  go_enter Tryz.func20,Tryz.ntmps20
  go_wp2_with (go_at_call 36;refine hp.mono ?_;rintro e w1 ⟨rfl,hb1⟩;have hbw:=(hA _).trans (hb1.mono (hA _).size))
  go_ret
  exact ⟨rfl,hbw⟩
end Go.Proofs.YtiimhhjkgeepjaaGreatDoor
namespace Go.Proofs.YtiimhhjkgeepjaaGreatDoor
open Go.ChangeShapes Go.WideShapes Go.ChangeAt Go.RowKit Go.Deep
open Terms
set_option maxHeartbeats 6400000
set_option maxRecDepth 20000
theorem zIU (v:Value) (l:List (Int × Int)) (props:Int) (w:World) (hB:0 < w.heap.size) (hT:zAJ w) (hV:zAR w v l) (hc:zAV props l=0) :
  Calls Tryz.prog 76 #[v,.int .i64 props] w fun e w'=>∃ ao ac,e=.returned (.tuple #[.slice ao (zAA l).length ac,.int .i64 0])/\Below w.heap.size w w'/\Hid (w'.ownsRow w.heap.size 3 1 (.slice ao (zAA l).length ac) (zAA l).length (zAL (zAA l))):=by
 have hrd:Calls Tryz.prog 63 #[v,.int .i64 props] w fun e w'=>Below w.heap.size w w'/\∃ ao an ac bo bn bc co cc,e=.returned (.tuple #[.agg #[.slice ao an ac,.slice bo bn bc,.slice co (zAA l).length cc],.int .i64 0])/\Hid (w'.ownsRow w.heap.size 3 1 (.slice co (zAA l).length cc) (zAA l).length (zAL (zAA l))):=by
  refine (zGJ v l props w hB hT hV).mono fun e w' ⟨h1,h2,h3⟩=>⟨h1,?_⟩
  obtain ⟨B,av,_,he,_,ho⟩:=h3 hc;obtain ⟨aa,ac,rfl⟩:=zAU ho;obtain ⟨ao,cap,rfl,_⟩:=hV;exact ⟨_,_,_,_,_,_,_,_,he,ho⟩
 obtain ⟨ao,cap,rfl,_⟩:=hV;generalize (zAA l).length=an at *;clear hT hc
 go_enter Tryz.func76,Tryz.ntmps76
 go_wp2_with (go_at_call 63;refine hrd.mono ?_;rintro e w1 ⟨hb1,ao,bn,ac,bo,bm,bc,co,cc,rfl,HI⟩)
 go_ret2
 exact ⟨_,_,rfl,by first | exact hb1 | exact hb1.alloc hb1.size _,by first | exact HI.out | exact HI.out.alloc _⟩
end Go.Proofs.YtiimhhjkgeepjaaGreatDoor
namespace Go.Proofs.YtiimhhjkgeepjaaGreatDoor
open Go.ChangeShapes Go.WideShapes Go.ChangeAt Go.RowKit Go.Deep
open Terms Tm
set_option maxHeartbeats 6400000
set_option maxRecDepth 20000
theorem zA3 {m:Mo} {ps:List (List (Int × Int))} {l:List (Int × Int)} (h:zAK m ps l=0):zCQ m ps=0/\zAV ps.length l=0:=by
 unfold zAK at h
 split at h
 ·rename_i h1
  exact absurd h h1
 ·rename_i h1
  exact ⟨by simpa using h1,h⟩
structure SurvAt (w:World) (B:Nat) (va vr pv fv av:Value) (bs bl:Nat):Prop where
 lt:B < w.heap.size
 c0:w.cell? ⟨B,0,none⟩=some va
 c1:w.cell? ⟨B,1,none⟩=some vr
 c2:w.cell? ⟨B,2,none⟩=some pv
 c3:w.cell? ⟨B,3,none⟩=some fv
 c4:w.cell? ⟨B,4,none⟩=some av
 c5:w.cell? ⟨B,5,none⟩=some (.map (some bs))
 c6:w.cell? ⟨B,6,none⟩=some (.map (some bl))
theorem SurvAt.later {w w':World} {B:Nat} {va vr pv fv av:Value} {bs bl:Nat} (h:SurvAt w B va vr pv fv av bs bl) (hb:Below w.heap.size w w'):SurvAt w' B va vr pv fv av bs bl:=
 ⟨Nat.lt_of_lt_of_le h.lt hb.size,(hb.cell (p:=⟨B,0,none⟩) h.lt).trans h.c0,(hb.cell (p:=⟨B,1,none⟩) h.lt).trans h.c1,(hb.cell (p:=⟨B,2,none⟩) h.lt).trans h.c2,(hb.cell (p:=⟨B,3,none⟩) h.lt).trans h.c3,(hb.cell (p:=⟨B,4,none⟩) h.lt).trans h.c4,(hb.cell (p:=⟨B,5,none⟩) h.lt).trans h.c5,(hb.cell (p:=⟨B,6,none⟩) h.lt).trans h.c6⟩
theorem SurvAt.new (w:World) (va vr pv fv av:Value) (t:TypeId):SurvAt (((w.alloc (.map #[] 0)).alloc (.map #[] 0)).alloc (.cells #[va,vr,pv,fv,av,.map (some w.heap.size),.map (some (w.heap.size+1))] t)) (w.heap.size+2) va vr pv fv av w.heap.size (w.heap.size+1):=by
 have e:w.heap.size+2=((w.alloc (.map #[] 0)).alloc (.map #[] 0)).heap.size:=by simp
 rw [e];refine ⟨by simp,?_,?_,?_,?_,?_,?_,?_⟩ <;> simp [go_sem]
theorem zQd (w:World) (o:Obj):(((w.alloc (.map #[] 0)).alloc (.map #[] 0)).alloc o).heap[w.heap.size]? = some (.map #[] 0)/\(((w.alloc (.map #[] 0)).alloc (.map #[] 0)).alloc o).heap[w.heap.size+1]? = some (.map #[] 0):=by
 have h1:=(MapKept.heap_alloc w (.map #[] 0)).1;have h2:=(MapKept.heap_alloc (w.alloc (.map #[] 0)) (.map #[] 0)).1;have b1:Below (w.alloc (.map #[] 0)).heap.size (w.alloc (.map #[] 0)) (((w.alloc (.map #[] 0)).alloc (.map #[] 0)).alloc o):=((Below.refl _ _).alloc (Nat.le_refl _) _).alloc (by simp) _
 have b2:Below ((w.alloc (.map #[] 0)).alloc (.map #[] 0)).heap.size ((w.alloc (.map #[] 0)).alloc (.map #[] 0)) (((w.alloc (.map #[] 0)).alloc (.map #[] 0)).alloc o):=(Below.refl _ _).alloc (Nat.le_refl _) _;refine ⟨(b1.block _ (by simp)).trans h1,?_⟩
 rw [World.size_alloc] at h2;exact (b2.block _ (by simp)).trans h2
def zHR (w:World) (va vr pv fv:Value) (l:List (Int × Int)) (e:Ending) (w':World):Prop:=
 ∃ n ao ac,e=.returned (.tuple #[.pointer (some ⟨n+2,0,none⟩),.int .i64 0])/\Below w.heap.size w w'/\w.heap.size <= n/\w'.heap.size=n+3/\Hid (SurvAt w' (n+2) va vr pv fv (.slice ao (zAA l).length ac) n (n+1))/\Hid (w'.ownsRow w.heap.size 3 1 (.slice ao (zAA l).length ac) (zAA l).length (zAL (zAA l)))/\Hid (w'.heap[n]? = some (.map #[] 0)/\w'.heap[n+1]? = some (.map #[] 0))
theorem zLW (va vr pv fv:Value) (m:Mo) (ps:List (List (Int × Int))) (l:List (Int × Int)) (w:World) (hB:0 < w.heap.size) (hT:zAJ w) (hV:TaskV w va vr pv fv m ps l) (hc:zAK m ps l=0) :
  Calls Tryz.prog 51 #[.agg #[va,vr,pv,fv]] w (zHR w va vr pv fv l):=by
 have hA:∀ o,Below w.heap.size w (w.alloc o):=fun o=>(Below.refl _ _).alloc (Nat.le_refl _) o
 obtain ⟨_,hl0⟩:=zA3 hc;obtain ⟨ao,ac,rfl⟩:=hV.mo.1.shape;obtain ⟨ro,rc,rfl⟩:=hV.mo.2.shape;obtain ⟨po,pc,rfl⟩:=hV.ps.shape;obtain ⟨fo,fc,rfl,_⟩:=id hV.fo
 have HC:Hid (∀ w1,Below w.heap.size w w1->Calls Tryz.prog 20 #[.agg #[.slice ao m.vars.length ac,.slice ro m.rules.length rc,.slice po ps.length pc,.slice fo l.length fc]] w1 fun e w'=>e=.returned (.int .i64 0)/\Below w1.heap.size w1 w'):=fun w1 h=>by
  have:=zDf _ _ _ _ m ps l w1 (Nat.lt_of_lt_of_le hB h.size) (hT.below h hB) (hV.below h);rw [hc] at this;exact this
 have HL:Hid (∀ w1,Below w.heap.size w w1->Calls Tryz.prog 76 #[.slice fo l.length fc,.int .i64 (ps.length:Int)] w1 fun e w'=>∃ ho hc,e=.returned (.tuple #[.slice ho (zAA l).length hc,.int .i64 0])/\Below w1.heap.size w1 w'/\Hid (w'.ownsRow w1.heap.size 3 1 (.slice ho (zAA l).length hc) (zAA l).length (zAL (zAA l)))):=fun w1 h=>zIU _ l ps.length w1 (Nat.lt_of_lt_of_le hB h.size) (hT.below h hB) (hV.fo.below h) hl0
 unfold zHR;generalize zAL (zAA l)=av at *;generalize (zAA l).length=an at *;generalize m.vars.length=vn at *;generalize m.rules.length=rn at *;generalize ps.length=pn at *;generalize l.length=fn at *;clear hV hT hc hl0;have hp:=HC.out _ (hA (.cells #[.slice ao vn ac,.slice ro rn rc,.slice po pn pc,.slice fo fn fc] 45))
 have HB:Hid (∀ w1,Below (w.heap.size+1) (w.alloc (.cells #[.slice ao vn ac,.slice ro rn rc,.slice po pn pc,.slice fo fn fc] 45)) w1->w1.cell? ⟨w.heap.size,0,none⟩=some (.slice ao vn ac)/\w1.cell? ⟨w.heap.size,1,none⟩=some (.slice ro rn rc)/\w1.cell? ⟨w.heap.size,2,none⟩=some (.slice po pn pc)/\w1.cell? ⟨w.heap.size,3,none⟩=some (.slice fo fn fc)):=fun w1 h=>⟨(h.cell (p:=⟨w.heap.size,0,none⟩) (Nat.lt_succ_self _)).trans (by simp [go_sem]),(h.cell (p:=⟨w.heap.size,1,none⟩) (Nat.lt_succ_self _)).trans (by simp [go_sem]),(h.cell (p:=⟨w.heap.size,2,none⟩) (Nat.lt_succ_self _)).trans (by simp [go_sem]),(h.cell (p:=⟨w.heap.size,3,none⟩) (Nat.lt_succ_self _)).trans (by simp [go_sem])⟩
 have hmm:=@run_makeMap Tryz.prog
 go_enter Tryz.func51,Tryz.ntmps51
 go_wp2_with (first | (go_at_call 20;refine hp.mono ?_;rintro e w1 ⟨rfl,hb1⟩;have hbw:=(hA _).trans (hb1.mono (hA _).size);have hq:=HB.out w1 (by simpa using hb1);obtain ⟨k0,k1,k2,k3⟩:=hq;have hl:=HL.out w1 hbw) | (go_at_call 76;refine hl.mono ?_;rintro e w2 ⟨ho,hc,rfl,hb2,HO⟩;have hbw2:=hbw.trans (hb2.mono hbw.size);obtain ⟨j0,j1,j2,j3⟩:=HB.out w2 (by have:=hb1.trans (hb2.mono hb1.size);simpa using this)))
 go_ret2
 have hm1:Below w.heap.size w ((w2.alloc (.map #[] 0)).alloc (.map #[] 0)):=(hbw2.alloc hbw2.size _).alloc (by have:=hbw2.size;simp;omega) _
 refine ⟨w2.heap.size,ho,hc,by rfl,hm1.alloc hm1.size _,hbw2.size,by simp,SurvAt.new w2 _ _ _ _ _ _,?_,?_⟩
 ·exact (((zAw HO.out hbw.size).alloc _).alloc _).alloc _
 ·exact zQd w2 _
theorem zKF (va vr pv fv:Value) (m:Mo) (ps:List (List (Int × Int))) (l:List (Int × Int)) (w:World) (hB:0 < w.heap.size) (hT:zAJ w) (hV:TaskV w va vr pv fv m ps l) (hc:zAK m ps l≠0) :
  Calls Tryz.prog 51 #[.agg #[va,vr,pv,fv]] w fun e w'=>e=.returned (.tuple #[.pointer none,.int .i64 (zAK m ps l)])/\Below w.heap.size w w':=by
 have hA:∀ o,Below w.heap.size w (w.alloc o):=fun o=>(Below.refl _ _).alloc (Nat.le_refl _) o
 obtain ⟨ao,ac,rfl⟩:=hV.mo.1.shape;obtain ⟨ro,rc,rfl⟩:=hV.mo.2.shape;obtain ⟨po,pc,rfl⟩:=hV.ps.shape;obtain ⟨fo,fc,rfl,_⟩:=id hV.fo;have hp:=zDf _ _ _ _ m ps l _ (Nat.lt_of_lt_of_le hB (hA (.cells #[.slice ao m.vars.length ac,.slice ro m.rules.length rc,.slice po ps.length pc,.slice fo l.length fc] 45)).size) (hT.below (hA _) hB) (hV.below (hA _))
 generalize zAK m ps l=c at *;generalize m.vars.length=vn at *;generalize m.rules.length=rn at *;generalize ps.length=pn at *;generalize l.length=fn at *;clear hV hT
 go_enter Tryz.func51,Tryz.ntmps51
 go_wp2_with (first | (go_at_call 20;refine hp.mono ?_;rintro e w1 ⟨rfl,hb1⟩;have hbw:=(hA _).trans (hb1.mono (hA _).size)))
 go_ret2
 exact ⟨rfl,hbw⟩
theorem zFQ (B:Nat) (va vr pv fv:Value) (ao:Option Addr) (an ac bs bl:Nat) (w:World) (h6:an <= 6) (hS:SurvAt w B va vr pv fv (.slice ao an ac) bs bl) :
  Calls Tryz.prog 77 #[.pointer (some ⟨B,0,none⟩)] w fun e w'=>e=.returned (.int .i64 ((2 ^ an:Nat):Int))/\w'=w:=by
 have c4:=hS.c4;clear hS
 rcases (show an=0\/an=1\/an=2\/an=3\/an=4\/an=5\/an=6 by omega) with rfl | rfl | rfl | rfl | rfl | rfl | rfl
 all_goals
  go_enter Tryz.func77,Tryz.ntmps77
  go_wp2
  go_ret
  exact ⟨rfl,rfl⟩
end Go.Proofs.YtiimhhjkgeepjaaGreatDoor
namespace Go.Proofs.YtiimhhjkgeepjaaGreatDoor
open Go.ChangeShapes Go.WideShapes Go.ChangeAt Go.RowKit Go.Deep Go.Maps
set_option maxHeartbeats 6400000
set_option maxRecDepth 20000
def zNL:Value->Option (DataW Value × List MemPlace):=fun v=>some (.held v,[])
def zAg (w:World) (kt:TypeId) (b n:Nat) (f:Lit->Option Value):Prop:=
 ∃ D:DataW Value,w.ownsMap Tryz.prog kt zNL b n D/\∀ x,Maps.has D x=(f x).isSome/\∀ v,f x=some v->∀ z,D.atKey x z=.held v
theorem zAg.lt {w:World} {kt:TypeId} {b n:Nat} {f:Lit->Option Value} (h:zAg w kt b n f):b < w.heap.size:=by
 obtain ⟨D,h1,_⟩:=h;exact h1.lt
theorem zAg.isMap {w:World} {kt:TypeId} {b n:Nat} {f:Lit->Option Value} (h:zAg w kt b n f):∃ es c,w.heap[b]? = some (.map es c):=by
 obtain ⟨D,⟨es,c,h1,_⟩,_⟩:=h;exact ⟨es,c,h1⟩
theorem zAg.new {w:World} (kt:TypeId) {b:Nat} (h:w.heap[b]? = some (.map #[] 0)):zAg w kt b 0 (fun _=>none):=by
 obtain ⟨es,c,h1,h2,h3,h4⟩:=World.ownsMap_made w Tryz.prog kt zNL;rw [(MapKept.heap_alloc w _).1] at h1
 injection h1 with h1
 injection h1 with h5 h6
 subst h5 h6;exact ⟨.map [],⟨#[],0,h,h2,Nat.le_refl _,rfl⟩,fun x=>⟨by simp [Maps.has],fun v hv=>by simp at hv⟩⟩
theorem zAg.kept {w w':World} {kt:TypeId} {b n:Nat} {f:Lit->Option Value} (h:zAg w kt b n f) (e:w'.heap[b]? = w.heap[b]?):zAg w' kt b n f:=by
 obtain ⟨D,⟨es,c,h1,h2⟩,h3⟩:=h;exact ⟨D,⟨es,c,e.trans h1,h2⟩,h3⟩
theorem zAg.look {w:World} {kt:TypeId} {b n:Nat} {f:Lit->Option Value} (h:zAg w kt b n f) (K:Keyed Tryz.prog kt) {t e:TypeId} (ht:Tryz.prog.underlying t=some (.map kt e)) {z:Value} (hz:(zeroValue e).run Tryz.prog w=.ok z w)
  {key:Value} {kl:Lit} (hkey:keyOf Tryz.prog kt key=some kl):(Instr.lookup t (.map (some b)) key true).run Tryz.prog w=.ok (.tuple #[(f kl).getD z,.bool (f kl).isSome]) w:=by
 obtain ⟨D,h1,h2⟩:=h;obtain ⟨v,ps,hrun,hR⟩:=h1.look_ok K ht hz (zd:=.held z) (zp:=[]) rfl hkey;obtain ⟨hs,hv⟩:=h2 kl;simp only [zNL,Option.some.injEq,Prod.mk.injEq] at hR;rw [hrun,hs]
 cases hf:f kl with
 | none=>
  rw [hf] at hs;have:=Maps.atKey_of_not_has (D:=D) (k:=kl) (by simpa using hs) (.held z)
  rw [this] at hR;have e1:=hR.1
  injection e1 with e1
  rw [e1];rfl
 | some u=>
  rw [hv u hf] at hR;have e1:=hR.1
  injection e1 with e1
  rw [e1];rfl
open Classical in
noncomputable def zEm (f:Lit->Option Value) (kl:Lit) (val:Value):Lit->Option Value:=fun x=>if x=kl then some val else f x
theorem zEA (f:Lit->Option Value) (kl:Lit) (val:Value):zEm f kl val kl=some val:=by unfold zEm;rw [if_pos rfl]
theorem zDl {f:Lit->Option Value} {kl x:Lit} (h:x≠kl) (val:Value):zEm f kl val x=f x:=by unfold zEm;rw [if_neg h]
theorem zAg.put {w:World} {kt:TypeId} {b n:Nat} {f:Lit->Option Value} (h:zAg w kt b n f) (K:Keyed Tryz.prog kt) {t e:TypeId} (ht:Tryz.prog.underlying t=some (.map kt e)) (hn:n < maxLen)
  {key val:Value} {kl:Lit} (hkey:keyOf Tryz.prog kt key=some kl) (hlit:WideAt.IsKeyLit kl):∃ w',(Instr.mapUpdate t (.map (some b)) key val).run Tryz.prog w=.ok () w'/\zAg w' kt b (n+1) (zEm f kl val)/\w.grownBy w' (some b):=by
 obtain ⟨D,h1,h2⟩:=h;obtain ⟨w',hrun,h3,h4⟩:=h1.update K ht hn hkey (val:=val) (d:=.held val) (ps:=[]) rfl;refine ⟨w',hrun,⟨_,h3,fun x=>?_⟩,h4⟩
 by_cases hx:x=kl
 ·subst hx
  rw [zEA];refine ⟨by rw [Maps.has_put_same h1.isMap hlit];rfl,fun v hv z=>?_⟩
  cases hv
  exact Maps.atKey_put_same h1.isMap hlit _ z
 ·rw [zDl hx]
  refine ⟨by rw [Maps.has_put_other hx];exact (h2 x).1,fun v hv z=>?_⟩
  rw [Maps.atKey_put_other hx];exact (h2 x).2 v hv z
structure Sk (bs bl:Nat) (w w':World):Prop where
 os:w'.os=w.os
 tape:w'.tape=w.tape
 output:w'.output=w.output
 size:w.heap.size <= w'.heap.size
 block:∀ i,i < w.heap.size->i≠bs->i≠bl->w'.heap[i]? = w.heap[i]?
theorem Sk.refl (bs bl:Nat) (w:World):Sk bs bl w w:=⟨rfl,rfl,rfl,Nat.le_refl _,fun _ _ _ _=>rfl⟩
theorem Sk.trans {bs bl:Nat} {a b c:World} (h:Sk bs bl a b) (k:Sk bs bl b c):Sk bs bl a c:=
 ⟨k.os.trans h.os,k.tape.trans h.tape,k.output.trans h.output,Nat.le_trans h.size k.size,fun i hi h1 h2=>(k.block i (Nat.lt_of_lt_of_le hi h.size) h1 h2).trans (h.block i hi h1 h2)⟩
theorem Sk.of {bs bl:Nat} {w w':World} (h:Below w.heap.size w w'):Sk bs bl w w':=⟨h.os,h.tape,h.output,h.size,fun i hi _ _=>h.block i hi⟩
theorem Sk.grown {bs bl:Nat} {w w':World} {r:Nat} (h:w.grownBy w' (some r)) (hr:r=bs\/r=bl):Sk bs bl w w':=
 ⟨h.os,h.tape,h.output,h.size,fun i hi h1 h2=>h.block i hi (by intro e;injection e with e;omega)⟩
theorem Sk.below {bs bl base:Nat} {w w':World} (h:Sk bs bl w w') (h1:base <= bs) (h2:base <= bl) (h3:base <= w.heap.size):Below base w w':=
 ⟨h.os,h.tape,h.output,h.size,fun i hi=>h.block i (by omega) (by omega) (by omega)⟩
def zBz (w:World) (bs bl:Nat):Prop:=(∃ es c,w.heap[bs]? = some (.map es c))/\∃ es c,w.heap[bl]? = some (.map es c)
theorem zL5 {w:World} {p:Addr} {v:Value} (h:w.cell? p=some v) {es:Array MapEntry} {c:Nat}:w.heap[p.block]?≠some (.map es c):=by
 intro e;simp [World.cell?,e] at h
theorem Sk.cell {bs bl:Nat} {w w':World} (h:Sk bs bl w w') (hm:zBz w bs bl) {p:Addr} {v:Value} (hp:w.cell? p=some v):w'.cell? p=some v:=by
 obtain ⟨⟨es,c,e1⟩,⟨es',c',e2⟩⟩:=hm;have hlt:=World.block_lt_of_cell? w p hp;rw [World.cell?_of_block (h.block p.block hlt (fun e=>zL5 hp (by rw [e];exact e1)) (fun e=>zL5 hp (by rw [e];exact e2)))]
 exact hp
end Go.Proofs.YtiimhhjkgeepjaaGreatDoor
namespace Go.Proofs.YtiimhhjkgeepjaaGreatDoor
open Go.ChangeShapes Go.WideShapes Go.ChangeAt Go.RowKit Go.Deep
open Terms
set_option maxHeartbeats 6400000
set_option maxRecDepth 20000
def sec (l:List (Int × Int)) (p:Nat):Nat:=zAi (l.map Prod.fst) (p+1)
def zCH (claim:Int) (i:Nat):Bool:=decide (claim / 2 ^ i % 2=1)
def mkB (o:Int × Int) (letter:List Bool) (a b:Bool):Bool:=
 if o.1=13 then letter.getD o.2.toNat false else if o.1=11 then true else if o.1=10 then !a else if o.1=8 then a&&b else if o.1=9 then a||b else false
def zDJ (l:List (Int × Int)) (letter:List Bool) (claim:Int):Nat->Nat->Bool
 | 0,_=>false
 | f+1,p=>if zAP (l.getD p (0,0)).1=true then zCH claim (zAF l p).length else mkB (l.getD p (0,0)) letter (zDJ l letter claim f (p+1)) (zDJ l letter claim f (max (sec l p) (p+1)))
def tru (l:List (Int × Int)) (letter:List Bool) (claim:Int) (p:Nat):Bool:=zDJ l letter claim (l.length - p) p
theorem zPC (l:List (Int × Int)) (letter:List Bool) (claim:Int):∀ f g p,l.length <= f+p->l.length <= g+p->p < l.length->zDJ l letter claim f p=zDJ l letter claim g p:=by
 intro f
 induction f with
 | zero=>intro g p h _ hp;omega
 | succ f ih=>
  intro g p h1 h2 hp
  cases g with
  | zero=>omega
  | succ g=>
   simp only [zDJ]
   have aux:∀ q,p < q->zDJ l letter claim f q=zDJ l letter claim g q:=by
    intro q hq
    by_cases hql:q < l.length
    ·exact ih g q (by omega) (by omega) hql
    ·have z:∀ f q,l.length <= q->zDJ l letter claim f q=false:=by
      intro f
      induction f with
      | zero=>intro q _;rfl
      | succ f ihf=>
       intro q hq;simp only [zDJ];rw [show l.getD q (0,0)=(0,0) by simp [List.getD_eq_getElem?_getD,hq]]
       simp [zAP,mkB]
     rw [z f q (by omega),z g q (by omega)]
   rw [aux (p+1) (by omega),aux (max (sec l p) (p+1)) (by omega)]
theorem zHW {l:List (Int × Int)} {letter:List Bool} {claim:Int} {p:Nat} (hp:p < l.length) (h:zAP (l.getD p (0,0)).1=true):tru l letter claim p=zCH claim (zAF l p).length:=by
 unfold tru;obtain ⟨f,hf⟩:∃ f,l.length - p=f+1:=⟨l.length - p - 1,by omega⟩
 rw [hf];simp only [zDJ];rw [if_pos h]
theorem zKu {l:List (Int × Int)} {letter:List Bool} {claim:Int} {p:Nat} (hp:p < l.length) (h:zAP (l.getD p (0,0)).1=false) (hs:pn (l.getD p (0,0)).1=2->p+1 < sec l p):tru l letter claim p=mkB (l.getD p (0,0)) letter (tru l letter claim (p+1)) (tru l letter claim (sec l p)):=by
 unfold tru;obtain ⟨f,hf⟩:∃ f,l.length - p=f+1:=⟨l.length - p - 1,by omega⟩
 rw [hf]
 have z:∀ f q,l.length <= q->zDJ l letter claim f q=false:=by
  intro f
  induction f with
  | zero=>intro q _;rfl
  | succ f ihf=>
   intro q hq;simp only [zDJ];rw [show l.getD q (0,0)=(0,0) by simp [List.getD_eq_getElem?_getD,hq]]
   simp [zAP,mkB]
 have aux:∀ q,p < q->zDJ l letter claim f q=zDJ l letter claim (l.length - q) q:=by
  intro q hq
  by_cases hql:q < l.length
  ·exact zPC l letter claim f _ q (by omega) (by omega) hql
  ·rw [z _ q (by omega),z _ q (by omega)]
 simp only [zDJ];rw [if_neg (by rw [h];decide),aux (p+1) (by omega)]
 by_cases h2:pn (l.getD p (0,0)).1=2
 ·rw [show max (sec l p) (p+1)=sec l p by have:=hs h2;omega,aux (sec l p) (by have:=hs h2;omega)]
 ·have hk:(l.getD p (0,0)).1≠8/\(l.getD p (0,0)).1≠9:=by
   constructor <;> intro e <;> rw [e] at h2 <;> exact absurd rfl h2
  simp only [mkB,hk.1,hk.2,if_false]
theorem zCV (l:List (Int × Int)):∀ n i,i < (zAF l n).length->∃ p:Nat,(zAF l n).getD i 0=p/\p < n/\zAP (l.getD p (0,0)).1=true/\(zAF l p).length=i:=by
 intro n
 induction n with
 | zero=>intro i hi;simp [zAF] at hi
 | succ n ih=>
  intro i hi
  cases hb:zAP (l.getD n (0,0)).1 with
  | false=>
   rw [zID hb] at hi ⊢;obtain ⟨p,h1,h2,h3,h4⟩:=ih i hi;exact ⟨p,h1,by omega,h3,h4⟩
  | true=>
   rw [zCT hb] at hi ⊢
   by_cases hl:i < (zAF l n).length
   ·obtain ⟨p,h1,h2,h3,h4⟩:=ih i hl
    refine ⟨p,?_,by omega,h3,h4⟩
    rw [<- h1];simp [List.getD_eq_getElem?_getD,List.getElem?_append_left hl]
   ·have hi':i=(zAF l n).length:=by simp at hi;omega
    subst hi';exact ⟨n,by simp [List.getD_eq_getElem?_getD],by omega,hb,rfl⟩
theorem zDa (l:List (Int × Int)) {p n:Nat} (h:p <= n):(zAF l p).length <= (zAF l n).length:=by
  induction n with
  | zero => obtain rfl : p = 0 := by omega
            exact Nat.le_refl _
  | succ n ih=>
    by_cases hp:p=n+1
    · subst hp;exact Nat.le_refl _
    · have:=ih (by omega)
      simp only [zAF,List.length_append];omega
theorem zCg (l:List (Int × Int)) {p n:Nat} (h:p < n) (hb:zAP (l.getD p (0,0)).1=true):(zAF l p).length < (zAF l n).length:=by
 have:=zDa l (p:=p+1) (n:=n) (by omega)
 rw [zCT hb] at this;simp at this;omega
theorem zDZ {l:List (Int × Int)} (hz:zAE (l.map Prod.fst)=0) {p:Nat} (hp:p < l.length) :
  (1 <= pn (l.getD p (0,0)).1->p+1 < l.length)/\(pn (l.getD p (0,0)).1=2->p+1 < sec l p/\sec l p < l.length):=by
 obtain ⟨_,hc⟩:=zEB hz;obtain ⟨ks,hks⟩:∃ ks,ks=l.map Prod.fst:=⟨_,rfl⟩
 have hlen:ks.length=l.length:=by rw [hks,List.length_map]
 have hget:ks.getD p 0=(l.getD p (0,0)).1:=by rw [hks];simp [List.getD_eq_getElem?_getD,hp]
 have hsec:sec l p=zAi ks (p+1):=by unfold sec;rw [<- hks]
 rw [<- hks] at hc;rw [<- hget,hsec,<- hlen];obtain ⟨m,hm,hm1,hml⟩:=zS2 ks 1 ks.length p hc (by omega)
 have ha:=zK2 (ks:=ks) (q:=p) (by omega)
 rw [hm] at ha
 split at ha
 ·cases hr:cnt (ks.drop (p+1)) (pn (ks.getD p 0)) with
  | no e=>rw [hr] at ha;simp [R.up] at ha
  | ok m2=>
   rw [hr] at ha;simp only [R.up,R.ok.injEq] at ha;have h2:=zC0 _ _ _ hr;rw [List.length_drop] at h2;refine ⟨fun h=>by omega,fun h=>?_⟩
   rw [h,show (2:Nat)=1+1 from rfl] at hr
   obtain ⟨a,b,hca,hcb,hab⟩:=zI3 hr;have h3:=zC0 _ _ _ hca;have h4:=zC0 _ _ _ hcb;rw [zHh hca];omega
 ·simp at ha
structure PartsAt (w:World) (bh bf bp bH n B pl:Nat) (h:Nat->Bool) (l:List (Int × Int)):Prop where
 holds:w.cell? ⟨bh,0,none⟩=some (.slice (some ⟨bH,0,none⟩) n n)
 row:∀ j,j < n->w.cell? ⟨bH,j,none⟩=some (.bool (h j))
 ends : w.cell? ⟨bf, 1, none⟩ = some (.slice (some ⟨B, 0, none⟩) n n)
 erow:∀ j,j < n->w.cell? ⟨B,j,none⟩=some (.int .i64 (zAi (l.map Prod.fst) j))
 place:w.cell? ⟨bp,0,none⟩=some (.int .i64 pl)
theorem zEu (bh bp bH n pl:Nat) (x:Bool) (w:World) (hn:n <= 60) (hp:pl+1 < n) (c0:w.cell? ⟨bh,0,none⟩=some (.slice (some ⟨bH,0,none⟩) n n)) (c1:w.cell? ⟨bp,0,none⟩=some (.int .i64 pl)) (c2:w.cell? ⟨bH,pl+1,none⟩=some (.bool x)) :
  Calls Tryz.prog 164 #[.pointer (some ⟨bh,0,none⟩),.pointer (some ⟨bp,0,none⟩)] w fun e w'=>e=.returned (.bool x)/\w'=w:=by
 go_enter Tryz.func164,Tryz.ntmps164
 go_wp2_with fail
 go_ret
 exact ⟨rfl,rfl⟩
theorem zFq (bh bf bp bH n B pl s:Nat) (x:Bool) (w:World) (hn:n <= 60) (hp:pl+1 < n) (hs:s < n) (c0:w.cell? ⟨bh,0,none⟩=some (.slice (some ⟨bH,0,none⟩) n n)) (c1:w.cell? ⟨bp,0,none⟩=some (.int .i64 pl)) (c2:w.cell? ⟨bf,1,none⟩=some (.slice (some ⟨B,0,none⟩) n n)) (c3:w.cell? ⟨B,pl+1,none⟩=some (.int .i64 s)) (c4:w.cell? ⟨bH,s,none⟩=some (.bool x)) :
  Calls Tryz.prog 165 #[.pointer (some ⟨bh,0,none⟩),.pointer (some ⟨bf,0,none⟩),.pointer (some ⟨bp,0,none⟩)] w fun e w'=>e=.returned (.bool x)/\∃ q,w'=w.drewN q:=by
 go_enter Tryz.func165,Tryz.ntmps165
 go_wp2_with fail
 go_quiet (fail)
 go_wp2_with fail
 go_ret
 exact ⟨rfl,_,rfl⟩
theorem zEy (b off cap n B bH pl:Nat) (av:Value) (h:Nat->Bool) (l:List (Int × Int)) (aao:Option Addr) (an ac:Nat) (hav:av=.slice aao an ac) (w:World) (hr:∀ j,j < n->w.cell? ⟨bH,j,none⟩=some (.bool (h j))) (hbH:bH < w.heap.size) (he:∀ j,j < n->w.cell? ⟨B,j,none⟩=some (.int .i64 (zAi (l.map Prod.fst) j))) (hbB:B < w.heap.size) :
  Calls Tryz.prog 155 #[.agg #[.slice (some ⟨b,off,none⟩) n cap,.slice (some ⟨B,0,none⟩) n n,av],.int .i64 pl,.slice (some ⟨bH,0,none⟩) n n] w fun e w'=>
   e=.returned (.tuple #[.func (.func 164) #[] #[.pointer (some ⟨w.heap.size+1+1,0,none⟩),.pointer (some ⟨w.heap.size+1,0,none⟩)],.func (.func 165) #[] #[.pointer (some ⟨w.heap.size+1+1,0,none⟩),.pointer (some ⟨w.heap.size,0,none⟩),.pointer (some ⟨w.heap.size+1,0,none⟩)]])/\Below w.heap.size w w'/\Hid (PartsAt w' (w.heap.size+1+1) w.heap.size (w.heap.size+1) bH n B pl h l):=by
 subst hav;have HR:=(show Hid _ from hr)
 have HE:=(show Hid _ from he)
 clear hr he
 go_enter Tryz.func155,Tryz.ntmps155
 go_wp2_with fail
 go_ret2
 have hb:Below w.heap.size w (((w.alloc (.cells #[.slice (some ⟨b,off,none⟩) n cap,.slice (some ⟨B,0,none⟩) n n,.slice aao an ac] 141)).alloc (.cells #[.int .i64 pl] 3)).alloc (.cells #[.slice (some ⟨bH,0,none⟩) n n] 104)):=(((Below.refl _ _).alloc (Nat.le_refl _) _).alloc (by simp) _).alloc (by simp;omega) _
 refine ⟨rfl,hb,?_⟩
 show PartsAt _ _ _ _ _ _ _ _ _ _
 constructor
 ·simp [go_sem]
 ·exact fun j hj=>(hb.cell (p:=⟨bH,j,none⟩) hbH).trans (HR.out j hj)
 ·simp [go_sem]
 ·exact fun j hj=>(hb.cell (p:=⟨B,j,none⟩) hbB).trans (HE.out j hj)
 ·simp [go_sem]
theorem PartsAt.below {w w':World} {bh bf bp bH n B pl:Nat} {h:Nat->Bool} {l:List (Int × Int)} (p:PartsAt w bh bf bp bH n B pl h l) (hb:Below w.heap.size w w') (h1:bh < w.heap.size) (h2:bf < w.heap.size) (h3:bp < w.heap.size) (h4:bH < w.heap.size) (h5:B < w.heap.size):PartsAt w' bh bf bp bH n B pl h l:=
 ⟨(hb.cell (p:=⟨bh,0,none⟩) h1).trans p.holds,fun j hj=>(hb.cell (p:=⟨bH,j,none⟩) h4).trans (p.row j hj),(hb.cell (p:=⟨bf,1,none⟩) h2).trans p.ends,fun j hj=>(hb.cell (p:=⟨B,j,none⟩) h5).trans (p.erow j hj),(hb.cell (p:=⟨bp,0,none⟩) h3).trans p.place⟩
theorem PartsAt.first {w:World} {bh bf bp bH n B pl:Nat} {h:Nat->Bool} {l:List (Int × Int)} (p:PartsAt w bh bf bp bH n B pl h l) (hn:n <= 60) (hp:pl+1 < n) (q:Nat) :
  Calls Tryz.prog 164 #[.pointer (some ⟨bh,0,none⟩),.pointer (some ⟨bp,0,none⟩)] (w.drewN q) fun e w'=>e=.returned (.bool (h (pl+1)))/\w'=w.drewN q:=
 zEu bh bp bH n pl _ _ hn hp (by simpa using p.holds) (by simpa using p.place) (by simpa using p.row _ hp)
theorem PartsAt.second {w:World} {bh bf bp bH n B pl:Nat} {h:Nat->Bool} {l:List (Int × Int)} (p:PartsAt w bh bf bp bH n B pl h l) (hn:n <= 60) (hp:pl+1 < n) (hs:sec l pl < n) (q:Nat) :
  Calls Tryz.prog 165 #[.pointer (some ⟨bh,0,none⟩),.pointer (some ⟨bf,0,none⟩),.pointer (some ⟨bp,0,none⟩)] (w.drewN q) fun e w'=>e=.returned (.bool (h (sec l pl)))/\∃ r,w'=w.drewN r:=
 (zFq bh bf bp bH n B pl (sec l pl) _ _ hn hp hs (by simpa using p.holds) (by simpa using p.place) (by simpa using p.ends) (by have:=p.erow _ hp;unfold sec;simpa using this) (by simpa using p.row _ hs)).mono fun e w' ⟨h1,r,h2⟩=>⟨h1,q+r,by rw [h2,World.drewN_drewN]⟩
theorem zOg (k v:Int) (lo:Option Addr) (lc bh bf bp bH n B pl:Nat) (letter:List Bool) (h:Nat->Bool) (l:List (Int × Int)) (w:World) (hn:n <= 60)
  (hL:zAQ w (.slice lo letter.length lc) letter) (hP:PartsAt w bh bf bp bH n B pl h l) (b1:bh < w.heap.size) (b2:bf < w.heap.size) (b3:bp < w.heap.size) (b4:bH < w.heap.size) (b5:B < w.heap.size)
  (h13:k=13->0 <= v/\v < letter.length) (h1:k=10\/k=8\/k=9->pl+1 < n) (h2:k=8\/k=9->sec l pl < n) :
  Calls Tryz.prog 156 #[.agg #[.int .i64 k,.int .i64 v],.slice lo letter.length lc,.func (.func 164) #[] #[.pointer (some ⟨bh,0,none⟩),.pointer (some ⟨bp,0,none⟩)],.func (.func 165) #[] #[.pointer (some ⟨bh,0,none⟩),.pointer (some ⟨bf,0,none⟩),.pointer (some ⟨bp,0,none⟩)]] w fun e w'=>
   e=.returned (.bool (mkB (k,v) letter (h (pl+1)) (h (sec l pl))))/\Below w.heap.size w w':=by
 have hA:∀ o,Below w.heap.size w (w.alloc o):=fun o=>(Below.refl _ _).alloc (Nat.le_refl _) o
 have hP':=fun o=>hP.below (hA o) b1 b2 b3 b4 b5
 by_cases e13:k=13
 ·subst e13
  obtain ⟨hv0,hv1⟩:=h13 rfl;obtain ⟨vn,rfl⟩:∃ vn:Nat,v=vn:=⟨v.toNat,by omega⟩
  obtain ⟨lo',lc',hls,hll⟩:=hL
  injection hls with e1 e2 e3
  subst e1;obtain ⟨b,off,rfl,hbl,hat⟩:=hll (by intro h;rw [h] at hv1;simp at hv1;omega)
  have hc:=fun o=>((hA o).cell (p:=⟨b,off+vn,none⟩) hbl).trans (hat vn (by omega))
  have hm:mkB (13,(vn:Int)) letter (h (pl+1)) (h (sec l pl))=letter.getD vn false:=by simp [mkB]
  rw [hm];generalize letter.getD vn false=x at hc ⊢;generalize letter.length=ln at *;have hvl:vn < ln:=by omega
  clear hm hll hat hv0 hv1 h1 h2 h13 hP hP'
  go_enter Tryz.func156,Tryz.ntmps156
  go_wp2_with fail
  go_ret
  exact ⟨rfl,hA _⟩
 ·by_cases e11:k=11
  ·subst e11
   have hm:mkB (11,v) letter (h (pl+1)) (h (sec l pl))=true:=by simp [mkB]
   rw [hm];clear hm hL h1 h2 h13 hP hP' e13
   go_enter Tryz.func156,Tryz.ntmps156
   go_wp2_with fail
   go_ret
   exact ⟨rfl,hA _⟩
  ·by_cases e10:k=10
   ·subst e10
    have hp:=h1 (.inl rfl);have hf:=fun o=>(hP' o).first hn hp 0
    have hm:mkB (10,v) letter (h (pl+1)) (h (sec l pl))=!h (pl+1):=by simp [mkB]
    rw [hm];generalize h (pl+1)=x at hf ⊢;clear hm hL h1 h2 h13 hP hP' e13 e11
    go_enter Tryz.func156,Tryz.ntmps156
    go_wp2_with (go_at_call 164;refine (hf _).mono ?_;rintro e w1 ⟨rfl,rfl⟩)
    go_ret
    exact ⟨rfl,below_drewN (hA _) 0⟩
   ·by_cases e8:k=8
    ·subst e8
     have hp:=h1 (.inr (.inl rfl));have hs:=h2 (.inl rfl);have hf:=fun o q=>(hP' o).first hn hp q
     have hf2:=fun o q=>(hP' o).second hn hp hs q
     have hm:mkB (8,v) letter (h (pl+1)) (h (sec l pl))=(h (pl+1)&&h (sec l pl)):=by simp [mkB]
     rw [hm];generalize h (pl+1)=x at hf ⊢;generalize h (sec l pl)=y at hf2 ⊢;clear hm hL h1 h2 h13 hP hP' e13 e11 e10
     cases x
     ·go_enter Tryz.func156,Tryz.ntmps156
      go_wp2_with (go_at_call 164;refine (hf _ 0).mono ?_;rintro e w1 ⟨rfl,rfl⟩)
      go_ret
      exact ⟨rfl,below_drewN (hA _) 0⟩
     ·go_enter Tryz.func156,Tryz.ntmps156
      go_wp2_with (first | (go_at_call 164;refine (hf _ 0).mono ?_;rintro e w1 ⟨rfl,rfl⟩) | (go_at_call 165;refine (hf2 _ 0).mono ?_;rintro e w1 ⟨rfl,r,rfl⟩))
      go_ret
      exact ⟨by simp,below_drewN (hA _) _⟩
    ·by_cases e9:k=9
     ·subst e9
      have hp:=h1 (.inr (.inr rfl));have hs:=h2 (.inr rfl);have hf:=fun o q=>(hP' o).first hn hp q
      have hf2:=fun o q=>(hP' o).second hn hp hs q
      have hm:mkB (9,v) letter (h (pl+1)) (h (sec l pl))=(h (pl+1)||h (sec l pl)):=by simp [mkB]
      rw [hm];generalize h (pl+1)=x at hf ⊢;generalize h (sec l pl)=y at hf2 ⊢;clear hm hL h1 h2 h13 hP hP' e13 e11 e10 e8
      cases x
      ·go_enter Tryz.func156,Tryz.ntmps156
       go_wp2_with (first | (go_at_call 164;refine (hf _ 0).mono ?_;rintro e w1 ⟨rfl,rfl⟩) | (go_at_call 165;refine (hf2 _ 0).mono ?_;rintro e w1 ⟨rfl,r,rfl⟩))
       go_ret
       exact ⟨by simp,below_drewN (hA _) _⟩
      ·go_enter Tryz.func156,Tryz.ntmps156
       go_wp2_with (go_at_call 164;refine (hf _ 0).mono ?_;rintro e w1 ⟨rfl,rfl⟩)
       go_ret
       exact ⟨rfl,below_drewN (hA _) 0⟩
     ·have hm:mkB (k,v) letter (h (pl+1)) (h (sec l pl))=false:=by simp [mkB,e13,e11,e10,e8,e9]
      rw [hm];clear hm hL h1 h2 h13 hP hP'
      go_enter Tryz.func156,Tryz.ntmps156
      go_wp2_with fail
      go_ret
      exact ⟨rfl,hA _⟩
end Go.Proofs.YtiimhhjkgeepjaaGreatDoor
namespace Go.Proofs.YtiimhhjkgeepjaaGreatDoor
open Go.ChangeShapes Go.WideShapes Go.ChangeAt Go.RowKit Go.Deep Go.Shelf
open Terms
set_option maxHeartbeats 6400000
set_option maxRecDepth 20000
attribute [local go_sem] Oper.semAt_some
def zGO {n:Nat} (h:0 < n) (j:Nat):Fin n:=⟨n - 1 - j,by omega⟩
def zCn {n:Nat} (h:0 < n) (k:Nat):List (Fin n):=(List.range k).map (zGO h)
theorem zE9 {n:Nat} (h:0 < n) (k:Nat):zCn h (k+1)=zCn h k++[zGO h k]:=by simp [zCn,List.range_succ]
theorem zJj {n:Nat} (h:0 < n) (k:Nat):(zCn h k).length=k:=by simp [zCn]
def zGp (l:List (Int × Int)) (n:Nat) (x:Fin n):Array Value:=#[.int .i64 (x.1:Int),.agg #[.int .i64 (l.getD x.1 (0,0)).1,.int .i64 (l.getD x.1 (0,0)).2]]
def zDm (n₀ Bs:Nat) (A B:World):Prop:=Below n₀ A B/\B.heap[Bs]? = A.heap[Bs]?
set_option maxRecDepth 100000 in
theorem zPq (F:Fence) (m:Nat) (h7:F.fn 124) (hro:F.round=none) (hm:1 <= m) (L Bs n₀ b off n cap:Nat) (l:List (Int × Int)) (h0n:0 < n) (h60:n <= 60) (hnl:n=l.length) (hb:b < n₀) (J Jx:List (Fin n)->World->Prop)
  (hY:∀ pre x W,J pre W->pre.length < n->YieldAt F (m - 1) Tryz.prog L (zGp l n x) W fun e W'=>
   (e=.returned (.bool true)/\J (pre++[x]) W'/\zDm n₀ Bs W W')\/(e=.returned (.bool false)/\Jx (pre++[x]) W'))
  (W:World) (hBs:W.cell? ⟨Bs,0,none⟩=some (.slice (some ⟨b,off,none⟩) n cap)) (hc:zA4 W b off l) (h0:J [] W) :
  CallsIn F m Tryz.prog 124 #[.func (.yield L) #[] #[],.pointer (some ⟨Bs,0,none⟩)] W fun e W'=>(∃ v,e=.returned v)/\
   ((∃ ys,ys=zCn h0n n/\J ys W')\/(∃ pre,(∃ k,k <= n/\pre=zCn h0n k)/\Jx pre W')):=by
 refine callsIn_of_wp Tryz.func124 rfl h7 ?_ hro
 simp only [Tryz.ntmps124,List.size_toArray,List.length_cons,List.length_nil,Nat.reduceAdd,Nat.reduceSub,Array.replicate_succ,Array.replicate_zero,List.push_toArray,List.append_toArray,List.nil_append,List.cons_append];have HC:Hid (zA4 W b off l):=hc;have HN:Hid (n=l.length):=hnl;clear hc hnl
 gi_wp2
 gi_loopw [3] (fun i wr=>∃ k:Nat,k <= n/\i=.int .i64 ((n:Int) - 1 - k)/\J (zCn h0n k) wr/\zDm n₀ Bs W wr)
  (fun i _=>(intOf i+1).toNat)
 case atStart=>exact ⟨0,Nat.zero_le _,by first | rfl | simp,h0,Below.refl _ _,rfl⟩
 case round=>
  obtain ⟨k,hk,rfl,hJs,hnx,hbx⟩:=hrel;have hcb:wr.cell? ⟨Bs,0,none⟩=some (.slice (some ⟨b,off,none⟩) n cap):=(World.cell?_of_block (w:=W) hbx).trans hBs
  by_cases hlt:k < n
  ·obtain ⟨p,hp⟩:∃ p:Nat,p=n - 1 - k:=⟨_,rfl⟩
   have hpi:(n:Int) - 1 - k=(p:Int):=by omega
   have hpn:p < n:=by omega
   obtain ⟨c0,c1⟩:=(HC.out.below hnx hb) p (by rw [<- HN.out];exact hpn)
   obtain ⟨fn,tmps,assign,body,hy,hR⟩:=hY _ (zGO h0n k) wr hJs (by rw [zJj];exact hlt)
   have hba:(zGO h0n k).1=p:=hp.symm;simp only [zGp,hba] at hy;rw [hpi];have HPI:Hid ((n:Int) - 1 - k=(p:Int)):=hpi;clear hp hpi hba;generalize l.getD p (0,0)=xy at c0 c1 hy;obtain ⟨x,y⟩:=xy;simp only at c0 c1 hy
   gi_wp2
   refine hR.mono ?_
   rintro e W3 (⟨rfl,hJ3,hk3,hk4⟩ | ⟨rfl,hJx3⟩)
   ·gi_wp2
    go_roundw
    case rel=>exact ⟨k+1,by omega,by have:=HPI.out;first | (congr 1;omega) | (simp;omega),by rw [zE9];exact hJ3,hnx.trans hk3,hk4.trans hbx⟩
    case measure=>have:=HPI.out;first | (simp [intOf];omega) | simp [intOf]
   ·gi_wp2
    refine bodyPost_ret (results_none rfl _ _ _) rfl ?_
    exact ⟨⟨_,rfl⟩,.inr ⟨_,⟨k+1,by omega,(zE9 _ _).symm⟩,hJx3⟩⟩
  ·obtain rfl:k=n:=by omega
   have hpi:(k:Int) - 1 - k=-1:=by omega
   rw [hpi]
   gi_wp2
   go_end0
   exact ⟨⟨_,rfl⟩,.inl ⟨_,rfl,hJs⟩⟩
theorem zMC (F:Fence) (m:Nat) (h5:F.fn 94) (hro:F.round=none) (a:Option Addr) (len cap:Nat) (w:World) :
  CallsIn F m Tryz.prog 94 #[.slice a len cap] w fun e w'=>e=.returned (.func (.func 124) #[] #[.pointer (some ⟨w.heap.size,0,none⟩)])/\w'=w.alloc (.cells #[.slice a len cap] 27):=by
 refine callsIn_of_wp Tryz.func94 rfl h5 ?_ hro
 simp only [Tryz.ntmps94,List.size_toArray,List.length_cons,List.length_nil,Nat.reduceAdd,Nat.reduceSub,Array.replicate_succ,Array.replicate_zero,List.push_toArray,List.append_toArray,List.nil_append,List.cons_append]
 gi_wp2
 go_ret
 exact ⟨rfl,rfl⟩
theorem zMv (F:Fence) (m:Nat) (h7:F.fn 124) (hro:F.round=none) (hm:1 <= m) (Bs n₀ b off n cap:Nat) (l:List (Int × Int)) (h0n:0 < n) (h60:n <= 60) (hnl:n=l.length) (hb:b < n₀) (w:World) (hBs:Bs < w.heap.size) (hn₀:n₀ <= w.heap.size)
  (hc:w.cell? ⟨Bs,0,none⟩=some (.slice (some ⟨b,off,none⟩) n cap)) (hI:zA4 w b off l) :
  SeqStopsK F m Tryz.prog 124 #[.pointer (some ⟨Bs,0,none⟩)] (zGp l n) (zDm n₀ Bs) (fun ys=>ys=zCn h0n n)
   (fun pre=>∃ k,k <= n/\pre=zCn h0n k) n w:=fun L J Jx W hW _ _ hY h0=>
 zPq F m h7 hro hm L Bs n₀ b off n cap l h0n h60 hnl hb J Jx hY W ((hW.cell (p:=⟨Bs,0,none⟩) hBs).trans hc) (hI.below (hW.mono hn₀) hb) h0
theorem zL1 {n₀ Bs:Nat} {A B C:World} (h:zDm n₀ Bs A B) (k:zDm n₀ Bs B C):zDm n₀ Bs A C:=⟨h.1.trans k.1,k.2.trans h.2⟩
theorem zMH {n₀ Bs:Nat} {w:World} (hn:n₀ <= w.heap.size) (hB:Bs < w.heap.size) (W:World) (l:Nat) (o o':Obj) (hl:w.heap.size <= l) (h:W.heap[l]? = some o) (h1:o.isCells=false) (h2:o.isWalk=false):zDm n₀ Bs W (W.putObj l o'):=
 ⟨belowK_b hn W l o o' hl h h1 h2,(belowK_b (n₀:=Bs+1) (w:=w) hB W l o o' hl h h1 h2).block Bs (Nat.lt_succ_self _)⟩
end Go.Proofs.YtiimhhjkgeepjaaGreatDoor
namespace Go.Proofs.YtiimhhjkgeepjaaGreatDoor
open Go.ChangeShapes Go.WideShapes Go.ChangeAt Go.RowKit Go.Deep Go.Shelf
open Terms
set_option maxHeartbeats 6400000
set_option maxRecDepth 20000
attribute [local go_sem] Oper.semAt_some
def zCK (l:List (Int × Int)) (claim:Int) (k:Nat) (j:Nat):Bool:=if zAP (l.getD j (0,0)).1=true/\(zAF l j).length < k then zCH claim (zAF l j).length else false
def zJr (l:List (Int × Int)) (letter:List Bool) (h:Nat->Bool) (p:Nat):Nat->Bool:=if zAP (l.getD p (0,0)).1=true then h else fun j=>if j=p then mkB (l.getD p (0,0)) letter (h (p+1)) (h (sec l p)) else h j
def zCR (l:List (Int × Int)) (letter:List Bool) (h:Nat->Bool) {n:Nat} (xs:List (Fin n)):Nat->Bool:=xs.foldl (fun h x=>zJr l letter h x.1) h
theorem zIJ (l:List (Int × Int)) (letter:List Bool) (h:Nat->Bool) {n:Nat} (xs:List (Fin n)) (x:Fin n):zCR l letter h (xs++[x])=zJr l letter (zCR l letter h xs) x.1:=by simp [zCR]
theorem zNv {l:List (Int × Int)} {letter:List Bool} {claim:Int} (hz:zAE (l.map Prod.fst)=0) {n:Nat} (h0n:0 < n) (hn:n=l.length) :
  ∀ k,k <= n->∀ j,j < n->zCR l letter (zCK l claim (zAA l).length) (zCn h0n k) j=if n - k <= j then tru l letter claim j else zCK l claim (zAA l).length j:=by
 intro k
 induction k with
 | zero=>
  intro _ j hj;rw [if_neg (by omega)]
  simp [zCn,zCR]
 | succ k ih=>
  intro hk j hj;have ih':=ih (by omega)
  rw [zE9,zIJ];have hp:(zGO h0n k).1=n - 1 - k:=rfl;rw [hp];obtain ⟨p,hpe⟩:∃ p,p=n - 1 - k:=⟨_,rfl⟩
  rw [<- hpe];have hpl:p < l.length:=by omega
  unfold zJr
  cases hb:zAP (l.getD p (0,0)).1 with
  | true=>
   rw [if_pos rfl,ih' j hj]
   by_cases hjp:j=p
   ·subst hjp
    rw [if_neg (by omega),if_pos (by omega),zHW hpl hb]
    unfold zCK;exact if_pos ⟨hb,zCg l hpl hb⟩
   ·by_cases hle:n - k <= j
    ·rw [if_pos hle,if_pos (by omega)]
    ·rw [if_neg hle,if_neg (by omega)]
  | false=>
   rw [if_neg (by decide)]
   by_cases hjp:j=p
   ·subst hjp
    rw [if_pos rfl,if_pos (by omega)]
    obtain ⟨h1,h2⟩:=zDZ hz hpl;rw [zKu hpl hb (fun h=>(h2 h).1)]
    have hpn:=zNp (l.getD j (0,0)).1
    by_cases p2:pn (l.getD j (0,0)).1=2
    ·obtain ⟨s1,s2⟩:=h2 p2
     have s0:=h1 (by omega)
     rw [ih' (j+1) (by omega),ih' (sec l j) (by omega),if_pos (by omega),if_pos (by omega)]
    ·have hk89:(l.getD j (0,0)).1≠8/\(l.getD j (0,0)).1≠9:=by
      constructor <;> intro e <;> rw [e] at p2 <;> exact absurd rfl p2
     by_cases p1:pn (l.getD j (0,0)).1=1
     ·have s0:=h1 (by omega)
      rw [ih' (j+1) (by omega),if_pos (by omega)]
      simp only [mkB,hk89.1,hk89.2,if_false]
     ·have hk10:(l.getD j (0,0)).1≠10:=by intro e;rw [e] at p1;exact absurd rfl p1
      simp only [mkB,hk89.1,hk89.2,hk10,if_false]
   ·rw [if_neg hjp,ih' j hj]
    by_cases hle:n - k <= j
    ·rw [if_pos hle,if_pos (by omega)]
    ·rw [if_neg hle,if_neg (by omega)]
structure TrSt (w:World) (fo ev av lv:Value) (n:Nat) (h:Nat->Bool) (W0s:Nat) (W:World):Prop where
 three:zB7 W w.heap.size fo ev av
 letter:W.cell? ⟨w.heap.size+1,0,none⟩=some lv
 holds:W.cell? ⟨w.heap.size+1+1+1,0,none⟩=some (.slice (some ⟨w.heap.size+1+1,0,none⟩) n n)
 row:W.rowIs (w.heap.size+1+1) 4 n (fun j=>.bool (h j))
 below:Below w.heap.size w W
 size:W0s <= W.heap.size
theorem TrSt.later {w:World} {fo ev av lv:Value} {n:Nat} {h:Nat->Bool} {s B:Nat} {W W':World} (t:TrSt w fo ev av lv n h s W) (hb:Below B W W') (hB:w.heap.size+4 <= B):TrSt w fo ev av lv n h s W':=
 ⟨t.three.below hb (by omega),(hb.cell (p:=⟨w.heap.size+1,0,none⟩) (by simp;omega)).trans t.letter,(hb.cell (p:=⟨w.heap.size+1+1+1,0,none⟩) (by simp;omega)).trans t.holds,t.row.of_block (hb.block _ (by omega)),t.below.trans (hb.mono (by omega)),Nat.le_trans t.size hb.size⟩
theorem TrSt.congr {w:World} {fo ev av lv:Value} {n:Nat} {h h':Nat->Bool} {s:Nat} {W:World} (t:TrSt w fo ev av lv n h s W) (e:∀ j,j < n->h j=h' j):TrSt w fo ev av lv n h' s W:=
 ⟨t.three,t.letter,t.holds,t.row.congr fun j hj=>by rw [e j hj],t.below,t.size⟩
theorem TrSt.put {w:World} {fo ev av lv:Value} {n:Nat} {h:Nat->Bool} {s:Nat} {W:World} (t:TrSt w fo ev av lv n h s W) (p:Nat) (x:Bool):TrSt w fo ev av lv n (fun j=>if j=p then x else h j) s (W.setCell ⟨w.heap.size+1+1,p,none⟩ (.bool x)):=by
 have hb:∀ k,k≠w.heap.size+1+1->(W.setCell ⟨w.heap.size+1+1,p,none⟩ (.bool x)).heap[k]? = W.heap[k]?:=fun k hk=>Below.heap_setCell W _ _ k hk
 have hc:∀ k q,k≠w.heap.size+1+1->(W.setCell ⟨w.heap.size+1+1,p,none⟩ (.bool x)).cell? ⟨k,q,none⟩=W.cell? ⟨k,q,none⟩:=fun k q hk=>World.cell?_of_block (w:=W) (hb k hk)
 have hf:∀ q,(W.setCell ⟨w.heap.size+1+1,p,none⟩ (.bool x)).frozen? ⟨w.heap.size,q,none⟩=W.frozen? ⟨w.heap.size,q,none⟩:=fun q=>by rw [World.frozen?_setCell]
 obtain ⟨k0,k1,k2,f0,f1,f2,hl⟩:=t.three;refine ⟨⟨(hc _ _ (by omega)).trans k0,(hc _ _ (by omega)).trans k1,(hc _ _ (by omega)).trans k2,(hf 0).trans f0,(hf 1).trans f1,(hf 2).trans f2,by simpa using hl⟩,(hc _ _ (by omega)).trans t.letter,(hc _ _ (by omega)).trans t.holds,?_,t.below.setCell (by simp;omega) _,by simpa using t.size⟩
 refine (t.row.set p (.bool x)).congr fun i _=>?_
 by_cases hip:i=p
 ·rw [if_pos hip,if_pos hip]
 ·rw [if_neg hip,if_neg hip]
theorem TrSt.drew {w:World} {fo ev av lv:Value} {n:Nat} {h:Nat->Bool} {s:Nat} {W:World} (t:TrSt w fo ev av lv n h s W):TrSt w fo ev av lv n h s W.drew:=
 ⟨⟨t.three.1,t.three.2.1,t.three.2.2.1,t.three.2.2.2.1,t.three.2.2.2.2.1,t.three.2.2.2.2.2.1,t.three.2.2.2.2.2.2⟩,t.letter,t.holds,t.row.of_block rfl,t.below.drew,t.size⟩
theorem zMx:∀ c,c < 64->(bits BinOp.and IntKind.i64 ((c:Nat):Int) 1 == 1)=decide (((c:Nat):Int) % 2=1):=by decide
theorem zOR {claim:Int} {k:Nat} (h0:0 <= claim) (h:claim < 64):(bits BinOp.and IntKind.i64 (claim / 2 ^ k) 1 == 1)=zCH claim k:=by
 have h2:(0:Int) < 2 ^ k:=Int.pow_pos (by decide)
 have h3:0 <= claim / 2 ^ k:=Int.ediv_nonneg h0 (Int.le_of_lt h2);have h4:claim / 2 ^ k <= claim:=Int.ediv_le_self _ h0;obtain ⟨c,hc⟩:∃ c:Nat,claim / 2 ^ k=c:=⟨(claim / 2 ^ k).toNat,by omega⟩
 unfold zCH;rw [hc];exact zMx c (by omega)
theorem zOo {l:List (Int × Int)} {claim:Int} {k p:Nat} (hlk:zAP (l.getD p (0,0)).1=true) (hpi:(zAF l p).length=k) (j:Nat):(if j=p then zCH claim k else zCK l claim k j)=zCK l claim (k+1) j:=by
 unfold zCK
 by_cases hjp:j=p
 ·subst hjp
  rw [if_pos rfl,if_pos ⟨hlk,by omega⟩,hpi]
 ·rw [if_neg hjp]
  by_cases hb:zAP (l.getD j (0,0)).1=true
  ·have hne:(zAF l j).length≠k:=by
    intro e
    rcases Nat.lt_or_gt_of_ne hjp with h | h
    ·have:=zCg l h hb;omega
    ·have:=zCg l h hlk;omega
   by_cases hl:(zAF l j).length < k
   ·rw [if_pos ⟨hb,hl⟩,if_pos ⟨hb,by omega⟩]
   ·rw [if_neg (fun h=>hl h.2),if_neg (fun h=>by have:=h.2;omega)]
  ·rw [if_neg (fun h=>hb h.1),if_neg (fun h=>hb h.1)]
theorem zNi (fv lv:Value) (fo ev:Value) (aao:Option Addr) (an ac:Nat) (claim:Int) (lo:Option Addr) (ln lc:Nat) (oo eo:Option Addr) (on oc en ec:Nat) (hfo:fo=.slice oo on oc) (hev:ev=.slice eo en ec) (hlv:lv=.slice lo ln lc) (hfv:fv=.agg #[fo,ev,.slice aao an ac]) (h6:an <= 6) (w:World) (h:claim < 0\/2 ^ an <= claim) :
  Calls Tryz.prog 114 #[fv,lv,.int .i64 claim] w fun e w'=>e=.returned (.tuple #[.slice none 0 0,.int .i64 2])/\Below w.heap.size w w':=by
 subst hfo hev hlv hfv;have hb:∀ o o',Below w.heap.size w ((w.alloc o).alloc o'):=fun o o'=>((Below.refl _ _).alloc (Nat.le_refl _) o).alloc (by simp) o'
 rcases h with h | h
 ·go_enter Tryz.func114,Tryz.ntmps114
  go_wp2_with fail
  go_ret2
  exact ⟨rfl,hb _ _⟩
 ·have h0:0 <= claim:=by have:(0:Int) < 2 ^ an:=Int.pow_pos (by decide);omega
  have hcase:an=0\/an=1\/an=2\/an=3\/an=4\/an=5\/an=6:=by omega
  clear h6
  rcases hcase with rfl | rfl | rfl | rfl | rfl | rfl | rfl
  all_goals
   simp only [Int.reducePow] at h
   go_enter Tryz.func114,Tryz.ntmps114
   go_wp2_with fail
   go_ret2
   exact ⟨rfl,hb _ _⟩
end Go.Proofs.YtiimhhjkgeepjaaGreatDoor
namespace Go.Proofs.YtiimhhjkgeepjaaGreatDoor
open Go.ChangeShapes Go.WideShapes Go.ChangeAt Go.RowKit Go.Deep Go.Shelf
set_option maxHeartbeats 6400000
set_option maxRecDepth 20000
theorem zRl {P:Program} (L n:Nat) {o:Oper} {a:Act} {next:Act->World->Prop} {Q:Exit->Act->World->Prop} {r:Result Next} (h:o.upon P a next Q r):o.uponIn (Fence.wide.inRound L) n P a next Q r:=by
 have hd:∀ m:Nat,(Fence.wide.inRound L).depth.isSome=true->1 <= m:=fun m h=>by simp [Fence.wide,Fence.inRound] at h
 cases r with
 | halt x w'=>cases x <;> first | exact h | exact h.elim
 | ok x w'=>
  cases x with
  | value v=>exact h
  | skip=>exact h
  | defer d=>exact h
  | enter f args=>exact ⟨hd _,CallsIn.inRound L ((callsIn_wide.2 h).mono fun e w'' he=>by cases e <;> exact he)⟩
  | row row args=>exact ⟨hd _,fun c cs _=>by obtain ⟨v,w'',h1,h2⟩:=h c cs;exact ⟨v,w'',h1,stepsIn_wide.2 h2⟩⟩
  | _=>exact (h:False).elim
theorem zSY {P:Program} (L n:Nat) {md:Region.Mode} {ops:Array Oper} {Q:Exit->Act->World->Prop} (hd:∀ (i:Nat) (o:Oper),ops[i]? = some o->∀ c,o.op≠Op.defer c) (hQ:LetsOut Q->False) :
  ∀ (fuel:Nat) (listed:Array Bool) (a:Act) (w:World),wpAny P md ops Q fuel listed a w->wpAnyIn (Fence.wide.inRound L) n P md ops Q fuel listed a w:=by
 intro fuel
 induction fuel with
 | zero=>intro listed a w h;exact h
 | succ fuel ih=>
  intro listed a w h;refine ⟨h.1,fun i hi=>?_⟩
  have h1:=wpOp_mono (K':=wpAnyIn (Fence.wide.inRound L) n P md ops Q fuel (listed.setIfInBounds i true)) (fun a' w' h'=>ih _ a' w' h') (h.2 i hi)
  unfold wpOp at h1;unfold wpOpIn
  cases ho:ops[i]? with
  | none=>simp only [ho] at h1 ⊢;exact h1
  | some o=>
   simp only [ho] at h1 ⊢
   split
   ·rename_i hw
    rw [if_pos hw] at h1
    rcases h1 with h1 | ⟨_,h1⟩
    ·refine ⟨fun f _=>trivial,?_⟩
     rw [Oper.semAt_eq _ _ _ (hd i o ho)];exact zRl L n h1
    ·exact (hQ h1).elim
   ·rename_i hw
    rw [if_neg hw] at h1;exact ⟨fun f _=>trivial,h1⟩
theorem zGT {P:Program} {L n id:Nat} {ops:Array Oper} {Q:Exit->Act->World->Prop} {a:Act} {w:World} (S:World->Prop) (hm:P.follows .mixedOrders=true) (hd:∀ (i:Nat) (o:Oper),ops[i]? = some o->∀ c,o.op≠Op.defer c) (hQ:LetsOut Q->False)
  (h:wpAnyH P .any ops Q S ops.size (Array.replicate ops.size false) a w.drew):(Code.region id ops true).wpIn (Fence.wide.inRound L) n P Q a w:=
 wpIn_region_any hm (zSY L n hd hQ _ _ _ _ (wpAny_of_held _ _ _ _ h))
theorem zGQ {P:Program} {ops:Array Oper} {Q:Exit->Act->World->Prop} {i:Nat} {K:Act->World->Prop} {a:Act} {w:World} {o:Oper} {f:FuncId} {args:Array Value} {R:Ending->World->Prop} (hi:ops[i]? = some o) (hw:Region.wanted o (yielded ops a.tmps)=true) (hr:(execOp a.eval o).run P w=.ok (.enter f args) w) (h:Calls P f args w R)
  (hR:∀ e w',R e w'->∃ v,e=.returned v/\K (a.put o.dst v) w'):wpOp P ops Q i K a w:=by
 unfold wpOp;simp only [hi];rw [if_pos hw];refine Or.inl ?_
 unfold Oper.wp;rw [hr];refine h.mono fun e w' he=>?_
 obtain ⟨v,rfl,hk⟩:=hR e w' he;exact hk
theorem zJN {P:Program} {ops:Array Oper} {Q:Exit->Act->World->Prop} {i:Nat} {K:Act->World->Prop} {a:Act} {w w':World} {o:Oper} (hi:ops[i]? = some o) (hw:Region.wanted o (yielded ops a.tmps)=true) (hr:(execOp a.eval o).run P w=.ok .skip w') (h:K (a.put o.dst undef) w'):wpOp P ops Q i K a w:=by
 unfold wpOp;simp only [hi];rw [if_pos hw];refine Or.inl ?_
 unfold Oper.wp;rw [hr];exact h
end Go.Proofs.YtiimhhjkgeepjaaGreatDoor
namespace Go.Proofs.YtiimhhjkgeepjaaGreatDoor
open Go.ChangeShapes Go.WideShapes Go.ChangeAt Go.RowKit Go.Deep Go.Shelf
open Terms
set_option maxHeartbeats 6400000
set_option maxRecDepth 20000
attribute [local go_sem] Oper.semAt_some
def zRJ (p3 p4 p8 p11 p12 r0 r1 r2 r5 r6 r7 r9 r10 r13 r14 r15 r16 r17 r18 r19 r20 r21 r22 r23 r24 r25 r26 r27 r28 r29 r30 r31 r32 r33 r34 r35 r36 r37 r38 r39 r40 r41 r42 r43 r44 r45 r46 r47 r48 r49 r50 r51 r52 r53 r54 r55 r56 r57 r58 r59 r60 r61 r62 r63 r64 r65 r66 r67 r68 r69 r70:Value):Act:={ tmps:=#[r0,r1,r2,p3,p4,r5,r6,r7,p8,r9,r10,p11,p12,r13,r14,r15,r16,r17,r18,r19,r20,r21,r22,r23,r24,r25,r26,r27,r28,r29,r30,r31,r32,r33,r34,r35,r36,r37,r38,r39,r40,r41,r42,r43,r44,r45,r46,r47,r48,r49,r50,r51,r52,r53,r54,r55,r56,r57,r58,r59,r60,r61,r62,r63,r64,r65,r66,r67,r68,r69,r70],defers:=[]}
def zTN (w:World) (s:Nat) (o:Int × Int) (p:Nat) (a':Act) (W:World):Prop:=∃ Bx,s <= Bx/\W.cell? ⟨Bx,0,none⟩=some (.int .i64 o.1)/\W.cell? ⟨Bx,1,none⟩=some (.int .i64 o.2)/\∃ r0 r1 r2 r5 r6 r7 r9 r10 r13 r14 r15 r16 r17 r18 r19 r20 r21 r22 r23 r24 r25 r26 r27 r28 r29 r30 r31 r32 r33 r34 r35 r36 r37 r38 r39 r40 r41 r42 r43 r44 r45 r46 r47 r48 r49 r50 r51 r52 r53 r54 r55 r56 r57 r58 r59 r60 r61 r62 r63 r64 r65 r66 r67 r68 r69 r70:Value,a'=zRJ (.pointer (some ⟨w.heap.size,0,none⟩)) (.pointer (some ⟨w.heap.size+1,0,none⟩)) (.pointer (some ⟨w.heap.size+1+1+1,0,none⟩)) (.int .i64 (p:Int)) (.pointer (some ⟨Bx,0,none⟩)) r0 r1 r2 r5 r6 r7 r9 r10 r13 r14 r15 r16 r17 r18 r19 r20 r21 r22 r23 r24 r25 r26 r27 r28 r29 r30 r31 r32 r33 r34 r35 r36 r37 r38 r39 r40 r41 r42 r43 r44 r45 r46 r47 r48 r49 r50 r51 r52 r53 r54 r55 r56 r57 r58 r59 r60 r61 r62 r63 r64 r65 r66 r67 r68 r69 r70
theorem zId {B:Nat} {W W':World} (h:Below W.heap.size W W'):KeepsFrom B W W':=⟨h.size,fun k _ _ hk _=>(h.block k (Array.getElem?_eq_some_iff.1 hk).1).trans hk⟩
set_option maxRecDepth 100000 in
theorem zO6 (b off cap n B:Nat) (aao:Option Addr) (an ac:Nat) (lo:Option Addr) (ln lc:Nat) (l:List (Int × Int)) (letter:List Bool) (claim:Int) (w:World) (h0n:0 < n) (h60:n <= 60) (hn:n=l.length) (hz:zAE (l.map Prod.fst)=0) (hops:zA4 w b off l) (hbl:b < w.heap.size)
  (hrow:w.rowIs B 3 n (fun q=>.int .i64 (zAi (l.map Prod.fst) q))) (han:an=(zAA l).length) (hav:zAD w (.slice aao an ac) (zAA l)) (h6:an <= 6) (hln:ln=letter.length) (hL:zAQ w (.slice lo ln lc) letter) (hlf:zBo ln l=0) (h0:0 <= claim) (h1:claim < 2 ^ an) :
  Calls Tryz.prog 114 #[.agg #[.slice (some ⟨b,off,none⟩) n cap,.slice (some ⟨B,0,none⟩) n n,.slice aao an ac],.slice lo ln lc,.int .i64 claim] w fun e w'=>∃ bH,e=.returned (.tuple #[.slice (some ⟨bH,0,none⟩) n n,.int .i64 0])/\Below w.heap.size w w'/\Hid (w'.rowIs bH 4 n (fun j=>.bool (tru l letter claim j)))/\w.heap.size <= bH:=by
 refine (callsIn_wide (n:=8)).1 ?_
 refine callsIn_of_wp_marks Tryz.func114 rfl trivial ?_ rfl
 simp only [Tryz.ntmps114,List.size_toArray,List.length_cons,List.length_nil,Nat.reduceAdd,Nat.reduceSub,Array.replicate_succ,Array.replicate_zero,List.push_toArray,List.append_toArray,List.nil_append,List.cons_append];have hmk:=run_make_row' (P:=Tryz.prog) 104 4 (.bool false) 1 Tryz.underlying104 zFf rfl .i64 .i64 n (by omega) (by omega)
 have HO:Hid (zA4 w b off l):=hops;have HN:Hid (n=l.length):=hn;have HR:Hid (w.rowIs B 3 n (fun q=>.int .i64 (zAi (l.map Prod.fst) q))):=hrow
 have HAN:Hid (an=(zAA l).length):=han;have HAV:Hid (zAD w (.slice aao an ac) (zAA l)):=hav;have HLN:Hid (ln=letter.length):=hln;have HL:Hid (zAQ w (.slice lo ln lc) letter):=hL;have HLF:Hid (zBo ln l=0):=hlf;have HZ:Hid (zAE (l.map Prod.fst)=0):=hz;clear hops hn hrow han hav hln hL hlf hz
 have hcase:an=0\/an=1\/an=2\/an=3\/an=4\/an=5\/an=6:=by omega
 have hsh:(2:Int) ^ an <= 64:=by rcases hcase with rfl | rfl | rfl | rfl | rfl | rfl | rfl <;> decide
 clear hcase
 gi_wp2
 have HS0:Hid (TrSt w (.slice (some ⟨b,off,none⟩) n cap) (.slice (some ⟨B,0,none⟩) n n) (.slice aao an ac) (.slice lo ln lc) n (zCK l claim 0) 0 ((((w.alloc (.cells #[.slice (some ⟨b,off,none⟩) n cap,.slice (some ⟨B,0,none⟩) n n,.slice aao an ac] 141)).alloc (.cells #[.slice lo ln lc] 104)).alloc (.cells (madeCells #[.bool false] n) 4)).alloc (.cells #[.slice (some ⟨w.heap.size+1+1,0,none⟩) n n] 104))):=by
  have r:=World.rowIs_made ((w.alloc (.cells #[.slice (some ⟨b,off,none⟩) n cap,.slice (some ⟨B,0,none⟩) n n,.slice aao an ac] 141)).alloc (.cells #[.slice lo ln lc] 104)) (.bool false) n 4;simp only [World.size_alloc] at r
  have hB3:∀ o1 o2 o3 o4,Below (w.heap.size+1) (w.alloc o1) ((((w.alloc o1).alloc o2).alloc o3).alloc o4):=fun o1 o2 o3 o4=>(((Below.refl _ _).alloc (by simp) o2).alloc (by simp) o3).alloc (by simp) o4
  exact ⟨(zB7.new w _ _ _ _).below (hB3 _ _ _ _) (Nat.lt_succ_self _),by simp [go_sem],by simp [go_sem],(r.of_block (Below.heap_alloc _ _ _ r.lt)).congr (fun j _=>by simp [zCK]),((((Below.refl _ _).alloc (Nat.le_refl _) _).alloc (by simp) _).alloc (by simp;omega) _).alloc (by simp;omega) _,Nat.zero_le _⟩
 gi_loopw [32] (fun i wr=>∃ k:Nat,k <= an/\i=.int .i64 k/\Hid (TrSt w (.slice (some ⟨b,off,none⟩) n cap) (.slice (some ⟨B,0,none⟩) n n) (.slice aao an ac) (.slice lo ln lc) n (zCK l claim k) 0 wr)) (fun i _=>an - (intOf i).toNat)
 case atStart=>
  exact ⟨0,Nat.zero_le _,rfl,HS0.out⟩
 case round=>
  obtain ⟨k,hk,rfl,HSt⟩:=hrel;have hst:=HSt.out
  by_cases hlt:k < an
  ·obtain ⟨p,hp,hpn,hlk,hpi⟩:=zCV l l.length k (by have:=HAN.out;unfold zAA at this;omega)
   obtain ⟨ao',cap',hsl,hai⟩:=HAV.out
   injection hsl with e1 e2 e3
   subst e1;obtain ⟨ab,aoff,rfl,habl,haat⟩:=hai (by intro h;have:=HAN.out;rw [h] at this;simp at this;omega)
   have hca:=(hst.below.cell (p:=⟨ab,aoff+k,none⟩) habl).trans (haat k (by rw [<- HAN.out];exact hlt))
   have hca':wr.cell? ⟨ab,aoff+k,none⟩=some (.int .i64 (p:Int)):=by rw [hca];exact congrArg (fun z=>some (Value.int .i64 z)) hp
   have hch:=hst.holds;have hf:=hst.row.frozen p;have hpn':p < n:=by rw [HN.out];exact hpn
   have hcp:=hst.row.cell hpn';obtain ⟨t0,t1,t2,_⟩:=hst.three;have HP:Hid (zAP (l.getD p (0,0)).1=true/\(zAF l p).length=k):=⟨hlk,hpi⟩;clear hp hpn hlk hpi hai haat hca e2 e3;have hmx:Tryz.prog.follows .mixedOrders=true:=by kernel_rfl
   gi_wp2
   gi_region_o
   all_goals gi_wp2
   refine ⟨⟨k+1,hlt,by first | rfl | simp,?_⟩,by simp [intOf];omega⟩
   rw [zOR h0 (by omega)]
   exact ((hst.put p (zCH claim k)).congr (fun j _=>zOo HP.out.1 HP.out.2 j)).drew
  ·obtain rfl:k=an:=by omega
   have HAL:Hid (k=(zAA l).length):=HAN.out;obtain ⟨t0,t1,t2,_⟩:=hst.three;generalize wr=W1 at *;clear hmk HS0 hlt hk HAV
   gi_wp2_with (refine ⟨trivial,?_⟩;gi_at_call 94;refine (zMC Fence.wide _ trivial rfl _ _ _ _).mono ?_;rintro e w' ⟨rfl,rfl⟩)
   have hs3:w.heap.size+4 <= W1.heap.size:=by have:=World.block_lt_of_cell? W1 ⟨w.heap.size+1+1+1,0,none⟩ hst.holds;simp at this;omega
   refine wpIn_rangeFunc_ownH rfl (by decide) (gf:=124) (lb:=#[.pointer (some ⟨W1.heap.size,0,none⟩)]) rfl trivial (enters_of Tryz.func124 (by kernel_rfl) rfl)
    (zMv Fence.wide 7 trivial rfl (by decide) W1.heap.size w.heap.size b off n cap l h0n h60 HN.out hbl _ (by simp) (by simp;omega) (by simp [go_sem]) (HO.out.below (hst.below.alloc hst.below.size _) hbl)) zL1 (zMH (by simp;omega) (by simp)) (Below.refl _ _) (fun _=>rfl)
    (fun pre W=>TrSt w (.slice (some ⟨b,off,none⟩) n cap) (.slice (some ⟨B,0,none⟩) n n) (.slice aao k ac) (.slice lo ln lc) n (zCR l letter (zCK l claim k) pre) (W1.heap.size+1) W)
    (fun _ _ _=>False)
    (fun s A Bw row hs hg hr=>hs.later (B:=W1.heap.size+1) ((Below.refl _ _).grown hg hs.size (fun z e=>by have:=(hr z e).1;simp at this;omega)) (by omega))
    (fun _ _ _ _ _ hs _ _=>hs)
    ?h0 (fun x=>zTN w (W1.heap.size+1) (l.getD x.1 (0,0)) x.1) (fun x a' _ X Y row hs hg hr=>by obtain ⟨Bx,h1,h2,h3,h4⟩:=hs;exact ⟨Bx,h1,cell_kept h2 hg (fun r e=>(hr r e).2),cell_kept h3 hg (fun r e=>(hr r e).2),h4⟩)
    ?assign ?body ?done ?stop
   case h0=>
    have t:=hst.later ((Below.refl W1.heap.size W1).alloc (Nat.le_refl _) (.cells #[.slice (some ⟨b,off,none⟩) n cap] 27)) (by omega)
    exact ⟨t.three,t.letter,t.holds,t.row,t.below,by simp⟩
   case assign=>
    rintro L pre x W K hi hK
    have hsz:=hi.size;unfold zGp
    gi_wp2
    refine hK _ _ ?ka ?kb ?kc ?kd
    case ka=>exact (KeepsOthers.alloc _ _).from _
    case kb=>exact ⟨(Below.refl _ W).alloc hi.below.size _,Below.heap_alloc _ _ _ (by omega)⟩
    case kc=>exact hi.later ((Below.refl W.heap.size W).alloc (Nat.le_refl _) _) (by omega)
    case kd=>exact ⟨W.heap.size,by omega,by simp [go_sem],by simp [go_sem],_,_,_,_,_,_,_,_,_,_,_,_,_,_,_,_,_,_,_,_,_,_,_,_,_,_,_,_,_,_,_,_,_,_,_,_,_,_,_,_,_,_,_,_,_,_,_,_,_,_,_,_,_,_,_,_,_,_,_,_,_,_,_,_,_,_,rfl⟩
   case body=>
    rintro L pre x a' W hl ⟨r,hr⟩ hi ⟨Bx,hBx,cx0,cx1,r0,r1,r2,r5,r6,r7,r9,r10,r13,r14,r15,r16,r17,r18,r19,r20,r21,r22,r23,r24,r25,r26,r27,r28,r29,r30,r31,r32,r33,r34,r35,r36,r37,r38,r39,r40,r41,r42,r43,r44,r45,r46,r47,r48,r49,r50,r51,r52,r53,r54,r55,r56,r57,r58,r59,r60,r61,r62,r63,r64,r65,r66,r67,r68,r69,r70,rfl⟩ hlen
    have hsz:=hi.size;have hfa:=zIO HLF.out x.1 (by rw [<- HN.out];exact x.2)
    obtain ⟨hp1,hp2⟩:=zDZ HZ.out (p:=x.1) (by rw [<- HN.out];exact x.2)
    have HSt:Hid (TrSt w (.slice (some ⟨b,off,none⟩) n cap) (.slice (some ⟨B,0,none⟩) n n) (.slice aao k ac) (.slice lo ln lc) n (zCR l letter (zCK l claim k) pre) (W1.heap.size+1) W):=hi;have HNx:=zIJ l letter (zCK l claim k) pre x;unfold zJr at HNx
    have HNx':Hid (zCR l letter (zCK l claim k) (pre++[x])=if zAP (l.getD x.1 (0,0)).1=true then zCR l letter (zCK l claim k) pre else fun j=>if j=x.1 then mkB (l.getD x.1 (0,0)) letter (zCR l letter (zCK l claim k) pre (x.1+1)) (zCR l letter (zCK l claim k) pre (sec l x.1)) else zCR l letter (zCK l claim k) pre j):=HNx
    clear HNx;obtain ⟨nx,hnx⟩:∃ nx,zCR l letter (zCK l claim k) (pre++[x])=nx:=⟨_,rfl⟩
    have HNX:Hid (zCR l letter (zCK l claim k) (pre++[x])=nx):=hnx;rw [hnx] at HNx';clear hnx;generalize zCR l letter (zCK l claim k) pre=h at *;obtain ⟨p,hpn⟩:=x;simp only at cx0 cx1 hfa hp1 hp2 HNx'
    generalize l.getD p (0,0)=xy at *;obtain ⟨kx,vx⟩:=xy;simp only at cx0 cx1 hfa hp1 hp2 HNx'
    have hlk:=fun w=>zK4 kx w
    have hBxl:Bx < W.heap.size:=World.block_lt_of_cell? W ⟨Bx,0,none⟩ cx0;have hmx:Tryz.prog.follows .mixedOrders=true:=by kernel_rfl
    unfold zRJ
    cases hb:zAP kx with
    | true=>
     have HE:Hid (nx=h):=by show _=_;rw [HNx'.out,if_pos hb]
     rw [hb] at hlk;clear hb HNx' hp1 hp2 hfa
     gi_wp2_with (refine ⟨trivial,?_⟩;gi_at_call 90;refine (CallsIn.inRound L (callsIn_wide.2 (hlk _))).mono ?_;rintro e w2 ⟨rfl,rfl⟩)
     refine ⟨KeepsFrom.refl _ _,⟨Below.refl _ _,rfl⟩,?_⟩
     show TrSt w _ _ _ _ n (zCR l letter (zCK l claim k) (pre++[⟨p,hpn⟩])) _ _
     rw [HNX.out,HE.out];exact HSt.out
    | false=>
     have HE:Hid (nx=fun j=>if j=p then mkB (kx,vx) letter (h (p+1)) (h (sec l p)) else h j):=by show _=_;rw [HNx'.out,if_neg (by rw [hb];decide)]
     rw [hb] at hlk;have hop:zAc (ln:Int) (kx,vx)=0:=hfa
     have hk8:8 <= kx:=by
      simp only [zAc] at hop
      split at hop
      ·omega
      ·omega
     have h13:kx=13->0 <= vx/\vx < letter.length:=fun e=>by
      simp only [zAc] at hop;rw [if_neg (by omega),if_pos e] at hop
      split at hop
      ·omega
      ·have:=HLN.out;omega
     have hpr:kx=10\/kx=8\/kx=9->p+1 < n:=fun e=>by rw [HN.out];exact hp1 (by rcases e with rfl | rfl | rfl <;> decide)
     have hps:kx=8\/kx=9->sec l p < n:=fun e=>by rw [HN.out];exact (hp2 (by rcases e with rfl | rfl <;> decide)).2
     have hBl:B < w.heap.size:=HR.out.lt;have hpa:=zEy b off cap n B (w.heap.size+1+1) p _ h l aao k ac rfl W (fun j hj=>hi.row.cell hj) hi.row.lt (fun j hj=>(hi.below.cell (p:=⟨B,j,none⟩) hBl).trans (HR.out.cell hj)) (Nat.lt_of_lt_of_le hBl hi.below.size)
     obtain ⟨t0,t1,t2,_⟩:=hi.three;have hch:=hi.holds;have hcl:=hi.letter
     have HMk:Hid (∀ w2,Below W.heap.size W w2->PartsAt w2 (W.heap.size+1+1) W.heap.size (W.heap.size+1) (w.heap.size+1+1) n B p h l->Calls Tryz.prog 156 #[.agg #[.int .i64 kx,.int .i64 vx],.slice lo ln lc,.func (.func 164) #[] #[.pointer (some ⟨W.heap.size+1+1,0,none⟩),.pointer (some ⟨W.heap.size+1,0,none⟩)],.func (.func 165) #[] #[.pointer (some ⟨W.heap.size+1+1,0,none⟩),.pointer (some ⟨W.heap.size,0,none⟩),.pointer (some ⟨W.heap.size+1,0,none⟩)]] w2.drew fun e w'=>
       e=.returned (.bool (mkB (kx,vx) letter (h (p+1)) (h (sec l p))))/\Below W.heap.size W w'/\w'.cell? ⟨w.heap.size+1+1+1,0,none⟩=some (.slice (some ⟨w.heap.size+1+1,0,none⟩) n n)/\w'.cell? ⟨w.heap.size+1+1,p,none⟩=some (.bool (h p))/\w'.frozen? ⟨w.heap.size+1+1,p,none⟩=false):=fun w2 hb2 hP=>by
      have hlt:W.heap.size+1+1 < w2.heap.size:=World.block_lt_of_cell? w2 ⟨W.heap.size+1+1,0,none⟩ hP.holds;have hbd:Below W.heap.size W w2.drew:=hb2.drew;have hPd:PartsAt w2.drew (W.heap.size+1+1) W.heap.size (W.heap.size+1) (w.heap.size+1+1) n B p h l:=⟨hP.holds,hP.row,hP.ends,hP.erow,hP.place⟩
      have hLd:zAQ w2.drew (.slice lo letter.length lc) letter:=by rw [<- HLN.out];exact (HL.out.below hi.below).below hbd
      have hsw:w2.drew.heap.size=w2.heap.size:=rfl;have hrl:=hi.row.lt;rw [HLN.out];refine (zOg kx vx lo lc _ _ _ _ n B p letter h l w2.drew h60 hLd hPd (by omega) (by omega) (by omega) (by omega) (by omega) h13 hpr hps).mono fun e w' ⟨he,hb⟩=>?_
      have hbf:Below W.heap.size W w':=hbd.trans (hb.mono (by omega))
      exact ⟨he,hbf,(hbf.cell (p:=⟨w.heap.size+1+1+1,0,none⟩) (World.block_lt_of_cell? W _ hch)).trans hch,(hbf.cell (p:=⟨w.heap.size+1+1,p,none⟩) hrl).trans (hi.row.cell hpn),(hbf.frozen (p:=⟨w.heap.size+1+1,p,none⟩) hrl).trans (hi.row.frozen p)⟩
     generalize mkB (kx,vx) letter (h (p+1)) (h (sec l p))=tv at HMk HE
     have HC2:Hid (∀ w2,Below W.heap.size W w2->w2.cell? ⟨w.heap.size+1+1+1,0,none⟩=some (.slice (some ⟨w.heap.size+1+1,0,none⟩) n n)/\w2.cell? ⟨w.heap.size+1,0,none⟩=some (.slice lo ln lc)/\w2.cell? ⟨Bx,0,none⟩=some (.int .i64 kx)/\w2.cell? ⟨Bx,1,none⟩=some (.int .i64 vx)):=fun w2 hb=>⟨(hb.cell (p:=⟨w.heap.size+1+1+1,0,none⟩) (World.block_lt_of_cell? W _ hch)).trans hch,(hb.cell (p:=⟨w.heap.size+1,0,none⟩) (World.block_lt_of_cell? W _ hcl)).trans hcl,(hb.cell (p:=⟨Bx,0,none⟩) hBxl).trans cx0,(hb.cell (p:=⟨Bx,1,none⟩) hBxl).trans cx1⟩
     clear hb HNx' hp1 hp2 hfa hop h13 hpr hps hi
     gi_wp2_with (first | (refine ⟨trivial,?_⟩;gi_at_call 90;refine (CallsIn.inRound L (callsIn_wide.2 (hlk _))).mono ?_;rintro e wz ⟨rfl,hwz⟩;obtain rfl:=hwz.symm) | (refine ⟨trivial,?_⟩;gi_at_call 155;refine (CallsIn.inRound L (callsIn_wide.2 hpa)).mono ?_;rintro e w2 ⟨rfl,hb2,HP2⟩;obtain ⟨d0,d1,d2,d3⟩:=HC2.out w2 hb2;have hma:=HMk.out w2 hb2 HP2.out))
     refine zGT (fun w'=>w'.cell? ⟨w.heap.size+1+1+1,0,none⟩=some (.slice (some ⟨w.heap.size+1+1,0,none⟩) n n)/\w'.cell? ⟨w.heap.size+1,0,none⟩=some (.slice lo ln lc)/\w'.cell? ⟨Bx,0,none⟩=some (.int .i64 kx)/\w'.cell? ⟨Bx,1,none⟩=some (.int .i64 vx)) hmx ?nd ?nl ?_
     case nd=>
      intro i o ho c;have hi:i < 9:=(Array.getElem?_eq_some_iff.1 ho).1
      have hc:i=0\/i=1\/i=2\/i=3\/i=4\/i=5\/i=6\/i=7\/i=8:=by omega
      rcases hc with rfl | rfl | rfl | rfl | rfl | rfl | rfl | rfl | rfl <;> (obtain rfl:=Option.some.inj ho;exact fun h=>by cases h)
     case nl=>exact fun ⟨_,_,h⟩=>h
     have hS2:w2.drew.cell? ⟨w.heap.size+1+1+1,0,none⟩=some (.slice (some ⟨w.heap.size+1+1,0,none⟩) n n)/\w2.drew.cell? ⟨w.heap.size+1,0,none⟩=some (.slice lo ln lc)/\w2.drew.cell? ⟨Bx,0,none⟩=some (.int .i64 kx)/\w2.drew.cell? ⟨Bx,1,none⟩=some (.int .i64 vx):=⟨d0,d1,d2,d3⟩
     refine wpAnyH_take (i:=0) (v:=.slice (some ⟨w.heap.size+1+1,0,none⟩) n n) rfl (by kernel_rfl) (by kernel_rfl) (by kernel_rfl) (fun _ _ _ h=>h) (Or.inl ⟨by rfl,fun wq hSw=>by obtain ⟨q0,q1,q2,q3⟩:=hSw;go_simp⟩) hS2 ?_
     simp only [Act.put,List.setIfInBounds_toArray];refine wpAnyH_take (i:=1) (v:=.int .i64 (p:Int)) rfl (by kernel_rfl) (by kernel_rfl) (by kernel_rfl) (fun _ _ _ h=>h) (Or.inl ⟨by rfl,fun wq hSw=>by obtain ⟨q0,q1,q2,q3⟩:=hSw;go_simp⟩) hS2 ?_
     simp only [Act.put];refine wpAnyH_take (i:=2) (v:=.agg #[.int .i64 kx,.int .i64 vx]) rfl (by kernel_rfl) (by kernel_rfl) (by kernel_rfl) (fun _ _ _ h=>h) (Or.inl ⟨by rfl,fun wq hSw=>by obtain ⟨q0,q1,q2,q3⟩:=hSw;go_simp⟩) hS2 ?_
     simp only [Act.put];refine wpAnyH_take (i:=3) (v:=.slice lo ln lc) rfl (by kernel_rfl) (by kernel_rfl) (by kernel_rfl) (fun _ _ _ h=>h) (Or.inl ⟨by rfl,fun wq hSw=>by obtain ⟨q0,q1,q2,q3⟩:=hSw;go_simp⟩) hS2 ?_
     simp only [Act.put];refine wpAnyH_take (i:=4) (v:=.func (.func 164) #[] #[.pointer (some ⟨W.heap.size+1+1,0,none⟩),.pointer (some ⟨W.heap.size+1,0,none⟩)]) rfl (by kernel_rfl) (by kernel_rfl) (by kernel_rfl) (fun _ _ _ h=>h) (Or.inl ⟨by rfl,fun wq hSw=>by obtain ⟨q0,q1,q2,q3⟩:=hSw;go_simp⟩) hS2 ?_
     simp only [Act.put];refine wpAnyH_take (i:=5) (v:=.func (.func 165) #[] #[.pointer (some ⟨W.heap.size+1+1,0,none⟩),.pointer (some ⟨W.heap.size,0,none⟩),.pointer (some ⟨W.heap.size+1,0,none⟩)]) rfl (by kernel_rfl) (by kernel_rfl) (by kernel_rfl) (fun _ _ _ h=>h) (Or.inl ⟨by rfl,fun wq hSw=>by obtain ⟨q0,q1,q2,q3⟩:=hSw;go_simp⟩) hS2 ?_
     simp only [Act.put];refine wpAnyH_all (rs:=[6]) (by kernel_rfl) (by decide) ?_
     intro i hi;obtain rfl:i=6:=by simpa using hi
     refine zGQ rfl (by rfl) (by go_simp) hma ?_
     rintro e w3 ⟨rfl,hb3,g0,g1,g2⟩
     obtain ⟨e0,e1,e2,e3⟩:=HC2.out w3 hb3;refine ⟨_,rfl,⟨e0,e1,e2,e3⟩,?_⟩
     simp only [Act.put];refine wpAnyH_take (i:=7) (v:=.pointer (some ⟨w.heap.size+1+1,p,none⟩)) rfl (by kernel_rfl) (by kernel_rfl) (by kernel_rfl) (fun _ _ _ h=>h) (Or.inl ⟨by rfl,fun wq _=>by go_simp⟩) ⟨e0,e1,e2,e3⟩ ?_
     simp only [Act.put];refine wpAnyH_all (rs:=[8]) (by kernel_rfl) (by decide) ?_
     intro i hi;obtain rfl:i=8:=by simpa using hi
     have hco:∀ z q,z≠w.heap.size+1+1->(w3.setCell ⟨w.heap.size+1+1,p,none⟩ (.bool tv)).cell? ⟨z,q,none⟩=w3.cell? ⟨z,q,none⟩:=fun z q hz=>World.cell?_of_block (w:=w3) (Below.heap_setCell w3 _ _ z hz)
     refine zJN (w':=w3.setCell ⟨w.heap.size+1+1,p,none⟩ (.bool tv)) rfl (by rfl) (by go_simp) ⟨⟨(hco _ _ (by omega)).trans e0,(hco _ _ (by omega)).trans e1,(hco _ _ (by omega)).trans e2,(hco _ _ (by omega)).trans e3⟩,?_⟩
     refine wpAnyH_done (by kernel_rfl) ?_ _
     have hW4:w.heap.size+4 <= W.heap.size:=by omega
     refine ⟨(zId hb3).trans ((KeepsOthers.setCell _ _ _).from _),⟨(hb3.mono HSt.out.below.size).setCell (by simp;omega) _,(Below.heap_setCell w3 _ _ W1.heap.size (by simp;omega)).trans (hb3.block _ (by omega))⟩,?_⟩
     show TrSt w _ _ _ _ n (zCR l letter (zCK l claim k) (pre++[⟨p,hpn⟩])) _ _
     rw [HNX.out,HE.out];exact (HSt.out.later hb3 hW4).put p tv
   case done=>
    rintro D xs W hD rfl hi hK
    have hch:=hi.holds;have HT:Hid (TrSt w (.slice (some ⟨b,off,none⟩) n cap) (.slice (some ⟨B,0,none⟩) n n) (.slice aao k ac) (.slice lo ln lc) n (tru l letter claim) (W1.heap.size+1) W):=hi.congr (fun j hj=>by rw [HAL.out,zNv HZ.out h0n HN.out n (Nat.le_refl _) j hj,if_pos (by omega)])
    clear hi
    gi_wp2
    refine ⟨by simp,.inl ⟨_,_,rfl,run_takeDeferred hK,?_⟩⟩
    have hb':Below (W1.heap.size+1) W (W.putObj D (.deferred none)):=belowK_b (w:=W1.alloc (.cells #[.slice (some ⟨b,off,none⟩) n cap] 27)) (by simp) W D _ _ hD hK rfl rfl
    have t':=HT.out.later hb' (by omega)
    exact ⟨_,results_tmp2 rfl _ _ _,_,rfl,t'.below,t'.row,by omega⟩
   case stop=>
    rintro D c pre W _ _ h _
    exact h.elim
