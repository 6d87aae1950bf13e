/- Joined texts. -/
import Derived.Test.YtfofjdddplodpaaGreatDoorMCode
import Derived.Test.YtfofjdddplodpaaGreatDoorDesignOpen
import Derived.Test.YtfofjdddplodpaaGreatDoorBools
import Derived.Lib.AppendZeros
import Derived.Laws.EntriesVeiled
namespace Go.Proofs.YtfofjdddplodpaaGreatDoor
open Go.ChangeShapes Go.WideShapes Go.ChangeAt Go.RowKit Go.Deep
open Terms Tm
set_option maxHeartbeats 6400000
set_option maxRecDepth 20000
noncomputable def wcode (m:Mo) (code:Int):Int:=if mcode m=0 then (if 0 <= code/\code < prodTo m.vars m.vars.length then 0 else 9) else mcode m
theorem wcode_bad {m:Mo} {code:Int} (h:mcode m≠0):wcode m code=mcode m:=by unfold wcode;rw [if_neg h]
theorem wcode_no {m:Mo} {code:Int} (h:mcode m=0) (h2:¬ (0 <= code/\code < prodTo m.vars m.vars.length)):wcode m code=9:=by unfold wcode;rw [if_pos h,if_neg h2]
theorem wcode_yes {m:Mo} {code:Int} (h:mcode m=0) (h2:0 <= code/\code < prodTo m.vars m.vars.length):wcode m code=0:=by unfold wcode;rw [if_pos h,if_pos h2]
theorem intsV_of_row {w:World} {B n:Nat} {f:Nat->Int} (h:w.rowIs B 3 n (fun j=>.int .i64 (f j))):IntsV w (.slice (some ⟨B,0,none⟩) n n) ((List.range n).map f):=by
 refine ⟨some ⟨B,0,none⟩,n,by simp,fun _=>⟨B,0,rfl,h.lt,fun i hi=>?_⟩⟩
 simp only [List.length_map,List.length_range] at hi;rw [Nat.zero_add,h.cell hi];simp [List.getD_eq_getElem?_getD,hi]
noncomputable def wvals (m:Mo) (code:Int):List Int:=if wcode m code=0 then valsL m.vars code else []
theorem mvalues_loop (va vr:Value) (m:Mo) (code:Int) (w:World) (hB:0 < w.heap.size) (hT:TabAt w) (hV:ModelV w va vr m) (h:mcode m=0) (hc:0 <= code/\code < prodTo m.vars m.vars.length) :
  Calls Tryz.prog 68 #[.agg #[va,vr],.int .i64 code] w fun e w'=>∃ B,e=.returned (.tuple #[.slice (some ⟨B,0,none⟩) m.vars.length m.vars.length,.int .i64 0])/\w.heap.size <= B/\Below w.heap.size w w'/\w'.rowIs B 3 m.vars.length (fun j=>.int .i64 (valAt m.vars code j)):=by
 have hA:∀ o,Below w.heap.size w (w.alloc o):=fun o=>(Below.refl _ _).alloc (Nat.le_refl _) o
 have hch:=fun o=>mcheck_any va vr m (w.alloc o) (Nat.lt_of_lt_of_le hB (hA o).size) (hT.below (hA o) hB) (hV.below (hA o))
 rw [h] at hch;have hok:=mcode_vars h;have HOK:Hid (VarsOk m.vars):=hok;have h6:=hok.1;have hcf:=(fun w1 (hb:Below w.heap.size w w1)=>countOf_any va m.vars w1 hok (hV.1.below hb))
 obtain ⟨ao,cap,rfl⟩:=hV.1.shape;obtain ⟨ro,rc,rfl⟩:=hV.2.shape;have HV:Hid (VarsV w (.slice ao m.vars.length cap) m.vars):=hV.1;have hN:=hok.prod (j:=m.vars.length) (Nat.le_refl _);have HS0:Hid (segP m.vars m.vars.length=1):=segP_end _;obtain ⟨hc1,hc2⟩:=hc;generalize prodTo m.vars m.vars.length=N at *;obtain ⟨n,hn⟩:∃ n,n=m.vars.length:=⟨_,rfl⟩
 have HN:Hid (n=m.vars.length):=hn;rw [<- hn] at h6 hch hcf HV HS0 ⊢;generalize m.rules.length=rn at *;have hmk:=run_make_row' (P:=Tryz.prog) 27 3 (.int .i64 0) 8 Tryz.underlying27 infoInt rfl .i64 .i64 n (by omega) (by omega)
 clear hV hT hn hok h
 go_enter Tryz.func68,Tryz.ntmps68
 go_wp2_with (first | (go_at_call 40;refine (hch _).mono ?_;rintro e w1 ⟨rfl,hb1⟩;have hcb:w1.cell? ⟨w.heap.size,0,none⟩=some (.slice ao n cap):=(hb1.cell (p:=⟨w.heap.size,0,none⟩) (by simp)).trans (by simp [go_sem]);have hbw:=(hA _).trans (hb1.mono (hA _).size);have hs1:w.heap.size < w1.heap.size:=(by have:=hb1.size;simp at this;omega)) | (go_at_call 87;refine (hcf _ hbw).mono ?_;rintro e w2 ⟨rfl,hb2⟩;have hcb2:=(hb2.cell (p:=⟨w.heap.size,0,none⟩) hs1).trans hcb))
 have hbw2:=hbw.trans (hb2.mono hbw.size);have hrow0:=World.rowIs_made w2 (.int .i64 0) n 3;have hs2:=Nat.lt_of_lt_of_le hs1 hb2.size;have HB2:Hid (Below w.heap.size w w2):=hbw2;have hcb3:=hcb2;clear hch hcf hmk hb1 hb2 hcb hbw hs1 hbw2 hcb2
 go_loopw [1,8] (fun cd i wr=>∃ k:Nat,k <= n/\i=.int .i64 ((k:Int) - 1)/\cd=.int .i64 (code / segP m.vars k)/\Hid (wr.rowIs w2.heap.size 3 n (fun j=>if k <= j then .int .i64 (valAt m.vars code j) else .int .i64 0))/\Hid (Below w2.heap.size w2 wr)) (fun _ i _=>(intOf i+1).toNat)
 case atStart=>exact ⟨n,Nat.le_refl _,by first | rfl | go_num,by rw [HS0.out];simp,hrow0.congr (fun i hi=>by rw [if_neg (by omega)]),(Below.refl _ _).alloc (Nat.le_refl _) _⟩
 case round=>
  obtain ⟨k,hk,rfl,rfl,HRow,HBel⟩:=hrel;have hbel:=HBel.out;have hrow:=HRow.out;have hbw:=HB2.out.trans (hbel.mono HB2.out.size);have hszr:=hrow.lt;have cb:=(hbel.cell (p:=⟨w.heap.size,0,none⟩) hs2).trans hcb3
  by_cases hk0:0 < k
  ·obtain ⟨k,rfl⟩:∃ k',k=k' + 1:=⟨k - 1,by omega⟩
   rw [show (((k+1:Nat):Int) - 1)=(k:Int) by omega]
   have hlt:k < n:=by omega
   obtain ⟨b,off,rfl,hblt,hat⟩:=HV.out.at (i:=k) (by rw [<- HN.out];exact hlt)
   obtain ⟨c0,c1,c2,c3⟩:=hat.below hbw hblt;have hvb:=HOK.out.at (j:=k) (by rw [<- HN.out];exact hlt)
   have hsg:=segP_bounds HOK.out (i:=k+1) (by rw [<- HN.out];exact hlt)
   have HQ:Hid (code / segP m.vars (k+1) / vspan (m.vars.getD k vr0)=code / segP m.vars k):=quo_step HOK.out code (by rw [<- HN.out];exact hlt)
   have HVa:Hid (valAt m.vars code k=(m.vars.getD k vr0).lo+(code / segP m.vars (k+1)) % vspan (m.vars.getD k vr0)):=rfl;have hq0:0 <= code / segP m.vars (k+1):=Int.ediv_nonneg hc1 (by omega)
   have hq1:code / segP m.vars (k+1) <= 4096:=by
    have:=Int.ediv_le_self (segP m.vars (k+1)) hc1;omega
   have hf:wr.frozen? ⟨w2.heap.size,k,none⟩=false:=hrow.frozen k;have hcl:wr.cell? ⟨w2.heap.size,k,none⟩=some (.int .i64 0):=by rw [hrow.cell hlt,if_neg (by omega)]
   generalize code / segP m.vars (k+1)=cd at *;generalize m.vars.getD k vr0=x at *;obtain ⟨s,lo,hi,ini⟩:=x;simp only [vspan] at c0 c1 c2 c3 HQ HVa hvb;obtain ⟨hv1,hv2,hv3,hv4,hv5,hv6,hv7⟩:=hvb;have hsp:=fun w=>span_any s lo hi ini w hv3 hv4 hv5
   obtain ⟨sp,hspe⟩:∃ sp,hi - lo+1=sp:=⟨_,rfl⟩
   rw [hspe] at hv1 hv2 hsp HQ HVa;clear hspe hat;have hr0:=Int.emod_nonneg cd (show sp≠0 by omega)
   have hr1:=Int.emod_lt_of_pos cd (show 0 < sp by omega)
   have hi0:(0:Int) <= (k:Int):=Int.natCast_nonneg _;have hi1:(k:Int) < (n:Int):=by omega
   have hsz0:¬ sp=0:=by omega
   have hsz1:(sp == 0)=false:=by rw [beq_eq_false_iff_ne];omega
   have ht:cd.tmod sp=cd % sp:=Int.tmod_eq_emod_of_nonneg hq0;have htd:cd.tdiv sp=cd / sp:=Int.tdiv_eq_ediv_of_nonneg hq0;have hd0:=Int.ediv_nonneg hq0 (show 0 <= sp by omega)
   have hd1:=Int.ediv_le_self sp hq0;have hw0:IntKind.i64.wrap (cd % sp)=cd % sp:=wr64 (by omega) (by omega)
   have hw1:IntKind.i64.wrap (lo+cd % sp)=lo+cd % sp:=wr64 (by omega) (by omega)
   have hbA:=hbel.alloc (Nat.le_of_lt hszr) (.cells #[.string s,.int .i64 lo,.int .i64 hi,.int .i64 ini] 78);have HBA:=(show Hid _ from hbA)
   have hfA:=hrow.alloc (.cells #[.string s,.int .i64 lo,.int .i64 hi,.int .i64 ini] 78);have HRA:=(show Hid _ from hfA)
   have hS0:∀ w',Below (wr.heap.size+1) (wr.alloc (.cells #[.string s,.int .i64 lo,.int .i64 hi,.int .i64 ini] 78)) w'->w'.cell? ⟨wr.heap.size,0,none⟩=some (.string s)/\w'.cell? ⟨wr.heap.size,1,none⟩=some (.int .i64 lo)/\w'.cell? ⟨wr.heap.size,2,none⟩=some (.int .i64 hi)/\w'.cell? ⟨wr.heap.size,3,none⟩=some (.int .i64 ini):=fun w' hw'=>
    ⟨(hw'.cell (p:=⟨wr.heap.size,0,none⟩) (by simp)).trans (by simp [go_sem]),(hw'.cell (p:=⟨wr.heap.size,1,none⟩) (by simp)).trans (by simp [go_sem]),(hw'.cell (p:=⟨wr.heap.size,2,none⟩) (by simp)).trans (by simp [go_sem]),(hw'.cell (p:=⟨wr.heap.size,3,none⟩) (by simp)).trans (by simp [go_sem])⟩
   have hne:∀ j:Nat,(⟨wr.heap.size,j,none⟩:Addr)≠⟨w2.heap.size,k,none⟩:=fun j h=>by injection h with h1;omega
   have hS1:∀ w' v,Below (wr.heap.size+1) (wr.alloc (.cells #[.string s,.int .i64 lo,.int .i64 hi,.int .i64 ini] 78)) w'->(w'.setCell ⟨w2.heap.size,k,none⟩ v).cell? ⟨wr.heap.size,0,none⟩=some (.string s)/\(w'.setCell ⟨w2.heap.size,k,none⟩ v).cell? ⟨wr.heap.size,1,none⟩=some (.int .i64 lo)/\(w'.setCell ⟨w2.heap.size,k,none⟩ v).cell? ⟨wr.heap.size,2,none⟩=some (.int .i64 hi)/\(w'.setCell ⟨w2.heap.size,k,none⟩ v).cell? ⟨wr.heap.size,3,none⟩=some (.int .i64 ini):=fun w' v hw'=>by
    obtain ⟨a0,a1,a2,a3⟩:=hS0 w' hw';exact ⟨(World.cell?_setCell_other _ _ _ _ (hne 0).symm).trans a0,(World.cell?_setCell_other _ _ _ _ (hne 1).symm).trans a1,(World.cell?_setCell_other _ _ _ _ (hne 2).symm).trans a2,(World.cell?_setCell_other _ _ _ _ (hne 3).symm).trans a3⟩
   have hB0:Below (wr.heap.size+1) (wr.alloc (.cells #[.string s,.int .i64 lo,.int .i64 hi,.int .i64 ini] 78)) (wr.alloc (.cells #[.string s,.int .i64 lo,.int .i64 hi,.int .i64 ini] 78)).drew:=(Below.refl _ _).drew
   have hrw:=fun w' (hw':Below (wr.heap.size+1) (wr.alloc (.cells #[.string s,.int .i64 lo,.int .i64 hi,.int .i64 ini] 78)) w')=>hfA.of_block (hw'.block w2.heap.size (by omega))
   have hcf3:∀ w',Below (wr.heap.size+1) (wr.alloc (.cells #[.string s,.int .i64 lo,.int .i64 hi,.int .i64 ini] 78)) w'->w'.frozen? ⟨w2.heap.size,k,none⟩=false/\w'.cell? ⟨w2.heap.size,k,none⟩=some (.int .i64 0):=fun w' hw'=>⟨(hrw w' hw').frozen k,by rw [(hrw w' hw').cell hlt,if_neg (by omega)]⟩
   have HRw:=(show Hid _ from hrw)
   clear hfA hbA hrw hbel hrow hbw
   go_wp2_with fail
   go_region_held3 (fun w'=>w'.cell? ⟨wr.heap.size,0,none⟩=some (.string s)/\w'.cell? ⟨wr.heap.size,1,none⟩=some (.int .i64 lo)/\w'.cell? ⟨wr.heap.size,2,none⟩=some (.int .i64 hi)/\w'.cell? ⟨wr.heap.size,3,none⟩=some (.int .i64 ini))
    (first | exact hS0 _ hB0 | exact hS0 _ (hB0.trans (hb3.mono (by simp))) | exact hS1 _ _ (hB0.trans (hb3.mono (by simp))))
    (first | (go_at_call 67;refine (hsp _).mono ?_;rintro e w3 ⟨rfl,hb3⟩;obtain ⟨hf3,hc3⟩:=hcf3 _ (hB0.trans (hb3.mono (by simp)))))
   have hB3:=hB0.trans (hb3.mono (by simp))
   obtain ⟨e0,e1,e2,e3⟩:=hS1 w3 (.int .i64 (lo+cd % sp)) hB3;have hs3:wr.heap.size < w3.heap.size:=by have:=hb3.size;simp at this;omega
   have hrow4:∀ w4,Below w3.heap.size (w3.setCell ⟨w2.heap.size,k,none⟩ (.int .i64 (lo+cd % sp))) w4->w4.rowIs w2.heap.size 3 n (fun j=>if k <= j then .int .i64 (valAt m.vars code j) else .int .i64 0)/\Below w2.heap.size w2 w4:=fun w4 h4=>by
    refine ⟨(((HRw.out w3 hB3).set k (.int .i64 (lo+cd % sp))).of_block (h4.block w2.heap.size (by omega))).congr fun j hj=>?_,?_⟩
    ·by_cases hjk:j=k
     ·subst hjk;rw [if_pos rfl,if_pos (Nat.le_refl _),HVa.out]
     ·rw [if_neg hjk]
      by_cases hkj:k+1 <= j
      ·rw [if_pos hkj,if_pos (by omega)]
      ·rw [if_neg hkj,if_neg (by omega)]
    ·exact ((HBA.out.trans (hB3.mono (by omega))).setCell (by simp) _).trans (h4.mono (by omega))
   have HR4:=(show Hid _ from hrow4)
   clear hrow4 hf hcl hf3 hc3 hcf3 hS0 hS1
   go_wp2_with (go_at_call 67;refine (hsp _).mono ?_;rintro e w4 ⟨rfl,hb4⟩)
   have hb4':Below w3.heap.size (w3.setCell ⟨w2.heap.size,k,none⟩ (.int .i64 (lo+cd % sp))) w4:=hb4.mono (by simp)
   go_roundw
   case rel=>exact ⟨k,by omega,by first | rfl | go_num,by rw [<- HQ.out],(HR4.out _ hb4').1,(HR4.out _ hb4').2⟩
   case measure=>simp [intOf]
  ·have hk0:k=0:=by omega
   subst hk0
   go_wp2
   go_ret2
   exact ⟨w2.heap.size,rfl,HB2.out.size,hbw,hrow.congr (fun i hi=>by rw [if_pos (by omega)])⟩
theorem mvalues_bad (va vr:Value) (m:Mo) (code:Int) (w:World) (hB:0 < w.heap.size) (hT:TabAt w) (hV:ModelV w va vr m) (h:mcode m≠0) :
  Calls Tryz.prog 68 #[.agg #[va,vr],.int .i64 code] w fun e w'=>e=.returned (.tuple #[.slice none 0 0,.int .i64 (mcode m)])/\Below w.heap.size w w':=by
 have hA:∀ o,Below w.heap.size w (w.alloc o):=fun o=>(Below.refl _ _).alloc (Nat.le_refl _) o
 have hch:=fun o=>mcheck_any va vr m (w.alloc o) (Nat.lt_of_lt_of_le hB (hA o).size) (hT.below (hA o) hB) (hV.below (hA o))
 obtain ⟨ao,cap,rfl⟩:=hV.1.shape;obtain ⟨ro,rc,rfl⟩:=hV.2.shape;generalize mcode m=x at *;generalize m.vars.length=n at *;generalize m.rules.length=rn at *;clear hV hT
 go_enter Tryz.func68,Tryz.ntmps68
 go_wp2_with (go_at_call 40;refine (hch _).mono ?_;rintro e w1 ⟨rfl,hb1⟩)
 go_ret2
 exact ⟨rfl,(hA _).trans (hb1.mono (hA _).size)⟩
theorem mvalues_no (va vr:Value) (m:Mo) (code:Int) (w:World) (hB:0 < w.heap.size) (hT:TabAt w) (hV:ModelV w va vr m) (h:mcode m=0) (hc:¬ (0 <= code/\code < prodTo m.vars m.vars.length)) :
  Calls Tryz.prog 68 #[.agg #[va,vr],.int .i64 code] w fun e w'=>e=.returned (.tuple #[.slice none 0 0,.int .i64 9])/\Below w.heap.size w w':=by
 have hA:∀ o,Below w.heap.size w (w.alloc o):=fun o=>(Below.refl _ _).alloc (Nat.le_refl _) o
 have hch:=fun o=>mcheck_any va vr m (w.alloc o) (Nat.lt_of_lt_of_le hB (hA o).size) (hT.below (hA o) hB) (hV.below (hA o))
 rw [h] at hch;have hok:=mcode_vars h;have hcf:=(fun w1 (hb:Below w.heap.size w w1)=>countOf_any va m.vars w1 hok (hV.1.below hb))
 obtain ⟨ao,cap,rfl⟩:=hV.1.shape;obtain ⟨ro,rc,rfl⟩:=hV.2.shape;have hN:=hok.prod (j:=m.vars.length) (Nat.le_refl _);generalize prodTo m.vars m.vars.length=N at *;generalize m.vars.length=n at *;generalize m.rules.length=rn at *;clear hV hT hok h
 by_cases h0:code < 0
 ·clear hc
  go_enter Tryz.func68,Tryz.ntmps68
  go_wp2_with (go_at_call 40;refine (hch _).mono ?_;rintro e w1 ⟨rfl,hb1⟩)
  go_ret2
  exact ⟨rfl,(hA _).trans (hb1.mono (hA _).size)⟩
 ·have h1:N <= code:=by omega
  clear hc
  go_enter Tryz.func68,Tryz.ntmps68
  go_wp2_with (first | (go_at_call 40;refine (hch _).mono ?_;rintro e w1 ⟨rfl,hb1⟩;have hcb:w1.cell? ⟨w.heap.size,0,none⟩=some (.slice ao n cap):=(hb1.cell (p:=⟨w.heap.size,0,none⟩) (by simp)).trans (by simp [go_sem]);have hbw:=(hA _).trans (hb1.mono (hA _).size)) | (go_at_call 87;refine (hcf _ hbw).mono ?_;rintro e w2 ⟨rfl,hb2⟩))
  go_ret2
  exact ⟨rfl,hbw.trans (hb2.mono hbw.size)⟩
theorem mvalues_any (va vr:Value) (m:Mo) (code:Int) (w:World) (hB:0 < w.heap.size) (hT:TabAt w) (hV:ModelV w va vr m) :
  Calls Tryz.prog 68 #[.agg #[va,vr],.int .i64 code] w fun e w'=>∃ v,e=.returned (.tuple #[v,.int .i64 (wcode m code)])/\Below w.heap.size w w'/\IntsV w' v (wvals m code):=by
 by_cases h:mcode m=0
 ·by_cases hc:0 <= code/\code < prodTo m.vars m.vars.length
  ·have h0:=wcode_yes h hc
   unfold wvals;rw [h0,if_pos rfl];exact (mvalues_loop va vr m code w hB hT hV h hc).mono fun e w' ⟨B,he,_,hb,hr⟩=>⟨_,he,hb,intsV_of_row hr⟩
  ·have h0:=wcode_no h hc
   unfold wvals;rw [h0,if_neg (by decide)]
   exact (mvalues_no va vr m code w hB hT hV h hc).mono fun e w' ⟨he,hb⟩=>⟨_,he,hb,none,0,rfl,fun h=>absurd rfl h⟩
 ·have h0:=wcode_bad (code:=code) h
  unfold wvals;rw [h0,if_neg h];exact (mvalues_bad va vr m code w hB hT hV h).mono fun e w' ⟨he,hb⟩=>⟨_,he,hb,none,0,rfl,fun h=>absurd rfl h⟩
theorem initsL_length (l:List Vr):(initsL l).length=l.length:=by simp [initsL]
theorem initsL_get {l:List Vr} {i:Nat} (h:i < l.length):(initsL l).getD i 0=(l.getD i vr0).ini:=by
 simp [initsL,List.getD_eq_getElem?_getD,h]
theorem mfirst_loop (va vr:Value) (m:Mo) (w:World) (hB:0 < w.heap.size) (hT:TabAt w) (hV:ModelV w va vr m) (h:mcode m=0) :
  Calls Tryz.prog 15 #[.agg #[va,vr]] w fun e w'=>e=.returned (.tuple #[.int .i64 (codeTo m.vars (initsL m.vars) m.vars.length),.int .i64 0])/\Below w.heap.size w w':=by
 have hA:∀ o,Below w.heap.size w (w.alloc o):=fun o=>(Below.refl _ _).alloc (Nat.le_refl _) o
 have hch:=fun o=>mcheck_any va vr m (w.alloc o) (Nat.lt_of_lt_of_le hB (hA o).size) (hT.below (hA o) hB) (hV.below (hA o))
 rw [h] at hch;have hok:=mcode_vars h;have h6:=hok.1;have hcf:=(fun vv w1 (hb:Below w.heap.size w w1) (hI:IntsV w1 vv (initsL m.vars))=>codeOf_any va vv m.vars (initsL m.vars) w1 hok (initsL_length _) (inits_in hok) (hV.1.below hb) hI)
 obtain ⟨ao,cap,rfl⟩:=hV.1.shape;obtain ⟨ro,rc,rfl⟩:=hV.2.shape;have HCF:=(show Hid _ from hcf)
 have HV:Hid (VarsV w (.slice ao m.vars.length cap) m.vars):=hV.1;have HIn:Hid (∀ i,i < m.vars.length->(initsL m.vars).getD i 0=(m.vars.getD i vr0).ini):=fun i hi=>initsL_get hi
 have HLn:Hid ((initsL m.vars).length=m.vars.length):=initsL_length _;generalize codeTo m.vars (initsL m.vars) m.vars.length=res at *;obtain ⟨n,hn⟩:∃ n,n=m.vars.length:=⟨_,rfl⟩
 have HN:Hid (n=m.vars.length):=hn;rw [<- hn] at h6 hch HCF HV HIn HLn ⊢;generalize m.rules.length=rn at *;have hmk:=run_make_row' (P:=Tryz.prog) 27 3 (.int .i64 0) 8 Tryz.underlying27 infoInt rfl .i64 .i64 n (by omega) (by omega)
 clear hV hT hn hok h hcf
 go_enter Tryz.func15,Tryz.ntmps15
 go_wp2_with (go_at_call 40;refine (hch _).mono ?_;rintro e w1 ⟨rfl,hb1⟩;have hcb:w1.cell? ⟨w.heap.size,0,none⟩=some (.slice ao n cap):=(hb1.cell (p:=⟨w.heap.size,0,none⟩) (by simp)).trans (by simp [go_sem]);have hs1:w.heap.size < w1.heap.size:=(by have:=hb1.size;simp at this;omega);have hcbA:∀ o,(w1.alloc o).cell? ⟨w.heap.size,0,none⟩=some (.slice ao n cap):=(fun o=>(((Below.refl w1.heap.size w1).alloc (Nat.le_refl _) o).cell (p:=⟨w.heap.size,0,none⟩) hs1).trans hcb))
 have hbw:=(hA _).trans (hb1.mono (hA _).size);have hrow0:=World.rowIs_made w1 (.int .i64 0) n 3;have HB1:Hid (Below w.heap.size w w1):=hbw;clear hch hmk hb1 hbw hcbA
 go_loopw [20] (fun i wr=>∃ k:Nat,k <= n/\i=.int .i64 k/\Hid (wr.rowIs w1.heap.size 3 n (fun j=>if j < k then .int .i64 ((initsL m.vars).getD j 0) else .int .i64 0))/\Hid (Below w1.heap.size w1 wr)) (fun i _=>n - (intOf i).toNat)
 case atStart=>exact ⟨0,Nat.zero_le _,rfl,hrow0.congr (fun i hi=>by rw [if_neg (by omega)]),(Below.refl _ _).alloc (Nat.le_refl _) _⟩
 case round=>
  obtain ⟨k,hk,rfl,HRow,HBel⟩:=hrel;have hbel:=HBel.out;have hrow:=HRow.out;have hbw:=HB1.out.trans (hbel.mono HB1.out.size);have hszr:=hrow.lt;have cb:=(hbel.cell (p:=⟨w.heap.size,0,none⟩) hs1).trans hcb
  by_cases hlt:k < n
  ·obtain ⟨b,off,rfl,hblt,hat⟩:=HV.out.at (i:=k) (by rw [<- HN.out];exact hlt)
   obtain ⟨c0,c1,c2,c3⟩:=hat.below hbw hblt;have HIk:=(show Hid _ from HIn.out k hlt)
   have hA2:=fun o=>hrow.alloc o
   have hf:∀ o,(wr.alloc o).frozen? ⟨w1.heap.size,k,none⟩=false:=fun o=>(hA2 o).frozen k
   have hcl:∀ o,(wr.alloc o).cell? ⟨w1.heap.size,k,none⟩=some (.int .i64 0):=fun o=>by rw [(hA2 o).cell hlt,if_neg (by omega)]
   generalize m.vars.getD k vr0=x at *;obtain ⟨s,lo,hi,ini⟩:=x;simp only at c0 c1 c2 c3 HIk
   have hfin:(((wr.setCell ⟨w1.heap.size,k,none⟩ (.int .i64 ini)).alloc (.cells #[.string s,.int .i64 lo,.int .i64 hi,.int .i64 ini] 78)).rowIs w1.heap.size 3 n (fun j=>if j < k+1 then .int .i64 ((initsL m.vars).getD j 0) else .int .i64 0)):=((hrow.set k (.int .i64 ini)).alloc _).congr fun j hj=>by
    by_cases hjk:j=k
    ·subst hjk;rw [if_pos rfl,if_pos (by omega),HIk.out]
    ·rw [if_neg hjk]
     by_cases hlk:j < k
     ·rw [if_pos hlk,if_pos (by omega)]
     ·rw [if_neg hlk,if_neg (by omega)]
   have hbA:=(hbel.setCell (p:=⟨w1.heap.size,k,none⟩) (Nat.le_refl _) (.int .i64 ini)).alloc (by simp;omega) (.cells #[.string s,.int .i64 lo,.int .i64 hi,.int .i64 ini] 78)
   have HF:=(show Hid _ from hfin)
   have HBA:=(show Hid _ from hbA)
   have hfs:=hf (.cells #[.string s,.int .i64 lo,.int .i64 hi,.int .i64 ini] 78);have hcs:=hcl (.cells #[.string s,.int .i64 lo,.int .i64 hi,.int .i64 ini] 78);clear hat hA2 hf hcl hfin hbA hrow hbel hrow0
   go_wp2_with fail
   go_roundw
   case rel=>exact ⟨k+1,hlt,by go_num,HF.out,HBA.out⟩
   case measure=>simp [intOf];omega
  ·have hkn:k=n:=by omega
   subst hkn
   have hI:IntsV wr (.slice (some ⟨w1.heap.size,0,none⟩) k k) (initsL m.vars):=by
    have:=intsV_of_row (hrow.congr (g:=fun j=>.int .i64 ((initsL m.vars).getD j 0)) (fun i hi=>by rw [if_pos hi]))
    have e:(List.range k).map (fun j=>(initsL m.vars).getD j 0)=initsL m.vars:=by
     apply List.ext_getElem?
     intro i
     by_cases hi:i < k
     ·simp [hi,List.getD_eq_getElem?_getD,show i < (initsL m.vars).length by rw [HLn.out];exact hi]
     ·simp [hi,show ¬ i < (initsL m.vars).length by rw [HLn.out];exact hi]
    rwa [e] at this
   have hcf:=HCF.out _ wr hbw hI;clear hI hrow HCF HRow hrow0
   go_wp2_with (go_at_call 41;refine hcf.mono ?_;rintro e w2 ⟨rfl,hb2⟩)
   go_ret2
   exact ⟨rfl,hbw.trans (hb2.mono hbw.size)⟩
theorem mfirst_bad (va vr:Value) (m:Mo) (w:World) (hB:0 < w.heap.size) (hT:TabAt w) (hV:ModelV w va vr m) (h:mcode m≠0) :
  Calls Tryz.prog 15 #[.agg #[va,vr]] w fun e w'=>e=.returned (.tuple #[.int .i64 0,.int .i64 (mcode m)])/\Below w.heap.size w w':=by
 have hA:∀ o,Below w.heap.size w (w.alloc o):=fun o=>(Below.refl _ _).alloc (Nat.le_refl _) o
 have hch:=fun o=>mcheck_any va vr m (w.alloc o) (Nat.lt_of_lt_of_le hB (hA o).size) (hT.below (hA o) hB) (hV.below (hA o))
 obtain ⟨ao,cap,rfl⟩:=hV.1.shape;obtain ⟨ro,rc,rfl⟩:=hV.2.shape;generalize mcode m=x at *;generalize m.vars.length=n at *;generalize m.rules.length=rn at *;clear hV hT
 go_enter Tryz.func15,Tryz.ntmps15
 go_wp2_with (go_at_call 40;refine (hch _).mono ?_;rintro e w1 ⟨rfl,hb1⟩)
 go_ret2
 exact ⟨rfl,(hA _).trans (hb1.mono (hA _).size)⟩
theorem mfirst_any (va vr:Value) (m:Mo) (w:World) (hB:0 < w.heap.size) (hT:TabAt w) (hV:ModelV w va vr m) :
  Calls Tryz.prog 15 #[.agg #[va,vr]] w fun e w'=>e=.returned (.tuple #[.int .i64 (if mcode m=0 then codeTo m.vars (initsL m.vars) m.vars.length else 0),.int .i64 (mcode m)])/\Below w.heap.size w w':=by
 by_cases h:mcode m=0
 ·rw [if_pos h,h]
  exact mfirst_loop va vr m w hB hT hV h
 ·rw [if_neg h]
  exact mfirst_bad va vr m w hB hT hV h
structure GV (a b:Vr):Prop where
 na:a.name=bX
 nb:b.name=bY
 a0:-1 <= a.lo
 a1:a.lo <= 1
 a2:a.lo <= a.hi
 a3:a.hi <= a.lo+3
 a4:a.lo <= a.ini
 a5:a.ini <= a.hi
 b0:-1 <= b.lo
 b1:b.lo <= 1
 b2:b.lo <= b.hi
 b3:b.hi <= b.lo+3
 b4:b.lo <= b.ini
 b5:b.ini <= b.hi
theorem gvars_gv (sp0 sp1 lw0 lw1 iv0 iv1:Int):∃ a b,gvars sp0 sp1 lw0 lw1 iv0 iv1=[a,b]/\GV a b:=by
 obtain ⟨p0,p1,p2,p3,p4,p5⟩:=gvar_bounds bX sp0 lw0 iv0;obtain ⟨q0,q1,q2,q3,q4,q5⟩:=gvar_bounds bY sp1 lw1 iv1;exact ⟨_,_,rfl,⟨rfl,rfl,p0,p1,p2,p3,p4,p5,q0,q1,q2,q3,q4,q5⟩⟩
theorem GV.sa {a b:Vr} (h:GV a b):1 <= vspan a/\vspan a <= 4:=by
 have:=h.a2;have:=h.a3
 unfold vspan;omega
theorem GV.sb {a b:Vr} (h:GV a b):1 <= vspan b/\vspan b <= 4:=by
 have:=h.b2;have:=h.b3
 unfold vspan;omega
theorem GV.prod {a b:Vr} (h:GV a b):1 <= vspan a*vspan b/\vspan a*vspan b <= 16:=by
 have h1:=h.sa;have h2:=h.sb
 have h3:=Int.mul_le_mul h1.1 h2.1 (by omega) (by omega)
 have h4:=Int.mul_le_mul h1.2 h2.2 (by omega) (by omega)
 omega
theorem metXY {a b:Vr} (h:GV a b) (l:List Vr):metName (a:: b:: l) 1 b.name=false:=by
 show (decide (a.name=b.name)||false)=false
 rw [h.na,h.nb];simp [bXY]
theorem GV.vAt {a b:Vr} (h:GV a b) (l:List Vr):vAt (a:: b:: l) 0=0/\vAt (a:: b:: l) 1=0:=by
 have h1:=h.sa;have h2:=h.sb
 obtain ⟨na,nb,p0,p1,p2,p3,p4,p5,q0,q1,q2,q3,q4,q5⟩:=h;have v0:vbound a=true:=by simp only [vbound,decide_eq_true_eq];omega
 have v1:vbound b=true:=by simp only [vbound,decide_eq_true_eq];omega
 refine ⟨(vAt_eq (l:=a:: b:: l) (k:=0) rfl rfl).2.2.2.2 (by rw [show ((a:: b:: l).getD 0 vr0).name=bX from na];exact name_bX) rfl v0 ?_,(vAt_eq (l:=a:: b:: l) (k:=1) rfl rfl).2.2.2.2 (by rw [show ((a:: b:: l).getD 1 vr0).name=bY from nb];exact name_bY) (metXY ⟨na,nb,p0,p1,p2,p3,p4,p5,q0,q1,q2,q3,q4,q5⟩ l) v1 ?_⟩
 ·show ¬ (64 < vspan a\/4096 < 1*vspan a)
  omega
 ·show ¬ (64 < vspan b\/4096 < (1*vspan a)*vspan b)
  rw [Int.one_mul];have:=Int.mul_le_mul h1.2 h2.2 (by omega) (by omega)
  omega
theorem GV.vcode {a b:Vr} (h:GV a b):vcode [a,b]=0:=by
 unfold Go.Proofs.YtfofjdddplodpaaGreatDoor.vcode;rw [if_neg (by simp)]
 refine firstOf_none fun j hj=>?_
 have hj2:j=0\/j=1:=by simp at hj;omega
 rcases hj2 with rfl | rfl
 ·exact (h.vAt []).1
 ·exact (h.vAt []).2
theorem GV.mcode {a b:Vr} (h:GV a b) {rules:List Ru} (h5:rules.length <= 12) (hr:∀ j,j < rules.length->rcode 2 (rules.getD j ru0)=0):mcode ⟨[a,b],rules⟩=0:=by
 unfold Go.Proofs.YtfofjdddplodpaaGreatDoor.mcode;rw [if_pos h.vcode,if_neg (show ¬ 12 < rules.length by omega)]
 exact firstOf_none hr
theorem prod_two (a b:Vr):prodTo [a,b] 2=vspan a*vspan b:=by
 show (1*vspan a)*vspan b=_
 rw [Int.one_mul]
section
variable {a b : Vr} {va vr : Value} {w : World}
theorem GModel.shape {w:World} {va vr:Value} {x y:Vr} (h:GModel w va vr [x,y]):∃ ao cap ro rn rc,va=.slice ao 2 cap/\vr=.slice ro rn rc/\rn <= 5:=by
 obtain ⟨rules,h1,h2,h3⟩:=h;obtain ⟨ao,cap,e1⟩:=h1.1.shape;obtain ⟨ro,rc,e2⟩:=h1.2.shape;exact ⟨ao,cap,ro,_,rc,e1,e2,h2⟩
end
theorem PlansV.below {w w':World} {v:Value} {l:List Pl} (h:PlansV w v l) (hb:Below w.heap.size w w'):PlansV w' v l:=SlV.imp h hb.size fun b _ _ hlt _ ⟨⟨u,h1,h2⟩,h3,h4,⟨u',h5,h6⟩,h7⟩=>
 ⟨⟨u,(hb.cell (p:=⟨b,_,none⟩) hlt).trans h1,h2.mv hb⟩,(hb.cell (p:=⟨b,_,none⟩) hlt).trans h3,h4,⟨u',(hb.cell (p:=⟨b,_,none⟩) hlt).trans h5,h6.mv hb⟩,(hb.cell (p:=⟨b,_,none⟩) hlt).trans h7⟩
theorem design_rules {w:World} {v:Value} {vars:List Vr} (h:DesignV w v vars):∃ c0 c1 c2 c3 c4 c5 c6 a b rules,v=.agg #[c0,c1,c2,c3,c4,c5,c6]/\GV a b/\
  ∀ w',Below w.heap.size w w'->Calls Tryz.prog 9 #[.agg #[c0,c1,c2,c3,c4,c5,c6]] w' fun e w2=>∃ va vr,e=.returned (.agg #[va,vr])/\Below w'.heap.size w' w2/\GModelR w2 va vr [a,b] rules:=by
 obtain ⟨sp0,sp1,lw0,lw1,iv0,iv1,pv,ps,rfl,hI,hP,rfl⟩:=h;obtain ⟨a,b,he,hG⟩:=gvars_gv sp0 sp1 lw0 lw1 iv0 iv1;refine ⟨_,_,_,_,_,_,_,a,b,(ps.take 5).map gplF,rfl,hG,fun w' hb=>?_⟩
 rw [<- he];exact modelFn_any sp0 sp1 lw0 lw1 iv0 iv1 pv ps w' hI (hP.below hb)
end Go.Proofs.YtfofjdddplodpaaGreatDoor
namespace Go.Proofs.YtfofjdddplodpaaGreatDoor
open Go.ChangeShapes Go.WideShapes Go.ChangeAt Go.RowKit Go.Deep
open Terms
set_option maxHeartbeats 6400000
set_option maxRecDepth 20000
def nilV:Value:=.slice none 0 0
def LetsU (w:World) (us:List Value) (ls:List (List Bool)):Prop:=us.length=ls.length/\∀ i,i < ls.length->BoolsV w (us.getD i nilV) (ls.getD i [])
theorem LetsU.below {w w':World} {us:List Value} {ls:List (List Bool)} (h:LetsU w us ls) (hb:Below w.heap.size w w'):LetsU w' us ls:=⟨h.1,fun i hi=>(h.2 i hi).below hb⟩
theorem LetsU.nil (w:World):LetsU w [] []:=⟨rfl,fun i hi=>by simp at hi⟩
theorem getD_app {α:Type} (a b:List α) (d:α) (i:Nat):(a++b).getD i d=if i < a.length then a.getD i d else b.getD (i - a.length) d:=by
 by_cases h:i < a.length
 ·rw [if_pos h];simp [List.getD_eq_getElem?_getD,List.getElem?_append_left h]
 ·rw [if_neg h];simp [List.getD_eq_getElem?_getD,List.getElem?_append_right (Nat.le_of_not_lt h)]
theorem LetsU.append {w:World} {us us':List Value} {ls ls':List (List Bool)} (h:LetsU w us ls) (h':LetsU w us' ls'):LetsU w (us++us') (ls++ls'):=by
 refine ⟨by simp [h.1,h'.1],fun i hi=>?_⟩
 rw [getD_app,getD_app,h.1]
 split
 ·rename_i hl;exact h.2 i hl
 ·rename_i hl;exact h'.2 _ (by simp at hi;omega)
theorem LetsU.one {w:World} {us:List Value} {ls:List (List Bool)} (h:LetsU w us ls):∀ u∈us,u.oneCell'=true:=by
 intro u hu;obtain ⟨i,hi,rfl⟩:=List.getElem_of_mem hu;have:=h.2 i (by rw [<- h.1];exact hi)
 obtain ⟨ao,cap,hv,_⟩:=this;rw [List.getD_eq_getElem?_getD,List.getElem?_eq_getElem hi] at hv
 simp only [Option.getD_some] at hv;rw [hv];rfl
def LettersV (w:World) (v:Value) (ls:List (List Bool)):Prop:=∃ us ao cap,v=.slice ao ls.length cap/\(ao=none->cap=0/\ls=[])/\LetsU w us ls/\(ls≠[]->∃ b off,ao=some ⟨b,off,none⟩/\b < w.heap.size/\∀ i,i < ls.length->w.cell? ⟨b,off+i,none⟩=some (us.getD i nilV))
theorem LettersV.below {w w':World} {v:Value} {ls:List (List Bool)} (h:LettersV w v ls) (hb:Below w.heap.size w w'):LettersV w' v ls:=by
 obtain ⟨us,ao,cap,rfl,h0,hu,h⟩:=h;refine ⟨us,ao,cap,rfl,h0,hu.below hb,fun hne=>?_⟩
 obtain ⟨b,off,rfl,hlt,hat⟩:=h hne;exact ⟨b,off,rfl,Nat.lt_of_lt_of_le hlt hb.size,fun i hi=>(hb.cell (p:=⟨b,_,none⟩) hlt).trans (hat i hi)⟩
theorem LettersV.shape {w:World} {v:Value} {ls:List (List Bool)} (h:LettersV w v ls):∃ ao cap,v=.slice ao ls.length cap:=by
 obtain ⟨_,ao,cap,rfl,_⟩:=h;exact ⟨_,_,rfl⟩
theorem LettersV.at {w:World} {ao:Option Addr} {cap n:Nat} {ls:List (List Bool)} (h:LettersV w (.slice ao n cap) ls) {i:Nat} (hi:i < ls.length):∃ b off,ao=some ⟨b,off,none⟩/\b < w.heap.size/\∃ u,w.cell? ⟨b,off+i,none⟩=some u/\BoolsV w u (ls.getD i []):=by
 obtain ⟨us,ao',cap',hv,_,hu,h⟩:=h
 injection hv with e1 e2 e3
 subst e1;obtain ⟨b,off,e,hlt,hat⟩:=h (by rintro rfl;simp at hi)
 exact ⟨b,off,e,hlt,_,hat i hi,hu.2 i hi⟩
theorem lettersV_of_owns {w:World} {base:Nat} {v:Value} {us:List Value} {ls:List (List Bool)} (h:w.ownsRow base 111 1 v us.length us) (hu:LetsU w us ls):LettersV w v ls:=by
 have hlen:=hu.1
 rcases h.2 with ⟨rfl,h0⟩ | ⟨g,cap,cur,rfl,hb,hg,hnc,hcm,hcs,htake⟩
 ·have:ls=[]:=List.length_eq_zero_iff.1 (by omega)
  subst this;exact ⟨us,none,0,rfl,fun _=>⟨rfl,rfl⟩,hu,fun h=>absurd rfl h⟩
 ·refine ⟨us,_,cap,by rw [hlen],fun h=>by simp at h,hu,fun _=>⟨g,0,rfl,(Array.getElem?_eq_some_iff.1 hg).1,fun i hi=>?_⟩⟩
  rw [Nat.zero_add,h.cellAt i (by omega)]
  simp [List.getD_eq_getElem?_getD,show i < us.length by omega]
theorem infoBools:(Tryz.prog.info? 111).map (fun i=>(i.zero,i.size,i.bytes))=some (some (.slice none 0 0),1,24):=by kernel_rfl
theorem grow_any (n:Nat) (w:World) (h0:0 < n) (h24:n <= 24) :
  Calls Tryz.prog 128 #[.slice none 0 0,.int .i64 (n:Int)] w fun e w'=>∃ B cap,e=.returned (.slice (some ⟨B,0,none⟩) 0 cap)/\Below w.heap.size w w'/\w'.ownsRow w.heap.size 111 1 (.slice (some ⟨B,0,none⟩) 0 cap) 0 []:=by
 obtain ⟨i0,hi,hz0,hz1,hz2⟩:=info_parts infoBools
 have hrz:∀ ty,(Builtin.append_ #[68,3] ty #[.slice none 0 0,.int .i64 (n:Int)]).run Tryz.prog w=.ok (.slice (some ⟨w.heap.size,0,none⟩) n (grownCap w n 0 111)) (w.drew.alloc (.cells (Builtin.zeroCells (Value.slice none 0 0).cells n++Builtin.zeroCells (Value.slice none 0 0).cells (grownCap w n 0 111 - n)) 111)):=fun ty=>
  Lib.run_append_nil_zeros w 68 3 ty 111 i0 (.slice none 0 0) .i64 .i64 Tryz.underlying68 Tryz.underlying3 hi hz0 n h0 (by omega) (by omega) (by rw [hz2];omega)
 have hge:=grownCap_ge w n 0 111;have hle:=grownCap_le_maxLen w n 0 111 (by unfold maxLen;omega)
 generalize grownCap w n 0 111=G at hrz hge hle;have hG:G <= 9223372036854775807:=by unfold maxLen at hle;omega
 have hn:¬ (n:Int) < 0:=by omega
 have hn2:(n:Int) > 0:=by omega
 go_enter Tryz.func128,Tryz.ntmps128
 go_wp2_with (at_builtin;refine Lib.wpList_append_run _ rfl _ _ _ _ rfl _ _ rfl rfl _ _ (hrz _) ?_)
 go_ret
 refine ⟨_,_,rfl,(below_drewN (Below.refl _ _) 1).alloc (Nat.le_refl _) _,?_⟩
 refine ⟨rfl,.inr ⟨w.heap.size,G,Builtin.zeroCells #[Value.slice none 0 0] n++Builtin.zeroCells #[Value.slice none 0 0] (G - n),rfl,Nat.le_refl _,?_,Nat.zero_le _,hle,?_,by simp⟩⟩
 ·show (w.heap.push _)[w.heap.size]? = _
  simp
 ·simp [size_zeroCells]
  omega
def accL (ss ll:List (List Bool)) (k:Nat):List (List Bool):=if k=0 then [] else if k=1 then ss else ss++ll
def zL (a b:Nat) (k:Nat):Int:=if k=0 then 0 else if k=1 then (a:Int) else (a:Int)+(b:Int)
theorem concat_at {w0 w:World} {g:Nat} {so lo:Option Addr} {sn ln sc lc:Nat} {ss ll:List (List Bool)} (hsn:sn=ss.length) (hln:ln=ll.length) (h1:sn <= 12) (h2:ln <= 12) (hS:LettersV w0 (.slice so sn sc) ss) (hL:LettersV w0 (.slice lo ln lc) ll) (c0:w.cell? ⟨g,0,none⟩=some (.slice so sn sc)) (c1:w.cell? ⟨g,1,none⟩=some (.slice lo ln lc)) {k:Nat} (hk:k < 2) :
  ∃ xo xn xc xl,w.cell? ⟨g,k,none⟩=some (.slice xo xn xc)/\zL sn ln (k+1)=zL sn ln k+(xn:Int)/\0 <= zL sn ln k/\zL sn ln k <= 12/\xn <= 12/\xn=xl.length/\accL ss ll (k+1)=accL ss ll k++xl/\(accL ss ll k).length <= 12/\LettersV w0 (.slice xo xn xc) xl:=by
 have hk2:k=0\/k=1:=by omega
 rcases hk2 with rfl | rfl
 ·exact ⟨so,sn,sc,ss,c0,by simp [zL],by simp [zL],by simp [zL],h1,hsn,by simp [accL],by simp [accL],hS⟩
 ·exact ⟨lo,ln,lc,ll,c1,by simp [zL],by simp [zL],by simp [zL];omega,h2,hln,by simp [accL],by simp [accL];omega,hL⟩
theorem lets_cells {w:World} {b off:Nat} {us:List Value} {xl:List (List Bool)} (hu:LetsU w us xl) (h:∀ i,i < xl.length->w.cell? ⟨b,off+i,none⟩=some (us.getD i nilV)):∀ j u,us[j]? = some u->w.cell? ((⟨b,off,none⟩:Addr).add j)=some u:=by
 intro j u hj;have hlt:=(List.getElem?_eq_some_iff.1 hj).1
 rw [Go.WideShapes.add_plain,h j (by rw [<- hu.1];exact hlt),List.getD_eq_getElem?_getD,hj]
 rfl
theorem concat_own (g:Nat) (sv lv:Value) (ss ll:List (List Bool)) (w0 w:World) (hb0:Below w0.heap.size w0 w) (h1:ss.length <= 12) (h2:ll.length <= 12) (h0:1 <= ll.length) (hS:LettersV w0 sv ss) (hL:LettersV w0 lv ll) (c0:w.cell? ⟨g,0,none⟩=some sv) (c1:w.cell? ⟨g,1,none⟩=some lv) :
  Calls Tryz.prog 98 #[.slice (some ⟨g,0,none⟩) 2 2] w fun e w'=>∃ B cap,e=.returned (.slice (some ⟨B,0,none⟩) (ss.length+ll.length) cap)/\Below w.heap.size w w'/\Hid (∃ us,w'.ownsRow w.heap.size 111 1 (.slice (some ⟨B,0,none⟩) (ss.length+ll.length) cap) us.length us/\LetsU w0 us (ss++ll)):=by
 have hg:=World.block_lt_of_cell? w ⟨g,0,none⟩ c0;obtain ⟨i0,hi,hz0,hz1,hz2⟩:=info_parts infoBools;obtain ⟨so,sc,rfl⟩:=hS.shape;obtain ⟨lo,lc,rfl⟩:=hL.shape
 have HAt:Hid (∀ k,k < 2->∃ xo xn xc xl,w.cell? ⟨g,k,none⟩=some (.slice xo xn xc)/\zL ss.length ll.length (k+1)=zL ss.length ll.length k+(xn:Int)/\0 <= zL ss.length ll.length k/\zL ss.length ll.length k <= 12/\xn <= 12/\xn=xl.length/\accL ss ll (k+1)=accL ss ll k++xl/\(accL ss ll k).length <= 12/\LettersV w0 (.slice xo xn xc) xl):=fun k hk=>concat_at rfl rfl h1 h2 hS hL c0 c1 hk
 have HZ0:Hid (zL ss.length ll.length 0=0):=rfl;have HZ2:Hid (zL ss.length ll.length 2=((ss.length+ll.length:Nat):Int)):=by show _=_;simp [zL]
 have HA0:Hid (accL ss ll 0=[]):=rfl;have HA2:Hid (accL ss ll 2=ss++ll):=rfl;have hgr:=fun w1=>grow_any (ss.length+ll.length) w1 (by omega) (by omega)
 have HLen:Hid ((ss++ll).length=ss.length+ll.length):=List.length_append;obtain ⟨tn,htn⟩:∃ tn,tn=ss.length+ll.length:=⟨_,rfl⟩
 rw [<- htn] at hgr HLen HZ2 ⊢;have ht24:tn <= 24:=by omega
 have ht0:0 < tn:=by omega
 generalize zL ss.length ll.length=zz at *;generalize accL ss ll=ac at *;clear hS hL c0 c1 h1 h2 h0 htn
 go_enter Tryz.func98,Tryz.ntmps98
 go_wp2
 go_loop [3,11] (fun z i=>∃ k:Nat,k <= 2/\i=.int .i64 (k:Int)/\z=.int .i64 (zz k)) (fun _ i=>2 - (intOf i).toNat)
 case atStart=>exact ⟨0,by omega,rfl,by rw [HZ0.out]⟩
 case round=>
  obtain ⟨k,hk,rfl,rfl⟩:=hrel
  by_cases hlt:k < 2
  ·obtain ⟨xo,xn,xc,xl,hc,hz,hz00,hz12,hx12,hr⟩:=HAt.out k hlt
   clear hr;have HZ:Hid (zz (k+1)=zz k+(xn:Int)):=hz;clear hz;generalize zz k=z0 at *
   go_wp2
   go_round
   case rel=>exact ⟨k+1,hlt,by go_num,by rw [HZ.out]⟩
   case measure=>simp [intOf];omega
  ·obtain rfl:k=2:=by omega
   rw [HZ2.out]
   go_wp2_with (go_at_call 128;refine (hgr _).mono ?_;rintro e w1 ⟨B,cap,rfl,hb1,ho1⟩)
   clear hgr
   go_loopw [6,27] (fun nv i wr=>∃ k:Nat,k <= 2/\i=.int .i64 (k:Int)/\∃ B cap,nv=.slice (some ⟨B,0,none⟩) (ac k).length cap/\Hid (∃ us,wr.ownsRow w.heap.size 111 1 nv us.length us/\LetsU w0 us (ac k))/\Below w.heap.size w wr) (fun _ i _=>2 - (intOf i).toNat)
   case atStart=>exact ⟨0,by omega,rfl,B,cap,by rw [HA0.out];rfl,⟨[],ho1,by rw [HA0.out];exact LetsU.nil _⟩,hb1⟩
   case round=>
    obtain ⟨k,hk,rfl,B,cap,rfl,HU,hbel⟩:=hrel
    by_cases hlt:k < 2
    ·obtain ⟨xo,xn,xc,xl,hc,_,_,_,hx12,hxn,hac,hal,hX⟩:=HAt.out k hlt
     have hcr:=(hbel.cell (p:=⟨g,k,none⟩) hg).trans hc;obtain ⟨us,hown,hus⟩:=HU.out;have HUS:Hid (LetsU w0 us (ac k)):=hus;have HXN:Hid (xn=xl.length):=hxn;have HAC:Hid (ac (k+1)=ac k++xl):=hac;have hul:us.length=(ac k).length:=hus.1;obtain ⟨vs,xo',xc',hxv,hx0,hvs,hxat⟩:=hX
     injection hxv with e1 e2 e3
     subst e1 e3;rw [<- hul] at hal hown ⊢;clear hxn hac hus e2 HU hul
     cases xo with
     | none=>
      obtain ⟨hc0,hl0⟩:=hx0 rfl;have HL0:Hid (xl=[]):=hl0;have hxn0:xn=0:=by rw [HXN.out,HL0.out];rfl
      subst hxn0 hc0;clear hx0 hxat hl0 hvs
      go_wp2_with (at_builtin;refine wpList_append_own_none rfl (.tmp 31) (.tmp 32) 68 rfl w.heap.size 111 i0 1 Tryz.underlying68 hi _ _ _ rfl hown rfl ?_)
      go_roundw
      case rel=>exact ⟨k+1,hlt,by go_num,B,cap,by rw [HAC.out,HL0.out,List.append_nil,<- HUS.out.1],⟨us,hown,by rw [HAC.out,HL0.out,List.append_nil];exact HUS.out⟩,hbel⟩
      case measure=>simp [intOf];omega
     | some a=>
      have hcells:∀ j u,vs[j]? = some u->wr.cell? (a.add j)=some u:=by
       intro j u hj;have hjl:j < xl.length:=by rw [<- hvs.1];exact (List.getElem?_eq_some_iff.1 hj).1
       obtain ⟨b,off,e,hbl,hat⟩:=hxat (by rintro rfl;simp at hjl)
       obtain rfl:=Option.some.inj e;have:=lets_cells hvs hat j u hj;rw [Go.WideShapes.add_plain] at this ⊢;exact ((hb0.trans (hbel.mono hb0.size)).cell (p:=⟨b,off+j,none⟩) hbl).trans this
      have HVS:Hid (LetsU w0 vs xl):=hvs;have hvl:vs.length=xn*1:=by rw [hvs.1,HXN.out];omega
      have hv1:=hvs.one;have hbsz:=hbel.size;have hnb:=hown.lt;clear hx0 hxat hvs
      go_wp2_with (at_builtin;refine wpList_append_own _ rfl (.tmp 31) (.tmp 32) 68 rfl w.heap.size 111 i0 (.slice none 0 0) 1 24 Tryz.underlying68 hi hz0 hz1 hz2 rfl (by decide) (.slice (some ⟨B,0,none⟩) us.length cap) us.length us rfl hown a xn xc vs rfl hvl hcells hv1 (by unfold maxLen;omega) (by omega) hbsz ?_;intro v' w4 hown' hgrow hne)
      have hb4:Below w.heap.size w w4:=hbel.grown hgrow hbsz (fun q hq=>(hnb q hq).1)
      have hlen4:(us++vs).length=us.length+xn:=by rw [List.length_append];omega
      obtain ⟨B4,cap4,rfl⟩:∃ B4 cap4,v'=.slice (some ⟨B4,0,none⟩) (us.length+xn) cap4:=by
       rcases hown'.2 with ⟨h,_⟩ | ⟨g',cap',cur',h,_⟩
       ·exact absurd (hne.1 h).1 (by simp)
       ·exact ⟨_,_,h⟩
      have HLn:Hid (us.length+xn=(ac (k+1)).length):=by show _=_;rw [HAC.out,List.length_append,<- HUS.out.1,HXN.out]
      have HU4:Hid (∃ zs,w4.ownsRow w.heap.size 111 1 (.slice (some ⟨B4,0,none⟩) (us.length+xn) cap4) zs.length zs/\LetsU w0 zs (ac (k+1))):=⟨us++vs,by rw [hlen4];exact hown',by rw [HAC.out];exact HUS.out.append HVS.out⟩
      clear hown' hgrow hown hcells hne
      go_roundw
      case rel=>exact ⟨k+1,hlt,by go_num,B4,cap4,by rw [HLn.out],HU4,hb4⟩
      case measure=>simp [intOf];omega
    ·obtain rfl:k=2:=by omega
     have HF:Hid (∃ us,wr.ownsRow w.heap.size 111 1 (.slice (some ⟨B,0,none⟩) tn cap) us.length us/\LetsU w0 us (ss++ll)):=by
      obtain ⟨us,h1,h2⟩:=HU.out;rw [HA2.out] at h1 h2;rw [HLen.out] at h1;exact ⟨us,h1,h2⟩
     rw [HA2.out,HLen.out];clear HU
     go_wp2
     go_ret
     exact ⟨_,_,rfl,hbel,HF⟩
theorem concat_any (g:Nat) (sv lv:Value) (ss ll:List (List Bool)) (w:World) (h1:ss.length <= 12) (h2:ll.length <= 12) (h0:1 <= ll.length) (hS:LettersV w sv ss) (hL:LettersV w lv ll) (c0:w.cell? ⟨g,0,none⟩=some sv) (c1:w.cell? ⟨g,1,none⟩=some lv) :
  Calls Tryz.prog 98 #[.slice (some ⟨g,0,none⟩) 2 2] w fun e w'=>∃ B cap,e=.returned (.slice (some ⟨B,0,none⟩) (ss.length+ll.length) cap)/\Below w.heap.size w w'/\Hid (LettersV w' (.slice (some ⟨B,0,none⟩) (ss.length+ll.length) cap) (ss++ll)):=
 (concat_own g sv lv ss ll w w (Below.refl _ _) h1 h2 h0 hS hL c0 c1).mono fun e w' ⟨B,cap,e1,e2,e3⟩=>by
  obtain ⟨us,e4,e5⟩:=e3.out;exact ⟨B,cap,e1,e2,lettersV_of_owns e4 (e5.below e2)⟩
end Go.Proofs.YtfofjdddplodpaaGreatDoor
namespace Go.Proofs.YtfofjdddplodpaaGreatDoor.Terms
namespace Tm
set_option maxHeartbeats 6400000
set_option maxRecDepth 20000
def ho (σ:Nat->Nat->Bool):Tm->Nat->Prop
 | leaf k v=>fun i=>if k=13 then σ i v.toNat=true else k=11
 | un k _ a=>fun i=>if k=10 then ¬ ho σ a i else if k=14 then ho σ a (i+1) else if k=17 then ∃ j,i <= j/\ho σ a j else ∀ j,i <= j->ho σ a j
 | bi k _ a b=>fun i=>if k=8 then ho σ a i/\ho σ b i else if k=9 then ho σ a i\/ho σ b i else if k=15 then ∃ j,i <= j/\ho σ b j/\∀ m,i <= m->m < j->ho σ a m else ∀ j,i <= j->ho σ b j\/∃ m,i <= m/\m < j/\ho σ a m
theorem ho_shift (σ:Nat->Nat->Bool) (d:Nat) (t:Tm):∀ i,ho (fun j=>σ (j+d)) t i↔ho σ t (i+d):=by
 induction t with
 | leaf k v=>intro i;simp only [ho]
 | un k v a ih=>
  intro i;simp only [ho]
  split
  ·rw [ih]
  ·split
   ·rw [ih,show i+1+d=i+d+1 by omega]
   ·split
    ·constructor
     ·rintro ⟨j,h1,h2⟩;exact ⟨j+d,by omega,(ih j).1 h2⟩
     ·rintro ⟨j,h1,h2⟩;exact ⟨j - d,by omega,(ih _).2 (by rwa [show j - d+d=j by omega])⟩
    ·constructor
     ·intro h j hj;have:=(ih _).1 (h (j - d) (by omega));rwa [show j - d+d=j by omega] at this
     ·intro h j hj;exact (ih j).2 (h (j+d) (by omega))
 | bi k v a b iha ihb=>
  intro i;simp only [ho]
  split
  ·rw [iha,ihb]
  ·split
   ·rw [iha,ihb]
   ·split
    ·constructor
     ·rintro ⟨j,h1,h2,h3⟩
      refine ⟨j+d,by omega,(ihb j).1 h2,fun m hm hmj=>?_⟩
      have:=(iha _).1 (h3 (m - d) (by omega) (by omega))
      rwa [show m - d+d=m by omega] at this
     ·rintro ⟨j,h1,h2,h3⟩
      refine ⟨j - d,by omega,(ihb _).2 (by rwa [show j - d+d=j by omega]),fun m hm hmj=>(iha m).2 (h3 (m+d) (by omega) (by omega))⟩
    ·constructor
     ·intro h j hj
      rcases h (j - d) (by omega) with h1 | ⟨m,h1,h2,h3⟩
      ·left;have:=(ihb _).1 h1;rwa [show j - d+d=j by omega] at this
      ·exact .inr ⟨m+d,by omega,by omega,(iha m).1 h3⟩
     ·intro h j hj
      rcases h (j+d) (by omega) with h1 | ⟨m,h1,h2,h3⟩
      ·exact .inl ((ihb j).2 h1)
      ·exact .inr ⟨m - d,by omega,by omega,(iha _).2 (by rwa [show m - d+d=m by omega])⟩
def Per (σ:Nat->Nat->Bool) (s L:Nat):Prop:=∀ i,s <= i->σ (i+L)=σ i
theorem ho_per {σ:Nat->Nat->Bool} {s L:Nat} (h:Per σ s L) (t:Tm) {i:Nat} (hi:s <= i):ho σ t (i+L)↔ho σ t i:=by
 have h1:=ho_shift σ (i+L) t 0;have h2:=ho_shift σ i t 0;rw [Nat.zero_add] at h1 h2;rw [<- h1,<- h2]
 have:(fun j=>σ (j+(i+L)))=fun j=>σ (j+i):=by
  funext j
  rw [show j+(i+L)=(j+i)+L by omega]
  exact h _ (by omega)
 rw [this]
open Classical in
noncomputable def hb (σ:Nat->Nat->Bool) (t:Tm) (i:Nat):Bool:=decide (ho σ t i)
open Classical in
theorem hb_iff {σ:Nat->Nat->Bool} {t:Tm} {i:Nat}:hb σ t i=true↔ho σ t i:=by unfold hb;exact decide_eq_true_iff
theorem bool_eq {x y:Bool} (h:x=true↔y=true):x=y:=by cases x <;> cases y <;> simp_all
theorem hb_per {σ:Nat->Nat->Bool} {s L:Nat} (h:Per σ s L) (t:Tm) {i:Nat} (hi:s <= i):hb σ t (i+L)=hb σ t i:=bool_eq (by rw [hb_iff,hb_iff];exact ho_per h t hi)
theorem hb_prop (σ:Nat->Nat->Bool) (v:Int) (i:Nat):hb σ (leaf 13 v) i=σ i v.toNat:=bool_eq (by rw [hb_iff];simp [ho])
theorem hb_yes (σ:Nat->Nat->Bool) (v:Int) (i:Nat):hb σ (leaf 11 v) i=true:=by rw [hb_iff];simp [ho]
theorem hb_no {k:Int} (σ:Nat->Nat->Bool) (v:Int) (i:Nat) (h1:k≠13) (h2:k≠11):hb σ (leaf k v) i=false:=by
 have:¬ hb σ (leaf k v) i=true:=by rw [hb_iff];simp [ho,h1,h2]
 simpa using this
theorem hb_not (σ:Nat->Nat->Bool) (v:Int) (a:Tm) (i:Nat):hb σ (un 10 v a) i=!hb σ a i:=bool_eq (by rw [hb_iff,Bool.not_eq_true',<- Bool.not_eq_true,hb_iff];simp [ho])
theorem hb_next (σ:Nat->Nat->Bool) (v:Int) (a:Tm) (i:Nat):hb σ (un 14 v a) i=hb σ a (i+1):=bool_eq (by rw [hb_iff,hb_iff];simp [ho])
theorem hb_and (σ:Nat->Nat->Bool) (v:Int) (a b:Tm) (i:Nat):hb σ (bi 8 v a b) i=(hb σ a i&&hb σ b i):=bool_eq (by rw [hb_iff,Bool.and_eq_true,hb_iff,hb_iff];simp [ho])
theorem hb_or (σ:Nat->Nat->Bool) (v:Int) (a b:Tm) (i:Nat):hb σ (bi 9 v a b) i=(hb σ a i||hb σ b i):=bool_eq (by rw [hb_iff,Bool.or_eq_true,hb_iff,hb_iff];simp [ho])
end Tm
def Unt (u v:Nat->Bool) (d:Bool) (i:Nat):Prop:=(∃ j,i <= j/\u j=true/\∀ m,i <= m->m < j->v m=true)\/(d=true/\∀ m,i <= m->v m=true)
theorem unt_step (u v:Nat->Bool) (d:Bool) (i:Nat):Unt u v d i↔u i=true\/(v i=true/\Unt u v d (i+1)):=by
 constructor
 ·rintro (⟨j,h1,h2,h3⟩ | ⟨h1,h2⟩)
  ·by_cases e:j=i
   ·subst e;exact .inl h2
   ·exact .inr ⟨h3 i (by omega) (by omega),.inl ⟨j,by omega,h2,fun m hm hmj=>h3 m (by omega) hmj⟩⟩
  ·exact .inr ⟨h2 i (by omega),.inr ⟨h1,fun m hm=>h2 m (by omega)⟩⟩
 ·rintro (h | ⟨h1,(⟨j,h2,h3,h4⟩ | ⟨h2,h3⟩)⟩)
  ·exact .inl ⟨i,by omega,h,fun m hm hmi=>by omega⟩
  ·refine .inl ⟨j,by omega,h3,fun m hm hmj=>?_⟩
   by_cases e:m=i
   ·subst e;exact h1
   ·exact h4 m (by omega) hmj
  ·refine .inr ⟨h2,fun m hm=>?_⟩
   by_cases e:m=i
   ·subst e;exact h1
   ·exact h3 m (by omega)
open Classical in
noncomputable def untB (u v:Nat->Bool) (d:Bool) (i:Nat):Bool:=decide (Unt u v d i)
open Classical in
theorem untB_iff {u v:Nat->Bool} {d:Bool} {i:Nat}:untB u v d i=true↔Unt u v d i:=by unfold untB;exact decide_eq_true_iff
theorem untB_step (u v:Nat->Bool) (d:Bool) (i:Nat):untB u v d i=(u i||(v i&&untB u v d (i+1))):=Tm.bool_eq (by rw [untB_iff,unt_step,Bool.or_eq_true,Bool.and_eq_true,untB_iff])
def stp (u v:Nat->Bool) (x:Bool):Nat->Nat->Bool
 | 0,_=>x
 | k+1,i=>u i||(v i&&stp u v x k (i+1))
theorem stp_unt (u v:Nat->Bool) (d:Bool):∀ k i,stp u v (untB u v d (i+k)) k i=untB u v d i:=by
 intro k
 induction k with
 | zero=>intro i;rfl
 | succ k ih=>intro i;simp only [stp];rw [show i+(k+1)=(i+1)+k by omega,ih,<- untB_step]
theorem stp_or (u v:Nat->Bool):∀ k i,(∀ x y,stp u v x k i=stp u v y k i)\/((∀ m,i <= m->m < i+k->u m=false/\v m=true)/\∀ x,stp u v x k i=x):=by
 intro k
 induction k with
 | zero=>intro i;exact .inr ⟨fun m h1 h2=>by omega,fun x=>rfl⟩
 | succ k ih=>
  intro i
  cases hu:u i with
  | true=>left;intro x y;simp [stp,hu]
  | false=>
   cases hv:v i with
   | false=>left;intro x y;simp [stp,hu,hv]
   | true=>
    rcases ih (i+1) with h | ⟨h1,h2⟩
    ·left;intro x y;simp only [stp];rw [h x y]
    ·right
     refine ⟨fun m hm hmk=>?_,fun x=>by simp [stp,hu,hv,h2]⟩
     by_cases e:m=i
     ·subst e;exact ⟨hu,hv⟩
     ·exact h1 m (by omega) (by omega)
theorem unt_stuck {u v:Nat->Bool} {d:Bool} {i:Nat} (h:∀ m,i <= m->u m=false/\v m=true):untB u v d i=d:=by
 cases d with
 | true=>rw [untB_iff];exact .inr ⟨rfl,fun m hm=>(h m hm).2⟩
 | false=>
  have:¬ untB u v false i=true:=by
   rw [untB_iff]
   rintro (⟨j,h1,h2,_⟩ | ⟨h1,_⟩)
   ·rw [(h j h1).1] at h2;cases h2
   ·cases h1
  simpa using this
theorem per_all {u:Nat->Bool} {s L:Nat} (hL:0 < L) (hp:∀ i,s <= i->u (i+L)=u i) {x:Bool} {a:Nat} (ha:s <= a) (h:∀ m,a <= m->m < a+L->u m=x):∀ m,a <= m->u m=x:=by
 intro m
 induction m using Nat.strongRecOn with
 | ind m ih=>
  intro hm
  by_cases hl:m < a+L
  ·exact h m hm hl
  ·have:=ih (m - L) (by omega) (by omega)
   rw [<- this,<- hp (m - L) (by omega),show m - L+L=m by omega]
theorem unt_per {u v:Nat->Bool} {d:Bool} {s L:Nat} (hu:∀ i,s <= i->u (i+L)=u i) (hv:∀ i,s <= i->v (i+L)=v i) {i:Nat} (hi:s <= i):untB u v d (i+L)=untB u v d i:=by
 refine Tm.bool_eq ?_
 rw [untB_iff,untB_iff]
 constructor
 ·rintro (⟨j,h1,h2,h3⟩ | ⟨h1,h2⟩)
  ·refine .inl ⟨j - L,by omega,?_,fun m hm hmj=>?_⟩
   ·rw [<- hu _ (by omega),show j - L+L=j by omega];exact h2
   ·rw [<- hv _ (by omega)];exact h3 _ (by omega) (by omega)
  ·refine .inr ⟨h1,fun m hm=>?_⟩
   rw [<- hv _ (by omega)];exact h2 _ (by omega)
 ·rintro (⟨j,h1,h2,h3⟩ | ⟨h1,h2⟩)
  ·refine .inl ⟨j+L,by omega,?_,fun m hm hmj=>?_⟩
   ·rw [hu _ (by omega)];exact h2
   ·have:=h3 (m - L) (by omega) (by omega)
    rw [<- hv _ (by omega),show m - L+L=m by omega] at this;exact this
  ·refine .inr ⟨h1,fun m hm=>?_⟩
   have:=h2 (m - L) (by omega)
   rw [<- hv _ (by omega),show m - L+L=m by omega] at this;exact this
theorem settle_is {u v:Nat->Bool} {d:Bool} {s n:Nat} (hsn:s < n) (hu:∀ i,s <= i->u (i+(n - s))=u i) (hv:∀ i,s <= i->v (i+(n - s))=v i) {i:Nat} (hi:i <= n) :
  stp u v (stp u v d (n - s) s) (n - i) i=untB u v d i:=by
 have hper:=unt_per (d:=d) hu hv (Nat.le_refl s)
 have hx:stp u v d (n - s) s=untB u v d n:=by
  rcases stp_or u v (n - s) s with h | ⟨h1,h2⟩
  ·rw [h d (untB u v d (s+(n - s))),stp_unt,<- hper,show s+(n - s)=n by omega]
  ·rw [h2,unt_stuck]
   intro m hm;exact ⟨per_all (by omega) hu (Nat.le_refl s) (fun m a b=>(h1 m a b).1) m (by omega),per_all (by omega) hv (Nat.le_refl s) (fun m a b=>(h1 m a b).2) m (by omega)⟩
 rw [hx];have:=stp_unt u v d (n - i) i
 rwa [show i+(n - i)=n by omega] at this
namespace Tm
theorem hb_fin (σ:Nat->Nat->Bool) (v:Int) (a:Tm) (i:Nat):hb σ (un 17 v a) i=untB (hb σ a) (fun _=>true) false i:=bool_eq (by
 rw [hb_iff,untB_iff];simp only [ho,Unt,show ¬ (17:Int)=10 by decide,show ¬ (17:Int)=14 by decide,if_false,if_true]
 constructor
 ·rintro ⟨j,h1,h2⟩;exact .inl ⟨j,h1,hb_iff.2 h2,fun _ _ _=>trivial⟩
 ·rintro (⟨j,h1,h2,_⟩ | ⟨h,_⟩)
  ·exact ⟨j,h1,hb_iff.1 h2⟩
  ·cases h)
theorem hb_glob (σ:Nat->Nat->Bool) (v:Int) (a:Tm) (i:Nat):hb σ (un 18 v a) i=untB (fun _=>false) (hb σ a) true i:=bool_eq (by
 rw [hb_iff,untB_iff];simp only [ho,Unt,show ¬ (18:Int)=10 by decide,show ¬ (18:Int)=14 by decide,show ¬ (18:Int)=17 by decide,if_false]
 constructor
 ·intro h;exact .inr ⟨trivial,fun m hm=>hb_iff.2 (h m hm)⟩
 ·rintro (⟨j,h1,h2,_⟩ | ⟨_,h⟩)
  ·cases h2
  ·exact fun j hj=>hb_iff.1 (h j hj))
theorem hb_until (σ:Nat->Nat->Bool) (v:Int) (a b:Tm) (i:Nat):hb σ (bi 15 v a b) i=untB (hb σ b) (hb σ a) false i:=bool_eq (by
 rw [hb_iff,untB_iff];simp only [ho,Unt,show ¬ (15:Int)=8 by decide,show ¬ (15:Int)=9 by decide,if_false,if_true]
 constructor
 ·rintro ⟨j,h1,h2,h3⟩;exact .inl ⟨j,h1,hb_iff.2 h2,fun m hm hmj=>hb_iff.2 (h3 m hm hmj)⟩
 ·rintro (⟨j,h1,h2,h3⟩ | ⟨h,_⟩)
  ·exact ⟨j,h1,hb_iff.1 h2,fun m hm hmj=>hb_iff.1 (h3 m hm hmj)⟩
  ·cases h)
theorem least {P:Nat->Prop} (i:Nat):∀ j,i <= j->P j->∃ m,i <= m/\P m/\∀ k,i <= k->k < m->¬ P k:=by
 intro j
 induction j using Nat.strongRecOn with
 | ind j ih=>
  intro hj hp
  by_cases h:∃ k,i <= k/\k < j/\P k
  ·obtain ⟨k,h1,h2,h3⟩:=h;exact ih k h2 h1 h3
  ·exact ⟨j,hj,hp,fun k h1 h2 h3=>h ⟨k,h1,h2,h3⟩⟩
theorem hb_rel (σ:Nat->Nat->Bool) (v:Int) (a b:Tm) (i:Nat):hb σ (bi 16 v a b) i=untB (fun j=>hb σ a j&&hb σ b j) (hb σ b) true i:=bool_eq (by
 rw [hb_iff,untB_iff];simp only [ho,Unt,show ¬ (16:Int)=8 by decide,show ¬ (16:Int)=9 by decide,show ¬ (16:Int)=15 by decide,if_false,Bool.and_eq_true,true_and]
 constructor
 ·intro h
  by_cases hall:∀ m,i <= m->ho σ b m
  ·exact .inr fun m hm=>hb_iff.2 (hall m hm)
  ·left
   have ⟨j,hj,hnb⟩:∃ j,i <= j/\¬ ho σ b j:=by
    by_cases hx:∃ j,i <= j/\¬ ho σ b j
    ·exact hx
    ·exact absurd (fun m hm=>Classical.byContradiction fun hn=>hx ⟨m,hm,hn⟩) hall
   obtain ⟨m,hm,hnm,hlow⟩:=least (P:=fun j=>¬ ho σ b j) i j hj hnb
   rcases h m hm with hb' | ⟨q,h1,h2,h3⟩
   ·exact absurd hb' hnm
   ·exact ⟨q,h1,⟨hb_iff.2 h3,hb_iff.2 (Classical.byContradiction fun hn=>hlow q h1 h2 hn)⟩,fun z hz hzq=>hb_iff.2 (Classical.byContradiction fun hn=>hlow z hz (by omega) hn)⟩
 ·rintro (⟨j,h1,⟨h2,h2'⟩,h3⟩ | h) q hq
  ·by_cases hl:q < j
   ·exact .inl (hb_iff.1 (h3 q hq hl))
   ·by_cases he:q=j
    ·subst he;exact .inl (hb_iff.1 h2')
    ·exact .inr ⟨j,h1,by omega,hb_iff.1 h2⟩
  ·exact .inl (hb_iff.1 (h q hq)))
end Tm
end Go.Proofs.YtfofjdddplodpaaGreatDoor.Terms
namespace Go.Proofs.YtfofjdddplodpaaGreatDoor.Terms
set_option maxHeartbeats 6400000
set_option maxRecDepth 20000
def moAt (s n i:Nat):Nat:=if i < n then i else s+(i - s) % (n - s)
theorem moAt_low {s n i:Nat} (h:i < n):moAt s n i=i:=by unfold moAt;rw [if_pos h]
theorem moAt_lt {s n i:Nat} (h:s < n):moAt s n i < n:=by
 unfold moAt
 split
 ·assumption
 ·have:=Nat.mod_lt (i - s) (show 0 < n - s by omega)
  omega
theorem moAt_back {s n i:Nat} (hs:s < n) (h:n <= i):moAt s n i=moAt s n (i - (n - s)):=by
 have hm:(i - s) % (n - s)=(i - (n - s) - s) % (n - s):=by
  rw [show i - s=(i - (n - s) - s)+(n - s) by omega,Nat.add_mod_right]
 unfold moAt;rw [if_neg (by omega),hm]
 split
 ·rw [Nat.mod_eq_of_lt (by omega)];omega
 ·rfl
theorem moAt_per {s n i:Nat} (hs:s < n) (h:s <= i):moAt s n (i+(n - s))=moAt s n i:=by
 rw [moAt_back hs (by omega),show i+(n - s) - (n - s)=i by omega]
def sig (ls:List (List Bool)) (s:Nat) (i v:Nat):Bool:=(ls.getD (moAt s ls.length i) []).getD v false
theorem sig_per {ls:List (List Bool)} {s:Nat} (hs:s < ls.length):Tm.Per (sig ls s) s (ls.length - s):=fun i hi=>by funext v;unfold sig;rw [moAt_per hs hi]
theorem hb_mo {ls:List (List Bool)} {s:Nat} (hs:s < ls.length) (t:Tm):∀ i,t.hb (sig ls s) (moAt s ls.length i)=t.hb (sig ls s) i:=by
 intro i
 induction i using Nat.strongRecOn with
 | ind i ih=>
  by_cases h:i < ls.length
  ·rw [moAt_low h]
  ·rw [moAt_back hs (by omega),ih _ (by omega)]
   have:=Tm.hb_per (sig_per hs) t (i:=i - (ls.length - s)) (by omega)
   rw [<- this,show i - (ls.length - s)+(ls.length - s)=i by omega]
namespace Tm
noncomputable def uT (σ:Nat->Nat->Bool):Tm->Nat->Bool
 | leaf k v=>fun i=>hb σ (leaf k v) i
 | un k v a=>fun i=>if k=17 then hb σ a i else if k=18 then false else hb σ (un k v a) i
 | bi k v a b=>fun i=>if k=15 then hb σ b i else if k=16 then hb σ a i&&hb σ b i else hb σ (bi k v a b) i
noncomputable def vT (σ:Nat->Nat->Bool):Tm->Nat->Bool
 | leaf _ _=>fun _=>false
 | un k _ a=>fun i=>if k=17 then true else if k=18 then hb σ a i else false
 | bi k _ a b=>fun i=>if k=15 then hb σ a i else if k=16 then hb σ b i else false
def dT (k:Int):Bool:=decide (k=18\/k=16)
theorem untB_plain (u:Nat->Bool) (i:Nat):untB u (fun _=>false) false i=u i:=by rw [untB_step];simp
theorem uT_per {σ:Nat->Nat->Bool} {s L:Nat} (h:Per σ s L) (t:Tm) {i:Nat} (hi:s <= i):uT σ t (i+L)=uT σ t i:=by
 cases t with
 | leaf k v=>exact hb_per h _ hi
 | un k v a=>simp only [uT];rw [hb_per h _ hi,hb_per h _ hi]
 | bi k v a b=>simp only [uT];rw [hb_per h _ hi,hb_per h _ hi,hb_per h _ hi]
theorem vT_per {σ:Nat->Nat->Bool} {s L:Nat} (h:Per σ s L) (t:Tm) {i:Nat} (hi:s <= i):vT σ t (i+L)=vT σ t i:=by
 cases t with
 | leaf k v=>rfl
 | un k v a=>simp only [vT];rw [hb_per h _ hi]
 | bi k v a b=>simp only [vT];rw [hb_per h _ hi,hb_per h _ hi]
theorem hb_unt (σ:Nat->Nat->Bool) {t:Tm} (hw:t.Wf) (i:Nat):hb σ t i=untB (uT σ t) (vT σ t) (dT t.kind) i:=by
 cases t with
 | leaf k v=>
  have hk:dT k=false:=by
   obtain ⟨_,h2⟩:=hw;simp only [dT,decide_eq_false_iff_not]
   rintro (rfl | rfl) <;> exact absurd h2 (by decide)
  show _=untB _ (fun _=>false) (dT k) i
  rw [hk,untB_plain];rfl
 | un k v a=>
  by_cases h17:k=17
  ·subst h17;rw [hb_fin];rfl
  ·by_cases h18:k=18
   ·subst h18;rw [hb_glob];rfl
   ·have hk:dT k=false:=by
     obtain ⟨_,h2,_⟩:=hw;simp only [dT,decide_eq_false_iff_not]
     rintro (rfl | rfl)
     ·exact h18 rfl
     ·exact absurd h2 (by decide)
    have e1:uT σ (un k v a)=hb σ (un k v a):=by funext j;simp only [uT];rw [if_neg h17,if_neg h18]
    have e2:vT σ (un k v a)=fun _=>false:=by funext j;simp only [vT];rw [if_neg h17,if_neg h18]
    rw [e1,e2]
    show _=untB _ _ (dT k) i
    rw [hk,untB_plain]
 | bi k v a b=>
  by_cases h15:k=15
  ·subst h15;rw [hb_until];rfl
  ·by_cases h16:k=16
   ·subst h16;rw [hb_rel];rfl
   ·have hk:dT k=false:=by
     obtain ⟨_,h2,_⟩:=hw;simp only [dT,decide_eq_false_iff_not]
     rintro (rfl | rfl)
     ·exact absurd h2 (by decide)
     ·exact h16 rfl
    have e1:uT σ (bi k v a b)=hb σ (bi k v a b):=by funext j;simp only [uT];rw [if_neg h15,if_neg h16]
    have e2:vT σ (bi k v a b)=fun _=>false:=by funext j;simp only [vT];rw [if_neg h15,if_neg h16]
    rw [e1,e2]
    show _=untB _ _ (dT k) i
    rw [hk,untB_plain]
end Tm
def letBad (props:Int) (ls:List (List Bool)):Bool:=ls.any fun l=>decide ((l.length:Int)≠props)
def wdcode (props:Int) (ss ll:List (List Bool)):Int:=
 if props < 0\/6 < props then 2 else if 12 < ss.length\/ll.length < 1\/12 < ll.length then 1 else if letBad props (ss++ll)=true then 3 else 0
theorem wdcode_range {props:Int} {ss ll:List (List Bool)} (h:props < 0\/6 < props):wdcode props ss ll=2:=by unfold wdcode;rw [if_pos h]
theorem wdcode_size {props:Int} {ss ll:List (List Bool)} (h:¬ (props < 0\/6 < props)) (h2:12 < ss.length\/ll.length < 1\/12 < ll.length):wdcode props ss ll=1:=by unfold wdcode;rw [if_neg h,if_pos h2]
theorem wdcode_form {props:Int} {ss ll:List (List Bool)} (h:¬ (props < 0\/6 < props)) (h2:¬ (12 < ss.length\/ll.length < 1\/12 < ll.length)) (h3:letBad props (ss++ll)=true):wdcode props ss ll=3:=by unfold wdcode;rw [if_neg h,if_neg h2,if_pos h3]
theorem wdcode_ok {props:Int} {ss ll:List (List Bool)} (h:¬ (props < 0\/6 < props)) (h2:¬ (12 < ss.length\/ll.length < 1\/12 < ll.length)) (h3:letBad props (ss++ll)=false):wdcode props ss ll=0:=by unfold wdcode;rw [if_neg h,if_neg h2,if_neg (by rw [h3];decide)]
theorem letBad_at {props:Int} {ls:List (List Bool)} {i:Nat} (hi:i < ls.length) (h:((ls.getD i []).length:Int)≠props):letBad props ls=true:=by
 unfold letBad;rw [List.any_eq_true];refine ⟨ls.getD i [],?_,by simpa using h⟩
 rw [List.getD_eq_getElem?_getD,List.getElem?_eq_getElem hi]
 exact List.getElem_mem hi
theorem letBad_none {props:Int} {ls:List (List Bool)} (h:∀ i,i < ls.length->((ls.getD i []).length:Int)=props):letBad props ls=false:=by
 unfold letBad;rw [List.any_eq_false];intro l hl;obtain ⟨i,hi,rfl⟩:=List.getElem_of_mem hl;have:=h i hi;rw [List.getD_eq_getElem?_getD,List.getElem?_eq_getElem hi] at this
 simpa using this
theorem wdcode_zero {props:Int} {ss ll:List (List Bool)} (h:wdcode props ss ll=0):(0 <= props/\props <= 6)/\ss.length <= 12/\1 <= ll.length/\ll.length <= 12/\∀ i,i < (ss++ll).length->(((ss++ll).getD i []).length:Int)=props:=by
 by_cases hr:props < 0\/6 < props
 ·rw [wdcode_range hr] at h;omega
 ·by_cases hs:12 < ss.length\/ll.length < 1\/12 < ll.length
  ·rw [wdcode_size hr hs] at h;omega
  ·cases hb:letBad props (ss++ll) with
   | true=>rw [wdcode_form hr hs hb] at h;omega
   | false=>
    refine ⟨by omega,by omega,by omega,by omega,fun i hi=>?_⟩
    exact Classical.byContradiction fun hn=>by rw [letBad_at hi hn] at hb;cases hb
end Go.Proofs.YtfofjdddplodpaaGreatDoor.Terms
namespace Go.Proofs.YtfofjdddplodpaaGreatDoor
open Go.ChangeShapes Go.WideShapes Go.ChangeAt Go.RowKit Go.Deep
open Terms
set_option maxHeartbeats 6400000
set_option maxRecDepth 20000
theorem wcheck_any (sv lv:Value) (ss ll:List (List Bool)) (props:Int) (w:World) (hzs:ss.length <= 140737488355328) (hzl:ll.length <= 140737488355328) (hS:LettersV w sv ss) (hL:LettersV w lv ll) :
    Calls Tryz.prog 97 #[.agg #[sv,lv],.int .i64 props] w fun e w'=>e=.returned (.int .i64 (wdcode props ss ll))/\Below w.heap.size w w':=by
  have hA:∀ o,Below w.heap.size w (w.alloc o):=fun o=>(Below.refl _ _).alloc (Nat.le_refl _) o
  obtain ⟨so,sc,rfl⟩:=hS.shape;obtain ⟨lo,lc,rfl⟩:=hL.shape
  by_cases hr:props < 0\/6 < props
  · rw [wdcode_range hr]
    generalize ss.length=sn at *;generalize ll.length=ln at *;clear hS hL
    rcases hr with hr | hr
    all_goals
      go_enter Tryz.func97,Tryz.ntmps97
      go_wp2
      go_ret
      exact ⟨rfl,hA _⟩
  · have hp0:0 <= props:=by omega
    have hp6:props <= 6:=by omega
    by_cases hs:12 < ss.length\/ll.length < 1\/12 < ll.length
    · rw [wdcode_size hr hs]
      have hs3:12 < ss.length\/(ss.length <= 12/\ll.length < 1)\/(ss.length <= 12/\1 <= ll.length/\12 < ll.length):=by omega
      generalize ss.length=sn at *;generalize ll.length=ln at *;clear hS hL hr hs
      rcases hs3 with h1 | ⟨h1,h2⟩ | ⟨h1,h2,h3⟩
      · have h1':(12:Int) < (sn:Int):=by omega
        go_enter Tryz.func97,Tryz.ntmps97
        go_wp2
        go_ret
        exact ⟨rfl,hA _⟩
      · have h1':¬ (12:Int) < (sn:Int):=by omega
        have h2':(ln:Int) < 1:=by omega
        go_enter Tryz.func97,Tryz.ntmps97
        go_wp2
        go_ret
        exact ⟨rfl,hA _⟩
      · have h1':¬ (12:Int) < (sn:Int):=by omega
        have h2':¬ (ln:Int) < 1:=by omega
        have h3':(12:Int) < (ln:Int):=by omega
        go_enter Tryz.func97,Tryz.ntmps97
        go_wp2
        go_ret
        exact ⟨rfl,hA _⟩
    · have hs1:ss.length <= 12:=by omega
      have hl1:1 <= ll.length:=by omega
      have hl2:ll.length <= 12:=by omega
      have hA2:∀ o o',Below w.heap.size w ((w.alloc o).alloc o'):=fun o o'=>(hA o).alloc (by simp) o'
      have hco:Calls Tryz.prog 98 #[.slice (some ⟨w.heap.size+1,0,none⟩) 2 2] ((w.alloc (.cells #[.slice so ss.length sc,.slice lo ll.length lc] 73)).alloc (.cells #[.slice so ss.length sc,.slice lo ll.length lc] 68)) fun e w'=>∃ B cap,e=.returned (.slice (some ⟨B,0,none⟩) (ss.length+ll.length) cap)/\Below w.heap.size w w'/\Hid (LettersV w' (.slice (some ⟨B,0,none⟩) (ss.length+ll.length) cap) (ss++ll)):=
        (concat_any (w.heap.size+1) _ _ ss ll _ hs1 hl2 hl1 (hS.below (hA2 _ _)) (hL.below (hA2 _ _)) (by simp [go_sem]) (by simp [go_sem])).mono fun e w' ⟨B,cap,h1,h2,h3⟩=>⟨B,cap,h1,(hA2 _ _).trans (h2.mono (by simp;omega)),h3⟩
      have HOk:=fun h=>(show Hid _ from wdcode_ok (ss:=ss) (ll:=ll) hr hs h)
      have HFo:=fun h=>(show Hid _ from wdcode_form (ss:=ss) (ll:=ll) hr hs h)
      have HLen:Hid ((ss++ll).length=ss.length+ll.length):=List.length_append;generalize wdcode props ss ll=wc at *;obtain ⟨n,hn⟩:∃ n,n=ss.length+ll.length:=⟨_,rfl⟩
      rw [<- hn] at hco HLen;have hn24:n <= 24:=by omega
      generalize ss.length=sn at *;generalize ll.length=ln at *;have HN:Hid (n=sn+ln):=hn;clear hS hL hr hs hn hA2;have g1:¬ (12:Int) < (sn:Int):=by omega
      have g2:¬ (ln:Int) < 1:=by omega
      have g3:¬ (12:Int) < (ln:Int):=by omega
      go_enter Tryz.func97,Tryz.ntmps97
      go_wp2_with (go_at_call 98;refine hco.mono ?_;rintro e w1 ⟨B,cap,rfl,hb1,HL⟩)
      clear hco
      go_loop [36] (fun i=>∃ k:Nat,k <= n/\i=.int .i64 (k:Int)/\Hid (∀ j,j < k->(((ss++ll).getD j []).length:Int)=props)) (fun i=>n - (intOf i).toNat)
      case atStart=>exact ⟨0,Nat.zero_le _,rfl,fun j hj=>absurd hj (Nat.not_lt_zero _)⟩
      case round=>
        obtain ⟨k,hk,rfl,HAll⟩:=hrel
        by_cases hlt:k < n
        · obtain ⟨b,off,hbo,_,u,hcu,hbu⟩:=HL.out.at (i:=k) (by rw [HLen.out];exact hlt)
          obtain ⟨rfl,rfl⟩:B=b/\0=off:=by simpa using hbo
          obtain ⟨uo,uc,rfl,_⟩:=hbu;simp only [Nat.zero_add] at hcu
          by_cases hx:(((ss++ll).getD k []).length:Int)=props
          · have HNx:Hid (∀ j,j < k+1->(((ss++ll).getD j []).length:Int)=props):=fun j hj=>by
              by_cases hjk:j < k
              · exact HAll.out j hjk
              · obtain rfl:j=k:=by omega
                exact hx
            generalize ((ss++ll).getD k []).length=xn at *;clear HAll
            go_wp2
            go_round
            case rel=>exact ⟨k+1,hlt,by go_num,HNx⟩
            case measure=>simp [intOf];omega
          · have HW:Hid (wc=3):=(HFo (letBad_at (by rw [HLen.out];exact hlt) hx)).out
            generalize ((ss++ll).getD k []).length=xn at *;clear HAll
            go_wp2
            go_ret
            rw [HW.out];exact ⟨rfl,hb1⟩
        · obtain rfl:k=n:=by omega
          have HW:Hid (wc=0):=(HOk (letBad_none fun i hi=>HAll.out i (by rw [HLen.out] at hi;exact hi))).out
          go_wp2
          go_ret
          rw [HW.out];exact ⟨rfl,hb1⟩
def lookB (k:Int):Bool:=decide (14 <= k/\k <= 18)
def lopErr (props:Int) (o:Int × Int):Int:=if o.1 < 8 then 13 else if o.2 < 0\/(if o.1=13 then props - 1 else 0) < o.2 then 2 else 0
def lfirst (props:Int):List (Int × Int)->Int
 | []=>0
 | o:: r=>if lopErr props o≠0 then lopErr props o else lfirst props r
theorem lfirst_at {props:Int}:∀ {l:List (Int × Int)} {i:Nat},i < l.length->(∀ j,j < i->lopErr props (l.getD j (0,0))=0)->lopErr props (l.getD i (0,0))≠0->lfirst props l=lopErr props (l.getD i (0,0)):=by
 intro l
 induction l with
 | nil=>intro i hi;simp at hi
 | cons o r ih=>
  intro i hi hj hne
  cases i with
  | zero=>simp only [List.getD_cons_zero] at hne ⊢;simp [lfirst,hne]
  | succ i=>
   have h0:=hj 0 (by omega)
   simp only [List.getD_cons_zero] at h0;simp only [List.getD_cons_succ] at hne ⊢;simp only [lfirst,h0,ne_eq,not_true_eq_false,if_false];exact ih (by simpa using hi) (fun j hjj=>by simpa using hj (j+1) (by omega)) hne
theorem lfirst_none {props:Int}:∀ {l:List (Int × Int)},(∀ j,j < l.length->lopErr props (l.getD j (0,0))=0)->lfirst props l=0:=by
 intro l
 induction l with
 | nil=>intro _;rfl
 | cons o r ih=>
  intro hj;have h0:=hj 0 (by simp)
  simp only [List.getD_cons_zero] at h0;simp only [lfirst,h0,ne_eq,not_true_eq_false,if_false];exact ih (fun j hjj=>by simpa using hj (j+1) (by simpa using hjj))
theorem lfirst_all {props:Int}:∀ {l:List (Int × Int)},lfirst props l=0->∀ j,j < l.length->lopErr props (l.getD j (0,0))=0:=by
 intro l
 induction l with
 | nil=>intro _ j hj;simp at hj
 | cons o r ih=>
  intro h j hj;simp only [lfirst] at h
  split at h
  ·rename_i h1;exact absurd h h1
  ·rename_i h1
   cases j with
   | zero=>simpa using h1
   | succ j=>simpa using ih h j (by simpa using hj)
def aheadTo (l:List (Int × Int)):Nat->List Int
 | 0=>[]
 | n+1=>aheadTo l n++if lookB (l.getD n (0,0)).1=true then [(n:Int)] else []
theorem aheadTo_yes {l:List (Int × Int)} {n:Nat} (h:lookB (l.getD n (0,0)).1=true):aheadTo l (n+1)=aheadTo l n++[(n:Int)]:=by simp only [aheadTo];rw [if_pos h]
theorem aheadTo_no {l:List (Int × Int)} {n:Nat} (h:lookB (l.getD n (0,0)).1=false):aheadTo l (n+1)=aheadTo l n:=by simp only [aheadTo];rw [if_neg (by rw [h];decide)];simp
theorem aheadTo_length (l:List (Int × Int)):∀ n,(aheadTo l n).length <= n:=by
 intro n
 induction n with
 | zero=>simp [aheadTo]
 | succ n ih=>simp only [aheadTo,List.length_append];split <;> simp <;> omega
def aheadL (l:List (Int × Int)):List Int:=aheadTo l l.length
def lcode (props:Int) (l:List (Int × Int)):Int:=
 if props < 0\/6 < props then 2 else if endsCode (l.map Prod.fst)≠0 then endsCode (l.map Prod.fst) else if lfirst props l≠0 then lfirst props l else if 6 < (aheadL l).length then 1 else 0
theorem lcode_range {props:Int} {l:List (Int × Int)} (h:props < 0\/6 < props):lcode props l=2:=by unfold lcode;rw [if_pos h]
theorem lcode_ends {props:Int} {l:List (Int × Int)} (h:¬ (props < 0\/6 < props)) (h2:endsCode (l.map Prod.fst)≠0):lcode props l=endsCode (l.map Prod.fst):=by unfold lcode;rw [if_neg h,if_pos h2]
theorem lcode_op {props:Int} {l:List (Int × Int)} (h:¬ (props < 0\/6 < props)) (h2:endsCode (l.map Prod.fst)=0) (h3:lfirst props l≠0):lcode props l=lfirst props l:=by unfold lcode;rw [if_neg h,if_neg (by simpa using h2),if_pos h3]
theorem lcode_many {props:Int} {l:List (Int × Int)} (h:¬ (props < 0\/6 < props)) (h2:endsCode (l.map Prod.fst)=0) (h3:lfirst props l=0):lcode props l=if 6 < (aheadL l).length then 1 else 0:=by unfold lcode;rw [if_neg h,if_neg (by simpa using h2),if_neg (by simpa using h3)]
theorem lcode_zero {props:Int} {l:List (Int × Int)} (h:lcode props l=0):0 <= props/\props <= 6/\endsCode (l.map Prod.fst)=0/\lfirst props l=0/\(aheadL l).length <= 6:=by
 by_cases hr:props < 0\/6 < props
 ·rw [lcode_range hr] at h;omega
 ·by_cases hz:endsCode (l.map Prod.fst)=0
  ·by_cases hf:lfirst props l=0
   ·rw [lcode_many hr hz hf] at h
    split at h
    ·omega
    ·exact ⟨by omega,by omega,hz,hf,by omega⟩
   ·rw [lcode_op hr hz hf] at h;exact absurd h hf
  ·rw [lcode_ends hr hz] at h;exact absurd h hz
theorem ends_ne {ks:List Int} (h:endsCode ks=0):ks≠[]/\ks.length <= 60:=by
 obtain ⟨h1,h2⟩:=code_zero h;refine ⟨?_,h1⟩
 rintro rfl
 simp [cnt] at h2
def sec (l:List (Int × Int)) (p:Nat):Nat:=endAt (l.map Prod.fst) (p+1)
def bitB (claim:Int) (i:Nat):Bool:=decide (claim / 2 ^ i % 2=1)
def mkB (o:Int × Int) (letter:List Bool) (a b:Bool):Bool:=
 if o.1=13 then letter.getD o.2.toNat false else if o.1=11 then true else if o.1=10 then !a else if o.1=8 then a&&b else if o.1=9 then a||b else false
def truF (l:List (Int × Int)) (letter:List Bool) (claim:Int):Nat->Nat->Bool
 | 0,_=>false
 | f+1,p=>if lookB (l.getD p (0,0)).1=true then bitB claim (aheadTo l p).length else mkB (l.getD p (0,0)) letter (truF l letter claim f (p+1)) (truF l letter claim f (max (sec l p) (p+1)))
def tru (l:List (Int × Int)) (letter:List Bool) (claim:Int) (p:Nat):Bool:=truF l letter claim (l.length - p) p
theorem truF_fuel (l:List (Int × Int)) (letter:List Bool) (claim:Int):∀ f g p,l.length <= f+p->l.length <= g+p->p < l.length->truF l letter claim f p=truF l letter claim g p:=by
 intro f
 induction f with
 | zero=>intro g p h _ hp;omega
 | succ f ih=>
  intro g p h1 h2 hp
  cases g with
  | zero=>omega
  | succ g=>
   simp only [truF]
   have aux:∀ q,p < q->truF l letter claim f q=truF l letter claim g q:=by
    intro q hq
    by_cases hql:q < l.length
    ·exact ih g q (by omega) (by omega) hql
    ·have z:∀ f q,l.length <= q->truF l letter claim f q=false:=by
      intro f
      induction f with
      | zero=>intro q _;rfl
      | succ f ihf=>
       intro q hq;simp only [truF];rw [show l.getD q (0,0)=(0,0) by simp [List.getD_eq_getElem?_getD,hq]]
       simp [lookB,mkB]
     rw [z f q (by omega),z g q (by omega)]
   rw [aux (p+1) (by omega),aux (max (sec l p) (p+1)) (by omega)]
theorem tru_look {l:List (Int × Int)} {letter:List Bool} {claim:Int} {p:Nat} (hp:p < l.length) (h:lookB (l.getD p (0,0)).1=true):tru l letter claim p=bitB claim (aheadTo l p).length:=by
 unfold tru;obtain ⟨f,hf⟩:∃ f,l.length - p=f+1:=⟨l.length - p - 1,by omega⟩
 rw [hf];simp only [truF];rw [if_pos h]
theorem tru_mk {l:List (Int × Int)} {letter:List Bool} {claim:Int} {p:Nat} (hp:p < l.length) (h:lookB (l.getD p (0,0)).1=false) (hs:pn (l.getD p (0,0)).1=2->p+1 < sec l p):tru l letter claim p=mkB (l.getD p (0,0)) letter (tru l letter claim (p+1)) (tru l letter claim (sec l p)):=by
 unfold tru;obtain ⟨f,hf⟩:∃ f,l.length - p=f+1:=⟨l.length - p - 1,by omega⟩
 rw [hf]
 have z:∀ f q,l.length <= q->truF l letter claim f q=false:=by
  intro f
  induction f with
  | zero=>intro q _;rfl
  | succ f ihf=>
   intro q hq;simp only [truF];rw [show l.getD q (0,0)=(0,0) by simp [List.getD_eq_getElem?_getD,hq]]
   simp [lookB,mkB]
 have aux:∀ q,p < q->truF l letter claim f q=truF l letter claim (l.length - q) q:=by
  intro q hq
  by_cases hql:q < l.length
  ·exact truF_fuel l letter claim f _ q (by omega) (by omega) hql
  ·rw [z _ q (by omega),z _ q (by omega)]
 simp only [truF];rw [if_neg (by rw [h];decide),aux (p+1) (by omega)]
 by_cases h2:pn (l.getD p (0,0)).1=2
 ·rw [show max (sec l p) (p+1)=sec l p by have:=hs h2;omega,aux (sec l p) (by have:=hs h2;omega)]
 ·have hk:(l.getD p (0,0)).1≠8/\(l.getD p (0,0)).1≠9:=by
   constructor <;> intro e <;> rw [e] at h2 <;> exact absurd rfl h2
  simp only [mkB,hk.1,hk.2,if_false]
theorem aheadTo_get (l:List (Int × Int)):∀ n i,i < (aheadTo l n).length->∃ p:Nat,(aheadTo l n).getD i 0=p/\p < n/\lookB (l.getD p (0,0)).1=true/\(aheadTo l p).length=i:=by
 intro n
 induction n with
 | zero=>intro i hi;simp [aheadTo] at hi
 | succ n ih=>
  intro i hi
  cases hb:lookB (l.getD n (0,0)).1 with
  | false=>
   rw [aheadTo_no hb] at hi ⊢;obtain ⟨p,h1,h2,h3,h4⟩:=ih i hi;exact ⟨p,h1,by omega,h3,h4⟩
  | true=>
   rw [aheadTo_yes hb] at hi ⊢
   by_cases hl:i < (aheadTo l n).length
   ·obtain ⟨p,h1,h2,h3,h4⟩:=ih i hl
    refine ⟨p,?_,by omega,h3,h4⟩
    rw [<- h1];simp [List.getD_eq_getElem?_getD,List.getElem?_append_left hl]
   ·have hi':i=(aheadTo l n).length:=by simp at hi;omega
    subst hi';exact ⟨n,by simp [List.getD_eq_getElem?_getD],by omega,hb,rfl⟩
theorem aheadTo_mono (l:List (Int × Int)) {p n:Nat} (h:p <= n):(aheadTo l p).length <= (aheadTo l n).length:=by
  induction n with
  | zero => obtain rfl : p = 0 := by omega
            exact Nat.le_refl _
  | succ n ih=>
    by_cases hp:p=n+1
    · subst hp;exact Nat.le_refl _
    · have:=ih (by omega)
      simp only [aheadTo,List.length_append];omega
theorem aheadTo_lt (l:List (Int × Int)) {p n:Nat} (h:p < n) (hb:lookB (l.getD p (0,0)).1=true):(aheadTo l p).length < (aheadTo l n).length:=by
 have:=aheadTo_mono l (p:=p+1) (n:=n) (by omega)
 rw [aheadTo_yes hb] at this;simp at this;omega
theorem part_in {l:List (Int × Int)} (hz:endsCode (l.map Prod.fst)=0) {p:Nat} (hp:p < l.length) :
  (1 <= pn (l.getD p (0,0)).1->p+1 < l.length)/\(pn (l.getD p (0,0)).1=2->p+1 < sec l p/\sec l p < l.length):=by
 obtain ⟨_,hc⟩:=code_zero hz;obtain ⟨ks,hks⟩:∃ ks,ks=l.map Prod.fst:=⟨_,rfl⟩
 have hlen:ks.length=l.length:=by rw [hks,List.length_map]
 have hget:ks.getD p 0=(l.getD p (0,0)).1:=by rw [hks];simp [List.getD_eq_getElem?_getD,hp]
 have hsec:sec l p=endAt ks (p+1):=by unfold sec;rw [<- hks]
 rw [<- hks] at hc;rw [<- hget,hsec,<- hlen];obtain ⟨m,hm,hm1,hml⟩:=cnt_in ks 1 ks.length p hc (by omega)
 have ha:=cnt_at (ks:=ks) (q:=p) (by omega)
 rw [hm] at ha
 split at ha
 ·cases hr:cnt (ks.drop (p+1)) (pn (ks.getD p 0)) with
  | no e=>rw [hr] at ha;simp [R.up] at ha
  | ok m2=>
   rw [hr] at ha;simp only [R.up,R.ok.injEq] at ha;have h2:=cnt_le _ _ _ hr;rw [List.length_drop] at h2;refine ⟨fun h=>by omega,fun h=>?_⟩
   rw [h,show (2:Nat)=1+1 from rfl] at hr
   obtain ⟨a,b,hca,hcb,hab⟩:=cnt_parts hr;have h3:=cnt_le _ _ _ hca;have h4:=cnt_le _ _ _ hcb;rw [endAt_ok hca];omega
 ·simp at ha
structure TabIn (w:World) (bt bp b off n cap B:Nat) (aao:Option Addr) (an ac lb m lcap s R p:Nat) (l:List (Int × Int)) (ls:List (List Bool)) (h:Nat->Nat->Bool):Prop where
 c0:w.cell? ⟨bt,0,none⟩=some (.slice (some ⟨b,off,none⟩) n cap)
 c1:w.cell? ⟨bt,1,none⟩=some (.slice (some ⟨B,0,none⟩) n n)
 c2:w.cell? ⟨bt,2,none⟩=some (.slice aao an ac)
 c3:w.cell? ⟨bt,3,none⟩=some (.slice (some ⟨lb,0,none⟩) m lcap)
 c4:w.cell? ⟨bt,4,none⟩=some (.int .i64 (s:Int))
 c5:w.cell? ⟨bt,5,none⟩=some (.slice (some ⟨R,0,none⟩) n n)
 cp:w.cell? ⟨bp,0,none⟩=some (.int .i64 (p:Int))
 ends : ∀ j, j < n -> w.cell? ⟨B, j, none⟩ = some (.int .i64 (endAt (l.map Prod.fst) j : Int))
 lets:LettersV w (.slice (some ⟨lb,0,none⟩) m lcap) ls
 rows:∀ q,p < q->q < n->∃ rb ro rc,w.cell? ⟨R,q,none⟩=some (.slice (some ⟨rb,ro,none⟩) m rc)/\rb < w.heap.size/\∀ j,j < m->w.cell? ⟨rb,ro+j,none⟩=some (.bool (h q j))
 hbt:bt < w.heap.size
 hbp:bp < w.heap.size
 hB:B < w.heap.size
 hR:R < w.heap.size
 hm:ls.length=m
 hn:n <= 60
 hm24:m <= 24
 hs:s < m
theorem TabIn.below {w w':World} {bt bp b off n cap B:Nat} {aao:Option Addr} {an ac lb m lcap s R p:Nat} {l:List (Int × Int)} {ls:List (List Bool)} {h:Nat->Nat->Bool} (t:TabIn w bt bp b off n cap B aao an ac lb m lcap s R p l ls h) (hb:Below w.heap.size w w'):TabIn w' bt bp b off n cap B aao an ac lb m lcap s R p l ls h:=
 ⟨(hb.cell (p:=⟨bt,0,none⟩) t.hbt).trans t.c0,(hb.cell (p:=⟨bt,1,none⟩) t.hbt).trans t.c1,(hb.cell (p:=⟨bt,2,none⟩) t.hbt).trans t.c2,(hb.cell (p:=⟨bt,3,none⟩) t.hbt).trans t.c3,(hb.cell (p:=⟨bt,4,none⟩) t.hbt).trans t.c4,(hb.cell (p:=⟨bt,5,none⟩) t.hbt).trans t.c5,(hb.cell (p:=⟨bp,0,none⟩) t.hbp).trans t.cp,fun j hj=>(hb.cell (p:=⟨B,j,none⟩) t.hB).trans (t.ends j hj),t.lets.below hb,fun q h1 h2=>by
  obtain ⟨rb,ro,rc,e1,e2,e3⟩:=t.rows q h1 h2;exact ⟨rb,ro,rc,(hb.cell (p:=⟨R,q,none⟩) t.hR).trans e1,Nat.lt_of_lt_of_le e2 hb.size,fun j hj=>(hb.cell (p:=⟨rb,ro+j,none⟩) e2).trans (e3 j hj)⟩,
  Nat.lt_of_lt_of_le t.hbt hb.size,Nat.lt_of_lt_of_le t.hbp hb.size,Nat.lt_of_lt_of_le t.hB hb.size,Nat.lt_of_lt_of_le t.hR hb.size,t.hm,t.hn,t.hm24,t.hs⟩
theorem first_w (w:World) (bt bp b off n cap B:Nat) (aao:Option Addr) (an ac lb m lcap s R p:Nat) (l:List (Int × Int)) (ls:List (List Bool)) (h:Nat->Nat->Bool) (mo:Nat) (hT:TabIn w bt bp b off n cap B aao an ac lb m lcap s R p l ls h) (hp:p+1 < n) (hmo:mo < m) :
  Calls Tryz.prog 131 #[.int .i64 (mo:Int),.pointer (some ⟨bt,0,none⟩),.pointer (some ⟨bp,0,none⟩)] w fun e w'=>e=.returned (.bool (h (p+1) mo))/\w'=w:=by
 obtain ⟨rb,ro,rc,e1,e2,e3⟩:=hT.rows (p+1) (by omega) hp
 have e4:=e3 mo hmo;have c5:=hT.c5;have cp:=hT.cp;have hn:=hT.hn;have hm:=hT.hm24;generalize h (p+1) mo=x at *;clear e3 hT
 go_enter Tryz.func131,Tryz.ntmps131
 go_wp2_with fail
 go_ret
 exact ⟨rfl,rfl⟩
theorem second_w (w:World) (bt bp b off n cap B:Nat) (aao:Option Addr) (an ac lb m lcap s R p:Nat) (l:List (Int × Int)) (ls:List (List Bool)) (h:Nat->Nat->Bool) (mo:Nat) (hT:TabIn w bt bp b off n cap B aao an ac lb m lcap s R p l ls h) (hp:p+1 < n) (hs1:p < sec l p) (hs2:sec l p < n) (hmo:mo < m) :
  Calls Tryz.prog 132 #[.int .i64 (mo:Int),.pointer (some ⟨bt,0,none⟩),.pointer (some ⟨bp,0,none⟩)] w fun e w'=>e=.returned (.bool (h (sec l p) mo))/\∃ q,w'=w.drewN q:=by
 obtain ⟨rb,ro,rc,e1,e2,e3⟩:=hT.rows (sec l p) hs1 hs2;have e4:=e3 mo hmo;have c5:=hT.c5;have c1:=hT.c1;have cp:=hT.cp;have hn:=hT.hn;have hm:=hT.hm24;have ce:w.cell? ⟨B,p+1,none⟩=some (.int .i64 (sec l p:Int)):=hT.ends (p+1) hp;generalize h (sec l p) mo=x at *;generalize sec l p=sn at *;clear e3 hT
 go_enter Tryz.func132,Tryz.ntmps132
 go_wp2_with fail
 go_quiet (fail)
 go_wp2_with fail
 go_ret
 exact ⟨rfl,_,rfl⟩
theorem prop_w (w:World) (bt bp b off n cap B:Nat) (aao:Option Addr) (an ac lb m lcap s R p:Nat) (l:List (Int × Int)) (ls:List (List Bool)) (h:Nat->Nat->Bool) (bo:Nat) (v:Int) (x:Bool) (mo:Nat) (hT:TabIn w bt bp b off n cap B aao an ac lb m lcap s R p l ls h) (hmo:mo < m) (ho:w.cell? ⟨bo,1,none⟩=some (.int .i64 v)) (hv0:0 <= v) (hv:v < ((ls.getD mo []).length:Int)) :
  Calls Tryz.prog 133 #[.int .i64 (mo:Int),.bool x,.pointer (some ⟨bt,0,none⟩),.pointer (some ⟨bo,0,none⟩)] w fun e w'=>e=.returned (.bool ((ls.getD mo []).getD v.toNat false))/\∃ q,w'=w.drewN q:=by
 obtain ⟨lb',lo,e0,hlb,u,hcu,hbu⟩:=hT.lets.at (i:=mo) (by rw [hT.hm];exact hmo)
 obtain ⟨rfl,rfl⟩:lb=lb'/\0=lo:=by simpa using e0
 obtain ⟨uo,uc,rfl,hu⟩:=hbu;obtain ⟨ub,uoff,rfl,hubl,hat⟩:=hu (by intro hh;rw [hh] at hv;simp at hv;omega)
 obtain ⟨vn,rfl⟩:∃ vn:Nat,v=vn:=⟨v.toNat,by omega⟩
 have cu:=hat vn (by omega)
 have c3:=hT.c3;have hm:=hT.hm24;simp only [Int.toNat_natCast,Nat.zero_add] at *;generalize (ls.getD mo []).getD vn false=y at *;generalize (ls.getD mo []).length=xn at *;have hvn:vn < xn:=by omega
 clear hat hu hT e0
 go_enter Tryz.func133,Tryz.ntmps133
 go_wp2_with fail
 go_quiet (fail)
 go_wp2_with fail
 go_ret
 exact ⟨rfl,_,rfl⟩
theorem after_any (b off n cap B:Nat) (aao:Option Addr) (an ac lb m lcap s R:Nat) (now:Nat) (w:World) (hm:m <= 24) (hnow:now < m) :
  Calls Tryz.prog 130 #[.agg #[.slice (some ⟨b,off,none⟩) n cap,.slice (some ⟨B,0,none⟩) n n,.slice aao an ac,.slice (some ⟨lb,0,none⟩) m lcap,.int .i64 (s:Int),.slice (some ⟨R,0,none⟩) n n],.int .i64 (now:Int)] w fun e w'=>e=.returned (.int .i64 ((if now=m - 1 then s else now+1:Nat):Int))/\Below w.heap.size w w':=by
 have hA:∀ o,Below w.heap.size w (w.alloc o):=fun o=>(Below.refl _ _).alloc (Nat.le_refl _) o
 by_cases hl:now=m - 1
 ·rw [if_pos hl]
  have hl':(now:Int)=(m:Int) - 1:=by omega
  rw [hl'];clear hl hl' hnow
  go_enter Tryz.func130,Tryz.ntmps130
  go_wp2_with fail
  go_ret
  exact ⟨rfl,hA _⟩
 ·rw [if_neg hl]
  have hl':¬ (now:Int)=(m:Int) - 1:=by omega
  clear hl
  go_enter Tryz.func130,Tryz.ntmps130
  go_wp2_with fail
  go_ret
  exact ⟨by simp,hA _⟩
def LawAt (w:World) (F:Value) (m:Nat) (u v:Nat->Bool):Prop:=∃ f caps,F=.func (.func f) #[] caps/\(∀ args w,(callFunc f args).run Tryz.prog w=.ok (.enter f args) w)/\∀ w',Below w.heap.size w w'->∀ (now:Nat) (x:Bool),now < m->Calls Tryz.prog f (#[.int .i64 (now:Int),.bool x]++caps) w' fun e w2=>e=.returned (.bool (u now||(v now&&x)))/\Below w'.heap.size w' w2
structure FunIn (w:World) (bt bp bf bs:Nat):Prop where
 f1:w.cell? ⟨bf,0,none⟩=some (.func (.func 131) #[] #[.pointer (some ⟨bt,0,none⟩),.pointer (some ⟨bp,0,none⟩)])
 f2:w.cell? ⟨bs,0,none⟩=some (.func (.func 132) #[] #[.pointer (some ⟨bt,0,none⟩),.pointer (some ⟨bp,0,none⟩)])
 hbf:bf < w.heap.size
 hbs:bs < w.heap.size
theorem FunIn.below {w w':World} {bt bp bf bs:Nat} (t:FunIn w bt bp bf bs) (hb:Below w.heap.size w w'):FunIn w' bt bp bf bs:=
 ⟨(hb.cell (p:=⟨bf,0,none⟩) t.hbf).trans t.f1,(hb.cell (p:=⟨bs,0,none⟩) t.hbs).trans t.f2,Nat.lt_of_lt_of_le t.hbf hb.size,Nat.lt_of_lt_of_le t.hbs hb.size⟩
theorem law5_w (w:World) (bt bp b off n cap B:Nat) (aao:Option Addr) (an ac lb m lcap s R p:Nat) (l:List (Int × Int)) (ls:List (List Bool)) (h:Nat->Nat->Bool) (bf bs:Nat) (now:Nat) (x:Bool) (hT:TabIn w bt bp b off n cap B aao an ac lb m lcap s R p l ls h) (hF:FunIn w bt bp bf bs) (hp:p+1 < n) (hnow:now < m) :
  Calls Tryz.prog 135 #[.int .i64 (now:Int),.bool x,.pointer (some ⟨bf,0,none⟩)] w fun e w'=>e=.returned (.bool (!h (p+1) now))/\w'=w:=by
 have hf:=first_w w bt bp b off n cap B aao an ac lb m lcap s R p l ls h now hT hp hnow;have f1:=hF.f1;generalize h (p+1) now=y at *;clear hT hF
 cases y
 all_goals
  go_enter Tryz.func135,Tryz.ntmps135
  go_wp2_with (go_at_call 131;refine hf.mono ?_;rintro e w1 ⟨rfl,hw1⟩;obtain rfl:=hw1.symm)
  go_ret
  exact ⟨by first | rfl | simp,rfl⟩
theorem law9_w (w:World) (bt bp b off n cap B:Nat) (aao:Option Addr) (an ac lb m lcap s R p:Nat) (l:List (Int × Int)) (ls:List (List Bool)) (h:Nat->Nat->Bool) (bf bs:Nat) (now:Nat) (x:Bool) (hT:TabIn w bt bp b off n cap B aao an ac lb m lcap s R p l ls h) (hF:FunIn w bt bp bf bs) (hp:p+1 < n) (hnow:now < m) :
  Calls Tryz.prog 139 #[.int .i64 (now:Int),.bool x,.pointer (some ⟨bf,0,none⟩)] w fun e w'=>e=.returned (.bool (h (p+1) now||x))/\w'=w:=by
 have hf:=first_w w bt bp b off n cap B aao an ac lb m lcap s R p l ls h now hT hp hnow;have f1:=hF.f1;generalize h (p+1) now=y at *;clear hT hF
 cases y
 all_goals
  go_enter Tryz.func139,Tryz.ntmps139
  go_wp2_with (go_at_call 131;refine hf.mono ?_;rintro e w1 ⟨rfl,hw1⟩;obtain rfl:=hw1.symm)
  go_ret
  exact ⟨by first | rfl | simp,rfl⟩
theorem law10_w (w:World) (bt bp b off n cap B:Nat) (aao:Option Addr) (an ac lb m lcap s R p:Nat) (l:List (Int × Int)) (ls:List (List Bool)) (h:Nat->Nat->Bool) (bf bs:Nat) (now:Nat) (x:Bool) (hT:TabIn w bt bp b off n cap B aao an ac lb m lcap s R p l ls h) (hF:FunIn w bt bp bf bs) (hp:p+1 < n) (hnow:now < m) :
  Calls Tryz.prog 140 #[.int .i64 (now:Int),.bool x,.pointer (some ⟨bf,0,none⟩)] w fun e w'=>e=.returned (.bool (h (p+1) now&&x))/\w'=w:=by
 have hf:=first_w w bt bp b off n cap B aao an ac lb m lcap s R p l ls h now hT hp hnow;have f1:=hF.f1;generalize h (p+1) now=y at *;clear hT hF
 cases y
 all_goals
  go_enter Tryz.func140,Tryz.ntmps140
  go_wp2_with (go_at_call 131;refine hf.mono ?_;rintro e w1 ⟨rfl,hw1⟩;obtain rfl:=hw1.symm)
  go_ret
  exact ⟨by first | rfl | simp,rfl⟩
theorem law6_w (w:World) (bt bp b off n cap B:Nat) (aao:Option Addr) (an ac lb m lcap s R p:Nat) (l:List (Int × Int)) (ls:List (List Bool)) (h:Nat->Nat->Bool) (bf bs:Nat) (now:Nat) (x:Bool) (hT:TabIn w bt bp b off n cap B aao an ac lb m lcap s R p l ls h) (hF:FunIn w bt bp bf bs) (hp:p+1 < n) (hs1:p < sec l p) (hs2:sec l p < n) (hnow:now < m) :
  Calls Tryz.prog 136 #[.int .i64 (now:Int),.bool x,.pointer (some ⟨bf,0,none⟩),.pointer (some ⟨bs,0,none⟩)] w fun e w'=>e=.returned (.bool (h (p+1) now&&h (sec l p) now))/\∃ q,w'=w.drewN q:=by
 have hf:=fun q=>first_w (w.drewN q) bt bp b off n cap B aao an ac lb m lcap s R p l ls h now (hT.below (below_drewN (Below.refl _ _) q)) hp hnow
 have hs:=fun q=>second_w (w.drewN q) bt bp b off n cap B aao an ac lb m lcap s R p l ls h now (hT.below (below_drewN (Below.refl _ _) q)) hp hs1 hs2 hnow
 have f1:=hF.f1;have f2:=hF.f2;generalize h (p+1) now=y at *;generalize h (sec l p) now=z at *;clear hT hF
 cases y <;> cases z
 all_goals
  go_enter Tryz.func136,Tryz.ntmps136
  go_wp2_with (first | (go_at_call 131;first | (refine (hf 0).mono ?_;rintro e w1 ⟨rfl,hw1⟩;obtain rfl:=hw1.symm) | (refine (hf _).mono ?_;rintro e w1 ⟨rfl,hw1⟩;obtain rfl:=hw1.symm)) | (go_at_call 132;first | (refine (hs 0).mono ?_;rintro e w1 ⟨rfl,q1,rfl⟩) | (refine (hs _).mono ?_;rintro e w1 ⟨rfl,q1,rfl⟩)))
  go_ret
  exact ⟨by first | rfl | simp,by first | exact ⟨0,rfl⟩ | exact ⟨_,rfl⟩ | exact ⟨_,World.drewN_drewN _ _ _⟩ | (exact ⟨_,by simp only [World.drewN_drewN];rfl⟩)⟩
theorem law7_w (w:World) (bt bp b off n cap B:Nat) (aao:Option Addr) (an ac lb m lcap s R p:Nat) (l:List (Int × Int)) (ls:List (List Bool)) (h:Nat->Nat->Bool) (bf bs:Nat) (now:Nat) (x:Bool) (hT:TabIn w bt bp b off n cap B aao an ac lb m lcap s R p l ls h) (hF:FunIn w bt bp bf bs) (hp:p+1 < n) (hs1:p < sec l p) (hs2:sec l p < n) (hnow:now < m) :
  Calls Tryz.prog 137 #[.int .i64 (now:Int),.bool x,.pointer (some ⟨bf,0,none⟩),.pointer (some ⟨bs,0,none⟩)] w fun e w'=>e=.returned (.bool (h (p+1) now||h (sec l p) now))/\∃ q,w'=w.drewN q:=by
 have hf:=fun q=>first_w (w.drewN q) bt bp b off n cap B aao an ac lb m lcap s R p l ls h now (hT.below (below_drewN (Below.refl _ _) q)) hp hnow
 have hs:=fun q=>second_w (w.drewN q) bt bp b off n cap B aao an ac lb m lcap s R p l ls h now (hT.below (below_drewN (Below.refl _ _) q)) hp hs1 hs2 hnow
 have f1:=hF.f1;have f2:=hF.f2;generalize h (p+1) now=y at *;generalize h (sec l p) now=z at *;clear hT hF
 cases y <;> cases z
 all_goals
  go_enter Tryz.func137,Tryz.ntmps137
  go_wp2_with (first | (go_at_call 131;first | (refine (hf 0).mono ?_;rintro e w1 ⟨rfl,hw1⟩;obtain rfl:=hw1.symm) | (refine (hf _).mono ?_;rintro e w1 ⟨rfl,hw1⟩;obtain rfl:=hw1.symm)) | (go_at_call 132;first | (refine (hs 0).mono ?_;rintro e w1 ⟨rfl,q1,rfl⟩) | (refine (hs _).mono ?_;rintro e w1 ⟨rfl,q1,rfl⟩)))
  go_ret
  exact ⟨by first | rfl | simp,by first | exact ⟨0,rfl⟩ | exact ⟨_,rfl⟩ | exact ⟨_,World.drewN_drewN _ _ _⟩ | (exact ⟨_,by simp only [World.drewN_drewN];rfl⟩)⟩
theorem law11_w (w:World) (bt bp b off n cap B:Nat) (aao:Option Addr) (an ac lb m lcap s R p:Nat) (l:List (Int × Int)) (ls:List (List Bool)) (h:Nat->Nat->Bool) (bf bs:Nat) (now:Nat) (x:Bool) (hT:TabIn w bt bp b off n cap B aao an ac lb m lcap s R p l ls h) (hF:FunIn w bt bp bf bs) (hp:p+1 < n) (hs1:p < sec l p) (hs2:sec l p < n) (hnow:now < m) :
  Calls Tryz.prog 141 #[.int .i64 (now:Int),.bool x,.pointer (some ⟨bs,0,none⟩),.pointer (some ⟨bf,0,none⟩)] w fun e w'=>e=.returned (.bool (h (sec l p) now||(h (p+1) now&&x)))/\∃ q,w'=w.drewN q:=by
 have hf:=fun q=>first_w (w.drewN q) bt bp b off n cap B aao an ac lb m lcap s R p l ls h now (hT.below (below_drewN (Below.refl _ _) q)) hp hnow
 have hs:=fun q=>second_w (w.drewN q) bt bp b off n cap B aao an ac lb m lcap s R p l ls h now (hT.below (below_drewN (Below.refl _ _) q)) hp hs1 hs2 hnow
 have f1:=hF.f1;have f2:=hF.f2;generalize h (p+1) now=y at *;generalize h (sec l p) now=z at *;clear hT hF
 cases y <;> cases z
 all_goals
  go_enter Tryz.func141,Tryz.ntmps141
  go_wp2_with (first | (go_at_call 131;first | (refine (hf 0).mono ?_;rintro e w1 ⟨rfl,hw1⟩;obtain rfl:=hw1.symm) | (refine (hf _).mono ?_;rintro e w1 ⟨rfl,hw1⟩;obtain rfl:=hw1.symm)) | (go_at_call 132;first | (refine (hs 0).mono ?_;rintro e w1 ⟨rfl,q1,rfl⟩) | (refine (hs _).mono ?_;rintro e w1 ⟨rfl,q1,rfl⟩)))
  go_ret
  exact ⟨by first | rfl | simp,by first | exact ⟨0,rfl⟩ | exact ⟨_,rfl⟩ | exact ⟨_,World.drewN_drewN _ _ _⟩ | (exact ⟨_,by simp only [World.drewN_drewN];rfl⟩)⟩
theorem law12_w (w:World) (bt bp b off n cap B:Nat) (aao:Option Addr) (an ac lb m lcap s R p:Nat) (l:List (Int × Int)) (ls:List (List Bool)) (h:Nat->Nat->Bool) (bf bs:Nat) (now:Nat) (x:Bool) (hT:TabIn w bt bp b off n cap B aao an ac lb m lcap s R p l ls h) (hF:FunIn w bt bp bf bs) (hp:p+1 < n) (hs1:p < sec l p) (hs2:sec l p < n) (hnow:now < m) :
  Calls Tryz.prog 142 #[.int .i64 (now:Int),.bool x,.pointer (some ⟨bs,0,none⟩),.pointer (some ⟨bf,0,none⟩)] w fun e w'=>e=.returned (.bool (h (sec l p) now&&(h (p+1) now||x)))/\∃ q,w'=w.drewN q:=by
 have hf:=fun q=>first_w (w.drewN q) bt bp b off n cap B aao an ac lb m lcap s R p l ls h now (hT.below (below_drewN (Below.refl _ _) q)) hp hnow
 have hs:=fun q=>second_w (w.drewN q) bt bp b off n cap B aao an ac lb m lcap s R p l ls h now (hT.below (below_drewN (Below.refl _ _) q)) hp hs1 hs2 hnow
 have f1:=hF.f1;have f2:=hF.f2;generalize h (p+1) now=y at *;generalize h (sec l p) now=z at *;clear hT hF
 cases y <;> cases z
 all_goals
  go_enter Tryz.func142,Tryz.ntmps142
  go_wp2_with (first | (go_at_call 131;first | (refine (hf 0).mono ?_;rintro e w1 ⟨rfl,hw1⟩;obtain rfl:=hw1.symm) | (refine (hf _).mono ?_;rintro e w1 ⟨rfl,hw1⟩;obtain rfl:=hw1.symm)) | (go_at_call 132;first | (refine (hs 0).mono ?_;rintro e w1 ⟨rfl,q1,rfl⟩) | (refine (hs _).mono ?_;rintro e w1 ⟨rfl,q1,rfl⟩)))
  go_ret
  exact ⟨by first | rfl | simp,by first | exact ⟨0,rfl⟩ | exact ⟨_,rfl⟩ | exact ⟨_,World.drewN_drewN _ _ _⟩ | (exact ⟨_,by simp only [World.drewN_drewN];rfl⟩)⟩
theorem law8_w (w:World) (bt bp b off n cap B:Nat) (aao:Option Addr) (an ac lb m lcap s R p:Nat) (l:List (Int × Int)) (ls:List (List Bool)) (h:Nat->Nat->Bool) (bf bs:Nat) (now:Nat) (x:Bool) (hT:TabIn w bt bp b off n cap B aao an ac lb m lcap s R p l ls h) (hF:FunIn w bt bp bf bs) (hp:p+1 < n) (hnow:now < m) :
  Calls Tryz.prog 138 #[.int .i64 (now:Int),.bool x,.pointer (some ⟨bf,0,none⟩),.pointer (some ⟨bt,0,none⟩)] w fun e w'=>e=.returned (.bool (h (p+1) (if now=m - 1 then s else now+1)))/\Below w.heap.size w w':=by
 have haf:=fun w1=>after_any b off n cap B aao an ac lb m lcap s R now w1 hT.hm24 hnow
 have hlt:(if now=m - 1 then s else now+1) < m:=by have:=hT.hs;split <;> omega
 generalize (if now=m - 1 then s else now+1)=nx at *
 have HF:Hid (∀ w1,Below w.heap.size w w1->Calls Tryz.prog 131 #[.int .i64 (nx:Int),.pointer (some ⟨bt,0,none⟩),.pointer (some ⟨bp,0,none⟩)] w1 fun e w'=>e=.returned (.bool (h (p+1) nx))/\w'=w1):=fun w1 hb=>first_w w1 bt bp b off n cap B aao an ac lb m lcap s R p l ls h nx (hT.below hb) hp hlt
 have HS:Hid (∀ w1,Below w.heap.size w w1->w1.cell? ⟨bf,0,none⟩=some (.func (.func 131) #[] #[.pointer (some ⟨bt,0,none⟩),.pointer (some ⟨bp,0,none⟩)])/\w1.cell? ⟨bt,0,none⟩=some (.slice (some ⟨b,off,none⟩) n cap)/\w1.cell? ⟨bt,1,none⟩=some (.slice (some ⟨B,0,none⟩) n n)/\w1.cell? ⟨bt,2,none⟩=some (.slice aao an ac)/\w1.cell? ⟨bt,3,none⟩=some (.slice (some ⟨lb,0,none⟩) m lcap)/\w1.cell? ⟨bt,4,none⟩=some (.int .i64 (s:Int))/\w1.cell? ⟨bt,5,none⟩=some (.slice (some ⟨R,0,none⟩) n n)/\Below w.heap.size w w1):=fun w1 hb=>by
  have t:=hT.below hb;exact ⟨(hF.below hb).f1,t.c0,t.c1,t.c2,t.c3,t.c4,t.c5,hb⟩
 have hS:=HS.out;have hB0:Below w.heap.size w w:=Below.refl _ _;generalize h (p+1) nx=y at *;clear hT hF
 go_enter Tryz.func138,Tryz.ntmps138
 go_wp2_with fail
 go_region_held3 (fun w'=>w'.cell? ⟨bf,0,none⟩=some (.func (.func 131) #[] #[.pointer (some ⟨bt,0,none⟩),.pointer (some ⟨bp,0,none⟩)])/\w'.cell? ⟨bt,0,none⟩=some (.slice (some ⟨b,off,none⟩) n cap)/\w'.cell? ⟨bt,1,none⟩=some (.slice (some ⟨B,0,none⟩) n n)/\w'.cell? ⟨bt,2,none⟩=some (.slice aao an ac)/\w'.cell? ⟨bt,3,none⟩=some (.slice (some ⟨lb,0,none⟩) m lcap)/\w'.cell? ⟨bt,4,none⟩=some (.int .i64 (s:Int))/\w'.cell? ⟨bt,5,none⟩=some (.slice (some ⟨R,0,none⟩) n n)/\Below w.heap.size w w')
  (exact hS _ (by first | exact hB0 | exact hB0.drew | exact hb4))
  (first | (go_at_call 130;refine (haf _).mono ?_;rintro e w4 ⟨rfl,hb4'⟩;have hb4:=hB0.drew.trans (hb4'.mono hB0.drew.size)) | (go_at_call 131;refine (HF.out _ hb4).mono ?_;rintro e w5 ⟨rfl,hw5⟩;obtain rfl:=hw5.symm))
 go_wp2_with fail
 go_ret
 exact ⟨rfl,hb4⟩
theorem law4_w (w:World) (now:Nat) (x:Bool):Calls Tryz.prog 134 #[.int .i64 (now:Int),.bool x] w fun e w'=>e=.returned (.bool true)/\w'=w:=by
 go_enter Tryz.func134,Tryz.ntmps134
 go_wp2_with fail
 go_ret
 exact ⟨rfl,rfl⟩
theorem law13_w (w:World) (now:Nat) (x:Bool):Calls Tryz.prog 143 #[.int .i64 (now:Int),.bool x] w fun e w'=>e=.returned (.bool false)/\w'=w:=by
 go_enter Tryz.func143,Tryz.ntmps143
 go_wp2_with fail
 go_ret
 exact ⟨rfl,rfl⟩
theorem lawK_13 (b off n cap B:Nat) (aao:Option Addr) (an ac lb m lcap s R p:Nat) (v:Int) (w:World) (hp:p < n) (c0:w.cell? ⟨b,off+p*2,none⟩=some (.int .i64 13)) (c1:w.cell? ⟨b,off+p*2+1,none⟩=some (.int .i64 v)) :
  Calls Tryz.prog 101 #[.agg #[.slice (some ⟨b,off,none⟩) n cap,.slice (some ⟨B,0,none⟩) n n,.slice aao an ac,.slice (some ⟨lb,0,none⟩) m lcap,.int .i64 (s:Int),.slice (some ⟨R,0,none⟩) n n],.int .i64 (p:Int)] w fun e w'=>e=.returned (.func (.func 133) #[] #[.pointer (some ⟨w.heap.size,0,none⟩),.pointer (some ⟨w.heap.size+1+1,0,none⟩)])/\w'=(((((w.alloc (.cells #[.slice (some ⟨b,off,none⟩) n cap,.slice (some ⟨B,0,none⟩) n n,.slice aao an ac,.slice (some ⟨lb,0,none⟩) m lcap,.int .i64 (s:Int),.slice (some ⟨R,0,none⟩) n n] 159)).alloc (.cells #[.int .i64 (p:Int)] 3)).alloc (.cells #[.int .i64 13,.int .i64 v] 88)).alloc (.cells #[.func (.func 131) #[] #[.pointer (some ⟨w.heap.size,0,none⟩),.pointer (some ⟨w.heap.size+1,0,none⟩)]] 115)).alloc (.cells #[.func (.func 132) #[] #[.pointer (some ⟨w.heap.size,0,none⟩),.pointer (some ⟨w.heap.size+1,0,none⟩)]] 115)):=by
 have hb:=World.block_lt_of_cell? w ⟨b,off+p*2,none⟩ c0
 go_enter Tryz.func101,Tryz.ntmps101
 go_wp2_with fail
 go_ret
 exact ⟨rfl,rfl⟩
theorem lawK_11 (b off n cap B:Nat) (aao:Option Addr) (an ac lb m lcap s R p:Nat) (v:Int) (w:World) (hp:p < n) (c0:w.cell? ⟨b,off+p*2,none⟩=some (.int .i64 11)) (c1:w.cell? ⟨b,off+p*2+1,none⟩=some (.int .i64 v)) :
  Calls Tryz.prog 101 #[.agg #[.slice (some ⟨b,off,none⟩) n cap,.slice (some ⟨B,0,none⟩) n n,.slice aao an ac,.slice (some ⟨lb,0,none⟩) m lcap,.int .i64 (s:Int),.slice (some ⟨R,0,none⟩) n n],.int .i64 (p:Int)] w fun e w'=>e=.returned (.func (.func 134) #[] #[])/\w'=(((((w.alloc (.cells #[.slice (some ⟨b,off,none⟩) n cap,.slice (some ⟨B,0,none⟩) n n,.slice aao an ac,.slice (some ⟨lb,0,none⟩) m lcap,.int .i64 (s:Int),.slice (some ⟨R,0,none⟩) n n] 159)).alloc (.cells #[.int .i64 (p:Int)] 3)).alloc (.cells #[.int .i64 11,.int .i64 v] 88)).alloc (.cells #[.func (.func 131) #[] #[.pointer (some ⟨w.heap.size,0,none⟩),.pointer (some ⟨w.heap.size+1,0,none⟩)]] 115)).alloc (.cells #[.func (.func 132) #[] #[.pointer (some ⟨w.heap.size,0,none⟩),.pointer (some ⟨w.heap.size+1,0,none⟩)]] 115)):=by
 have hb:=World.block_lt_of_cell? w ⟨b,off+p*2,none⟩ c0
 go_enter Tryz.func101,Tryz.ntmps101
 go_wp2_with fail
 go_ret
 exact ⟨rfl,rfl⟩
theorem lawK_10 (b off n cap B:Nat) (aao:Option Addr) (an ac lb m lcap s R p:Nat) (v:Int) (w:World) (hp:p < n) (c0:w.cell? ⟨b,off+p*2,none⟩=some (.int .i64 10)) (c1:w.cell? ⟨b,off+p*2+1,none⟩=some (.int .i64 v)) :
  Calls Tryz.prog 101 #[.agg #[.slice (some ⟨b,off,none⟩) n cap,.slice (some ⟨B,0,none⟩) n n,.slice aao an ac,.slice (some ⟨lb,0,none⟩) m lcap,.int .i64 (s:Int),.slice (some ⟨R,0,none⟩) n n],.int .i64 (p:Int)] w fun e w'=>e=.returned (.func (.func 135) #[] #[.pointer (some ⟨w.heap.size+1+1+1,0,none⟩)])/\w'=(((((w.alloc (.cells #[.slice (some ⟨b,off,none⟩) n cap,.slice (some ⟨B,0,none⟩) n n,.slice aao an ac,.slice (some ⟨lb,0,none⟩) m lcap,.int .i64 (s:Int),.slice (some ⟨R,0,none⟩) n n] 159)).alloc (.cells #[.int .i64 (p:Int)] 3)).alloc (.cells #[.int .i64 10,.int .i64 v] 88)).alloc (.cells #[.func (.func 131) #[] #[.pointer (some ⟨w.heap.size,0,none⟩),.pointer (some ⟨w.heap.size+1,0,none⟩)]] 115)).alloc (.cells #[.func (.func 132) #[] #[.pointer (some ⟨w.heap.size,0,none⟩),.pointer (some ⟨w.heap.size+1,0,none⟩)]] 115)):=by
 have hb:=World.block_lt_of_cell? w ⟨b,off+p*2,none⟩ c0
 go_enter Tryz.func101,Tryz.ntmps101
 go_wp2_with fail
 go_ret
 exact ⟨rfl,rfl⟩
theorem lawK_8 (b off n cap B:Nat) (aao:Option Addr) (an ac lb m lcap s R p:Nat) (v:Int) (w:World) (hp:p < n) (c0:w.cell? ⟨b,off+p*2,none⟩=some (.int .i64 8)) (c1:w.cell? ⟨b,off+p*2+1,none⟩=some (.int .i64 v)) :
  Calls Tryz.prog 101 #[.agg #[.slice (some ⟨b,off,none⟩) n cap,.slice (some ⟨B,0,none⟩) n n,.slice aao an ac,.slice (some ⟨lb,0,none⟩) m lcap,.int .i64 (s:Int),.slice (some ⟨R,0,none⟩) n n],.int .i64 (p:Int)] w fun e w'=>e=.returned (.func (.func 136) #[] #[.pointer (some ⟨w.heap.size+1+1+1,0,none⟩),.pointer (some ⟨w.heap.size+1+1+1+1,0,none⟩)])/\w'=(((((w.alloc (.cells #[.slice (some ⟨b,off,none⟩) n cap,.slice (some ⟨B,0,none⟩) n n,.slice aao an ac,.slice (some ⟨lb,0,none⟩) m lcap,.int .i64 (s:Int),.slice (some ⟨R,0,none⟩) n n] 159)).alloc (.cells #[.int .i64 (p:Int)] 3)).alloc (.cells #[.int .i64 8,.int .i64 v] 88)).alloc (.cells #[.func (.func 131) #[] #[.pointer (some ⟨w.heap.size,0,none⟩),.pointer (some ⟨w.heap.size+1,0,none⟩)]] 115)).alloc (.cells #[.func (.func 132) #[] #[.pointer (some ⟨w.heap.size,0,none⟩),.pointer (some ⟨w.heap.size+1,0,none⟩)]] 115)):=by
 have hb:=World.block_lt_of_cell? w ⟨b,off+p*2,none⟩ c0
 go_enter Tryz.func101,Tryz.ntmps101
 go_wp2_with fail
 go_ret
 exact ⟨rfl,rfl⟩
theorem lawK_9 (b off n cap B:Nat) (aao:Option Addr) (an ac lb m lcap s R p:Nat) (v:Int) (w:World) (hp:p < n) (c0:w.cell? ⟨b,off+p*2,none⟩=some (.int .i64 9)) (c1:w.cell? ⟨b,off+p*2+1,none⟩=some (.int .i64 v)) :
  Calls Tryz.prog 101 #[.agg #[.slice (some ⟨b,off,none⟩) n cap,.slice (some ⟨B,0,none⟩) n n,.slice aao an ac,.slice (some ⟨lb,0,none⟩) m lcap,.int .i64 (s:Int),.slice (some ⟨R,0,none⟩) n n],.int .i64 (p:Int)] w fun e w'=>e=.returned (.func (.func 137) #[] #[.pointer (some ⟨w.heap.size+1+1+1,0,none⟩),.pointer (some ⟨w.heap.size+1+1+1+1,0,none⟩)])/\w'=(((((w.alloc (.cells #[.slice (some ⟨b,off,none⟩) n cap,.slice (some ⟨B,0,none⟩) n n,.slice aao an ac,.slice (some ⟨lb,0,none⟩) m lcap,.int .i64 (s:Int),.slice (some ⟨R,0,none⟩) n n] 159)).alloc (.cells #[.int .i64 (p:Int)] 3)).alloc (.cells #[.int .i64 9,.int .i64 v] 88)).alloc (.cells #[.func (.func 131) #[] #[.pointer (some ⟨w.heap.size,0,none⟩),.pointer (some ⟨w.heap.size+1,0,none⟩)]] 115)).alloc (.cells #[.func (.func 132) #[] #[.pointer (some ⟨w.heap.size,0,none⟩),.pointer (some ⟨w.heap.size+1,0,none⟩)]] 115)):=by
 have hb:=World.block_lt_of_cell? w ⟨b,off+p*2,none⟩ c0
 go_enter Tryz.func101,Tryz.ntmps101
 go_wp2_with fail
 go_ret
 exact ⟨rfl,rfl⟩
theorem lawK_14 (b off n cap B:Nat) (aao:Option Addr) (an ac lb m lcap s R p:Nat) (v:Int) (w:World) (hp:p < n) (c0:w.cell? ⟨b,off+p*2,none⟩=some (.int .i64 14)) (c1:w.cell? ⟨b,off+p*2+1,none⟩=some (.int .i64 v)) :
  Calls Tryz.prog 101 #[.agg #[.slice (some ⟨b,off,none⟩) n cap,.slice (some ⟨B,0,none⟩) n n,.slice aao an ac,.slice (some ⟨lb,0,none⟩) m lcap,.int .i64 (s:Int),.slice (some ⟨R,0,none⟩) n n],.int .i64 (p:Int)] w fun e w'=>e=.returned (.func (.func 138) #[] #[.pointer (some ⟨w.heap.size+1+1+1,0,none⟩),.pointer (some ⟨w.heap.size,0,none⟩)])/\w'=(((((w.alloc (.cells #[.slice (some ⟨b,off,none⟩) n cap,.slice (some ⟨B,0,none⟩) n n,.slice aao an ac,.slice (some ⟨lb,0,none⟩) m lcap,.int .i64 (s:Int),.slice (some ⟨R,0,none⟩) n n] 159)).alloc (.cells #[.int .i64 (p:Int)] 3)).alloc (.cells #[.int .i64 14,.int .i64 v] 88)).alloc (.cells #[.func (.func 131) #[] #[.pointer (some ⟨w.heap.size,0,none⟩),.pointer (some ⟨w.heap.size+1,0,none⟩)]] 115)).alloc (.cells #[.func (.func 132) #[] #[.pointer (some ⟨w.heap.size,0,none⟩),.pointer (some ⟨w.heap.size+1,0,none⟩)]] 115)):=by
 have hb:=World.block_lt_of_cell? w ⟨b,off+p*2,none⟩ c0
 go_enter Tryz.func101,Tryz.ntmps101
 go_wp2_with fail
 go_ret
 exact ⟨rfl,rfl⟩
theorem lawK_17 (b off n cap B:Nat) (aao:Option Addr) (an ac lb m lcap s R p:Nat) (v:Int) (w:World) (hp:p < n) (c0:w.cell? ⟨b,off+p*2,none⟩=some (.int .i64 17)) (c1:w.cell? ⟨b,off+p*2+1,none⟩=some (.int .i64 v)) :
  Calls Tryz.prog 101 #[.agg #[.slice (some ⟨b,off,none⟩) n cap,.slice (some ⟨B,0,none⟩) n n,.slice aao an ac,.slice (some ⟨lb,0,none⟩) m lcap,.int .i64 (s:Int),.slice (some ⟨R,0,none⟩) n n],.int .i64 (p:Int)] w fun e w'=>e=.returned (.func (.func 139) #[] #[.pointer (some ⟨w.heap.size+1+1+1,0,none⟩)])/\w'=(((((w.alloc (.cells #[.slice (some ⟨b,off,none⟩) n cap,.slice (some ⟨B,0,none⟩) n n,.slice aao an ac,.slice (some ⟨lb,0,none⟩) m lcap,.int .i64 (s:Int),.slice (some ⟨R,0,none⟩) n n] 159)).alloc (.cells #[.int .i64 (p:Int)] 3)).alloc (.cells #[.int .i64 17,.int .i64 v] 88)).alloc (.cells #[.func (.func 131) #[] #[.pointer (some ⟨w.heap.size,0,none⟩),.pointer (some ⟨w.heap.size+1,0,none⟩)]] 115)).alloc (.cells #[.func (.func 132) #[] #[.pointer (some ⟨w.heap.size,0,none⟩),.pointer (some ⟨w.heap.size+1,0,none⟩)]] 115)):=by
 have hb:=World.block_lt_of_cell? w ⟨b,off+p*2,none⟩ c0
 go_enter Tryz.func101,Tryz.ntmps101
 go_wp2_with fail
 go_ret
 exact ⟨rfl,rfl⟩
theorem lawK_18 (b off n cap B:Nat) (aao:Option Addr) (an ac lb m lcap s R p:Nat) (v:Int) (w:World) (hp:p < n) (c0:w.cell? ⟨b,off+p*2,none⟩=some (.int .i64 18)) (c1:w.cell? ⟨b,off+p*2+1,none⟩=some (.int .i64 v)) :
  Calls Tryz.prog 101 #[.agg #[.slice (some ⟨b,off,none⟩) n cap,.slice (some ⟨B,0,none⟩) n n,.slice aao an ac,.slice (some ⟨lb,0,none⟩) m lcap,.int .i64 (s:Int),.slice (some ⟨R,0,none⟩) n n],.int .i64 (p:Int)] w fun e w'=>e=.returned (.func (.func 140) #[] #[.pointer (some ⟨w.heap.size+1+1+1,0,none⟩)])/\w'=(((((w.alloc (.cells #[.slice (some ⟨b,off,none⟩) n cap,.slice (some ⟨B,0,none⟩) n n,.slice aao an ac,.slice (some ⟨lb,0,none⟩) m lcap,.int .i64 (s:Int),.slice (some ⟨R,0,none⟩) n n] 159)).alloc (.cells #[.int .i64 (p:Int)] 3)).alloc (.cells #[.int .i64 18,.int .i64 v] 88)).alloc (.cells #[.func (.func 131) #[] #[.pointer (some ⟨w.heap.size,0,none⟩),.pointer (some ⟨w.heap.size+1,0,none⟩)]] 115)).alloc (.cells #[.func (.func 132) #[] #[.pointer (some ⟨w.heap.size,0,none⟩),.pointer (some ⟨w.heap.size+1,0,none⟩)]] 115)):=by
 have hb:=World.block_lt_of_cell? w ⟨b,off+p*2,none⟩ c0
 go_enter Tryz.func101,Tryz.ntmps101
 go_wp2_with fail
 go_ret
 exact ⟨rfl,rfl⟩
theorem lawK_15 (b off n cap B:Nat) (aao:Option Addr) (an ac lb m lcap s R p:Nat) (v:Int) (w:World) (hp:p < n) (c0:w.cell? ⟨b,off+p*2,none⟩=some (.int .i64 15)) (c1:w.cell? ⟨b,off+p*2+1,none⟩=some (.int .i64 v)) :
  Calls Tryz.prog 101 #[.agg #[.slice (some ⟨b,off,none⟩) n cap,.slice (some ⟨B,0,none⟩) n n,.slice aao an ac,.slice (some ⟨lb,0,none⟩) m lcap,.int .i64 (s:Int),.slice (some ⟨R,0,none⟩) n n],.int .i64 (p:Int)] w fun e w'=>e=.returned (.func (.func 141) #[] #[.pointer (some ⟨w.heap.size+1+1+1+1,0,none⟩),.pointer (some ⟨w.heap.size+1+1+1,0,none⟩)])/\w'=(((((w.alloc (.cells #[.slice (some ⟨b,off,none⟩) n cap,.slice (some ⟨B,0,none⟩) n n,.slice aao an ac,.slice (some ⟨lb,0,none⟩) m lcap,.int .i64 (s:Int),.slice (some ⟨R,0,none⟩) n n] 159)).alloc (.cells #[.int .i64 (p:Int)] 3)).alloc (.cells #[.int .i64 15,.int .i64 v] 88)).alloc (.cells #[.func (.func 131) #[] #[.pointer (some ⟨w.heap.size,0,none⟩),.pointer (some ⟨w.heap.size+1,0,none⟩)]] 115)).alloc (.cells #[.func (.func 132) #[] #[.pointer (some ⟨w.heap.size,0,none⟩),.pointer (some ⟨w.heap.size+1,0,none⟩)]] 115)):=by
 have hb:=World.block_lt_of_cell? w ⟨b,off+p*2,none⟩ c0
 go_enter Tryz.func101,Tryz.ntmps101
 go_wp2_with fail
 go_ret
 exact ⟨rfl,rfl⟩
theorem lawK_16 (b off n cap B:Nat) (aao:Option Addr) (an ac lb m lcap s R p:Nat) (v:Int) (w:World) (hp:p < n) (c0:w.cell? ⟨b,off+p*2,none⟩=some (.int .i64 16)) (c1:w.cell? ⟨b,off+p*2+1,none⟩=some (.int .i64 v)) :
  Calls Tryz.prog 101 #[.agg #[.slice (some ⟨b,off,none⟩) n cap,.slice (some ⟨B,0,none⟩) n n,.slice aao an ac,.slice (some ⟨lb,0,none⟩) m lcap,.int .i64 (s:Int),.slice (some ⟨R,0,none⟩) n n],.int .i64 (p:Int)] w fun e w'=>e=.returned (.func (.func 142) #[] #[.pointer (some ⟨w.heap.size+1+1+1+1,0,none⟩),.pointer (some ⟨w.heap.size+1+1+1,0,none⟩)])/\w'=(((((w.alloc (.cells #[.slice (some ⟨b,off,none⟩) n cap,.slice (some ⟨B,0,none⟩) n n,.slice aao an ac,.slice (some ⟨lb,0,none⟩) m lcap,.int .i64 (s:Int),.slice (some ⟨R,0,none⟩) n n] 159)).alloc (.cells #[.int .i64 (p:Int)] 3)).alloc (.cells #[.int .i64 16,.int .i64 v] 88)).alloc (.cells #[.func (.func 131) #[] #[.pointer (some ⟨w.heap.size,0,none⟩),.pointer (some ⟨w.heap.size+1,0,none⟩)]] 115)).alloc (.cells #[.func (.func 132) #[] #[.pointer (some ⟨w.heap.size,0,none⟩),.pointer (some ⟨w.heap.size+1,0,none⟩)]] 115)):=by
 have hb:=World.block_lt_of_cell? w ⟨b,off+p*2,none⟩ c0
 go_enter Tryz.func101,Tryz.ntmps101
 go_wp2_with fail
 go_ret
 exact ⟨rfl,rfl⟩
theorem lawK_12 (b off n cap B:Nat) (aao:Option Addr) (an ac lb m lcap s R p:Nat) (v:Int) (w:World) (hp:p < n) (c0:w.cell? ⟨b,off+p*2,none⟩=some (.int .i64 12)) (c1:w.cell? ⟨b,off+p*2+1,none⟩=some (.int .i64 v)) :
  Calls Tryz.prog 101 #[.agg #[.slice (some ⟨b,off,none⟩) n cap,.slice (some ⟨B,0,none⟩) n n,.slice aao an ac,.slice (some ⟨lb,0,none⟩) m lcap,.int .i64 (s:Int),.slice (some ⟨R,0,none⟩) n n],.int .i64 (p:Int)] w fun e w'=>e=.returned (.func (.func 143) #[] #[])/\w'=(((((w.alloc (.cells #[.slice (some ⟨b,off,none⟩) n cap,.slice (some ⟨B,0,none⟩) n n,.slice aao an ac,.slice (some ⟨lb,0,none⟩) m lcap,.int .i64 (s:Int),.slice (some ⟨R,0,none⟩) n n] 159)).alloc (.cells #[.int .i64 (p:Int)] 3)).alloc (.cells #[.int .i64 12,.int .i64 v] 88)).alloc (.cells #[.func (.func 131) #[] #[.pointer (some ⟨w.heap.size,0,none⟩),.pointer (some ⟨w.heap.size+1,0,none⟩)]] 115)).alloc (.cells #[.func (.func 132) #[] #[.pointer (some ⟨w.heap.size,0,none⟩),.pointer (some ⟨w.heap.size+1,0,none⟩)]] 115)):=by
 have hb:=World.block_lt_of_cell? w ⟨b,off+p*2,none⟩ c0
 go_enter Tryz.func101,Tryz.ntmps101
 go_wp2_with fail
 go_ret
 exact ⟨rfl,rfl⟩
structure TabAll (w:World) (b off n cap B:Nat) (aao:Option Addr) (an ac lb m lcap s R p:Nat) (l:List (Int × Int)) (ls:List (List Bool)) (h:Nat->Nat->Bool):Prop where
 ends : ∀ j, j < n -> w.cell? ⟨B, j, none⟩ = some (.int .i64 (endAt (l.map Prod.fst) j : Int))
 lets:LettersV w (.slice (some ⟨lb,0,none⟩) m lcap) ls
 rows:∀ q,p < q->q < n->∃ rb ro rc,w.cell? ⟨R,q,none⟩=some (.slice (some ⟨rb,ro,none⟩) m rc)/\rb < w.heap.size/\∀ j,j < m->w.cell? ⟨rb,ro+j,none⟩=some (.bool (h q j))
 hB:B < w.heap.size
 hR:R < w.heap.size
 hm:ls.length=m
 hn:n <= 60
 hm24:m <= 24
 hs:s < m
theorem boxes_below (b off n cap B:Nat) (aao:Option Addr) (an ac lb m lcap s R p:Nat) (k v:Int) (w:World):Below w.heap.size w (((((w.alloc (.cells #[.slice (some ⟨b,off,none⟩) n cap,.slice (some ⟨B,0,none⟩) n n,.slice aao an ac,.slice (some ⟨lb,0,none⟩) m lcap,.int .i64 (s:Int),.slice (some ⟨R,0,none⟩) n n] 159)).alloc (.cells #[.int .i64 (p:Int)] 3)).alloc (.cells #[.int .i64 k,.int .i64 v] 88)).alloc (.cells #[.func (.func 131) #[] #[.pointer (some ⟨w.heap.size,0,none⟩),.pointer (some ⟨w.heap.size+1,0,none⟩)]] 115)).alloc (.cells #[.func (.func 132) #[] #[.pointer (some ⟨w.heap.size,0,none⟩),.pointer (some ⟨w.heap.size+1,0,none⟩)]] 115)):=
 (((((Below.refl _ _).alloc (Nat.le_refl _) _).alloc (by simp) _).alloc (by simp;omega) _).alloc (by simp;omega) _).alloc (by simp;omega) _
theorem boxes_in (b off n cap B:Nat) (aao:Option Addr) (an ac lb m lcap s R p:Nat) (l:List (Int × Int)) (ls:List (List Bool)) (h:Nat->Nat->Bool) (k v:Int) (w:World) (hT:TabAll w b off n cap B aao an ac lb m lcap s R p l ls h) (W:World) (hW:W=(((((w.alloc (.cells #[.slice (some ⟨b,off,none⟩) n cap,.slice (some ⟨B,0,none⟩) n n,.slice aao an ac,.slice (some ⟨lb,0,none⟩) m lcap,.int .i64 (s:Int),.slice (some ⟨R,0,none⟩) n n] 159)).alloc (.cells #[.int .i64 (p:Int)] 3)).alloc (.cells #[.int .i64 k,.int .i64 v] 88)).alloc (.cells #[.func (.func 131) #[] #[.pointer (some ⟨w.heap.size,0,none⟩),.pointer (some ⟨w.heap.size+1,0,none⟩)]] 115)).alloc (.cells #[.func (.func 132) #[] #[.pointer (some ⟨w.heap.size,0,none⟩),.pointer (some ⟨w.heap.size+1,0,none⟩)]] 115))) :
  TabIn W w.heap.size (w.heap.size+1) b off n cap B aao an ac lb m lcap s R p l ls h/\FunIn W w.heap.size (w.heap.size+1) (w.heap.size+1+1+1) (w.heap.size+1+1+1+1)/\W.cell? ⟨w.heap.size+1+1,1,none⟩=some (.int .i64 v)/\Below w.heap.size w W:=by
 have hb:Below w.heap.size w W:=by rw [hW];exact boxes_below b off n cap B aao an ac lb m lcap s R p k v w
 have hz:W.heap.size=w.heap.size+1+1+1+1+1:=by rw [hW];simp
 refine ⟨⟨?_,?_,?_,?_,?_,?_,?_,fun j hj=>(hb.cell (p:=⟨B,j,none⟩) hT.hB).trans (hT.ends j hj),hT.lets.below hb,fun q h1 h2=>?_,by omega,by omega,by have:=hT.hB;omega,by have:=hT.hR;omega,hT.hm,hT.hn,hT.hm24,hT.hs⟩,⟨?_,?_,by omega,by omega⟩,?_,hb⟩
 ·rw [hW];simp [go_sem]
 ·rw [hW];simp [go_sem]
 ·rw [hW];simp [go_sem]
 ·rw [hW];simp [go_sem]
 ·rw [hW];simp [go_sem]
 ·rw [hW];simp [go_sem]
 ·rw [hW];simp [go_sem]
 ·obtain ⟨rb,ro,rc,e1,e2,e3⟩:=hT.rows q h1 h2
  exact ⟨rb,ro,rc,(hb.cell (p:=⟨R,q,none⟩) hT.hR).trans e1,by omega,fun j hj=>(hb.cell (p:=⟨rb,ro+j,none⟩) e2).trans (e3 j hj)⟩
 ·rw [hW];simp [go_sem]
 ·rw [hW];simp [go_sem]
 ·rw [hW];simp [go_sem]
def LawPost (w:World) (m:Nat) (u v:Nat->Bool) (e:Ending) (w':World):Prop:=∃ f caps,e=.returned (.func (.func f) #[] caps)/\Below w.heap.size w w'/\LawAt w' (.func (.func f) #[] caps) m u v
theorem law_any (b off n cap B:Nat) (aao:Option Addr) (an ac lb m lcap s R p:Nat) (l:List (Int × Int)) (ls:List (List Bool)) (t:Tm) (props:Int) (w:World) (hw:t.Wf) (hl:t.ops=l) (hln:l.length=n) (hat:OpsAt w b off l) (hp:p < n) (hpr:∀ q,q < n->lopErr props (l.getD q (0,0))=0) (hls:∀ i,i < ls.length->((ls.getD i []).length:Int)=props)
  (hT:TabAll w b off n cap B aao an ac lb m lcap s R p l ls (fun q=>(t.sub q).hb (sig ls s))) :
  Calls Tryz.prog 101 #[.agg #[.slice (some ⟨b,off,none⟩) n cap,.slice (some ⟨B,0,none⟩) n n,.slice aao an ac,.slice (some ⟨lb,0,none⟩) m lcap,.int .i64 (s:Int),.slice (some ⟨R,0,none⟩) n n],.int .i64 (p:Int)] w (LawPost w m ((t.sub p).uT (sig ls s)) ((t.sub p).vT (sig ls s))):=by
 have hsz:t.size=n:=by rw [<- t.ops_length,hl,hln]
 have hpt:p < t.size:=by omega
 have hop:=t.op_at hpt (0,0);rw [hl] at hop;obtain ⟨c0,c1⟩:=hat p (by omega)
 have he:=hpr p hp;rw [hop] at c0 c1 he;simp only at c0 c1
 have hsw:=Tm.sub_wf hw p;have hki:=fun i (hi:i < (t.sub p).kids.length)=>Tm.kid_in hw hpt hi
 have hss:s < ls.length:=by rw [hT.hm];exact hT.hs
 have hmo:∀ (x:Tm) now,now < m->x.hb (sig ls s) (if now=m - 1 then s else now+1)=x.hb (sig ls s) (now+1):=fun x now hnow=>by
  by_cases hl1:now=m - 1
  ·rw [if_pos hl1,<- hb_mo hss x (now+1),hT.hm,moAt_back hT.hs (by omega),show now+1 - (m - s)=s by have:=hT.hs;omega,moAt_low hT.hs]
  ·rw [if_neg hl1]
 have hsec:sec l p=endAt (t.ops.map Prod.fst) (p+1):=by unfold sec;rw [hl]
 cases hx:t.sub p with
 | leaf k v=>
  rw [hx] at c0 c1 he hsw;simp only [Tm.kind,Tm.val] at c0 c1 he
  have hk:k=13\/k=11\/k=12:=by
   obtain ⟨h1,h2⟩:=hsw;simp only [okK,decide_eq_true_eq] at h1;simp only [lopErr] at he;simp only [pn] at h2
   split at he
   ·omega
   ·split at h2
    ·omega
    ·split at h2 <;> omega
  rcases hk with rfl | rfl | rfl
  ·have hv:0 <= v/\v < props:=by
    by_cases hh:v < 0\/props - 1 < v
    ·exfalso;simp [lopErr,hh] at he
    ·omega
   refine (lawK_13 b off n cap B aao an ac lb m lcap s R p v w hp c0 c1).mono fun e w' ⟨h1,h2⟩=>?_
   obtain ⟨t5,f5,co,hb5⟩:=boxes_in b off n cap B aao an ac lb m lcap s R p l ls _ 13 v w hT w' h2;refine ⟨_,_,h1,hb5,_,_,rfl,fun args w=>by simp [go_sem],fun w2 hb2 now x hnow=>?_⟩
   refine (prop_w w2 _ _ b off n cap B aao an ac lb m lcap s R p l ls _ _ v x now (t5.below hb2) hnow ((hb2.cell (p:=⟨w.heap.size+1+1,1,none⟩) (by have:=f5.hbf;show w.heap.size+1+1 < _;omega)).trans co) hv.1 (by rw [hls now (by rw [hT.hm];exact hnow)];exact hv.2)).mono fun e w3 ⟨h3,q,h4⟩=>⟨?_,h4 ▸ below_drewN (Below.refl _ _) q⟩
   rw [h3];simp only [Tm.uT,Tm.vT,Bool.false_and,Bool.or_false,Tm.hb_prop,sig];rw [moAt_low (by rw [hT.hm];exact hnow)]
  ·refine (lawK_11 b off n cap B aao an ac lb m lcap s R p v w hp c0 c1).mono fun e w' ⟨h1,h2⟩=>?_
   obtain ⟨t5,f5,co,hb5⟩:=boxes_in b off n cap B aao an ac lb m lcap s R p l ls _ 11 v w hT w' h2;refine ⟨_,_,h1,hb5,_,_,rfl,fun args w=>by simp [go_sem],fun w2 hb2 now x hnow=>?_⟩
   refine (law4_w w2 now x).mono fun e w3 ⟨h3,h4⟩=>⟨?_,h4 ▸ Below.refl _ _⟩
   rw [h3];simp only [Tm.uT,Tm.vT,Bool.false_and,Bool.or_false,Tm.hb_yes]
  ·refine (lawK_12 b off n cap B aao an ac lb m lcap s R p v w hp c0 c1).mono fun e w' ⟨h1,h2⟩=>?_
   obtain ⟨t5,f5,co,hb5⟩:=boxes_in b off n cap B aao an ac lb m lcap s R p l ls _ 12 v w hT w' h2;refine ⟨_,_,h1,hb5,_,_,rfl,fun args w=>by simp [go_sem],fun w2 hb2 now x hnow=>?_⟩
   refine (law13_w w2 now x).mono fun e w3 ⟨h3,h4⟩=>⟨?_,h4 ▸ Below.refl _ _⟩
   rw [h3];simp only [Tm.uT,Tm.vT,Bool.false_and,Bool.or_false];rw [Tm.hb_no _ _ _ (by decide) (by decide)]
 | un k v a=>
  rw [hx] at c0 c1 he hsw hki;simp only [Tm.kind,Tm.val] at c0 c1 he;obtain ⟨k1,k2,_⟩:=hki 0 (by simp [Tm.kids])
  rw [Tm.koff_zero] at k1 k2;have hp1:p+1 < n:=by omega
  have ha:t.sub (p+1)=a:=k2
  have hk:k=10\/k=14\/k=17\/k=18:=by
   obtain ⟨h1,h2,_⟩:=hsw;simp only [pn] at h2
   split at h2
   ·omega
   ·split at h2 <;> omega
  rcases hk with rfl | rfl | rfl | rfl
  ·refine (lawK_10 b off n cap B aao an ac lb m lcap s R p v w hp c0 c1).mono fun e w' ⟨h1,h2⟩=>?_
   obtain ⟨t5,f5,co,hb5⟩:=boxes_in b off n cap B aao an ac lb m lcap s R p l ls _ 10 v w hT w' h2;refine ⟨_,_,h1,hb5,_,_,rfl,fun args w=>by simp [go_sem],fun w2 hb2 now x hnow=>?_⟩
   refine (law5_w w2 _ _ b off n cap B aao an ac lb m lcap s R p l ls _ _ _ now x (t5.below hb2) (f5.below hb2) hp1 hnow).mono fun e w3 ⟨h3,h4⟩=>⟨?_,h4 ▸ Below.refl _ _⟩
   rw [h3];simp only [Tm.uT,Tm.vT,Bool.false_and,Bool.or_false,Tm.hb_not,ha,show ¬ (10:Int)=17 by decide,show ¬ (10:Int)=18 by decide,if_false]
  ·refine (lawK_14 b off n cap B aao an ac lb m lcap s R p v w hp c0 c1).mono fun e w' ⟨h1,h2⟩=>?_
   obtain ⟨t5,f5,co,hb5⟩:=boxes_in b off n cap B aao an ac lb m lcap s R p l ls _ 14 v w hT w' h2;refine ⟨_,_,h1,hb5,_,_,rfl,fun args w=>by simp [go_sem],fun w2 hb2 now x hnow=>?_⟩
   refine (law8_w w2 _ _ b off n cap B aao an ac lb m lcap s R p l ls _ _ _ now x (t5.below hb2) (f5.below hb2) hp1 hnow).mono fun e w3 ⟨h3,h4⟩=>⟨?_,h4⟩
   rw [h3];simp only [Tm.uT,Tm.vT,Bool.false_and,Bool.or_false,Tm.hb_next,ha,show ¬ (14:Int)=17 by decide,show ¬ (14:Int)=18 by decide,if_false,hmo a now hnow]
  ·refine (lawK_17 b off n cap B aao an ac lb m lcap s R p v w hp c0 c1).mono fun e w' ⟨h1,h2⟩=>?_
   obtain ⟨t5,f5,co,hb5⟩:=boxes_in b off n cap B aao an ac lb m lcap s R p l ls _ 17 v w hT w' h2;refine ⟨_,_,h1,hb5,_,_,rfl,fun args w=>by simp [go_sem],fun w2 hb2 now x hnow=>?_⟩
   refine (law9_w w2 _ _ b off n cap B aao an ac lb m lcap s R p l ls _ _ _ now x (t5.below hb2) (f5.below hb2) hp1 hnow).mono fun e w3 ⟨h3,h4⟩=>⟨?_,h4 ▸ Below.refl _ _⟩
   rw [h3];simp only [Tm.uT,Tm.vT,ha,if_true,Bool.true_and]
  ·refine (lawK_18 b off n cap B aao an ac lb m lcap s R p v w hp c0 c1).mono fun e w' ⟨h1,h2⟩=>?_
   obtain ⟨t5,f5,co,hb5⟩:=boxes_in b off n cap B aao an ac lb m lcap s R p l ls _ 18 v w hT w' h2;refine ⟨_,_,h1,hb5,_,_,rfl,fun args w=>by simp [go_sem],fun w2 hb2 now x hnow=>?_⟩
   refine (law10_w w2 _ _ b off n cap B aao an ac lb m lcap s R p l ls _ _ _ now x (t5.below hb2) (f5.below hb2) hp1 hnow).mono fun e w3 ⟨h3,h4⟩=>⟨?_,h4 ▸ Below.refl _ _⟩
   rw [h3];simp only [Tm.uT,Tm.vT,ha,show ¬ (18:Int)=17 by decide,if_false,if_true,Bool.false_or]
 | bi k v a b'=>
  rw [hx] at c0 c1 he hsw hki;simp only [Tm.kind,Tm.val] at c0 c1 he;obtain ⟨k1,k2,k3,k4,k5,k6⟩:=hki 0 (by simp [Tm.kids])
  obtain ⟨j1,j2,_⟩:=hki 1 (by simp [Tm.kids])
  rw [Tm.koff_zero] at k1 k2 k3;have hp1:p+1 < n:=by omega
  have ha:t.sub (p+1)=a:=k2;have hse:sec l p=p+(Tm.bi k v a b').koff 1:=by rw [hsec];exact k3
  have hs1:p < sec l p:=by rw [hse,Tm.koff];omega
  have hs2:sec l p < n:=by rw [hse];omega
  have hb':t.sub (sec l p)=b':=by rw [hse];exact j2
  have hk:k=8\/k=9\/k=15\/k=16:=by
   obtain ⟨h1,h2,_⟩:=hsw;simp only [lopErr] at he;simp only [pn] at h2
   split at he
   ·omega
   ·split at h2
    ·omega
    ·split at h2
     ·omega
     ·omega
  rcases hk with rfl | rfl | rfl | rfl
  ·refine (lawK_8 b off n cap B aao an ac lb m lcap s R p v w hp c0 c1).mono fun e w' ⟨h1,h2⟩=>?_
   obtain ⟨t5,f5,co,hb5⟩:=boxes_in b off n cap B aao an ac lb m lcap s R p l ls _ 8 v w hT w' h2;refine ⟨_,_,h1,hb5,_,_,rfl,fun args w=>by simp [go_sem],fun w2 hb2 now x hnow=>?_⟩
   refine (law6_w w2 _ _ b off n cap B aao an ac lb m lcap s R p l ls _ _ _ now x (t5.below hb2) (f5.below hb2) hp1 hs1 hs2 hnow).mono fun e w3 ⟨h3,q,h4⟩=>⟨?_,h4 ▸ below_drewN (Below.refl _ _) q⟩
   rw [h3];simp only [Tm.uT,Tm.vT,Bool.false_and,Bool.or_false,Tm.hb_and,ha,hb',show ¬ (8:Int)=15 by decide,show ¬ (8:Int)=16 by decide,if_false]
  ·refine (lawK_9 b off n cap B aao an ac lb m lcap s R p v w hp c0 c1).mono fun e w' ⟨h1,h2⟩=>?_
   obtain ⟨t5,f5,co,hb5⟩:=boxes_in b off n cap B aao an ac lb m lcap s R p l ls _ 9 v w hT w' h2;refine ⟨_,_,h1,hb5,_,_,rfl,fun args w=>by simp [go_sem],fun w2 hb2 now x hnow=>?_⟩
   refine (law7_w w2 _ _ b off n cap B aao an ac lb m lcap s R p l ls _ _ _ now x (t5.below hb2) (f5.below hb2) hp1 hs1 hs2 hnow).mono fun e w3 ⟨h3,q,h4⟩=>⟨?_,h4 ▸ below_drewN (Below.refl _ _) q⟩
   rw [h3];simp only [Tm.uT,Tm.vT,Bool.false_and,Bool.or_false,Tm.hb_or,ha,hb',show ¬ (9:Int)=15 by decide,show ¬ (9:Int)=16 by decide,if_false]
  ·refine (lawK_15 b off n cap B aao an ac lb m lcap s R p v w hp c0 c1).mono fun e w' ⟨h1,h2⟩=>?_
   obtain ⟨t5,f5,co,hb5⟩:=boxes_in b off n cap B aao an ac lb m lcap s R p l ls _ 15 v w hT w' h2;refine ⟨_,_,h1,hb5,_,_,rfl,fun args w=>by simp [go_sem],fun w2 hb2 now x hnow=>?_⟩
   refine (law11_w w2 _ _ b off n cap B aao an ac lb m lcap s R p l ls _ _ _ now x (t5.below hb2) (f5.below hb2) hp1 hs1 hs2 hnow).mono fun e w3 ⟨h3,q,h4⟩=>⟨?_,h4 ▸ below_drewN (Below.refl _ _) q⟩
   rw [h3];simp only [Tm.uT,Tm.vT,ha,hb',if_true]
  ·refine (lawK_16 b off n cap B aao an ac lb m lcap s R p v w hp c0 c1).mono fun e w' ⟨h1,h2⟩=>?_
   obtain ⟨t5,f5,co,hb5⟩:=boxes_in b off n cap B aao an ac lb m lcap s R p l ls _ 16 v w hT w' h2;refine ⟨_,_,h1,hb5,_,_,rfl,fun args w=>by simp [go_sem],fun w2 hb2 now x hnow=>?_⟩
   refine (law12_w w2 _ _ b off n cap B aao an ac lb m lcap s R p l ls _ _ _ now x (t5.below hb2) (f5.below hb2) hp1 hs1 hs2 hnow).mono fun e w3 ⟨h3,q,h4⟩=>⟨?_,h4 ▸ below_drewN (Below.refl _ _) q⟩
   rw [h3];simp only [Tm.uT,Tm.vT,ha,hb',show ¬ (16:Int)=15 by decide,if_false,if_true]
   congr 2
   generalize a.hb (sig ls s) now=y;generalize b'.hb (sig ls s) now=z
   cases y <;> cases z <;> rfl
end Go.Proofs.YtfofjdddplodpaaGreatDoor
set_option maxHeartbeats 6400000
set_option maxRecDepth 20000

namespace Go.Proofs.YtfofjdddplodpaaGreatDoor
open Go.ChangeShapes Go.WideShapes Go.ChangeAt Go.RowKit Go.Deep
open Terms
set_option maxHeartbeats 6400000
set_option maxRecDepth 20000
def rnd (u v:Nat->Bool) (m s:Nat) (r:Nat->Bool) (k:Nat):Nat->Bool:=fun j=>if m - k <= j then stp u v (r s) (m - j) j else r j
theorem rnd_zero {u v:Nat->Bool} {m s:Nat} {r:Nat->Bool} {j:Nat} (hj:j < m):rnd u v m s r 0 j=r j:=by unfold rnd;rw [if_neg (by omega)]
theorem rnd_all {u v:Nat->Bool} {m s:Nat} {r:Nat->Bool} {j:Nat}:rnd u v m s r m j=stp u v (r s) (m - j) j:=by unfold rnd;rw [if_pos (by omega)]
theorem rnd_step {u v:Nat->Bool} {m s:Nat} {r:Nat->Bool} {k:Nat} (hs:s < m) (hk:k < m) (j:Nat) (hj:j < m) :
  (if j=m - 1 - k then (u (m - 1 - k)||(v (m - 1 - k)&&rnd u v m s r k (if m - 1 - k=m - 1 then s else m - 1 - k+1))) else rnd u v m s r k j)=rnd u v m s r (k+1) j:=by
 by_cases hjk:j=m - 1 - k
 ·rw [if_pos hjk]
  have e:rnd u v m s r (k+1) j=stp u v (r s) (m - j) j:=by unfold rnd;rw [if_pos (by omega)]
  rw [e,show m - j=k+1 by omega,<- hjk]
  simp only [stp]
  congr 2
  by_cases hk0:k=0
  ·subst hk0
   rw [if_pos (by omega),rnd_zero hs]
   rfl
  ·rw [if_neg (by omega)]
   unfold rnd;rw [if_pos (by omega),show m - (j+1)=k by omega]
 ·rw [if_neg hjk]
  unfold rnd
  by_cases h1:m - k <= j
  ·rw [if_pos h1,if_pos (by omega)]
  ·rw [if_neg h1,if_neg (by omega)]
def rows2 (u v:Nat->Bool) (m s:Nat) (d:Bool):Nat->Nat->Bool
 | 0=>fun j=>if j=s then d else false
 | c+1=>rnd u v m s (rows2 u v m s d c) m
theorem rows2_done (u v:Nat->Bool) {m s:Nat} (d:Bool) (j:Nat):rows2 u v m s d 2 j=stp u v (stp u v d (m - s) s) (m - j) j:=by
 simp only [rows2];rw [rnd_all,rnd_all,if_pos rfl]
structure SeSt (w:World) (x0 x1 x2 x3 x4 x5:Value) (m:Nat) (r:Nat->Bool) (W:World):Prop where
 c0:W.cell? ⟨w.heap.size,0,none⟩=some x0
 c1:W.cell? ⟨w.heap.size,1,none⟩=some x1
 c2:W.cell? ⟨w.heap.size,2,none⟩=some x2
 c3:W.cell? ⟨w.heap.size,3,none⟩=some x3
 c4:W.cell? ⟨w.heap.size,4,none⟩=some x4
 c5:W.cell? ⟨w.heap.size,5,none⟩=some x5
 row:W.rowIs (w.heap.size+1) 4 m (fun j=>.bool (r j))
 below:Below w.heap.size w W
theorem SeSt.later {w:World} {x0 x1 x2 x3 x4 x5:Value} {m:Nat} {r:Nat->Bool} {W W':World} (t:SeSt w x0 x1 x2 x3 x4 x5 m r W) (hb:Below W.heap.size W W'):SeSt w x0 x1 x2 x3 x4 x5 m r W':=by
 have hl:w.heap.size < W.heap.size:=World.block_lt_of_cell? W ⟨w.heap.size,0,none⟩ t.c0
 exact ⟨(hb.cell (p:=⟨w.heap.size,0,none⟩) hl).trans t.c0,(hb.cell (p:=⟨w.heap.size,1,none⟩) hl).trans t.c1,(hb.cell (p:=⟨w.heap.size,2,none⟩) hl).trans t.c2,(hb.cell (p:=⟨w.heap.size,3,none⟩) hl).trans t.c3,(hb.cell (p:=⟨w.heap.size,4,none⟩) hl).trans t.c4,(hb.cell (p:=⟨w.heap.size,5,none⟩) hl).trans t.c5,row_later t.row hb,t.below.trans (hb.mono t.below.size)⟩
theorem SeSt.congr {w:World} {x0 x1 x2 x3 x4 x5:Value} {m:Nat} {r r':Nat->Bool} {W:World} (t:SeSt w x0 x1 x2 x3 x4 x5 m r W) (e:∀ j,j < m->r j=r' j):SeSt w x0 x1 x2 x3 x4 x5 m r' W:=
 ⟨t.c0,t.c1,t.c2,t.c3,t.c4,t.c5,t.row.congr fun j hj=>by rw [e j hj],t.below⟩
theorem SeSt.put {w:World} {x0 x1 x2 x3 x4 x5:Value} {m:Nat} {r:Nat->Bool} {W:World} (t:SeSt w x0 x1 x2 x3 x4 x5 m r W) (p:Nat) (x:Bool):SeSt w x0 x1 x2 x3 x4 x5 m (fun j=>if j=p then x else r j) (W.setCell ⟨w.heap.size+1,p,none⟩ (.bool x)):=by
 have hc:∀ q,(W.setCell ⟨w.heap.size+1,p,none⟩ (.bool x)).cell? ⟨w.heap.size,q,none⟩=W.cell? ⟨w.heap.size,q,none⟩:=fun q=>World.cell?_of_block (w:=W) (Below.heap_setCell W _ _ _ (by simp))
 refine ⟨(hc 0).trans t.c0,(hc 1).trans t.c1,(hc 2).trans t.c2,(hc 3).trans t.c3,(hc 4).trans t.c4,(hc 5).trans t.c5,?_,t.below.setCell (by simp) _⟩
 refine (t.row.set p (.bool x)).congr fun i _=>?_
 by_cases hip:i=p
 ·rw [if_pos hip,if_pos hip]
 ·rw [if_neg hip,if_neg hip]
theorem settle_any (b off n cap B:Nat) (aao:Option Addr) (an ac lb m lcap s R:Nat) (d:Bool) (f:FuncId) (caps:Array Value) (u v:Nat->Bool) (w:World) (hm:m <= 24) (hs:s < m) (hF:LawAt w (.func (.func f) #[] caps) m u v) :
  Calls Tryz.prog 100 #[.agg #[.slice (some ⟨b,off,none⟩) n cap,.slice (some ⟨B,0,none⟩) n n,.slice aao an ac,.slice (some ⟨lb,0,none⟩) m lcap,.int .i64 (s:Int),.slice (some ⟨R,0,none⟩) n n],.bool d,.func (.func f) #[] caps] w fun e w'=>e=.returned (.slice (some ⟨w.heap.size+1,0,none⟩) m m)/\Below w.heap.size w w'/\Hid (w'.rowIs (w.heap.size+1) 4 m (fun j=>.bool (stp u v (stp u v d (m - s) s) (m - j) j))):=by
 have hmk:=run_make_row' (P:=Tryz.prog) 111 4 (.bool false) 1 Tryz.underlying111 infoBool rfl .i64 .i64 m (by omega) (by omega)
 obtain ⟨f',caps',e1,hen,hlaw⟩:=hF
 injection e1 with e1 e2 e3
 injection e1 with e1
 subst e1 e3;clear e2;have HLaw:Hid (∀ w',Below w.heap.size w w'->∀ (now:Nat) (x:Bool),now < m->Calls Tryz.prog f (#[.int .i64 (now:Int),.bool x]++caps) w' fun e w2=>e=.returned (.bool (u now||(v now&&x)))/\Below w'.heap.size w' w2):=hlaw
 have haf:=fun (now:Nat) w1 (h:now < m)=>after_any b off n cap B aao an ac lb m lcap s R now w1 hm h
 have HR0:Hid (∀ j,rows2 u v m s d 0 j=if j=s then d else false):=fun _=>rfl
 have HRS:Hid (∀ c,rows2 u v m s d (c+1)=rnd u v m s (rows2 u v m s d c) m):=fun _=>rfl
 have HRD:Hid (∀ j,rows2 u v m s d 2 j=stp u v (stp u v d (m - s) s) (m - j) j):=rows2_done u v d
 have HST:Hid (∀ r k,k < m->∀ j,j < m->(if j=m - 1 - k then (u (m - 1 - k)||(v (m - 1 - k)&&rnd u v m s r k (if m - 1 - k=m - 1 then s else m - 1 - k+1))) else rnd u v m s r k j)=rnd u v m s r (k+1) j):=fun r k hk j hj=>rnd_step hs hk j hj
 clear hlaw;have hsm:(s:Int) < (m:Int):=by omega
 have hrow0:((w.alloc (.cells #[.slice (some ⟨b,off,none⟩) n cap,.slice (some ⟨B,0,none⟩) n n,.slice aao an ac,.slice (some ⟨lb,0,none⟩) m lcap,.int .i64 (s:Int),.slice (some ⟨R,0,none⟩) n n] 159)).alloc (.cells (madeCells #[.bool false] m) 4)).rowIs (w.heap.size+1) 4 m (fun _=>.bool false):=by
  have r:=World.rowIs_made (w.alloc (.cells #[.slice (some ⟨b,off,none⟩) n cap,.slice (some ⟨B,0,none⟩) n n,.slice aao an ac,.slice (some ⟨lb,0,none⟩) m lcap,.int .i64 (s:Int),.slice (some ⟨R,0,none⟩) n n] 159)) (.bool false) m 4;simpa using r
 have hc0:=hrow0.cell hs;have hf0:=hrow0.frozen s
 have HS0:Hid (SeSt w (.slice (some ⟨b,off,none⟩) n cap) (.slice (some ⟨B,0,none⟩) n n) (.slice aao an ac) (.slice (some ⟨lb,0,none⟩) m lcap) (.int .i64 (s:Int)) (.slice (some ⟨R,0,none⟩) n n) m (fun _=>false) ((w.alloc (.cells #[.slice (some ⟨b,off,none⟩) n cap,.slice (some ⟨B,0,none⟩) n n,.slice aao an ac,.slice (some ⟨lb,0,none⟩) m lcap,.int .i64 (s:Int),.slice (some ⟨R,0,none⟩) n n] 159)).alloc (.cells (madeCells #[.bool false] m) 4))):=
  ⟨by simp [go_sem],by simp [go_sem],by simp [go_sem],by simp [go_sem],by simp [go_sem],by simp [go_sem],hrow0,((Below.refl _ _).alloc (Nat.le_refl _) _).alloc (by simp) _⟩
 clear hrow0
 go_enter Tryz.func100,Tryz.ntmps100
 go_wp2_with fail
 have HS1:=(show Hid _ from HS0.out.put s d)
 have HS2:Hid (SeSt w (.slice (some ⟨b,off,none⟩) n cap) (.slice (some ⟨B,0,none⟩) n n) (.slice aao an ac) (.slice (some ⟨lb,0,none⟩) m lcap) (.int .i64 (s:Int)) (.slice (some ⟨R,0,none⟩) n n) m (rows2 u v m s d 0) ((w.alloc (.cells #[.slice (some ⟨b,off,none⟩) n cap,.slice (some ⟨B,0,none⟩) n n,.slice aao an ac,.slice (some ⟨lb,0,none⟩) m lcap,.int .i64 (s:Int),.slice (some ⟨R,0,none⟩) n n] 159)).alloc (.cells ((madeCells #[.bool false] m).setIfInBounds s (.bool d)) 4))):=by
  have t:=HS1.out.congr (r':=rows2 u v m s d 0) fun j _=>by rw [HR0.out]
  rw [World.setCell_alloc_at _ _ _ _ _ (by simp)] at t
  exact t
 clear HS0 HS1 hc0 hf0 hmk
 go_loopw [18] (fun i wr=>∃ c:Nat,c <= 2/\i=.int .i64 (c:Int)/\Hid (SeSt w (.slice (some ⟨b,off,none⟩) n cap) (.slice (some ⟨B,0,none⟩) n n) (.slice aao an ac) (.slice (some ⟨lb,0,none⟩) m lcap) (.int .i64 (s:Int)) (.slice (some ⟨R,0,none⟩) n n) m (rows2 u v m s d c) wr)) (fun i _=>2 - (intOf i).toNat)
 case atStart=>exact ⟨0,by omega,rfl,HS2.out⟩
 case round=>
  obtain ⟨c,hc,rfl,HSt⟩:=hrel
  by_cases hlt:c < 2
  ·have HR1:Hid (rows2 u v m s d (c+1)=rnd u v m s (rows2 u v m s d c) m):=HRS.out c
   generalize rows2 u v m s d c=r at *;generalize wr=wo at *
   go_wp2_with fail
   rw [show decide ((c:Int) < 2)=true by simp;omega]
   go_loopw [8] (fun i wr=>∃ k:Nat,k <= m/\i=.int .i64 ((m:Int) - 1 - (k:Int))/\Hid (SeSt w (.slice (some ⟨b,off,none⟩) n cap) (.slice (some ⟨B,0,none⟩) n n) (.slice aao an ac) (.slice (some ⟨lb,0,none⟩) m lcap) (.int .i64 (s:Int)) (.slice (some ⟨R,0,none⟩) n n) m (rnd u v m s r k) wr)) (fun i _=>(intOf i+1).toNat)
   case atStart=>exact ⟨0,by omega,by simp,HSt.out.congr fun j hj=>(rnd_zero hj).symm⟩
   case round=>
    obtain ⟨k,hk,rfl,HSr⟩:=hrel
    by_cases hlk:k < m
    ·obtain ⟨now,hnow⟩:∃ now:Nat,now=m - 1 - k:=⟨_,rfl⟩
     have hni:(m:Int) - 1 - (k:Int)=(now:Int):=by omega
     have hnm:now < m:=by omega
     rw [hni];have HNI:Hid ((m:Int) - 1 - (k:Int)=(now:Int)):=hni;have hst:=HSr.out;have hax:(if now=m - 1 then s else now+1) < m:=by split <;> omega
     have HPut:Hid (∀ W x,SeSt w (.slice (some ⟨b,off,none⟩) n cap) (.slice (some ⟨B,0,none⟩) n n) (.slice aao an ac) (.slice (some ⟨lb,0,none⟩) m lcap) (.int .i64 (s:Int)) (.slice (some ⟨R,0,none⟩) n n) m (rnd u v m s r k) W->x=rnd u v m s r k (if now=m - 1 then s else now+1)->SeSt w (.slice (some ⟨b,off,none⟩) n cap) (.slice (some ⟨B,0,none⟩) n n) (.slice aao an ac) (.slice (some ⟨lb,0,none⟩) m lcap) (.int .i64 (s:Int)) (.slice (some ⟨R,0,none⟩) n n) m (rnd u v m s r (k+1)) (W.setCell ⟨w.heap.size+1,now,none⟩ (.bool (u now||(v now&&x))))):=fun W x h e=>(h.put now _).congr fun j hj=>by
      have:=HST.out r k hlk j hj;rw [<- hnow] at this;rw [e];exact this
     have haf1:=fun w1=>haf now w1 hnm
     generalize (if now=m - 1 then s else now+1)=ax at *
     obtain ⟨c0,c1,c2,c3,c4,c5,hrow,hbel⟩:=hst
     have HAf:Hid (∀ w1,Below wr.heap.size wr w1->w1.cell? ⟨w.heap.size+1,ax,none⟩=some (.bool (rnd u v m s r k ax))/\w1.cell? ⟨w.heap.size+1,now,none⟩=some (.bool (rnd u v m s r k now))/\w1.frozen? ⟨w.heap.size+1,now,none⟩=false/\(∀ x,Calls Tryz.prog f (#[.int .i64 (now:Int),.bool x]++caps) w1 fun e w2=>e=.returned (.bool (u now||(v now&&x)))/\Below w1.heap.size w1 w2)):=fun w1 hb=>by
      have t:=HSr.out.later hb;exact ⟨t.row.cell hax,t.row.cell hnm,t.row.frozen now,fun x=>HLaw.out w1 t.below now x hnm⟩
     have HLat:Hid (∀ w1 w2,Below wr.heap.size wr w1->Below w1.heap.size w1 w2->SeSt w (.slice (some ⟨b,off,none⟩) n cap) (.slice (some ⟨B,0,none⟩) n n) (.slice aao an ac) (.slice (some ⟨lb,0,none⟩) m lcap) (.int .i64 (s:Int)) (.slice (some ⟨R,0,none⟩) n n) m (rnd u v m s r k) w2):=fun w1 w2 h1 h2=>(HSr.out.later h1).later h2
     clear hnow hni hrow HST HLaw haf HSt HS2 HRS HRD HR0;generalize hxe:rnd u v m s r k ax=xv at *;generalize rnd u v m s r k now=xw at *;clear hxe
     go_wp2_with (first | (go_at_call 130;refine (haf1 _).mono ?_;rintro e w4 ⟨rfl,hb4⟩;obtain ⟨d0,d1,d2,hl4⟩:=HAf.out w4 hb4;have hl5:=hl4 xv) | (refine hl5.mono ?_;rintro e w5 ⟨rfl,hb5⟩;obtain ⟨g0,g1,g2,_⟩:=HAf.out w5 (hb4.trans (hb5.mono hb4.size))))
     have HFin:Hid (SeSt w (.slice (some ⟨b,off,none⟩) n cap) (.slice (some ⟨B,0,none⟩) n n) (.slice aao an ac) (.slice (some ⟨lb,0,none⟩) m lcap) (.int .i64 (s:Int)) (.slice (some ⟨R,0,none⟩) n n) m (rnd u v m s r (k+1)) (w5.setCell ⟨w.heap.size+1,now,none⟩ (.bool (u now||(v now&&xv))))):=HPut.out w5 xv (HLat.out w4 w5 hb4 hb5) rfl
     go_roundw
     case rel=>exact ⟨k+1,hlk,by have:=HNI.out;congr 1;omega,HFin⟩
     case measure=>have:=HNI.out;first | (simp [intOf];done) | (simp [intOf];omega)
    ·obtain rfl:k=m:=by omega
     go_wp2_with fail
     exact ⟨⟨c+1,hlt,by first | rfl | simp,by rw [HR1.out];exact HSr.out⟩,by simp [intOf];omega⟩
  ·obtain rfl:c=2:=by omega
   have HF:Hid (Below w.heap.size w wr/\wr.rowIs (w.heap.size+1) 4 m (fun j=>.bool (stp u v (stp u v d (m - s) s) (m - j) j))):=⟨HSt.out.below,HSt.out.row.congr fun j _=>by rw [HRD.out]⟩
   clear HSt HS2
   go_wp2_with fail
   go_ret
   exact ⟨rfl,HF.out.1,HF.out.2⟩
theorem look_any (k:Int) (w:World) :
  Calls Tryz.prog 96 #[.int .i64 k] w fun e w'=>e=.returned (.bool (lookB k))/\w'=w:=by
 by_cases h:14 <= k/\k <= 18
 ·have hk:k=14\/k=15\/k=16\/k=17\/k=18:=by omega
  clear h
  rcases hk with rfl | rfl | rfl | rfl | rfl
  all_goals
   go_enter Tryz.func96,Tryz.ntmps96
   go_wp2
   all_goals go_ret
   all_goals exact ⟨rfl,rfl⟩
 ·have hm:lookB k=false:=by simp [lookB];omega
  rw [hm];have e1:¬ k=14:=by omega
  have e2:¬ k=15:=by omega
  have e3:¬ k=16:=by omega
  have e4:¬ k=17:=by omega
  have e5:¬ k=18:=by omega
  clear hm h
  go_enter Tryz.func96,Tryz.ntmps96
  go_wp2
  all_goals go_ret
  all_goals exact ⟨rfl,rfl⟩
theorem lcheckOp_any (k v props:Int) (w:World) (h0:0 <= props) (h6:props <= 6) :
  Calls Tryz.prog 95 #[.agg #[.int .i64 k,.int .i64 v],.int .i64 props] w fun e w'=>e=.returned (.int .i64 (lopErr props (k,v)))/\Below w.heap.size w w':=by
 by_cases hk:k < 8
 ·have hx:lopErr props (k,v)=13:=by simp [lopErr,hk]
  rw [hx];clear hx
  go_enter Tryz.func95,Tryz.ntmps95
  go_wp2
  all_goals go_ret
  all_goals exact ⟨rfl,(Below.refl _ _).alloc (Nat.le_refl _) _⟩
 ·by_cases h2:k=13
  ·subst h2
   by_cases hv:0 <= v/\v <= props - 1
   ·have hx:lopErr props (13,v)=0:=by simp [lopErr];omega
    rw [hx];obtain ⟨ha,hb⟩:=hv;clear hx
    go_enter Tryz.func95,Tryz.ntmps95
    go_wp2
    all_goals go_ret
    all_goals exact ⟨rfl,(Below.refl _ _).alloc (Nat.le_refl _) _⟩
   ·have hx:lopErr props (13,v)=2:=by simp [lopErr];omega
    rw [hx];have hv':v < 0\/props - 1 < v:=by omega
    clear hx hv
    rcases hv' with hv | hv
    all_goals
     go_enter Tryz.func95,Tryz.ntmps95
     go_wp2
     all_goals go_ret
     all_goals exact ⟨rfl,(Below.refl _ _).alloc (Nat.le_refl _) _⟩
  ·by_cases hv:v=0
   ·subst hv
    have hx:lopErr props (k,0)=0:=by simp [lopErr,h2];omega
    rw [hx];clear hx
    go_enter Tryz.func95,Tryz.ntmps95
    go_wp2
    all_goals go_ret
    all_goals exact ⟨rfl,(Below.refl _ _).alloc (Nat.le_refl _) _⟩
   ·have hx:lopErr props (k,v)=2:=by simp [lopErr,h2];omega
    rw [hx];have hv':v < 0\/0 < v:=by omega
    clear hx hv
    rcases hv' with hv | hv
    all_goals
     go_enter Tryz.func95,Tryz.ntmps95
     go_wp2
     all_goals go_ret
     all_goals exact ⟨rfl,(Below.refl _ _).alloc (Nat.le_refl _) _⟩
