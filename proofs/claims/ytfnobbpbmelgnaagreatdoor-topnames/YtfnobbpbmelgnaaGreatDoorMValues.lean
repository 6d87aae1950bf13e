import Derived.Test.YtfnobbpbmelgnaaGreatDoorMCount
import Derived.Test.YtfnobbpbmelgnaaGreatDoorValRes
import Derived.Deep.RegionHeld3
namespace Go.Proofs.YtfnobbpbmelgnaaGreatDoor
open Go.ChangeShapes Go.WideShapes Go.ChangeAt Go.RowKit Go.Deep
open Terms Tm
set_option maxHeartbeats 6400000
set_option maxRecDepth 20000
theorem mvalues_loop (va vr:Value) (m:Mo) (code:Int) (w:World) (hB:0 < w.heap.size) (hT:TabAt w) (hV:ModelV w va vr m) (h:mcode m=0) (hc:0 <= code/\code < prodTo m.vars m.vars.length) :
  Calls Tryz.prog 62 #[.agg #[va,vr],.int .i64 code] w fun e w'=>∃ B,e=.returned (.tuple #[.slice (some ⟨B,0,none⟩) m.vars.length m.vars.length,.int .i64 0])/\w.heap.size <= B/\Below w.heap.size w w'/\w'.rowIs B 3 m.vars.length (fun j=>.int .i64 (valAt m.vars code j)):=by
 have hA:∀ o,Below w.heap.size w (w.alloc o):=fun o=>(Below.refl _ _).alloc (Nat.le_refl _) o
 have hch:=fun o=>mcheck_any va vr m (w.alloc o) (Nat.lt_of_lt_of_le hB (hA o).size) (hT.below (hA o) hB) (hV.below (hA o))
 rw [h] at hch;have hok:=mcode_vars h;have HOK:Hid (VarsOk m.vars):=hok;have h6:=hok.1;have hcf:=(fun w1 (hb:Below w.heap.size w w1)=>countOf_any va m.vars w1 hok (hV.1.below hb))
 obtain ⟨ao,cap,rfl⟩:=hV.1.shape;obtain ⟨ro,rc,rfl⟩:=hV.2.shape;have HV:Hid (VarsV w (.slice ao m.vars.length cap) m.vars):=hV.1;have hN:=hok.prod (j:=m.vars.length) (Nat.le_refl _);have HS0:Hid (segP m.vars m.vars.length=1):=segP_end _;obtain ⟨hc1,hc2⟩:=hc;generalize prodTo m.vars m.vars.length=N at *;obtain ⟨n,hn⟩:∃ n,n=m.vars.length:=⟨_,rfl⟩
 have HN:Hid (n=m.vars.length):=hn;rw [<- hn] at h6 hch hcf HV HS0 ⊢;generalize m.rules.length=rn at *;have hmk:=run_make_row' (P:=Tryz.prog) 36 3 (.int .i64 0) 8 Tryz.underlying36 infoInt rfl .i64 .i64 n (by omega) (by omega)
 clear hV hT hn hok h
 go_enter Tryz.func62,Tryz.ntmps62
 go_wp2_with (first | (go_at_call 60;refine (hch _).mono ?_;rintro e w1 ⟨rfl,hb1⟩;have hcb:w1.cell? ⟨w.heap.size,0,none⟩=some (.slice ao n cap):=(hb1.cell (p:=⟨w.heap.size,0,none⟩) (by simp)).trans (by simp [go_sem]);have hbw:=(hA _).trans (hb1.mono (hA _).size);have hs1:w.heap.size < w1.heap.size:=(by have:=hb1.size;simp at this;omega)) | (go_at_call 79;refine (hcf _ hbw).mono ?_;rintro e w2 ⟨rfl,hb2⟩;have hcb2:=(hb2.cell (p:=⟨w.heap.size,0,none⟩) hs1).trans hcb))
 have hbw2:=hbw.trans (hb2.mono hbw.size);have hrow0:=World.rowIs_made w2 (.int .i64 0) n 3;have hs2:=Nat.lt_of_lt_of_le hs1 hb2.size;have HB2:Hid (Below w.heap.size w w2):=hbw2;have hcb3:=hcb2;clear hch hcf hmk hb1 hb2 hcb hbw hs1 hbw2 hcb2
 go_loopw [1,8] (fun cd i wr=>∃ k:Nat,k <= n/\i=.int .i64 ((k:Int) - 1)/\cd=.int .i64 (code / segP m.vars k)/\Hid (wr.rowIs w2.heap.size 3 n (fun j=>if k <= j then .int .i64 (valAt m.vars code j) else .int .i64 0))/\Hid (Below w2.heap.size w2 wr)) (fun _ i _=>(intOf i+1).toNat)
 case atStart=>exact ⟨n,Nat.le_refl _,by first | rfl | go_num,by rw [HS0.out];simp,hrow0.congr (fun i hi=>by rw [if_neg (by omega)]),(Below.refl _ _).alloc (Nat.le_refl _) _⟩
 case round=>
  obtain ⟨k,hk,rfl,rfl,HRow,HBel⟩:=hrel;have hbel:=HBel.out;have hrow:=HRow.out;have hbw:=HB2.out.trans (hbel.mono HB2.out.size);have hszr:=hrow.lt;have cb:=(hbel.cell (p:=⟨w.heap.size,0,none⟩) hs2).trans hcb3
  by_cases hk0:0 < k
  ·obtain ⟨k,rfl⟩:∃ k',k=k' + 1:=⟨k - 1,by omega⟩
   rw [show (((k+1:Nat):Int) - 1)=(k:Int) by omega]
   have hlt:k < n:=by omega
   obtain ⟨b,off,rfl,hblt,hat⟩:=HV.out.at (i:=k) (by rw [<- HN.out];exact hlt)
   obtain ⟨c0,c1,c2,c3⟩:=hat.below hbw hblt;have hvb:=HOK.out.at (j:=k) (by rw [<- HN.out];exact hlt)
   have hsg:=segP_bounds HOK.out (i:=k+1) (by rw [<- HN.out];exact hlt)
   have HQ:Hid (code / segP m.vars (k+1) / vspan (m.vars.getD k vr0)=code / segP m.vars k):=quo_step HOK.out code (by rw [<- HN.out];exact hlt)
   have HVa:Hid (valAt m.vars code k=(m.vars.getD k vr0).lo+(code / segP m.vars (k+1)) % vspan (m.vars.getD k vr0)):=rfl;have hq0:0 <= code / segP m.vars (k+1):=Int.ediv_nonneg hc1 (by omega)
   have hq1:code / segP m.vars (k+1) <= 4096:=by
    have:=Int.ediv_le_self (segP m.vars (k+1)) hc1;omega
   have hf:wr.frozen? ⟨w2.heap.size,k,none⟩=false:=hrow.frozen k;have hcl:wr.cell? ⟨w2.heap.size,k,none⟩=some (.int .i64 0):=by rw [hrow.cell hlt,if_neg (by omega)]
   generalize code / segP m.vars (k+1)=cd at *;generalize m.vars.getD k vr0=x at *;obtain ⟨s,lo,hi,ini⟩:=x;simp only [vspan] at c0 c1 c2 c3 HQ HVa hvb;obtain ⟨hv1,hv2,hv3,hv4,hv5,hv6,hv7⟩:=hvb;have hsp:=fun w=>span_any s lo hi ini w hv3 hv4 hv5
   obtain ⟨sp,hspe⟩:∃ sp,hi - lo+1=sp:=⟨_,rfl⟩
   rw [hspe] at hv1 hv2 hsp HQ HVa;clear hspe hat;have hr0:=Int.emod_nonneg cd (show sp≠0 by omega)
   have hr1:=Int.emod_lt_of_pos cd (show 0 < sp by omega)
   have hi0:(0:Int) <= (k:Int):=Int.natCast_nonneg _;have hi1:(k:Int) < (n:Int):=by omega
   have hsz0:¬ sp=0:=by omega
   have hsz1:(sp == 0)=false:=by rw [beq_eq_false_iff_ne];omega
   have ht:cd.tmod sp=cd % sp:=Int.tmod_eq_emod_of_nonneg hq0;have htd:cd.tdiv sp=cd / sp:=Int.tdiv_eq_ediv_of_nonneg hq0;have hd0:=Int.ediv_nonneg hq0 (show 0 <= sp by omega)
   have hd1:=Int.ediv_le_self sp hq0;have hw0:IntKind.i64.wrap (cd % sp)=cd % sp:=wr64 (by omega) (by omega)
   have hw1:IntKind.i64.wrap (lo+cd % sp)=lo+cd % sp:=wr64 (by omega) (by omega)
   have hbA:=hbel.alloc (Nat.le_of_lt hszr) (.cells #[.string s,.int .i64 lo,.int .i64 hi,.int .i64 ini] 45);have HBA:=(show Hid _ from hbA)
   have hfA:=hrow.alloc (.cells #[.string s,.int .i64 lo,.int .i64 hi,.int .i64 ini] 45);have HRA:=(show Hid _ from hfA)
   have hS0:∀ w',Below (wr.heap.size+1) (wr.alloc (.cells #[.string s,.int .i64 lo,.int .i64 hi,.int .i64 ini] 45)) w'->w'.cell? ⟨wr.heap.size,0,none⟩=some (.string s)/\w'.cell? ⟨wr.heap.size,1,none⟩=some (.int .i64 lo)/\w'.cell? ⟨wr.heap.size,2,none⟩=some (.int .i64 hi)/\w'.cell? ⟨wr.heap.size,3,none⟩=some (.int .i64 ini):=fun w' hw'=>
    ⟨(hw'.cell (p:=⟨wr.heap.size,0,none⟩) (by simp)).trans (by simp [go_sem]),(hw'.cell (p:=⟨wr.heap.size,1,none⟩) (by simp)).trans (by simp [go_sem]),(hw'.cell (p:=⟨wr.heap.size,2,none⟩) (by simp)).trans (by simp [go_sem]),(hw'.cell (p:=⟨wr.heap.size,3,none⟩) (by simp)).trans (by simp [go_sem])⟩
   have hne:∀ j:Nat,(⟨wr.heap.size,j,none⟩:Addr)≠⟨w2.heap.size,k,none⟩:=fun j h=>by injection h with h1;omega
   have hS1:∀ w' v,Below (wr.heap.size+1) (wr.alloc (.cells #[.string s,.int .i64 lo,.int .i64 hi,.int .i64 ini] 45)) w'->(w'.setCell ⟨w2.heap.size,k,none⟩ v).cell? ⟨wr.heap.size,0,none⟩=some (.string s)/\(w'.setCell ⟨w2.heap.size,k,none⟩ v).cell? ⟨wr.heap.size,1,none⟩=some (.int .i64 lo)/\(w'.setCell ⟨w2.heap.size,k,none⟩ v).cell? ⟨wr.heap.size,2,none⟩=some (.int .i64 hi)/\(w'.setCell ⟨w2.heap.size,k,none⟩ v).cell? ⟨wr.heap.size,3,none⟩=some (.int .i64 ini):=fun w' v hw'=>by
    obtain ⟨a0,a1,a2,a3⟩:=hS0 w' hw';exact ⟨(World.cell?_setCell_other _ _ _ _ (hne 0).symm).trans a0,(World.cell?_setCell_other _ _ _ _ (hne 1).symm).trans a1,(World.cell?_setCell_other _ _ _ _ (hne 2).symm).trans a2,(World.cell?_setCell_other _ _ _ _ (hne 3).symm).trans a3⟩
   have hB0:Below (wr.heap.size+1) (wr.alloc (.cells #[.string s,.int .i64 lo,.int .i64 hi,.int .i64 ini] 45)) (wr.alloc (.cells #[.string s,.int .i64 lo,.int .i64 hi,.int .i64 ini] 45)).drew:=(Below.refl _ _).drew
   have hrw:=fun w' (hw':Below (wr.heap.size+1) (wr.alloc (.cells #[.string s,.int .i64 lo,.int .i64 hi,.int .i64 ini] 45)) w')=>hfA.of_block (hw'.block w2.heap.size (by omega))
   have hcf3:∀ w',Below (wr.heap.size+1) (wr.alloc (.cells #[.string s,.int .i64 lo,.int .i64 hi,.int .i64 ini] 45)) w'->w'.frozen? ⟨w2.heap.size,k,none⟩=false/\w'.cell? ⟨w2.heap.size,k,none⟩=some (.int .i64 0):=fun w' hw'=>⟨(hrw w' hw').frozen k,by rw [(hrw w' hw').cell hlt,if_neg (by omega)]⟩
   have HRw:=(show Hid _ from hrw)
   clear hfA hbA hrw hbel hrow hbw
   go_wp2_with fail
   go_region_held3 (fun w'=>w'.cell? ⟨wr.heap.size,0,none⟩=some (.string s)/\w'.cell? ⟨wr.heap.size,1,none⟩=some (.int .i64 lo)/\w'.cell? ⟨wr.heap.size,2,none⟩=some (.int .i64 hi)/\w'.cell? ⟨wr.heap.size,3,none⟩=some (.int .i64 ini))
    (first | exact hS0 _ hB0 | exact hS0 _ (hB0.trans (hb3.mono (by simp))) | exact hS1 _ _ (hB0.trans (hb3.mono (by simp))))
    (first | (go_at_call 78;refine (hsp _).mono ?_;rintro e w3 ⟨rfl,hb3⟩;obtain ⟨hf3,hc3⟩:=hcf3 _ (hB0.trans (hb3.mono (by simp)))))
   have hB3:=hB0.trans (hb3.mono (by simp))
   obtain ⟨e0,e1,e2,e3⟩:=hS1 w3 (.int .i64 (lo+cd % sp)) hB3;have hs3:wr.heap.size < w3.heap.size:=by have:=hb3.size;simp at this;omega
   have hrow4:∀ w4,Below w3.heap.size (w3.setCell ⟨w2.heap.size,k,none⟩ (.int .i64 (lo+cd % sp))) w4->w4.rowIs w2.heap.size 3 n (fun j=>if k <= j then .int .i64 (valAt m.vars code j) else .int .i64 0)/\Below w2.heap.size w2 w4:=fun w4 h4=>by
    refine ⟨(((HRw.out w3 hB3).set k (.int .i64 (lo+cd % sp))).of_block (h4.block w2.heap.size (by omega))).congr fun j hj=>?_,?_⟩
    ·by_cases hjk:j=k
     ·subst hjk;rw [if_pos rfl,if_pos (Nat.le_refl _),HVa.out]
     ·rw [if_neg hjk]
      by_cases hkj:k+1 <= j
      ·rw [if_pos hkj,if_pos (by omega)]
      ·rw [if_neg hkj,if_neg (by omega)]
    ·exact ((HBA.out.trans (hB3.mono (by omega))).setCell (by simp) _).trans (h4.mono (by omega))
   have HR4:=(show Hid _ from hrow4)
   clear hrow4 hf hcl hf3 hc3 hcf3 hS0 hS1
   go_wp2_with (go_at_call 78;refine (hsp _).mono ?_;rintro e w4 ⟨rfl,hb4⟩)
   have hb4':Below w3.heap.size (w3.setCell ⟨w2.heap.size,k,none⟩ (.int .i64 (lo+cd % sp))) w4:=hb4.mono (by simp)
   go_roundw
   case rel=>exact ⟨k,by omega,by first | rfl | go_num,by rw [<- HQ.out],(HR4.out _ hb4').1,(HR4.out _ hb4').2⟩
   case measure=>simp [intOf]
  ·have hk0:k=0:=by omega
   subst hk0
   go_wp2
   go_ret2
   exact ⟨w2.heap.size,rfl,HB2.out.size,hbw,hrow.congr (fun i hi=>by rw [if_pos (by omega)])⟩
theorem mvalues_bad (va vr:Value) (m:Mo) (code:Int) (w:World) (hB:0 < w.heap.size) (hT:TabAt w) (hV:ModelV w va vr m) (h:mcode m≠0) :
  Calls Tryz.prog 62 #[.agg #[va,vr],.int .i64 code] w fun e w'=>e=.returned (.tuple #[.slice none 0 0,.int .i64 (mcode m)])/\Below w.heap.size w w':=by
 have hA:∀ o,Below w.heap.size w (w.alloc o):=fun o=>(Below.refl _ _).alloc (Nat.le_refl _) o
 have hch:=fun o=>mcheck_any va vr m (w.alloc o) (Nat.lt_of_lt_of_le hB (hA o).size) (hT.below (hA o) hB) (hV.below (hA o))
 obtain ⟨ao,cap,rfl⟩:=hV.1.shape;obtain ⟨ro,rc,rfl⟩:=hV.2.shape;generalize mcode m=x at *;generalize m.vars.length=n at *;generalize m.rules.length=rn at *;clear hV hT
 go_enter Tryz.func62,Tryz.ntmps62
 go_wp2_with (go_at_call 60;refine (hch _).mono ?_;rintro e w1 ⟨rfl,hb1⟩)
 go_ret2
 exact ⟨rfl,(hA _).trans (hb1.mono (hA _).size)⟩
theorem mvalues_no (va vr:Value) (m:Mo) (code:Int) (w:World) (hB:0 < w.heap.size) (hT:TabAt w) (hV:ModelV w va vr m) (h:mcode m=0) (hc:¬ (0 <= code/\code < prodTo m.vars m.vars.length)) :
  Calls Tryz.prog 62 #[.agg #[va,vr],.int .i64 code] w fun e w'=>e=.returned (.tuple #[.slice none 0 0,.int .i64 9])/\Below w.heap.size w w':=by
 have hA:∀ o,Below w.heap.size w (w.alloc o):=fun o=>(Below.refl _ _).alloc (Nat.le_refl _) o
 have hch:=fun o=>mcheck_any va vr m (w.alloc o) (Nat.lt_of_lt_of_le hB (hA o).size) (hT.below (hA o) hB) (hV.below (hA o))
 rw [h] at hch;have hok:=mcode_vars h;have hcf:=(fun w1 (hb:Below w.heap.size w w1)=>countOf_any va m.vars w1 hok (hV.1.below hb))
 obtain ⟨ao,cap,rfl⟩:=hV.1.shape;obtain ⟨ro,rc,rfl⟩:=hV.2.shape;have hN:=hok.prod (j:=m.vars.length) (Nat.le_refl _);generalize prodTo m.vars m.vars.length=N at *;generalize m.vars.length=n at *;generalize m.rules.length=rn at *;clear hV hT hok h
 by_cases h0:code < 0
 ·clear hc
  go_enter Tryz.func62,Tryz.ntmps62
  go_wp2_with (go_at_call 60;refine (hch _).mono ?_;rintro e w1 ⟨rfl,hb1⟩)
  go_ret2
  exact ⟨rfl,(hA _).trans (hb1.mono (hA _).size)⟩
 ·have h1:N <= code:=by omega
  clear hc
  go_enter Tryz.func62,Tryz.ntmps62
  go_wp2_with (first | (go_at_call 60;refine (hch _).mono ?_;rintro e w1 ⟨rfl,hb1⟩;have hcb:w1.cell? ⟨w.heap.size,0,none⟩=some (.slice ao n cap):=(hb1.cell (p:=⟨w.heap.size,0,none⟩) (by simp)).trans (by simp [go_sem]);have hbw:=(hA _).trans (hb1.mono (hA _).size)) | (go_at_call 79;refine (hcf _ hbw).mono ?_;rintro e w2 ⟨rfl,hb2⟩))
  go_ret2
  exact ⟨rfl,hbw.trans (hb2.mono hbw.size)⟩
theorem mvalues_any (va vr:Value) (m:Mo) (code:Int) (w:World) (hB:0 < w.heap.size) (hT:TabAt w) (hV:ModelV w va vr m) :
  Calls Tryz.prog 62 #[.agg #[va,vr],.int .i64 code] w fun e w'=>∃ v,e=.returned (.tuple #[v,.int .i64 (wcode m code)])/\Below w.heap.size w w'/\IntsV w' v (wvals m code):=by
 by_cases h:mcode m=0
 ·by_cases hc:0 <= code/\code < prodTo m.vars m.vars.length
  ·have h0:=wcode_yes h hc
   unfold wvals;rw [h0,if_pos rfl];exact (mvalues_loop va vr m code w hB hT hV h hc).mono fun e w' ⟨B,he,_,hb,hr⟩=>⟨_,he,hb,intsV_of_row hr⟩
  ·have h0:=wcode_no h hc
   unfold wvals;rw [h0,if_neg (by decide)]
   exact (mvalues_no va vr m code w hB hT hV h hc).mono fun e w' ⟨he,hb⟩=>⟨_,he,hb,none,0,rfl,fun h=>absurd rfl h⟩
 ·have h0:=wcode_bad (code:=code) h
  unfold wvals;rw [h0,if_neg h];exact (mvalues_bad va vr m code w hB hT hV h).mono fun e w' ⟨he,hb⟩=>⟨_,he,hb,none,0,rfl,fun h=>absurd rfl h⟩
