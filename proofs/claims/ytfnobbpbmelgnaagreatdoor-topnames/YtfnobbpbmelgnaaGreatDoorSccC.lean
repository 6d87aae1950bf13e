/- Joined texts. -/
import Derived.Test.YtfnobbpbmelgnaaGreatDoorSccA
namespace Go.Proofs.YtfnobbpbmelgnaaGreatDoor
open Go.ChangeShapes Go.WideShapes Go.ChangeAt Go.RowKit Go.Deep
open Terms
set_option maxHeartbeats 6400000
set_option maxRecDepth 20000
theorem statesAt_any (so no xo po:Option Addr) (sc nn nc xn xc pc:Nat) (ini man:Int) (S:List (Int × Int)) (l:List Nat) (w:World) (hS:OpsV w (.slice so S.length sc) S) (hP:NatsV w (.slice po l.length pc) l) (hlt:∀ i,i < l.length->l.getD i 0 < S.length) (hz:l.length <= 2000000) (hzS:S.length <= 20000) :
  Calls Tryz.prog 17 #[.agg #[.slice so S.length sc,.int .i64 ini,.slice no nn nc,.slice xo xn xc,.int .i64 man],.slice po l.length pc] w fun e w'=>∃ R,e=.returned (.slice (some ⟨R,0,none⟩) l.length l.length)/\Below w.heap.size w w'/\Hid (IntsV w' (.slice (some ⟨R,0,none⟩) l.length l.length) ((List.range l.length).map fun (j:Nat)=>(S.getD (l.getD j 0) (0,0)).1)):=by
 obtain ⟨n,hn⟩:∃ n,l.length=n:=⟨_,rfl⟩
 have HN:Hid (l.length=n):=hn;obtain ⟨W1,hW1⟩:∃ W1,W1=w.alloc (.cells #[.slice so S.length sc,.int .i64 ini,.slice no nn nc,.slice xo xn xc,.int .i64 man] 64):=⟨_,rfl⟩
 have hb1:Below w.heap.size w W1:=by rw [hW1];exact (Below.refl _ _).alloc (Nat.le_refl _) _
 have hc1:W1.cell? ⟨w.heap.size,0,none⟩=some (.slice so S.length sc):=by rw [hW1];simp [go_sem]
 have hz1:W1.heap.size=w.heap.size+1:=by rw [hW1];simp
 have HS:Hid (∀ wr,Below W1.heap.size W1 wr->∀ i,i < S.length->∃ b off,so=some ⟨b,off,none⟩/\wr.cell? ⟨b,off+i*2,none⟩=some (.int .i64 (S.getD i (0,0)).1)):=fun wr h i hi=>by
  obtain ⟨ao',cap,e,_,hx⟩:=(hS.below hb1).below h
  injection e with e1 _ _
  subst e1;obtain ⟨b,off,rfl,_,hat⟩:=hx (by rintro rfl;simp at hi)
  exact ⟨b,off,rfl,(hat i hi).1⟩
 have HP:Hid (∀ wr,Below W1.heap.size W1 wr->∀ i,i < n->∃ b off,po=some ⟨b,off,none⟩/\wr.cell? ⟨b,off+i,none⟩=some (.int .i64 ((l.getD i 0:Nat):Int))):=fun wr h i hi=>by
  have hP1:=(hP.below hb1).below h;obtain ⟨b,off,e,_,hat⟩:=hP1.num (i:=i) (by omega)
  exact ⟨b,off,e,hat⟩
 have HC:Hid (∀ wr,Below W1.heap.size W1 wr->wr.cell? ⟨w.heap.size,0,none⟩=some (.slice so S.length sc)):=fun wr h=>(h.cell (p:=⟨w.heap.size,0,none⟩) (by show w.heap.size < _;omega)).trans hc1
 have HL:Hid (∀ i,i < n->l.getD i 0 < S.length):=fun i hi=>hlt i (by omega)
 rw [hn] at hz ⊢;generalize hsn:S.length=sn at *;clear hS hP hlt hn hc1;have hmk:=run_make_row' (P:=Tryz.prog) 36 3 (.int .i64 0) 8 Tryz.underlying36 infoInt rfl .i64 .i64 n (by omega) (by omega)
 obtain ⟨f,hf⟩:∃ f:Nat->Int,f=fun j=>(S.getD (l.getD j 0) (0,0)).1:=⟨_,rfl⟩
 have HF:Hid (∀ j,(S.getD (l.getD j 0) (0,0)).1=f j):=fun j=>by rw [hf]
 have HFe:Hid ((List.range n).map (fun (j:Nat)=>(S.getD (l.getD j 0) (0,0)).1)=(List.range n).map f):=by rw [hf];rfl
 have HR0:Hid ((W1.alloc (.cells (madeCells #[.int .i64 0] n) 3)).rowIs (w.heap.size+1) 3 n (fun j=>.int .i64 (if j < 0 then f j else 0))):=by
  rw [<- hz1];exact (World.rowIs_made W1 (.int .i64 0) n 3).congr (fun j _=>by simp)
 have hb2:Below W1.heap.size W1 (W1.alloc (.cells (madeCells #[.int .i64 0] n) 3)):=(Below.refl _ _).alloc (Nat.le_refl _) _;rw [HFe.out];clear hf HFe
 go_enter Tryz.func17,Tryz.ntmps17
 go_wp2_with fail
 rw [<- hW1];clear hW1
 go_wp2_with fail
 generalize W1.alloc (.cells (madeCells #[.int .i64 0] n) 3)=W2 at *
 go_loopw [13] (fun i wr=>∃ k:Nat,k <= n/\i=.int .i64 k/\Below W1.heap.size W1 wr/\Hid (wr.rowIs (w.heap.size+1) 3 n (fun j=>.int .i64 (if j < k then f j else 0)))) (fun i _=>n - (intOf i).toNat)
 case atStart=>exact ⟨0,Nat.zero_le _,rfl,hb2,HR0⟩
 case round=>
  obtain ⟨k,hk,rfl,hbr,HR⟩:=hrel
  by_cases hkn:k < n
  ·have hki:(k:Int) < (n:Int):=by omega
   obtain ⟨pb,poff,rfl,c0⟩:=HP.out wr hbr k hkn;have hpl:=HL.out k hkn;obtain ⟨sb,soff,rfl,d0⟩:=HS.out wr hbr _ hpl;have g0:=HC.out wr hbr;rw [HF.out k] at d0;generalize l.getD k 0=q at *;have hqi:(q:Int) < (sn:Int):=by omega
   have f0:=HR.out.cell hkn;have f1:=HR.out.frozen k
   have HR2:Hid ((wr.setCell ⟨w.heap.size+1,k,none⟩ (.int .i64 (f k))).rowIs (w.heap.size+1) 3 n (fun j=>.int .i64 (if j < k+1 then f j else 0))):=(HR.out.set k _).congr (fun j _=>by
    by_cases e:j=k
    ·subst e
     rw [if_pos rfl,if_pos (Nat.lt_succ_self _)]
    ·rw [if_neg e]
     by_cases h1:j < k
     ·rw [if_pos h1,if_pos (by omega)]
     ·rw [if_neg h1,if_neg (by omega)])
   clear HR
   go_wp2_with fail
   go_roundw
   case rel=>exact ⟨k+1,by omega,by go_num,hbr.setCell (p:=⟨w.heap.size+1,k,none⟩) (by show W1.heap.size <= w.heap.size+1;omega) _,HR2⟩
   case measure=>simp [intOf];omega
  ·obtain rfl:k=n:=by omega
   go_wp2_with fail
   go_ret
   refine ⟨w.heap.size+1,rfl,hb1.trans (hbr.mono hb1.size),⟨some ⟨w.heap.size+1,0,none⟩,k,by simp,fun _=>⟨w.heap.size+1,0,rfl,HR.out.lt,fun i hi=>?_⟩⟩⟩
   have hi':i < k:=by simpa using hi
   rw [Nat.zero_add,HR.out.cell hi',if_pos hi'];simp [List.getD_eq_getElem?_getD,hi']
