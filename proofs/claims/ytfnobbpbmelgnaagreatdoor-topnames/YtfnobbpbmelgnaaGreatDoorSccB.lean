/- Joined texts. -/
import Derived.Test.YtfnobbpbmelgnaaGreatDoorSccA
import Derived.Deep.RegionLaw
import Derived.Shelf.Slices.Reverse
import Derived.Lib.OwnBridge
import Derived.Lib.RowBridge
namespace Go.Proofs.YtfnobbpbmelgnaaGreatDoor
open Go.ChangeShapes Go.WideShapes Go.ChangeAt Go.RowKit Go.Deep
open Terms
set_option maxHeartbeats 6400000
set_option maxRecDepth 20000
def madeA (s t b1 b2 b3 b4 b5:Nat):TA:=⟨s,t,b1,b2,b3,b4,b5⟩
def made_ok (w w5:World) (no:Option Addr) (n nc b bw bl bg bp:Nat):Prop:=TAOk (madeA w.heap.size w5.heap.size b bw bl bg bp)/\(madeA w.heap.size w5.heap.size b bw bl bg bp).s=w.heap.size/\TjW w w5 (madeA w.heap.size w5.heap.size b bw bl bg bp) (.slice no n nc) n (.slice none 0 0) (.slice none 0 0) [] [] (fun _=>0) (fun _=>0) (fun _=>0) (fun _=>0) 0
theorem made_is {w W0 w5:World} {g0 g1 g3 g4 no':Value} {no:Option Addr} {n nc b b1 b2 b3 b4:Nat} (hno:no'=.slice no n nc) (hbox:w5.heap[b]? = some (.cells (fullWalk g0 g1 no' g3 g4 (.slice (some ⟨b1,0,none⟩) n n) (.slice (some ⟨b2,0,none⟩) n n) (.slice (some ⟨b3,0,none⟩) n n) (.slice (some ⟨b4,0,none⟩) n n)) 147 (0,0))) (h1:w5.rowIs b1 3 n (fun _=>.int .i64 0)) (h2:w5.rowIs b2 3 n (fun _=>.int .i64 0)) (h3:w5.rowIs b3 3 n (fun _=>.int .i64 0)) (h4:w5.rowIs b4 3 n (fun _=>.int .i64 0))
    (hs:W0.heap.size=w.heap.size+1) (hb0:Below w.heap.size w W0) (hb5:Below W0.heap.size W0 w5) (n0:W0.heap.size <= b/\b < w5.heap.size) (n1:W0.heap.size <= b1/\b1 < w5.heap.size) (n2:W0.heap.size <= b2/\b2 < w5.heap.size) (n3:W0.heap.size <= b3/\b3 < w5.heap.size) (n4:W0.heap.size <= b4/\b4 < w5.heap.size)
    (d1:b≠b1) (d2:b≠b2) (d3:b≠b3) (d4:b≠b4) (d5:b1≠b2) (d6:b1≠b3) (d7:b1≠b4) (d8:b2≠b3) (d9:b2≠b4) (d10:b3≠b4):made_ok w w5 no n nc b b1 b2 b3 b4:=by
  subst hno;have hc:∀ j,w5.cell? ⟨b,j,none⟩=(fullWalk g0 g1 (.slice no n nc) g3 g4 (.slice (some ⟨b1,0,none⟩) n n) (.slice (some ⟨b2,0,none⟩) n n) (.slice (some ⟨b3,0,none⟩) n n) (.slice (some ⟨b4,0,none⟩) n n))[j]?:=fun j=>by simp [World.cell?,hbox]
  have hf:∀ j,w5.frozen? ⟨b,j,none⟩=false:=fun j=>by simp [World.frozen?,hbox]
  refine ⟨⟨?_,?_,?_,?_,?_,?_,?_,?_,?_,?_,d1,d2,d3,d4,d5,d6,d7,d8,d9,d10⟩,rfl,⟨hb0.trans (hb5.mono (by omega)),Nat.le_refl _,hf,hc 2,hc 5,hc 6,hc 7,hc 8,hc 9,hc 10,hc 11,h1,h2,h3,h4,World.ownsRow_nil _ _ _ _,World.ownsRow_nil _ _ _ _,fun k hk=>by cases hk⟩⟩
  all_goals simp only [madeA]
  all_goals omega
theorem partsOf_any (so no bo:Option Addr) (sc nc bn bc:Nat) (gi gm:Int) (n:Nat) (nx:Nat->List Nat) (w:World) (hn:n <= 20000) (hnx:∀ i,i < n->∀ k∈nx i,k < n) (hxl:∀ i,i < n->(nx i).length <= 140737488355328) (hR:NextRows w no n nx) :
  Calls Tryz.prog 51 #[.agg #[.slice so n sc,.int .i64 gi,.slice no n nc,.slice bo bn bc,.int .i64 gm]] w fun e w'=>∃ B,e=.returned (.slice (some ⟨B,0,none⟩) n n)/\Below w.heap.size w w'/\Hid (∃ pt,w.heap.size <= B/\w'.rowIs B 3 n (intRow pt)/\∀ x,x < n->PartIs nx x (pt x)):=by
 have hmk:=run_make_row' (P:=Tryz.prog) 36 3 (.int .i64 0) 8 Tryz.underlying36 infoInt rfl .i64 .i64 n (by omega) (by omega)
 obtain ⟨W0,hW0⟩:∃ W0,W0=w.alloc (.cells #[.slice so n sc,.int .i64 gi,.slice no n nc,.slice bo bn bc,.int .i64 gm] 64):=⟨_,rfl⟩
 have hs0:W0.heap.size=w.heap.size+1:=by rw [hW0];simp
 have hb0:Below w.heap.size w W0:=by rw [hW0];exact (Below.refl _ _).alloc (Nat.le_refl _) _
 have c0:W0.cell? ⟨w.heap.size,0,none⟩=some (.slice so n sc):=by rw [hW0];simp [go_sem]
 have c1:W0.cell? ⟨w.heap.size,1,none⟩=some (.int .i64 gi):=by rw [hW0];simp [go_sem]
 have c2:W0.cell? ⟨w.heap.size,2,none⟩=some (.slice no n nc):=by rw [hW0];simp [go_sem]
 have c3:W0.cell? ⟨w.heap.size,3,none⟩=some (.slice bo bn bc):=by rw [hW0];simp [go_sem]
 have c4:W0.cell? ⟨w.heap.size,4,none⟩=some (.int .i64 gm):=by rw [hW0];simp [go_sem]
 go_enter Tryz.func51,Tryz.ntmps51
 go_upto_region 2 with fail
 rw [<- hW0]
 go_cut [4] (fun s4 wx=>∃ A:TA,s4=.pointer (some ⟨A.b,0,none⟩)/\Hid (TAOk A/\A.s=w.heap.size/\TjW w wx A (.slice no n nc) n (.slice none 0 0) (.slice none 0 0) [] [] (fun _=>0) (fun _=>0) (fun _=>0) (fun _=>0) 0))
 case first=>
  rename_i J K' hJ hK';generalize ha0:Act.mk _ _=a0;have hsz:a0.tmps.size=47:=by rw [<- ha0];rfl
  have a1:a0.eval (.tmp 1)=.pointer (some ⟨w.heap.size,0,none⟩):=by rw [<- ha0];rfl
  have a3:a0.eval (.tmp 3)=.int .i64 (n:Int):=by rw [<- ha0];rfl
  have hl:w.heap.size < W0.heap.size:=by omega
  refine wp_anywayN (by rfl) [10,11,12,13,14,15,16,17,18,19,4] 11 (pwP (.agg #[.slice so n sc,.int .i64 gi,.slice no n nc,.slice bo bn bc,.int .i64 gm]) n) pwN (pwR (.slice so n sc) (.int .i64 gi) (.slice no n nc) (.slice bo bn bc) (.int .i64 gm)) (by rw [hsz];rfl) ?_ (fun i v w w' _ h hb=>pwP_stable _ _ _ _ _ _ h hb) ?_ ?_
  ·intro i q v t u hi hk hr h9
   subst h9;rw [hr rfl,setV_other (hk 2 12 (by rfl) (by rfl)),setV_other (hk 4 14 (by rfl) (by rfl)),setV_other (hk 6 16 (by rfl) (by rfl)),setV_other (hk 8 18 (by rfl) (by rfl))]
  ·intro i o hi ho q w' hb hq
   have f:∀ t,[10,11,12,13,14,15,16,17,18,19,4].contains t=true->t < 47->(frm a0 [10,11,12,13,14,15,16,17,18,19,4] q).eval (.tmp t)=q t:=fun t h1 h2=>frm_in h1 (by rw [hsz];exact h2)
   have e1:=(frm_out (a:=a0) (ds:=[10,11,12,13,14,15,16,17,18,19,4]) (q:=q) (t:=1) rfl).trans a1;have e3:=(frm_out (a:=a0) (ds:=[10,11,12,13,14,15,16,17,18,19,4]) (q:=q) (t:=3) rfl).trans a3;have hbw:Below w'.heap.size w' w':=Below.refl _ _
   have hc:∀ j,w'.cell? ⟨w.heap.size,j,none⟩=W0.cell? ⟨w.heap.size,j,none⟩:=fun j=>hb.cell (p:=⟨w.heap.size,j,none⟩) hl
   have hcs:i=0\/i=1\/i=2\/i=3\/i=4\/i=5\/i=6\/i=7\/i=8\/i=9\/i=10:=by omega
   rcases hcs with rfl | rfl | rfl | rfl | rfl | rfl | rfl | rfl | rfl | rfl | rfl
   all_goals obtain rfl:=Option.some.inj ho
   ·refine op_val (w':=w') (v:=.agg #[.slice so n sc,.int .i64 gi,.slice no n nc,.slice bo bn bc,.int .i64 gm]) ?_ hbw ⟨pwP.val (.inl ⟨rfl,rfl⟩),(fun h=>by omega),fun b _ h=>nomatch h⟩
    generalize (frm a0 [10,11,12,13,14,15,16,17,18,19,4] q).eval=ev at e1 ⊢;simp [execOp,e1,go_sem,hc,c0,c1,c2,c3,c4]
   ·exact pw_move (by omega) rfl (fun _ h=>by omega) e3
   ·exact pw_make 11 hn (by omega) rfl (fun _ h=>by omega) ((f 11 rfl (by decide)).trans ((hq 1 11 (by rfl) (by rfl)).2.1 (by omega)))
   ·exact pw_move (by omega) rfl (fun _ h=>by omega) e3
   ·exact pw_make 13 hn (by omega) rfl (fun _ h=>by omega) ((f 13 rfl (by decide)).trans ((hq 3 13 (by rfl) (by rfl)).2.1 (by omega)))
   ·exact pw_move (by omega) rfl (fun _ h=>by omega) e3
   ·exact pw_make 15 hn (by omega) rfl (fun _ h=>by omega) ((f 15 rfl (by decide)).trans ((hq 5 15 (by rfl) (by rfl)).2.1 (by omega)))
   ·exact pw_move (by omega) rfl (fun _ h=>by omega) e3
   ·exact pw_make 17 hn (by omega) rfl (fun _ h=>by omega) ((f 17 rfl (by decide)).trans ((hq 7 17 (by rfl) (by rfl)).2.1 (by omega)))
   ·have x0:=(f 10 rfl (by decide)).trans ((hq 0 10 (by rfl) (by rfl)).1 rfl)
    obtain ⟨r1,y1,_⟩:=(hq 2 12 (by rfl) (by rfl)).2.2.1 (by omega)
    obtain ⟨r2,y2,_⟩:=(hq 4 14 (by rfl) (by rfl)).2.2.1 (by omega)
    obtain ⟨r3,y3,_⟩:=(hq 6 16 (by rfl) (by rfl)).2.2.1 (by omega)
    obtain ⟨r4,y4,_⟩:=(hq 8 18 (by rfl) (by rfl)).2.2.1 (by omega)
    have x1:=(f 12 rfl (by decide)).trans y1
    have x2:=(f 14 rfl (by decide)).trans y2
    have x3:=(f 16 rfl (by decide)).trans y3
    have x4:=(f 18 rfl (by decide)).trans y4
    refine op_val (w':=w') (v:=.agg (fullWalk (.slice so n sc) (.int .i64 gi) (.slice no n nc) (.slice bo bn bc) (.int .i64 gm) (q 12) (q 14) (q 16) (q 18))) ?_ hbw ⟨pwP.val (.inr (.inr rfl)),(fun _=>rfl),fun b h _=>nomatch h⟩
    rw [y1,y2,y3,y4];generalize (frm a0 [10,11,12,13,14,15,16,17,18,19,4] q).eval=ev at x0 x1 x2 x3 x4 ⊢;simp [execOp,x0,x1,x2,x3,x4,go_sem,fullWalk]
   ·refine op_val (w':=w'.alloc (.cells zeroWalk 147)) (v:=.pointer (some ⟨w'.heap.size,0,none⟩)) ?_ (hbw.alloc (Nat.le_refl _) _) ⟨pwP.box (blk_alloc_new _ _),(fun h=>by omega),fun b _ h=>?_⟩
    ·generalize (frm a0 [10,11,12,13,14,15,16,17,18,19,4] q).eval=ev
     kernel_rfl
    ·obtain rfl:w'.heap.size=b:=by simpa [blk] using h
     simp
  ·intro q w' hb hp hl2 hown hdis
   have f:∀ t,[10,11,12,13,14,15,16,17,18,19,4].contains t=true->t < 47->(frm a0 [10,11,12,13,14,15,16,17,18,19,4] q).eval (.tmp t)=q t:=fun t h1 h2=>frm_in h1 (by rw [hsz];exact h2)
   obtain ⟨b1,y1,h1⟩:=(hp 2 12 (by decide) (by rfl)).2.2.1 (by omega)
   obtain ⟨b2,y2,h2⟩:=(hp 4 14 (by decide) (by rfl)).2.2.1 (by omega)
   obtain ⟨b3,y3,h3⟩:=(hp 6 16 (by decide) (by rfl)).2.2.1 (by omega)
   obtain ⟨b4,y4,h4⟩:=(hp 8 18 (by decide) (by rfl)).2.2.1 (by omega)
   obtain ⟨b,y0,h0⟩:=(hp 10 4 (by decide) (by rfl)).2.2.2 rfl
   have e19:=hl2 9 19 (by decide) (by rfl) rfl
   rw [y1,y2,y3,y4] at e19;have k1:blk (q 12)=some b1:=by rw [y1];rfl
   have k2:blk (q 14)=some b2:=by rw [y2];rfl
   have k3:blk (q 16)=some b3:=by rw [y3];rfl
   have k4:blk (q 18)=some b4:=by rw [y4];rfl
   have k0:blk (q 4)=some b:=by rw [y0];rfl
   have dd:∀ i j t s x y,i < 11->j < 11->i≠j->pwN i=true->pwN j=true->dstOf _ i=some t->dstOf _ j=some s->blk (q t)=some x->blk (q s)=some y->x≠y:=fun i j t s x y g1 g2 g3 g4 g5 g6 g7 g8 g9 e=>hdis i j t s x g1 g2 g3 g4 g5 g6 g7 g8 (by rw [g9,e])
   have u01:=dd 10 2 4 12 b b1 (by decide) (by decide) (by decide) rfl rfl rfl rfl k0 k1
   have u02:=dd 10 4 4 14 b b2 (by decide) (by decide) (by decide) rfl rfl rfl rfl k0 k2
   have u03:=dd 10 6 4 16 b b3 (by decide) (by decide) (by decide) rfl rfl rfl rfl k0 k3
   have u04:=dd 10 8 4 18 b b4 (by decide) (by decide) (by decide) rfl rfl rfl rfl k0 k4
   have u12:=dd 2 4 12 14 b1 b2 (by decide) (by decide) (by decide) rfl rfl rfl rfl k1 k2
   have u13:=dd 2 6 12 16 b1 b3 (by decide) (by decide) (by decide) rfl rfl rfl rfl k1 k3
   have u14:=dd 2 8 12 18 b1 b4 (by decide) (by decide) (by decide) rfl rfl rfl rfl k1 k4
   have u23:=dd 4 6 14 16 b2 b3 (by decide) (by decide) (by decide) rfl rfl rfl rfl k2 k3
   have u24:=dd 4 8 14 18 b2 b4 (by decide) (by decide) (by decide) rfl rfl rfl rfl k2 k4
   have u34:=dd 6 8 16 18 b3 b4 (by decide) (by decide) (by decide) rfl rfl rfl rfl k3 k4
   have o1:=hown 2 12 b1 (by decide) rfl rfl k1
   have o2:=hown 4 14 b2 (by decide) rfl rfl k2
   have o3:=hown 6 16 b3 (by decide) rfl rfl k3
   have o4:=hown 8 18 b4 (by decide) rfl rfl k4
   have o0:=hown 10 4 b (by decide) rfl rfl k0
   show wpOps Tryz.prog _ _ [11] _ _
   rw [wpOps_cons];refine op_atR rfl rfl ?_
   obtain ⟨w5,r1,r2,r3,r4⟩:=run_store _ _ (frm a0 [10,11,12,13,14,15,16,17,18,19,4] q).eval w' b so no bo sc nc bn bc n gi gm b1 b2 b3 b4 ((f 4 rfl (by decide)).trans y0) ((f 19 rfl (by decide)).trans e19) h0
   have hsz5:=(r4 b w' (Nat.le_refl _) (Below.refl _ _)).size
   have HX:Hid (made_ok w w5 no n nc b b1 b2 b3 b4):=made_is rfl r2 (h1.of_block (r3 _ (Ne.symm u01))) (h2.of_block (r3 _ (Ne.symm u02))) (h3.of_block (r3 _ (Ne.symm u03))) (h4.of_block (r3 _ (Ne.symm u04))) hs0 hb0 (r4 _ _ o0.1 hb) ⟨o0.1,by omega⟩ ⟨o1.1,by omega⟩ ⟨o2.1,by omega⟩ ⟨o3.1,by omega⟩ ⟨o4.1,by omega⟩ u01 u02 u03 u04 u12 u13 u14 u23 u24 u34
   refine op_skip rfl r1 ?_
   show K' _ _
   refine hK' _ _ ?_
   rw [<- ha0]
   go_meet
   exact ⟨madeA w.heap.size w5.heap.size b b1 b2 b3 b4,y0,HX⟩
 case rest=>
  obtain ⟨A,rfl,HA0⟩:=hcut;obtain ⟨hA,hAs,hW⟩:=HA0.out;have HA:Hid (TAOk A):=hA;have H0:Hid (TjW w wc A (.slice no n nc) n (.slice none 0 0) (.slice none 0 0) [] [] (fun _=>0) (fun _=>0) (fun _=>0) (fun j=>if j < 0 then -1 else 0) 0):=hW
  have HR:Hid (NextRows w no n nx):=hR;have HNX:Hid (∀ i,i < n->∀ k∈nx i,k < n):=hnx
  have HXL:Hid (∀ i,i < n->(nx i).length <= 140737488355328):=hxl
  have k11:=H0.out.cp;clear HA0 hW hmk c0 c1 c2 c3 c4 hb0 hR hnx hxl hs0 hW0
  go_wp2_with fail
  go_loopw [23] (fun i wr=>∃ k:Nat,k <= n/\i=.int .i64 k/\Hid (TjW w wr A (.slice no n nc) n (.slice none 0 0) (.slice none 0 0) [] [] (fun _=>0) (fun _=>0) (fun _=>0) (fun j=>if j < k then -1 else 0) 0)) (fun i _=>n - (intOf i).toNat)
  case atStart=>exact ⟨0,Nat.zero_le _,rfl,H0⟩
  case round=>
   obtain ⟨k,hk,rfl,HK⟩:=hrel
   by_cases hlt:k < n
   ·have k11:=HK.out.cp
    have r1:=HK.out.rp.cell hlt;have r2:=HK.out.rp.frozen k
    have HN:Hid (TjW w (wr.setCell ⟨A.bp,k,none⟩ (.int .i64 (-1))) A (.slice no n nc) n (.slice none 0 0) (.slice none 0 0) [] [] (fun _=>0) (fun _=>0) (fun _=>0) (fun j=>if j < k+1 then -1 else 0) 0):=by
     have:=HK.out.setP HA.out k (-1)
     have e:updI (fun j=>if j < k then (-1:Int) else 0) k (-1)=fun j=>if j < k+1 then -1 else 0:=by
      funext j
      unfold updI
      by_cases hj:j=k
      ·subst hj;simp
      ·rw [if_neg hj]
       show (if j < k then (-1:Int) else 0)=_
       by_cases hjk:j < k
       ·rw [if_pos hjk,if_pos (by omega)]
       ·rw [if_neg hjk,if_neg (by omega)]
     rw [e] at this;exact this
    generalize intRow (fun j=>if j < k then (-1:Int) else 0) k=old at *
    clear HK
    go_wp2_with fail
    go_roundw
    case rel=>exact ⟨k+1,hlt,by go_num,HN⟩
    case measure=>simp [intOf];omega
   ·obtain rfl:k=n:=by omega
    have HT0:Hid (∃ wh lo go pt met,TjAt w wr A (.slice no k nc) k nx [] wh lo go pt met/\∀ x,x < 0->wh x≠0):=by
     have h:=HK.out;refine ⟨_,_,_,_,_,⟨.slice none 0 0,.slice none 0 0,Tj.start k nx,?_⟩,fun x hx=>by omega⟩
     exact ⟨h.below,h.size,h.fz,h.gn,h.dn,h.on,h.cw,h.cl,h.cg,h.cm,h.cp,h.rw,h.rl,h.rg,h.rp.congr (fun j hj=>by simp [intRow,hj]),h.od,h.oo,h.ap⟩
    clear HK H0 k11;generalize wr=w1 at *
    go_wp2_with fail
    go_loopw [32] (fun i wr=>∃ q:Nat,q <= k/\i=.int .i64 q/\Hid (TjEnd w wr A (.slice no k nc) k nx (fun x=>x < q))) (fun i _=>k - (intOf i).toNat)
    case atStart=>exact ⟨0,Nat.zero_le _,rfl,HT0⟩
    case round=>
     obtain ⟨q,hq,rfl,HE⟩:=hrel;obtain ⟨wh,lo,go,pt,met,⟨dv,ov,hT,hW⟩,hseen⟩:=HE.out;have HT:Hid (Tj k nx [] wh lo go pt met):=hT;have HW:Hid (TjW w wr A (.slice no k nc) k dv ov [] [] wh lo go pt met):=hW;have HS:Hid (∀ x,x < q->wh x≠0):=hseen
     clear hT hW hseen HE HT0
     by_cases hlt2:q < k
     ·have k7:=HW.out.cw
      have r7:wr.cell? ⟨A.bw,q,none⟩=some (.int .i64 (wh q:Int)):=HW.out.rw.cell hlt2
      by_cases hwq:wh q=0
      ·have hmet:met < k:=by rw [HT.out.few];exact nz_lt hwq hlt2
       have hme:=tjmeet_any w wr A (.slice no k nc) k dv ov [] [] wh lo go pt met q HA.out hlt2 (by omega) (by simp) (by simp) HW.out
       have HTb:Hid (Tj k nx [(q,[])] (upd wh q (met+1)) (upd lo q (met+1)) go pt (met+1)):=HT.out.begin hlt2 hwq
       have HSq:Hid (∀ x,x < q+1->upd wh q (met+1) x≠0):=fun x hx=>by
        by_cases e:x=q
        ·subst e;rw [upd_same];omega
        ·rw [upd_other e];exact HS.out x (by omega)
       have hgo:=fun w2 (hh:TjK w w2 A (.slice no k nc) k nx (fun x=>x < q+1) (2*left nx go k+1))=>tjgo_any w w2 A no nc k nx (fun x=>x < q+1) (2*left nx go k+1) HA.out hn HNX.out HXL.out (by rw [hAs];exact Nat.le_refl _) HR.out hh
       rw [hwq] at r7;clear HT HW HS
       go_wp2_with (first | (go_at_call 69;refine hme.mono ?_;rintro e w2 ⟨rfl,HW2⟩;have hgo2:=hgo w2 (by obtain ⟨dv',ov',h6⟩:=HW2.out;exact ⟨_,_,_,_,_,_,⟨dv',ov',HTb.out,h6⟩,rfl,HSq.out⟩)) | (go_at_call 70;refine hgo2.mono ?_;rintro e w3 ⟨rfl,HW3⟩))
       go_roundw
       case rel=>exact ⟨q+1,hlt2,by go_num,HW3⟩
       case measure=>simp [intOf];omega
      ·have hwq2:¬ (wh q:Int)=0:=by omega
       have HN:Hid (TjEnd w wr A (.slice no k nc) k nx (fun x=>x < q+1)):=⟨wh,lo,go,pt,met,⟨dv,ov,HT.out,HW.out⟩,fun x hx=>by
        by_cases e:x=q
        ·subst e;exact hwq
        ·exact HS.out x (by omega)⟩
       generalize wh q=b at *;clear HT HW HS
       go_wp2_with fail
       go_roundw
       case rel=>exact ⟨q+1,hlt2,by go_num,HN⟩
       case measure=>simp [intOf];omega
     ·obtain rfl:q=k:=by omega
      have k11:=HW.out.cp;have hbw:Below w.heap.size w wr:=by rw [<- hAs];exact HW.out.below
      have HF:Hid (∃ pt,w.heap.size <= A.bp/\wr.rowIs A.bp 3 q (intRow pt)/\∀ x,x < q->PartIs nx x (pt x)):=⟨pt,by rw [<- hAs];exact HA.out.sp,HW.out.rp,HT.out.done HS.out⟩
      clear HT HW HS
      go_wp2_with fail
      go_ret
      exact ⟨_,rfl,hbw,HF⟩
end Go.Proofs.YtfnobbpbmelgnaaGreatDoor
namespace Go.Proofs.YtfnobbpbmelgnaaGreatDoor
open Go.ChangeShapes Go.WideShapes Go.ChangeAt Go.RowKit Go.Deep Go.Maps
open Terms
set_option maxHeartbeats 6400000
set_option maxRecDepth 20000
def LookPost (g:Gr) (ins want:Nat->Bool) (bs:List Nat) (L:Met) (r:Int):Prop:=LOk g.spots.length ins (nxt g) bs L/\((r=-1/\Through ins want (nxt g) bs L L.length)\/∃ i,i < L.length/\r=((L.getD i (0,0)).1:Int)/\want (L.getD i (0,0)).1=true)
theorem nvals_at (L:Met) {i:Nat} (hi:i < L.length):(nvals (keys L))[i]? = some (.int .i64 ((L.getD i (0,0)).1:Int)):=by
 simp [nvals,keys,List.getD_eq_getElem?_getD,hi]
theorem lookG_any (so no bo po:Option Addr) (sc nc bc pc:Nat) (g:Gr) (bs:List Nat) (fi fw:FuncId) (ci cw:Array Value) (ins want:Nat->Bool) (w:World) (hg:GOk g) (hzn:∀ i,i < g.spots.length->(g.next.getD i []).length <= 140737488355328)
    (hV:GraphV w (.slice so g.spots.length sc) (.slice no g.next.length nc) (.slice bo g.sets.length bc) g) (hP:NatsV w (.slice po bs.length pc) bs) (hbl:bs.length <= 140737488355328) (hbs:∀ x∈bs,x < g.spots.length)
    (hI:FnB w w.heap.size g.spots.length (.func (.func fi) #[] ci) ins) (hW:FnB w w.heap.size g.spots.length (.func (.func fw) #[] cw) want) :
    Calls Tryz.prog 53 #[.agg #[.slice so g.spots.length sc,.int .i64 g.init,.slice no g.next.length nc,.slice bo g.sets.length bc,.int .i64 g.many],.slice po bs.length pc,.func (.func fi) #[] ci,.func (.func fw) #[] cw] w fun e w'=>∃ L r,e=.returned (.tuple #[.int .i64 r,.map (some (w.heap.size+2))])/\Below w.heap.size w w'/\Hid (CameIs w' (w.heap.size+2) L/\LookPost g ins want bs L r):=by
  have hn:=hg.head.n;have hnl:=hg.head.next
  have HMeet:Hid (∀ (po:Option Addr) (pc:Nat) (ps:List Nat) (f:Int) (w1:World) (L:Met) (v:Value),(∀ x∈ps,x < g.spots.length)->-1 <= f/\f <= 20000->ps.length <= 140737488355328->NatsV w (.slice po ps.length pc) ps->LOk g.spots.length ins (nxt g) bs L->((f=-1/\∀ x∈ps,x∈bs)\/∃ j,j < L.length/\f=((L.getD j (0,0)).1:Int)/\∀ x∈ps,x∈nxt g (L.getD j (0,0)).1)->LookSt w w1 w.heap.size (.slice no g.next.length nc) (.func (.func fi) #[] ci) L v->
      Calls Tryz.prog 71 #[.slice po ps.length pc,.int .i64 f,.pointer (some ⟨w.heap.size+3,0,none⟩),.pointer (some ⟨w.heap.size+1,0,none⟩),.pointer (some ⟨w.heap.size+4,0,none⟩)] w1 fun e w'=>e=.returned (.tuple #[])/\∃ v',LookSt w w' w.heap.size (.slice no g.next.length nc) (.func (.func fi) #[] ci) (meetTo ins f L ps ps.length) v'/\LOk g.spots.length ins (nxt g) bs (meetTo ins f L ps ps.length)):=fun po pc ps f w1 L v h1 h2 h3 h4 h5 h6 h7=>
    (meet_any po pc ps f w w1 g.spots.length _ fi ci ins L v hn h1 h2 h3 h4 hI (fun k hk=>(meetTo_ok h5 h1 h6 k hk).length) h7).mono fun e w' ⟨e1,v',e2⟩=>⟨e1,v',e2,meetTo_ok h5 h1 h6 _ (Nat.le_refl _)⟩
  have HV:Hid (GraphV w (.slice so g.spots.length sc) (.slice no g.next.length nc) (.slice bo g.sets.length bc) g):=hV
  have HRow:Hid (∀ p,p < g.spots.length->∃ b off,no=some ⟨b,off,none⟩/\b < w.heap.size/\∃ uo uc,w.cell? ⟨b,off+p,none⟩=some (.slice uo (nxt g p).length uc)/\NatsV w (.slice uo (nxt g p).length uc) (nxt g p)/\(nxt g p).length <= 140737488355328/\∀ x∈nxt g p,x < g.spots.length):=fun p hp=>by
    obtain ⟨b,off,e,hb,uo,uc,h1,h2⟩:=hV.next.row (i:=p) (by rw [hnl];exact hp)
    have h3:=hzn p hp;refine ⟨b,off,e,hb,uo,uc,by rw [nxt_length];exact h1,row_nats hg hp h2,by rw [nxt_length];exact h3,fun x hx=>nxt_lt hg hp hx⟩
  have HBs:Hid (∀ x∈bs,x < g.spots.length):=hbs
  have HP:Hid (NatsV w (.slice po bs.length pc) bs):=hP;obtain ⟨fw',cw',e1,hen,hwn⟩:=hW
  injection e1 with e1 e2 e3
  injection e1 with e1
  subst e1 e3;clear e2;have HWn:Hid (∀ w',Below w.heap.size w w'->∀ p:Nat,p < g.spots.length->Calls Tryz.prog fw (#[.int .i64 (p:Int)]++cw) w' fun e w2=>e=.returned (.bool (want p))/\Below w'.heap.size w' w2):=hwn
  have HPost:Hid (∀ L r,LOk g.spots.length ins (nxt g) bs L->((r=-1/\Through ins want (nxt g) bs L L.length)\/∃ i,i < L.length/\r=((L.getD i (0,0)).1:Int)/\want (L.getD i (0,0)).1=true)->LookPost g ins want bs L r):=fun L r h1 h2=>⟨h1,h2⟩
  have HTh0:Hid (∀ f,Through ins want (nxt g) bs (meetTo ins f [] bs bs.length) 0):=fun f=>⟨fun x hx hy=>by
      obtain ⟨k,hk,rfl⟩:=List.getElem_of_mem hx;have:=meetTo_has (ins:=ins) (f:=f) (L:=[]) (Nat.le_refl bs.length) k hk;rw [List.getD_eq_getElem?_getD,List.getElem?_eq_getElem hk] at this
      exact this hy,fun j hj=>by omega,fun j hj=>by omega⟩
  generalize LookPost g ins want bs=LP at *;generalize nxt g=nx at *;rw [hnl] at HMeet ⊢;generalize g.sets.length=bn at *;generalize g.spots.length=n at *;generalize g.init=gi at *;generalize g.many=gm at *;clear hV hg hzn hnl hbs hP hI hwn HV
  have HS1:Hid (LookSt w (((((w.alloc (.cells #[.slice so n sc,.int .i64 gi,.slice no n nc,.slice bo bn bc,.int .i64 gm] 64)).alloc (.cells #[.func (.func fi) #[] ci] 104)).alloc (.map #[] 0)).alloc (.cells #[.map (some (w.heap.size+1+1))] 123)).alloc (.cells #[.slice none 0 0] 36)) w.heap.size (.slice no n nc) (.func (.func fi) #[] ci) [] (.slice none 0 0)):=by
    refine ⟨?_,by simp,by simp [go_sem],by simp [go_sem],by simp [go_sem],?_,by simp [go_sem],by simp [go_sem],World.ownsRow_nil _ _ _ _⟩
    · exact (((((Below.refl _ _).alloc (Nat.le_refl _) _).alloc (by simp) _).alloc (by simp;omega) _).alloc (by simp;omega) _).alloc (by simp;omega) _
    · have h0:=World.ownsMap_made ((w.alloc (.cells #[.slice so n sc,.int .i64 gi,.slice no n nc,.slice bo bn bc,.int .i64 gm] 64)).alloc (.cells #[.func (.func fi) #[] ci] 104)) Tryz.prog 3 (plainElem (H:=Unit) Tryz.prog 3)
      have h1:=(h0.kept (grown_below ((Below.refl _ _).alloc (Nat.le_refl _) (.cells #[.map (some (w.heap.size+1+1))] 123))) (by simp)).kept (grown_below ((Below.refl _ _).alloc (Nat.le_refl _) (.cells #[.slice none 0 0] 36))) (by simp)
      exact ⟨_,by simpa using h1,fun x=>⟨by simp [Maps.has,keys],fun h=>by simp [keys] at h⟩⟩
  have hme:=HMeet.out po pc bs (-1) _ [] _ HBs.out (by omega) hbl HP.out (LOk.nil _ _ _ _) (.inl ⟨rfl,fun x hx=>hx⟩) HS1.out
  have hmm:=@run_makeMap Tryz.prog;have hmf:∀ (fn:Fn) (first cap:Array Value) (w:World),(Instr.makeFunc fn first cap).run Tryz.prog w=.ok (.func fn first cap) w:=fun _ _ _ _=>rfl
  go_enter Tryz.func53,Tryz.ntmps53
  go_wp2_with (go_at_call 71;refine hme.mono ?_;rintro e w1 ⟨rfl,v1,hst1,hok1⟩)
  have HTh:=HTh0.out (-1);generalize meetTo ins (-1) [] bs bs.length=L1 at *;have HI:Hid (∃ L v,0 <= L.length/\LookSt w w1 w.heap.size (.slice no n nc) (.func (.func fi) #[] ci) L v/\LOk n ins nx bs L/\Through ins want nx bs L 0):=⟨L1,v1,Nat.zero_le _,hst1,hok1,HTh⟩
  clear hst1 hok1 HTh HTh0 hme HS1 hmm hmf HP HBs
  go_loopw [13] (fun i wr=>∃ k:Nat,k <= n/\i=.int .i64 k/\Hid (∃ L v,k <= L.length/\LookSt w wr w.heap.size (.slice no n nc) (.func (.func fi) #[] ci) L v/\LOk n ins nx bs L/\Through ins want nx bs L k)) (fun i _=>n - (intOf i).toNat)
  case atStart=>exact ⟨0,Nat.zero_le _,rfl,HI.out⟩
  case round=>
    obtain ⟨k,hk,rfl,HK⟩:=hrel;obtain ⟨L,v,hkL,hst,hok,hth⟩:=HK.out;obtain ⟨lo,lc,rfl⟩:=owns_slice hst.ow;have hln:wr.cell? ⟨w.heap.size+1+1+1+1,0,none⟩=some (.slice lo L.length lc):=hst.ln;have hcm:wr.cell? ⟨w.heap.size+1+1+1,0,none⟩=some (.map (some (w.heap.size+1+1))):=hst.cm;have hgn:=hst.gn;have hLn:=hok.length
    by_cases hlt:k < L.length
    · obtain ⟨lb,hlo⟩:∃ lb,lo=some ⟨lb,0,none⟩:=by
        rcases hst.ow.2 with ⟨e,h0⟩ | ⟨lb,cap,cur,e,_⟩
        · omega
        · injection e with e1 _ _;exact ⟨lb,e1⟩
      subst hlo
      have hcl:wr.cell? ⟨lb,k,none⟩=some (.int .i64 ((L.getD k (0,0)).1:Int)):=by
        rw [hst.ow.cellAt k (by omega)]
        exact nvals_at L hlt
      have hpn:(L.getD k (0,0)).1 < n:=hok.lt _ (key_at hlt);have hwa:=HWn.out wr hst.below (L.getD k (0,0)).1 hpn;have HLa:Hid (∀ w4,Below wr.heap.size wr w4->LookSt w w4 w.heap.size (.slice no n nc) (.func (.func fi) #[] ci) L (.slice (some ⟨lb,0,none⟩) L.length lc)):=fun w4 hb=>hst.later hb
      have hlbs:lb < wr.heap.size:=World.block_lt_of_cell? wr _ hcl
      cases hwt:want (L.getD k (0,0)).1 with
      | true=>
        rw [hwt] at hwa;have HP2:Hid (LP L ((L.getD k (0,0)).1:Int)):=HPost.out L _ hok (.inr ⟨k,hlt,rfl,hwt⟩);generalize (L.getD k (0,0)).1=p at *;obtain ⟨q,hq⟩:∃ q,q=L.length:=⟨_,rfl⟩
        rw [<- hq] at hlt hln hLn HLa;clear hst hok hth HK hwt hq hkL
        go_wp2_with ((refine hwa.mono ?_;rintro e w4 ⟨rfl,hb4⟩;have hst4:=HLa.out w4 hb4;have hln4:w4.cell? ⟨w.heap.size+1+1+1+1,0,none⟩=some (.slice (some ⟨lb,0,none⟩) q lc):=hst4.ln;have hcm4:w4.cell? ⟨w.heap.size+1+1+1,0,none⟩=some (.map (some (w.heap.size+1+1))):=hst4.cm;have hcl4:=(hb4.cell (p:=⟨lb,k,none⟩) hlbs).trans hcl;have hbw4:=hst4.below;have HM4:Hid (CameIs w4 (w.heap.size+2) L):=hst4.mp;clear hst4))
        go_region
        go_wp2_with fail
        go_ret2
        exact ⟨L,(p:Int),rfl,by first | exact hbw4.drew | exact hbw4,HM4.out,HP2.out⟩
      | false=>
        rw [hwt] at hwa;obtain ⟨nb,noff,rfl,hnb,uo,uc,hcu0,hnat,hnl,hnlt⟩:=HRow.out (L.getD k (0,0)).1 hpn;have HTh:Hid (∀ f,Through ins want nx bs (meetTo ins f L (nx (L.getD k (0,0)).1) (nx (L.getD k (0,0)).1).length) (k+1)):=fun f=>hth.step hlt hwt
        have HLe:Hid (∀ f,k+1 <= (meetTo ins f L (nx (L.getD k (0,0)).1) (nx (L.getD k (0,0)).1).length).length):=fun f=>Nat.le_trans hlt (meetTo_grown _ _ _ _ _).length
        have hme:=fun w4 hb=>HMeet.out uo uc (nx (L.getD k (0,0)).1) ((L.getD k (0,0)).1:Int) w4 L _ hnlt (by omega) hnl hnat hok (.inr ⟨k,hlt,rfl,fun x hx=>hx⟩) (HLa.out w4 hb)
        generalize (L.getD k (0,0)).1=p at *;obtain ⟨q,hq⟩:∃ q,q=L.length:=⟨_,rfl⟩
        have HQ:Hid (q=L.length):=hq;rw [<- hq] at hlt hln hLn HLa
        have HME:Hid (∀ w4,Below wr.heap.size wr w4->Calls Tryz.prog 71 #[.slice uo (nx p).length uc,.int .i64 (p:Int),.pointer (some ⟨w.heap.size+1+1+1,0,none⟩),.pointer (some ⟨w.heap.size+1,0,none⟩),.pointer (some ⟨w.heap.size+1+1+1+1,0,none⟩)] w4 fun e w'=>e=.returned (.tuple #[])/\∃ v',LookSt w w' w.heap.size (.slice (some ⟨nb,noff,none⟩) n nc) (.func (.func fi) #[] ci) (meetTo ins (p:Int) L (nx p) (nx p).length) v'/\LOk n ins nx bs (meetTo ins (p:Int) L (nx p) (nx p).length)):=hme
        clear hst hok hth HK hwt hq hkL hme hnat hnlt HRow;have HN:=HTh.out (p:Int);have HN2:=HLe.out (p:Int);generalize meetTo ins (p:Int) L (nx p) (nx p).length=L2 at *;generalize (nx p).length=rn at *
        have hS:∀ w',Below wr.heap.size wr w'->w'.cell? ⟨w.heap.size,2,none⟩=some (.slice (some ⟨nb,noff,none⟩) n nc)/\w'.cell? ⟨w.heap.size+1+1+1+1,0,none⟩=some (.slice (some ⟨lb,0,none⟩) q lc)/\w'.cell? ⟨lb,k,none⟩=some (.int .i64 (p:Int))/\w'.cell? ⟨nb,noff+p,none⟩=some (.slice uo rn uc):=fun w' hb=>by
          have hst4:=HLa.out w' hb;exact ⟨hst4.gn,hst4.ln,(hb.cell (p:=⟨lb,k,none⟩) hlbs).trans hcl,(hst4.below.cell (p:=⟨nb,noff+p,none⟩) hnb).trans hcu0⟩
        go_wp2_with ((refine hwa.mono ?_;rintro e w4 ⟨rfl,hb4⟩;obtain ⟨a1,a2,a3,a4⟩:=hS w4 hb4))
        have hm4:=HME.out w4.drew hb4.drew
        have HGo:Hid (∀ w5 v5,LookSt w w5 w.heap.size (.slice (some ⟨nb,noff,none⟩) n nc) (.func (.func fi) #[] ci) L2 v5->LOk n ins nx bs L2->∃ L v,k+1 <= L.length/\LookSt w w5 w.heap.size (.slice (some ⟨nb,noff,none⟩) n nc) (.func (.func fi) #[] ci) L v/\LOk n ins nx bs L/\Through ins want nx bs L (k+1)):=fun w5 v5 h1 h2=>⟨L2,v5,HN2,h1,h2,HN⟩
        clear HN HN2 HTh HLe HME HMeet HLa HWn HPost hS hwa hcl hcu0 hln hcm hgn;have hkn:k < n:=by omega
        go_region_with ((go_at_call 71;refine hm4.mono ?_;rintro e w5 ⟨rfl,v5,hst5,hok5⟩;have HK5:Hid (∃ L v,k+1 <= L.length/\LookSt w w5 w.heap.size (.slice (some ⟨nb,noff,none⟩) n nc) (.func (.func fi) #[] ci) L v/\LOk n ins nx bs L/\Through ins want nx bs L (k+1)):=(HGo.out w5 v5 hst5 hok5);clear hst5 hok5))
        all_goals
          go_wp2_with fail
          go_roundw
          case rel=>exact ⟨k+1,hkn,by go_num,HK5⟩
          case measure=>simp [intOf];omega
    · obtain rfl:k=L.length:=by omega
      have HF:Hid (CameIs wr (w.heap.size+2) L/\LP L (-1)):=⟨hst.mp,HPost.out L (-1) hok (.inl ⟨rfl,hth⟩)⟩;have hbw:=hst.below;generalize L.length=q at *;clear hst hok hth HK
      go_wp2_with fail
      go_region
      go_wp2_with fail
      go_ret2
      exact ⟨L,-1,rfl,by first | exact hbw.drew | exact hbw,HF.out⟩
end Go.Proofs.YtfnobbpbmelgnaaGreatDoor
namespace Go.Proofs.YtfnobbpbmelgnaaGreatDoor
open Go.ChangeShapes Go.WideShapes Go.ChangeAt Go.RowKit Go.Deep
open Terms
set_option maxHeartbeats 6400000
set_option maxRecDepth 20000
end Go.Proofs.YtfnobbpbmelgnaaGreatDoor
namespace Go.Proofs.YtfnobbpbmelgnaaGreatDoor
open Go.ChangeShapes Go.WideShapes Go.ChangeAt Go.RowKit Go.Deep Go.Maps
open Terms
set_option maxHeartbeats 6400000
set_option maxRecDepth 20000
structure GrLe (g:Gr):Prop where
 spots:g.spots.length <= 140737488355328
 next:g.next.length <= 140737488355328
 sets:g.sets.length <= 140737488355328
 rows:∀ i,i < g.next.length->(g.next.getD i []).length <= 140737488355328
end Go.Proofs.YtfnobbpbmelgnaaGreatDoor
namespace Go.Proofs.YtfnobbpbmelgnaaGreatDoor
open Go.ChangeShapes Go.WideShapes Go.ChangeAt Go.RowKit Go.Deep
open Terms
set_option maxHeartbeats 6400000
set_option maxRecDepth 20000
theorem graph_rows {w:World} {g:Gr} {so no bo:Option Addr} {sc nc bc:Nat} (h:GOk g) (hV:GraphV w (.slice so g.spots.length sc) (.slice no g.next.length nc) (.slice bo g.sets.length bc) g):NextRows w no g.spots.length (nxt g):=fun p hp=>by
 obtain ⟨b,off,e,hb,uo,uc,hc,hi⟩:=hV.next.row (i:=p) (by rw [h.head.next];exact hp)
 exact ⟨b,off,e,hb,uo,uc,by rw [nxt_length];exact hc,row_nats h hp hi⟩
def PartsOk (g:Gr) (pt:Nat->Int):Prop:=∀ x,x < g.spots.length->PartIs (nxt g) x (pt x)
theorem partsOf_gr (so no bo:Option Addr) (sc nc bc:Nat) (g:Gr) (w:World) (hz:GrLe g) (hV:GraphV w (.slice so g.spots.length sc) (.slice no g.next.length nc) (.slice bo g.sets.length bc) g) (hok:GOk g) :
  Calls Tryz.prog 51 #[.agg #[.slice so g.spots.length sc,.int .i64 g.init,.slice no g.next.length nc,.slice bo g.sets.length bc,.int .i64 g.many]] w fun e w'=>∃ B,e=.returned (.slice (some ⟨B,0,none⟩) g.spots.length g.spots.length)/\Below w.heap.size w w'/\Hid (∃ pt,w.heap.size <= B/\w'.rowIs B 3 g.spots.length (intRow pt)/\PartsOk g pt):=by
 have hn:=hok.head.next;have h:=partsOf_any so no bo sc nc g.sets.length bc g.init g.many g.spots.length (nxt g) w hok.head.n (fun i hi k hk=>nxt_lt hok hi hk) (fun i hi=>by rw [nxt_length];exact hz.rows i (by rw [hn];exact hi)) (graph_rows hok hV)
 rw [hn];exact h
theorem sparts_ok (so no bo:Option Addr) (sc nc bc:Nat) (g:Gr) (w:World) (hz:GrLe g) (hV:GraphV w (.slice so g.spots.length sc) (.slice no g.next.length nc) (.slice bo g.sets.length bc) g) (hc:gcode g=0) :
  Calls Tryz.prog 29 #[.agg #[.slice so g.spots.length sc,.int .i64 g.init,.slice no g.next.length nc,.slice bo g.sets.length bc,.int .i64 g.many]] w fun e w'=>∃ B,e=.returned (.tuple #[.slice (some ⟨B,0,none⟩) g.spots.length g.spots.length,.int .i64 0])/\Below w.heap.size w w'/\Hid (∃ pt,w.heap.size <= B/\w'.rowIs B 3 g.spots.length (intRow pt)/\PartsOk g pt):=by
 have hok:=gcode_zero hc;obtain ⟨W0,hW0⟩:∃ W0,W0=w.alloc (.cells #[.slice so g.spots.length sc,.int .i64 g.init,.slice no g.next.length nc,.slice bo g.sets.length bc,.int .i64 g.many] 64):=⟨_,rfl⟩
 have hA:Below w.heap.size w W0:=by rw [hW0];exact (Below.refl _ _).alloc (Nat.le_refl _) _
 have hs0:w.heap.size < W0.heap.size:=by rw [hW0];simp
 have HD:Hid (∀ w1,Below W0.heap.size W0 w1->w1.cell? ⟨w.heap.size,0,none⟩=some (.slice so g.spots.length sc)/\w1.cell? ⟨w.heap.size,1,none⟩=some (.int .i64 g.init)/\w1.cell? ⟨w.heap.size,2,none⟩=some (.slice no g.next.length nc)/\w1.cell? ⟨w.heap.size,3,none⟩=some (.slice bo g.sets.length bc)/\w1.cell? ⟨w.heap.size,4,none⟩=some (.int .i64 g.many)):=fun w1 hb=>by
  have c:∀ j,w1.cell? ⟨w.heap.size,j,none⟩=W0.cell? ⟨w.heap.size,j,none⟩:=fun j=>hb.cell (p:=⟨w.heap.size,j,none⟩) hs0
  refine ⟨(c _).trans ?_,(c _).trans ?_,(c _).trans ?_,(c _).trans ?_,(c _).trans ?_⟩ <;> (rw [hW0];simp [go_sem])
 have hch:=scheck_any so no bo sc nc bc g W0 hz.spots hz.next hz.sets hz.rows (hV.below hA);rw [hc] at hch
 have HPa:Hid (∀ w1,Below W0.heap.size W0 w1->Calls Tryz.prog 51 #[.agg #[.slice so g.spots.length sc,.int .i64 g.init,.slice no g.next.length nc,.slice bo g.sets.length bc,.int .i64 g.many]] w1 fun e w'=>∃ B,e=.returned (.slice (some ⟨B,0,none⟩) g.spots.length g.spots.length)/\Below w1.heap.size w1 w'/\Hid (∃ pt,w1.heap.size <= B/\w'.rowIs B 3 g.spots.length (intRow pt)/\PartsOk g pt)):=fun w1 hb=>partsOf_gr so no bo sc nc bc g w1 hz ((hV.below hA).below hb) hok
 rw [hW0] at hch;have HW0:Hid (W0=w.alloc (.cells #[.slice so g.spots.length sc,.int .i64 g.init,.slice no g.next.length nc,.slice bo g.sets.length bc,.int .i64 g.many] 64)):=hW0;clear hV hz hc hok hW0;generalize PartsOk g=PO at *;generalize g.spots.length=sn at *;generalize g.next.length=nn at *;generalize g.sets.length=bn at *;generalize g.init=gi at *
 generalize g.many=gm at *
 go_enter Tryz.func29,Tryz.ntmps29
 go_wp2_with (first | (go_at_call 50;refine hch.mono ?_;rintro e w1 ⟨rfl,hb1⟩;rw [<- HW0.out] at hb1;obtain ⟨a0,a1,a2,a3,a4⟩:=HD.out w1 hb1;have hpa:=HPa.out w1 hb1) | (go_at_call 51;refine hpa.mono ?_;rintro e w2 ⟨B,rfl,hb2,HB⟩))
 go_ret2
 refine ⟨_,rfl,hA.trans ((hb1.trans (hb2.mono hb1.size)).mono hA.size),?_⟩
 obtain ⟨pt,h1,h2,h3⟩:=HB.out;exact ⟨pt,by have:=hb1.size;omega,h2,h3⟩
theorem or_nat0:∀ a,a < 64->∀ b,b < 64->bits BinOp.or IntKind.i64 ((a:Nat):Int) ((b:Nat):Int)=((a ||| b:Nat):Int):=by decide +kernel
theorem pow64 {m:Nat} (h:m <= 6):2 ^ m <= 64:=Nat.pow_le_pow_right (n:=2) (by decide) h
theorem GOk.sN {g:Gr} (h:GOk g) {x:Nat} (hx:x < g.spots.length):g.sets.getD x 0=(sN g x:Int)/\Go.Proofs.YtfnobbpbmelgnaaGreatDoor.sN g x < 2 ^ mN g:=by
 have h1:=(h.row x hx).1;unfold GSet top at h1;have h2:((2 ^ g.many.toNat:Nat):Int)=2 ^ g.many.toNat:=by simp
 unfold Go.Proofs.YtfnobbpbmelgnaaGreatDoor.sN mN;omega
theorem GOk.mN {g:Gr} (h:GOk g):mN g <= 6/\g.many=(Go.Proofs.YtfnobbpbmelgnaaGreatDoor.mN g:Int)/\top g=((2 ^ Go.Proofs.YtfnobbpbmelgnaaGreatDoor.mN g - 1:Nat):Int):=by
 have h1:=h.head.many0;have h2:=h.head.many6;have h3:((2 ^ g.many.toNat:Nat):Int)=2 ^ g.many.toNat:=by simp
 have h4:0 < 2 ^ g.many.toNat:=Nat.pow_pos (by decide)
 unfold Go.Proofs.YtfnobbpbmelgnaaGreatDoor.mN top;omega
def orTo (s pz:Nat->Nat) (p:Nat):Nat->Nat
 | 0=>0
 | k+1=>if pz k=p then orTo s pz p k ||| s k else orTo s pz p k
theorem orTo_lt {s pz:Nat->Nat} {p m n:Nat} (hs:∀ x,x < n->s x < 2 ^ m):∀ k,k <= n->orTo s pz p k < 2 ^ m
 | 0,_=>Nat.pow_pos (by decide)
 | k+1,hk=>by
  have ih:=orTo_lt (p:=p) (pz:=pz) hs k (by omega)
  unfold orTo
  split
  ·exact Nat.or_lt_two_pow ih (hs k (by omega))
  ·exact ih
theorem orTo_bit {s pz:Nat->Nat} {p i:Nat}:∀ k,(orTo s pz p k).testBit i=true↔∃ x,x < k/\pz x=p/\(s x).testBit i=true
 | 0=>by
  unfold orTo
  simp
 | k+1=>by
  have ih:=orTo_bit (s:=s) (pz:=pz) (p:=p) (i:=i) k;unfold orTo
  split
  ·rename_i hp
   rw [Nat.testBit_or,Bool.or_eq_true,ih]
   constructor
   ·rintro (⟨x,h1,h2⟩ | h)
    ·exact ⟨x,by omega,h2⟩
    ·exact ⟨k,by omega,hp,h⟩
   ·rintro ⟨x,h1,h2,h3⟩
    by_cases e:x=k
    ·subst e;exact .inr h3
    ·exact .inl ⟨x,by omega,h2,h3⟩
  ·rename_i hp
   rw [ih]
   constructor
   ·rintro ⟨x,h1,h2⟩;exact ⟨x,by omega,h2⟩
   ·rintro ⟨x,h1,h2,h3⟩
    by_cases e:x=k
    ·subst e;exact absurd h2 hp
    ·exact ⟨x,by omega,h2,h3⟩
theorem full_bits {a m:Nat} (ha:a < 2 ^ m):a=2 ^ m - 1↔∀ i,i < m->a.testBit i=true:=by
 constructor
 ·rintro rfl i hi
  rw [Nat.testBit_two_pow_sub_one];simp [hi]
 ·intro h
  refine Nat.eq_of_testBit_eq fun i=>?_
  rw [Nat.testBit_two_pow_sub_one]
  by_cases hi:i < m
  ·rw [h i hi];simp [hi]
  ·rw [Nat.testBit_lt_two_pow (Nat.lt_of_lt_of_le ha (Nat.pow_le_pow_right (by decide) (by omega)))];simp [hi]
open Classical in
noncomputable def lpB (nx:Nat->List Nat) (pz:Nat->Nat) (k q:Nat) (p:Nat):Bool:=decide ((∃ x,x < k/\pz x=p/\∃ y∈nx x,pz y=p)\/(pz k=p/\∃ j,j < q/\j < (nx k).length/\pz ((nx k).getD j 0)=p))
theorem lpB_zero (nx:Nat->List Nat) (pz:Nat->Nat) (p:Nat):lpB nx pz 0 0 p=false:=by
 unfold lpB
 exact decide_eq_false fun h=>by
  rcases h with ⟨x,hx,_⟩ | ⟨_,j,hj,_⟩ <;> omega
theorem lpB_next (nx:Nat->List Nat) (pz:Nat->Nat) (k p:Nat):lpB nx pz (k+1) 0 p=lpB nx pz k (nx k).length p:=by
 unfold lpB;rw [decide_eq_decide]
 constructor
 ·rintro (⟨x,hx,h1,y,h2,h3⟩ | ⟨_,j,hj,_⟩)
  ·by_cases e:x=k
   ·subst e
    obtain ⟨j,hj,rfl⟩:=List.getElem_of_mem h2;exact .inr ⟨h1,j,hj,hj,by rw [List.getD_eq_getElem?_getD,List.getElem?_eq_getElem hj];exact h3⟩
   ·exact .inl ⟨x,by omega,h1,y,h2,h3⟩
  ·omega
 ·rintro (⟨x,hx,h⟩ | ⟨h1,j,_,hj,h2⟩)
  ·exact .inl ⟨x,by omega,h⟩
  ·refine .inl ⟨k,by omega,h1,_,?_,h2⟩
   rw [List.getD_eq_getElem?_getD,List.getElem?_eq_getElem hj];exact List.getElem_mem _
theorem lpB_no {nx:Nat->List Nat} {pz:Nat->Nat} {k q p:Nat} (h:pz ((nx k).getD q 0)≠pz k):lpB nx pz k (q+1) p=lpB nx pz k q p:=by
 unfold lpB;rw [decide_eq_decide]
 constructor
 ·rintro (h1 | ⟨h1,j,h2,h3,h4⟩)
  ·exact .inl h1
  ·by_cases e:j=q
   ·subst e;exact absurd (h4.trans h1.symm) h
   ·exact .inr ⟨h1,j,by omega,h3,h4⟩
 ·rintro (h1 | ⟨h1,j,h2,h3,h4⟩)
  ·exact .inl h1
  ·exact .inr ⟨h1,j,by omega,h3,h4⟩
theorem lpB_yes {nx:Nat->List Nat} {pz:Nat->Nat} {k q p:Nat} (hq:q < (nx k).length) (h:pz ((nx k).getD q 0)=pz k):lpB nx pz k (q+1) p=if p=pz k then true else lpB nx pz k q p:=by
 by_cases e:p=pz k
 ·rw [if_pos e]
  unfold lpB;exact decide_eq_true (.inr ⟨e.symm,q,by omega,hq,h.trans e.symm⟩)
 ·rw [if_neg e]
  unfold lpB;rw [decide_eq_decide]
  constructor
  ·rintro (h1 | ⟨h1,_⟩)
   ·exact .inl h1
   ·exact absurd h1.symm e
  ·rintro (h1 | ⟨h1,_⟩)
   ·exact .inl h1
   ·exact absurd h1.symm e
def FairP (g:Gr) (pz:Nat->Nat) (p:Nat):Prop:=(∃ x,x < g.spots.length/\pz x=p/\∃ y∈nxt g x,pz y=p)/\∀ i,i < mN g->∃ x,x < g.spots.length/\pz x=p/\(sN g x).testBit i=true
open Classical in
noncomputable def fairB (g:Gr) (pz:Nat->Nat) (x:Nat):Bool:=decide (FairP g pz (pz x))
theorem fairB_is {g:Gr} (hg:GOk g) (pz:Nat->Nat) (x:Nat):fairB g pz x=(lpB (nxt g) pz g.spots.length 0 (pz x)&&decide (orTo (sN g) pz (pz x) g.spots.length=2 ^ mN g - 1)):=by
 have hlt:=orTo_lt (p:=pz x) (pz:=pz) (fun x hx=>(hg.sN hx).2) g.spots.length (Nat.le_refl _)
 unfold fairB lpB;rw [Bool.eq_iff_iff,Bool.and_eq_true];simp only [decide_eq_true_eq];rw [full_bits hlt];unfold FairP
 constructor
 ·rintro ⟨h1,h2⟩
  exact ⟨.inl h1,fun i hi=>(orTo_bit _).2 (h2 i hi)⟩
 ·rintro ⟨h1 | ⟨_,j,hj,_⟩,h2⟩
  ·exact ⟨h1,fun i hi=>(orTo_bit _).1 (h2 i hi)⟩
  ·omega
structure FsSt (W0 wr:World) (s0 n:Nat) (nx:Nat->List Nat) (s pz:Nat->Nat) (k q kk:Nat):Prop where
 below:Below s0 W0 wr
 size:s0+2 <= wr.heap.size
 loops:wr.rowIs s0 4 n (fun p=>.bool (lpB nx pz k q p))
 sets:wr.rowIs (s0+1) 3 n (fun p=>.int .i64 (orTo s pz p kk:Int))
theorem FsSt.later {W0 wr w':World} {s0 n:Nat} {nx:Nat->List Nat} {s pz:Nat->Nat} {k q kk:Nat} (h:FsSt W0 wr s0 n nx s pz k q kk) (hb:Below (s0+2) wr w'):FsSt W0 w' s0 n nx s pz k q kk:=
 ⟨h.below.trans (hb.mono (by omega)),Nat.le_trans h.size hb.size,h.loops.of_block (hb.block _ (by omega)),h.sets.of_block (hb.block _ (by omega))⟩
theorem FsSt.drew {W0 wr:World} {s0 n:Nat} {nx:Nat->List Nat} {s pz:Nat->Nat} {k q kk:Nat} (h:FsSt W0 wr s0 n nx s pz k q kk):FsSt W0 wr.drew s0 n nx s pz k q kk:=⟨h.below.drew,h.size,h.loops,h.sets⟩
theorem FsSt.putSets {W0 wr:World} {s0 n:Nat} {nx:Nat->List Nat} {s pz:Nat->Nat} {k:Nat} (h:FsSt W0 wr s0 n nx s pz k 0 k):FsSt W0 (wr.setCell ⟨s0+1,pz k,none⟩ (.int .i64 ((orTo s pz (pz k) k ||| s k:Nat):Int))) s0 n nx s pz k 0 (k+1):=by
 refine ⟨h.below.setCell (by show s0 <= s0+1;omega) _,by simpa using h.size,h.loops.setOther (by show s0≠s0+1;omega) _,(h.sets.set (pz k) _).congr fun p _=>?_⟩
 by_cases e:p=pz k
 ·subst e;simp [orTo]
 ·rw [if_neg e];simp [orTo,Ne.symm e]
theorem FsSt.next {W0 wr:World} {s0 n:Nat} {nx:Nat->List Nat} {s pz:Nat->Nat} {k kk:Nat} (h:FsSt W0 wr s0 n nx s pz k (nx k).length kk):FsSt W0 wr s0 n nx s pz (k+1) 0 kk:=
 ⟨h.below,h.size,h.loops.congr fun p _=>by rw [lpB_next],h.sets⟩
theorem FsSt.no {W0 wr:World} {s0 n:Nat} {nx:Nat->List Nat} {s pz:Nat->Nat} {k q kk:Nat} (h:FsSt W0 wr s0 n nx s pz k q kk) (hp:pz ((nx k).getD q 0)≠pz k):FsSt W0 wr s0 n nx s pz k (q+1) kk:=
 ⟨h.below,h.size,h.loops.congr fun p _=>by rw [lpB_no hp],h.sets⟩
theorem FsSt.yes {W0 wr:World} {s0 n:Nat} {nx:Nat->List Nat} {s pz:Nat->Nat} {k q kk:Nat} (h:FsSt W0 wr s0 n nx s pz k q kk) (hq:q < (nx k).length) (hp:pz ((nx k).getD q 0)=pz k):FsSt W0 (wr.setCell ⟨s0,pz k,none⟩ (.bool true)) s0 n nx s pz k (q+1) kk:=by
 refine ⟨h.below.setCell (Nat.le_refl _) _,by simpa using h.size,(h.loops.set (pz k) _).congr fun p _=>?_,h.sets.setOther (by show s0+1≠s0;omega) _⟩
 rw [lpB_yes hq hp]
 by_cases e:p=pz k
 ·rw [if_pos e,if_pos e]
 ·rw [if_neg e,if_neg e]
theorem fsSt_zero (W0:World) (n:Nat) (nx:Nat->List Nat) (s pz:Nat->Nat):FsSt W0 ((W0.alloc (.cells (madeCells #[.bool false] n) 4)).alloc (.cells (madeCells #[.int .i64 0] n) 3)) W0.heap.size n nx s pz 0 0 0:=by
 refine ⟨((Below.refl _ _).alloc (Nat.le_refl _) _).alloc (by simp) _,by simp,?_,?_⟩
 ·exact ((World.rowIs_made W0 (.bool false) n 4).alloc _).congr fun p _=>by rw [lpB_zero]
 ·have:=World.rowIs_made (W0.alloc (.cells (madeCells #[.bool false] n) 4)) (.int .i64 0) n 3
  rw [World.size_alloc] at this;exact this
theorem fairSpots_any (so no bo:Option Addr) (sc nc bc B:Nat) (g:Gr) (pz:Nat->Nat) (w:World) (hz:GrLe g) (hV:GraphV w (.slice so g.spots.length sc) (.slice no g.next.length nc) (.slice bo g.sets.length bc) g) (hok:GOk g) (hP:w.rowIs B 3 g.spots.length (natRow pz)) (hpz:∀ x,x < g.spots.length->pz x < g.spots.length) :
  Calls Tryz.prog 30 #[.agg #[.slice so g.spots.length sc,.int .i64 g.init,.slice no g.next.length nc,.slice bo g.sets.length bc,.int .i64 g.many],.slice (some ⟨B,0,none⟩) g.spots.length g.spots.length] w fun e w'=>∃ Bf,e=.returned (.slice (some ⟨Bf,0,none⟩) g.spots.length g.spots.length)/\Below w.heap.size w w'/\Hid (w.heap.size <= Bf/\w'.rowIs Bf 4 g.spots.length (fun x=>.bool (fairB g pz x))):=by
 have hn:=hok.head.n;have hmk1:=run_make_row' (P:=Tryz.prog) 100 4 (.bool false) 1 Tryz.underlying100 infoBool rfl .i64 .i64 g.spots.length (by omega) (by omega)
 have hmk2:=run_make_row' (P:=Tryz.prog) 36 3 (.int .i64 0) 8 Tryz.underlying36 infoInt rfl .i64 .i64 g.spots.length (by omega) (by omega)
 obtain ⟨W0,hW0⟩:∃ W0,W0=w.alloc (.cells #[.slice so g.spots.length sc,.int .i64 g.init,.slice no g.next.length nc,.slice bo g.sets.length bc,.int .i64 g.many] 64):=⟨_,rfl⟩
 have hA:Below w.heap.size w W0:=by rw [hW0];exact (Below.refl _ _).alloc (Nat.le_refl _) _
 have hs0:W0.heap.size=w.heap.size+1:=by rw [hW0];simp
 have HD:Hid (∀ w1,Below (w.heap.size+1) W0 w1->Below w.heap.size w w1/\w1.rowIs B 3 g.spots.length (natRow pz)/\w1.cell? ⟨w.heap.size,0,none⟩=some (.slice so g.spots.length sc)/\w1.cell? ⟨w.heap.size,1,none⟩=some (.int .i64 g.init)/\w1.cell? ⟨w.heap.size,2,none⟩=some (.slice no g.next.length nc)/\w1.cell? ⟨w.heap.size,3,none⟩=some (.slice bo g.sets.length bc)/\w1.cell? ⟨w.heap.size,4,none⟩=some (.int .i64 g.many)):=fun w1 hb=>by
  have c:∀ j,w1.cell? ⟨w.heap.size,j,none⟩=W0.cell? ⟨w.heap.size,j,none⟩:=fun j=>hb.cell (p:=⟨w.heap.size,j,none⟩) (by show w.heap.size < w.heap.size+1;omega)
  have hb2:=hA.trans (hb.mono (by omega))
  refine ⟨hb2,hP.of_block (hb2.block B hP.lt),(c _).trans ?_,(c _).trans ?_,(c _).trans ?_,(c _).trans ?_,(c _).trans ?_⟩ <;> (rw [hW0];simp [go_sem])
 have HRow:Hid (NextRows w no g.spots.length (nxt g)):=graph_rows hok hV;have HNX:Hid (∀ i,i < g.spots.length->∀ k∈nxt g i,k < g.spots.length):=fun i hi k hk=>nxt_lt hok hi hk
 have HXL:Hid (∀ i,i < g.spots.length->(nxt g i).length <= 140737488355328):=fun i hi=>by rw [nxt_length];exact hz.rows i (by rw [hok.head.next];exact hi)
 have HSet:Hid (∀ k,k < g.spots.length->∃ b off,bo=some ⟨b,off,none⟩/\b < w.heap.size/\w.cell? ⟨b,off+k,none⟩=some (.int .i64 (sN g k:Int))):=fun k hk=>by
  obtain ⟨b,off,e,hb,hc⟩:=hV.sets.num (i:=k) (by rw [hok.head.sets];exact hk)
  exact ⟨b,off,e,hb,by rw [hc,(hok.sN hk).1]⟩
 have HOr:Hid (∀ k,k < g.spots.length->bits BinOp.or IntKind.i64 (orTo (sN g) pz (pz k) k:Int) (sN g k:Int)=((orTo (sN g) pz (pz k) k ||| sN g k:Nat):Int)):=fun k hk=>by
  have h6:=pow64 hok.mN.1;have h1:=orTo_lt (p:=pz k) (pz:=pz) (fun x hx=>(hok.sN hx).2) k (by omega)
  have h2:=(hok.sN hk).2;exact or_nat0 _ (by omega) _ (by omega)
 have HAll:Hid (∀ w1,Calls Tryz.prog 52 #[.agg #[.slice so g.spots.length sc,.int .i64 g.init,.slice no g.next.length nc,.slice bo g.sets.length bc,.int .i64 g.many]] w1 fun e w'=>e=.returned (.int .i64 ((2 ^ mN g - 1:Nat):Int))/\Below w1.heap.size w1 w'):=fun w1=>by
  have:=allSets_any so no bo g.spots.length sc g.next.length nc g.sets.length bc g w1 hok.head.many0 hok.head.many6;rw [hok.mN.2.2] at this;exact this
 have HFair:Hid (∀ x,fairB g pz x=(lpB (nxt g) pz g.spots.length 0 (pz x)&&decide (orTo (sN g) pz (pz x) g.spots.length=2 ^ mN g - 1))):=fairB_is hok pz
 have HPz:Hid (∀ x,x < g.spots.length->pz x < g.spots.length):=hpz
 have H0:Hid (FsSt W0 ((W0.alloc (.cells (madeCells #[.bool false] g.spots.length) 4)).alloc (.cells (madeCells #[.int .i64 0] g.spots.length) 3)) (w.heap.size+1) g.spots.length (nxt g) (sN g) pz 0 0 0):=by rw [<- hs0];exact fsSt_zero W0 _ _ _ _
 have hgn:=hok.head.next;generalize fairB g pz=FB at *;generalize nxt g=nx at *;generalize sN g=s at *;generalize 2 ^ mN g - 1=tp at *;rw [hgn] at hW0 HD HAll ⊢;have hgs:=hok.head.sets;rw [hgs] at hW0 HD HAll ⊢;clear hV hok hz hP hpz hgn hgs hA;generalize g.spots.length=n at *;generalize g.init=gi at *;generalize g.many=gm at *
 go_enter Tryz.func30,Tryz.ntmps30
 go_wp2_with fail
 rw [<- hW0];clear hW0;generalize (W0.alloc (.cells (madeCells #[.bool false] n) 4)).alloc (.cells (madeCells #[.int .i64 0] n) 3)=W3 at H0 ⊢;clear hs0
 go_loopw [22] (fun i wr=>∃ k:Nat,k <= n/\i=.int .i64 k/\Hid (FsSt W0 wr (w.heap.size+1) n nx s pz k 0 k)) (fun i _=>n - (intOf i).toNat)
 case atStart=>exact ⟨0,Nat.zero_le _,rfl,H0⟩
 case round=>
  obtain ⟨k,hk,rfl,HK⟩:=hrel;obtain ⟨hbw,hrB,d0,d1,d2,d3,d4⟩:=HD.out wr HK.out.below
  by_cases hlt:k < n
  ·have hpk:=HPz.out k hlt
   have e0:wr.cell? ⟨B,k,none⟩=some (.int .i64 (pz k:Int)):=hrB.cell hlt;have e1:wr.cell? ⟨w.heap.size+1+1,pz k,none⟩=some (.int .i64 (orTo s pz (pz k) k:Int)):=HK.out.sets.cell hpk;have f1:=HK.out.sets.frozen (pz k);obtain ⟨sb,soff,rfl,hsb,hcs⟩:=HSet.out k hlt;have e2:=(hbw.cell (p:=⟨sb,soff+k,none⟩) hsb).trans hcs;have hor:=HOr.out k hlt
   have H5:Hid (FsSt W0 (wr.setCell ⟨w.heap.size+1+1,pz k,none⟩ (.int .i64 ((orTo s pz (pz k) k ||| s k:Nat):Int))).drew (w.heap.size+1) n nx s pz k 0 (k+1)):=HK.out.putSets.drew;rw [<- hor] at H5;obtain ⟨p,hp⟩:∃ p,p=pz k:=⟨_,rfl⟩
   have HPk:Hid (p=pz k):=hp;rw [<- hp] at hpk e0 e1 f1 H5;clear hor hp hcs HK;generalize orTo s pz p k=x at *;generalize s k=y at *
   go_upto_region 6 with fail
   go_region
   generalize (wr.setCell ⟨w.heap.size+1+1,p,none⟩ (.int .i64 (bits BinOp.or IntKind.i64 (x:Int) (y:Int)))).drew=w5 at H5 ⊢;obtain ⟨hbw5,hrB5,g0,g1,g2,g3,g4⟩:=HD.out w5 H5.out.below;obtain ⟨nb,noff,rfl,hnb,uo,uc,hcu0,hnv0⟩:=HRow.out k hlt;have hcu:=(hbw5.cell (p:=⟨nb,noff+k,none⟩) hnb).trans hcu0;have hxl:=HXL.out k hlt
   have HNv:Hid (NatsV w (.slice uo (nx k).length uc) (nx k)):=hnv0;obtain ⟨ln,hln⟩:∃ ln,ln=(nx k).length:=⟨_,rfl⟩
   have HLN:Hid (ln=(nx k).length):=hln;rw [<- hln] at hcu hxl HNv;clear hcu0 hnv0 hln d0 d1 d2 d3 d4 e0 e1 e2 f1 hrB hbw
   go_wp2_with fail
   generalize wr=wo at *
   go_loopw [44] (fun i wr=>∃ q:Nat,q <= ln/\i=.int .i64 q/\Hid (FsSt W0 wr (w.heap.size+1) n nx s pz k q (k+1))) (fun i _=>ln - (intOf i).toNat)
   case atStart=>exact ⟨0,Nat.zero_le _,rfl,H5⟩
   case round=>
    obtain ⟨q,hq,rfl,HQ⟩:=hrel;obtain ⟨hbwq,hrBq,_⟩:=HD.out wr HQ.out.below
    by_cases hlq:q < ln
    ·have hql:q < (nx k).length:=by rw [<- HLN.out];exact hlq
     obtain ⟨ub,uoff,rfl,hub,hcy0⟩:=(HNv.out.below hbwq).num (i:=q) hql;have hyn:(nx k).getD q 0 < n:=HNX.out k hlt _ (by rw [List.getD_eq_getElem?_getD,List.getElem?_eq_getElem hql];exact List.getElem_mem _)
     have e5:wr.cell? ⟨B,(nx k).getD q 0,none⟩=some (.int .i64 (pz ((nx k).getD q 0):Int)):=hrBq.cell hyn
     have HYes:Hid (pz ((nx k).getD q 0)=p->FsSt W0 (wr.setCell ⟨w.heap.size+1,p,none⟩ (.bool true)) (w.heap.size+1) n nx s pz k (q+1) (k+1)):=fun h=>by
      rw [HPk.out] at h ⊢;exact HQ.out.yes hql h
     have HNo:Hid (pz ((nx k).getD q 0)≠p->FsSt W0 wr (w.heap.size+1) n nx s pz k (q+1) (k+1)):=fun h=>HQ.out.no (by rw [<- HPk.out];exact h)
     have l1:=HQ.out.loops.cell hpk;have l2:=HQ.out.loops.frozen p;generalize lpB nx pz k q p=old at *;generalize (nx k).getD q 0=y2 at *;generalize pz y2=p2 at *;clear HQ hrBq hbwq
     by_cases hpp:p2=p
     ·subst hpp
      have HN:=HYes.out rfl;have HN':Hid (FsSt W0 (wr.setCell ⟨w.heap.size+1,p2,none⟩ (.bool true)) (w.heap.size+1) n nx s pz k (q+1) (k+1)):=HN;clear HN HYes HNo
      go_wp2_with fail
      go_roundw
      case rel=>exact ⟨q+1,hlq,by go_num,HN'⟩
      case measure=>simp [intOf];omega
     ·have hpp2:¬ (p2:Int)=(p:Int):=by omega
      have HN':Hid (FsSt W0 wr (w.heap.size+1) n nx s pz k (q+1) (k+1)):=HNo.out hpp;clear HYes HNo
      go_wp2_with fail
      go_roundw
      case rel=>exact ⟨q+1,hlq,by go_num,HN'⟩
      case measure=>simp [intOf];omega
    ·have HN':Hid (FsSt W0 wr (w.heap.size+1) n nx s pz (k+1) 0 (k+1)):=by
      have h:=HQ.out;have e:q=(nx k).length:=by rw [<- HLN.out];omega
      rw [e] at h;exact h.next
     clear HQ hrBq hbwq
     go_wp2_with fail
     go_roundw
     case rel=>exact ⟨k+1,hlt,by go_num,HN'⟩
     case measure=>simp [intOf];omega
  ·obtain rfl:k=n:=by omega
   have HE:Hid (FsSt W0 wr (w.heap.size+1) k nx s pz k 0 k):=HK;have hsz:=HK.out.size;have hr0:=World.rowIs_made wr (.bool false) k 4;have HR0:Hid ((wr.alloc (.cells (madeCells #[.bool false] k) 4)).rowIs wr.heap.size 4 k (fun j=>.bool (if j < 0 then FB j else false))):=hr0.congr fun j _=>by simp
   have HB0:Hid (Below wr.heap.size wr (wr.alloc (.cells (madeCells #[.bool false] k) 4))):=(Below.refl _ _).alloc (Nat.le_refl _) _;clear hr0 d0 d1 d2 d3 d4 hrB HK
   go_wp2_with fail
   generalize wr.alloc (.cells (madeCells #[.bool false] k) 4)=W5 at HR0 HB0 ⊢;generalize wr=wE at *
   go_loopw [64] (fun i wr=>∃ q:Nat,q <= k/\i=.int .i64 q/\Hid (wr.rowIs wE.heap.size 4 k (fun j=>.bool (if j < q then FB j else false)))/\Hid (Below wE.heap.size wE wr)) (fun i _=>k - (intOf i).toNat)
   case atStart=>exact ⟨0,Nat.zero_le _,rfl,HR0,HB0⟩
   case round=>
    obtain ⟨q,hq,rfl,HQ,HBq⟩:=hrel;have hFS:=HE.out.later (HBq.out.mono hsz);obtain ⟨hbwq,hrBq,d0,d1,d2,d3,d4⟩:=HD.out wr hFS.below
    by_cases hlq:q < k
    ·have hpq:=HPz.out q hlq
     have e0:wr.cell? ⟨B,q,none⟩=some (.int .i64 (pz q:Int)):=hrBq.cell hlq;have e1:wr.cell? ⟨w.heap.size+1,pz q,none⟩=some (.bool (lpB nx pz k 0 (pz q))):=hFS.loops.cell hpq;have e2:wr.cell? ⟨w.heap.size+1+1,pz q,none⟩=some (.int .i64 (orTo s pz (pz q) k:Int)):=hFS.sets.cell hpq;have l1:=HQ.out.cell hlq;have l2:=HQ.out.frozen q
     have HF:Hid (FB q=(lpB nx pz k 0 (pz q)&&decide (orTo s pz (pz q) k=tp))):=HFair.out q
     have HN:Hid (∀ w9,w9.rowIs wE.heap.size 4 k (fun j=>.bool (if j < q then FB j else false))->Below wE.heap.size wE w9->(w9.setCell ⟨wE.heap.size,q,none⟩ (.bool (FB q))).rowIs wE.heap.size 4 k (fun j=>.bool (if j < q+1 then FB j else false))/\Below wE.heap.size wE (w9.setCell ⟨wE.heap.size,q,none⟩ (.bool (FB q)))):=fun w9 h hb=>by
      refine ⟨(h.set q (.bool (FB q))).congr fun j _=>?_,hb.setCell (Nat.le_refl _) _⟩
      by_cases hj:j=q
      ·subst hj;simp
      ·rw [if_neg hj]
       by_cases hjq:j < q
       ·rw [if_pos hjq,if_pos (by omega)]
       ·rw [if_neg hjq,if_neg (by omega)]
     have hwl:wE.heap.size < wr.heap.size:=HQ.out.lt;generalize (if q < q then FB q else false)=old at *
     generalize pz q=p at *;generalize orTo s pz p k=x at *
     cases hb:lpB nx pz k 0 p with
     | false=>
      rw [hb] at e1 HF;have HFq:Hid (FB q=false):=HF.out.trans (by simp)
      rw [HFq.out] at HN;clear hFS HF hb
      go_upto_region 18 with fail
      go_region
      go_wp2_with fail
      have HX:=HN.out wr HQ.out HBq.out;have HX1:Hid ((wr.setCell ⟨wE.heap.size,q,none⟩ (.bool false)).drew.rowIs wE.heap.size 4 k (fun j=>.bool (if j < q+1 then FB j else false))):=HX.1
      have HX2:Hid (Below wE.heap.size wE (wr.setCell ⟨wE.heap.size,q,none⟩ (.bool false)).drew):=HX.2.drew
      go_roundw
      case rel=>exact ⟨q+1,hlq,by go_num,HX1,HX2⟩
      case measure=>simp [intOf];omega
     | true=>
      rw [hb] at e1 HF;have HFq:Hid (FB q=decide (x=tp)):=HF.out.trans (by simp)
      have hS:∀ w',Below wE.heap.size wr w'->w'.cell? ⟨w.heap.size,0,none⟩=some (.slice so k sc)/\w'.cell? ⟨w.heap.size,1,none⟩=some (.int .i64 gi)/\w'.cell? ⟨w.heap.size,2,none⟩=some (.slice no k nc)/\w'.cell? ⟨w.heap.size,3,none⟩=some (.slice bo k bc)/\w'.cell? ⟨w.heap.size,4,none⟩=some (.int .i64 gm)/\w'.cell? ⟨w.heap.size+1,p,none⟩=some (.bool true)/\w'.cell? ⟨w.heap.size+1+1,p,none⟩=some (.int .i64 (x:Int)):=fun w' hb=>by
       have c:∀ b j,b < wE.heap.size->w'.cell? ⟨b,j,none⟩=wr.cell? ⟨b,j,none⟩:=fun b j h=>hb.cell (p:=⟨b,j,none⟩) h
       exact ⟨(c _ _ (by omega)).trans d0,(c _ _ (by omega)).trans d1,(c _ _ (by omega)).trans d2,(c _ _ (by omega)).trans d3,(c _ _ (by omega)).trans d4,(c _ _ (by omega)).trans e1,(c _ _ (by omega)).trans e2⟩
      have hal:=HAll.out wr.drew;clear hFS HF hb
      go_upto_region 18 with fail
      go_region_held3 (fun w'=>w'.cell? ⟨w.heap.size,0,none⟩=some (.slice so k sc)/\w'.cell? ⟨w.heap.size,1,none⟩=some (.int .i64 gi)/\w'.cell? ⟨w.heap.size,2,none⟩=some (.slice no k nc)/\w'.cell? ⟨w.heap.size,3,none⟩=some (.slice bo k bc)/\w'.cell? ⟨w.heap.size,4,none⟩=some (.int .i64 gm)/\w'.cell? ⟨w.heap.size+1,p,none⟩=some (.bool true)/\w'.cell? ⟨w.heap.size+1+1,p,none⟩=some (.int .i64 (x:Int)))
       (exact hS _ (by first | exact (Below.refl _ _).drew | exact Below.refl _ _ | exact hbx | exact hbx.setCell (Nat.le_refl _) _))
       ((go_at_call 52;refine hal.mono ?_;rintro e w4 ⟨rfl,hb4⟩;have hbx:Below wE.heap.size wr w4:=((Below.refl _ _).drew).trans (hb4.mono (Nat.le_of_lt hwl));have l14:=(hb4.cell (p:=⟨wE.heap.size,q,none⟩) hwl).trans l1;have l24:=(hb4.frozen (p:=⟨wE.heap.size,q,none⟩) hwl).trans l2))
      go_wp2_with fail
      have e9:((x:Int) == (tp:Int))=FB q:=by
       rw [HFq.out]
       show decide ((x:Int)=(tp:Int))=_
       rw [decide_eq_decide];omega
      have HX:=HN.out w4 (row_laterG HQ.out ⟨hb4.os,hb4.tape,hb4.output,hb4.size,hb4.block⟩) (HBq.out.trans hbx);rw [<- e9] at HX;have HX1:Hid _:=HX.1;have HX2:Hid _:=HX.2
      go_roundw
      case rel=>exact ⟨q+1,hlq,by go_num,HX1,HX2⟩
      case measure=>simp [intOf];omega
    ·obtain rfl:q=k:=by omega
     have HR:Hid (wr.rowIs wE.heap.size 4 q (fun x=>.bool (FB x))):=HQ.out.congr fun j hj=>by rw [if_pos hj]
     have hle:w.heap.size <= wE.heap.size:=by omega
     clear hFS
     go_wp2_with fail
     go_ret
     exact ⟨_,rfl,hbwq,hle,HR.out⟩
theorem Mut.lt {g:Gr} (hg:GOk g) {x y:Nat} (hx:x < g.spots.length) (h:Mut g x y):y < g.spots.length:=h.1.lt (fun _ hi _ hk=>nxt_lt hg hi hk) hx
def PzOk (g:Gr) (pz:Nat->Nat):Prop:=∀ x,x < g.spots.length->PartIs (nxt g) x (pz x:Int)
theorem PzOk.iff {g:Gr} {pz:Nat->Nat} (h:PzOk g pz) {x y:Nat} (hx:x < g.spots.length) (hy:y < g.spots.length):pz x=pz y↔Mut g x y:=by
 obtain ⟨z,h1,h2,h3,h4⟩:=h x hx;obtain ⟨z',g1,g2,g3,g4⟩:=h y hy
 constructor
 ·intro e
  have:z=z':=by omega
  subst this;exact ⟨h2.trans g3,g2.trans h3⟩
 ·rintro ⟨a,b⟩
  have e1:=h4 z' (a.trans g2) (g3.trans b);have e2:=g4 z (b.trans h2) (h3.trans a);omega
theorem PzOk.le {g:Gr} {pz:Nat->Nat} (h:PzOk g pz) {x:Nat} (hx:x < g.spots.length):pz x <= x:=by
 obtain ⟨z,h1,h2,h3,h4⟩:=h x hx;have:=h4 x .stay .stay;omega
theorem PartsOk.pz {g:Gr} {pt:Nat->Int} (h:PartsOk g pt):PzOk g (fun x=>(pt x).toNat)/\∀ x,x < g.spots.length->pt x=((pt x).toNat:Int):=by
 have h1:∀ x,x < g.spots.length->pt x=((pt x).toNat:Int):=fun x hx=>by
  obtain ⟨z,h1,_⟩:=h x hx;omega
 exact ⟨fun x hx=>by have:=h x hx;rw [h1 x hx] at this;exact this,h1⟩
open Classical in
theorem fairB_x {g:Gr} (hg:GOk g) {pz:Nat->Nat} (h:PzOk g pz) {x:Nat} (hx:x < g.spots.length):fairB g pz x=decide (FairX g x):=by
 unfold fairB;rw [decide_eq_decide]
 constructor
 ·rintro ⟨⟨a,ha,hp,b,hb,hq⟩,h2⟩
  have hbl:=nxt_lt hg ha hb;refine ⟨⟨a,b,(h.iff hx ha).1 hp.symm,(h.iff hx hbl).1 hq.symm,hb⟩,fun i hi=>?_⟩
  obtain ⟨y,hy,h3,h4⟩:=h2 i hi;exact ⟨y,(h.iff hx hy).1 h3.symm,h4⟩
 ·rintro ⟨⟨a,b,h1,h2,h3⟩,h4⟩
  have hal:=h1.lt hg hx;have hbl:=h2.lt hg hx;refine ⟨⟨a,hal,((h.iff hx hal).2 h1).symm,b,h3,((h.iff hx hbl).2 h2).symm⟩,fun i hi=>?_⟩
  obtain ⟨y,hy,h5⟩:=h4 i hi;have hyl:=hy.lt hg hx;exact ⟨y,hyl,((h.iff hx hyl).2 hy).symm,h5⟩
theorem find_none {p:Nat->Bool} {n:Nat} (hno:∀ j,j < n->p j=false):(List.range n).find? p=none:=by
 rw [List.find?_eq_none]
 intro a ha;rw [hno a (List.mem_range.1 ha)];simp
open Classical in
theorem fair_none {g:Gr} (hno:∀ j,j < g.spots.length->¬ (ReachX g j/\FairX g j)):fairV g=0/\fairC g=11:=by
 have e:fairR g=none:=find_none (fun j hj=>decide_eq_false (hno j hj))
 unfold fairV fairC;rw [e];exact ⟨rfl,rfl⟩
end Go.Proofs.YtfnobbpbmelgnaaGreatDoor
namespace Go.Proofs.YtfnobbpbmelgnaaGreatDoor
open Go.Shelf Go.RowKit
set_option maxHeartbeats 6400000
set_option maxRecDepth 20000
def laysRev_ren:Go.Shelf.Ren:=⟨fun | 112=>54 | n=>n,fun | 28=>36 | 3=>3 | 4=>4 | 0=>0 | n=>n,fun | n=>n⟩
theorem laysRev:Go.Proofs.Lays.n112 Tryz.prog laysRev_ren:={
 mixed:=by kernel_rfl
 f112:=Tryz.func54.trans (congrArg some (by kernel_rfl))
 t0:=Tryz.underlying0
 a0:=Tryz.isAgg0
 z0:=Tryz.sizeOf0
 v0:=Tryz.zeroValue0
 t3:=Tryz.underlying3
 a3:=Tryz.isAgg3
 z3:=Tryz.sizeOf3
 v3:=Tryz.zeroValue3
 t4:=Tryz.underlying4
 a4:=Tryz.isAgg4
 z4:=Tryz.sizeOf4
 v4:=Tryz.zeroValue4
 t28:=Tryz.underlying36
 a28:=Tryz.isAgg36
 z28:=Tryz.sizeOf36
 v28:=Tryz.zeroValue36}
open Go.Lib Go.Sort in
theorem slices_Reverse_int (blk off cap:Nat) (zs:List Int) (w:World) (hH:Holds (Value.int .i64) w blk off zs.toArray) (hsz:zs.length <= 9223372036854775807) :
  Calls Tryz.prog 54 #[.slice (some ⟨blk,off,none⟩) zs.length cap] w fun e w'=>e=.returned (.tuple #[])/\∃ n,w'=putRow (Value.int .i64) (Sort.ahead w n) blk off zs.reverse.toArray:=Any.slices_Reverse_int laysRev blk off cap zs w hH hsz
open Go.Sort in
theorem reverse_own (g cap base:Nat) (l:List Nat) (w:World) (hz:l.length <= 100000) (ho:w.ownsRow base 3 1 (.slice (some ⟨g,0,none⟩) l.length cap) l.length (nvals l)) :
  Calls Tryz.prog 54 #[.slice (some ⟨g,0,none⟩) l.length cap] w fun e w'=>e=.returned (.tuple #[])/\w.grownBy w' (some g)/\w'.ownsRow base 3 1 (.slice (some ⟨g,0,none⟩) l.length cap) l.length (nvals l.reverse):=by
 obtain ⟨zs,hzs⟩:∃ zs:List Int,zs=l.map (fun x:Nat=>(x:Int)):=⟨_,rfl⟩
 have hl:zs.length=l.length:=by rw [hzs];simp
 have e1:nvals l=zs.map (Value.int .i64):=by rw [hzs,nvals,List.map_map];rfl
 have e2:nvals l.reverse=zs.reverse.map (Value.int .i64):=by rw [hzs,nvals,<- List.map_reverse,List.map_map];rfl
 rw [e1] at ho;rw [e2];rw [<- hl] at ho hz ⊢;obtain ⟨g',cap',hv,hbg,hlt,hn,hm,hl2,hH⟩:=Lib.holds_of_ownsRow ho (by simp)
 injection hv with h1 h2 h3
 injection h1 with h1
 injection h1 with h1
 subst h1 h3;refine (slices_Reverse_int g 0 cap zs w hH (by omega)).mono fun e w' ⟨he,q,hw⟩=>⟨he,?_,?_⟩
 ·rw [hw]
  refine ⟨rfl,rfl,rfl,by simp [putRow,mapBlock,Sort.ahead],fun k _ hne=>?_⟩
  have:g≠k:=fun e=>hne (by rw [e])
  simp [putRow,mapBlock,Sort.ahead,Array.getElem?_modify,this]
 ·rw [hw]
  have h:=Lib.ownsRow_putRow (q:=q) (k:=zs.length) (ys:=zs.reverse) ho (by simp) (Nat.le_refl _)
  rw [List.take_of_length_le (by simp)] at h
  exact h
theorem reverse_none (ao:Option Addr) (c:Nat) (w:World) :
  Calls Tryz.prog 54 #[.slice ao 0 c] w fun e w'=>e=.returned (.tuple #[])/\w'=w:=by
 go_enter Tryz.func54,Tryz.ntmps54
 go_wp2_with fail
 go_loopw [2,3] (fun i j wr=>i=.int .i64 0/\j=.int .i64 (-1)/\wr=w) (fun _ _ _=>0)
 case atStart=>exact ⟨rfl,rfl,rfl⟩
 case round=>
  obtain ⟨rfl,rfl,rfl⟩:=hrel
  go_wp2_with fail
  go_end0
  exact ⟨rfl,rfl⟩
end Go.Proofs.YtfnobbpbmelgnaaGreatDoor
namespace Go.Proofs.YtfnobbpbmelgnaaGreatDoor
open Go.ChangeShapes Go.WideShapes Go.ChangeAt Go.RowKit Go.Deep Go.Maps
open Terms
set_option maxHeartbeats 6400000
set_option maxRecDepth 20000
structure WayOk (n:Nat) (ins want:Nat->Bool) (nx:Nat->List Nat) (bs l:List Nat):Prop where
 ne:l≠[]
 head:l.getD 0 0∈bs
 trail:Trail nx l
 last:want (l.getD (l.length - 1) 0)=true
 ins:∀ x∈l,ins x=true/\x < n
 len:l.length <= n
def NoWay (ins want:Nat->Bool) (nx:Nat->List Nat) (bs:List Nat):Prop:=∀ f∈bs,ins f=true->∀ x,Way (fun i=>(nx i).filter ins) f x->want x=false
def WayPost (n:Nat) (ins want:Nat->Bool) (nx:Nat->List Nat) (bs l:List Nat):Prop:=(l=[]/\NoWay ins want nx bs)\/WayOk n ins want nx bs l
theorem Through.noWay {n:Nat} {ins want:Nat->Bool} {nx:Nat->List Nat} {bs:List Nat} {L:Met} (h:Through ins want nx bs L L.length) (hl:LOk n ins nx bs L):NoWay ins want nx bs:=fun f hf hi x hx=>by
 obtain ⟨h1,h2,h3⟩:=h.all hl;refine h3 x (Way.closed (S:=fun y=>y∈keys L) (fun y hy k hk=>?_) (h1 f hf hi) hx)
 obtain ⟨h4,h5⟩:=List.mem_filter.1 hk;exact h2 y hy k h4 h5
theorem fromOf_at {L:Met} (h:(keys L).Nodup) {i:Nat} (hi:i < L.length):fromOf L (L.getD i (0,0)).1=(L.getD i (0,0)).2:=by
 have hg:L.getD i (0,0)=L[i]:=by rw [List.getD_eq_getElem?_getD,List.getElem?_eq_getElem hi];rfl
 rw [hg];unfold fromOf
 cases hf:L.find? (fun p=>decide (p.1=L[i].1)) with
 | none=>
  have:=List.find?_eq_none.1 hf L[i] (List.getElem_mem hi)
  simp at this
 | some z=>
  have h1:=List.find?_some hf
  have h2:=List.mem_of_find?_eq_some hf
  obtain ⟨j,hj,rfl⟩:=List.getElem_of_mem h2;simp only [decide_eq_true_eq] at h1
  have hij:j=i:=by
   have e1:(keys L)[j]'(by rw [keys_length];exact hj)=(keys L)[i]'(by rw [keys_length];exact hi):=by simp [keys];exact h1
   have hp:=List.pairwise_iff_getElem.1 h
   rcases Nat.lt_trichotomy j i with hlt | hlt | hlt
   ·exact absurd e1 (hp j i _ _ hlt)
   ·exact hlt
   ·exact absurd e1.symm (hp i j _ _ hlt)
  subst hij;rfl
structure Bk (n:Nat) (ins want:Nat->Bool) (nx:Nat->List Nat) (bs:List Nat) (L:Met) (l:List Nat) (f:Int) (k:Nat):Prop where
 trail:Trail nx l
 mem:∀ x∈l,x∈keys L
 last:l≠[]->want (l.getD (l.length - 1) 0)=true
 next:(f=-1/\k=0/\l≠[]/\l.getD 0 0∈bs/\l.length <= L.length)\/∃ i,k=i+1/\i < L.length/\f=((L.getD i (0,0)).1:Int)/\l.length+i+1 <= L.length/\(l=[]->want (L.getD i (0,0)).1=true)/\(l≠[]->l.getD 0 0∈nx (L.getD i (0,0)).1)
theorem Bk.step {n:Nat} {ins want:Nat->Bool} {nx:Nat->List Nat} {bs:List Nat} {L:Met} {l:List Nat} {i:Nat} (hL:LOk n ins nx bs L) (h:Bk n ins want nx bs L l ((L.getD i (0,0)).1:Int) (i+1)) (hi:i < L.length):∃ k,k < i+1/\Bk n ins want nx bs L ((L.getD i (0,0)).1:: l) (fromOf L (L.getD i (0,0)).1) k:=by
 have hn:l.length+i+1 <= L.length/\(l=[]->want (L.getD i (0,0)).1=true)/\(l≠[]->l.getD 0 0∈nx (L.getD i (0,0)).1):=by
  rcases h.next with ⟨h1,h2,_⟩ | ⟨j,h1,h2,h3,h4⟩
  ·omega
  ·have:j=i:=by omega
   subst this;exact h4
 obtain ⟨h1,h2,h3⟩:=hn;rw [fromOf_at hL.nodup hi]
 have htr:Trail nx ((L.getD i (0,0)).1:: l):=by
  cases l with
  | nil=>trivial
  | cons a l=>exact ⟨h3 (by simp),h.trail⟩
 have hme:∀ x∈(L.getD i (0,0)).1:: l,x∈keys L:=fun x hx=>by
  rcases List.mem_cons.1 hx with rfl | hx
  ·exact key_at hi
  ·exact h.mem x hx
 have hla:(L.getD i (0,0)).1:: l≠[]->want (((L.getD i (0,0)).1:: l).getD (((L.getD i (0,0)).1:: l).length - 1) 0)=true:=fun _=>by
  cases l with
  | nil=>exact h2 rfl
  | cons a l=>
   have:=h.last (by simp)
   simpa using this
 rcases hL.src i hi with ⟨e1,e2⟩ | ⟨j,hj,e1,e2⟩
 ·exact ⟨0,by omega,htr,hme,hla,.inl ⟨e1,rfl,by simp,e2,by simp;omega⟩⟩
 ·exact ⟨j+1,by omega,htr,hme,hla,.inr ⟨j,rfl,by omega,e1,by simp;omega,fun h=>by simp at h,fun _=>e2⟩⟩
theorem Bk.done {n:Nat} {ins want:Nat->Bool} {nx:Nat->List Nat} {bs:List Nat} {L:Met} {l:List Nat} {k:Nat} (hL:LOk n ins nx bs L) (h:Bk n ins want nx bs L l (-1) k):WayOk n ins want nx bs l:=by
 rcases h.next with ⟨_,_,h1,h2,h3⟩ | ⟨i,_,_,h3,_⟩
 ·exact ⟨h1,h2,h.trail,h.last h1,fun x hx=>⟨hL.ins x (h.mem x hx),hL.lt x (h.mem x hx)⟩,Nat.le_trans h3 hL.length⟩
 ·omega
theorem way_any (so no bo po:Option Addr) (sc nc bc pc:Nat) (g:Gr) (bs:List Nat) (fi fw:FuncId) (ci cw:Array Value) (ins want:Nat->Bool) (w:World) (hg:GOk g) (hzn:∀ i,i < g.spots.length->(g.next.getD i []).length <= 140737488355328)
  (hV:GraphV w (.slice so g.spots.length sc) (.slice no g.next.length nc) (.slice bo g.sets.length bc) g) (hP:NatsV w (.slice po bs.length pc) bs) (hbl:bs.length <= 140737488355328) (hbs:∀ x∈bs,x < g.spots.length)
  (hI:FnB w w.heap.size g.spots.length (.func (.func fi) #[] ci) ins) (hW:FnB w w.heap.size g.spots.length (.func (.func fw) #[] cw) want) :
  Calls Tryz.prog 31 #[.agg #[.slice so g.spots.length sc,.int .i64 g.init,.slice no g.next.length nc,.slice bo g.sets.length bc,.int .i64 g.many],.slice po bs.length pc,.func (.func fi) #[] ci,.func (.func fw) #[] cw] w fun e w'=>∃ vo vc q,e=.returned (.slice vo q vc)/\Below w.heap.size w w'/\Hid (∃ l,l.length=q/\WayPost g.spots.length ins want (nxt g) bs l/\w'.ownsRow w.heap.size 3 1 (.slice vo q vc) q (nvals l)):=by
 obtain ⟨W0,hW0⟩:∃ W0,W0=w.alloc (.cells #[.slice so g.spots.length sc,.int .i64 g.init,.slice no g.next.length nc,.slice bo g.sets.length bc,.int .i64 g.many] 64):=⟨_,rfl⟩
 have hA:Below w.heap.size w W0:=by rw [hW0];exact (Below.refl _ _).alloc (Nat.le_refl _) _
 have fnb:∀ {F:Value} {p:Nat->Bool},FnB w w.heap.size g.spots.length F p->FnB W0 W0.heap.size g.spots.length F p:=fun {F p} h=>by
  obtain ⟨fn,caps,h1,h2,h3⟩:=h;exact ⟨fn,caps,h1,h2,fun w' hb q hq=>h3 w' (hA.trans (hb.mono hA.size)) q hq⟩
 have hlo:=lookG_any so no bo po sc nc bc pc g bs fi fw ci cw ins want W0 hg hzn (hV.below hA) (hP.below hA) hbl hbs (fnb hI) (fnb hW);have hn:=hg.head.n;obtain ⟨i0,hi0,hz0,hz1,hz2⟩:=info_parts infoInt;clear hV hP hI hW fnb hzn;unfold LookPost at hlo;generalize nxt g=nx at *;generalize g.next.length=nn at *;generalize g.sets.length=bn at *
 generalize g.spots.length=n at *;generalize g.init=gi at *;generalize g.many=gm at *;subst hW0
 go_enter Tryz.func31,Tryz.ntmps31
 go_wp2_with (go_at_call 53;refine hlo.mono ?_;rintro e w1 ⟨L,r,rfl,hb1,HC⟩)
 have hbw1:Below w.heap.size w w1:=hA.trans (hb1.mono hA.size);obtain ⟨⟨D,hown,hcd⟩,hLok,hpost⟩:=HC.out;have hLn:=hLok.length;have HL:Hid (LOk n ins nx bs L):=hLok;have HCd:Hid (CameD D L):=hcd;have hwl:w.heap.size < w1.heap.size:=by have:=hb1.size;simp at this;omega
 have HOw:Hid (w1.ownsMap Tryz.prog 3 (plainElem Tryz.prog 3) (w.heap.size+1+2) L.length D):=by
  have:=hown;rw [World.size_alloc] at this;exact this
 clear hown hcd hlo hb1 hA HC
 rcases hpost with ⟨rfl,hth⟩ | ⟨i,hi,rfl,hwi⟩
 ·have HN:Hid (NoWay ins want nx bs):=hth.noWay hLok
  clear hth hLok HL HCd HOw
  go_loopg [9,11] 0 (fun _ f v wr=>f=.int .i64 (-1)/\v=.slice none 0 0/\wr=w1)
  case atStart=>exact ⟨rfl,rfl,rfl⟩
  case round=>
   obtain ⟨rfl,rfl,rfl⟩:=hrel;have hrv:=reverse_none none 0 wr
   go_wp2_with (go_at_call 54;refine hrv.mono ?_;rintro e w2 ⟨rfl,rfl⟩)
   go_ret
   exact ⟨_,_,_,rfl,hbw1,[],rfl,.inl ⟨rfl,HN.out⟩,World.ownsRow_nil _ _ _ _⟩
 ·have HB0:Hid (Bk n ins want nx bs L [] ((L.getD i (0,0)).1:Int) (i+1)):=⟨trivial,fun x hx=>by simp at hx,fun h=>absurd rfl h,.inr ⟨i,rfl,hi,rfl,by simp;omega,fun _=>hwi,fun h=>absurd rfl h⟩⟩
  clear hLok hwi;generalize ((L.getD i (0,0)).1:Int)=f0 at *
  go_loopg [9,11] (i+1) (fun k f v wr=>∃ (fI:Int) (ll:Nat),f=.int .i64 fI/\Hid (∃ l:List Nat,l.length=ll/\Bk n ins want nx bs L l fI k/\wr.ownsRow w1.heap.size 3 1 v ll (nvals l.reverse))/\Hid (Below w1.heap.size w1 wr))
  case atStart=>exact ⟨f0,0,rfl,⟨[],rfl,HB0.out,World.ownsRow_nil _ _ _ _⟩,Below.refl _ _⟩
  case round=>
   obtain ⟨fI,ll,rfl,HBk,HBr⟩:=hrel;obtain ⟨l,hll,hbk,hro⟩:=HBk.out;obtain ⟨vo,vc,rfl⟩:=owns_slice hro;have hbwr:Below w.heap.size w wr:=hbw1.trans (HBr.out.mono hbw1.size)
   rcases hbk.next with ⟨rfl,rfl,hne,_,hlen⟩ | ⟨j,rfl,hj,rfl,hlen,_,_⟩
   ·have HWk:Hid (WayOk n ins want nx bs l):=hbk.done HL.out
    obtain ⟨g9,c9,hvv,hg1,hg2⟩:=hro.form (by cases l with | nil=>exact absurd rfl hne | cons a l=>simp at hll;omega)
    injection hvv with e1 e2 e3
    subst e1 e3;have hrv:=reverse_own g9 vc w1.heap.size l.reverse wr (by simp;omega) (by rw [List.length_reverse,hll];exact hro)
    rw [List.length_reverse,hll,List.reverse_reverse] at hrv;clear hbk hro HBk hne
    go_wp2_with (go_at_call 54;refine hrv.mono ?_;rintro e w2 ⟨rfl,hg3,ho3⟩)
    go_ret
    exact ⟨_,_,_,rfl,hbwr.grown hg3 hbwr.size (fun k hk=>by cases hk;omega),l,hll,.inr HWk.out,owns_mono ho3 (by omega)⟩
   ·obtain ⟨k',hk',hbk'⟩:=hbk.step HL.out hj
    have hpn:(L.getD j (0,0)).1 < n:=HL.out.lt _ (key_at hj);have hmem:=key_at hj;have hat0:=(HCd.out (L.getD j (0,0)).1).2 hmem;have hk1:=keyG (L.getD j (0,0)).1 (by omega)
    have HB':Hid (Bk n ins want nx bs L ((L.getD j (0,0)).1:: l) (fromOf L (L.getD j (0,0)).1) k'):=hbk';have HK':Hid (k' < j+1):=hk';have HLL:Hid (l.length=ll):=hll;generalize fromOf L (L.getD j (0,0)).1=f2 at *;generalize (L.getD j (0,0)).1=p at *;have h63:ll+1 <= maxLen:=by unfold maxLen;omega
    have hkb:(ll+1)*8 <= 140737488355328:=by omega
    have hown4:=fun o=>hro.alloc o
    have hnb2:=hro.lt;have hbase:∀ o,w1.heap.size <= (wr.alloc o).heap.size:=fun o=>by have:=HBr.out.size;simp;omega
    have hpm1:¬ (p:Int)=-1:=by omega
    clear hbk hro HBk hbk' hk' hll
    go_wp2_with (first | (at_builtin;refine wpList_append_own _ rfl (.tmp 22) (.tmp 24) 36 rfl w1.heap.size 3 i0 (.int .i64 0) 1 8 Tryz.underlying36 hi0 hz0 hz1 hz2 rfl (by decide) (.slice vo ll vc) ll _ rfl (hown4 _) ⟨wr.heap.size,0,none⟩ 1 1 [.int .i64 (p:Int)] rfl rfl (cell_one_new _ _ _) (by intro u hu;simp at hu;subst hu;rfl) h63 hkb (hbase _) ?_;intro v' w5 hown' hgrow _;have hb5:Below w1.heap.size w1 w5:=(HBr.out.alloc HBr.out.size _).grown hgrow (hbase _) (fun z hz=>(hnb2 z hz).1);have hmo:=HOw.out.kept (grown_below hb5) (by simp)) | (at_lookup;refine wpList_lookup_own_int _ rfl _ _ 123 rfl 3 3 .i64 keyIntG Tryz.underlying123 Tryz.underlying3 (zeroIntG _) (w.heap.size+1+2) _ D rfl hmo _ _ rfl hk1 ?_;intro c hat hwc))
    have hc2:c=f2:=by rw [hat0] at hat;injection hat with hat;injection hat with _ hat;exact hat.symm
    subst hc2
    go_roundg k'
    case measure=>exact HK'.out
    case rel=>exact ⟨c,ll+1,rfl,⟨p:: l,by simp [HLL.out],HB'.out,by rw [List.reverse_cons,nvals,List.map_append];exact hown'⟩,hb5⟩
end Go.Proofs.YtfnobbpbmelgnaaGreatDoor
namespace Go.Proofs.YtfnobbpbmelgnaaGreatDoor
open Go.ChangeShapes Go.WideShapes Go.ChangeAt Go.RowKit Go.Deep
open Terms
set_option maxHeartbeats 6400000
set_option maxRecDepth 20000
theorem andnot_nat0:∀ a,a < 64->∀ b,b < 64->decide (bits BinOp.andNot IntKind.i64 ((a:Nat):Int) ((b:Nat):Int)=0)=decide (b ||| a=b):=by decide +kernel
def orL (s:Nat->Nat) (m:Nat) (l:List Nat):Nat:=l.foldl (fun a x=>a ||| s x) m
theorem orL_snoc (s:Nat->Nat) (m:Nat) (l:List Nat) (x:Nat):orL s m (l++[x])=orL s m l ||| s x:=by simp [orL]
theorem orL_append (s:Nat->Nat) (m:Nat) (l k:List Nat):orL s m (l++k)=orL s (orL s m l) k:=by simp [orL]
theorem orL_bit {s:Nat->Nat} {i:Nat}:∀ (l:List Nat) (m:Nat),(orL s m l).testBit i=true↔m.testBit i=true\/∃ x∈l,(s x).testBit i=true
 | [],m=>by simp [orL]
 | a:: l,m=>by
  have:=orL_bit (s:=s) (i:=i) l (m ||| s a)
  show (orL s (m ||| s a) l).testBit i=true↔_
  rw [this,Nat.testBit_or,Bool.or_eq_true]
  constructor
  ·rintro ((h | h) | ⟨x,hx,h⟩)
   ·exact .inl h
   ·exact .inr ⟨a,by simp,h⟩
   ·exact .inr ⟨x,by simp [hx],h⟩
  ·rintro (h | ⟨x,hx,h⟩)
   ·exact .inl (.inl h)
   ·rcases List.mem_cons.1 hx with rfl | hx
    ·exact .inl (.inr h)
    ·exact .inr ⟨x,hx,h⟩
theorem orL_lt {s:Nat->Nat} {k:Nat}:∀ (l:List Nat) (m:Nat),m < 2 ^ k->(∀ x∈l,s x < 2 ^ k)->orL s m l < 2 ^ k
 | [],_,hm,_=>hm
 | a:: l,m,hm,h=>orL_lt l (m ||| s a) (Nat.or_lt_two_pow hm (h a (by simp))) (fun x hx=>h x (by simp [hx]))
theorem orL_le {s:Nat->Nat}:∀ (l:List Nat) (m:Nat),m <= orL s m l
 | [],_=>Nat.le_refl _
 | a:: l,m=>Nat.le_trans Nat.left_le_or (orL_le l (m ||| s a))
theorem orL_grows {s:Nat->Nat} {m x:Nat} {l:List Nat} (hx:x∈l) (h:m ||| s x≠m):m < orL s m l:=by
 refine Nat.lt_of_le_of_ne (orL_le l m) fun e=>h (Nat.eq_of_testBit_eq fun i=>?_)
 rw [Nat.testBit_or]
 cases hm:m.testBit i with
 | true=>rfl
 | false=>
  cases hs:(s x).testBit i with
  | false=>rfl
  | true=>
   have:=(orL_bit (s:=s) (i:=i) l m).2 (.inr ⟨x,hx,hs⟩);rw [<- e,hm] at this
   cases this
theorem new_bit {m a i:Nat} (hm:m.testBit i=false) (ha:a.testBit i=true):m ||| a≠m:=fun e=>by
 have:(m ||| a).testBit i=true:=by rw [Nat.testBit_or,ha];simp
 rw [e,hm] at this
 cases this
theorem Trail.append {nx:Nat->List Nat}:∀ {a b:List Nat},Trail nx a->Trail nx b->(a≠[]->b≠[]->b.getD 0 0∈nx (a.getD (a.length - 1) 0))->Trail nx (a++b)
 | [],_,_,hb,_=>hb
 | [x],[],_,_,_=>trivial
 | [x],y:: b,_,hb,h=>⟨h (by simp) (by simp),hb⟩
 | x:: y:: a,b,ha,hb,h=>⟨ha.1,Trail.append (a:=y:: a) ha.2 hb (fun _ hn=>by simpa using h (by simp) hn)⟩
def InPart (g:Gr) (f:Nat) (ins:Nat->Bool):Prop:=∀ x,x < g.spots.length->(ins x=true↔Mut g f x)
theorem Mut.symm {g:Gr} {x y:Nat} (h:Mut g x y):Mut g y x:=⟨h.2,h.1⟩
theorem inner_way {g:Gr} {f:Nat} {ins:Nat->Bool} (hg:GOk g) (hf:f < g.spots.length) (hi:InPart g f ins) {x y:Nat} (hx:Mut g f x) (hw:Way (nxt g) x y) (hy:Way (nxt g) y f):Way (fun i=>(nxt g i).filter ins) x y:=by
 induction hw with
 | stay=>exact .stay
 | step hw hk ih=>
  rename_i j k;have hj:Way (nxt g) j f:=(Way.one hk).trans hy;have hkm:Mut g f k:=⟨(hx.1.trans hw).step hk,hy⟩;exact (ih hj).step (List.mem_filter.2 ⟨hk,(hi k (hkm.lt hg hf)).2 hkm⟩)
theorem step_way {g:Gr} {f:Nat} {ins want:Nat->Bool} (hg:GOk g) (hf:f < g.spots.length) (hi:InPart g f ins) {x k y:Nat} (hx:Mut g f x) (hk:k∈nxt g x) (hky:Way (nxt g) k y) (hy:Mut g f y) (hw:want y=true) (hno:NoWay ins want (nxt g) (nxt g x)):False:=by
 have hkm:Mut g f k:=⟨hx.1.step hk,hky.trans hy.2⟩;have:=hno k hk ((hi k (hkm.lt hg hf)).2 hkm) y (inner_way hg hf hi hkm hky hy.2);rw [hw] at this
 cases this
structure LpOk (g:Gr) (f:Nat) (lp:List Nat) (met:Nat):Prop where
 ne:lp≠[]
 head:lp.getD 0 0=f
 trail:Trail (nxt g) lp
 mem:∀ x∈lp,Mut g f x/\x < g.spots.length
 met:met=orL (sN g) 0 lp
theorem last_mem {l:List Nat} (h:l≠[]):l.getD (l.length - 1) 0∈l:=by
 have:0 < l.length:=by
  cases l with
  | nil=>exact absurd rfl h
  | cons a l=>simp
 rw [List.getD_eq_getElem?_getD,List.getElem?_eq_getElem (by omega)]
 exact List.getElem_mem _
theorem LpOk.start {g:Gr} {f:Nat} (hf:f < g.spots.length):LpOk g f [f] (sN g f):=⟨by simp,rfl,trivial,fun x hx=>by simp at hx;subst hx;exact ⟨⟨.stay,.stay⟩,hf⟩,by simp [orL]⟩
theorem LpOk.lt {g:Gr} {f:Nat} {lp:List Nat} {met:Nat} (hg:GOk g) (h:LpOk g f lp met):met < 2 ^ mN g:=by
 rw [h.met];exact orL_lt lp 0 (Nat.pow_pos (by decide)) fun x hx=>(hg.sN (h.mem x hx).2).2
theorem LpOk.more {g:Gr} {f:Nat} {lp:List Nat} {met:Nat} {ins want:Nat->Bool} (hg:GOk g) (hf:f < g.spots.length) (hF:FairX g f) (hi:InPart g f ins) (h:LpOk g f lp met) (hm:met≠2 ^ mN g - 1) (hw:∀ x,x < g.spots.length->want x=decide (met ||| sN g x≠met)):¬ NoWay ins want (nxt g) (nxt g (lp.getD (lp.length - 1) 0)):=fun hno=>by
 have hlm:=last_mem h.ne;obtain ⟨hl1,hl2⟩:=h.mem _ hlm
 have hbit:∃ i,i < mN g/\met.testBit i=false:=by
  apply Classical.byContradiction
  intro hc;refine hm ((full_bits (h.lt hg)).2 fun i hi=>?_)
  cases e:met.testBit i with
  | true=>rfl
  | false=>exact absurd ⟨i,hi,e⟩ hc
 obtain ⟨i,hi1,hi2⟩:=hbit;obtain ⟨a,ha,hab⟩:=hF.2 i hi1;have han:=ha.lt hg hf;have hwa:want a=true:=by rw [hw a han];exact decide_eq_true (new_bit hi2 hab)
 have hwy:Way (nxt g) (lp.getD (lp.length - 1) 0) a:=hl1.2.trans ha.1
 rcases hwy.first with e | ⟨k,hk,hka⟩
 ·have:met.testBit i=true:=by rw [h.met];exact (orL_bit lp 0).2 (.inr ⟨_,hlm,by rw [e];exact hab⟩)
  rw [hi2] at this
  cases this
 ·exact step_way hg hf hi hl1 hk hka ha hwa hno
theorem LpOk.home {g:Gr} {f:Nat} {lp:List Nat} {met:Nat} {ins want:Nat->Bool} (hg:GOk g) (hf:f < g.spots.length) (hF:FairX g f) (hi:InPart g f ins) (h:LpOk g f lp met) (hw:∀ x,x < g.spots.length->want x=decide (x=f)):¬ NoWay ins want (nxt g) (nxt g (lp.getD (lp.length - 1) 0)):=fun hno=>by
 have hlm:=last_mem h.ne;obtain ⟨hl1,hl2⟩:=h.mem _ hlm;have hwf:want f=true:=by rw [hw f hf];simp
 have hff:Mut g f f:=⟨.stay,.stay⟩
 rcases hl1.2.first with e | ⟨k,hk,hka⟩
 ·obtain ⟨a,b,ha,hb,hab⟩:=hF.1
  have hxa:Way (nxt g) (lp.getD (lp.length - 1) 0) a:=by rw [e];exact ha.1
  rcases hxa.first with e2 | ⟨k,hk,hka⟩
  ·exact step_way hg hf hi hl1 (k:=b) (by rw [e2];exact hab) hb.2 hff hwf hno
  ·exact step_way hg hf hi hl1 hk (hka.trans ha.2) hff hwf hno
 ·exact step_way hg hf hi hl1 hk hka hff hwf hno
theorem getD_append_zero {a b:List Nat} (h:a≠[]):(a++b).getD 0 0=a.getD 0 0:=by
 cases a with
 | nil=>exact absurd rfl h
 | cons x a=>rfl
theorem LpOk.put {g:Gr} {f:Nat} {lp l:List Nat} {met:Nat} {ins want:Nat->Bool} (hi:InPart g f ins) (h:LpOk g f lp met) (hl:WayOk g.spots.length ins want (nxt g) (nxt g (lp.getD (lp.length - 1) 0)) l) (hw:∀ x,x < g.spots.length->want x=decide (met ||| sN g x≠met)):LpOk g f (lp++l) (orL (sN g) met l)/\met < orL (sN g) met l:=by
 refine ⟨⟨by simp [h.ne],(getD_append_zero h.ne).trans h.head,h.trail.append hl.trail (fun _ _=>hl.head),fun x hx=>?_,by rw [orL_append,<- h.met]⟩,?_⟩
 ·rcases List.mem_append.1 hx with hx | hx
  ·exact h.mem x hx
  ·obtain ⟨h1,h2⟩:=hl.ins x hx
   exact ⟨(hi x h2).1 h1,h2⟩
 ·have hm:=last_mem hl.ne
  have h1:=hl.last;rw [hw _ (hl.ins _ hm).2] at h1;exact orL_grows hm (of_decide_eq_true h1)
structure LoopOk (g:Gr) (f:Nat) (l:List Nat):Prop where
 ne:l≠[]
 head:l.getD 0 0=f
 trail:Trail (nxt g) (l++[f])
 lt:∀ x∈l,x < g.spots.length
 bits:∀ i,i < mN g->∃ x∈l,(sN g x).testBit i=true
theorem LpOk.close {g:Gr} {f:Nat} {lp l:List Nat} {met:Nat} {ins want:Nat->Bool} (hg:GOk g) (h:LpOk g f lp met) (hm:met=2 ^ mN g - 1) (hl:WayOk g.spots.length ins want (nxt g) (nxt g (lp.getD (lp.length - 1) 0)) l) (hw:∀ x,x < g.spots.length->want x=decide (x=f)):LoopOk g f (lp++l.take (l.length - 1)):=by
 have hlm:=last_mem hl.ne
 have e1:l.getD (l.length - 1) 0=f:=by
  have:=hl.last;rw [hw _ (hl.ins _ hlm).2] at this;exact of_decide_eq_true this
 have hpos:0 < l.length:=by
  cases l with
  | nil=>exact absurd rfl hl.ne
  | cons a l=>simp
 have e2:l.take (l.length - 1)++[f]=l:=by
  rw [<- e1];have h3:l=l.take (l.length - 1+1):=by rw [List.take_of_length_le (by omega)]
  conv=>rhs;rw [h3,List.take_succ_eq_append_getElem (by omega)]
  rw [List.getD_eq_getElem?_getD,List.getElem?_eq_getElem (by omega)];rfl
 refine ⟨by simp [h.ne],(getD_append_zero h.ne).trans h.head,?_,fun x hx=>?_,fun i hi=>?_⟩
 ·rw [List.append_assoc,e2]
  exact h.trail.append hl.trail (fun _ _=>hl.head)
 ·rcases List.mem_append.1 hx with hx | hx
  ·exact (h.mem x hx).2
  ·exact (hl.ins x (List.mem_of_mem_take hx)).2
 ·have h1:=(full_bits (h.lt hg)).1 hm i hi
  rw [h.met] at h1
  rcases (orL_bit lp 0).1 h1 with h2 | ⟨x,hx,h2⟩
  ·simp at h2
  ·exact ⟨x,List.mem_append.2 (.inl hx),h2⟩
structure LoopW (w wr:World) (s:Nat) (so no bo:Option Addr) (sc nc bc n:Nat) (gi gm:Int) (f met:Nat) (v:Value) (lp:List Nat):Prop where
 below:Below s w wr
 size:s+4 <= wr.heap.size
 c0:wr.cell? ⟨s,0,none⟩=some (.slice so n sc)
 c1:wr.cell? ⟨s,1,none⟩=some (.int .i64 gi)
 c2:wr.cell? ⟨s,2,none⟩=some (.slice no n nc)
 c3:wr.cell? ⟨s,3,none⟩=some (.slice bo n bc)
 c4:wr.cell? ⟨s,4,none⟩=some (.int .i64 gm)
 cf:wr.cell? ⟨s+1,0,none⟩=some (.int .i64 (f:Int))
 cm:wr.cell? ⟨s+3,0,none⟩=some (.int .i64 (met:Int))
 fm:wr.frozen? ⟨s+3,0,none⟩=false
 ow:wr.ownsRow (s+2) 3 1 v lp.length (nvals lp)
 ap:v.ownBlock≠some (s+3)
section
variable {w wr : World} {s : Nat} {so no bo : Option Addr} {sc nc bc n : Nat} {gi gm : Int} {f met : Nat} {v : Value} {lp : List Nat}
theorem LoopW.blocks (h:LoopW w wr s so no bo sc nc bc n gi gm f met v lp) {w':World} (hb:Below s w w') (hs:wr.heap.size <= w'.heap.size) (h0:w'.heap[s]? = wr.heap[s]?) (h1:w'.heap[s+1]? = wr.heap[s+1]?) (h3:w'.heap[s+3]? = wr.heap[s+3]?) {v':Value} {lp':List Nat} (ho:w'.ownsRow (s+2) 3 1 v' lp'.length (nvals lp')) (ha:v'.ownBlock≠some (s+3)):LoopW w w' s so no bo sc nc bc n gi gm f met v' lp':=by
 have c:∀ j,w'.cell? ⟨s,j,none⟩=wr.cell? ⟨s,j,none⟩:=fun j=>World.cell?_of_block (a:=⟨s,j,none⟩) h0
 have d1:w'.cell? ⟨s+1,0,none⟩=wr.cell? ⟨s+1,0,none⟩:=World.cell?_of_block (a:=⟨s+1,0,none⟩) h1
 have d3:w'.cell? ⟨s+3,0,none⟩=wr.cell? ⟨s+3,0,none⟩:=World.cell?_of_block (a:=⟨s+3,0,none⟩) h3
 have hsz:=h.size;exact ⟨hb,by omega,(c 0).trans h.c0,(c 1).trans h.c1,(c 2).trans h.c2,(c 3).trans h.c3,(c 4).trans h.c4,d1.trans h.cf,d3.trans h.cm,(World.frozen?_of_block (a:=⟨s+3,0,none⟩) h3).trans h.fm,ho,ha⟩
theorem LoopW.later (h:LoopW w wr s so no bo sc nc bc n gi gm f met v lp) {w':World} (hb:Below wr.heap.size wr w'):LoopW w w' s so no bo sc nc bc n gi gm f met v lp:=by
 have hsz:=h.size;exact h.blocks (h.below.trans (hb.mono (by omega))) hb.size (hb.block _ (by omega)) (hb.block _ (by omega)) (hb.block _ (by omega)) (owns_later h.ow hb (Nat.le_refl _)) h.ap
theorem LoopW.setMet (h:LoopW w wr s so no bo sc nc bc n gi gm f met v lp) (m:Nat):LoopW w (wr.setCell ⟨s+3,0,none⟩ (.int .i64 (m:Int))) s so no bo sc nc bc n gi gm f m v lp:=by
 have hsz:=h.size;have c:∀ i j,i≠s+3->(wr.setCell ⟨s+3,0,none⟩ (.int .i64 (m:Int))).cell? ⟨i,j,none⟩=wr.cell? ⟨i,j,none⟩:=fun i j hne=>World.cell?_setCell_far _ _ _ _ (fun e=>hne e.symm)
 exact ⟨h.below.setCell (by show s <= s+3;omega) _,by simpa using hsz,(c s 0 (by omega)).trans h.c0,(c s 1 (by omega)).trans h.c1,(c s 2 (by omega)).trans h.c2,(c s 3 (by omega)).trans h.c3,(c s 4 (by omega)).trans h.c4,(c (s+1) 0 (by omega)).trans h.cf,World.cell?_setCell_same _ _ _ (u:=.int .i64 (met:Int)) h.cm,(World.frozen?_setCell _ _ _ _).trans h.fm,ownsRow_setCell_other h.ow (by exact h.ap) _,h.ap⟩
end
theorem newSet_fn (w0:World) (s:Nat) (bo:Option Addr) (bc n m:Nat) (g:Gr) (hok:GOk g) (hn:n=g.spots.length) (hsz:s+4 <= w0.heap.size) (h3:w0.cell? ⟨s,3,none⟩=some (.slice bo n bc)) (hm:w0.cell? ⟨s+3,0,none⟩=some (.int .i64 (m:Int))) (hm64:m < 64) (hS:∀ k,k < n->∃ b off,bo=some ⟨b,off,none⟩/\b < w0.heap.size/\w0.cell? ⟨b,off+k,none⟩=some (.int .i64 (sN g k:Int))) :
  FnB w0 w0.heap.size n (.func (.func 55) #[] #[.pointer (some ⟨s,0,none⟩),.pointer (some ⟨s+3,0,none⟩)]) (fun p=>decide (m ||| sN g p≠m)):=by
 refine ⟨_,_,rfl,fun args w=>by simp [go_sem],fun w' hb p hp=>?_⟩
 show Calls Tryz.prog 55 #[.int .i64 (p:Int),.pointer (some ⟨s,0,none⟩),.pointer (some ⟨s+3,0,none⟩)] w' fun e w2=>e=.returned (.bool (decide (m ||| sN g p≠m)))/\Below w'.heap.size w' w2
 obtain ⟨b,off,rfl,hbl,hc⟩:=hS p hp;have e3:=(hb.cell (p:=⟨s,3,none⟩) (by show s < _;omega)).trans h3
 have em:=(hb.cell (p:=⟨s+3,0,none⟩) (by show s+3 < _;omega)).trans hm
 have es:=(hb.cell (p:=⟨b,off+p,none⟩) hbl).trans hc;have hs64:sN g p < 64:=by have h1:=(hok.sN (x:=p) (by omega)).2;have h2:=pow64 hok.mN.1;omega
 have hand:=andnot_nat0 (sN g p) hs64 m hm64
 have HA:Hid (decide (m ||| sN g p≠m)=!decide (bits BinOp.andNot IntKind.i64 (sN g p:Int) (m:Int)=0)):=by
  show _=_
  rw [hand];simp
 rw [HA.out];clear hand HA hS hc h3 hm;generalize sN g p=x at *;have h63:p < n:=hp
 go_enter Tryz.func55,Tryz.ntmps55
 go_wp2_with fail
 go_quiet (fail)
 go_wp2_with fail
 go_ret
 exact ⟨by first | rfl | simp,below_drewN (Below.refl _ _) _⟩
theorem home_fn (w0:World) (s n f:Nat) (hsz:s+4 <= w0.heap.size) (hf:w0.cell? ⟨s+1,0,none⟩=some (.int .i64 (f:Int))) :
  FnB w0 w0.heap.size n (.func (.func 56) #[] #[.pointer (some ⟨s+1,0,none⟩)]) (fun p=>decide (p=f)):=by
 refine ⟨_,_,rfl,fun args w=>by simp [go_sem],fun w' hb p hp=>?_⟩
 show Calls Tryz.prog 56 #[.int .i64 (p:Int),.pointer (some ⟨s+1,0,none⟩)] w' _
 have ef:=(hb.cell (p:=⟨s+1,0,none⟩) (by show s+1 < _;omega)).trans hf
 go_enter Tryz.func56,Tryz.ntmps56
 go_wp2_with fail
 go_ret
 refine ⟨?_,Below.refl _ _⟩
 have e:decide (p=f)=((p:Int) == (f:Int)):=by
  show _=decide ((p:Int)=(f:Int))
  rw [decide_eq_decide];omega
 rw [e]
 first | rfl | simp
theorem LoopW.start (w:World) (so no bo:Option Addr) (sc nc bc n:Nat) (gi gm:Int) (f m:Nat):LoopW w ((((w.alloc (.cells #[.slice so n sc,.int .i64 gi,.slice no n nc,.slice bo n bc,.int .i64 gm] 64)).alloc (.cells #[.int .i64 (f:Int)] 3)).alloc (.cells #[.int .i64 (f:Int)] 3)).alloc (.cells #[.int .i64 (m:Int)] 3)) w.heap.size so no bo sc nc bc n gi gm f m (.slice (some ⟨w.heap.size+1+1,0,none⟩) 1 1) [f]:=by
 refine ⟨((((Below.refl _ _).alloc (Nat.le_refl _) _).alloc (by simp) _).alloc (by simp;omega) _).alloc (by simp;omega) _,by simp,by simp [go_sem],by simp [go_sem],by simp [go_sem],by simp [go_sem],by simp [go_sem],by simp [go_sem],by simp [go_sem],by simp [go_sem],?_,by simp [Value.ownBlock]⟩
 refine ⟨rfl,.inr ⟨w.heap.size+1+1,1,#[.int .i64 (f:Int)],rfl,Nat.le_refl _,?_,Nat.le_refl _,by unfold maxLen;decide,rfl,rfl⟩⟩
 have h:=blk_alloc_new ((w.alloc (.cells #[.slice so n sc,.int .i64 gi,.slice no n nc,.slice bo n bc,.int .i64 gm] 64)).alloc (.cells #[.int .i64 (f:Int)] 3)) (.cells #[.int .i64 (f:Int)] 3);rw [World.size_alloc,World.size_alloc] at h;exact (blk_alloc_lt _ _ _ (by simp)).trans h
theorem own_news {w:World} {g q:Nat} {l:List Nat} (hc:∀ i,i < l.length->w.cell? ⟨g,i,none⟩=some (.int .i64 (l.getD i 0:Int))) (hq:q <= l.length):∀ j u,(nvals (l.take q))[j]? = some u->w.cell? ((⟨g,0,none⟩:Addr).add j)=some u:=fun j u hu=>by
 have hj:j < q:=by
  rcases Nat.lt_or_ge j q with h | h
  ·exact h
  ·rw [List.getElem?_eq_none (by simp [nvals];omega)] at hu;cases hu
 have h1:=hc j (by omega)
 have h2:(nvals (l.take q))[j]? = some (.int .i64 (l.getD j 0:Int)):=by
  rw [nvals,List.getElem?_map,List.getElem?_take,if_pos hj,List.getElem?_eq_getElem (by omega),List.getD_eq_getElem?_getD,List.getElem?_eq_getElem (by omega)];rfl
 rw [h2] at hu
 injection hu with hu
 subst hu
 cases j with
 | zero=>exact h1
 | succ j=>simpa [Addr.add] using h1
theorem loopFrom_any (so no bo:Option Addr) (sc nc bc:Nat) (g:Gr) (f:Nat) (fi:FuncId) (ci:Array Value) (ins:Nat->Bool) (w:World) (hz:GrLe g) (hV:GraphV w (.slice so g.spots.length sc) (.slice no g.next.length nc) (.slice bo g.sets.length bc) g) (hok:GOk g) (hf:f < g.spots.length) (hF:FairX g f) (hIn:InPart g f ins) (hI:FnB w w.heap.size g.spots.length (.func (.func fi) #[] ci) ins) :
  Calls Tryz.prog 35 #[.agg #[.slice so g.spots.length sc,.int .i64 g.init,.slice no g.next.length nc,.slice bo g.sets.length bc,.int .i64 g.many],.int .i64 (f:Int),.func (.func fi) #[] ci] w fun e w'=>∃ vo vc q,e=.returned (.slice vo q vc)/\Below w.heap.size w w'/\Hid (∃ l,l.length=q/\q <= 2000000/\LoopOk g f l/\w'.ownsRow w.heap.size 3 1 (.slice vo q vc) q (nvals l)):=by
 obtain ⟨i0,hi0,hz0,hz1,hz2⟩:=info_parts infoInt;have hn:=hok.head.n;have hgn:=hok.head.next;have hgs:=hok.head.sets
 have hV2:GraphV w (.slice so g.spots.length sc) (.slice no g.spots.length nc) (.slice bo g.spots.length bc) g:=by
  have:=hV;rw [hgn,hgs] at this;exact this
 obtain ⟨fb,foff,hbo,hfb,hcf⟩:∃ b off,bo=some ⟨b,off,none⟩/\b < w.heap.size/\w.cell? ⟨b,off+f,none⟩=some (.int .i64 (sN g f:Int)):=by
  obtain ⟨b,off,e,hb,hc⟩:=hV2.sets.num (i:=f) (by rw [hgs];exact hf)
  exact ⟨b,off,e,hb,by rw [hc,(hok.sN hf).1]⟩
 have HSet:Hid (∀ w1,Below w.heap.size w w1->∀ k,k < g.spots.length->∃ b off,bo=some ⟨b,off,none⟩/\b < w1.heap.size/\w1.cell? ⟨b,off+k,none⟩=some (.int .i64 (sN g k:Int))):=fun w1 hb k hk=>by
  obtain ⟨b,off,e,hbl,hc⟩:=hV2.sets.num (i:=k) (by rw [hgs];exact hk)
  exact ⟨b,off,e,Nat.lt_of_lt_of_le hbl hb.size,by rw [(hb.cell (p:=⟨b,off+k,none⟩) hbl),hc,(hok.sN hk).1]⟩
 have HRow:Hid (NextRows w no g.spots.length (nxt g)):=graph_rows hok hV;have HXL:Hid (∀ i,i < g.spots.length->(nxt g i).length <= 140737488355328):=fun i hi=>by rw [nxt_length];exact hz.rows i (by rw [hgn];exact hi)
 have HAll:Hid (∀ w1,Calls Tryz.prog 52 #[.agg #[.slice so g.spots.length sc,.int .i64 g.init,.slice no g.spots.length nc,.slice bo g.spots.length bc,.int .i64 g.many]] w1 fun e w'=>e=.returned (.int .i64 ((2 ^ mN g - 1:Nat):Int))/\Below w1.heap.size w1 w'):=fun w1=>by
  have:=allSets_any so no bo g.spots.length sc g.spots.length nc g.spots.length bc g w1 hok.head.many0 hok.head.many6;rw [hok.mN.2.2] at this;exact this
 have HWay:Hid (∀ w1 po pc (x:Nat) fw cw want,Below w.heap.size w w1->x < g.spots.length->NatsV w1 (.slice po (nxt g x).length pc) (nxt g x)->FnB w1 w1.heap.size g.spots.length (.func (.func fw) #[] cw) want->¬ NoWay ins want (nxt g) (nxt g x)->Calls Tryz.prog 31 #[.agg #[.slice so g.spots.length sc,.int .i64 g.init,.slice no g.spots.length nc,.slice bo g.spots.length bc,.int .i64 g.many],.slice po (nxt g x).length pc,.func (.func fi) #[] ci,.func (.func fw) #[] cw] w1 fun e w'=>∃ vo vc q,e=.returned (.slice vo q vc)/\Below w1.heap.size w1 w'/\Hid (∃ l,l.length=q/\WayOk g.spots.length ins want (nxt g) (nxt g x) l/\w'.ownsRow w1.heap.size 3 1 (.slice vo q vc) q (nvals l))):=fun w1 po pc x fw cw want hb hx hN hW hno=>by
  have hfi:FnB w1 w1.heap.size g.spots.length (.func (.func fi) #[] ci) ins:=by
   obtain ⟨fn,caps,h1,h2,h3⟩:=hI;exact ⟨fn,caps,h1,h2,fun w' hb' q hq=>h3 w' (hb.trans (hb'.mono hb.size)) q hq⟩
  have h:=way_any so no bo po sc nc bc pc g (nxt g x) fi fw ci cw ins want w1 hok (fun i hi=>hz.rows i (by rw [hgn];exact hi)) (hV.below hb) hN (by rw [nxt_length];exact hz.rows x (by rw [hgn];exact hx)) (fun y hy=>nxt_lt hok hx hy) hfi hW
  rw [hgn,hgs] at h;refine h.mono fun e w' ⟨vo,vc,q,h1,h2,h3⟩=>⟨vo,vc,q,h1,h2,?_⟩
  obtain ⟨l,h4,h5,h6⟩:=h3.out
  rcases h5 with ⟨_,h7⟩ | h7
  ·exact absurd h7 hno
  ·exact ⟨l,h4,h7,h6⟩
 have HOr:Hid (∀ a:Nat,a < 2 ^ mN g->∀ k,k < g.spots.length->bits BinOp.or IntKind.i64 (a:Int) (sN g k:Int)=((a ||| sN g k:Nat):Int)):=fun a ha k hk=>by
  have h6:=pow64 hok.mN.1;have h2:=(hok.sN hk).2;exact or_nat0 _ (by omega) _ (by omega)
 have hm64:2 ^ mN g <= 64:=pow64 hok.mN.1;have HOK:Hid (GOk g):=hok;have HF:Hid (FairX g f):=hF;have HIn:Hid (InPart g f ins):=hIn;have HSN:Hid (∀ k,k < g.spots.length->sN g k < 2 ^ mN g):=fun k hk=>(hok.sN hk).2
 rw [hgn,hgs];have HL0:Hid (LpOk g f [f] (sN g f)):=LpOk.start hf;have H0:=LoopW.start w so no bo sc nc bc g.spots.length g.init g.many f (sN g f);have hsf:=(hok.sN hf).2;clear hV hV2 hok hz hF hIn hI hgn hgs;obtain ⟨n,hnn⟩:∃ n,n=g.spots.length:=⟨_,rfl⟩
 have HNN:Hid (n=g.spots.length):=hnn;rw [<- hnn] at H0 HRow HXL HAll HWay HOr HSN HSet hf hn ⊢;generalize g.init=gi at *;generalize g.many=gm at *
 have H0':Hid (LoopW w ((((w.alloc (.cells #[.slice so n sc,.int .i64 gi,.slice no n nc,.slice bo n bc,.int .i64 gm] 64)).alloc (.cells #[.int .i64 (f:Int)] 3)).alloc (.cells #[.int .i64 (f:Int)] 3)).alloc (.cells #[.int .i64 (sN g f:Int)] 3)) w.heap.size so no bo sc nc bc n gi gm f (sN g f) (.slice (some ⟨w.heap.size+1+1,0,none⟩) 1 1) [f]):=H0;clear H0 hnn;subst hbo
 generalize sN g f=m0 at *
 have ecf:(((w.alloc (.cells #[.slice so n sc,.int .i64 gi,.slice no n nc,.slice (some ⟨fb,foff,none⟩) n bc,.int .i64 gm] 64)).alloc (.cells #[.int .i64 (f:Int)] 3)).alloc (.cells #[.int .i64 (f:Int)] 3)).cell? ⟨fb,foff+f,none⟩=some (.int .i64 (m0:Int)):=by
  rw [World.cell?_alloc_lt,World.cell?_alloc_lt,World.cell?_alloc_lt]
  ·exact hcf
  all_goals (simp;try omega)
 go_enter Tryz.func35,Tryz.ntmps35
 go_wp2_with fail
 clear ecf hcf;have hk0:m0 < 64:=by omega
 go_loopg [7] (64 - m0) (fun k v wr=>∃ ll:Nat,Hid (∃ (lp:List Nat) (met:Nat),lp.length=ll/\LpOk g f lp met/\k+met=64/\ll <= 1+met*20000/\LoopW w wr w.heap.size so no (some ⟨fb,foff,none⟩) sc nc bc n gi gm f met v lp))
 case atStart=>exact ⟨1,[f],m0,rfl,HL0.out,by omega,by omega,H0'.out⟩
 case round=>
  obtain ⟨ll,HR⟩:=hrel;obtain ⟨lp,met,hll,hlo,hkm,hlb,hW⟩:=HR.out;obtain ⟨vo,vc,rfl⟩:=owns_slice hW.ow;rw [hll] at hW ⊢;have hmlt:met < 2 ^ mN g:=hlo.lt HOK.out;have hlb2:ll <= 1260001:=by omega
  have hllpos:0 < ll:=by
   have:=hlo.ne
   cases lp with
   | nil=>exact absurd rfl this
   | cons a l=>simp at hll;omega
  obtain ⟨gx,cx,hvv,hg1,hg2⟩:=(hll ▸ hW.ow:wr.ownsRow (w.heap.size+2) 3 1 (.slice vo ll vc) ll (nvals lp)).form hllpos
  injection hvv with e1 e2 e3
  subst e1 e3;obtain ⟨l1,hl1⟩:∃ l1,ll=l1+1:=⟨ll - 1,by omega⟩
  obtain ⟨_,_,hcl⟩:=owns_cells (l:=lp) (by rw [hll];exact hll ▸ hW.ow)
  have hx1:=hlo.mem _ (last_mem hlo.ne);have hel:=hcl (lp.length - 1) (by omega)
  obtain ⟨x,hx⟩:∃ x,x=lp.getD (lp.length - 1) 0:=⟨_,rfl⟩
  rw [<- hx] at hel hx1;have hxn:x < n:=by rw [HNN.out];exact hx1.2
  have hel':wr.cell? ⟨gx,l1,none⟩=some (.int .i64 (x:Int)):=by rw [<- hel];congr 2;omega
  have HX:Hid (x=lp.getD (lp.length - 1) 0):=hx;have HLo:Hid (LpOk g f lp met):=hlo;have HLW:Hid (LoopW w wr w.heap.size so no (some ⟨fb,foff,none⟩) sc nc bc n gi gm f met (.slice (some ⟨gx,0,none⟩) ll vc) lp):=hW;have HLL:Hid (lp.length=ll):=hll;have HKM:Hid (gk+met=64):=hkm;obtain ⟨nb,noff,rfl,hnb,uo,uc,hcu,hnv⟩:=HRow.out x hxn
  have HNv:Hid (NatsV w (.slice uo (nxt g x).length uc) (nxt g x)):=hnv;have hxl:=HXL.out x hxn;have hszr:=hW.size
  have HS:Hid (∀ w',Below wr.heap.size wr w'->LoopW w w' w.heap.size so (some ⟨nb,noff,none⟩) (some ⟨fb,foff,none⟩) sc nc bc n gi gm f met (.slice (some ⟨gx,0,none⟩) ll vc) lp/\w'.cell? ⟨gx,l1,none⟩=some (.int .i64 (x:Int))/\w'.cell? ⟨nb,noff+x,none⟩=some (.slice uo (nxt g x).length uc)):=fun w' hb=>by
   have h1:=HLW.out.later hb;exact ⟨h1,(hb.cell (p:=⟨gx,l1,none⟩) hg2).trans hel',(h1.below.cell (p:=⟨nb,noff+x,none⟩) hnb).trans hcu⟩
  have hS:∀ w',Below wr.heap.size wr w'->w'.cell? ⟨w.heap.size,0,none⟩=some (.slice so n sc)/\w'.cell? ⟨w.heap.size,1,none⟩=some (.int .i64 gi)/\w'.cell? ⟨w.heap.size,2,none⟩=some (.slice (some ⟨nb,noff,none⟩) n nc)/\w'.cell? ⟨w.heap.size,3,none⟩=some (.slice (some ⟨fb,foff,none⟩) n bc)/\w'.cell? ⟨w.heap.size,4,none⟩=some (.int .i64 gm)/\w'.cell? ⟨w.heap.size+1+1+1,0,none⟩=some (.int .i64 (met:Int))/\w'.cell? ⟨gx,l1,none⟩=some (.int .i64 (x:Int))/\w'.cell? ⟨nb,noff+x,none⟩=some (.slice uo (nxt g x).length uc):=fun w' hb=>by
   obtain ⟨h1,h2,h3⟩:=HS.out w' hb;exact ⟨h1.c0,h1.c1,h1.c2,h1.c3,h1.c4,h1.cm,h2,h3⟩
  obtain ⟨ln,hln⟩:∃ ln,ln=(nxt g x).length:=⟨_,rfl⟩
  have HLN:Hid (ln=(nxt g x).length):=hln;rw [<- hln] at hS hxl;have hal:=HAll.out wr.drew;obtain ⟨tp,htp⟩:∃ tp,tp=2 ^ mN g - 1:=⟨_,rfl⟩
  have HTP:Hid (tp=2 ^ mN g - 1):=htp;rw [<- htp] at hal;have hmf:∀ (fn:Fn) (first cap:Array Value) (w:World),(Instr.makeFunc fn first cap).run Tryz.prog w=.ok (.func fn first cap) w:=fun _ _ _ _=>rfl
  clear hcu hnv hel hel' hcl hx hlo hW hll hkm HR hln htp hx1;subst hl1;have j2:(l1:Int)+1 - 1=(l1:Int):=by omega
  have j8:IntKind.i64.wrap (l1:Int)=(l1:Int):=by rw [IntKind.wrap_i64];omega
  have j6:IntKind.i64.wrap ((l1:Int)+1 - 1)=(l1:Int):=by rw [j2];exact j8
  have k1:((l1+1:Nat):Int) - 1=(l1:Int):=by omega
  have k2:IntKind.i64.wrap (((l1+1:Nat):Int) - 1)=(l1:Int):=by rw [k1];exact j8
  have k4:(l1:Int) < ((l1+1:Nat):Int):=by omega
  have hli1:(0:Int) <= (l1:Int):=by omega
  have hli2:(l1:Int) < (l1:Int)+1:=by omega
  by_cases hmt:met=tp
  ·subst hmt
   go_wp2_with fail
   go_region_held3 (fun w'=>w'.cell? ⟨w.heap.size,0,none⟩=some (.slice so n sc)/\w'.cell? ⟨w.heap.size,1,none⟩=some (.int .i64 gi)/\w'.cell? ⟨w.heap.size,2,none⟩=some (.slice (some ⟨nb,noff,none⟩) n nc)/\w'.cell? ⟨w.heap.size,3,none⟩=some (.slice (some ⟨fb,foff,none⟩) n bc)/\w'.cell? ⟨w.heap.size,4,none⟩=some (.int .i64 gm)/\w'.cell? ⟨w.heap.size+1+1+1,0,none⟩=some (.int .i64 (met:Int))/\w'.cell? ⟨gx,l1,none⟩=some (.int .i64 (x:Int))/\w'.cell? ⟨nb,noff+x,none⟩=some (.slice uo ln uc))
    (exact hS _ (by first | exact (Below.refl _ _).drew | exact Below.refl _ _ | exact undrewB hb2))
    ((go_at_call 52;refine hal.mono ?_;rintro e w2 ⟨rfl,hb2⟩))
   have hb2':=undrewB hb2;obtain ⟨hW2,_,_⟩:=HS.out w2 hb2';have hbw2:=hW2.below;have hsz2:=hW2.size;have HB2:Hid (Below wr.heap.size wr w2.drew):=hb2'.drew
   have hno:¬ NoWay ins (fun p=>decide (p=f)) (nxt g) (nxt g x):=by
    have:=HLo.out.home HOK.out (by rw [<- HNN.out];exact hf) HF.out HIn.out (want:=fun p=>decide (p=f)) (fun _ _=>rfl)
    rw [<- HX.out] at this;exact this
   have hway:=HWay.out w2.drew uo uc x _ _ _ hbw2.drew hxn (HNv.out.below hbw2.drew) (home_fn w2.drew w.heap.size n f hsz2 hW2.cf) hno;rw [<- HLN.out] at hway;clear hno hal hb2 hb2' HAll HWay hW2
   go_wp2_with fail
   go_region_held3 (fun w'=>w'.cell? ⟨w.heap.size,0,none⟩=some (.slice so n sc)/\w'.cell? ⟨w.heap.size,1,none⟩=some (.int .i64 gi)/\w'.cell? ⟨w.heap.size,2,none⟩=some (.slice (some ⟨nb,noff,none⟩) n nc)/\w'.cell? ⟨w.heap.size,3,none⟩=some (.slice (some ⟨fb,foff,none⟩) n bc)/\w'.cell? ⟨w.heap.size,4,none⟩=some (.int .i64 gm)/\w'.cell? ⟨w.heap.size+1+1+1,0,none⟩=some (.int .i64 (met:Int))/\w'.cell? ⟨gx,l1,none⟩=some (.int .i64 (x:Int))/\w'.cell? ⟨nb,noff+x,none⟩=some (.slice uo ln uc))
    (exact hS _ (by first | exact HB2.out | exact HB2.out.trans (hb3.mono HB2.out.size)))
    ((go_at_call 31;refine hway.mono ?_;rintro e w3 ⟨vo3,vc3,q3,rfl,hb3,HM⟩))
   obtain ⟨l,hlq,hwo,hro3⟩:=HM.out
   have hq3:0 < q3:=by
    have:=hwo.ne
    cases l with
    | nil=>exact absurd rfl this
    | cons a l=>simp at hlq;omega
   have hq20:q3 <= 20000:=by have:=hwo.len;omega
   obtain ⟨g3,c3,hvv3,hg31,hg32⟩:=hro3.form hq3
   injection hvv3 with e1 e2 e3
   subst e1 e3;obtain ⟨q,rfl⟩:∃ q,q3=q+1:=⟨q3 - 1,by omega⟩
   have hb23:Below wr.heap.size wr w3:=HB2.out.trans (hb3.mono HB2.out.size);have hW3:=HLW.out.later hb23
   have how3:w3.ownsRow (w.heap.size+2) 3 1 (.slice (some ⟨gx,0,none⟩) (l1+1) vc) (l1+1) (nvals lp):=by
    have:=hW3.ow;rw [HLL.out] at this;exact this
   obtain ⟨hqc,_,hcl3⟩:=owns_cells (l:=l) (by rw [hlq];exact hro3)
   have HLoop:Hid (LoopOk g f (lp++l.take (l.length - 1))):=HLo.out.close HOK.out HTP.out (by rw [<- HX.out];rw [<- HNN.out];exact hwo) (fun _ _=>rfl)
   have hnews:∀ j u,(nvals (l.take q))[j]? = some u->w3.cell? ((⟨g3,0,none⟩:Addr).add j)=some u:=own_news hcl3 (by omega)
   have hone:∀ u∈nvals (l.take q),u.oneCell'=true:=fun u hu=>by
    obtain ⟨y,_,rfl⟩:=List.mem_map.1 hu;rfl
   have hlen:(nvals (l.take q)).length=q*1:=by simp [nvals];omega
   have h63:l1+1+q <= maxLen:=by unfold maxLen;omega
   have hkb:(l1+1+q)*8 <= 140737488355328:=by omega
   have hbase:w.heap.size+2 <= w3.heap.size:=by have:=hW3.size;omega
   have hlt3:=how3.lt;have hbw3:=hW3.below;have hlq':l.length - 1=q:=by omega
   rw [hlq'] at HLoop;have HLlen:Hid ((lp++l.take q).length=l1+1+q):=by show _=_;rw [List.length_append,HLL.out,List.length_take];omega
   have hqc2:q+1 <= vc3:=by omega
   clear hW3 hcl3 hro3 hwo HM hway hlq hlq' hmf hS
   go_wp2_with (at_builtin;refine wpList_append_own _ rfl (.tmp 69) (.tmp 74) 36 rfl (w.heap.size+2) 3 i0 (.int .i64 0) 1 8 Tryz.underlying36 hi0 hz0 hz1 hz2 rfl (by decide) (.slice (some ⟨gx,0,none⟩) (l1+1) vc) (l1+1) _ rfl how3 ⟨g3,0,none⟩ q vc3 (nvals (l.take q)) rfl hlen hnews hone h63 hkb hbase ?_;intro v' w5 hown' hgrow _;obtain ⟨vo5,vc5,rfl⟩:=owns_slice hown')
   go_ret
   refine ⟨_,_,_,rfl,hbw3.grown hgrow hbw3.size (fun z hz=>by have:=(hlt3 z hz).1;omega),lp++l.take q,HLlen.out,by omega,HLoop.out,?_⟩
   rw [nvals,List.map_append];exact owns_mono hown' (by omega)
  ·have hmt2:¬ (met:Int)=(tp:Int):=by omega
   go_wp2_with fail
   go_region_held3 (fun w'=>w'.cell? ⟨w.heap.size,0,none⟩=some (.slice so n sc)/\w'.cell? ⟨w.heap.size,1,none⟩=some (.int .i64 gi)/\w'.cell? ⟨w.heap.size,2,none⟩=some (.slice (some ⟨nb,noff,none⟩) n nc)/\w'.cell? ⟨w.heap.size,3,none⟩=some (.slice (some ⟨fb,foff,none⟩) n bc)/\w'.cell? ⟨w.heap.size,4,none⟩=some (.int .i64 gm)/\w'.cell? ⟨w.heap.size+1+1+1,0,none⟩=some (.int .i64 (met:Int))/\w'.cell? ⟨gx,l1,none⟩=some (.int .i64 (x:Int))/\w'.cell? ⟨nb,noff+x,none⟩=some (.slice uo ln uc))
    (exact hS _ (by first | exact (Below.refl _ _).drew | exact Below.refl _ _ | exact undrewB hb2))
    ((go_at_call 52;refine hal.mono ?_;rintro e w2 ⟨rfl,hb2⟩))
   have hb2':=undrewB hb2;obtain ⟨hW2,_,_⟩:=HS.out w2 hb2';have hbw2:=hW2.below;have hsz2:=hW2.size;have HB2:Hid (Below wr.heap.size wr w2.drew):=hb2'.drew
   have hno:¬ NoWay ins (fun p=>decide (met ||| sN g p≠met)) (nxt g) (nxt g x):=by
    have:=HLo.out.more HOK.out (by rw [<- HNN.out];exact hf) HF.out HIn.out (by rw [<- HTP.out];exact hmt) (want:=fun p=>decide (met ||| sN g p≠met)) (fun _ _=>rfl)
    rw [<- HX.out] at this;exact this
   have hway:=HWay.out w2.drew uo uc x _ _ _ hbw2.drew hxn (HNv.out.below hbw2.drew) (newSet_fn w2.drew w.heap.size (some ⟨fb,foff,none⟩) bc n met g HOK.out HNN.out hsz2 hW2.c3 hW2.cm (by omega) (HSet.out w2.drew hbw2.drew)) hno
   rw [<- HLN.out] at hway;clear hno hal hb2 hb2' HAll HWay hW2
   go_wp2_with fail
   go_region_held3 (fun w'=>w'.cell? ⟨w.heap.size,0,none⟩=some (.slice so n sc)/\w'.cell? ⟨w.heap.size,1,none⟩=some (.int .i64 gi)/\w'.cell? ⟨w.heap.size,2,none⟩=some (.slice (some ⟨nb,noff,none⟩) n nc)/\w'.cell? ⟨w.heap.size,3,none⟩=some (.slice (some ⟨fb,foff,none⟩) n bc)/\w'.cell? ⟨w.heap.size,4,none⟩=some (.int .i64 gm)/\w'.cell? ⟨w.heap.size+1+1+1,0,none⟩=some (.int .i64 (met:Int))/\w'.cell? ⟨gx,l1,none⟩=some (.int .i64 (x:Int))/\w'.cell? ⟨nb,noff+x,none⟩=some (.slice uo ln uc))
    (exact hS _ (by first | exact HB2.out | exact HB2.out.trans (hb3.mono HB2.out.size)))
    ((go_at_call 31;refine hway.mono ?_;rintro e w3 ⟨vo3,vc3,q3,rfl,hb3,HM⟩))
   obtain ⟨l,hlq,hwo,hro3⟩:=HM.out
   have hq3:0 < q3:=by
    have:=hwo.ne
    cases l with
    | nil=>exact absurd rfl this
    | cons a l=>simp at hlq;omega
   have hq20:q3 <= 20000:=by have:=hwo.len;omega
   obtain ⟨g3,c3,hvv3,hg31,hg32⟩:=hro3.form hq3
   injection hvv3 with e1 e2 e3
   subst e1 e3;have hg31':w2.heap.size <= g3:=hg31;have hb23:Below wr.heap.size wr w3:=HB2.out.trans (hb3.mono HB2.out.size);have HW3:Hid (LoopW w w3 w.heap.size so (some ⟨nb,noff,none⟩) (some ⟨fb,foff,none⟩) sc nc bc n gi gm f (orL (sN g) met (l.take 0)) (.slice (some ⟨gx,0,none⟩) (l1+1) vc) lp):=HLW.out.later hb23
   have HRo:Hid (w3.ownsRow w2.heap.size 3 1 (.slice (some ⟨g3,0,none⟩) q3 vc3) q3 (nvals l)):=hro3;obtain ⟨HPut,hgrowm⟩:=HLo.out.put HIn.out (want:=fun p=>decide (met ||| sN g p≠met)) (l:=l) (by rw [<- HX.out,<- HNN.out];exact hwo) (fun _ _=>rfl)
   have HPu:Hid (LpOk g f (lp++l) (orL (sN g) met l)):=HPut;have HLin:Hid (∀ j,j < q3->l.getD j 0 < n):=fun j hj=>(hwo.ins _ (by rw [List.getD_eq_getElem?_getD,List.getElem?_eq_getElem (by omega)];exact List.getElem_mem _)).2
   have HML:Hid (∀ q,orL (sN g) met (l.take q) < 2 ^ mN g):=fun q=>orL_lt _ _ hmlt (fun y hy=>HSN.out y (hwo.ins y (List.mem_of_mem_take hy)).2)
   have HMS:Hid (∀ q,q < q3->orL (sN g) met (l.take (q+1))=orL (sN g) met (l.take q) ||| sN g (l.getD q 0)):=fun q hq=>by
    rw [List.take_succ_eq_append_getElem (by omega),orL_snoc,List.getD_eq_getElem?_getD,List.getElem?_eq_getElem (by omega)];rfl
   have HLq:Hid (l.length=q3):=hlq;clear hway HM hro3 hwo HPut hlq HB2 hS
   go_wp2_with fail
   generalize wr=wo at *
   go_loopw [40] (fun i wr=>∃ q:Nat,q <= q3/\i=.int .i64 q/\Hid (LoopW w wr w.heap.size so (some ⟨nb,noff,none⟩) (some ⟨fb,foff,none⟩) sc nc bc n gi gm f (orL (sN g) met (l.take q)) (.slice (some ⟨gx,0,none⟩) (l1+1) vc) lp/\wr.ownsRow w2.heap.size 3 1 (.slice (some ⟨g3,0,none⟩) q3 vc3) q3 (nvals l))) (fun i _=>q3 - (intOf i).toNat)
   case atStart=>exact ⟨0,Nat.zero_le _,rfl,HW3.out,HRo.out⟩
   case round=>
    obtain ⟨q,hq,rfl,HQ⟩:=hrel;obtain ⟨hLWq,hroq⟩:=HQ.out;obtain ⟨_,_,hclq⟩:=owns_cells (l:=l) (by rw [HLq.out];exact hroq)
    by_cases hlq:q < q3
    ·have e1:=hclq q (by rw [HLq.out];exact hlq)
     have hyn:=HLin.out q hlq;obtain ⟨sb,soff,hsbe,hsb,e2⟩:=HSet.out wr hLWq.below (l.getD q 0) hyn
     injection hsbe with hsbe
     injection hsbe with hs1 hs2
     subst hs1 hs2;have e3:=hLWq.c3;have e4:wr.cell? ⟨w.heap.size+1+1+1,0,none⟩=some (.int .i64 (orL (sN g) met (l.take q):Int)):=hLWq.cm;have e5:wr.frozen? ⟨w.heap.size+1+1+1,0,none⟩=false:=hLWq.fm;have hor:=HOr.out (orL (sN g) met (l.take q)) (HML.out q) (l.getD q 0) hyn;rw [<- HMS.out q hlq] at hor
     have HN:Hid (LoopW w (wr.setCell ⟨w.heap.size+1+1+1,0,none⟩ (.int .i64 (orL (sN g) met (l.take (q+1)):Int))).drew w.heap.size so (some ⟨nb,noff,none⟩) (some ⟨fb,foff,none⟩) sc nc bc n gi gm f (orL (sN g) met (l.take (q+1))) (.slice (some ⟨gx,0,none⟩) (l1+1) vc) lp/\(wr.setCell ⟨w.heap.size+1+1+1,0,none⟩ (.int .i64 (orL (sN g) met (l.take (q+1)):Int))).drew.ownsRow w2.heap.size 3 1 (.slice (some ⟨g3,0,none⟩) q3 vc3) q3 (nvals l)):=by
      have h9:=hLWq.setMet (orL (sN g) met (l.take (q+1)))
      have h10:LoopW w (wr.setCell ⟨w.heap.size+1+1+1,0,none⟩ (.int .i64 (orL (sN g) met (l.take (q+1)):Int))).drew w.heap.size so (some ⟨nb,noff,none⟩) (some ⟨fb,foff,none⟩) sc nc bc n gi gm f (orL (sN g) met (l.take (q+1))) (.slice (some ⟨gx,0,none⟩) (l1+1) vc) lp:=h9.blocks h9.below.drew (Nat.le_refl _) rfl rfl rfl h9.ow h9.ap
      exact ⟨h10,ownsRow_setCell_below hroq (by show w.heap.size+3 < _;omega) _⟩
     rw [<- hor] at HN;clear hLWq hroq hclq HQ hor;generalize orL (sN g) met (l.take q)=mq at *;generalize l.getD q 0=y at *;generalize sN g y=sy at *
     go_upto_region 8 with fail
     go_region
     go_wp2_with fail
     go_roundw
     case rel=>exact ⟨q+1,hlq,by go_num,HN⟩
     case measure=>simp [intOf];omega
    ·obtain rfl:q=q3:=by omega
     have hTk:l.take q=l:=by rw [<- HLq.out];exact List.take_length
     have hnews:∀ j u,(nvals l)[j]? = some u->wr.cell? ((⟨g3,0,none⟩:Addr).add j)=some u:=by
      have:=own_news hclq (Nat.le_refl l.length);rw [List.take_length] at this;exact this
     rw [hTk] at hLWq
     have hone:∀ u∈nvals l,u.oneCell'=true:=fun u hu=>by
      obtain ⟨y,_,rfl⟩:=List.mem_map.1 hu;rfl
     have hlen:(nvals l).length=q*1:=by simp [nvals];exact HLq.out
     have h63:l1+1+q <= maxLen:=by unfold maxLen;omega
     have hkb:(l1+1+q)*8 <= 140737488355328:=by omega
     have hszq:=hLWq.size;have hbase:w.heap.size+2 <= wr.heap.size:=by omega
     have howq:wr.ownsRow (w.heap.size+2) 3 1 (.slice (some ⟨gx,0,none⟩) (l1+1) vc) (l1+1) (nvals lp):=by
      have:=hLWq.ow;rw [HLL.out] at this;exact this
     have HLWq:Hid (LoopW w wr w.heap.size so (some ⟨nb,noff,none⟩) (some ⟨fb,foff,none⟩) sc nc bc n gi gm f (orL (sN g) met l) (.slice (some ⟨gx,0,none⟩) (l1+1) vc) lp):=hLWq;have HG:Hid (met < orL (sN g) met l/\orL (sN g) met l < 64):=⟨hgrowm,by have:=HML.out q;rw [hTk] at this;omega⟩
     clear hLWq hroq hclq HQ
     go_wp2_with (at_builtin;refine wpList_append_lies _ rfl (.tmp 52) (.tmp 53) 36 rfl (w.heap.size+2) 3 i0 (.int .i64 0) 1 8 Tryz.underlying36 hi0 hz0 hz1 hz2 rfl (by decide) (.slice (some ⟨gx,0,none⟩) (l1+1) vc) (l1+1) _ rfl howq ⟨g3,0,none⟩ q vc3 (nvals l) rfl hlen hnews hone hq3 h63 hkb hbase _ rfl ?_;intro g5 c5 w5 hown5 hgrow5 hor5 _)
     have hap:=HLWq.out.ap;have hlt9:=howq.lt;have hgx2:w.heap.size+2 <= gx/\gx < wr.heap.size:=hlt9 gx rfl;have hgx3:gx≠w.heap.size+3:=fun e=>hap (by rw [e];rfl)
     have hW5:LoopW w w5 w.heap.size so (some ⟨nb,noff,none⟩) (some ⟨fb,foff,none⟩) sc nc bc n gi gm f (orL (sN g) met l) (.slice (some ⟨g5,0,none⟩) (l1+1+q) c5) (lp++l):=by
      have hbl:∀ i,i < wr.heap.size->i≠gx->w5.heap[i]? = wr.heap[i]?:=fun i hi hne=>hgrow5.block i hi (fun e=>hne (by injection e))
      refine HLWq.out.blocks (HLWq.out.below.grown hgrow5 (by omega) (fun z hz=>by have:=(hlt9 z hz).1;omega)) hgrow5.size (hbl _ (by omega) (by omega)) (hbl _ (by omega) (by omega)) (hbl _ (by omega) (fun e=>hgx3 e.symm)) ?_ ?_
      ·rw [List.length_append,HLL.out,HLq.out,nvals,List.map_append];exact hown5
      ·intro e
       have e':g5=w.heap.size+3:=by injection e
       rcases hor5 with h | h
       ·rw [e'] at h;exact hap h
       ·omega
     have HN:Hid (∃ (lp:List Nat) (met:Nat),lp.length=l1+1+q/\LpOk g f lp met/\(64 - orL (sN g) (64 - gk) l)+met=64/\l1+1+q <= 1+met*20000/\LoopW w w5 w.heap.size so (some ⟨nb,noff,none⟩) (some ⟨fb,foff,none⟩) sc nc bc n gi gm f met (.slice (some ⟨g5,0,none⟩) (l1+1+q) c5) lp):=by
      have h1:=HG.out;have h2:64 - gk=met:=by have:=HKM.out;omega
      refine ⟨lp++l,orL (sN g) met l,by rw [List.length_append,HLL.out,HLq.out],HPu.out,by rw [h2];omega,by omega,hW5⟩
     go_roundg (64 - orL (sN g) (64 - gk) l)
     case measure=>
      have h1:=HG.out;have h2:64 - gk=met:=by have:=HKM.out;omega
      rw [h2];have:=HKM.out;omega
     case rel=>exact ⟨l1+1+q,HN⟩
theorem Trail.join {nx:Nat->List Nat} {f:Nat} {r:List Nat}:∀ {a:List Nat},Trail nx (a++[f])->Trail nx (f:: r)->Trail nx (a++f:: r)
 | [],_,h=>h
 | [_],h1,h=>⟨h1.1,h⟩
 | _:: y:: a,h1,h=>⟨h1.1,Trail.join (a:=y:: a) h1.2 h⟩
theorem filter_all (nx:Nat->List Nat):(fun i=>(nx i).filter (fun _=>true))=nx:=by
 funext i
 simp
open Classical in
theorem noWay_none {g:Gr} (h:NoWay (fun _=>true) (fun x=>decide (FairX g x)) (nxt g) (List.range g.init.toNat)):fairV g=0/\fairC g=11:=by
 refine fair_none fun j _ ⟨⟨f,hf,hw⟩,h2⟩=>?_
 have:=h f hf rfl j (by rw [filter_all];exact hw)
 exact absurd h2 (of_decide_eq_false this)
theorem take_last {l:List Nat} (h:l≠[]):l.take (l.length - 1)++[l.getD (l.length - 1) 0]=l:=by
 have hpos:0 < l.length:=by
  cases l with
  | nil=>exact absurd rfl h
  | cons a l=>simp
 have h3:l=l.take (l.length - 1+1):=by rw [List.take_of_length_le (by omega)]
 conv=>rhs;rw [h3,List.take_succ_eq_append_getElem (by omega)]
 rw [List.getD_eq_getElem?_getD,List.getElem?_eq_getElem (by omega)];rfl
open Classical in
theorem lasso_ok {g:Gr} (hg:GOk g) {l lp:List Nat} (h:WayOk g.spots.length (fun _=>true) (fun x=>decide (FairX g x)) (nxt g) (List.range g.init.toNat) l) (hl:LoopOk g (l.getD (l.length - 1) 0) lp):LassoOk g (l.take (l.length - 1)) lp/\fairC g=0:=by
 have hm:=last_mem h.ne;have hF:FairX g (l.getD (l.length - 1) 0):=of_decide_eq_true h.last;have hR:ReachX g (l.getD (l.length - 1) 0):=⟨_,h.head,h.trail.way h.ne⟩;have htl:=take_last h.ne;generalize hf:l.getD (l.length - 1) 0=f at *
 obtain ⟨r,rfl⟩:∃ r,lp=f:: r:=by
  cases lp with
  | nil=>exact absurd rfl hl.ne
  | cons a r=>exact ⟨r,by have:=hl.head;simp at this;rw [this]⟩
 have hini:=hg.head.init0;refine ⟨⟨by simp,?_,?_,fun x hx=>?_,hl.bits⟩,fair_some (h.ins f (by rw [<- hf];exact last_mem h.ne)).2 ⟨hR,hF⟩⟩
 ·rw [List.append_assoc]
  show Trail (nxt g) (l.take (l.length - 1)++(f:: (r++[f])))
  exact Trail.join (by rw [htl];exact h.trail) hl.trail
 ·have e:(l.take (l.length - 1)++f:: r).getD 0 0=l.getD 0 0:=by
   have h1:∀ a:List Nat,(a++f:: r).getD 0 0=(a++[f]).getD 0 0:=fun a=>by cases a <;> rfl
   rw [h1,htl]
  rw [e];have:=List.mem_range.1 h.head;omega
 ·rcases List.mem_append.1 hx with hx | hx
  ·exact (h.ins x (List.mem_of_mem_take hx)).2
  ·exact hl.lt x hx
theorem fair_fn (w0:World) (b B n:Nat) (F:Nat->Bool) (hb:b < w0.heap.size) (h:w0.cell? ⟨b,0,none⟩=some (.slice (some ⟨B,0,none⟩) n n)) (hr:w0.rowIs B 4 n (fun x=>.bool (F x))) :
    FnB w0 w0.heap.size n (.func (.func 34) #[] #[.pointer (some ⟨b,0,none⟩)]) F:=by
  refine ⟨_,_,rfl,fun args w=>by simp [go_sem],fun w' hw p hp=>?_⟩
  show Calls Tryz.prog 34 #[.int .i64 (p:Int),.pointer (some ⟨b,0,none⟩)] w' _
  have e1:=(hw.cell (p:=⟨b,0,none⟩) hb).trans h;have e2:=(row_laterG hr hw).cell hp;clear hr h
  go_enter Tryz.func34,Tryz.ntmps34
  go_wp2_with fail
  go_ret
  exact ⟨rfl,Below.refl _ _⟩
theorem part_fn (w0:World) (b b2 B n f:Nat) (pz:Nat->Nat) (hb:b < w0.heap.size) (hb2:b2 < w0.heap.size) (hf:f < n) (h:w0.cell? ⟨b,0,none⟩=some (.slice (some ⟨B,0,none⟩) n n)) (h2:w0.cell? ⟨b2,0,none⟩=some (.int .i64 (f:Int))) (hr:w0.rowIs B 3 n (natRow pz)) :
  FnB w0 w0.heap.size n (.func (.func 36) #[] #[.pointer (some ⟨b,0,none⟩),.pointer (some ⟨b2,0,none⟩)]) (fun p=>decide (pz p=pz f)):=by
 refine ⟨_,_,rfl,fun args w=>by simp [go_sem],fun w' hw p hp=>?_⟩
 have e:decide (pz p=pz f)=((pz p:Int) == (pz f:Int)):=by
  show _=decide ((pz p:Int)=(pz f:Int))
  rw [decide_eq_decide];omega
 show Calls Tryz.prog 36 #[.int .i64 (p:Int),.pointer (some ⟨b,0,none⟩),.pointer (some ⟨b2,0,none⟩)] w' fun e w2=>e=.returned (.bool (decide (pz p=pz f)))/\Below w'.heap.size w' w2
 rw [e];have e1:=(hw.cell (p:=⟨b,0,none⟩) hb).trans h;have e2:=(hw.cell (p:=⟨b2,0,none⟩) hb2).trans h2;have e3:w'.cell? ⟨B,p,none⟩=some (.int .i64 (pz p:Int)):=(row_laterG hr hw).cell hp;have e4:w'.cell? ⟨B,f,none⟩=some (.int .i64 (pz f:Int)):=(row_laterG hr hw).cell hf;clear hr h h2 e;generalize pz p=x at *;generalize pz f=y at *
 go_enter Tryz.func36,Tryz.ntmps36
 go_wp2_with fail
 go_quiet (fail)
 go_wp2_with fail
 go_ret
 exact ⟨rfl,below_drewN (Below.refl _ _) _⟩
def LassoV (g:Gr) (w':World) (v:Value) (c:Int):Prop:=(c=11/\fairC g=11/\v=.agg #[.slice none 0 0,.slice none 0 0])\/(c=0/\fairC g=0/\∃ so sc lo lc st lp,v=.agg #[.slice so st.length sc,.slice lo lp.length lc]/\st.length <= 20000/\lp.length <= 2000000/\LassoOk g st lp/\NatsV w' (.slice so st.length sc) st/\NatsV w' (.slice lo lp.length lc) lp)
theorem natsV_owns {w:World} {base:Nat} {v:Value} {l:List Nat} (h:w.ownsRow base 3 1 v l.length (nvals l)):NatsV w v l:=by
 rcases h.2 with ⟨e,h0⟩ | ⟨g,cap,cur,e,_⟩
 ·exact ⟨none,0,by rw [e,h0],fun hne=>by cases l with | nil=>exact absurd rfl hne | cons a l=>simp at h0⟩
 ·subst e
  obtain ⟨_,_,hc⟩:=owns_cells h;obtain ⟨_,hlt⟩:=h.lt g rfl;exact ⟨_,_,rfl,fun _=>⟨g,0,rfl,hlt,fun i hi=>by rw [Nat.zero_add];exact hc i hi⟩⟩
theorem natsV_take {w:World} {ao:Option Addr} {c:Nat} {l:List Nat} (h:NatsV w (.slice ao l.length c) l) {q:Nat} (hq:q <= l.length):NatsV w (.slice ao (l.take q).length c) (l.take q):=by
 obtain ⟨ao',cap,e,h2⟩:=h
 injection e with e1 e2 e3
 subst e1 e3;refine ⟨ao,c,rfl,fun hne=>?_⟩
 obtain ⟨b,off,e4,h4,h5⟩:=h2 (fun e=>hne (by rw [e];simp))
 refine ⟨b,off,e4,h4,fun i hi=>?_⟩
 have hi2:i < q:=by rw [List.length_take] at hi;omega
 rw [h5 i (by omega)]
 simp [List.getD_eq_getElem?_getD,hi2]
theorem slasso_ok (so no bo:Option Addr) (sc nc bc:Nat) (g:Gr) (w:World) (hz:GrLe g) (hV:GraphV w (.slice so g.spots.length sc) (.slice no g.next.length nc) (.slice bo g.sets.length bc) g) (hc:gcode g=0) :
  Calls Tryz.prog 16 #[.agg #[.slice so g.spots.length sc,.int .i64 g.init,.slice no g.next.length nc,.slice bo g.sets.length bc,.int .i64 g.many]] w fun e w'=>∃ v c,e=.returned (.tuple #[v,.int .i64 c])/\Below w.heap.size w w'/\Hid (LassoV g w' v c):=by
 classical
 have hok:=gcode_zero hc;have hgn:=hok.head.next;have hgs:=hok.head.sets;have hn:=hok.head.n;obtain ⟨gi,hgi⟩:∃ gi:Nat,g.init=gi:=⟨g.init.toNat,by have:=hok.head.init0;omega⟩
 have hgin:gi <= g.spots.length:=by have:=hok.head.init1;omega
 have hgt:g.init.toNat=gi:=by omega
 obtain ⟨W0,hW0⟩:∃ W0,W0=(w.alloc (.cells #[.slice so g.spots.length sc,.int .i64 (gi:Int),.slice no g.spots.length nc,.slice bo g.spots.length bc,.int .i64 g.many] 64)).alloc (.cells #[.slice none 0 0,.slice none 0 0] 38):=⟨_,rfl⟩
 have hA:Below w.heap.size w W0:=by rw [hW0];exact ((Below.refl _ _).alloc (Nat.le_refl _) _).alloc (by simp) _
 have hs0:W0.heap.size=w.heap.size+2:=by rw [hW0];simp
 have HK:Hid (∀ w1,Below W0.heap.size W0 w1->(w1.cell? ⟨w.heap.size,0,none⟩=some (.slice so g.spots.length sc)/\w1.cell? ⟨w.heap.size,1,none⟩=some (.int .i64 (gi:Int))/\w1.cell? ⟨w.heap.size,2,none⟩=some (.slice no g.spots.length nc)/\w1.cell? ⟨w.heap.size,3,none⟩=some (.slice bo g.spots.length bc)/\w1.cell? ⟨w.heap.size,4,none⟩=some (.int .i64 g.many))/\w1.cell? ⟨w.heap.size+1,0,none⟩=some (.slice none 0 0)/\w1.cell? ⟨w.heap.size+1,1,none⟩=some (.slice none 0 0)/\w1.frozen? ⟨w.heap.size+1,0,none⟩=false/\w1.frozen? ⟨w.heap.size+1,1,none⟩=false):=fun w1 hb=>by
  have hlt:w.heap.size+1 < W0.heap.size:=by omega
  have hlt0:w.heap.size < W0.heap.size:=by omega
  have c:∀ j,w1.cell? ⟨w.heap.size,j,none⟩=W0.cell? ⟨w.heap.size,j,none⟩:=fun j=>hb.cell (p:=⟨w.heap.size,j,none⟩) hlt0
  refine ⟨⟨(c _).trans ?_,(c _).trans ?_,(c _).trans ?_,(c _).trans ?_,(c _).trans ?_⟩,(hb.cell (p:=⟨w.heap.size+1,0,none⟩) hlt).trans ?_,(hb.cell (p:=⟨w.heap.size+1,1,none⟩) hlt).trans ?_,(hb.frozen (p:=⟨w.heap.size+1,0,none⟩) hlt).trans ?_,(hb.frozen (p:=⟨w.heap.size+1,1,none⟩) hlt).trans ?_⟩ <;> (rw [hW0];simp [go_sem])
 have hVb:∀ w1,Below W0.heap.size W0 w1->GraphV w1 (.slice so g.spots.length sc) (.slice no g.next.length nc) (.slice bo g.sets.length bc) g:=fun w1 hb=>(hV.below hA).below hb
 have hpa:=sparts_ok so no bo sc nc bc g W0 hz (hV.below hA) hc;rw [hgn,hgs,hgi] at hpa
 have HFs:Hid (∀ (w1:World) (B:Nat) pz,Below W0.heap.size W0 w1->w1.rowIs B 3 g.spots.length (natRow pz)->PzOk g pz->Calls Tryz.prog 30 #[.agg #[.slice so g.spots.length sc,.int .i64 (gi:Int),.slice no g.spots.length nc,.slice bo g.spots.length bc,.int .i64 g.many],.slice (some ⟨B,0,none⟩) g.spots.length g.spots.length] w1 fun e w'=>∃ Bf,e=.returned (.slice (some ⟨Bf,0,none⟩) g.spots.length g.spots.length)/\Below w1.heap.size w1 w'/\Hid (w'.rowIs Bf 4 g.spots.length (fun x=>.bool (decide (FairX g x))))):=fun w1 B pz hb h1 h3=>by
  have h:=fairSpots_any so no bo sc nc bc B g pz w1 hz (hVb w1 hb) hok h1 (fun x hx=>Nat.lt_of_le_of_lt (h3.le hx) hx)
  rw [hgn,hgs,hgi] at h;exact h.mono fun e w' ⟨Bf,e1,e2,e3⟩=>⟨Bf,e1,e2,e3.out.2.congr fun x hx=>by rw [fairB_x hok h3 hx]⟩
 have HFi:Hid (∀ w1,Calls Tryz.prog 32 #[.agg #[.slice so g.spots.length sc,.int .i64 (gi:Int),.slice no g.spots.length nc,.slice bo g.spots.length bc,.int .i64 g.many]] w1 fun e w'=>∃ vo vc,e=.returned (.slice vo (List.range gi).length vc)/\Below w1.heap.size w1 w'/\NatsV w' (.slice vo (List.range gi).length vc) (List.range gi)):=fun w1=>firsts_any so no bo _ sc _ nc _ bc gi g.many w1 (by omega)
 have HWy:Hid (∀ w1 vo vc fw cw want,Below W0.heap.size W0 w1->NatsV w1 (.slice vo (List.range gi).length vc) (List.range gi)->FnB w1 w1.heap.size g.spots.length (.func (.func fw) #[] cw) want->Calls Tryz.prog 31 #[.agg #[.slice so g.spots.length sc,.int .i64 (gi:Int),.slice no g.spots.length nc,.slice bo g.spots.length bc,.int .i64 g.many],.slice vo (List.range gi).length vc,.func (.func 33) #[] #[],.func (.func fw) #[] cw] w1 fun e w'=>∃ vo vc q,e=.returned (.slice vo q vc)/\Below w1.heap.size w1 w'/\Hid (∃ l,l.length=q/\WayPost g.spots.length (fun _=>true) want (nxt g) (List.range gi) l/\w'.ownsRow w1.heap.size 3 1 (.slice vo q vc) q (nvals l))):=fun w1 vo vc fw cw want hb hN hF=>by
  have h:=way_any so no bo vo sc nc bc vc g (List.range gi) 33 fw #[] cw (fun _=>true) want w1 hok (fun i hi=>hz.rows i (by rw [hgn];exact hi)) (hVb w1 hb) hN (by simp;omega) (fun x hx=>by have:=List.mem_range.1 hx;omega) (anywhere_fn _ _ _) hF
  rw [hgn,hgs,hgi] at h;exact h
 have HLf:Hid (∀ w1 f fi ci ins,Below W0.heap.size W0 w1->f < g.spots.length->FairX g f->InPart g f ins->FnB w1 w1.heap.size g.spots.length (.func (.func fi) #[] ci) ins->Calls Tryz.prog 35 #[.agg #[.slice so g.spots.length sc,.int .i64 (gi:Int),.slice no g.spots.length nc,.slice bo g.spots.length bc,.int .i64 g.many],.int .i64 (f:Int),.func (.func fi) #[] ci] w1 fun e w'=>∃ vo vc q,e=.returned (.slice vo q vc)/\Below w1.heap.size w1 w'/\Hid (∃ l,l.length=q/\q <= 2000000/\LoopOk g f l/\w'.ownsRow w1.heap.size 3 1 (.slice vo q vc) q (nvals l))):=fun w1 f fi ci ins hb hf hF hI hFn=>by
  have h:=loopFrom_any so no bo sc nc bc g f fi ci ins w1 hz (hVb w1 hb) hok hf hF hI hFn;rw [hgn,hgs,hgi] at h;exact h
 have HPz:Hid (∀ pt,PartsOk g pt->∃ pz,PzOk g pz/\∀ (w1:World) (B:Nat),w1.rowIs B 3 g.spots.length (intRow pt)->w1.rowIs B 3 g.spots.length (natRow pz)):=fun pt h=>by
  obtain ⟨h3,h4⟩:=h.pz;exact ⟨_,h3,fun w1 B h1=>h1.congr fun x hx=>by unfold intRow natRow;rw [<- h4 x hx]⟩
 have HNone:Hid (NoWay (fun _=>true) (fun x=>decide (FairX g x)) (nxt g) (List.range gi)->fairC g=11):=fun h=>by
  rw [<- hgt] at h;exact (noWay_none h).2
 have HSome:Hid (∀ l lp,WayOk g.spots.length (fun _=>true) (fun x=>decide (FairX g x)) (nxt g) (List.range gi) l->LoopOk g (l.getD (l.length - 1) 0) lp->LassoOk g (l.take (l.length - 1)) lp/\fairC g=0):=fun l lp h h2=>by
  rw [<- hgt] at h;exact lasso_ok hok h h2
 have HIn:Hid (∀ pz f,PzOk g pz->f < g.spots.length->InPart g f (fun p=>decide (pz p=pz f))):=fun pz f hp hf x hx=>by
  rw [decide_eq_true_iff,hp.iff hx hf];exact ⟨Mut.symm,Mut.symm⟩
 have HPO:Hid (∀ pt,PartsOk g pt->PartsOk g pt):=fun _ h=>h
 rw [hgn,hgs,hgi];clear hV hVb hz hc hok hgn hgs hgi hgt;generalize hPO:PartsOk g=PO at *;obtain ⟨lr,hlr⟩:∃ lr,lr=(List.range gi).length:=⟨_,rfl⟩
 have HLr:Hid (lr=(List.range gi).length):=hlr;rw [<- hlr] at HFi HWy;clear hPO hlr;obtain ⟨n,hnn⟩:∃ n,n=g.spots.length:=⟨_,rfl⟩
 rw [<- hnn] at hW0 HK hpa HFs HFi HWy HLf HPz HSome HIn hn hgin ⊢;generalize g.many=gm at *;rw [hW0] at hpa;have HW0:Hid (W0=(w.alloc (.cells #[.slice so n sc,.int .i64 (gi:Int),.slice no n nc,.slice bo n bc,.int .i64 gm] 64)).alloc (.cells #[.slice none 0 0,.slice none 0 0] 38)):=hW0;clear hW0 hnn
 have hmf:∀ (fn:Fn) (first cap:Array Value) (w:World),(Instr.makeFunc fn first cap).run Tryz.prog w=.ok (.func fn first cap) w:=fun _ _ _ _=>rfl
 go_enter Tryz.func16,Tryz.ntmps16
 go_upto_region 4 with (go_at_call 29;refine hpa.mono ?_;rintro e w1 ⟨B,rfl,hb1,HP⟩;rw [<- HW0.out] at hb1)
 obtain ⟨pt,hBl,hrow1,hpt⟩:=HP.out;obtain ⟨pz,hpz,hconv⟩:=HPz.out pt hpt;have hrow1:=hconv w1 B hrow1;have hbx:Below W0.heap.size W0 (w1.alloc (.cells #[.slice (some ⟨B,0,none⟩) n n] 36)):=hb1.alloc hb1.size _;have hcb:(w1.alloc (.cells #[.slice (some ⟨B,0,none⟩) n n] 36)).cell? ⟨w1.heap.size,0,none⟩=some (.slice (some ⟨B,0,none⟩) n n):=by simp [go_sem]
 have hs1:w1.heap.size < (w1.alloc (.cells #[.slice (some ⟨B,0,none⟩) n n] 36)).heap.size:=by simp
 have hrow2:(w1.alloc (.cells #[.slice (some ⟨B,0,none⟩) n n] 36)).rowIs B 3 n (natRow pz):=hrow1.alloc _;generalize w1.alloc (.cells #[.slice (some ⟨B,0,none⟩) n n] 36)=W2 at hbx hcb hs1 hrow2 ⊢;have HPzO:Hid (PzOk g pz):=hpz;have HRow2:Hid (W2.rowIs B 3 n (natRow pz)):=hrow2;have HBx:Hid (Below W0.heap.size W0 W2):=hbx;have hfs:=HFs.out W2 B pz hbx hrow2 hpz
 obtain ⟨⟨a0,a1,a2,a3,a4⟩,_⟩:=HK.out W2 hbx;clear HP hb1 hrow1 hconv hpt hpa hrow2 hpz HFs HPz hBl
 go_upto_region 5 with (go_at_call 30;refine hfs.mono ?_;rintro e w3 ⟨Bf,rfl,hb3,HF3⟩)
 have hb23:Below W0.heap.size W0 w3:=HBx.out.trans (hb3.mono HBx.out.size);have hb4:Below W0.heap.size W0 (w3.alloc (.cells #[.slice (some ⟨Bf,0,none⟩) n n] 100)):=hb23.alloc hb23.size _;have hcf4:(w3.alloc (.cells #[.slice (some ⟨Bf,0,none⟩) n n] 100)).cell? ⟨w3.heap.size,0,none⟩=some (.slice (some ⟨Bf,0,none⟩) n n):=by simp [go_sem]
 have hs4:w3.heap.size < (w3.alloc (.cells #[.slice (some ⟨Bf,0,none⟩) n n] 100)).heap.size:=by simp
 have hF4:(w3.alloc (.cells #[.slice (some ⟨Bf,0,none⟩) n n] 100)).rowIs Bf 4 n (fun x=>.bool (decide (FairX g x))):=HF3.out.alloc _
 have hcb4:(w3.alloc (.cells #[.slice (some ⟨Bf,0,none⟩) n n] 100)).cell? ⟨w1.heap.size,0,none⟩=some (.slice (some ⟨B,0,none⟩) n n):=(((Below.refl w3.heap.size w3).alloc (Nat.le_refl _) _).cell (p:=⟨w1.heap.size,0,none⟩) (Nat.lt_of_lt_of_le hs1 hb3.size)).trans ((hb3.cell (p:=⟨w1.heap.size,0,none⟩) hs1).trans hcb)
 have hrB4:(w3.alloc (.cells #[.slice (some ⟨Bf,0,none⟩) n n] 100)).rowIs B 3 n (natRow pz):=(row_laterG HRow2.out hb3).alloc _;have hs14:w1.heap.size < (w3.alloc (.cells #[.slice (some ⟨Bf,0,none⟩) n n] 100)).heap.size:=by have:=hb3.size;simp;omega
 generalize w3.alloc (.cells #[.slice (some ⟨Bf,0,none⟩) n n] 100)=W4 at hb4 hcf4 hs4 hF4 hcb4 hrB4 hs14 ⊢;have HB4:Hid (Below W0.heap.size W0 W4):=hb4
 have HAt:Hid (∀ w',Below W4.heap.size W4 w'->w'.cell? ⟨w3.heap.size,0,none⟩=some (.slice (some ⟨Bf,0,none⟩) n n)/\w3.heap.size < w'.heap.size/\w'.rowIs Bf 4 n (fun x=>.bool (decide (FairX g x)))/\w'.cell? ⟨w1.heap.size,0,none⟩=some (.slice (some ⟨B,0,none⟩) n n)/\w1.heap.size < w'.heap.size/\w'.rowIs B 3 n (natRow pz)/\Below W0.heap.size W0 w'):=fun w' hb=>⟨(hb.cell (p:=⟨w3.heap.size,0,none⟩) hs4).trans hcf4,Nat.lt_of_lt_of_le hs4 hb.size,row_laterG hF4 hb,(hb.cell (p:=⟨w1.heap.size,0,none⟩) hs14).trans hcb4,Nat.lt_of_lt_of_le hs14 hb.size,row_laterG hrB4 hb,HB4.out.trans (hb.mono HB4.out.size)⟩
 have hS:∀ w',Below W4.heap.size W4 w'->w'.cell? ⟨w.heap.size,0,none⟩=some (.slice so n sc)/\w'.cell? ⟨w.heap.size,1,none⟩=some (.int .i64 (gi:Int))/\w'.cell? ⟨w.heap.size,2,none⟩=some (.slice no n nc)/\w'.cell? ⟨w.heap.size,3,none⟩=some (.slice bo n bc)/\w'.cell? ⟨w.heap.size,4,none⟩=some (.int .i64 gm):=fun w' hb=>(HK.out w' (HAt.out w' hb).2.2.2.2.2.2).1
 have hfi:=HFi.out W4.drew
 have HFn:Hid (∀ w',Below W4.heap.size W4 w'->FnB w' w'.heap.size n (.func (.func 34) #[] #[.pointer (some ⟨w3.heap.size,0,none⟩)]) (fun x=>decide (FairX g x))):=fun w' hb=>by
  obtain ⟨h1,h2,h3,_⟩:=HAt.out w' hb;exact fair_fn w' w3.heap.size Bf n _ h2 h1 h3
 clear hcf4 hF4 hcb4 hrB4 hb4 HF3 hfs hb3 hb23 hcb HBx HRow2 a0 a1 a2 a3 a4
 go_region_held3 (fun w'=>w'.cell? ⟨w.heap.size,0,none⟩=some (.slice so n sc)/\w'.cell? ⟨w.heap.size,1,none⟩=some (.int .i64 (gi:Int))/\w'.cell? ⟨w.heap.size,2,none⟩=some (.slice no n nc)/\w'.cell? ⟨w.heap.size,3,none⟩=some (.slice bo n bc)/\w'.cell? ⟨w.heap.size,4,none⟩=some (.int .i64 gm))
  (exact hS _ (by first | exact (Below.refl _ _).drew | exact Below.refl _ _ | exact hb5' | exact hb6'))
  (first | (go_at_call 32;refine hfi.mono ?_;rintro e w5 ⟨vo5,vc5,rfl,hb5,hN5⟩;have hb5':Below W4.heap.size W4 w5:=undrewB hb5;have hwy:=HWy.out w5 vo5 vc5 _ _ _ (HAt.out w5 hb5').2.2.2.2.2.2 (by rw [HLr.out] at hN5 ⊢;exact hN5) (HFn.out w5 hb5')) | (go_at_call 31;refine hwy.mono ?_;rintro e w6 ⟨vo6,vc6,q6,rfl,hb6,HM⟩;have hb6':Below W4.heap.size W4 w6:=hb5'.trans (hb6.mono hb5'.size)))
 all_goals
  obtain ⟨l,hlq,hpost,hro6⟩:=HM.out;obtain ⟨h1,h2,h3,h4,h5,h6,hbw6⟩:=HAt.out w6 hb6';obtain ⟨hk6,r0,r1,f0,f1⟩:=HK.out w6 hbw6;have hbb6:Below w.heap.size w w6:=hA.trans (hbw6.mono hA.size)
  rcases hpost with ⟨rfl,hno⟩ | hwo
  ·have hq0:q6=0:=by rw [<- hlq];rfl
   subst hq0;have hC:=HNone.out hno;have HCC:Hid (fairC g=11):=hC;clear hno hC hlq hro6 HM hwy hfi HFn hS HAt HWy HFi HLf HSome HNone
   go_wp2_with fail
   refine bodyPost_ret (v:=.tuple #[.agg #[.slice none 0 0,.slice none 0 0],.int .i64 11]) ?_ rfl ⟨_,_,rfl,?_,.inl ⟨rfl,HCC.out,rfl⟩⟩
   ·simp only [results,Tryz.results16]
    simp [go_sem,r0,r1]
   ·exact (hbb6.setCell (by show w.heap.size <= w.heap.size+1;omega) _).setCell (by show w.heap.size <= w.heap.size+1;omega) _
  ·have hq6:0 < q6:=by
    have:=hwo.ne
    cases l with
    | nil=>exact absurd rfl this
    | cons a l=>simp at hlq;omega
   have hq20:q6 <= 20000:=by have:=hwo.len;omega
   obtain ⟨g6,c6,hvv6,hg61,hg62⟩:=hro6.form hq6
   injection hvv6 with e1 e2 e3
   subst e1 e3;obtain ⟨q,rfl⟩:∃ q,q6=q+1:=⟨q6 - 1,by omega⟩
   obtain ⟨hqc,_,hcl6⟩:=owns_cells (l:=l) (by rw [hlq];exact hro6)
   have hcq:=hcl6 q (by omega)
   have hlst:l.length - 1=q:=by omega
   have hmf9:=last_mem hwo.ne;rw [hlst] at hmf9;have hfn:=(hwo.ins _ hmf9).2
   have hFx:FairX g (l.getD q 0):=by
    have:=hwo.last;rw [hlst] at this;exact of_decide_eq_true this
   have HS9:Hid (∀ lp,LoopOk g (l.getD q 0) lp->LassoOk g (l.take q) lp/\fairC g=0):=fun lp h=>by
    have:=HSome.out l lp hwo (by rw [hlst];exact h)
    rw [hlst] at this;exact this
   have hs5:w.heap.size+1 < w5.heap.size:=by have h8:=(HAt.out w5 hb5').2.2.2.2.2.2.size;omega
   have HNl:Hid (∀ w9,Below w6.heap.size w6 w9->∀ x y,NatsV ((w9.setCell ⟨w.heap.size+1,0,none⟩ x).setCell ⟨w.heap.size+1,1,none⟩ y) (.slice (some ⟨g6,0,none⟩) (l.take q).length vc6) (l.take q)):=fun w9 hb9 x y=>by
    have h9:=ownsRow_setCell_below (ownsRow_setCell_below (owns_later hro6 hb9 (Nat.le_refl _)) (a:=⟨w.heap.size+1,0,none⟩) hs5 x) (a:=⟨w.heap.size+1,1,none⟩) hs5 y;exact natsV_take (l:=l) (by rw [hlq];exact natsV_owns (by rw [hlq];exact h9)) (by omega)
   have HTl:Hid ((l.take q).length=q):=by show _=_;rw [List.length_take];omega
   generalize hff:l.getD q 0=f at *;clear hff;have hqc2:q+1 <= vc6:=by omega
   clear hwo hro6 hcl6 HM hwy hfi HFn hS HWy HFi HNone hmf9 hlst hqc hlq HSome
   go_upto_region 9 with fail
   have hb7:Below W4.heap.size W4 (w6.alloc (.cells #[.int .i64 (f:Int)] 3)):=hb6'.alloc hb6'.size _;have hb67:Below w6.heap.size w6 (w6.alloc (.cells #[.int .i64 (f:Int)] 3)):=(Below.refl _ _).alloc (Nat.le_refl _) _;have hc7:(w6.alloc (.cells #[.int .i64 (f:Int)] 3)).cell? ⟨w6.heap.size,0,none⟩=some (.int .i64 (f:Int)):=by simp [go_sem]
   have hs7:w6.heap.size < (w6.alloc (.cells #[.int .i64 (f:Int)] 3)).heap.size:=by simp
   generalize w6.alloc (.cells #[.int .i64 (f:Int)] 3)=W7 at hb7 hb67 hc7 hs7 ⊢;obtain ⟨_,_,_,g4,g5,g6',g7⟩:=HAt.out W7 hb7;obtain ⟨⟨a0,a1,a2,a3,a4⟩,_⟩:=HK.out W7 g7;have hlf:=HLf.out W7 f _ _ _ g7 hfn hFx (HIn.out pz f HPzO.out hfn) (part_fn W7 w1.heap.size w6.heap.size B n f pz g5 hs7 hfn g4 hc7 g6')
   clear h1 h2 h3 h4 h5 h6 hk6 r0 r1 f0 f1 hcq g4 g5 g6' HLf HIn HPzO hFx
   go_wp2_with (go_at_call 35;refine hlf.mono ?_;rintro e w8 ⟨vo8,vc8,q8,rfl,hb8,HL8⟩;have hb8':=g7.trans (hb8.mono g7.size);obtain ⟨_,r0,r1,f0,f1⟩:=HK.out w8 hb8')
   have hb68:Below w6.heap.size w6 w8:=hb67.trans (hb8.mono hb67.size);have hbb8:Below w.heap.size w w8:=hA.trans (hb8'.mono hA.size);obtain ⟨lp,hlp1,hlp2,hlp3,hlp4⟩:=HL8.out;obtain ⟨hLo,hC0⟩:=HS9.out lp hlp3;have hs7w:w.heap.size+1 < W7.heap.size:=by have:=g7.size;omega
   have hNlp:=natsV_owns (l:=lp) (by rw [hlp1];exact ownsRow_setCell_below (ownsRow_setCell_below hlp4 (a:=⟨w.heap.size+1,0,none⟩) hs7w (.slice (some ⟨g6,0,none⟩) q vc6)) (a:=⟨w.heap.size+1,1,none⟩) hs7w (.slice vo8 q8 vc8))
   have hNst:=HNl.out w8 hb68 (.slice (some ⟨g6,0,none⟩) q vc6) (.slice vo8 q8 vc8);have hTl:=HTl.out;rw [hTl] at hNst
   refine bodyPost_ret (v:=.tuple #[.agg #[.slice (some ⟨g6,0,none⟩) q vc6,.slice vo8 q8 vc8],.int .i64 0]) ?_ rfl ⟨_,_,rfl,?_,.inr ⟨rfl,hC0,some ⟨g6,0,none⟩,vc6,vo8,vc8,l.take q,lp,by rw [hTl,hlp1],by rw [hTl];omega,by rw [hlp1];exact hlp2,hLo,by rw [hTl];exact hNst,by rw [hlp1];exact hNlp⟩⟩
   ·simp only [results,Tryz.results16]
    simp [go_sem,r0,r1]
   ·exact (hbb8.setCell (by show w.heap.size <= w.heap.size+1;omega) _).setCell (by show w.heap.size <= w.heap.size+1;omega) _
