/- Joined texts. -/
import Derived.Test.YtfnobbpbmelgnaaGreatDoorLateC
import Derived.Laws.CopyRow
import Derived.Laws.IdiomCopy
import Derived.DeepKeys4
import Derived.Deep.Cut
import Derived.Deep.CutBlock
import Derived.Deep.CutRange
import Derived.Deep.DeepCutAuto
namespace Go.Proofs.YtfnobbpbmelgnaaGreatDoor
open Go.ChangeShapes Go.WideShapes Go.ChangeAt Go.RowKit Go.Deep Go.Maps
open Terms Tm
set_option maxHeartbeats 6400000
set_option maxRecDepth 20000
variable {Pz : Nat -> Prop}
theorem keyedInt:Keyed Tryz.prog 3:=int_keyed Tryz.underlying3
theorem zeroState (w:World):(zeroValue 140).run Tryz.prog w=.ok (.agg #[.slice none 0 0,.slice none 0 0,.slice none 0 0]) w:=by kernel_rfl
theorem keyI {x:Int} (h:-9223372036854775808 <= x/\x <= 9223372036854775807):keyOf Tryz.prog 3 (.int .i64 x)=some (.int .i64 x):=keyOf_int_mk Tryz.underlying3 (WalkArith.wf_i64 (by omega))
theorem owns_ge {w:World} {base n:Nat} {v:Value} {t:TypeId} {s:Nat} {xs:List Value} (h:w.ownsRow base t s v n xs):∀ (a:Addr) (k c:Nat),v=.slice (some a) k c->base <= a.block:=by
 intro a k c e
 rcases h.2 with ⟨h0,_⟩ | ⟨g,cap,cur,h1,h2,_⟩
 ·rw [h0] at e;simp at e
 ·rw [h1] at e
  injection e with e _ _
  injection e with e
  subst e;exact h2
def St3 (w:World) (b:Nat) (x y z:Value):Prop:=b < w.heap.size/\(w.cell? ⟨b,0,none⟩=some x/\w.cell? ⟨b,1,none⟩=some y/\w.cell? ⟨b,2,none⟩=some z)/\w.frozen? ⟨b,0,none⟩=false/\w.frozen? ⟨b,1,none⟩=false/\w.frozen? ⟨b,2,none⟩=false
theorem St3.new (w:World) (x y z:Value) (t:TypeId):St3 (w.alloc (.cells #[x,y,z] t)) w.heap.size x y z:=by
 refine ⟨by simp,⟨?_,?_,?_⟩,?_,?_,?_⟩ <;> simp [go_sem]
theorem St3.later {w w':World} {b:Nat} {x y z:Value} (h:St3 w b x y z) (hb:Below w.heap.size w w'):St3 w' b x y z:=
 ⟨Nat.lt_of_lt_of_le h.1 hb.size,⟨(hb.cell (p:=⟨b,0,none⟩) h.1).trans h.2.1.1,(hb.cell (p:=⟨b,1,none⟩) h.1).trans h.2.1.2.1,(hb.cell (p:=⟨b,2,none⟩) h.1).trans h.2.1.2.2⟩,(hb.frozen (p:=⟨b,0,none⟩) h.1).trans h.2.2.1,(hb.frozen (p:=⟨b,1,none⟩) h.1).trans h.2.2.2.1,(hb.frozen (p:=⟨b,2,none⟩) h.1).trans h.2.2.2.2⟩
def StPost (Pz:Nat->Prop) (w0 w:World) (B bs bl n:Nat) (va vr pv fv:Value) (m:Mo) (ps:List (List (Int × Int))) (l:List (Int × Int)) (ho:Option Addr) (hc:Nat) (code:Int) (e:Ending) (w':World):Prop:=
 Sk bs bl w w'/\Hid (SvOk Pz w0 w' B bs bl (n+1) va vr pv fv m ps l ho hc)/\((wcode m code=0/\∃ lo lc no nc so sc,e=.returned (.tuple #[.agg #[.slice lo ps.length lc,.slice no (nextL m code).length nc,.slice so (2 ^ (aheadL l).length) sc],.int .i64 0])/\Hid (StOk Pz w' m ps l code (.agg #[.slice lo ps.length lc,.slice no (nextL m code).length nc,.slice so (2 ^ (aheadL l).length) sc])))\/(wcode m code≠0/\e=.returned (.tuple #[.agg #[.slice none 0 0,.slice none 0 0,.slice none 0 0],.int .i64 (wcode m code)])))
theorem stateOf_known (w0 w:World) (B bs bl n:Nat) (va vr pv fv:Value) (m:Mo) (ps:List (List (Int × Int))) (l:List (Int × Int)) (ho:Option Addr) (hc:Nat) (code:Int) (hI:-9223372036854775808 <= code/\code <= 9223372036854775807) (hm0:mcode m=0) (hS:SvOk Pz w0 w B bs bl n va vr pv fv m ps l ho hc)
  (f:Lit->Option Value) (hf:MapIs w 3 bs n f) (hfs:∀ kl v,f kl=some v->∃ code,kl=.int .i64 code/\(0 <= code/\code < prodTo m.vars m.vars.length)/\StOk Pz w m ps l code v) (v:Value) (hv:f (.int .i64 code)=some v) :
  Calls Tryz.prog 66 #[.pointer (some ⟨B,0,none⟩),.int .i64 code] w (StPost Pz w0 w B bs bl n va vr pv fv m ps l ho hc code):=by
 obtain ⟨c',e1,hcr,hst⟩:=hfs _ _ hv
 injection e1 with _ e1
 subst e1;have hw0:=wcode_yes hm0 hcr;obtain ⟨lo,lc,no,nc,so,sc,rfl,_⟩:=id hst;obtain ⟨W1,hW1⟩:∃ W1,W1=w.alloc (.cells #[.slice none 0 0,.slice none 0 0,.slice none 0 0] 140):=⟨_,rfl⟩
 have hb1:Below w.heap.size w W1:=by rw [hW1];exact (Below.refl _ _).alloc (Nat.le_refl _) _
 have h4:St3 W1 w.heap.size (.slice none 0 0) (.slice none 0 0) (.slice none 0 0):=by rw [hW1];exact St3.new _ _ _ _ _
 have hlk:(Instr.lookup 87 (.map (some bs)) (.int .i64 code) true).run Tryz.prog W1=.ok (.tuple #[.agg #[.slice lo ps.length lc,.slice no (nextL m code).length nc,.slice so (2 ^ (aheadL l).length) sc],.bool true]) W1:=by
  have:=(hf.kept (hb1.block _ hf.lt)).look keyedInt Tryz.underlying87 (zeroState _) (keyI hI);rw [hv] at this;exact this
 have c5:=(hS.box.later hb1).c5;have HFin:Hid (∀ w',Below w.heap.size w w'->Sk bs bl w w'/\SvOk Pz w0 w' B bs bl (n+1) va vr pv fv m ps l ho hc/\StOk Pz w' m ps l code (.agg #[.slice lo ps.length lc,.slice no (nextL m code).length nc,.slice so (2 ^ (aheadL l).length) sc])):=fun w' h=>⟨Sk.of h,(hS.below h).mono (Nat.le_succ _),hst.below h⟩
 have HW:Hid (wcode m code=0):=hw0;unfold StPost;generalize ps.length=pn at *;generalize (nextL m code).length=nn at *;generalize 2 ^ (aheadL l).length=N at *;obtain ⟨hl4,⟨k0,k1,k2⟩,g0,g1,g2⟩:=id h4;have HH4:Hid (St3 W1 w.heap.size (.slice none 0 0) (.slice none 0 0) (.slice none 0 0)):=h4;clear hS hf hfs hv hst hw0 h4;subst hW1
 go_enter Tryz.func66,Tryz.ntmps66
 go_wp2_with fail
 have hb:Below w.heap.size w ((w.alloc (.cells #[.slice lo pn lc,.slice no nn nc,.slice so N sc] 140)).alloc (.cells #[.slice lo pn lc,.slice no nn nc,.slice so N sc] 140)):=((Below.refl _ _).alloc (Nat.le_refl _) _).alloc (by simp) _
 obtain ⟨r1,r2,r3⟩:=HFin.out _ hb;refine bodyPost_ret (v:=.tuple #[.agg #[.slice lo pn lc,.slice no nn nc,.slice so N sc],.int .i64 0]) ?_ rfl ⟨r1,r2,.inl ⟨HW.out,lo,lc,no,nc,so,sc,rfl,r3⟩⟩
 simp [results,Tryz.results66,go_sem]
theorem BoolsV.setBox {w:World} {v:Value} {l:List Bool} {p:Addr} {a:Option Addr} {n c:Nat} (h:BoolsV w v l) (hc:w.cell? p=some (.slice a n c)) (u:Value):BoolsV (w.setCell p u) v l:=by
 obtain ⟨ao,cap,rfl,h⟩:=h;refine ⟨ao,cap,rfl,fun hne=>?_⟩
 obtain ⟨b,off,rfl,hlt,hat⟩:=h hne;refine ⟨b,off,rfl,by simpa using hlt,fun i hi=>?_⟩
 have h1:=hat i hi
 have hne2:(⟨b,off+i,none⟩:Addr)≠p:=by
  intro e;rw [e,hc] at h1;simp at h1
 rw [World.cell?_setCell_other _ _ _ _ hne2.symm]
 exact h1
theorem IntsV.setBox {w:World} {v:Value} {l:List Int} {p:Addr} {a:Option Addr} {n c:Nat} (h:IntsV w v l) (hc:w.cell? p=some (.slice a n c)) (u:Value):IntsV (w.setCell p u) v l:=by
 obtain ⟨ao,cap,rfl,h⟩:=h;refine ⟨ao,cap,rfl,fun hne=>?_⟩
 obtain ⟨b,off,rfl,hlt,hat⟩:=h hne;refine ⟨b,off,rfl,by simpa using hlt,fun i hi=>?_⟩
 have h1:=hat i hi
 have hne2:(⟨b,off+i,none⟩:Addr)≠p:=by
  intro e;rw [e,hc] at h1;simp at h1
 rw [World.cell?_setCell_other _ _ _ _ hne2.symm]
 exact h1
theorem Sk.setNew {bs bl:Nat} {w w':World} (h:Sk bs bl w w') {p:Addr} (hp:w.heap.size <= p.block) (v:Value):Sk bs bl w (w'.setCell p v):=
 ⟨h.os,h.tape,h.output,by simpa using h.size,fun i hi h1 h2=>(RowKit.Below.heap_setCell _ _ _ _ (by omega)).trans (h.block i hi h1 h2)⟩
theorem SvOk.putN {w0 w w':World} {B bs bl n:Nat} {va vr pv fv:Value} {m:Mo} {ps:List (List (Int × Int))} {l:List (Int × Int)} {ho:Option Addr} {hc:Nat} (h:SvOk Pz w0 w B bs bl n va vr pv fv m ps l ho hc) {f:Lit->Option Value} {code:Int} {v:Value} (hs:Sk bs bl w w') (hbl:w'.heap[bl]? = w.heap[bl]?) (h2:∀ kl v,f kl=some v->∃ code,kl=.int .i64 code/\(0 <= code/\code < prodTo m.vars m.vars.length)/\StOk Pz w m ps l code v)
  (hm:MapIs w' 3 bs (n+1) (fput f (.int .i64 code) v)) (hc':0 <= code/\code < prodTo m.vars m.vars.length) (hv:StOk Pz w' m ps l code v):SvOk Pz w0 w' B bs bl (n+1) va vr pv fv m ps l ho hc:=by
 have ht:=h.two;obtain ⟨g,h3,h4⟩:=h.li;refine ⟨h.box.sk hs ht,h.bel.trans (hs.below h.lo1 h.lo2 h.bel.size),h.lo1,h.lo2,h.ne,h.ah.sk hs ht,h.aty.sk hs ht,fun b hb2=>h.up b (Nat.le_trans hs.size hb2),h.aP,⟨_,hm,fun kl u hu=>?_⟩,⟨g,(h3.kept hbl).mono (Nat.le_succ _),h4⟩⟩
 by_cases hk:kl=.int .i64 code
 ·subst hk
  rw [fput_same] at hu
  cases hu
  exact ⟨code,rfl,hc',hv⟩
 ·rw [fput_other hk] at hu
  obtain ⟨c,e1,e2,e3⟩:=h2 kl u hu;exact ⟨c,e1,e2,e3.sk hs ht⟩
theorem stateOf_out (w0 w:World) (B bs bl n:Nat) (va vr pv fv:Value) (m:Mo) (ps:List (List (Int × Int))) (l:List (Int × Int)) (ho:Option Addr) (hc:Nat) (code:Int) (hI:-9223372036854775808 <= code/\code <= 9223372036854775807) (hB:0 < w0.heap.size) (hT:TabAt w0) (hV:TaskV w0 va vr pv fv m ps l) (hk:tkcode m ps l=0) (hS:SvOk Pz w0 w B bs bl n va vr pv fv m ps l ho hc)
  (f:Lit->Option Value) (hf:MapIs w 3 bs n f) (hv:f (.int .i64 code)=none) (hw:wcode m code≠0) :
  Calls Tryz.prog 66 #[.pointer (some ⟨B,0,none⟩),.int .i64 code] w (StPost Pz w0 w B bs bl n va vr pv fv m ps l ho hc code):=by
 obtain ⟨hp0,_⟩:=tk_zero hk;obtain ⟨ao,ac,rfl⟩:=hV.mo.1.shape;obtain ⟨ro,rc,rfl⟩:=hV.mo.2.shape;obtain ⟨po,pc,rfl⟩:=hV.ps.shape;obtain ⟨W1,hW1⟩:∃ W1,W1=w.alloc (.cells #[.slice none 0 0,.slice none 0 0,.slice none 0 0] 140):=⟨_,rfl⟩
 have hb1:Below w.heap.size w W1:=by rw [hW1];exact (Below.refl _ _).alloc (Nat.le_refl _) _
 have hlk:(Instr.lookup 87 (.map (some bs)) (.int .i64 code) true).run Tryz.prog W1=.ok (.tuple #[.agg #[.slice none 0 0,.slice none 0 0,.slice none 0 0],.bool false]) W1:=by
  have:=(hf.kept (hb1.block _ hf.lt)).look keyedInt Tryz.underlying87 (zeroState _) (keyI hI);rw [hv] at this;exact this
 have c5:=(hS.box.later hb1).c5;have hb2:Below w.heap.size w (W1.alloc (.cells #[.slice none 0 0,.slice none 0 0,.slice none 0 0] 140)):=hb1.alloc hb1.size _
 have HLe:Hid (∀ w1,Below w.heap.size w w1->Calls Tryz.prog 45 #[.agg #[.slice ao m.vars.length ac,.slice ro m.rules.length rc],.slice po ps.length pc,.int .i64 code] w1 fun e w'=>∃ lo ln lc,e=.returned (.tuple #[.slice lo ln lc,.int .i64 (wcode m code)])/\Below w1.heap.size w1 w'):=fun w1 h=>by
  have h0:=hS.bel.trans (h.mono hS.bel.size);refine (letter_any _ _ _ m ps code w1 (Nat.lt_of_lt_of_le hB h0.size) (hT.below h0 hB) (hV.mo.below h0) (hV.ps.below h0)).mono fun e w' ⟨v,h1,h2,h3⟩=>?_
  have e1:letC m ps code=wcode m code:=by unfold letC;rw [if_pos hp0]
  obtain ⟨lo,lc,rfl,_⟩:=h3;exact ⟨lo,_,lc,by rw [h1,e1],h2⟩
 have HSB:Hid (∀ w1,Below w.heap.size w w1->w1.cell? ⟨B,0,none⟩=some (.slice ao m.vars.length ac)/\w1.cell? ⟨B,1,none⟩=some (.slice ro m.rules.length rc)/\w1.cell? ⟨B,2,none⟩=some (.slice po ps.length pc)):=fun w1 h=>⟨(hS.box.later h).c0,(hS.box.later h).c1,(hS.box.later h).c2⟩
 have HFin:Hid (∀ w',Below w.heap.size w w'->Sk bs bl w w'/\SvOk Pz w0 w' B bs bl (n+1) (.slice ao m.vars.length ac) (.slice ro m.rules.length rc) (.slice po ps.length pc) fv m ps l ho hc):=fun w' h=>⟨Sk.of h,(hS.below h).mono (Nat.le_succ _)⟩
 have H4:Hid (∀ w',Below (w.heap.size+1) W1 w'->w'.cell? ⟨w.heap.size,0,none⟩=some (.slice none 0 0)/\w'.cell? ⟨w.heap.size,1,none⟩=some (.slice none 0 0)/\w'.cell? ⟨w.heap.size,2,none⟩=some (.slice none 0 0)/\w'.frozen? ⟨w.heap.size,0,none⟩=false/\w'.frozen? ⟨w.heap.size,1,none⟩=false/\w'.frozen? ⟨w.heap.size,2,none⟩=false):=fun w' h=>by
  have h3:St3 W1 w.heap.size (.slice none 0 0) (.slice none 0 0) (.slice none 0 0):=by rw [hW1];exact St3.new _ _ _ _ _
  obtain ⟨_,⟨a,b,c⟩,d,e,f⟩:=h3;have hlt:w.heap.size < w.heap.size+1:=Nat.lt_succ_self _
  exact ⟨(h.cell (p:=⟨w.heap.size,0,none⟩) hlt).trans a,(h.cell (p:=⟨w.heap.size,1,none⟩) hlt).trans b,(h.cell (p:=⟨w.heap.size,2,none⟩) hlt).trans c,(h.frozen (p:=⟨w.heap.size,0,none⟩) hlt).trans d,(h.frozen (p:=⟨w.heap.size,1,none⟩) hlt).trans e,(h.frozen (p:=⟨w.heap.size,2,none⟩) hlt).trans f⟩
 have hz1:W1.heap.size=w.heap.size+1:=by rw [hW1];simp
 unfold StPost;generalize wcode m code=wc at *;generalize m.vars.length=vn at *;generalize m.rules.length=rn at *;generalize ps.length=pn at *;clear hS hf hv hT hV hk hp0;obtain ⟨W2,hW2⟩:∃ W2,W2=W1.alloc (.cells #[.slice none 0 0,.slice none 0 0,.slice none 0 0] 140):=⟨_,rfl⟩
 have hk2:Below (w.heap.size+1) W1 W2:=by rw [hW2];exact (Below.refl _ _).alloc (by omega) _
 have hbw2:Below w.heap.size w W2:=by rw [hW2];exact hb2
 have hz2:w.heap.size+1 <= W2.heap.size:=by rw [hW2];simp [hz1]
 rw [hW1] at hW2;subst hW1
 go_enter Tryz.func66,Tryz.ntmps66
 go_wp2_with fail
 rw [<- hW2];clear hW2 hlk c5;have hle:=HLe.out _ hbw2.drew;have hB0:Below W2.heap.size W2 W2:=Below.refl _ _;have hBw:=hB0.drew
 go_region_held3 (fun w'=>w'.cell? ⟨B,0,none⟩=some (.slice ao vn ac)/\w'.cell? ⟨B,1,none⟩=some (.slice ro rn rc)/\w'.cell? ⟨B,2,none⟩=some (.slice po pn pc))
  (first | exact HSB.out _ hb12 | exact HSB.out _ hbw2.drew | exact HSB.out _ hbw2)
  (first
   | (go_at_call 45;refine hle.mono ?_;rintro e w3 ⟨lo,ln,lc,rfl,hb3⟩;have hb12:=hbw2.drew.trans (hb3.mono hbw2.drew.size);have hk3:=hk2.drew.trans (hb3.mono hz2)))
 obtain ⟨q0,q1,q2,q3,q4,q5⟩:=H4.out _ hk3
 go_wp2_with fail
 have hbF:=((hb12.setCell (p:=⟨w.heap.size,0,none⟩) (Nat.le_refl _) (.slice none 0 0)).setCell (p:=⟨w.heap.size,1,none⟩) (Nat.le_refl _) (.slice none 0 0)).setCell (p:=⟨w.heap.size,2,none⟩) (Nat.le_refl _) (.slice none 0 0);obtain ⟨r1,r2⟩:=HFin.out _ hbF
 refine bodyPost_ret (v:=.tuple #[.agg #[.slice none 0 0,.slice none 0 0,.slice none 0 0],.int .i64 wc]) ?_ rfl ⟨r1,r2,.inr ⟨hw,rfl⟩⟩
 simp [results,Tryz.results66,go_sem,q0,q1,q2]
structure SgAt (w4 wr:World) (N k:Nat) (sg:Nat->Int) (lv nv:Value):Prop where
 bel:Below w4.heap.size w4 wr
 row:wr.rowIs w4.heap.size 3 N (fun j=>.int .i64 (if j < k then sg j else 0))
 box:St3 wr (w4.heap.size+1) lv nv (.slice (some ⟨w4.heap.size,0,none⟩) N N)
theorem SgAt.start (w4:World) (N:Nat) (sg:Nat->Int) (lv nv:Value):SgAt w4 ((w4.alloc (.cells (madeCells #[.int .i64 0] N) 3)).alloc (.cells #[lv,nv,.slice (some ⟨w4.heap.size,0,none⟩) N N] 140)) N 0 sg lv nv:=by
 refine ⟨((Below.refl _ _).alloc (Nat.le_refl _) _).alloc (by simp) _,?_,?_⟩
 ·exact ((World.rowIs_made w4 (.int .i64 0) N 3).alloc _).congr (fun j _=>by simp)
 ·have:=St3.new (w4.alloc (.cells (madeCells #[.int .i64 0] N) 3)) lv nv (.slice (some ⟨w4.heap.size,0,none⟩) N N) 140
  rw [World.size_alloc] at this;exact this
theorem SgAt.later {w4 wr w':World} {N k:Nat} {sg:Nat->Int} {lv nv:Value} (h:SgAt w4 wr N k sg lv nv) (hb:Below wr.heap.size wr w'):SgAt w4 w' N k sg lv nv:=
 ⟨h.bel.trans (hb.mono h.bel.size),h.row.of_block (hb.block _ h.row.lt),h.box.later hb⟩
theorem SgAt.put {w4 wr:World} {N k:Nat} {sg:Nat->Int} {lv nv:Value} (h:SgAt w4 wr N k sg lv nv):SgAt w4 (wr.setCell ⟨w4.heap.size,k,none⟩ (.int .i64 (sg k))) N (k+1) sg lv nv:=by
 refine ⟨h.bel.setCell (p:=⟨w4.heap.size,k,none⟩) (Nat.le_refl _) _,(h.row.set k _).congr (fun j hj=>?_),?_⟩
 ·by_cases e:j=k
  ·subst e
   rw [if_pos rfl,if_pos (Nat.lt_succ_self _)]
  ·rw [if_neg e]
   by_cases h1:j < k
   ·rw [if_pos h1,if_pos (by omega)]
   ·rw [if_neg h1,if_neg (by omega)]
 ·obtain ⟨h0,⟨a,b,c⟩,d,e,f⟩:=h.box
  refine ⟨by simpa using h0,⟨?_,?_,?_⟩,?_,?_,?_⟩ <;> simp [go_sem,a,b,c,d,e,f]
theorem SgAt.done {w4 wr:World} {N:Nat} {sg:Nat->Int} {lv nv:Value} (h:SgAt w4 wr N N sg lv nv):IntsV wr (.slice (some ⟨w4.heap.size,0,none⟩) N N) ((List.range N).map sg):=by
 refine ⟨some ⟨w4.heap.size,0,none⟩,N,by simp,fun _=>⟨w4.heap.size,0,rfl,h.row.lt,fun i hi=>?_⟩⟩
 have hi':i < N:=by simpa using hi
 rw [Nat.zero_add,h.row.cell hi',if_pos hi'];simp [List.getD_eq_getElem?_getD,hi']
theorem stateOf_new (w0 w:World) (B bs bl n:Nat) (va vr pv fv:Value) (m:Mo) (ps:List (List (Int × Int))) (l:List (Int × Int)) (ho:Option Addr) (hc:Nat) (code:Int) (hI:-9223372036854775808 <= code/\code <= 9223372036854775807) (hB:0 < w0.heap.size) (hT:TabAt w0) (hV:TaskV w0 va vr pv fv m ps l) (hk:tkcode m ps l=0) (hS:SvOk Pz w0 w B bs bl n va vr pv fv m ps l ho hc) (hn:n < 1000000000000)
  (f:Lit->Option Value) (hf:MapIs w 3 bs n f) (hfs:∀ kl v,f kl=some v->∃ code,kl=.int .i64 code/\(0 <= code/\code < prodTo m.vars m.vars.length)/\StOk Pz w m ps l code v) (hv:f (.int .i64 code)=none) (hcr:0 <= code/\code < prodTo m.vars m.vars.length) :
  Calls Tryz.prog 66 #[.pointer (some ⟨B,0,none⟩),.int .i64 code] w (StPost Pz w0 w B bs bl n va vr pv fv m ps l ho hc code):=by
 obtain ⟨hp0,hl0⟩:=tk_zero hk;obtain ⟨hm0,_⟩:=pcode_m hp0;obtain ⟨_,_,hz,_,h6⟩:=lcode_zero hl0;have hw:=wcode_yes hm0 hcr;obtain ⟨ao,ac,rfl⟩:=hV.mo.1.shape;obtain ⟨ro,rc,rfl⟩:=hV.mo.2.shape;obtain ⟨po,pc,rfl⟩:=hV.ps.shape;obtain ⟨fo,fc,rfl,_⟩:=id hV.fo
 obtain ⟨W1,hW1⟩:∃ W1,W1=w.alloc (.cells #[.slice none 0 0,.slice none 0 0,.slice none 0 0] 140):=⟨_,rfl⟩
 have hb1:Below w.heap.size w W1:=by rw [hW1];exact (Below.refl _ _).alloc (Nat.le_refl _) _
 have hlk:(Instr.lookup 87 (.map (some bs)) (.int .i64 code) true).run Tryz.prog W1=.ok (.tuple #[.agg #[.slice none 0 0,.slice none 0 0,.slice none 0 0],.bool false]) W1:=by
  have:=(hf.kept (hb1.block _ hf.lt)).look keyedInt Tryz.underlying87 (zeroState _) (keyI hI);rw [hv] at this;exact this
 have c5:=(hS.box.later hb1).c5;have hb2:Below w.heap.size w (W1.alloc (.cells #[.slice none 0 0,.slice none 0 0,.slice none 0 0] 140)):=hb1.alloc hb1.size _
 have HLe:Hid (∀ w1,Below w.heap.size w w1->Calls Tryz.prog 45 #[.agg #[.slice ao m.vars.length ac,.slice ro m.rules.length rc],.slice po ps.length pc,.int .i64 code] w1 fun e w'=>∃ lo lc,e=.returned (.tuple #[.slice lo ps.length lc,.int .i64 0])/\Below w1.heap.size w1 w'/\Hid (BoolsV w' (.slice lo ps.length lc) (letL m ps code)/\RowTy w' (.slice lo ps.length lc) 4)):=fun w1 h=>by
  have h0:=hS.bel.trans (h.mono hS.bel.size);refine (letter_own _ _ _ m ps code w1 (Nat.lt_of_lt_of_le hB h0.size) (hT.below h0 hB) (hV.mo.below h0) (hV.ps.below h0)).mono fun e w' ⟨v,h1,h2,h3,h4⟩=>?_
  obtain ⟨t1,t2⟩:=tk_let hk hcr;obtain ⟨lo,lc,rfl,hx⟩:=h3;rw [t2] at h1 h4;exact ⟨lo,lc,by rw [h1,t1],h2,⟨lo,lc,by rw [t2],hx⟩,h4⟩
 have HNe:Hid (∀ w1,Below w.heap.size w w1->Calls Tryz.prog 84 #[.agg #[.slice ao m.vars.length ac,.slice ro m.rules.length rc],.int .i64 code] w1 fun e w'=>∃ no nc,e=.returned (.tuple #[.slice no (nextL m code).length nc,.int .i64 0])/\Below w1.heap.size w1 w'/\Hid (IntsV w' (.slice no (nextL m code).length nc) (nextL m code)/\RowTy w' (.slice no (nextL m code).length nc) 3/\∀ a,no=some a->Pz a.block)):=fun w1 h=>by
  have h0:=hS.bel.trans (h.mono hS.bel.size);refine (next_own _ _ m code w1 (Nat.lt_of_lt_of_le hB h0.size) (hT.below h0 hB) (hV.mo.below h0) hm0).mono fun e w' ⟨v,h1,h2,h3'⟩=>?_
  have h4:=RowTy.owns h3';have h5:=owns_ge h3';have h3:=intsV_of_owns h3';have e1:nxtL m code=nextL m code:=by unfold nxtL;rw [if_pos hw]
  rw [e1] at h3;obtain ⟨no,nc,rfl,hx⟩:=h3;exact ⟨no,nc,by rw [h1,hw],h2,⟨no,nc,rfl,hx⟩,h4,fun a e=>hS.up _ (Nat.le_trans h.size (h5 a _ _ (by rw [e])))⟩
 have HSg:Hid (∀ (w1:World) (c:Nat) (lv:Value),Below w.heap.size w w1->c < 2 ^ (aheadL l).length->BoolsV w1 lv (letL m ps code)->Calls Tryz.prog 85 #[.pointer (some ⟨B,0,none⟩),lv,.int .i64 (c:Int)] w1 fun e w'=>e=.returned (.tuple #[.int .i64 (sgAt l (letL m ps code) c),.int .i64 0])/\Below w1.heap.size w1 w'):=fun w1 c lv h hcN hlv=>by
  have h0:=hS.bel.trans (h.mono hS.bel.size);exact signOf_any B _ _ _ _ lv l (letL m ps code) c ho hc bs bl w1 (Nat.lt_of_lt_of_le hB h0.size) (hT.below h0 hB) (hV.fo.below h0) hlv hz h6 (tk_tru hk hcr hcN).1 (hS.box.later h) (hS.ah.below h)
 have HCl:Hid (∀ w1,Below w.heap.size w w1->Calls Tryz.prog 46 #[.pointer (some ⟨B,0,none⟩)] w1 fun e w'=>e=.returned (.int .i64 ((2 ^ (aheadL l).length:Nat):Int))/\w'=w1):=fun w1 h=>claims_any B _ _ _ _ ho _ hc bs bl w1 h6 (hS.box.later h)
 have HSB:Hid (∀ w1,Below w.heap.size w w1->w1.cell? ⟨B,0,none⟩=some (.slice ao m.vars.length ac)/\w1.cell? ⟨B,1,none⟩=some (.slice ro m.rules.length rc)/\w1.cell? ⟨B,2,none⟩=some (.slice po ps.length pc)/\w1.cell? ⟨B,5,none⟩=some (.map (some bs))):=fun w1 h=>⟨(hS.box.later h).c0,(hS.box.later h).c1,(hS.box.later h).c2,(hS.box.later h).c5⟩
 have HPut:Hid (∀ w1,Below w.heap.size w w1->∀ v,∃ w',(Instr.mapUpdate 87 (.map (some bs)) (.int .i64 code) v).run Tryz.prog w1.drew=.ok () w'/\MapIs w' 3 bs (n+1) (fput f (.int .i64 code) v)/\w1.grownBy w' (some bs)):=fun w1 h v=>by
  have hm1:MapIs w1.drew 3 bs n f:=hf.kept (h.block _ hf.lt);obtain ⟨w',h1,h2,h3⟩:=hm1.put keyedInt Tryz.underlying87 (by unfold maxLen;omega) (val:=v) (keyI hI) (by simp [WideAt.IsKeyLit])
  exact ⟨w',h1,h2,⟨h3.os,h3.tape,h3.output,h3.size,h3.block⟩⟩
 have HTwo:Hid (∀ w1,Below w.heap.size w w1->TwoMaps w1 bs bl):=fun w1 h=>(hS.below h).two
 have H4:Hid (∀ w',Below (w.heap.size+1) W1 w'->St3 w' w.heap.size (.slice none 0 0) (.slice none 0 0) (.slice none 0 0)):=fun w' h=>by
  have h3:St3 W1 w.heap.size (.slice none 0 0) (.slice none 0 0) (.slice none 0 0):=by rw [hW1];exact St3.new _ _ _ _ _
  obtain ⟨g0,⟨a,b,c⟩,d,e,f⟩:=h3;have hlt:w.heap.size < w.heap.size+1:=Nat.lt_succ_self _
  exact ⟨Nat.lt_of_lt_of_le g0 h.size,⟨(h.cell (p:=⟨w.heap.size,0,none⟩) hlt).trans a,(h.cell (p:=⟨w.heap.size,1,none⟩) hlt).trans b,(h.cell (p:=⟨w.heap.size,2,none⟩) hlt).trans c⟩,(h.frozen (p:=⟨w.heap.size,0,none⟩) hlt).trans d,(h.frozen (p:=⟨w.heap.size,1,none⟩) hlt).trans e,(h.frozen (p:=⟨w.heap.size,2,none⟩) hlt).trans f⟩
 have HPN:Hid (∀ w' v,Sk bs bl w w'->w'.heap[bl]? = w.heap[bl]?->MapIs w' 3 bs (n+1) (fput f (.int .i64 code) v)->StOk Pz w' m ps l code v->SvOk Pz w0 w' B bs bl (n+1) (.slice ao m.vars.length ac) (.slice ro m.rules.length rc) (.slice po ps.length pc) (.slice fo l.length fc) m ps l ho hc):=fun w' v h1 h2 h3 h4=>hS.putN h1 h2 hfs h3 hcr h4
 have hbs:bs < w.heap.size:=hf.lt;have hbl:bl < w.heap.size:=by obtain ⟨g,h1,_⟩:=hS.li;exact h1.lt
 have hne:=hS.ne;have hz1:W1.heap.size=w.heap.size+1:=by rw [hW1];simp
 have hN64:2 ^ (aheadL l).length <= 64:=Nat.pow_le_pow_right (show 0 < 2 by decide) h6
 have HStI:Hid (∀ (w':World) (lo no so:Option Addr) (lc nc sc:Nat),BoolsV w' (.slice lo ps.length lc) (letL m ps code)->IntsV w' (.slice no (nextL m code).length nc) (nextL m code)->IntsV w' (.slice so (2 ^ (aheadL l).length) sc) ((List.range (2 ^ (aheadL l).length)).map (sgAt l (letL m ps code)))->RowTy w' (.slice lo ps.length lc) 4->RowTy w' (.slice no (nextL m code).length nc) 3->RowTy w' (.slice so (2 ^ (aheadL l).length) sc) 3->(∀ a,no=some a->Pz a.block)->(∀ a,so=some a->Pz a.block)->StOk Pz w' m ps l code (.agg #[.slice lo ps.length lc,.slice no (nextL m code).length nc,.slice so (2 ^ (aheadL l).length) sc])):=fun w' lo no so lc nc sc h1 h2 h3 h4 h5 h6 h7 h8=>⟨lo,lc,no,nc,so,sc,rfl,h1,h2,h3,h4,h5,h6,h7,h8⟩
 have HUp:Hid (∀ b,w.heap.size <= b->Pz b):=hS.up
 unfold StPost;have HW:Hid (wcode m code=0):=hw;generalize sgAt l (letL m ps code)=sg at *;generalize hlt:letL m ps code=lt at *;generalize hnx:nextL m code=nx at *;generalize nx.length=nn at *;generalize m.vars.length=vn at *;generalize m.rules.length=rn at *;generalize ps.length=pn at *;generalize l.length=fn at *;generalize 2 ^ (aheadL l).length=N at *
 clear hS hf hfs hv hT hV hk hp0 hl0 hz h6 hlt hnx hw hm0;obtain ⟨W2,hW2⟩:∃ W2,W2=W1.alloc (.cells #[.slice none 0 0,.slice none 0 0,.slice none 0 0] 140):=⟨_,rfl⟩
 have hk2:Below (w.heap.size+1) W1 W2:=by rw [hW2];exact (Below.refl _ _).alloc (by omega) _
 have hbw2:Below w.heap.size w W2:=by rw [hW2];exact hb2
 have hz2:w.heap.size+1 <= W2.heap.size:=by rw [hW2];simp [hz1]
 rw [hW1] at hW2;subst hW1
 go_enter Tryz.func66,Tryz.ntmps66
 go_wp2_with fail
 rw [<- hW2];clear hW2 hlk c5;have hle:=HLe.out _ hbw2.drew;have HSC:Hid (∀ w1,Below w.heap.size w w1->w1.cell? ⟨B,0,none⟩=some (.slice ao vn ac)/\w1.cell? ⟨B,1,none⟩=some (.slice ro rn rc)/\w1.cell? ⟨B,2,none⟩=some (.slice po pn pc)):=fun w1 h=>by obtain ⟨y0,y1,y2,_⟩:=HSB.out _ h;exact ⟨y0,y1,y2⟩
 have hmk:=run_make_row' (P:=Tryz.prog) 36 3 (.int .i64 0) 8 Tryz.underlying36 infoInt rfl .i64 .i64 N (by omega) (by omega)
 go_region_held3 (fun w'=>w'.cell? ⟨B,0,none⟩=some (.slice ao vn ac)/\w'.cell? ⟨B,1,none⟩=some (.slice ro rn rc)/\w'.cell? ⟨B,2,none⟩=some (.slice po pn pc))
  (first | exact HSC.out _ hb12 | exact HSC.out _ hbw2.drew | exact HSC.out _ hbw2)
  (first
   | (go_at_call 45;refine hle.mono ?_;rintro e w3 ⟨lo,lc,rfl,hb3,HLv⟩;have hb12:=hbw2.drew.trans (hb3.mono hbw2.drew.size);have hk3:=hk2.drew.trans (hb3.mono hz2)))
 obtain ⟨z0,z1,z2,_⟩:=HSB.out _ hb12;have hnx:=HNe.out w3 hb12
 go_wp2_with (first | (go_at_call 84;refine hnx.mono ?_;rintro e w4 ⟨no,nc,rfl,hb4,HNv⟩;have hb14:=hb12.trans (hb4.mono hb12.size);have hk4:=hk3.trans (hb4.mono (Nat.le_trans hz2 hb3.size));have hcl:=HCl.out w4 hb14) | (go_at_call 46;refine hcl.mono ?_;rintro e w5 ⟨rfl,rfl⟩))
 clear hmk hle hnx hcl;have HS0:Hid (SgAt w5 ((w5.alloc (.cells (madeCells #[.int .i64 0] N) 3)).alloc (.cells #[.slice lo pn lc,.slice no nn nc,.slice (some ⟨w5.heap.size,0,none⟩) N N] 140)) N 0 sg (.slice lo pn lc) (.slice no nn nc)):=SgAt.start _ _ _ _ _;have HLt:Hid (∀ w',Below w5.heap.size w5 w'->BoolsV w' (.slice lo pn lc) lt):=fun w' h=>(HLv.out.1.below hb4).below h
 generalize (w5.alloc (.cells (madeCells #[.int .i64 0] N) 3)).alloc (.cells #[.slice lo pn lc,.slice no nn nc,.slice (some ⟨w5.heap.size,0,none⟩) N N] 140)=W5 at *;obtain ⟨_,⟨x0,x1,x2⟩,_,_,_⟩:=HS0.out.box
 go_wp2_with fail
 go_loopw [12,66,9] (fun _ i _ wr=>∃ k:Nat,k <= N/\i=.int .i64 k/\Hid (SgAt w5 wr N k sg (.slice lo pn lc) (.slice no nn nc))) (fun _ i _ _=>N - (intOf i).toNat)
 case atStart=>exact ⟨0,Nat.zero_le _,rfl,HS0⟩
 case round=>
  obtain ⟨k,hk,rfl,HA⟩:=hrel;have hA:=HA.out;obtain ⟨_,⟨e0,e1,e2⟩,_,_,_⟩:=id hA.box;have hbr:=hb14.trans (hA.bel.mono hb14.size)
  by_cases hkN:k < N
  ·have hsg:=HSg.out wr.drew k _ hbr.drew hkN (HLt.out _ hA.bel.drew)
   have HAd:Hid (∀ w',Below wr.heap.size wr w'->SgAt w5 w' N k sg (.slice lo pn lc) (.slice no nn nc)):=fun w' h=>hA.later h
   have HEB:Hid (∀ w',Below wr.heap.size wr w'->w'.cell? ⟨w5.heap.size+1,2,none⟩=some (.slice (some ⟨w5.heap.size,0,none⟩) N N)):=fun w' h=>(hA.later h).box.2.1.2.2
   have hB0:Below wr.heap.size wr wr:=Below.refl _ _;have hki:(k:Int) < (N:Int):=by omega
   clear hA HA
   go_wp2_with fail
   go_region_held3 (fun w'=>w'.cell? ⟨w5.heap.size+1,2,none⟩=some (.slice (some ⟨w5.heap.size,0,none⟩) N N))
    (first | exact HEB.out _ hb6 | exact HEB.out _ hB0.drew | exact HEB.out _ hB0 | simp [go_sem,HEB.out _ hb6])
    (first
     | (go_at_call 85;refine hsg.mono ?_;rintro e w6 ⟨rfl,hb6'⟩;have hb6:=hB0.drew.trans (hb6'.mono hB0.drew.size);have hA6:=HAd.out _ hb6;have f0:=hA6.row.cell hkN;have f1:=hA6.row.frozen k;have HA7:=(show Hid _ from hA6.put);clear hA6))
   go_wp2_with fail
   go_roundw
   case rel=>exact ⟨k+1,by omega,by go_num,HA7⟩
   case measure=>simp [intOf];omega
  ·obtain rfl:k=N:=by omega
   obtain ⟨w7,hput,hm7,hg7⟩:=HPut.out wr hbr (.agg #[.slice lo pn lc,.slice no nn nc,.slice (some ⟨w5.heap.size,0,none⟩) k k]);obtain ⟨_,_,_,z5⟩:=HSB.out wr hbr;have htw:=HTwo.out wr hbr;have hsk:Sk bs bl wr w7:=Sk.grown hg7 (.inl rfl);have hkr:=hk4.trans (hA.bel.mono (by have:=hb4.size;have:=hb3.size;simp at *;omega))
   have hst4:=H4.out _ hkr
   have HFin:Hid (∀ w8,w8=((w7.setCell ⟨w.heap.size,0,none⟩ (.slice lo pn lc)).setCell ⟨w.heap.size,1,none⟩ (.slice no nn nc)).setCell ⟨w.heap.size,2,none⟩ (.slice (some ⟨w5.heap.size,0,none⟩) k k)->Sk bs bl w w8/\SvOk Pz w0 w8 B bs bl (n+1) (.slice ao vn ac) (.slice ro rn rc) (.slice po pn pc) (.slice fo fn fc) m ps l ho hc/\StOk Pz w8 m ps l code (.agg #[.slice lo pn lc,.slice no nn nc,.slice (some ⟨w5.heap.size,0,none⟩) k k])):=fun w8 e8=>by
    obtain ⟨_,⟨y0,y1,y2⟩,_,_,_⟩:=id hst4;have y0':=hsk.cell htw y0;have y1':=hsk.cell htw y1;have y2':=hsk.cell htw y2;have y1a:(w7.setCell ⟨w.heap.size,0,none⟩ (.slice lo pn lc)).cell? ⟨w.heap.size,1,none⟩=some (.slice none 0 0):=by simp [go_sem,y1']
    have y2a:((w7.setCell ⟨w.heap.size,0,none⟩ (.slice lo pn lc)).setCell ⟨w.heap.size,1,none⟩ (.slice no nn nc)).cell? ⟨w.heap.size,2,none⟩=some (.slice none 0 0):=by simp [go_sem,y2']
    have s1:Sk bs bl w w8:=by
     rw [e8];exact ((((Sk.of hbr).trans hsk).setNew (p:=⟨w.heap.size,0,none⟩) (Nat.le_refl _) _).setNew (p:=⟨w.heap.size,1,none⟩) (Nat.le_refl _) _).setNew (p:=⟨w.heap.size,2,none⟩) (Nat.le_refl _) _
    have hbk:∀ i,i < w.heap.size->w8.heap[i]? = w7.heap[i]?:=fun i hi=>by
     rw [e8,RowKit.Below.heap_setCell _ _ _ _ (show i≠w.heap.size by omega),RowKit.Below.heap_setCell _ _ _ _ (show i≠w.heap.size by omega),RowKit.Below.heap_setCell _ _ _ _ (show i≠w.heap.size by omega)]
    have hso:StOk Pz w8 m ps l code (.agg #[.slice lo pn lc,.slice no nn nc,.slice (some ⟨w5.heap.size,0,none⟩) k k]):=by
     rw [e8];refine HStI.out _ lo no (some ⟨w5.heap.size,0,none⟩) lc nc k ?_ ?_ ?_ ?_ ?_ ?_ ?_ ?_
     ·exact ((((HLt.out wr hA.bel).sk hsk htw).setBox y0' _).setBox y1a _).setBox y2a _
     ·exact (((((HNv.out.1.below hA.bel)).sk hsk htw).setBox y0' _).setBox y1a _).setBox y2a _
     ·exact (((hA.done.sk hsk htw).setBox y0' _).setBox y1a _).setBox y2a _
     ·exact ((((((HLv.out.2.below hb4).below hA.bel).sk hsk htw).setCell _ _ _).setCell _ _ _).setCell _ _ _)
     ·exact (((((HNv.out.2.1.below hA.bel).sk hsk htw).setCell _ _ _).setCell _ _ _).setCell _ _ _)
     ·refine (((RowTy.sk (fun a n c e=>?_) hsk htw).setCell _ _ _).setCell _ _ _).setCell _ _ _
      injection e with e _ _
      injection e with e
      subst e;obtain ⟨cs,hcs,_⟩:=hA.row;exact ⟨cs,(0,0),hcs⟩
     ·exact HNv.out.2.2
     ·intro a e
      injection e with e
      subst e;exact HUp.out _ hb14.size
    refine ⟨s1,HPN.out w8 _ s1 ?_ (hm7.kept (hbk bs hbs)) hso,hso⟩
    rw [hbk bl hbl,hg7.block bl (Nat.lt_of_lt_of_le hbl hbr.size) (by intro e;injection e with e;exact hne e.symm),hbr.block bl hbl]
   obtain ⟨_,⟨y0,y1,y2⟩,y3,y4,y5⟩:=id hst4;have v0:=hsk.cell htw y0;have v1:=hsk.cell htw y1;have v2:=hsk.cell htw y2;have u0:=hsk.cell htw e0;have u1:=hsk.cell htw e1;have u2:=hsk.cell htw e2;have z7:=hsk.cell htw z5
   have g0:w7.frozen? ⟨w.heap.size,0,none⟩=false:=(World.frozen?_of_block (hg7.block w.heap.size hst4.1 (by intro e;injection e with e;omega))).trans y3
   have g1:w7.frozen? ⟨w.heap.size,1,none⟩=false:=(World.frozen?_of_block (hg7.block w.heap.size hst4.1 (by intro e;injection e with e;omega))).trans y4
   have g2:w7.frozen? ⟨w.heap.size,2,none⟩=false:=(World.frozen?_of_block (hg7.block w.heap.size hst4.1 (by intro e;injection e with e;omega))).trans y5
   clear HA hA hst4 hsk htw hm7 hg7 hkr HSg HLe HNe HCl HSB HPut HTwo H4 HPN HLt HNv HStI HS0
   go_wp2_with fail
   go_region_held3 (fun w'=>w'.cell? ⟨B,5,none⟩=some (.map (some bs))/\w'.cell? ⟨w5.heap.size+1,0,none⟩=some (.slice lo pn lc)/\w'.cell? ⟨w5.heap.size+1,1,none⟩=some (.slice no nn nc)/\w'.cell? ⟨w5.heap.size+1,2,none⟩=some (.slice (some ⟨w5.heap.size,0,none⟩) k k))
    (first | exact ⟨z5,e0,e1,e2⟩ | exact ⟨z7,u0,u1,u2⟩)
    (fail)
   go_wp2_with fail
   obtain ⟨r1,r2,r3⟩:=HFin.out _ rfl;refine bodyPost_ret (v:=.tuple #[.agg #[.slice lo pn lc,.slice no nn nc,.slice (some ⟨w5.heap.size,0,none⟩) k k],.int .i64 0]) ?_ rfl ⟨r1,r2,.inl ⟨HW.out,lo,lc,no,nc,some ⟨w5.heap.size,0,none⟩,k,rfl,r3⟩⟩
   simp [results,Tryz.results66,go_sem,v0,v1,v2]
theorem stateOf_any (w0 w:World) (B bs bl n:Nat) (va vr pv fv:Value) (m:Mo) (ps:List (List (Int × Int))) (l:List (Int × Int)) (ho:Option Addr) (hc:Nat) (code:Int) (hI:-9223372036854775808 <= code/\code <= 9223372036854775807) (hB:0 < w0.heap.size) (hT:TabAt w0) (hV:TaskV w0 va vr pv fv m ps l) (hk:tkcode m ps l=0) (hS:SvOk Pz w0 w B bs bl n va vr pv fv m ps l ho hc) (hn:n < 1000000000000) :
  Calls Tryz.prog 66 #[.pointer (some ⟨B,0,none⟩),.int .i64 code] w (StPost Pz w0 w B bs bl n va vr pv fv m ps l ho hc code):=by
 obtain ⟨f,hf,hfs⟩:=hS.st;have hm0:=(pcode_m (tk_zero hk).1).1
 cases hv:f (.int .i64 code) with
 | some v=>exact stateOf_known w0 w B bs bl n va vr pv fv m ps l ho hc code hI hm0 hS f hf hfs v hv
 | none=>
  by_cases hcr:0 <= code/\code < prodTo m.vars m.vars.length
  ·exact stateOf_new w0 w B bs bl n va vr pv fv m ps l ho hc code hI hB hT hV hk hS hn f hf hfs hv hcr
  ·exact stateOf_out w0 w B bs bl n va vr pv fv m ps l ho hc code hI hB hT hV hk hS f hf hv (by rw [wcode_no hm0 hcr];decide)
end Go.Proofs.YtfnobbpbmelgnaaGreatDoor
namespace Go.Proofs.YtfnobbpbmelgnaaGreatDoor
open Go.ChangeShapes Go.WideShapes Go.ChangeAt Go.RowKit Go.Deep Go.Maps
open Terms Tm
set_option maxHeartbeats 6400000
set_option maxRecDepth 20000
theorem laidOutP:laidOutB Tryz.prog=true:=by kernel_rfl
theorem rowLink:(168:TypeId) < Tryz.prog.types.size:=of_decide_eq_true (by kernel_rfl)
theorem keyedLink:Keyed Tryz.prog 168:=Keyed.of_law (deep_law_laid laidOutP (m:=3) (by omega) rowLink (by kernel_rfl) (by rw [Tryz.underlying168]))
theorem sizeTwo:∃ d,Tryz.prog.types.size=d+2:=⟨Tryz.prog.types.size - 2,by have h:2 <= Tryz.prog.types.size:=of_decide_eq_true (by kernel_rfl);omega⟩
theorem keyTypeLink:Tryz.prog.keyType 168=true:=by kernel_rfl
theorem cellsLink:Tryz.prog.cellsOf 168=8:=by kernel_rfl
theorem cellsArr6:Tryz.prog.cellsOf 166=6:=by kernel_rfl
theorem cellsB:Tryz.prog.cellsOf 4=1:=by kernel_rfl
theorem cellsI:Tryz.prog.cellsOf 3=1:=by kernel_rfl
theorem keyLink (y0 y1 y2 y3 y4 y5:Bool) {c s:Int} (hc:-9223372036854775808 <= c/\c <= 9223372036854775807) (hs:-9223372036854775808 <= s/\s <= 9223372036854775807) :
  ∃ kl,keyOf Tryz.prog 168 (.agg #[.bool y0,.bool y1,.bool y2,.bool y3,.bool y4,.bool y5,.int .i64 c,.int .i64 s])=some kl:=by
 obtain ⟨d,hd⟩:=sizeTwo;have hwc:(Lit.int .i64 c).wf=true:=WalkArith.wf_i64 (by omega)
 have hws:(Lit.int .i64 s).wf=true:=WalkArith.wf_i64 (by omega)
 unfold keyOf;rw [Tryz.underlying168];simp only [keyTypeLink,Value.formed,Tryz.underlying168,cellsLink,hd];simp [Program.keyLits,Tryz.underlying168,Tryz.underlying166,Tryz.underlying4,Tryz.underlying3,cellsLink,cellsArr6,cellsB,cellsI,Value.cells,hwc,hws,List.range,List.range.loop]
theorem six_len {x:List Bool} (h:x.length <= 6):(six x).length=6:=by simp [six];omega
theorem six_cases {z:List Bool} (h:z.length=6):∃ y0 y1 y2 y3 y4 y5,z=[y0,y1,y2,y3,y4,y5]:=by
 match z,h with
 | [a,b,c,d,e,f],_=>exact ⟨a,b,c,d,e,f,rfl⟩
theorem setRow_grown (w:World) (g:Nat) (cs:Array Value):w.grownBy (w.setRow g cs) (some g):=by
 refine ⟨rfl,rfl,rfl,by simp [World.setRow],fun k _ hk=>?_⟩
 simp only [World.setRow,Array.getElem?_modify]
 rw [if_neg (fun e=>hk (by rw [e]))]
theorem infoBoolSize:(Tryz.prog.info? 4).map (·.size)=some 1:=by kernel_rfl
theorem copy_link (w:World) (g:Nat) (lo:Option Addr) (pn lc:Nat) (x:List Bool) (c s:Int) (t ty:TypeId) (hx:BoolsV w (.slice lo pn lc) x) (hl:x.length=pn) (h6:pn <= 6) (hg:w.heap[g]? = some (.cells #[.bool false,.bool false,.bool false,.bool false,.bool false,.bool false,.int .i64 c,.int .i64 s] t (0,0))) :
  ∃ w' y0 y1 y2 y3 y4 y5,(Builtin.copy_ #[100,100] ty #[.slice (some ⟨g,0,none⟩) 6 6,.slice lo pn lc]).run Tryz.prog w=.ok (goInt pn) w'/\six x=[y0,y1,y2,y3,y4,y5]/\w'.heap[g]? = some (.cells #[.bool y0,.bool y1,.bool y2,.bool y3,.bool y4,.bool y5,.int .i64 c,.int .i64 s] t (0,0))/\w.grownBy w' (some g):=by
 obtain ⟨y0,y1,y2,y3,y4,y5,hy⟩:=six_cases (six_len (x:=x) (by omega))
 rcases Nat.eq_zero_or_pos pn with h0 | h0
 ·subst h0
  have hx0:x=[]:=List.length_eq_zero_iff.1 hl;subst hx0;have e:[y0,y1,y2,y3,y4,y5]=[false,false,false,false,false,false]:=by rw [<- hy];rfl
  simp only [List.cons.injEq,and_true] at e;obtain ⟨rfl,rfl,rfl,rfl,rfl,rfl⟩:=e;exact ⟨w,_,_,_,_,_,_,run_copy_none w _ _ _ 4 _ _ _ _ _ _ Tryz.underlying100 infoBoolSize (by simp),hy,hg,⟨rfl,rfl,rfl,Nat.le_refl _,fun _ _ _=>rfl⟩⟩
 ·obtain ⟨ao,cap,e1,hx⟩:=hx
  injection e1 with e1 e2 e3
  subst e1;obtain ⟨b,off,rfl,hb,hat⟩:=hx (by intro e;rw [e] at hl;simp at hl;omega)
  have hrun:=run_copy_row (P:=Tryz.prog) w 100 100 ty 4 g 0 6 6 ⟨b,off,none⟩ pn lc _ t (x.map Value.bool) Tryz.underlying100 infoBoolSize hg (by rw [List.length_map,hl];exact (Nat.min_eq_left h6).symm)
   (fun j v hv=>by
    rw [List.getElem?_map] at hv
    cases hxj:x[j]? with
    | none=>rw [hxj] at hv;simp at hv
    | some u=>
     rw [hxj] at hv;have hj:j < x.length:=(List.getElem?_eq_some_iff.1 hxj).1
     have:=hat j hj;rw [add_plain,this];rw [List.getD_eq_getElem?_getD,hxj]
     simpa using hv) (by simp;omega) (fun v hv=>by
    simp only [List.mem_map] at hv;obtain ⟨u,_,rfl⟩:=hv
    rfl)
  rw [List.length_map,hl] at hrun;refine ⟨_,y0,y1,y2,y3,y4,y5,hrun,hy,?_,setRow_grown _ _ _⟩
  rw [setRow_heap w g _ _ t (0,0) hg]
  congr 2
  have e6:(six x).map Value.bool=[.bool y0,.bool y1,.bool y2,.bool y3,.bool y4,.bool y5]:=by rw [hy];rfl
  have e7:x.map Value.bool++List.drop pn [Value.bool false,.bool false,.bool false,.bool false,.bool false,.bool false,.int .i64 c,.int .i64 s]=(six x).map Value.bool++[.int .i64 c,.int .i64 s]:=by
   unfold six;rw [List.map_append,List.map_replicate,List.append_assoc,hl]
   congr 1
   have:pn=1\/pn=2\/pn=3\/pn=4\/pn=5\/pn=6:=by omega
   rcases this with rfl | rfl | rfl | rfl | rfl | rfl <;> rfl
  simp only [List.take_zero,List.nil_append,Nat.zero_add];rw [e7,e6];rfl
end Go.Proofs.YtfnobbpbmelgnaaGreatDoor
namespace Go.Proofs.YtfnobbpbmelgnaaGreatDoor
open Go
set_option maxHeartbeats 6400000
set_option maxRecDepth 20000
def plOne (S:List (Int × Int)) (s:Int × Int):List (Int × Int):=if s∈S then S else S++[s]
def plTo (S l:List (Int × Int)):List (Int × Int):=l.foldl plOne S
theorem plOne_pre (S:List (Int × Int)) (s:Int × Int):S <+: plOne S s:=by
 unfold plOne
 split
 ·exact List.prefix_refl _
 ·exact List.prefix_append _ _
theorem plOne_mem (S:List (Int × Int)) (s:Int × Int):s∈plOne S s:=by
 unfold plOne
 split
 ·assumption
 ·exact List.mem_append_right _ (List.mem_singleton.2 rfl)
theorem plOne_iff {S:List (Int × Int)} {s x:Int × Int}:x∈plOne S s↔x∈S\/x=s:=by
 unfold plOne
 split
 ·constructor
  ·exact Or.inl
  ·rintro (h | rfl) <;> assumption
 ·rw [List.mem_append,List.mem_singleton]
theorem plOne_nodup {S:List (Int × Int)} (h:S.Nodup) (s:Int × Int):(plOne S s).Nodup:=by
 unfold plOne
 split
 ·exact h
 ·next hs=>
  refine List.nodup_append.2 ⟨h,by simp,fun a ha b hb=>?_⟩
  rw [List.mem_singleton] at hb;subst hb;exact fun e=>hs (e ▸ ha)
theorem plOne_length (S:List (Int × Int)) (s:Int × Int):S.length <= (plOne S s).length/\(plOne S s).length <= S.length+1:=by
 unfold plOne
 split
 ·omega
 ·rw [List.length_append,List.length_singleton]
  omega
theorem plTo_nil (S:List (Int × Int)):plTo S []=S:=rfl
theorem plTo_cons (S:List (Int × Int)) (s:Int × Int) (l:List (Int × Int)):plTo S (s:: l)=plTo (plOne S s) l:=rfl
theorem plTo_snoc (S l:List (Int × Int)) (s:Int × Int):plTo S (l++[s])=plOne (plTo S l) s:=by
 unfold plTo;rw [List.foldl_append];rfl
theorem plTo_pre (l:List (Int × Int)):∀ S,S <+: plTo S l:=by
 induction l with
 | nil=>exact fun S=>List.prefix_refl _
 | cons s l ih=>exact fun S=>(plOne_pre S s).trans (ih _)
theorem plTo_iff (l:List (Int × Int)):∀ (S:List (Int × Int)) (x:Int × Int),x∈plTo S l↔x∈S\/x∈l:=by
 induction l with
 | nil=>intro S x;simp [plTo_nil]
 | cons s l ih=>
  intro S x;rw [plTo_cons,ih,plOne_iff,List.mem_cons,or_assoc]
theorem plTo_nodup (l:List (Int × Int)):∀ S:List (Int × Int),S.Nodup->(plTo S l).Nodup:=by
 induction l with
 | nil=>exact fun S h=>h
 | cons s l ih=>exact fun S h=>ih _ (plOne_nodup h s)
theorem plTo_length (l:List (Int × Int)):∀ S:List (Int × Int),S.length <= (plTo S l).length/\(plTo S l).length <= S.length+l.length:=by
 induction l with
 | nil=>intro S;rw [plTo_nil];simp
 | cons s l ih=>
  intro S;have h1:=plOne_length S s;have h2:=ih (plOne S s);rw [plTo_cons,List.length_cons];omega
theorem idx_pre {S T:List (Int × Int)} (h:S <+: T) {s:Int × Int} (hs:s∈S):T.idxOf s=S.idxOf s:=by
 obtain ⟨R,rfl⟩:=h;rw [List.idxOf_append,if_pos hs]
theorem plOne_idx {S:List (Int × Int)} {s:Int × Int} (hs:s∉S):(plOne S s).idxOf s=S.length:=by
 unfold plOne;rw [if_neg hs,List.idxOf_append,if_neg hs]
 simp
section
variable (beg : List (Int × Int)) (bh : Int × Int -> List (Int × Int))
def exS:Nat->List (Int × Int)
 | 0=>plTo [] beg
 | k+1=>plTo (exS k) (bh ((exS k).getD k (0,0)))
theorem exS_pre (k:Nat):exS beg bh k <+: exS beg bh (k+1):=plTo_pre _ _
theorem exS_le {k j:Nat} (h:k <= j):exS beg bh k <+: exS beg bh j:=by
 induction h with
 | refl=>exact List.prefix_refl _
 | step _ ih=>exact ih.trans (exS_pre beg bh _)
theorem exS_nodup (k:Nat):(exS beg bh k).Nodup:=by
 induction k with
 | zero=>exact plTo_nodup _ _ List.nodup_nil
 | succ k ih=>exact plTo_nodup _ _ ih
theorem exS_at {k j p:Nat} (h:k <= j) (hp:p < (exS beg bh k).length):(exS beg bh j).getD p (0,0)=(exS beg bh k).getD p (0,0):=by
 obtain ⟨R,hR⟩:=exS_le beg bh h;rw [<- hR,List.getD_eq_getElem?_getD,List.getD_eq_getElem?_getD,List.getElem?_append_left hp]
end
end Go.Proofs.YtfnobbpbmelgnaaGreatDoor
namespace Go.Proofs.YtfnobbpbmelgnaaGreatDoor
open Go.ChangeShapes Go.WideShapes Go.ChangeAt Go.RowKit Go.Deep Go.Maps
open Terms Tm
set_option maxHeartbeats 6400000
set_option maxRecDepth 20000
theorem rowSpot:(97:TypeId) < Tryz.prog.types.size:=of_decide_eq_true (by kernel_rfl)
theorem keyedSpot:Keyed Tryz.prog 97:=Keyed.of_law (deep_law_laid laidOutP (m:=3) (by omega) rowSpot (by kernel_rfl) (by rw [Tryz.underlying97]))
theorem keyTypeSpot:Tryz.prog.keyType 97=true:=by kernel_rfl
theorem cellsSpot2:Tryz.prog.cellsOf 97=2:=by kernel_rfl
def spotV (p:Int × Int):Value:=.agg #[.int .i64 p.1,.int .i64 p.2]
def I64s (p:Int × Int):Prop:=(-9223372036854775808 <= p.1/\p.1 <= 9223372036854775807)/\(-9223372036854775808 <= p.2/\p.2 <= 9223372036854775807)
def spotK (p:Int × Int):Lit:=.string (keyBytes [.int .i64 p.1,.int .i64 p.2])
theorem keySpot {p:Int × Int} (h:I64s p):keyOf Tryz.prog 97 (spotV p)=some (spotK p):=by
 obtain ⟨d,hd⟩:=sizeTwo;have hwc:(Lit.int .i64 p.1).wf=true:=WalkArith.wf_i64 (by have:=h.1;omega)
 have hws:(Lit.int .i64 p.2).wf=true:=WalkArith.wf_i64 (by have:=h.2;omega)
 unfold keyOf spotV spotK;rw [Tryz.underlying97];simp only [keyTypeSpot,Value.formed,Tryz.underlying97,cellsSpot2,hd];simp [Program.keyLits,Tryz.underlying97,Tryz.underlying3,cellsSpot2,cellsI,Value.cells,hwc,hws,List.range]
theorem spotK_inj {p q:Int × Int} (hp:I64s p) (hq:I64s q) (h:spotK p=spotK q):p=q:=by
 have e:=keyedSpot.inj (keySpot hp) (h ▸ keySpot hq);simp only [spotV,Value.agg.injEq] at e;simp at e
 exact Prod.ext e.1 e.2
def LiesAt (w:World) (b:Nat) (S:List (Int × Int)):Prop:=
 ∃ f,MapIs w 97 b S.length f/\∀ p,I64s p->f (spotK p)=if p∈S then some (.int .i64 (S.idxOf p:Nat)) else none
theorem LiesAt.new {w:World} {b:Nat} (h:w.heap[b]? = some (.map #[] 0)):LiesAt w b []:=⟨_,MapIs.new _ h,fun p _=>by simp⟩
theorem LiesAt.kept {w w':World} {b:Nat} {S:List (Int × Int)} (h:LiesAt w b S) (e:w'.heap[b]? = w.heap[b]?):LiesAt w' b S:=by
 obtain ⟨f,h1,h2⟩:=h;exact ⟨f,h1.kept e,h2⟩
theorem LiesAt.look {w:World} {b:Nat} {S:List (Int × Int)} (h:LiesAt w b S) {p:Int × Int} (hp:I64s p):(Instr.lookup 91 (.map (some b)) (spotV p) true).run Tryz.prog w=.ok (.tuple #[if p∈S then .int .i64 (S.idxOf p:Nat) else .int .i64 0,.bool (decide (p∈S))]) w:=by
 obtain ⟨f,h1,h2⟩:=h;rw [h1.look keyedSpot Tryz.underlying91 (z:=.int .i64 0) (zeroInt w) (keySpot hp),h2 p hp]
 split <;> simp [*]
theorem LiesAt.put {w:World} {b:Nat} {S:List (Int × Int)} (h:LiesAt w b S) {p:Int × Int} (hp:I64s p) (hS:p∉S) (hn:S.length < maxLen):∃ w',(Instr.mapUpdate 91 (.map (some b)) (spotV p) (.int .i64 (S.length:Nat))).run Tryz.prog w=.ok () w'/\LiesAt w' b (plOne S p)/\w.grownBy w' (some b):=by
 obtain ⟨f,h1,h2⟩:=h;obtain ⟨w',hr,hm,hg⟩:=h1.put keyedSpot Tryz.underlying91 hn (val:=.int .i64 (S.length:Nat)) (keySpot hp) (keyedSpot.key (keySpot hp));have e:plOne S p=S++[p]:=by unfold plOne;rw [if_neg hS]
 refine ⟨w',hr,⟨_,by rw [e,List.length_append,List.length_singleton];exact hm,fun q hq=>?_⟩,hg⟩
 by_cases hqp:q=p
 ·subst hqp
  rw [fput_same,if_pos (plOne_mem S q),plOne_idx hS]
 ·rw [fput_other (fun e=>hqp (spotK_inj hq hp e)),h2 q hq]
  by_cases hqS:q∈S
  ·rw [if_pos hqS,if_pos (plOne_iff.2 (.inl hqS)),idx_pre (plOne_pre S p) hqS]
  ·rw [if_neg hqS,if_neg (fun e=>(plOne_iff.1 e).elim hqS hqp)]
def atB (sv nv tv:Value) (init many:Int) (lm:Nat):Obj:=.cells #[sv,.int .i64 init,nv,tv,.int .i64 many,.map (some lm)] 93 (0,0)
def LsAt (w:World) (base:Nat) (nv tv:Value) (N:List (List Int)):Prop:=
 ∃ us:List Value,w.ownsRow base 36 1 nv N.length us/\us.length=N.length/\∀ i,i < N.length->∃ ao c,us.getD i (.slice none 0 0)=.slice ao (N.getD i []).length c/\IntsV w (.slice ao (N.getD i []).length c) (N.getD i [])/\RowTy w (.slice ao (N.getD i []).length c) 3/\∀ a,ao=some a->tv.ownBlock≠some a.block/\base <= a.block
structure AtX (w:World) (base A lm:Nat) (S:List (Int × Int)) (N:List (List Int)) (T:List Int) (init many:Int) (sv nv tv:Value):Prop where
 box:w.heap[A]? = some (atB sv nv tv init many lm)
 bA:base <= A
 bl:base <= lm
 lies:LiesAt w lm S
 sp:SpO w base sv S
 nx:LsAt w base nv tv N
 st:w.ownsRow base 3 1 tv T.length (ivals T)
section
variable {w w' : World} {base A lm : Nat} {S : List (Int × Int)} {N : List (List Int)} {T : List Int} {init many : Int} {sv nv tv : Value}
theorem LsAt.chg {Z:Nat->Prop} (h:LsAt w base nv tv N) (hs:Chg Z w w') (h1:∀ i,Z i->nv.ownBlock≠some i/\∀ ao:Option Addr,∀ a,ao=some a->i=a.block->tv.ownBlock≠some i->¬ TyB w i 3):LsAt w' base nv tv N:=by
 obtain ⟨us,h2,h3,h4⟩:=h;refine ⟨us,owns_chg h2 hs (fun g e z=>(h1 g z).1 e),h3,fun i hi=>?_⟩
 obtain ⟨ao,c,e1,e2,e3,e4⟩:=h4 i hi;have hz:∀ a,ao=some a->¬ Z a.block:=fun a e z=>(h1 _ z).2 ao a e rfl (e4 a e).1 (by subst e;exact e3.ty)
 exact ⟨ao,c,e1,e2.chg hs hz,e3.chg hs hz,e4⟩
theorem AtX.ty (h:AtX w base A lm S N T init many sv nv tv):TyB w A 93:=⟨_,_,h.box⟩
theorem LiesAt.isMap {b:Nat} (h:LiesAt w b S):∃ es c,w.heap[b]? = some (.map es c):=by
 obtain ⟨f,h1,_⟩:=h;exact h1.isMap
theorem LiesAt.lt {b:Nat} (h:LiesAt w b S):b < w.heap.size:=by
 obtain ⟨es,c,h⟩:=h.isMap;exact (Array.getElem?_eq_some_iff.1 h).1
theorem AtX.lt (h:AtX w base A lm S N T init many sv nv tv):A < w.heap.size:=h.ty.lt
theorem AtX.base_le (h:AtX w base A lm S N T init many sv nv tv):base <= w.heap.size:=by have:=h.lt;have:=h.bA;omega
theorem AtX.chg {Z:Nat->Prop} (h:AtX w base A lm S N T init many sv nv tv) (hs:Chg Z w w') (hz:∀ i,Z i->i≠A/\i≠lm/\¬ TyB w i 97/\¬ TyB w i 36/\¬ TyB w i 3):AtX w' base A lm S N T init many sv nv tv:=by
 have zA:¬ Z A:=fun z=>(hz _ z).1 rfl
 have zl:¬ Z lm:=fun z=>(hz _ z).2.1 rfl
 obtain ⟨us,n1,n2,n3⟩:=id h.nx;refine ⟨(hs.block A h.lt zA).trans h.box,h.bA,h.bl,h.lies.kept (hs.block lm h.lies.lt zl),owns_chg h.sp hs (fun g e z=>(hz g z).2.2.1 (owns_ty h.sp e).2),h.nx.chg hs fun i z=>⟨fun e=>(hz i z).2.2.2.1 (owns_ty n1 e).2,fun _ _ _ _ _=>(hz i z).2.2.2.2⟩,owns_chg h.st hs (fun g e z=>(hz g z).2.2.2.2 (owns_ty h.st e).2)⟩
theorem AtX.below (h:AtX w base A lm S N T init many sv nv tv) (hb:Below w.heap.size w w'):AtX w' base A lm S N T init many sv nv tv:=h.chg (Chg.of (Z:=fun _=>False) hb) fun _ z=>z.elim
theorem AtX.sk {bs bl':Nat} (h:AtX w base A lm S N T init many sv nv tv) (hs:Sk bs bl' w w') (hm:TwoMaps w bs bl') (h1:lm≠bs) (h2:lm≠bl'):AtX w' base A lm S N T init many sv nv tv:=by
 obtain ⟨⟨es,c,e1⟩,⟨es',c',e2⟩⟩:=hm;refine h.chg hs.chg fun i z=>?_
 have hno:∀ t,¬ TyB w i t:=fun t ht=>by
  rcases z with rfl | rfl
  ·exact ht.no_map e1
  ·exact ht.no_map e2
 refine ⟨fun e=>hno _ (e ▸ h.ty),fun e=>?_,hno _,hno _,hno _⟩
 rcases z with rfl | rfl
 ·exact h1 e.symm
 ·exact h2 e.symm
def atZ (A lm:Nat) (sv:Value):Nat->Prop:=fun i=>i=A\/i=lm\/sv.ownBlock=some i
theorem AtX.put {S':List (Int × Int)} {sv':Value} (h:AtX w base A lm S N T init many sv nv tv) (hs:Chg (atZ A lm sv) w w') (hbx:w'.heap[A]? = some (atB sv' nv tv init many lm)) (hl:LiesAt w' lm S') (hsp:SpO w' base sv' S'):AtX w' base A lm S' N T init many sv' nv tv:=by
 obtain ⟨es,c,em⟩:=h.lies.isMap
 have hno:∀ i t,atZ A lm sv i->TyB w i t->t=93\/t=97:=fun i t z ht=>by
  rcases z with rfl | rfl | e
  ·exact .inl (ht.eq h.ty)
  ·exact absurd em ht.no_map
  ·exact .inr (ht.eq (owns_ty h.sp e).2)
 have hni:∀ i,atZ A lm sv i->¬ TyB w i 3:=fun i z ht=>by
  rcases hno i _ z ht with e | e
  ·exact absurd e (by decide)
  ·exact absurd e (by decide)
 have hnl:∀ i,atZ A lm sv i->¬ TyB w i 36:=fun i z ht=>by
  rcases hno i _ z ht with e | e
  ·exact absurd e (by decide)
  ·exact absurd e (by decide)
 obtain ⟨us,n1,n2,n3⟩:=id h.nx;exact ⟨hbx,h.bA,h.bl,hl,hsp,h.nx.chg hs fun i z=>⟨fun e=>hnl i z (owns_ty n1 e).2,fun _ _ _ _ _=>hni i z⟩,owns_chg h.st hs (fun g e z=>hni g z (owns_ty h.st e).2)⟩
theorem atB_set0 (w:World) (hb:w.heap[A]? = some (atB sv nv tv init many lm)) (v:Value):(w.setCell ⟨A,0,none⟩ v).heap[A]? = some (atB v nv tv init many lm):=by
 unfold atB at *;simp [World.setCell,Array.getElem?_modify,hb]
theorem atB_set2 (w:World) (hb:w.heap[A]? = some (atB sv nv tv init many lm)) (v:Value):(w.setCell ⟨A,2,none⟩ v).heap[A]? = some (atB sv v tv init many lm):=by
 unfold atB at *;simp [World.setCell,Array.getElem?_modify,hb]
theorem atB_set3 (w:World) (hb:w.heap[A]? = some (atB sv nv tv init many lm)) (v:Value):(w.setCell ⟨A,3,none⟩ v).heap[A]? = some (atB sv nv v init many lm):=by
 unfold atB at *;simp [World.setCell,Array.getElem?_modify,hb]
theorem atB_cells (hb:w.heap[A]? = some (atB sv nv tv init many lm)):w.cell? ⟨A,0,none⟩=some sv/\w.cell? ⟨A,1,none⟩=some (.int .i64 init)/\w.cell? ⟨A,2,none⟩=some nv/\w.cell? ⟨A,3,none⟩=some tv/\w.cell? ⟨A,4,none⟩=some (.int .i64 many)/\w.cell? ⟨A,5,none⟩=some (.map (some lm)):=by
 unfold atB at hb;refine ⟨?_,?_,?_,?_,?_,?_⟩ <;> simp [World.cell?,hb]
theorem atB_free (hb:w.heap[A]? = some (atB sv nv tv init many lm)) (i:Nat):w.frozen? ⟨A,i,none⟩=false:=by
 unfold atB at hb;simp [World.frozen?,hb]
end
theorem plTo_app (S a b:List (Int × Int)):plTo S (a++b)=plTo (plTo S a) b:=by
 unfold plTo;rw [List.foldl_append]
theorem plTo_take {S l:List (Int × Int)} {k:Nat} (h:k < l.length):plTo S (l.take (k+1))=plOne (plTo S (l.take k)) (l.getD k (0,0)):=by
 rw [List.take_add_one,List.getElem?_eq_getElem h]
 simp only [Option.toList_some];rw [plTo_snoc];simp [List.getD_eq_getElem?_getD,h]
theorem plTo_idx {S l:List (Int × Int)} {k:Nat} (h:k < l.length):(plTo S l).idxOf (l.getD k (0,0))=(plOne (plTo S (l.take k)) (l.getD k (0,0))).idxOf (l.getD k (0,0)):=by
 rw [<- plTo_take h];refine idx_pre ?_ ?_
 ·have e:plTo S l=plTo (plTo S (l.take (k+1))) (l.drop (k+1)):=by rw [<- plTo_app,List.take_append_drop]
  rw [e];exact plTo_pre _ _
 ·rw [plTo_take h]
  exact plOne_mem _ _
theorem plOne_in {S:List (Int × Int)} {p:Int × Int} (h:p∈S):plOne S p=S:=by unfold plOne;rw [if_pos h]
theorem plOne_out {S:List (Int × Int)} {p:Int × Int} (h:p∉S):plOne S p=S++[p]:=by unfold plOne;rw [if_neg h]
def plIx (S l:List (Int × Int)):List Int:=(List.range l.length).map fun (j:Nat)=>(((plTo S l).idxOf (l.getD j (0,0)):Nat):Int)
theorem plIx_len (S l:List (Int × Int)):(plIx S l).length=l.length:=by simp [plIx]
theorem plIx_at {S l:List (Int × Int)} {j:Nat} (h:j < l.length):(plIx S l).getD j 0=(((plTo S l).idxOf (l.getD j (0,0)):Nat):Int):=by simp [plIx,List.getD_eq_getElem?_getD,h]
theorem SpV.chg {Z:Nat->Prop} {w w':World} {ao:Option Addr} {n c:Nat} {x:List (Int × Int)} (h:SpV w (.slice ao n c) x) (hs:Chg Z w w') (hz:∀ a,ao=some a->¬ Z a.block):SpV w' (.slice ao n c) x:=by
 obtain ⟨ao',cap,e,h⟩:=h
 injection e with e1 e2 e3
 subst e1 e2 e3;refine ⟨ao,c,rfl,fun hne=>?_⟩
 obtain ⟨b,off,rfl,hlt,hat⟩:=h hne;exact ⟨b,off,rfl,Nat.lt_of_lt_of_le hlt hs.size,fun i hi=>⟨hs.cell (hat i hi).1 (hz ⟨b,off,none⟩ rfl),hs.cell (hat i hi).2 (hz ⟨b,off,none⟩ rfl)⟩⟩
theorem SpV.get {w:World} {ao:Option Addr} {n c:Nat} {x:List (Int × Int)} (h:SpV w (.slice ao n c) x) {i:Nat} (hi:i < x.length):∃ b off,ao=some ⟨b,off,none⟩/\b < w.heap.size/\w.cell? ⟨b,off+i*2,none⟩=some (.int .i64 (x.getD i (0,0)).1)/\w.cell? ⟨b,off+i*2+1,none⟩=some (.int .i64 (x.getD i (0,0)).2):=by
 obtain ⟨ao',cap,e,h⟩:=h
 injection e with e1 e2 e3
 subst e1;obtain ⟨b,off,rfl,hlt,hat⟩:=h (by rintro rfl;simp at hi)
 exact ⟨b,off,rfl,hlt,(hat i hi).1,(hat i hi).2⟩
structure PlB (w wr:World) (base A lm R n:Nat) (SL SS:List (Int × Int)) (sv svb svk nv tv:Value) (init many:Int) (rf:Nat->Value):Prop where
 box:wr.heap[A]? = some (atB svb nv tv init many lm)
 lies:LiesAt wr lm SL
 sp:SpO wr base svk SS
 row:wr.rowIs R 3 n rf
 chg:Chg (atZ A lm sv) w wr
 own:svk.ownBlock=sv.ownBlock\/∃ g,svk.ownBlock=some g/\w.heap.size <= g
 hR:w.heap.size <= R
section
variable {w wr w' : World} {base A lm R n : Nat} {SL SS S' : List (Int × Int)} {sv svb svk sv' nv tv : Value} {init many : Int} {rf : Nat -> Value}
theorem PlB.tyA (h:PlB w wr base A lm R n SL SS sv svb svk nv tv init many rf):TyB wr A 93:=⟨_,_,h.box⟩
theorem PlB.tyR (h:PlB w wr base A lm R n SL SS sv svb svk nv tv init many rf):TyB wr R 3:=by
 obtain ⟨cs,hcs,_⟩:=h.row;exact ⟨cs,(0,0),hcs⟩
theorem PlB.below (h:PlB w wr base A lm R n SL SS sv svb svk nv tv init many rf) (hb:Below wr.heap.size wr w'):PlB w w' base A lm R n SL SS sv svb svk nv tv init many rf:=
 ⟨(hb.block A h.tyA.lt).trans h.box,h.lies.kept (hb.block lm h.lies.lt),h.sp.later hb (Nat.le_refl _),h.row.of_block (hb.block R h.tyR.lt),h.chg.trans (Chg.of hb),h.own,h.hR⟩
theorem PlB.map (h:PlB w wr base A lm R n SL SS sv svb svk nv tv init many rf) (hg:wr.grownBy w' (some lm)) (hl:LiesAt w' lm S'):PlB w w' base A lm R n S' SS sv svb svk nv tv init many rf:=by
 obtain ⟨es,c,em⟩:=h.lies.isMap
 have hne:∀ i t,TyB wr i t->some i≠some lm:=fun i t ht e=>by
  injection e with e
  subst e;exact ht.no_map em
 have hb:∀ i t,TyB wr i t->w'.heap[i]? = wr.heap[i]?:=fun i t ht=>hg.block i ht.lt (hne i t ht)
 refine ⟨(hb A _ h.tyA).trans h.box,hl,owns_chg h.sp (Chg.grown hg) (fun g e z=>hne g _ (owns_ty h.sp e).2 z.symm),h.row.of_block (hb R _ h.tyR),h.chg.trans2 (Chg.grown hg) (fun i _ e=>?_),h.own,h.hR⟩
 injection e with e
 exact .inr (.inl e.symm)
theorem PlB.app (h:PlB w wr base A lm R n SL SS sv svb svk nv tv init many rf) (hg:wr.grownBy w' svk.ownBlock) (hs:SpO w' base sv' S') (ho:sv'.ownBlock=svk.ownBlock\/∃ g,sv'.ownBlock=some g/\w.heap.size <= g):PlB w w' base A lm R n SL S' sv svb sv' nv tv init many rf:=by
 obtain ⟨es,c,em⟩:=h.lies.isMap;have hne:∀ i t,TyB wr i t->t≠97->some i≠svk.ownBlock:=fun i t ht h2 e=>h2 (ht.eq (owns_ty h.sp e.symm).2)
 have hb:∀ i t,TyB wr i t->t≠97->w'.heap[i]? = wr.heap[i]?:=fun i t ht h2=>hg.block i ht.lt (hne i t ht h2)
 refine ⟨(hb A _ h.tyA (by decide)).trans h.box,h.lies.kept (hg.block lm h.lies.lt fun e=>(owns_ty h.sp e.symm).2.no_map em),hs,h.row.of_block (hb R _ h.tyR (by decide)),h.chg.trans2 (Chg.grown hg) (fun i hi e=>?_),?_,h.hR⟩
 ·rcases h.own with h1 | ⟨g,h1,h2⟩
  ·exact .inr (.inr (h1 ▸ e))
  ·rw [h1] at e
   injection e with e
   omega
 ·rcases ho with h1 | h1
  ·rw [h1];exact h.own
  ·exact .inr h1
theorem PlB.setA (h:PlB w wr base A lm R n SL SS sv svb svk nv tv init many rf):PlB w (wr.setCell ⟨A,0,none⟩ svk) base A lm R n SL SS sv svk svk nv tv init many rf:=by
 obtain ⟨es,c,em⟩:=h.lies.isMap;have hne:∀ i t,TyB wr i t->t≠93->i≠A:=fun i t ht h2 e=>h2 (ht.eq (e ▸ h.tyA))
 refine ⟨atB_set0 wr h.box svk,h.lies.kept (RowKit.Below.heap_setCell _ _ _ _ (fun e=>h.tyA.no_map (e ▸ em))),owns_chg h.sp (Chg.setCell wr _ _) (fun g e=>hne g _ (owns_ty h.sp e).2 (by decide)),h.row.of_block (RowKit.Below.heap_setCell _ _ _ _ (hne R _ h.tyR (by decide))),h.chg.trans2 (Chg.setCell wr _ _) (fun i _ e=>.inl e),h.own,h.hR⟩
theorem PlB.setR (h:PlB w wr base A lm R n SL SS sv svb svk nv tv init many rf) (k:Nat) (v:Value):PlB w (wr.setCell ⟨R,k,none⟩ v) base A lm R n SL SS sv svb svk nv tv init many (fun j=>if j=k then v else rf j):=by
 obtain ⟨es,c,em⟩:=h.lies.isMap;have hne:∀ i t,TyB wr i t->t≠3->i≠R:=fun i t ht h2 e=>h2 (ht.eq (e ▸ h.tyR))
 refine ⟨(RowKit.Below.heap_setCell _ _ _ _ (hne A _ h.tyA (by decide))).trans h.box,h.lies.kept (RowKit.Below.heap_setCell _ _ _ _ (fun e=>h.tyR.no_map (e ▸ em))),owns_chg h.sp (Chg.setCell wr _ _) (fun g e=>hne g _ (owns_ty h.sp e).2 (by decide)),h.row.set k v,h.chg.trans2 (Chg.setCell wr _ _) (fun i hi e=>?_),h.own,h.hR⟩
 have:=h.hR;simp only at e
 omega
end
def PlPost (w:World) (base A lm:Nat) (S:List (Int × Int)) (N:List (List Int)) (T:List Int) (init many:Int) (sv nv tv:Value) (l:List (Int × Int)) (e:Ending) (w':World):Prop:=
 e=.returned (.slice (some ⟨w.heap.size,0,none⟩) l.length l.length)/\∃ sv',AtX w' base A lm (plTo S l) N T init many sv' nv tv/\IntsV w' (.slice (some ⟨w.heap.size,0,none⟩) l.length l.length) (plIx S l)/\RowTy w' (.slice (some ⟨w.heap.size,0,none⟩) l.length l.length) 3/\Chg (atZ A lm sv) w w'/\(sv'.ownBlock=sv.ownBlock\/∃ g,sv'.ownBlock=some g/\w.heap.size <= g)
theorem places_any (w:World) (base A lm:Nat) (S:List (Int × Int)) (N:List (List Int)) (T:List Int) (init many:Int) (sv nv tv:Value) (l:List (Int × Int)) (so:Option Addr) (sc:Nat) (hX:AtX w base A lm S N T init many sv nv tv) (hl:SpV w (.slice so l.length sc) l) (hsep:∀ a,so=some a->¬ atZ A lm sv a.block) (hI:∀ j,j < l.length->I64s (l.getD j (0,0))) (hz:S.length+l.length <= 1000000000) :
    Calls Tryz.prog 27 #[.pointer (some ⟨A,0,none⟩),.slice so l.length sc] w (PlPost w base A lm S N T init many sv nv tv l):=by
  obtain ⟨n,hn⟩:∃ n,l.length=n:=⟨_,rfl⟩
  have HN:Hid (l.length=n):=hn;have HXt:Hid (AtX w base A lm S N T init many sv nv tv):=hX;have HI:Hid (∀ j,j < n->I64s (l.getD j (0,0))):=fun j hj=>hI j (by omega)
  have HLs:Hid (∀ wr,Chg (atZ A lm sv) w wr->SpV wr (.slice so n sc) l):=fun wr h=>by have:=hl.chg h hsep;rw [hn] at this;exact this
  have HSz:Hid (∀ k,(plTo S (l.take k)).length <= S.length+n):=fun k=>by
    have:=(plTo_length (l.take k) S).2;have h2:(l.take k).length <= l.length:=by rw [List.length_take];omega
    show _ <= _
    omega
  unfold PlPost;rw [hn];have hnz:S.length+n <= 1000000000:=by omega
  clear hX hl hsep hI hz hn;have hmk:=run_make_row' (P:=Tryz.prog) 36 3 (.int .i64 0) 8 Tryz.underlying36 infoInt rfl .i64 .i64 n (by omega) (by omega)
  have HS0:Hid (∀ W0,W0=w.alloc (.cells (madeCells #[.int .i64 0] n) 3)->PlB w W0 base A lm w.heap.size n (plTo S (l.take 0)) (plTo S (l.take 0)) sv sv sv nv tv init many (fun j=>.int .i64 (if j < 0 then (((plTo S l).idxOf (l.getD j (0,0)):Nat):Int) else 0))):=fun W0 e=>by
    subst e;have hb:Below w.heap.size w (w.alloc (.cells (madeCells #[.int .i64 0] n) 3)):=(Below.refl _ _).alloc (Nat.le_refl _) _;have hx:=HXt.out.below hb;exact ⟨hx.box,hx.lies,hx.sp,(World.rowIs_made w (.int .i64 0) n 3).congr (fun j _=>by simp),Chg.of hb,.inl rfl,Nat.le_refl _⟩
  go_enter Tryz.func27,Tryz.ntmps27
  go_wp2_with fail
  go_loopw [15] (fun i wr=>∃ k:Nat,k <= n/\i=.int .i64 k/\∃ svk,Hid (PlB w wr base A lm w.heap.size n (plTo S (l.take k)) (plTo S (l.take k)) sv svk svk nv tv init many (fun j=>.int .i64 (if j < k then (((plTo S l).idxOf (l.getD j (0,0)):Nat):Int) else 0)))) (fun i _=>n - (intOf i).toNat)
  case atStart=>exact ⟨0,Nat.zero_le _,rfl,sv,HS0.out _ rfl⟩
  case round=>
    obtain ⟨k,hk,rfl,svk,HA⟩:=hrel
    by_cases hlt:k < n
    · have hlt2:k < l.length:=by rw [HN.out];exact hlt
      obtain ⟨b,off,rfl,hbl,c0,c1⟩:=(HLs.out wr HA.out.chg).get hlt2;have hki:(k:Int) < (n:Int):=by omega
      have hIk:=HI.out k hlt;have HT:=(show Hid _ from plTo_take (S:=S) hlt2)
      have HD:=(show Hid _ from plTo_idx (S:=S) hlt2)
      have hSz:=HSz.out k
      have HRow:Hid (∀ ix:Nat,(plTo S l).idxOf (l.getD k (0,0))=ix->∀ j:Nat,(if j=k then Value.int .i64 (ix:Nat) else .int .i64 (if j < k then (((plTo S l).idxOf (l.getD j (0,0)):Nat):Int) else 0))=.int .i64 (if j < k+1 then (((plTo S l).idxOf (l.getD j (0,0)):Nat):Int) else 0)):=fun ix e j=>by
        by_cases h:j=k
        · subst h
          rw [if_pos rfl,if_pos (Nat.lt_succ_self _),e]
        · rw [if_neg h]
          by_cases h1:j < k
          · rw [if_pos h1,if_pos (by omega)]
          · rw [if_neg h1,if_neg (by omega)]
      generalize hSk:plTo S (l.take k)=Sk at *;generalize hp:l.getD k (0,0)=p at *;obtain ⟨x,y⟩:=p;simp only at c0 c1
      obtain ⟨vo,vc,rfl⟩:=HA.out.sp.shape;have hal:Below wr.heap.size wr (wr.alloc (.cells #[.int .i64 x,.int .i64 y] 97)):=(Below.refl _ _).alloc (Nat.le_refl _) _
      have HAd:Hid (∀ w2,Below wr.heap.size wr w2->PlB w w2 base A lm w.heap.size n Sk Sk sv (.slice vo Sk.length vc) (.slice vo Sk.length vc) nv tv init many (fun j=>.int .i64 (if j < k then (((plTo S l).idxOf (l.getD j (0,0)):Nat):Int) else 0))):=fun w2 h=>HA.out.below h
      obtain ⟨q0,q1,q2,q3,q4,q5⟩:=atB_cells (HAd.out _ hal).box;have s0:(wr.alloc (.cells #[.int .i64 x,.int .i64 y] 97)).cell? ⟨wr.heap.size,0,none⟩=some (.int .i64 x):=by simp [go_sem]
      have s1:(wr.alloc (.cells #[.int .i64 x,.int .i64 y] 97)).cell? ⟨wr.heap.size,1,none⟩=some (.int .i64 y):=by simp [go_sem]
      have hlk:=(HAd.out _ hal.drew).lies.look hIk;unfold spotV at hlk;simp only at hlk
      by_cases hmem:(x,y)∈Sk
      · rw [if_pos hmem,decide_eq_true hmem] at hlk
        have HV:Hid (((plTo S l).idxOf (x,y):Nat)=Sk.idxOf (x,y)):=by show _=_;rw [HD.out,plOne_in hmem]
        have HT2:Hid (plTo S (l.take (k+1))=Sk):=by show _=_;rw [HT.out,plOne_in hmem]
        generalize Sk.idxOf (x,y)=ix at *;generalize hW1:wr.alloc (.cells #[.int .i64 x,.int .i64 y] 97)=W1 at *
        go_upto_region 5 with fail
        go_cut [8,9] (fun u8 u9 wx=>u8=.int .i64 (ix:Nat)/\u9=.bool true/\wx=W1.drew)
        case first=>
          go_region_law (fail)
          all_goals go_wp2_with fail
          all_goals go_meet
          all_goals exact ⟨rfl,rfl,rfl⟩
        case rest=>
          obtain ⟨rfl,rfl,rfl⟩:=hcut;have hA6:=HAd.out _ hal.drew;have f0:=hA6.row.cell hlt;have f1:=hA6.row.frozen k;have HA7:=(show Hid _ from hA6.setR k (.int .i64 (ix:Nat)))
          clear hA6 hlk
          go_wp2_with fail
          go_roundw
          case rel=>
            refine ⟨k+1,by omega,by go_num,.slice vo Sk.length vc,?_⟩
            rw [HT2.out];have h8:=HA7.out;exact ⟨h8.box,h8.lies,h8.sp,h8.row.congr (fun j _=>HRow.out ix HV.out j),h8.chg,h8.own,h8.hR⟩
          case measure=>simp [intOf];omega
      · rw [if_neg hmem,decide_eq_false hmem] at hlk
        have HV:Hid (((plTo S l).idxOf (x,y):Nat)=Sk.length):=by show _=_;rw [HD.out,plOne_idx hmem]
        have HT2:Hid (plTo S (l.take (k+1))=Sk++[(x,y)]):=by show _=_;rw [HT.out,plOne_out hmem]
        obtain ⟨w2,hput,hl2,hg2⟩:=(HAd.out _ hal.drew.drew).lies.put hIk hmem (by unfold maxLen;omega)
        have hA2:=(HAd.out _ hal.drew.drew).map hg2 hl2;rw [plOne_out hmem] at hA2;have HA2:Hid (∀ w3,Below w2.heap.size w2 w3->PlB w w3 base A lm w.heap.size n (Sk++[(x,y)]) Sk sv (.slice vo Sk.length vc) (.slice vo Sk.length vc) nv tv init many (fun j=>.int .i64 (if j < k then (((plTo S l).idxOf (l.getD j (0,0)):Nat):Int) else 0))):=fun w3 h=>hA2.below h
        have s2:w2.cell? ⟨wr.heap.size,0,none⟩=some (.int .i64 x)/\w2.cell? ⟨wr.heap.size,1,none⟩=some (.int .i64 y):=by
          have hne:some wr.heap.size≠some lm:=by
            have:=(HAd.out wr (Below.refl _ _)).lies.lt;intro e
            injection e with e
            omega
          have hbk:=hg2.block wr.heap.size (World.block_lt_of_cell? _ _ s0) hne;exact ⟨(World.cell?_of_block hbk).trans s0,(World.cell?_of_block hbk).trans s1⟩
        obtain ⟨s20,s21⟩:=s2;unfold spotV at hput;simp only at hput
        clear hl2 hg2 hA2;generalize hW1:wr.alloc (.cells #[.int .i64 x,.int .i64 y] 97)=W1 at *
        go_upto_region 5 with fail
        go_cut [8,9] (fun u8 u9 wx=>u8=.int .i64 0/\u9=.bool false/\wx=W1.drew)
        case first=>
          go_region_law (fail)
          all_goals go_wp2_with fail
          all_goals go_meet
          all_goals exact ⟨rfl,rfl,rfl⟩
        case rest=>
          obtain ⟨rfl,rfl,rfl⟩:=hcut
          go_upto_region 8 with fail
          go_cut [] (fun wx=>wx=w2)
          case first=>
            go_region_law (fail)
            all_goals go_wp2_with fail
            all_goals go_meet
            all_goals rfl
          case rest=>
            obtain rfl:=hcut;clear hput hlk;obtain ⟨i0,hi,hz0,hz1,hz2⟩:=info_parts infoSpot;have hbA:Below wc.heap.size wc (wc.drew.alloc (.cells #[.int .i64 x,.int .i64 y] 97)):=((Below.refl _ _).drew).alloc (Nat.le_refl _) _
            have hown9:World.ownsRow (wc.drew.alloc (.cells #[.int .i64 x,.int .i64 y] 97)) base 97 2 (.slice vo Sk.length vc) Sk.length (flat Sk):=(HA2.out _ hbA).sp;have hbase9:base <= (wc.drew.alloc (.cells #[.int .i64 x,.int .i64 y] 97)).heap.size:=Nat.le_trans HXt.out.base_le (HA2.out _ hbA).chg.size
            have HApp:Hid (∀ g cap w9,World.ownsRow w9 base 97 2 (.slice (some ⟨g,0,none⟩) (Sk.length+1) cap) (Sk.length+1) (flat Sk++[.int .i64 x,.int .i64 y])->(wc.drew.alloc (.cells #[.int .i64 x,.int .i64 y] 97)).grownBy w9 (Value.slice vo Sk.length vc).ownBlock->((Value.slice vo Sk.length vc).ownBlock=some g\/g=(wc.drew.alloc (.cells #[.int .i64 x,.int .i64 y] 97)).heap.size)->PlB w w9 base A lm w.heap.size n (Sk++[(x,y)]) (Sk++[(x,y)]) sv (.slice vo Sk.length vc) (.slice (some ⟨g,0,none⟩) (Sk.length+1) cap) nv tv init many (fun j=>.int .i64 (if j < k then (((plTo S l).idxOf (l.getD j (0,0)):Nat):Int) else 0))):=fun g cap w9 h1 h2 h3=>by
              refine (HA2.out _ hbA).app h2 ?_ ?_
              · unfold SpO
                rw [flat_append,List.length_append];exact h1
              · rcases h3 with h | h
                · exact .inl (by rw [h];rfl)
                · exact .inr ⟨g,rfl,by have:=(HA2.out _ hbA).chg.size;omega⟩
            obtain ⟨p0,_,_,_,_,_⟩:=atB_cells (HA2.out wc (Below.refl _ _)).box;have p0':(wc.drew.alloc (.cells #[.int .i64 x,.int .i64 y] 97)).cell? ⟨A,0,none⟩=some (.slice vo Sk.length vc):=(atB_cells (HA2.out _ hbA).box).1
            have hnews:∀ j u,[Value.int .i64 x,Value.int .i64 y][j]? = some u->(wc.drew.alloc (.cells #[.int .i64 x,.int .i64 y] 97)).cell? ((⟨wc.heap.size,0,none⟩:Addr).add j)=some u:=two_new wc.drew _ _ _
            have HSl:Hid (∀ m:Nat,m=Sk.length->m+1 <= 1000000001):=fun m e=>by show _ <= _;omega
            generalize hWA:wc.drew.alloc (.cells #[.int .i64 x,.int .i64 y] 97)=WA at *;have hsk9:Sk.length <= 1000000000:=by omega
            go_upto_region 9 with fail
            go_region_law (first
              | (refine step_append_lies _ (by rfl) (.tmp 48) (.tmp 50) 61 (by rfl) base 97 i0 _ 2 16 Tryz.underlying61 hi hz0 hz1 hz2 (by rfl) (by decide) (.slice vo Sk.length vc) Sk.length (flat Sk) (by rfl) hown9 ⟨wc.heap.size,0,none⟩ 1 1 [.int .i64 x,.int .i64 y] (by rfl) (by rfl) hnews (by intro u hu;simp at hu;rcases hu with rfl | rfl <;> rfl) (by decide) (by unfold maxLen;omega) (by omega) hbase9 _ rfl ?_;intro g9 cap9 w9 hown hgrow hat hlt9;have hA9:=HApp.out g9 cap9 w9 hown hgrow hat;have z0:=(atB_cells hA9.box).1;have zf:=atB_free hA9.box 0;have hA10:=hA9.setA;have f0:=hA10.row.cell hlt;have f1:=hA10.row.frozen k;have HA9:=(show Hid _ from hA10.setR k (.int .i64 (Sk.length:Nat)));clear hA9 hA10 hown hgrow hat))
            all_goals go_wp2_with fail
            all_goals go_roundw
            all_goals first
              | (refine ⟨k+1,by omega,by go_num,.slice (some ⟨g9,0,none⟩) (Sk.length+1) cap9,?_⟩
                 rw [HT2.out]
                 have h8:=HA9.out
                 exact ⟨h8.box,h8.lies,h8.sp,h8.row.congr (fun j _=>HRow.out _ HV.out j),h8.chg,h8.own,h8.hR⟩)
              | (simp [intOf];omega)
    · obtain rfl:k=n:=by omega
      have HF:Hid (PlB w wr base A lm w.heap.size k (plTo S l) (plTo S l) sv svk svk nv tv init many (fun j=>.int .i64 (if j < k then (((plTo S l).idxOf (l.getD j (0,0)):Nat):Int) else 0))):=by
        have:=HA.out;rw [List.take_of_length_le (by rw [HN.out];exact Nat.le_refl _)] at this
        exact this
      clear HA
      go_wp2_with fail
      go_ret
      have h:=HF.out;obtain ⟨cs,hcs,_⟩:=id h.row;refine ⟨rfl,svk,HXt.out.put h.chg h.box h.lies h.sp,⟨some ⟨w.heap.size,0,none⟩,k,by rw [plIx_len,HN.out],fun _=>⟨w.heap.size,0,rfl,h.row.lt,fun i hi=>?_⟩⟩,fun a n c e=>?_,h.chg,h.own⟩
      · rw [plIx_len,HN.out] at hi
        rw [Nat.zero_add,h.row.cell hi,if_pos hi,plIx_at (by rw [HN.out];exact hi)]
      · injection e with e _ _
        injection e with e
        subst e;exact ⟨cs,(0,0),hcs⟩
variable {Pz : Nat -> Prop}
theorem zeroAnswer (w:World):(zeroValue 170).run Tryz.prog w=.ok (.agg #[.bool false]) w:=by kernel_rfl
theorem folR_sign {l:List (Int × Int)} {x y y':List Bool} {c d d':Int} (hl:y.length=y'.length) (ht:tcode l y d=0) (ht':tcode l y' d'=0) (e:signN l (tru l y d)=signN l (tru l y' d')):folR l x c y d=folR l x c y' d':=by
 have hf:fcode l x c y d=fcode l x c y' d':=by unfold fcode;rw [hl,ht,ht']
 unfold folR;rw [hf]
 split
 ·exact decide_eq_decide.2 (fol_sign e)
 ·rfl
def FoPost (Pz:Nat->Prop) (w0 w:World) (B bs bl n:Nat) (va vr pv fv:Value) (m:Mo) (ps:List (List (Int × Int))) (l:List (Int × Int)) (ho:Option Addr) (hc:Nat) (b:Bool) (e:Ending) (w':World):Prop:=
 e=.returned (.tuple #[.bool b,.int .i64 0])/\Sk bs bl w w'/\Hid (SvOk Pz w0 w' B bs bl (n+1) va vr pv fv m ps l ho hc)
def Li8 (w:World) (g:Nat) (y0 y1 y2 y3 y4 y5:Bool) (c s:Int):Prop:=w.cell? ⟨g,0,none⟩=some (.bool y0)/\w.cell? ⟨g,1,none⟩=some (.bool y1)/\w.cell? ⟨g,2,none⟩=some (.bool y2)/\w.cell? ⟨g,3,none⟩=some (.bool y3)/\w.cell? ⟨g,4,none⟩=some (.bool y4)/\w.cell? ⟨g,5,none⟩=some (.bool y5)/\w.cell? ⟨g,6,none⟩=some (.int .i64 c)/\w.cell? ⟨g,7,none⟩=some (.int .i64 s)
theorem Li8.of {w:World} {g:Nat} {y0 y1 y2 y3 y4 y5:Bool} {c s:Int} {t:TypeId} (h:w.heap[g]? = some (.cells #[.bool y0,.bool y1,.bool y2,.bool y3,.bool y4,.bool y5,.int .i64 c,.int .i64 s] t (0,0))):Li8 w g y0 y1 y2 y3 y4 y5 c s:=by
 refine ⟨?_,?_,?_,?_,?_,?_,?_,?_⟩ <;> simp [World.cell?,h]
theorem Li8.later {w w':World} {g:Nat} {y0 y1 y2 y3 y4 y5:Bool} {c s:Int} (h:Li8 w g y0 y1 y2 y3 y4 y5 c s) (hg:g < w.heap.size) (hb:Below w.heap.size w w'):Li8 w' g y0 y1 y2 y3 y4 y5 c s:=by
 obtain ⟨h0,h1,h2,h3,h4,h5,h6,h7⟩:=h;exact ⟨(hb.cell (p:=⟨g,0,none⟩) hg).trans h0,(hb.cell (p:=⟨g,1,none⟩) hg).trans h1,(hb.cell (p:=⟨g,2,none⟩) hg).trans h2,(hb.cell (p:=⟨g,3,none⟩) hg).trans h3,(hb.cell (p:=⟨g,4,none⟩) hg).trans h4,(hb.cell (p:=⟨g,5,none⟩) hg).trans h5,(hb.cell (p:=⟨g,6,none⟩) hg).trans h6,(hb.cell (p:=⟨g,7,none⟩) hg).trans h7⟩
theorem follows_any (w0 w:World) (B bs bl n:Nat) (va vr pv fv:Value) (m:Mo) (ps:List (List (Int × Int))) (l:List (Int × Int)) (ho:Option Addr) (hc:Nat) (x y:List Bool) (c d:Nat) (lo no so lo2 no2 so2:Option Addr) (lc nn nc sc lc2 nn2 nc2 sc2:Nat)
  (hB:0 < w0.heap.size) (hT:TabAt w0) (hV:TaskV w0 va vr pv fv m ps l) (hk:tkcode m ps l=0) (hS:SvOk Pz w0 w B bs bl n va vr pv fv m ps l ho hc) (hn:n < 1000000000000)
  (hx:BoolsV w (.slice lo ps.length lc) x) (hy:BoolsV w (.slice lo2 ps.length lc2) y) (hsg:IntsV w (.slice so2 (2 ^ (aheadL l).length) sc2) (sgL l y)) (hxl:x.length=ps.length) (hyl:y.length=ps.length) (hcN:c < 2 ^ (aheadL l).length) (hdN:d < 2 ^ (aheadL l).length) :
  Calls Tryz.prog 67 #[.pointer (some ⟨B,0,none⟩),.agg #[.slice lo ps.length lc,.slice no nn nc,.slice so (2 ^ (aheadL l).length) sc],.int .i64 (c:Int),.agg #[.slice lo2 ps.length lc2,.slice no2 nn2 nc2,.slice so2 (2 ^ (aheadL l).length) sc2],.int .i64 (d:Int)] w (FoPost Pz w0 w B bs bl n va vr pv fv m ps l ho hc (folR l x (c:Int) y (d:Int))):=by
 obtain ⟨hp0,hl0⟩:=tk_zero hk;obtain ⟨_,hps6⟩:=pcode_m hp0;obtain ⟨_,_,hz,_,h6⟩:=lcode_zero hl0;obtain ⟨fo,fc,rfl,_⟩:=id hV.fo;have hN64:2 ^ (aheadL l).length <= 64:=Nat.pow_le_pow_right (show 0 < 2 by decide) h6
 have htc:∀ (z:List Bool) (k:Nat),z.length=ps.length->k < 2 ^ (aheadL l).length->tcode l z (k:Int)=0:=fun z k hz1 hk1=>by
  refine tcode_ok (by rw [hz1];exact hl0) fun hno=>?_
  unfold ClaimNo at hno;have:((2 ^ (aheadL l).length:Nat):Int)=(2:Int) ^ (aheadL l).length:=by push_cast;rfl
  rcases hno with hno | hno
  ·omega
  ·rw [<- this] at hno;omega
 obtain ⟨g0,hg0,hgl⟩:=hS.li
 obtain ⟨sb,soff,rfl,hsb,hsat⟩:∃ sb soff,so2=some ⟨sb,soff,none⟩/\sb < w.heap.size/\w.cell? ⟨sb,soff+d,none⟩=some (.int .i64 (sgAt l y d)):=by
  obtain ⟨ao,cap,e1,h1⟩:=hsg
  injection e1 with e1 _ _
  subst e1;obtain ⟨b,off,rfl,hb,hat⟩:=h1 (by intro e;have:=congrArg List.length e;rw [sgL_len] at this;simp at this)
  refine ⟨b,off,rfl,hb,?_⟩
  have:=hat d (by rw [sgL_len];exact hdN)
  rw [this,sgL_at hdN]
 obtain ⟨sg,hsgd⟩:∃ sg,sgAt l y d=sg:=⟨_,rfl⟩
 have hsgb:-9223372036854775808 <= sg/\sg <= 9223372036854775807:=by
  obtain ⟨b0,b1⟩:=signTo_bounds l (tru l y (d:Int)) (aheadL l).length;have e:sg=signTo l (tru l y (d:Int)) (aheadL l).length:=by rw [<- hsgd];rfl
  have:((2 ^ (aheadL l).length:Nat):Int)=(2:Int) ^ (aheadL l).length:=by push_cast;rfl
  rw [<- this] at b1;omega
 rw [hsgd] at hsat
 obtain ⟨W3,hW3⟩:∃ W3,W3=((w.alloc (.cells #[.slice lo ps.length lc,.slice no nn nc,.slice so (2 ^ (aheadL l).length) sc] 140)).alloc (.cells #[.slice lo2 ps.length lc2,.slice no2 nn2 nc2,.slice (some ⟨sb,soff,none⟩) (2 ^ (aheadL l).length) sc2] 140)).alloc (.cells #[.bool false,.bool false,.bool false,.bool false,.bool false,.bool false,.int .i64 (c:Int),.int .i64 sg] 168):=⟨_,rfl⟩
 have hb3:Below w.heap.size w W3:=by rw [hW3];exact (((Below.refl _ _).alloc (Nat.le_refl _) _).alloc (by simp) _).alloc (by simp;omega) _
 have hz3:W3.heap.size=w.heap.size+3:=by rw [hW3];simp
 have hg3:W3.heap[w.heap.size+2]? = some (.cells #[.bool false,.bool false,.bool false,.bool false,.bool false,.bool false,.int .i64 (c:Int),.int .i64 sg] 168 (0,0)):=by
  rw [hW3]
  have:=(MapKept.heap_alloc ((w.alloc (.cells #[.slice lo ps.length lc,.slice no nn nc,.slice so (2 ^ (aheadL l).length) sc] 140)).alloc (.cells #[.slice lo2 ps.length lc2,.slice no2 nn2 nc2,.slice (some ⟨sb,soff,none⟩) (2 ^ (aheadL l).length) sc2] 140)) (.cells #[.bool false,.bool false,.bool false,.bool false,.bool false,.bool false,.int .i64 (c:Int),.int .i64 sg] 168)).1
  simpa using this
 obtain ⟨w4,y0,y1,y2,y3,y4,y5,hcopy,hsix,hg4,hgr4⟩:=copy_link W3.drew (w.heap.size+2) lo ps.length lc x (c:Int) sg 168 3 (hx.below hb3.drew) hxl hps6 hg3
 have hb4:Below w.heap.size w w4:=⟨hgr4.os.trans hb3.os,hgr4.tape.trans hb3.tape,hgr4.output.trans hb3.output,Nat.le_trans hb3.size hgr4.size,fun i hi=>(hgr4.block i (Nat.lt_of_lt_of_le hi hb3.size) (by intro e;injection e with e;omega)).trans (hb3.block i hi)⟩
 have hli4:=Li8.of hg4;have hlv:linkV x (c:Int) sg=.agg #[.bool y0,.bool y1,.bool y2,.bool y3,.bool y4,.bool y5,.int .i64 (c:Int),.int .i64 sg]:=by unfold linkV;rw [hsix];rfl
 obtain ⟨kl,hkl⟩:=keyLink y0 y1 y2 y3 y4 y5 (c:=(c:Int)) (s:=sg) (by omega) hsgb
 have hz4:w.heap.size+3 <= w4.heap.size:=by have:=hgr4.size;have e:W3.drew.heap.size=W3.heap.size:=rfl;omega
 have hk4:Below (w.heap.size+2) W3 w4:=⟨hgr4.os,hgr4.tape,hgr4.output,hgr4.size,fun i hi=>hgr4.block i (by show i < W3.heap.size;omega) (by intro e;injection e with e;omega)⟩
 have HBx:Hid (∀ w',Below (w.heap.size+2) W3 w'->w'.cell? ⟨w.heap.size,0,none⟩=some (.slice lo ps.length lc)/\w'.cell? ⟨w.heap.size+1,0,none⟩=some (.slice lo2 ps.length lc2)):=fun w' h=>by
  refine ⟨(h.cell (p:=⟨w.heap.size,0,none⟩) (by show w.heap.size < _;omega)).trans ?_,(h.cell (p:=⟨w.heap.size+1,0,none⟩) (by show w.heap.size+1 < _;omega)).trans ?_⟩ <;> (rw [hW3];simp [go_sem])
 have hs2:∀ o1 o2,((w.alloc o1).alloc o2).cell? ⟨sb,soff+d,none⟩=some (.int .i64 sg):=fun o1 o2=>(Below.cell (p:=⟨sb,soff+d,none⟩) (((Below.refl w.heap.size w).alloc (Nat.le_refl _) o1).alloc (by simp) o2) hsb).trans hsat
 have HLk:Hid (∀ w',w'.heap[bl]? = w.heap[bl]?->(Instr.lookup 88 (.map (some bl)) (.agg #[.bool y0,.bool y1,.bool y2,.bool y3,.bool y4,.bool y5,.int .i64 (c:Int),.int .i64 sg]) true).run Tryz.prog w'=.ok (.tuple #[(g0 kl).getD (.agg #[.bool false]),.bool (g0 kl).isSome]) w'):=fun w' h=>(hg0.kept h).look keyedLink Tryz.underlying88 (zeroAnswer _) hkl
 have HS6:Hid (∀ w',Below w.heap.size w w'->w'.cell? ⟨B,3,none⟩=some (.slice fo l.length fc)/\w'.cell? ⟨B,6,none⟩=some (.map (some bl))):=fun w' h=>⟨(hS.box.later h).c3,(hS.box.later h).c6⟩
 have hbl:bl < w.heap.size:=hg0.lt;have hdi:(d:Int) < ((2 ^ (aheadL l).length:Nat):Int):=by omega
 have HLi:Hid (∀ w',Below w4.heap.size w4 w'->Li8 w' (w.heap.size+1+1) y0 y1 y2 y3 y4 y5 (c:Int) sg):=fun w' h=>hli4.later (by omega) h
 unfold FoPost
 cases hgk:g0 kl with
 | some v=>
  obtain ⟨x',c',sg',b,hx'l,hkl',rfl,hall⟩:=hgl kl v hgk;have hinj:=keyedLink.inj hkl' (hlv ▸ hkl);obtain ⟨rfl,rfl,rfl⟩:=linkV_inj (hx'l.trans hxl.symm) hinj;have hbv:folR l x' (c:Int) y (d:Int)=b:=hall y (d:Int) hyl (htc y d hyl hdN) (by rw [<- hsgd];rfl)
  rw [hbv];have HLk2:Hid (∀ w',w'.heap[bl]? = w.heap[bl]?->(Instr.lookup 88 (.map (some bl)) (.agg #[.bool y0,.bool y1,.bool y2,.bool y3,.bool y4,.bool y5,.int .i64 (c:Int),.int .i64 sg']) true).run Tryz.prog w'=.ok (.tuple #[.agg #[.bool b],.bool true]) w'):=fun w' h=>by have:=HLk.out w' h;rw [hgk] at this;exact this
  have HFin:Hid (∀ w',Below w.heap.size w w'->Sk bs bl w w'/\SvOk Pz w0 w' B bs bl (n+1) va vr pv (.slice fo l.length fc) m ps l ho hc):=fun w' h=>⟨Sk.of h,(hS.below h).mono (Nat.le_succ _)⟩
  generalize ps.length=pn at *;generalize 2 ^ (aheadL l).length=N at *;generalize l.length=fn at *;clear HLk hS hgl hg0 hall hbv hT hV hx hy hsg htc hli4 hkl' hlv hkl hinj hgr4 hg3 hsix
  go_enter Tryz.func67,Tryz.ntmps67
  go_wp2_with fail
  rw [<- hW3];obtain ⟨u0,u1⟩:=HBx.out W3 (Below.refl _ _);obtain ⟨v0,v1⟩:=HBx.out w4 hk4;clear hW3
  go_region_held3 (fun w'=>w'.cell? ⟨w.heap.size,0,none⟩=some (.slice lo pn lc))
   (first | exact u0 | exact v0)
   (fail)
  have hbl4:w4.heap[bl]? = w.heap[bl]?:=hb4.block bl hbl;obtain ⟨_,q6⟩:=HS6.out w4 hb4;obtain ⟨i0,i1,i2,i3,i4,i5,i6,i7⟩:=HLi.out w4 (Below.refl _ _);clear u0 u1 v0 v1 hs2 HBx
  go_wp2_with fail
  go_cut [13,14] (fun u13 u14 w'=>∃ g13,u13=.pointer (some ⟨g13,0,none⟩)/\u14=.bool true/\Below w4.heap.size w4 w'/\w'.cell? ⟨g13,0,none⟩=some (.bool b))
  case first=>
   have hal:Below w4.heap.size w4 (w4.alloc (.cells #[.bool false] 170)):=(Below.refl _ _).alloc (Nat.le_refl _) _;have hlA:=HLk2.out w4.drew hbl4;have hlB:=HLk2.out (w4.alloc (.cells #[.bool false] 170)).drew ((hal.block bl (Nat.lt_of_lt_of_le hbl hb4.size)).trans hbl4);obtain ⟨_,q6'⟩:=HS6.out _ (hb4.trans (hal.mono hb4.size))
   obtain ⟨j0,j1,j2,j3,j4,j5,j6,j7⟩:=HLi.out _ hal
   go_region_law (fail)
   all_goals go_wp2_with fail
   all_goals go_meet
   all_goals exact ⟨_,rfl,rfl,((Below.refl _ _).alloc (Nat.le_refl _) _).drew,by simp [go_sem]⟩
  case rest=>
   obtain ⟨g13,rfl,rfl,hb5,d0⟩:=hcut;have hbF:=hb4.trans (hb5.mono hb4.size)
   go_wp2_with fail
   go_ret2
   obtain ⟨r1,r2⟩:=HFin.out _ hbF;exact ⟨rfl,r1,r2⟩
 | none=>
  have HLk2:Hid (∀ w',w'.heap[bl]? = w.heap[bl]?->(Instr.lookup 88 (.map (some bl)) (.agg #[.bool y0,.bool y1,.bool y2,.bool y3,.bool y4,.bool y5,.int .i64 (c:Int),.int .i64 sg]) true).run Tryz.prog w'=.ok (.tuple #[.agg #[.bool false],.bool false]) w'):=fun w' h=>by have:=HLk.out w' h;rw [hgk] at this;exact this
  have hfc:fcode l x (c:Int) y (d:Int)=0:=by
   unfold fcode;rw [if_neg (by rw [hxl,hyl];simp),if_neg (by rw [htc x c hxl hcN];simp)]
   exact htc y d hyl hdN
  have HFo:Hid (∀ w',Below w.heap.size w w'->Calls Tryz.prog 86 #[.slice fo l.length fc,.slice lo ps.length lc,.int .i64 (c:Int),.slice lo2 ps.length lc2,.int .i64 (d:Int)] w' fun e w''=>e=.returned (.tuple #[.bool (folR l x (c:Int) y (d:Int)),.int .i64 0])/\Below w'.heap.size w' w''):=fun w' h=>by
   have h0:=hS.bel.trans (h.mono hS.bel.size);have:=lfol_any _ _ _ l x y (c:Int) (d:Int) w' (Nat.lt_of_lt_of_le hB h0.size) (hT.below h0 hB) (hV.fo.below h0) (hx.below h) (hy.below h);rw [hfc] at this;exact this
  have hLO:LinkOk ps l kl (.agg #[.bool (folR l x (c:Int) y (d:Int))]):=⟨x,(c:Int),sg,_,hxl,hlv ▸ hkl,rfl,fun y' d' h1 h2 h3=>folR_sign (h1.trans hyl.symm) h2 (htc y d hyl hdN) (h3.trans (by rw [<- hsgd];rfl))⟩
  have HPut:Hid (∀ w',Below w.heap.size w w'->∃ w'',(Instr.mapUpdate 88 (.map (some bl)) (.agg #[.bool y0,.bool y1,.bool y2,.bool y3,.bool y4,.bool y5,.int .i64 (c:Int),.int .i64 sg]) (.agg #[.bool (folR l x (c:Int) y (d:Int))])).run Tryz.prog w'.drew=.ok () w''/\w'.grownBy w'' (some bl)/\Sk bs bl w w''/\SvOk Pz w0 w'' B bs bl (n+1) va vr pv (.slice fo l.length fc) m ps l ho hc):=fun w' h=>by
   have hm1:MapIs w'.drew 168 bl n g0:=hg0.kept (h.block _ hg0.lt);obtain ⟨w'',h1,h2,h3⟩:=hm1.put keyedLink Tryz.underlying88 (by unfold maxLen;omega) (val:=.agg #[.bool (folR l x (c:Int) y (d:Int))]) hkl (keyedLink.key hkl)
   have h4:w'.grownBy w'' (some bl):=⟨h3.os,h3.tape,h3.output,h3.size,h3.block⟩;exact ⟨w'',h1,h4,(Sk.of h).trans (Sk.grown h4 (.inr rfl)),(hS.below h).putL h4 hgl h2 hLO⟩
  generalize folR l x (c:Int) y (d:Int)=b at *;generalize ps.length=pn at *;generalize 2 ^ (aheadL l).length=N at *;generalize l.length=fn at *;clear HLk hS hgl hg0 hT hV hx hy hsg htc hli4 hlv hkl hgr4 hg3 hsix hLO hfc
  go_enter Tryz.func67,Tryz.ntmps67
  go_wp2_with fail
  rw [<- hW3];obtain ⟨u0,u1⟩:=HBx.out W3 (Below.refl _ _);obtain ⟨v0,v1⟩:=HBx.out w4 hk4;clear hW3
  go_region_held3 (fun w'=>w'.cell? ⟨w.heap.size,0,none⟩=some (.slice lo pn lc))
   (first | exact u0 | exact v0)
   (fail)
  have hbl4:w4.heap[bl]? = w.heap[bl]?:=hb4.block bl hbl;obtain ⟨_,q6⟩:=HS6.out w4 hb4;obtain ⟨i0,i1,i2,i3,i4,i5,i6,i7⟩:=HLi.out w4 (Below.refl _ _);clear u0 u1 v0 v1 hs2
  go_wp2_with fail
  go_cut [13,14] (fun u13 u14 w'=>∃ g13,u13=.pointer (some ⟨g13,0,none⟩)/\u14=.bool false/\Below w4.heap.size w4 w')
  case first=>
   have hal:Below w4.heap.size w4 (w4.alloc (.cells #[.bool false] 170)):=(Below.refl _ _).alloc (Nat.le_refl _) _;have hlA:=HLk2.out w4.drew hbl4;have hlB:=HLk2.out (w4.alloc (.cells #[.bool false] 170)).drew ((hal.block bl (Nat.lt_of_lt_of_le hbl hb4.size)).trans hbl4);obtain ⟨_,q6'⟩:=HS6.out _ (hb4.trans (hal.mono hb4.size))
   obtain ⟨j0,j1,j2,j3,j4,j5,j6,j7⟩:=HLi.out _ hal
   go_region_law (fail)
   all_goals go_wp2_with fail
   all_goals go_meet
   all_goals exact ⟨_,rfl,rfl,((Below.refl _ _).alloc (Nat.le_refl _) _).drew⟩
  case rest=>
   obtain ⟨g13,rfl,rfl,hb5⟩:=hcut;have hbF:=hb4.trans (hb5.mono hb4.size)
   have HSF:Hid (∀ w',Below wc.heap.size wc w'->w'.cell? ⟨B,3,none⟩=some (.slice fo fn fc)/\w'.cell? ⟨w.heap.size,0,none⟩=some (.slice lo pn lc)/\w'.cell? ⟨w.heap.size+1,0,none⟩=some (.slice lo2 pn lc2)):=fun w' h=>by
    have h1:=hb5.trans (h.mono hb5.size);obtain ⟨e1,e2⟩:=HBx.out w' (hk4.trans (h1.mono (by omega)))
    exact ⟨(HS6.out w' (hbF.trans (h.mono hbF.size))).1,e1,e2⟩
   have hfo:=HFo.out _ hbF.drew;have hB0:Below wc.heap.size wc wc:=Below.refl _ _
   go_wp2_with fail
   go_region_held3 (fun w'=>w'.cell? ⟨B,3,none⟩=some (.slice fo fn fc)/\w'.cell? ⟨w.heap.size,0,none⟩=some (.slice lo pn lc)/\w'.cell? ⟨w.heap.size+1,0,none⟩=some (.slice lo2 pn lc2))
    (first | exact HSF.out _ hb6 | exact HSF.out _ hB0.drew | exact HSF.out _ hB0)
    (first
     | (go_at_call 86;refine hfo.mono ?_;rintro e w6 ⟨rfl,hb6'⟩;have hb6:=hB0.drew.trans (hb6'.mono hB0.drew.size)))
   have hbG:=hbF.trans (hb6.mono hbF.size);obtain ⟨w7,hput,hg7,r1,r2⟩:=HPut.out _ hbG;obtain ⟨_,z6⟩:=HS6.out _ hbG;obtain ⟨k0,k1,k2,k3,k4,k5,k6,k7⟩:=HLi.out w6 (hb5.trans (hb6.mono hb5.size));have HR:Hid (Sk bs bl w w7/\SvOk Pz w0 w7 B bs bl (n+1) va vr pv (.slice fo fn fc) m ps l ho hc):=⟨r1,r2⟩;clear r1 r2 hg7 HPut
   go_wp2_with fail
   go_region_law (fail)
   all_goals go_wp2_with fail
   all_goals go_ret2
   all_goals exact ⟨rfl,HR.out.1,HR.out.2⟩
end Go.Proofs.YtfnobbpbmelgnaaGreatDoor
namespace Go.Proofs.YtfnobbpbmelgnaaGreatDoor
open Terms Tm
set_option maxHeartbeats 6400000
set_option maxRecDepth 20000
theorem sorted_rise {l:List Int} (h:l.Nodup):Rise (l.mergeSort leB):=by
 have hp:(l.mergeSort leB).Pairwise (fun x y=>leB x y=true):=List.pairwise_mergeSort (le:=leB) (by intro a b c;simp only [leB,decide_eq_true_eq];omega) (by intro a b;simp only [leB,Bool.or_eq_true,decide_eq_true_eq];omega) l
 have hn:(l.mergeSort leB).Nodup:=(List.mergeSort_perm l leB).nodup_iff.2 h;refine (hp.and hn).imp fun {a b} hab=>?_
 have h1:a <= b:=by simpa [leB] using hab.1
 have h2:a≠b:=hab.2;omega
theorem rise_length:∀ {l:List Int} {lo N:Int},Rise l->(∀ x∈l,lo <= x/\x < N)->lo <= N->(l.length:Int) <= N - lo
 | [],lo,N,_,_,h=>by simp;omega
 | x:: l,lo,N,h1,h2,_=>by
  obtain ⟨hx,t⟩:=List.pairwise_cons.1 h1;have h3:=h2 x (by simp)
  have:=rise_length (lo:=x+1) (N:=N) t (fun y hy=>⟨by have:=hx y hy;omega,(h2 y (by simp [hy])).2⟩) (by omega)
  simp only [List.length_cons];omega
theorem nodup_length {l:List Int} {N:Nat} (h:l.Nodup) (hi:∀ x∈l,0 <= x/\x < N):l.length <= N:=by
 have h1:=rise_length (lo:=0) (N:=N) (sorted_rise h) (fun x hx=>hi x ((List.mergeSort_perm l leB).mem_iff.1 hx)) (by omega)
 rw [List.length_mergeSort] at h1;omega
end Go.Proofs.YtfnobbpbmelgnaaGreatDoor
namespace Go.Proofs.YtfnobbpbmelgnaaGreatDoor
open Go.ChangeShapes Go.WideShapes Go.ChangeAt Go.RowKit Go.Deep Go.Maps
open Terms Tm
set_option maxHeartbeats 6400000
set_option maxRecDepth 20000
noncomputable def foTo (l:List (Int × Int)) (x:List Bool) (c:Int) (y:List Bool) (st:Int):Nat->List (Int × Int)
 | 0=>[]
 | k+1=>if folR l x c y (k:Int)=true then foTo l x c y st k++[(st,(k:Int))] else foTo l x c y st k
theorem foTo_len (l:List (Int × Int)) (x:List Bool) (c:Int) (y:List Bool) (st:Int):∀ k,(foTo l x c y st k).length <= k
 | 0=>Nat.le_refl _
 | k+1=>by
  rw [foTo];have:=foTo_len l x c y st k
  split
  ·rw [List.length_append,List.length_singleton];omega
  ·omega
noncomputable def behTo (m:Mo) (ps:List (List (Int × Int))) (l:List (Int × Int)) (code c:Int):Nat->List (Int × Int)
 | 0=>[]
 | i+1=>behTo m ps l code c i++foTo l (letL m ps code) c (letL m ps ((nextL m code).getD i 0)) ((nextL m code).getD i 0) (2 ^ (aheadL l).length)
noncomputable def behL (m:Mo) (ps:List (List (Int × Int))) (l:List (Int × Int)) (code c:Int):List (Int × Int):=behTo m ps l code c (nextL m code).length
theorem behTo_len {m:Mo} {ps:List (List (Int × Int))} {l:List (Int × Int)} (h:2 ^ (aheadL l).length <= 64) (code c:Int):∀ i,(behTo m ps l code c i).length <= i*64
 | 0=>Nat.le_refl _
 | i+1=>by
  rw [behTo,List.length_append];have:=behTo_len (m:=m) (ps:=ps) h code c i;have:=foTo_len l (letL m ps code) c (letL m ps ((nextL m code).getD i 0)) ((nextL m code).getD i 0) (2 ^ (aheadL l).length);omega
theorem nextL_st {m:Mo} (hm:mcode m=0) {x:Int} (hx:0 <= x/\x < prodTo m.vars m.vars.length) {y:Int} (hy:y∈nextL m x):0 <= y/\y < prodTo m.vars m.vars.length:=by
 have h1:=((upL_spec _).2 y).1 hy;unfold rawL at h1
 split at h1
 ·simp at h1;subst h1;exact hx
 ·obtain ⟨j,_,e⟩:=(rawTo_mem (Nat.le_refl _) y).1 h1
  exact ruleDo_state (mcode_vars hm) e
theorem nextL_len {m:Mo} (hm:mcode m=0) {x:Int} (hx:0 <= x/\x < prodTo m.vars m.vars.length):(nextL m x).length <= 4096:=by
 have h1:(nextL m x).Nodup:=by
  have:=(upL_spec (rawL m x)).1;exact List.Pairwise.imp (fun {a b} h=>by omega) this
 have h2:=(mcode_vars hm).prod (Nat.le_refl m.vars.length);have:=nodup_length (N:=(prodTo m.vars m.vars.length).toNat) h1 (fun y hy=>by have:=nextL_st hm hx hy;omega)
 omega
theorem Sk.after {bs bl:Nat} {wb w w':World} (h:Sk bs bl wb w) (hb:Below wb.heap.size w w'):Sk bs bl wb w':=
 ⟨hb.os.trans h.os,hb.tape.trans h.tape,hb.output.trans h.output,Nat.le_trans h.size hb.size,fun i hi h1 h2=>(hb.block i hi).trans (h.block i hi h1 h2)⟩
def Bx3 (w:World) (b:Nat) (x y z:Value):Prop:=(w.cell? ⟨b,0,none⟩=some x/\w.cell? ⟨b,1,none⟩=some y/\w.cell? ⟨b,2,none⟩=some z)/\RowTy w (.slice (some ⟨b,0,none⟩) 1 1) 140
theorem Bx3.new (w:World) (x y z:Value):Bx3 (w.alloc (.cells #[x,y,z] 140)) w.heap.size x y z:=by
 refine ⟨(St3.new w x y z _).2.1,fun a n c e=>?_⟩
 injection e with e _ _
 injection e with e
 subst e;exact ⟨_,_,(MapKept.heap_alloc w _).1⟩
theorem Bx3.sk {bs bl:Nat} {w w':World} {b:Nat} {x y z:Value} (h:Bx3 w b x y z) (hs:Sk bs bl w w') (hm:TwoMaps w bs bl):Bx3 w' b x y z:=
 ⟨⟨hs.cell hm h.1.1,hs.cell hm h.1.2.1,hs.cell hm h.1.2.2⟩,h.2.sk hs hm⟩
theorem Bx3.grown {w w':World} {b:Nat} {x y z:Value} {own:Option Nat} (h:Bx3 w b x y z) (hg:w.grownBy w' own) (ho:∀ g,own=some g->∃ cs fr,w.heap[g]? = some (.cells cs 97 fr)):Bx3 w' b x y z:=by
 obtain ⟨cs,fr,h1⟩:=h.2 _ _ _ rfl
 have e:∀ i v,w.cell? ⟨b,i,none⟩=some v->w'.cell? ⟨b,i,none⟩=some v:=fun i v hv=>by
  rw [World.cell?_of_block (hg.block b (Array.getElem?_eq_some_iff.1 h1).1 (fun e2=>by
   obtain ⟨cs',fr',h2⟩:=ho _ e2.symm;rw [h1] at h2
   injection h2 with h2
   injection h2 with _ h3 _
   exact absurd h3 (by decide)))]
  exact hv
 exact ⟨⟨e _ _ h.1.1,e _ _ h.1.2.1,e _ _ h.1.2.2⟩,h.2.grown hg (by decide) ho⟩
theorem Bx3.below {w w':World} {b:Nat} {x y z:Value} (h:Bx3 w b x y z) (hb:Below w.heap.size w w'):Bx3 w' b x y z:=by
 obtain ⟨cs,fr,h1⟩:=h.2 _ _ _ rfl;have hlt:b < w.heap.size:=(Array.getElem?_eq_some_iff.1 h1).1
 exact ⟨⟨(hb.cell (p:=⟨b,0,none⟩) hlt).trans h.1.1,(hb.cell (p:=⟨b,1,none⟩) hlt).trans h.1.2.1,(hb.cell (p:=⟨b,2,none⟩) hlt).trans h.1.2.2⟩,h.2.below hb⟩
theorem SpO.own {w:World} {base:Nat} {vo:Option Addr} {n cap:Nat} {x:List (Int × Int)} (h:SpO w base (.slice vo n cap) x) (o:Obj):∀ g,(Value.slice vo n cap).ownBlock=some g->base <= g/\∃ cs fr,(w.alloc o).heap[g]? = some (.cells cs 97 fr):=by
 intro g hg
 rcases h.2 with ⟨h0,_⟩ | ⟨g',cap',cur,h1,h2,h3,_⟩
 ·rw [h0] at hg;simp [Value.ownBlock] at hg
 ·rw [h1] at hg
  simp [Value.ownBlock] at hg
  subst hg;exact ⟨h2,cur,_,(Below.heap_alloc w o g' (Array.getElem?_eq_some_iff.1 h3).1).trans h3⟩
variable {Pz : Nat -> Prop}
theorem meets_in (w0 w:World) (B bs bl n:Nat) (va vr pv fv:Value) (m:Mo) (ps:List (List (Int × Int))) (l:List (Int × Int)) (ho:Option Addr) (hc:Nat) (code:Int) (c:Nat) (hI:-9223372036854775808 <= code/\code <= 9223372036854775807) (hB:0 < w0.heap.size) (hT:TabAt w0) (hV:TaskV w0 va vr pv fv m ps l) (hk:tkcode m ps l=0) (hS:SvOk Pz w0 w B bs bl n va vr pv fv m ps l ho hc) (hn:n+300000 < 1000000000000) (hcr:0 <= code/\code < prodTo m.vars m.vars.length) (hcN:c < 2 ^ (aheadL l).length) :
  Calls Tryz.prog 49 #[.pointer (some ⟨B,0,none⟩),.agg #[.int .i64 code,.int .i64 (c:Int)]] w fun e w'=>e=.returned (.tuple #[.int .i64 (metN l (letL m ps code) (c:Int)),.int .i64 0])/\Sk bs bl w w'/\Hid (SvOk Pz w0 w' B bs bl (n+1) va vr pv fv m ps l ho hc):=by
 obtain ⟨hp0,hl0⟩:=tk_zero hk;obtain ⟨hm0,_⟩:=pcode_m hp0;have hw:=wcode_yes hm0 hcr;obtain ⟨fo,fc,rfl,_⟩:=id hV.fo
 have htc:tcode l (letL m ps code) (c:Int)=0:=by
  refine tcode_ok (by rw [(tk_let hk hcr).2];exact hl0) fun hno=>?_
  unfold ClaimNo at hno;have:((2 ^ (aheadL l).length:Nat):Int)=(2:Int) ^ (aheadL l).length:=by push_cast;rfl
  rcases hno with hno | hno
  ·omega
  ·rw [<- this] at hno;omega
 obtain ⟨W1,hW1⟩:∃ W1,W1=w.alloc (.cells #[.int .i64 code,.int .i64 (c:Int)] 97):=⟨_,rfl⟩
 have hb1:Below w.heap.size w W1:=by rw [hW1];exact (Below.refl _ _).alloc (Nat.le_refl _) _
 have hs1:W1.cell? ⟨w.heap.size,0,none⟩=some (.int .i64 code)/\W1.cell? ⟨w.heap.size,1,none⟩=some (.int .i64 (c:Int)):=by rw [hW1];constructor <;> simp [go_sem]
 have hS1:=hS.below hb1;have hst:=stateOf_any w0 W1 B bs bl n va vr pv (.slice fo l.length fc) m ps l ho hc code hI hB hT hV hk hS1 (by omega)
 have hst2:Calls Tryz.prog 66 #[.pointer (some ⟨B,0,none⟩),.int .i64 code] W1 fun e w'=>∃ lo lc no nn nc so sn sc,e=.returned (.tuple #[.agg #[.slice lo ps.length lc,.slice no nn nc,.slice so sn sc],.int .i64 0])/\Hid (∀ w2,Below w'.heap.size w' w2->Sk bs bl w w2/\SvOk Pz w0 w2 B bs bl (n+1) va vr pv (.slice fo l.length fc) m ps l ho hc/\w2.cell? ⟨B,3,none⟩=some (.slice fo l.length fc)/\w2.cell? ⟨w.heap.size,0,none⟩=some (.int .i64 code)/\w2.cell? ⟨w.heap.size,1,none⟩=some (.int .i64 (c:Int))/\Calls Tryz.prog 68 #[.slice fo l.length fc,.slice lo ps.length lc,.int .i64 (c:Int)] w2 fun e w3=>e=.returned (.tuple #[.int .i64 (metN l (letL m ps code) (c:Int)),.int .i64 0])/\Below w2.heap.size w2 w3):=hst.mono fun e w' ⟨h1,h2,h3⟩=>by
  rcases h3 with ⟨_,lo,lc,no,nc,so,sc,h4,h5⟩ | ⟨h4,_⟩
  ·refine ⟨lo,lc,no,_,nc,so,_,sc,h4,fun w2 hb2=>?_⟩
   have hsk:=(h1.trans (Sk.of hb2));have hS2:=h2.out.below hb2;obtain ⟨lo',lc',no',nc',so',sc',e5,hx,_⟩:=h5.out
   injection e5 with e5
   simp only [Array.mk.injEq,List.cons.injEq,and_true] at e5;rw [<- e5.1] at hx;have h0:=hS2.bel;have hme:=lmeets_any (.slice fo l.length fc) (.slice lo ps.length lc) l (letL m ps code) (c:Int) w2 (Nat.lt_of_lt_of_le hB h0.size) (hT.below h0 hB) (hV.fo.below h0) (hx.below hb2);rw [htc] at hme
   exact ⟨(Sk.of hb1).trans hsk,hS2,hS2.box.c3,hsk.cell hS1.two hs1.1,hsk.cell hS1.two hs1.2,hme⟩
  ·exact absurd hw h4
 clear hst hS hT hV hk hw hS1 htc hp0 hl0 hm0;have HW1:Hid (W1=w.alloc (.cells #[.int .i64 code,.int .i64 (c:Int)] 97)):=hW1;generalize metN l (letL m ps code) (c:Int)=mm at *;generalize ps.length=pn at *;generalize l.length=fn at *
 go_enter Tryz.func49,Tryz.ntmps49
 go_wp2_with (first | (go_at_call 66;rw [<- hW1];refine hst2.mono ?_;rintro e w2 ⟨lo,lc,no,nn,nc,so,sn,sc,rfl,HR⟩))
 have hb2:∀ o,Below w2.heap.size w2 (w2.alloc o):=fun o=>(Below.refl _ _).alloc (Nat.le_refl _) o
 generalize hw3:w2.alloc (.cells #[.slice lo pn lc,.slice no nn nc,.slice so sn sc] 140)=w3 at *;have hb3:Below w2.heap.size w2 w3:=by rw [<- hw3];exact hb2 _
 have q0:w3.cell? ⟨w2.heap.size,0,none⟩=some (.slice lo pn lc):=by rw [<- hw3];simp [go_sem]
 have hlt3:w2.heap.size < w3.heap.size:=World.block_lt_of_cell? _ _ q0
 have HSF:Hid (∀ w',Below w3.heap.size w3 w'->w'.cell? ⟨B,3,none⟩=some (.slice fo fn fc)/\w'.cell? ⟨w2.heap.size,0,none⟩=some (.slice lo pn lc)/\w'.cell? ⟨w.heap.size,1,none⟩=some (.int .i64 (c:Int))):=fun w' h=>by
  obtain ⟨_,_,q3,_,q1,_⟩:=HR.out w' (hb3.trans (h.mono hb3.size));exact ⟨q3,(h.cell (p:=⟨w2.heap.size,0,none⟩) hlt3).trans q0,q1⟩
 have hB0:Below w3.heap.size w3 w3:=Below.refl _ _;obtain ⟨_,_,_,_,_,hme⟩:=HR.out w3.drew hb3.drew;clear hw3 hb2 q0 hst2 hs1 hW1
 go_region_held3 (fun w'=>w'.cell? ⟨B,3,none⟩=some (.slice fo fn fc)/\w'.cell? ⟨w2.heap.size,0,none⟩=some (.slice lo pn lc)/\w'.cell? ⟨w.heap.size,1,none⟩=some (.int .i64 (c:Int)))
  (first | exact HSF.out _ hb6 | exact HSF.out _ hB0.drew | exact HSF.out _ hB0)
  (first | (go_at_call 68;refine hme.mono ?_;rintro e w6 ⟨rfl,hb6'⟩;have hb6:=hB0.drew.trans (hb6'.mono hB0.drew.size)))
 go_wp2_with fail
 go_ret2
 obtain ⟨r1,r2,_⟩:=HR.out _ (hb3.trans (hb6.mono hb3.size));exact ⟨rfl,r1,r2⟩
end Go.Proofs.YtfnobbpbmelgnaaGreatDoor
namespace Go.Proofs.YtfnobbpbmelgnaaGreatDoor
open Go.ChangeShapes Go.WideShapes Go.ChangeAt Go.RowKit Go.Deep Go.Maps
open Terms Tm
set_option maxHeartbeats 6400000
set_option maxRecDepth 20000
variable {Pz : Nat -> Prop}
def BhPost (Pz:Nat->Prop) (w0 w:World) (B bs bl n:Nat) (va vr pv fv:Value) (m:Mo) (ps:List (List (Int × Int))) (l:List (Int × Int)) (ho:Option Addr) (hc:Nat) (code c:Int) (e:Ending) (w':World):Prop:=
 Sk bs bl w w'/\Hid (SvOk Pz w0 w' B bs bl (n+300000) va vr pv fv m ps l ho hc)/\((wcode m code=0/\∃ so sc,e=.returned (.tuple #[.slice so (behL m ps l code c).length sc,.int .i64 0])/\Hid (SpO w' w.heap.size (.slice so (behL m ps l code c).length sc) (behL m ps l code c)))\/(wcode m code≠0/\e=.returned (.tuple #[.slice none 0 0,.int .i64 (wcode m code)])))
theorem behind_in (w0 w:World) (B bs bl n:Nat) (va vr pv fv:Value) (m:Mo) (ps:List (List (Int × Int))) (l:List (Int × Int)) (ho:Option Addr) (hc:Nat) (code:Int) (c:Nat) (hI:-9223372036854775808 <= code/\code <= 9223372036854775807) (hB:0 < w0.heap.size) (hT:TabAt w0) (hV:TaskV w0 va vr pv fv m ps l) (hk:tkcode m ps l=0) (hS:SvOk Pz w0 w B bs bl n va vr pv fv m ps l ho hc) (hn:n+300000 < 1000000000000) (hcr:0 <= code/\code < prodTo m.vars m.vars.length) (hcN:c < 2 ^ (aheadL l).length) :
  Calls Tryz.prog 48 #[.pointer (some ⟨B,0,none⟩),.agg #[.int .i64 code,.int .i64 (c:Int)]] w (BhPost Pz w0 w B bs bl n va vr pv fv m ps l ho hc code (c:Int)):=by
 obtain ⟨hp0,hl0⟩:=tk_zero hk;obtain ⟨hm0,_⟩:=pcode_m hp0;obtain ⟨_,_,_,_,h6⟩:=lcode_zero hl0;have hw:=wcode_yes hm0 hcr;have hpr:=((mcode_vars hm0).prod (Nat.le_refl m.vars.length)).2;have hN64:2 ^ (aheadL l).length <= 64:=Nat.pow_le_pow_right (show 0 < 2 by decide) h6
 have hnn:=nextL_len hm0 hcr;obtain ⟨W1,hW1⟩:∃ W1,W1=w.alloc (.cells #[.int .i64 code,.int .i64 (c:Int)] 97):=⟨_,rfl⟩
 have hb1:Below w.heap.size w W1:=by rw [hW1];exact (Below.refl _ _).alloc (Nat.le_refl _) _
 have hs1:W1.cell? ⟨w.heap.size,0,none⟩=some (.int .i64 code)/\W1.cell? ⟨w.heap.size,1,none⟩=some (.int .i64 (c:Int)):=by rw [hW1];constructor <;> simp [go_sem]
 have hS1:=hS.below hb1;have hst:=stateOf_any w0 W1 B bs bl n va vr pv fv m ps l ho hc code hI hB hT hV hk hS1 (by omega)
 have hst2:Calls Tryz.prog 66 #[.pointer (some ⟨B,0,none⟩),.int .i64 code] W1 fun e w'=>∃ lo lc no nc so sc,e=.returned (.tuple #[.agg #[.slice lo ps.length lc,.slice no (nextL m code).length nc,.slice so (2 ^ (aheadL l).length) sc],.int .i64 0])/\Hid (Sk bs bl w w'/\SvOk Pz w0 w' B bs bl (n+1) va vr pv fv m ps l ho hc/\StOk Pz w' m ps l code (.agg #[.slice lo ps.length lc,.slice no (nextL m code).length nc,.slice so (2 ^ (aheadL l).length) sc]))/\Hid (w'.cell? ⟨w.heap.size,0,none⟩=some (.int .i64 code)/\w'.cell? ⟨w.heap.size,1,none⟩=some (.int .i64 (c:Int))):=hst.mono fun e w' ⟨h1,h2,h3⟩=>by
  rcases h3 with ⟨_,lo,lc,no,nc,so,sc,h4,h5⟩ | ⟨h4,_⟩
  ·exact ⟨lo,lc,no,nc,so,sc,h4,⟨(Sk.of hb1).trans h1,h2.out,h5.out⟩,h1.cell hS1.two hs1.1,h1.cell hS1.two hs1.2⟩
  ·exact absurd hw h4
 have HSt:Hid (∀ (w':World) (n':Nat) (c':Int),n' < 1000000000000->0 <= c'/\c' < prodTo m.vars m.vars.length->SvOk Pz w0 w' B bs bl n' va vr pv fv m ps l ho hc->Calls Tryz.prog 66 #[.pointer (some ⟨B,0,none⟩),.int .i64 c'] w' fun e w''=>∃ lo lc no nn2 nc so sc,e=.returned (.tuple #[.agg #[.slice lo ps.length lc,.slice no nn2 nc,.slice so (2 ^ (aheadL l).length) sc],.int .i64 0])/\Hid (Sk bs bl w' w''/\SvOk Pz w0 w'' B bs bl (n' + 1) va vr pv fv m ps l ho hc/\StOk Pz w'' m ps l c' (.agg #[.slice lo ps.length lc,.slice no nn2 nc,.slice so (2 ^ (aheadL l).length) sc]))):=fun w' n' c' hn' hc' hS'=>(stateOf_any w0 w' B bs bl n' va vr pv fv m ps l ho hc c' (by omega) hB hT hV hk hS' hn').mono fun e w'' ⟨h1,h2,h3⟩=>by
  rcases h3 with ⟨_,lo,lc,no,nc,so,sc,h4,h5⟩ | ⟨h4,_⟩
  ·exact ⟨lo,lc,no,_,nc,so,sc,h4,h1,h2.out,h5.out⟩
  ·exact absurd (wcode_yes hm0 hc') h4
 have HFo:Hid (∀ (w':World) (n' d:Nat) (c':Int) (lo no so lo2 no2 so2:Option Addr) (lc nn nc sc lc2 nn2 nc2 sc2:Nat),n' < 1000000000000->d < 2 ^ (aheadL l).length->0 <= c'/\c' < prodTo m.vars m.vars.length->SvOk Pz w0 w' B bs bl n' va vr pv fv m ps l ho hc->StOk Pz w' m ps l code (.agg #[.slice lo ps.length lc,.slice no nn nc,.slice so (2 ^ (aheadL l).length) sc])->StOk Pz w' m ps l c' (.agg #[.slice lo2 ps.length lc2,.slice no2 nn2 nc2,.slice so2 (2 ^ (aheadL l).length) sc2])->Calls Tryz.prog 67 #[.pointer (some ⟨B,0,none⟩),.agg #[.slice lo ps.length lc,.slice no nn nc,.slice so (2 ^ (aheadL l).length) sc],.int .i64 (c:Int),.agg #[.slice lo2 ps.length lc2,.slice no2 nn2 nc2,.slice so2 (2 ^ (aheadL l).length) sc2],.int .i64 (d:Int)] w' fun e w''=>e=.returned (.tuple #[.bool (folR l (letL m ps code) (c:Int) (letL m ps c') (d:Int)),.int .i64 0])/\Hid (Sk bs bl w' w''/\SvOk Pz w0 w'' B bs bl (n' + 1) va vr pv fv m ps l ho hc)):=fun w' n' d c' lo no so lo2 no2 so2 lc nn nc sc lc2 nn2 nc2 sc2 hn' hd hc' hS' hA hB'=>by
  obtain ⟨_,_,_,_,_,_,e1,hx,_,_,_⟩:=hA;obtain ⟨_,_,_,_,_,_,e2,hy,_,hz,_⟩:=hB';simp only [Value.agg.injEq,Array.mk.injEq,List.cons.injEq,Value.slice.injEq,and_true,true_and] at e1 e2;obtain ⟨⟨rfl,rfl⟩,⟨rfl,rfl,rfl⟩,rfl,rfl⟩:=e1;obtain ⟨⟨rfl,rfl⟩,⟨rfl,rfl,rfl⟩,rfl,rfl⟩:=e2
  exact (follows_any w0 w' B bs bl n' va vr pv fv m ps l ho hc (letL m ps code) (letL m ps c') c d _ _ _ _ _ _ _ _ _ _ _ _ _ _ hB hT hV hk hS' hn' hx hy hz (tk_let hk hcr).2 (tk_let hk hc').2 hcN hd).mono fun e w'' ⟨h1,h2,h3⟩=>⟨h1,h2,h3.out⟩
 have HCl:Hid (∀ (w':World) (n':Nat),SvOk Pz w0 w' B bs bl n' va vr pv fv m ps l ho hc->Calls Tryz.prog 46 #[.pointer (some ⟨B,0,none⟩)] w' fun e w''=>e=.returned (.int .i64 ((2 ^ (aheadL l).length:Nat):Int))/\w''=w'):=fun w' n' h=>claims_any B _ _ _ _ ho _ hc bs bl w' h6 h.box
 have HNx:Hid (∀ i,i < (nextL m code).length->0 <= (nextL m code).getD i 0/\(nextL m code).getD i 0 < prodTo m.vars m.vars.length):=fun i hi=>nextL_st hm0 hcr (by rw [List.getD_eq_getElem?_getD,List.getElem?_eq_getElem hi];exact List.getElem_mem hi)
 have HBt:Hid (∀ i,behTo m ps l code (c:Int) (i+1)=behTo m ps l code (c:Int) i++foTo l (letL m ps code) (c:Int) (letL m ps ((nextL m code).getD i 0)) ((nextL m code).getD i 0) (2 ^ (aheadL l).length)):=fun _=>rfl
 have HB0:Hid (behTo m ps l code (c:Int) 0=[]):=rfl;have HBl:Hid (∀ i,(behTo m ps l code (c:Int) i).length <= i*64):=behTo_len hN64 code (c:Int)
 have HInt:Hid (∀ (w':World) (lo no so:Option Addr) (lc nc sc:Nat),StOk Pz w' m ps l code (.agg #[.slice lo ps.length lc,.slice no (nextL m code).length nc,.slice so (2 ^ (aheadL l).length) sc])->∀ i,i < (nextL m code).length->∃ b off,no=some ⟨b,off,none⟩/\w'.cell? ⟨b,off+i,none⟩=some (.int .i64 ((nextL m code).getD i 0))):=fun w' lo no so lc nc sc hA i hi=>by
  obtain ⟨_,_,_,_,_,_,e1,_,hx,_,_⟩:=hA;simp only [Value.agg.injEq,Array.mk.injEq,List.cons.injEq,Value.slice.injEq,and_true,true_and] at e1;obtain ⟨⟨rfl,rfl⟩,⟨rfl,rfl⟩,rfl,rfl⟩:=e1;obtain ⟨ao,cap,e2,h1⟩:=hx
  injection e2 with e2 _ _
  subst e2;obtain ⟨b,off,rfl,_,hat⟩:=h1 (by intro e;rw [e] at hi;simp at hi)
  exact ⟨b,off,rfl,hat i hi⟩
 have hw0:w0.heap.size <= w.heap.size:=hS.bel.size;have hBlt:B < w.heap.size:=hS.box.lt;unfold BhPost behL;have HW:Hid (wcode m code=0):=hw;generalize (nextL m code).length=nn at *;generalize behTo m ps l code (c:Int)=bt at *;generalize m.vars.length=vn at *;generalize hpn:ps.length=pn at *;generalize 2 ^ (aheadL l).length=N at *
 clear hst hS hS1 hT hV hk hp0 hl0 hm0 h6 hw hpn hs1 hcN;subst hW1
 go_enter Tryz.func48,Tryz.ntmps48
 go_wp2_with (first | (go_at_call 66;refine hst2.mono ?_;rintro e w2 ⟨lo,lc,no,nc,so,sc,rfl,HR,HC⟩))
 obtain ⟨hsk2,hsv2,hso2⟩:=HR.out;obtain ⟨hc0,hc1⟩:=HC.out;have hb2:Below w2.heap.size w2 (w2.alloc (.cells #[.slice lo pn lc,.slice no nn nc,.slice so N sc] 140)):=(Below.refl _ _).alloc (Nat.le_refl _) _;have hbx:=Bx3.new w2 (.slice lo pn lc) (.slice no nn nc) (.slice so N sc)
 have hzb:(w2.alloc (.cells #[.slice lo pn lc,.slice no nn nc,.slice so N sc] 140)).heap.size=w2.heap.size+1:=by simp
 have hskb:=hsk2.trans (Sk.of (bs:=bs) (bl:=bl) hb2);have hsvb:=hsv2.below hb2;have hsob:=hso2.below hb2;have hsz2:=hsk2.size;have hcb1:(w2.alloc (.cells #[.slice lo pn lc,.slice no nn nc,.slice so N sc] 140)).cell? ⟨w.heap.size,1,none⟩=some (.int .i64 (c:Int)):=(hb2.cell (p:=⟨w.heap.size,1,none⟩) (World.block_lt_of_cell? _ _ hc1)).trans hc1
 generalize w2.alloc (.cells #[.slice lo pn lc,.slice no nn nc,.slice so N sc] 140)=Wb at *;have htw:=hsvb.two;have HTw:Hid (TwoMaps Wb bs bl):=htw;have HSob:Hid (∀ w',Sk bs bl Wb w'->StOk Pz w' m ps l code (.agg #[.slice lo pn lc,.slice no nn nc,.slice so N sc])):=fun w' h=>hsob.sk h htw
 have HBxb:Hid (∀ w',Sk bs bl Wb w'->(w'.cell? ⟨w2.heap.size,0,none⟩=some (.slice lo pn lc)/\w'.cell? ⟨w2.heap.size,1,none⟩=some (.slice no nn nc)/\w'.cell? ⟨w2.heap.size,2,none⟩=some (.slice so N sc))/\w'.cell? ⟨w.heap.size,1,none⟩=some (.int .i64 (c:Int))):=fun w' h=>⟨(hbx.sk h htw).1,h.cell htw hcb1⟩
 have HSvb:Hid (SvOk Pz w0 Wb B bs bl (n+1) va vr pv fv m ps l ho hc):=hsvb;have HSkb:Hid (Sk bs bl w Wb):=hskb;clear hst2 HR HC hsk2 hsv2 hso2 hc0 hc1 hb2 hbx hskb hsvb hsob hcb1 htw
 go_loopw [8,29] (fun u i wr=>∃ k:Nat,k <= nn/\i=.int .i64 k/\(∃ po pk pc,u=.slice po pk pc/\pk <= k*64/\Hid ((bt k).length=pk/\SpO wr Wb.heap.size (.slice po pk pc) (bt k)))/\Hid (Sk bs bl Wb wr/\SvOk Pz w0 wr B bs bl (n+1+k*65) va vr pv fv m ps l ho hc)) (fun _ i _=>nn - (intOf i).toNat)
 case atStart=>exact ⟨0,Nat.zero_le _,rfl,⟨none,0,0,rfl,Nat.zero_le _,by rw [HB0.out];rfl,by rw [HB0.out];exact SpO.nil _ _⟩,Sk.refl _ _ _,HSvb.out⟩
 case round=>
  obtain ⟨k,hkn,rfl,⟨po,pk,pc,rfl,hpk,HSp⟩,HSS⟩:=hrel
  by_cases hlt:k < nn
  ·obtain ⟨hskr,hsvr⟩:=HSS.out
   obtain ⟨nb,noff,rfl,hcell⟩:=HInt.out wr lo no so lc nc sc (HSob.out wr hskr) k hlt;have hin:=HNx.out k hlt;have hst:=HSt.out wr (n+1+k*65) _ (by omega) hin hsvr
   have hki:(k:Int) < (nn:Int):=by omega
   have HBk:=(show Hid _ from HBt.out k)
   have HSpk:Hid (∀ w',Sk bs bl wr w'->SpO w' Wb.heap.size (.slice po pk pc) (bt k)):=fun w' h=>HSp.out.2.sk h hsvr.two
   have HSl:Hid ((bt k).length=pk):=HSp.out.1
   have HFk:Hid (∀ (w':World) (n' d:Nat) (lo2 no2 so2:Option Addr) (lc2 nn2 nc2 sc2:Nat),n' < 1000000000000->d < N->SvOk Pz w0 w' B bs bl n' va vr pv fv m ps l ho hc->Sk bs bl Wb w'->StOk Pz w' m ps l ((nextL m code).getD k 0) (.agg #[.slice lo2 pn lc2,.slice no2 nn2 nc2,.slice so2 N sc2])->Calls Tryz.prog 67 #[.pointer (some ⟨B,0,none⟩),.agg #[.slice lo pn lc,.slice (some ⟨nb,noff,none⟩) nn nc,.slice so N sc],.int .i64 (c:Int),.agg #[.slice lo2 pn lc2,.slice no2 nn2 nc2,.slice so2 N sc2],.int .i64 (d:Int)] w' fun e w''=>e=.returned (.tuple #[.bool (folR l (letL m ps code) (c:Int) (letL m ps ((nextL m code).getD k 0)) (d:Int)),.int .i64 0])/\Hid (Sk bs bl w' w''/\SvOk Pz w0 w'' B bs bl (n' + 1) va vr pv fv m ps l ho hc)):=fun w' n' d lo2 no2 so2 lc2 nn2 nc2 sc2 h1 h2 h3 h4 h5=>HFo.out w' n' d _ lo _ so lo2 no2 so2 lc nn nc sc lc2 nn2 nc2 sc2 h1 h2 hin h3 (HSob.out w' h4) h5
   have HF0:Hid (foTo l (letL m ps code) (c:Int) (letL m ps ((nextL m code).getD k 0)) ((nextL m code).getD k 0) 0=[]):=rfl
   have HFS:Hid (∀ d:Nat,foTo l (letL m ps code) (c:Int) (letL m ps ((nextL m code).getD k 0)) ((nextL m code).getD k 0) (d+1)=if folR l (letL m ps code) (c:Int) (letL m ps ((nextL m code).getD k 0)) (d:Int)=true then foTo l (letL m ps code) (c:Int) (letL m ps ((nextL m code).getD k 0)) ((nextL m code).getD k 0) d++[((nextL m code).getD k 0,(d:Int))] else foTo l (letL m ps code) (c:Int) (letL m ps ((nextL m code).getD k 0)) ((nextL m code).getD k 0) d):=fun _=>rfl
   have HFl:Hid (∀ d,(foTo l (letL m ps code) (c:Int) (letL m ps ((nextL m code).getD k 0)) ((nextL m code).getD k 0) d).length <= d):=foTo_len _ _ _ _ _
   have HStk:Hid (∀ (w' w'':World) (v:Value),StOk Pz w' m ps l ((nextL m code).getD k 0) v->TwoMaps w' bs bl->Sk bs bl w' w''->StOk Pz w'' m ps l ((nextL m code).getD k 0) v):=fun w' w'' v h1 h2 h3=>h1.sk h3 h2
   have HStg:Hid (∀ (w' w'':World) (v:Value) (own:Option Nat),StOk Pz w' m ps l ((nextL m code).getD k 0) v->w'.grownBy w'' own->(∀ g,own=some g->∃ cs fr,w'.heap[g]? = some (.cells cs 97 fr))->StOk Pz w'' m ps l ((nextL m code).getD k 0) v):=fun w' w'' v own h1 h2 h3=>h1.grown h2 h3
   have HStb:Hid (∀ (w':World) (v:Value) (o:Obj),StOk Pz w' m ps l ((nextL m code).getD k 0) v->StOk Pz (w'.alloc o) m ps l ((nextL m code).getD k 0) v):=fun w' v o h1=>h1.below ((Below.refl _ _).alloc (Nat.le_refl _) o)
   generalize foTo l (letL m ps code) (c:Int) (letL m ps ((nextL m code).getD k 0)) ((nextL m code).getD k 0)=ft at *;generalize hfr:(fun d:Nat=>folR l (letL m ps code) (c:Int) (letL m ps ((nextL m code).getD k 0)) (d:Int))=fr at *
   have HFr:Hid (∀ d:Nat,folR l (letL m ps code) (c:Int) (letL m ps ((nextL m code).getD k 0)) (d:Int)=fr d):=fun d=>by rw [<- hfr]
   generalize hstk:(fun (w':World) (v:Value)=>StOk Pz w' m ps l ((nextL m code).getD k 0) v)=SK at *
   have HSK:Hid (∀ (w':World) (v:Value),StOk Pz w' m ps l ((nextL m code).getD k 0) v↔SK w' v):=fun w' v=>by rw [<- hstk]
   clear hfr hstk
   have hst':Calls Tryz.prog 66 #[.pointer (some ⟨B,0,none⟩),.int .i64 ((nextL m code).getD k 0)] wr fun e w''=>∃ lo lc no nn2 nc so sc,e=.returned (.tuple #[.agg #[.slice lo pn lc,.slice no nn2 nc,.slice so N sc],.int .i64 0])/\Hid (Sk bs bl wr w''/\SvOk Pz w0 w'' B bs bl (n+1+k*65+1) va vr pv fv m ps l ho hc/\SK w'' (.agg #[.slice lo pn lc,.slice no nn2 nc,.slice so N sc])):=hst.mono fun e w'' ⟨a1,a2,a3,a4,a5,a6,a7,h1,h2⟩=>⟨a1,a2,a3,a4,a5,a6,a7,h1,h2.out.1,h2.out.2.1,(HSK.out _ _).1 h2.out.2.2⟩
   clear hst HInt HSt HNx HBt HB0;generalize (nextL m code).getD k 0=cd at *;clear hsvr HSp
   go_wp2_with (first | (go_at_call 66;refine hst'.mono ?_;rintro e w3 ⟨lo2,lc2,no2,nn2,nc2,so2,sc2,rfl,HR3⟩;have hcl:=HCl.out _ _ (HR3.out.2.1.below ((Below.refl w3.heap.size w3).alloc (Nat.le_refl _) (.cells #[.slice lo2 pn lc2,.slice no2 nn2 nc2,.slice so2 N sc2] 140)))) | (go_at_call 46;refine hcl.mono ?_;rintro e w4 ⟨rfl,hw4⟩))
   have hbA:Below w3.heap.size w3 (w3.alloc (.cells #[.slice lo2 pn lc2,.slice no2 nn2 nc2,.slice so2 N sc2] 140)):=(Below.refl _ _).alloc (Nat.le_refl _) _
   have HIn:Hid (SpO (w3.alloc (.cells #[.slice lo2 pn lc2,.slice no2 nn2 nc2,.slice so2 N sc2] 140)) Wb.heap.size (.slice po pk pc) (bt k)/\Sk bs bl Wb (w3.alloc (.cells #[.slice lo2 pn lc2,.slice no2 nn2 nc2,.slice so2 N sc2] 140))/\SvOk Pz w0 (w3.alloc (.cells #[.slice lo2 pn lc2,.slice no2 nn2 nc2,.slice so2 N sc2] 140)) B bs bl (n+1+k*65+1) va vr pv fv m ps l ho hc/\SK (w3.alloc (.cells #[.slice lo2 pn lc2,.slice no2 nn2 nc2,.slice so2 N sc2] 140)) (.agg #[.slice lo2 pn lc2,.slice no2 nn2 nc2,.slice so2 N sc2])/\Bx3 (w3.alloc (.cells #[.slice lo2 pn lc2,.slice no2 nn2 nc2,.slice so2 N sc2] 140)) w3.heap.size (.slice lo2 pn lc2) (.slice no2 nn2 nc2) (.slice so2 N sc2)):=
    ⟨(HSpk.out w3 HR3.out.1).later hbA (Nat.le_refl _),(hskr.trans HR3.out.1).trans (Sk.of hbA),HR3.out.2.1.below hbA,(HSK.out _ _).1 (HStb.out _ _ _ ((HSK.out _ _).2 HR3.out.2.2)),Bx3.new _ _ _ _⟩
   clear HR3 HSpk hst' hcl hbA HStb;generalize w3.alloc (.cells #[.slice lo2 pn lc2,.slice no2 nn2 nc2,.slice so2 N sc2] 140)=Wc at *;have HSKk:Hid (∀ (w' w'':World) (v:Value),SK w' v->TwoMaps w' bs bl->Sk bs bl w' w''->SK w'' v):=fun w' w'' v h1 h2 h3=>(HSK.out _ _).1 (HStk.out w' w'' v ((HSK.out _ _).2 h1) h2 h3)
   have HSKg:Hid (∀ (w' w'':World) (v:Value) (own:Option Nat),SK w' v->w'.grownBy w'' own->(∀ g,own=some g->∃ cs fr,w'.heap[g]? = some (.cells cs 97 fr))->SK w'' v):=fun w' w'' v own h1 h2 h3=>(HSK.out _ _).1 (HStg.out w' w'' v own ((HSK.out _ _).2 h1) h2 h3)
   have HSKa:Hid (∀ (w':World) (v:Value) (o:Obj),SK w' v->SK (w'.alloc o) v):=fun w' v o h1=>HSKg.out w' (w'.alloc o) v none h1 (World.grownBy_alloc w' o none) (fun g e=>by simp at e)
   have HFk2:Hid (∀ (w':World) (n' d:Nat),n' < 1000000000000->d < N->SvOk Pz w0 w' B bs bl n' va vr pv fv m ps l ho hc->Sk bs bl Wb w'->SK w' (.agg #[.slice lo2 pn lc2,.slice no2 nn2 nc2,.slice so2 N sc2])->Calls Tryz.prog 67 #[.pointer (some ⟨B,0,none⟩),.agg #[.slice lo pn lc,.slice (some ⟨nb,noff,none⟩) nn nc,.slice so N sc],.int .i64 (c:Int),.agg #[.slice lo2 pn lc2,.slice no2 nn2 nc2,.slice so2 N sc2],.int .i64 (d:Int)] w' fun e w''=>e=.returned (.tuple #[.bool (fr d),.int .i64 0])/\Hid (Sk bs bl w' w''/\SvOk Pz w0 w'' B bs bl (n' + 1) va vr pv fv m ps l ho hc)):=fun w' n' d h1 h2 h3 h4 h5=>by
    have:=HFk.out w' n' d lo2 no2 so2 lc2 nn2 nc2 sc2 h1 h2 h3 h4 ((HSK.out _ _).2 h5);rw [HFr.out] at this;exact this
   have HFS2:Hid (∀ d:Nat,ft (d+1)=if fr d=true then ft d++[(cd,(d:Int))] else ft d):=fun d=>by
    have:=HFS.out d;rw [HFr.out] at this;exact this
   clear HFk HFS HFr HSK HStk HStg HFo
   go_loopw [8,44] (fun u i wr2=>∃ d:Nat,d <= N/\i=.int .i64 d/\(∃ po pk2 pc,u=.slice po pk2 pc/\pk2 <= pk+d/\Hid ((bt k++ft d).length=pk2/\SpO wr2 Wb.heap.size (.slice po pk2 pc) (bt k++ft d)))/\Hid (Sk bs bl Wb wr2/\SvOk Pz w0 wr2 B bs bl (n+1+k*65+1+d) va vr pv fv m ps l ho hc/\SK wr2 (.agg #[.slice lo2 pn lc2,.slice no2 nn2 nc2,.slice so2 N sc2])/\Bx3 wr2 w3.heap.size (.slice lo2 pn lc2) (.slice no2 nn2 nc2) (.slice so2 N sc2))) (fun _ i _=>N - (intOf i).toNat)
   case atStart=>exact ⟨0,Nat.zero_le _,rfl,⟨po,pk,pc,rfl,Nat.le_refl _,by rw [HF0.out,List.append_nil];exact HSl.out,by rw [HF0.out,List.append_nil];exact HIn.out.1⟩,HIn.out.2⟩
   case round=>
    obtain ⟨d,hdN,rfl,⟨po2,pk2,pc2,rfl,hpk2,HSp2⟩,HS2⟩:=hrel
    by_cases hd:d < N
    ·obtain ⟨hsk2,hsv2,hSK2,hbx2⟩:=HS2.out
     have hfo:=HFk2.out _ (n+1+k*65+1+d) d (by omega) hd hsv2 hsk2 hSK2
     obtain ⟨⟨x0,x1,x2⟩,x3⟩:=HBxb.out _ hsk2;obtain ⟨⟨z0,z1,z2⟩,_⟩:=id hbx2;have htw2:=hsv2.two;have HE:=(show Hid _ from HFS2.out d)
     have HNx2:Hid (∀ w',Sk bs bl wr w'->SpO w' Wb.heap.size (.slice po2 pk2 pc2) (bt k++ft d)/\Sk bs bl Wb w'/\SK w' (.agg #[.slice lo2 pn lc2,.slice no2 nn2 nc2,.slice so2 N sc2])/\Bx3 w' w3.heap.size (.slice lo2 pn lc2) (.slice no2 nn2 nc2) (.slice so2 N sc2)):=fun w' h=>⟨HSp2.out.2.sk h htw2,hsk2.trans h,HSKk.out _ _ _ hSK2 htw2 h,hbx2.sk h htw2⟩
     have HSl2:Hid ((bt k++ft d).length=pk2):=HSp2.out.1;clear hskr
     cases hfd:fr d with
     | false=>
      rw [hfd] at hfo HE;have HE2:Hid (ft (d+1)=ft d):=by have:=HE.out;rw [if_neg (by simp)] at this;exact this
      clear HE hsv2 hSK2 hbx2 HSp2 HS2 hfd
      go_wp2_with (first | (go_at_call 67;refine hfo.mono ?_;rintro e w5 ⟨rfl,HR5⟩))
      obtain ⟨q1,q2,q3,q4⟩:=HNx2.out _ HR5.out.1
      have HQ:=(show Hid (SpO w5 Wb.heap.size (.slice po2 pk2 pc2) (bt k++ft d)/\Sk bs bl Wb w5/\SvOk Pz w0 w5 B bs bl (n+1+k*65+1+d+1) va vr pv fv m ps l ho hc/\SK w5 (.agg #[.slice lo2 pn lc2,.slice no2 nn2 nc2,.slice so2 N sc2])/\Bx3 w5 w3.heap.size (.slice lo2 pn lc2) (.slice no2 nn2 nc2) (.slice so2 N sc2)) from ⟨q1,q2,HR5.out.2,q3,q4⟩)
      clear q1 q2 q3 q4 HR5
      go_roundw
      case rel=>exact ⟨d+1,by omega,by go_num,⟨po2,pk2,pc2,rfl,by omega,by rw [HE2.out];exact HSl2.out,by rw [HE2.out];exact HQ.out.1⟩,HQ.out.2⟩
      case measure=>simp [intOf];omega
     | true=>
      rw [hfd] at hfo HE;have HE2:Hid (ft (d+1)=ft d++[(cd,(d:Int))]):=by have:=HE.out;rw [if_pos rfl] at this;exact this
      clear HE hsv2 hSK2 hbx2 HSp2 HS2 hfd
      go_wp2_with (first | (go_at_call 67;refine hfo.mono ?_;rintro e w5 ⟨rfl,HR5⟩;obtain ⟨q1,q2,q3,q4⟩:=HNx2.out _ HR5.out.1;have HQ:=(show Hid (SpO w5 Wb.heap.size (.slice po2 pk2 pc2) (bt k++ft d)/\Sk bs bl Wb w5/\SvOk Pz w0 w5 B bs bl (n+1+k*65+1+d+1) va vr pv fv m ps l ho hc/\SK w5 (.agg #[.slice lo2 pn lc2,.slice no2 nn2 nc2,.slice so2 N sc2])/\Bx3 w5 w3.heap.size (.slice lo2 pn lc2) (.slice no2 nn2 nc2) (.slice so2 N sc2)) from ⟨q1,q2,HR5.out.2,q3,q4⟩);clear q1 q2 q3 q4 HR5;have hsp5:=HQ.out.1;have hsz5:=HQ.out.2.1.size) | (at_builtin;refine push_sp cd (d:Int) rfl _ _ rfl Wb.heap.size pk2 pc2 po2 (bt k++ft d) HSl2.out rfl hsp5 rfl (by omega) hsz5 ?_;intro vo6 cap6 w6 ho6 hb6 hg6))
      have hown:=hsp5.own (.cells #[.int .i64 cd,.int .i64 (d:Int)] 97)
      have HQ6:Hid (SpO w6 Wb.heap.size (.slice vo6 (pk2+1) cap6) (bt k++ft d++[(cd,(d:Int))])/\Sk bs bl Wb w6/\SvOk Pz w0 w6 B bs bl (n+1+k*65+1+d+1) va vr pv fv m ps l ho hc/\SK w6 (.agg #[.slice lo2 pn lc2,.slice no2 nn2 nc2,.slice so2 N sc2])/\Bx3 w6 w3.heap.size (.slice lo2 pn lc2) (.slice no2 nn2 nc2) (.slice so2 N sc2)):=by
       have ha:Below w5.heap.size w5 (w5.alloc (.cells #[.int .i64 cd,.int .i64 (d:Int)] 97)):=(Below.refl _ _).alloc (Nat.le_refl _) _;refine ⟨ho6,HQ.out.2.1.after hb6,(HQ.out.2.2.1.below ha).spots hg6 (fun g e=>?_),HSKg.out _ _ _ _ (HSKa.out _ _ _ HQ.out.2.2.2.1) hg6 (fun g e=>(hown g e).2),(HQ.out.2.2.2.2.below ha).grown hg6 (fun g e=>(hown g e).2)⟩
       obtain ⟨h1,h2⟩:=hown g e;have:=HSkb.out.size;exact ⟨by omega,by omega,h2⟩
      clear hown ho6 hb6 hg6 hsp5 HQ
      go_wp2_with fail
      go_roundw
      case rel=>exact ⟨d+1,by omega,by go_num,⟨vo6,pk2+1,cap6,rfl,by omega,by rw [HE2.out,<- List.append_assoc,List.length_append,HSl2.out];rfl,by rw [HE2.out,<- List.append_assoc];exact HQ6.out.1⟩,HQ6.out.2⟩
      case measure=>simp [intOf];omega
    ·obtain rfl:d=N:=by omega
     have HSl2:Hid ((bt (k+1)).length=pk2/\SpO wr Wb.heap.size (.slice po2 pk2 pc2) (bt (k+1))):=by rw [HBk.out];exact HSp2.out
     have HS3:Hid (Sk bs bl Wb wr/\SvOk Pz w0 wr B bs bl (n+1+(k+1)*65) va vr pv fv m ps l ho hc):=⟨HS2.out.1,HS2.out.2.1.mono (by omega)⟩
     clear HSp2 HS2
     go_wp2_with fail
     go_roundw
     case rel=>exact ⟨k+1,by omega,by go_num,⟨po2,pk2,pc2,rfl,by omega,HSl2.out.1,HSl2.out.2⟩,HS3⟩
     case measure=>simp [intOf];omega
  ·obtain rfl:k=nn:=by omega
   have HSl:Hid ((bt k).length=pk):=HSp.out.1;have HSpp:Hid (SpO wr Wb.heap.size (.slice po pk pc) (bt k)):=HSp.out.2;have hwb:w.heap.size <= Wb.heap.size:=HSkb.out.size;clear HSp
   go_wp2_with fail
   go_ret2
   exact ⟨HSkb.out.trans HSS.out.1,HSS.out.2.mono (by omega),.inl ⟨HW.out,po,pc,by rw [HSl.out];rfl,by rw [HSl.out];exact owns_mono HSpp.out hwb⟩⟩
end Go.Proofs.YtfnobbpbmelgnaaGreatDoor
namespace Go.Proofs.YtfnobbpbmelgnaaGreatDoor
open Go.ChangeShapes Go.WideShapes Go.ChangeAt Go.RowKit Go.Deep Go.Maps
open Terms Tm
set_option maxHeartbeats 6400000
set_option maxRecDepth 20000
section
variable {w w1 w2 : World} {base A lm : Nat} {S : List (Int × Int)} {N : List (List Int)} {T : List Int} {init many : Int} {sv nv tv nv' tv' : Value}
theorem AtX.appN {us:List Value} {r:List Int} {ao:Option Addr} {c:Nat} (h:AtX w1 base A lm S N T init many sv nv tv) (hus:w1.ownsRow base 36 1 nv N.length us/\us.length=N.length/\∀ i,i < N.length->∃ ao c,us.getD i (.slice none 0 0)=.slice ao (N.getD i []).length c/\IntsV w1 (.slice ao (N.getD i []).length c) (N.getD i [])/\RowTy w1 (.slice ao (N.getD i []).length c) 3/\∀ a,ao=some a->tv.ownBlock≠some a.block/\base <= a.block)
    (hr:IntsV w1 (.slice ao r.length c) r) (hty:RowTy w1 (.slice ao r.length c) 3) (hap:∀ a,ao=some a->tv.ownBlock≠some a.block/\base <= a.block) (hg:w1.grownBy w2 nv.ownBlock) (ho:w2.ownsRow base 36 1 nv' (N.length+1) (us++[.slice ao r.length c])):AtX (w2.setCell ⟨A,2,none⟩ nv') base A lm S (N++[r]) T init many sv nv' tv:=by
  obtain ⟨n1,n2,n3⟩:=hus;obtain ⟨es,cl,em⟩:=h.lies.isMap;have hc:Chg (fun i=>i=A\/nv.ownBlock=some i) w1 (w2.setCell ⟨A,2,none⟩ nv'):=((Chg.grown hg).weaken (fun i _ e=>.inr e)).trans2 (Chg.setCell w2 _ _) (fun i _ e=>.inl e)
  have hno:∀ i t,(i=A\/nv.ownBlock=some i)->TyB w1 i t->t=93\/t=36:=fun i t z ht=>by
    rcases z with rfl | e
    · exact .inl (ht.eq h.ty)
    · exact .inr (ht.eq (owns_ty n1 e).2)
  have hni:∀ i,(i=A\/nv.ownBlock=some i)->¬ TyB w1 i 3:=fun i z ht=>by
    rcases hno i _ z ht with e | e
    · exact absurd e (by decide)
    · exact absurd e (by decide)
  have hns:∀ i,(i=A\/nv.ownBlock=some i)->¬ TyB w1 i 97:=fun i z ht=>by
    rcases hno i _ z ht with e | e
    · exact absurd e (by decide)
    · exact absurd e (by decide)
  have hnm:∀ i,(i=A\/nv.ownBlock=some i)->i≠lm:=fun i z e=>by
    subst e
    rcases z with rfl | e
    · exact h.ty.no_map em
    · exact (owns_ty n1 e).2.no_map em
  have hbx:w2.heap[A]? = some (atB sv nv tv init many lm):=(hg.block A h.lt fun e=>by have:=h.ty.eq (owns_ty n1 e.symm).2;exact absurd this (by decide)).trans h.box
  have hA2:TyB w2 A 93:=⟨_,_,hbx⟩;refine ⟨atB_set2 w2 hbx nv',h.bA,h.bl,h.lies.kept (hc.block lm h.lies.lt (fun z=>hnm _ z rfl)),owns_chg h.sp hc (fun g e z=>hns g z (owns_ty h.sp e).2),⟨us++[.slice ao r.length c],?_,by simp [n2],fun i hi=>?_⟩,owns_chg h.st hc (fun g e z=>hni g z (owns_ty h.st e).2)⟩
  · rw [List.length_append,List.length_singleton]
    exact owns_chg ho (Chg.setCell w2 _ _) (fun g e z=>by
      have h1:=(owns_ty ho e).2;have z':g=A:=z;subst z'
      exact absurd (h1.eq hA2) (by decide))
  · have hget:∀ (α:Type) (x y:List α) (d:α) (j:Nat),(x++y).getD j d=if j < x.length then x.getD j d else y.getD (j - x.length) d:=fun α x y d j=>by
      by_cases hj:j < x.length
      · rw [if_pos hj];simp [List.getD_eq_getElem?_getD,List.getElem?_append_left hj]
      · rw [if_neg hj];simp [List.getD_eq_getElem?_getD,List.getElem?_append_right (Nat.le_of_not_lt hj)]
    by_cases hlt:i < N.length
    · obtain ⟨ao',c',e1,e2,e3,e4⟩:=n3 i hlt
      have hz:∀ a,ao'=some a->¬ (a.block=A\/nv.ownBlock=some a.block):=fun a e z=>hni _ z (by subst e;exact e3.ty)
      rw [hget,hget,n2,if_pos hlt,if_pos hlt];exact ⟨ao',c',e1,e2.chg hc hz,e3.chg hc hz,e4⟩
    · have hi2:i=N.length:=by simp at hi;omega
      have hz:∀ a,ao=some a->¬ (a.block=A\/nv.ownBlock=some a.block):=fun a e z=>hni _ z (by subst e;exact hty.ty)
      rw [hget,hget,n2,if_neg hlt,if_neg hlt,hi2,Nat.sub_self];exact ⟨ao,c,rfl,hr.chg hc hz,hty.chg hc hz,hap⟩
theorem AtX.appT {x:Int} (h:AtX w1 base A lm S N T init many sv nv tv) (hg:w1.grownBy w2 tv.ownBlock) (ho:w2.ownsRow base 3 1 tv' (T.length+1) (ivals T++[.int .i64 x])) (hown:tv'.ownBlock=tv.ownBlock\/∃ g,tv'.ownBlock=some g/\w1.heap.size <= g):AtX (w2.setCell ⟨A,3,none⟩ tv') base A lm S N (T++[x]) init many sv nv tv':=by
 obtain ⟨us,n1,n2,n3⟩:=id h.nx;obtain ⟨es,cl,em⟩:=h.lies.isMap;have hc:Chg (fun i=>i=A\/tv.ownBlock=some i) w1 (w2.setCell ⟨A,3,none⟩ tv'):=((Chg.grown hg).weaken (fun i _ e=>.inr e)).trans2 (Chg.setCell w2 _ _) (fun i _ e=>.inl e)
 have hno:∀ i t,(i=A\/tv.ownBlock=some i)->TyB w1 i t->t=93\/t=3:=fun i t z ht=>by
  rcases z with rfl | e
  ·exact .inl (ht.eq h.ty)
  ·exact .inr (ht.eq (owns_ty h.st e).2)
 have hnl:∀ i,(i=A\/tv.ownBlock=some i)->¬ TyB w1 i 36:=fun i z ht=>by
  rcases hno i _ z ht with e | e
  ·exact absurd e (by decide)
  ·exact absurd e (by decide)
 have hns:∀ i,(i=A\/tv.ownBlock=some i)->¬ TyB w1 i 97:=fun i z ht=>by
  rcases hno i _ z ht with e | e
  ·exact absurd e (by decide)
  ·exact absurd e (by decide)
 have hnm:∀ i,(i=A\/tv.ownBlock=some i)->i≠lm:=fun i z e=>by
  subst e
  rcases z with rfl | e
  ·exact h.ty.no_map em
  ·exact (owns_ty h.st e).2.no_map em
 have hbx:w2.heap[A]? = some (atB sv nv tv init many lm):=(hg.block A h.lt fun e=>by have:=h.ty.eq (owns_ty h.st e.symm).2;exact absurd this (by decide)).trans h.box
 have hA2:TyB w2 A 93:=⟨_,_,hbx⟩;refine ⟨atB_set3 w2 hbx tv',h.bA,h.bl,h.lies.kept (hc.block lm h.lies.lt (fun z=>hnm _ z rfl)),owns_chg h.sp hc (fun g e z=>hns g z (owns_ty h.sp e).2),⟨us,owns_chg n1 hc (fun g e z=>hnl g z (owns_ty n1 e).2),n2,fun i hi=>?_⟩,?_⟩
 ·obtain ⟨ao',c',e1,e2,e3,e4⟩:=n3 i hi
  have hz:∀ a,ao'=some a->¬ (a.block=A\/tv.ownBlock=some a.block):=fun a e z=>by
   rcases z with z | z
   ·subst e
    have:=e3.ty;rw [z] at this;exact absurd (this.eq h.ty) (by decide)
   ·exact (e4 a e).1 z
  refine ⟨ao',c',e1,e2.chg hc hz,e3.chg hc hz,fun a e=>⟨fun e5=>?_,(e4 a e).2⟩⟩
  rcases hown with h1 | ⟨g,h1,h2⟩
  ·rw [h1] at e5
   exact (e4 a e).1 e5
  ·rw [h1] at e5
   injection e5 with e5
   subst e;have:=e3.ty.lt;omega
 ·have e:ivals (T++[x])=ivals T++[.int .i64 x]:=by simp [ivals]
  rw [e,List.length_append,List.length_singleton]
  exact owns_chg ho (Chg.setCell w2 _ _) (fun g e z=>by
   have h1:=(owns_ty ho e).2;have z':g=A:=z;subst z'
   exact absurd (h1.eq hA2) (by decide))
end
section
variable {Pz Pz' : Nat -> Prop} {w0 w w' : World} {B bs bl n : Nat} {va vr pv fv : Value} {m : Mo} {ps : List (List (Int × Int))} {l : List (Int × Int)} {ho : Option Addr} {hc : Nat}
theorem SvOk.chg2 {Z:Nat->Prop} (h:SvOk Pz w0 w B bs bl n va vr pv fv m ps l ho hc) (hs:Chg Z w w') (hz:∀ i,Z i->w0.heap.size <= i/\i≠B/\i≠bs/\i≠bl/\¬ TyB w i 4/\(TyB w i 3->¬ Pz i)) (hp:∀ b,b < w.heap.size->Pz b->Pz' b) (hup:∀ b,w'.heap.size <= b->Pz' b):SvOk Pz' w0 w' B bs bl n va vr pv fv m ps l ho hc:=by
 have k:=h.chg hs hz;obtain ⟨f,h1,h2⟩:=h.st;have zs:¬ Z bs:=fun z=>(hz _ z).2.2.1 rfl
 refine ⟨k.box,k.bel,k.lo1,k.lo2,k.ne,k.ah,k.aty,hup,fun a e=>hp _ (by have:=h.aty;rw [e] at this;exact this.ty.lt) (h.aP a e),⟨f,h1.chg hs zs,fun kl v hv=>?_⟩,k.li⟩
 obtain ⟨code,e1,e2,e3⟩:=h2 kl v hv;obtain ⟨lo,lc,no,nc,so,sc,g1,g2,g3,g4,g5,g6,g7,g8,g9⟩:=e3.chg hs fun i z=>(hz i z).2.2.2.2
 obtain ⟨lo',lc',no',nc',so',sc',g1',_,_,_,_,g6',g7',_,_⟩:=e3;rw [g1] at g1';simp only [Value.agg.injEq,Array.mk.injEq,List.cons.injEq,Value.slice.injEq,and_true,true_and] at g1';obtain ⟨⟨rfl,rfl⟩,⟨rfl,rfl⟩,rfl,rfl⟩:=g1'
 exact ⟨code,e1,e2,lo,lc,no,nc,so,sc,g1,g2,g3,g4,g5,g6,g7,fun a e=>by subst e;exact hp _ g6'.ty.lt (g8 a rfl),fun a e=>by subst e;exact hp _ g7'.ty.lt (g9 a rfl)⟩
end
def offT (tv:Value):Nat->Prop:=fun b=>tv.ownBlock≠some b
structure ExW (w0 w:World) (base A lm B bs bl n:Nat) (va vr pv fv:Value) (m:Mo) (ps:List (List (Int × Int))) (l:List (Int × Int)) (ho:Option Addr) (hc:Nat) (S:List (Int × Int)) (N:List (List Int)) (T:List Int) (init many:Int) (sv nv tv:Value):Prop where
 su:SvOk (offT tv) w0 w B bs bl n va vr pv fv m ps l ho hc
 tl:AtX w base A lm S N T init many sv nv tv
 lo:w0.heap.size <= base/\B < base/\bs < base/\bl < base
section
variable {w0 w w' w1 w2 : World} {base A lm B bs bl n n' : Nat} {va vr pv fv : Value} {m : Mo} {ps : List (List (Int × Int))} {l : List (Int × Int)} {ho : Option Addr} {hc : Nat} {S S' : List (Int × Int)} {N : List (List Int)} {T : List Int} {init many : Int} {sv sv' nv tv nv' tv' : Value}
theorem ExW.below (h:ExW w0 w base A lm B bs bl n va vr pv fv m ps l ho hc S N T init many sv nv tv) (hb:Below w.heap.size w w'):ExW w0 w' base A lm B bs bl n va vr pv fv m ps l ho hc S N T init many sv nv tv:=⟨h.su.below hb,h.tl.below hb,h.lo⟩
theorem ExW.call (h:ExW w0 w base A lm B bs bl n va vr pv fv m ps l ho hc S N T init many sv nv tv) (hs:Sk bs bl w w') (hv:SvOk (offT tv) w0 w' B bs bl n' va vr pv fv m ps l ho hc):ExW w0 w' base A lm B bs bl n' va vr pv fv m ps l ho hc S N T init many sv nv tv:=
 ⟨hv,h.tl.sk hs h.su.two (by have:=h.tl.bl;have:=h.lo;omega) (by have:=h.tl.bl;have:=h.lo;omega),h.lo⟩
theorem ExW.far (h:ExW w0 w base A lm B bs bl n va vr pv fv m ps l ho hc S N T init many sv nv tv) {i:Nat} (hi:base <= i):w0.heap.size <= i/\i≠B/\i≠bs/\i≠bl:=by
 have:=h.lo;omega
theorem ExW.put (h:ExW w0 w base A lm B bs bl n va vr pv fv m ps l ho hc S N T init many sv nv tv) (hs:Chg (atZ A lm sv) w w') (hX:AtX w' base A lm S' N T init many sv' nv tv):ExW w0 w' base A lm B bs bl n va vr pv fv m ps l ho hc S' N T init many sv' nv tv:=by
 refine ⟨h.su.chg hs fun i z=>?_,hX,h.lo⟩
 obtain ⟨es,c,em⟩:=h.tl.lies.isMap
 rcases z with rfl | rfl | e
 ·obtain ⟨a,b,c,d⟩:=h.far h.tl.bA
  exact ⟨a,b,c,d,fun ht=>absurd (ht.eq h.tl.ty) (by decide),fun ht=>absurd (ht.eq h.tl.ty) (by decide)⟩
 ·obtain ⟨a,b,c,d⟩:=h.far h.tl.bl
  exact ⟨a,b,c,d,fun ht=>absurd em ht.no_map,fun ht=>absurd em ht.no_map⟩
 ·obtain ⟨o1,o2⟩:=owns_ty h.tl.sp e
  obtain ⟨a,b,c,d⟩:=h.far o1;exact ⟨a,b,c,d,fun ht=>absurd (ht.eq o2) (by decide),fun ht=>absurd (ht.eq o2) (by decide)⟩
theorem ExW.appN {us:List Value} {r:List Int} {ao:Option Addr} {c:Nat} (h:ExW w0 w1 base A lm B bs bl n va vr pv fv m ps l ho hc S N T init many sv nv tv) (hus:w1.ownsRow base 36 1 nv N.length us/\us.length=N.length/\∀ i,i < N.length->∃ ao c,us.getD i (.slice none 0 0)=.slice ao (N.getD i []).length c/\IntsV w1 (.slice ao (N.getD i []).length c) (N.getD i [])/\RowTy w1 (.slice ao (N.getD i []).length c) 3/\∀ a,ao=some a->tv.ownBlock≠some a.block/\base <= a.block)
  (hr:IntsV w1 (.slice ao r.length c) r) (hty:RowTy w1 (.slice ao r.length c) 3) (hap:∀ a,ao=some a->tv.ownBlock≠some a.block/\base <= a.block) (hg:w1.grownBy w2 nv.ownBlock) (ho':w2.ownsRow base 36 1 nv' (N.length+1) (us++[.slice ao r.length c])):ExW w0 (w2.setCell ⟨A,2,none⟩ nv') base A lm B bs bl n va vr pv fv m ps l ho hc S (N++[r]) T init many sv nv' tv:=by
 have hch:Chg (fun i=>i=A\/nv.ownBlock=some i) w1 (w2.setCell ⟨A,2,none⟩ nv'):=((Chg.grown hg).weaken (fun i _ e=>.inr e)).trans2 (Chg.setCell w2 _ _) (fun i _ e=>.inl e)
 refine ⟨h.su.chg hch fun i z=>?_,h.tl.appN hus hr hty hap hg ho',h.lo⟩
 rcases z with rfl | e
 ·obtain ⟨a,b,c,d⟩:=h.far h.tl.bA
  exact ⟨a,b,c,d,fun ht=>absurd (ht.eq h.tl.ty) (by decide),fun ht=>absurd (ht.eq h.tl.ty) (by decide)⟩
 ·obtain ⟨o1,o2⟩:=owns_ty hus.1 e
  obtain ⟨a,b,c,d⟩:=h.far o1;exact ⟨a,b,c,d,fun ht=>absurd (ht.eq o2) (by decide),fun ht=>absurd (ht.eq o2) (by decide)⟩
theorem ExW.appT {x:Int} (h:ExW w0 w1 base A lm B bs bl n va vr pv fv m ps l ho hc S N T init many sv nv tv) (hg:w1.grownBy w2 tv.ownBlock) (ho':w2.ownsRow base 3 1 tv' (T.length+1) (ivals T++[.int .i64 x])) (hown:tv'.ownBlock=tv.ownBlock\/∃ g,tv'.ownBlock=some g/\w1.heap.size <= g):ExW w0 (w2.setCell ⟨A,3,none⟩ tv') base A lm B bs bl n va vr pv fv m ps l ho hc S N (T++[x]) init many sv nv tv':=by
 have hch:Chg (fun i=>i=A\/tv.ownBlock=some i) w1 (w2.setCell ⟨A,3,none⟩ tv'):=((Chg.grown hg).weaken (fun i _ e=>.inr e)).trans2 (Chg.setCell w2 _ _) (fun i _ e=>.inl e)
 have hX:=h.tl.appT hg ho' hown;refine ⟨h.su.chg2 hch (fun i z=>?_) (fun b hb hp=>?_) (fun b hb e=>?_),hX,h.lo⟩
 ·rcases z with rfl | e
  ·obtain ⟨a,b,c,d⟩:=h.far h.tl.bA
   exact ⟨a,b,c,d,fun ht=>absurd (ht.eq h.tl.ty) (by decide),fun ht=>absurd (ht.eq h.tl.ty) (by decide)⟩
  ·obtain ⟨o1,o2⟩:=owns_ty h.tl.st e
   obtain ⟨a,b,c,d⟩:=h.far o1;exact ⟨a,b,c,d,fun ht=>absurd (ht.eq o2) (by decide),fun _ hp=>hp e⟩
 ·intro e
  rcases hown with h1 | ⟨g,h1,h2⟩
  ·rw [h1] at e
   exact hp e
  ·rw [h1] at e
   injection e with e
   omega
 ·have:=(owns_ty hX.st e).2.lt
  omega
end
