/- Joined texts. -/
import Derived.Test.YtehfhemidmfffaaGreatDoorLateC
import Derived.Laws.CopyRow
import Derived.Laws.IdiomCopy
import Derived.DeepKeys4
import Derived.Deep.Cut
import Derived.Deep.CutBlock
import Derived.Deep.CutRange
import Derived.Deep.DeepCutAuto
open Go renaming World→Q,Value→L,Calls→C
open Go.Ending renaming returned→I
open Go.IntKind renaming i64→V
open Go.Obj renaming cells→U
open Go.RowKit renaming Below→M,Hid→O
open Go.Value renaming slice→Y,bool→F,agg→J,tuple→H,pointer→G,int→E
open _root_.Bool renaming false→K
open _root_.Option renaming none→X,some→W
namespace Go.Proofs.YtehfhemidmfffaaGreatDoor
open _root_.Array renaming getElem?_eq_some_iff→qG,getElem?_modify→qR
open Go.RowKit.Below renaming refl→qD
open _root_.List renaming append_assoc→qZ,append_nil→vN,foldl_append→jZ,getD_eq_getElem?_getD→qC,getElem?_append_left→qX,getElem?_eq_getElem→qH,idxOf_append→xP,length_append→qF,length_cons→qV,length_map→qO,length_singleton→vU,mem_singleton→vI,mergeSort_perm→xG,prefix_refl→zX
open _root_.Nat renaming le_refl→qB,le_succ→vD,le_trans→qI,lt_of_lt_of_le→qE,lt_succ_self→qY,pow_le_pow_right→vG,zero_add→qW,zero_le→qJ
open Go.Proofs.Tryz renaming prog→qA
open Go.ChangeShapes Go.WideShapes Go.ChangeAt Go.RowKit Go.Deep Go.Maps
open Terms Tm
set_option maxHeartbeats 6400000
set_option maxRecDepth 20000
variable{Pz:Nat -> Prop}
theorem Dy:Keyed qA 3:=int_keyed Tryz.underlying3
theorem J6(w:Q):(zeroValue 148).run qA w=.ok (J #[Y X 0 0,Y X 0 0,Y X 0 0]) w:=by kernel_rfl
theorem EQ{x:Int}(h:-9223372036854775808<=x/\x<=9223372036854775807):keyOf qA 3 (.int V x)=W (.int V x):=keyOf_int_mk Tryz.underlying3 (WalkArith.wf_i64 (by omega))
theorem MI{w:Q}{base n:Nat}{v:L}{t:TypeId}{s:Nat}{xs:List L}(h:w.ownsRow base t s v n xs):∀(a:Addr) (k c:Nat),v=.slice (W a) k c->base<=a.block:=by
 intro a k c e;rcases h.2 with⟨h0,_⟩|⟨g,cap,cur,h1,h2,_⟩
 .rw[h0]at e;simp at e
 .rw[h1]at e;injection e with e _ _;injection e with e;subst e;exact h2
def St3(w:Q)(b:Nat)(x y z:L):Prop:=b<w.heap.size/\(w.cell? ⟨b,0,X⟩=W x/\w.cell? ⟨b,1,X⟩=W y/\w.cell? ⟨b,2,X⟩=W z)/\w.frozen? ⟨b,0,X⟩=K/\w.frozen? ⟨b,1,X⟩=K/\w.frozen? ⟨b,2,X⟩=K
theorem St3.new(w:Q)(x y z:L)(t:TypeId):St3 (w.alloc (U #[x,y,z] t)) w.heap.size x y z:=by
 refine⟨by simp,⟨?_,?_,?_⟩,?_,?_,?_⟩<;>simp[go_sem]
theorem St3.later{w w':Q}{b:Nat}{x y z:L}(h:St3 w b x y z)(hb:M w.heap.size w w'):St3 w' b x y z:=
 ⟨qE h.1 hb.size,⟨(hb.cell (p:=⟨b,0,X⟩) h.1).trans h.2.1.1,(hb.cell (p:=⟨b,1,X⟩) h.1).trans h.2.1.2.1,(hb.cell (p:=⟨b,2,X⟩) h.1).trans h.2.1.2.2⟩,(hb.frozen (p:=⟨b,0,X⟩) h.1).trans h.2.2.1,(hb.frozen (p:=⟨b,1,X⟩) h.1).trans h.2.2.2.1,(hb.frozen (p:=⟨b,2,X⟩) h.1).trans h.2.2.2.2⟩
def EF(Pz:Nat->Prop)(w0 w:Q)(B bs bl n:Nat)(va vr pv fv:L)(m:Mo)(ps:List (List (Int×Int)))(l:List (Int×Int))(ho:Option Addr)(hc:Nat)(code:Int)(e:Ending)(w':Q):Prop:=
 Sk bs bl w w'/\O (SvOk Pz w0 w' B bs bl (n+1) va vr pv fv m ps l ho hc)/\((Ao m code=0/\∃lo lc no nc so sc,e=I (H #[J #[.slice lo ps.length lc,.slice no (AL m code).length nc,.slice so (2^(AA l).length) sc],.int V 0])/\O (Al Pz w' m ps l code (J #[.slice lo ps.length lc,.slice no (AL m code).length nc,.slice so (2^(AA l).length) sc])))\/(Ao m code≠0/\e=I (H #[J #[Y X 0 0,Y X 0 0,Y X 0 0],.int V (Ao m code)])))
theorem Uu(w0 w:Q)(B bs bl n:Nat)(va vr pv fv:L)(m:Mo)(ps:List (List (Int×Int)))(l:List (Int×Int))(ho:Option Addr)(hc:Nat)(code:Int)(hI:-9223372036854775808<=code/\code<=9223372036854775807)(hm0:mcode m=0)(hS:SvOk Pz w0 w B bs bl n va vr pv fv m ps l ho hc)
  (f:Lit->Option L) (hf:MapIs w 3 bs n f) (hfs:∀kl v,f kl=W v->∃code,kl=.int V code/\(0<=code/\code<AK m.vars m.vars.length)/\Al Pz w m ps l code v) (v:L) (hv:f (.int V code)=W v) :
  C qA 61 #[G (W ⟨B,0,X⟩),.int V code] w (EF Pz w0 w B bs bl n va vr pv fv m ps l ho hc code):=by
 obtain⟨c',e1,hcr,hst⟩:=hfs _ _ hv;injection e1 with _ e1;subst e1;have hw0:=D7 hm0 hcr;obtain⟨lo,lc,no,nc,so,sc,rfl,_⟩:=id hst;obtain⟨W1,hW1⟩:∃W1,W1=w.alloc (U #[Y X 0 0,Y X 0 0,Y X 0 0] 148):=⟨_,rfl⟩;have hb1:M w.heap.size w W1:=by rw[hW1];exact(qD _ _).alloc (qB _) _
 have h4:St3 W1 w.heap.size (Y X 0 0) (Y X 0 0) (Y X 0 0):=by rw[hW1];exact St3.new _ _ _ _ _
 have hlk:(Instr.lookup 72 (.map (W bs)) (.int V code) true).run qA W1=.ok (H #[J #[.slice lo ps.length lc,.slice no (AL m code).length nc,.slice so (2^(AA l).length) sc],.bool true]) W1:=by
  have:=(hf.kept (hb1.block _ hf.lt)).look Dy Tryz.underlying72 (J6 _) (EQ hI);rw[hv]at this;exact this
 have c5:=(hS.box.later hb1).c5;have HFin:O (∀w',M w.heap.size w w'->Sk bs bl w w'/\SvOk Pz w0 w' B bs bl (n+1) va vr pv fv m ps l ho hc/\Al Pz w' m ps l code (J #[.slice lo ps.length lc,.slice no (AL m code).length nc,.slice so (2^(AA l).length) sc])):=fun w' h=>⟨Sk.of h,(hS.below h).mono (vD _),hst.below h⟩;have HW:O (Ao m code=0):=hw0;unfold EF;generalize ps.length=pn at *;generalize(AL m code).length=nn at *;generalize 2^(AA l).length=N at *;obtain⟨hl4,⟨k0,k1,k2⟩,g0,g1,g2⟩:=id h4;have HH4:O (St3 W1 w.heap.size (Y X 0 0) (Y X 0 0) (Y X 0 0)):=h4;clear hS hf hfs hv hst hw0 h4;subst hW1
 go_enter Tryz.func61,Tryz.ntmps61;go_wp2_with fail
 have hb:M w.heap.size w ((w.alloc (U #[Y lo pn lc,Y no nn nc,Y so N sc] 148)).alloc (U #[Y lo pn lc,Y no nn nc,Y so N sc] 148)):=((qD _ _).alloc (qB _) _).alloc (by simp) _;obtain⟨r1,r2,r3⟩:=HFin.out _ hb;refine bodyPost_ret (v:=H #[J #[Y lo pn lc,Y no nn nc,Y so N sc],.int V 0]) ?_ rfl ⟨r1,r2,.inl ⟨HW.out,lo,lc,no,nc,so,sc,rfl,r3⟩⟩;simp[results,Tryz.results61,go_sem]
theorem BoolsV.setBox{w:Q}{v:L}{l:List Bool}{p:Addr}{a:Option Addr}{n c:Nat}(h:BoolsV w v l)(hc:w.cell? p=W (Y a n c))(u:L):BoolsV (w.setCell p u) v l:=by
 obtain⟨ao,cap,rfl,h⟩:=h;refine⟨ao,cap,rfl,fun hne=>?_⟩;obtain⟨b,off,rfl,hlt,hat⟩:=h hne;refine⟨b,off,rfl,by simpa using hlt,fun i hi=>?_⟩;have h1:=hat i hi;have hne2:(⟨b,off+i,X⟩:Addr)≠p:=by
  intro e;rw[e,hc]at h1;simp at h1
 rw[World.cell?_setCell_other _ _ _ _ hne2.symm];exact h1
theorem IntsV.setBox{w:Q}{v:L}{l:List Int}{p:Addr}{a:Option Addr}{n c:Nat}(h:IntsV w v l)(hc:w.cell? p=W (Y a n c))(u:L):IntsV (w.setCell p u) v l:=by
 obtain⟨ao,cap,rfl,h⟩:=h;refine⟨ao,cap,rfl,fun hne=>?_⟩;obtain⟨b,off,rfl,hlt,hat⟩:=h hne;refine⟨b,off,rfl,by simpa using hlt,fun i hi=>?_⟩;have h1:=hat i hi;have hne2:(⟨b,off+i,X⟩:Addr)≠p:=by
  intro e;rw[e,hc]at h1;simp at h1
 rw[World.cell?_setCell_other _ _ _ _ hne2.symm];exact h1
theorem Sk.setNew{bs bl:Nat}{w w':Q}(h:Sk bs bl w w'){p:Addr}(hp:w.heap.size<=p.block)(v:L):Sk bs bl w (w'.setCell p v):=
 ⟨h.os,h.tape,h.output,by simpa using h.size,fun i hi h1 h2=>(RowKit.Below.heap_setCell _ _ _ _ (by omega)).trans (h.block i hi h1 h2)⟩
theorem SvOk.putN{w0 w w':Q}{B bs bl n:Nat}{va vr pv fv:L}{m:Mo}{ps:List (List (Int×Int))}{l:List (Int×Int)}{ho:Option Addr}{hc:Nat}(h:SvOk Pz w0 w B bs bl n va vr pv fv m ps l ho hc){f:Lit->Option L}{code:Int}{v:L}(hs:Sk bs bl w w')(hbl:w'.heap[bl]? = w.heap[bl]?)(h2:∀kl v,f kl=W v->∃code,kl=.int V code/\(0<=code/\code<AK m.vars m.vars.length)/\Al Pz w m ps l code v)
  (hm:MapIs w' 3 bs (n+1) (DZ f (.int V code) v)) (hc':0<=code/\code<AK m.vars m.vars.length) (hv:Al Pz w' m ps l code v):SvOk Pz w0 w' B bs bl (n+1) va vr pv fv m ps l ho hc:=by
 have ht:=h.two;obtain⟨g,h3,h4⟩:=h.li;refine⟨h.box.sk hs ht,h.bel.trans (hs.below h.lo1 h.lo2 h.bel.size),h.lo1,h.lo2,h.ne,h.ah.sk hs ht,h.aty.sk hs ht,fun b hb2=>h.up b (qI hs.size hb2),h.aP,⟨_,hm,fun kl u hu=>?_⟩,⟨g,(h3.kept hbl).mono (vD _),h4⟩⟩;by_cases hk:kl=.int V code
 .subst hk;rw[GW]at hu;cases hu
  exact⟨code,rfl,hc',hv⟩
 .rw[GU hk]at hu;obtain⟨c,e1,e2,e3⟩:=h2 kl u hu;exact⟨c,e1,e2,e3.sk hs ht⟩
theorem Uw(w0 w:Q)(B bs bl n:Nat)(va vr pv fv:L)(m:Mo)(ps:List (List (Int×Int)))(l:List (Int×Int))(ho:Option Addr)(hc:Nat)(code:Int)(hI:-9223372036854775808<=code/\code<=9223372036854775807)(hB:0<w0.heap.size)(hT:AH w0)(hV:TaskV w0 va vr pv fv m ps l)(hk:Ad m ps l=0)(hS:SvOk Pz w0 w B bs bl n va vr pv fv m ps l ho hc)
  (f:Lit->Option L) (hf:MapIs w 3 bs n f) (hv:f (.int V code)=X) (hw:Ao m code≠0) :
  C qA 61 #[G (W ⟨B,0,X⟩),.int V code] w (EF Pz w0 w B bs bl n va vr pv fv m ps l ho hc code):=by
 obtain⟨hp0,_⟩:=BX hk;obtain⟨ao,ac,rfl⟩:=hV.mo.1.shape;obtain⟨ro,rc,rfl⟩:=hV.mo.2.shape;obtain⟨po,pc,rfl⟩:=hV.ps.shape;obtain⟨W1,hW1⟩:∃W1,W1=w.alloc (U #[Y X 0 0,Y X 0 0,Y X 0 0] 148):=⟨_,rfl⟩;have hb1:M w.heap.size w W1:=by rw[hW1];exact(qD _ _).alloc (qB _) _
 have hlk:(Instr.lookup 72 (.map (W bs)) (.int V code) true).run qA W1=.ok (H #[J #[Y X 0 0,Y X 0 0,Y X 0 0],.bool K]) W1:=by
  have:=(hf.kept (hb1.block _ hf.lt)).look Dy Tryz.underlying72 (J6 _) (EQ hI);rw[hv]at this;exact this
 have c5:=(hS.box.later hb1).c5;have hb2:M w.heap.size w (W1.alloc (U #[Y X 0 0,Y X 0 0,Y X 0 0] 148)):=hb1.alloc hb1.size _;have HLe:O (∀w1,M w.heap.size w w1->C qA 31 #[J #[.slice ao m.vars.length ac,.slice ro m.rules.length rc],.slice po ps.length pc,.int V code] w1 fun e w'=>∃lo ln lc,e=I (H #[Y lo ln lc,.int V (Ao m code)])/\M w1.heap.size w1 w'):=fun w1 h=>by
  have h0:=hS.bel.trans (h.mono hS.bel.size);refine(Lf _ _ _ m ps code w1 (qE hB h0.size) (hT.below h0 hB) (hV.mo.below h0) (hV.ps.below h0)).mono fun e w' ⟨v,h1,h2,h3⟩=>?_;have e1:Ci m ps code=Ao m code:=by unfold Ci;rw[if_pos hp0]
  obtain⟨lo,lc,rfl,_⟩:=h3;exact⟨lo,_,lc,by rw[h1,e1],h2⟩
 have HSB:O (∀w1,M w.heap.size w w1->w1.cell? ⟨B,0,X⟩=W (.slice ao m.vars.length ac)/\w1.cell? ⟨B,1,X⟩=W (.slice ro m.rules.length rc)/\w1.cell? ⟨B,2,X⟩=W (.slice po ps.length pc)):=fun w1 h=>⟨(hS.box.later h).c0,(hS.box.later h).c1,(hS.box.later h).c2⟩;have HFin:O (∀w',M w.heap.size w w'->Sk bs bl w w'/\SvOk Pz w0 w' B bs bl (n+1) (.slice ao m.vars.length ac) (.slice ro m.rules.length rc) (.slice po ps.length pc) fv m ps l ho hc):=fun w' h=>⟨Sk.of h,(hS.below h).mono (vD _)⟩;have H4:O (∀w',M (w.heap.size+1) W1 w'->w'.cell? ⟨w.heap.size,0,X⟩=W (Y X 0 0)/\w'.cell? ⟨w.heap.size,1,X⟩=W (Y X 0 0)/\w'.cell? ⟨w.heap.size,2,X⟩=W (Y X 0 0)/\w'.frozen? ⟨w.heap.size,0,X⟩=K/\w'.frozen? ⟨w.heap.size,1,X⟩=K/\w'.frozen? ⟨w.heap.size,2,X⟩=K):=fun w' h=>by
  have h3:St3 W1 w.heap.size (Y X 0 0) (Y X 0 0) (Y X 0 0):=by rw[hW1];exact St3.new _ _ _ _ _
  obtain⟨_,⟨a,b,c⟩,d,e,f⟩:=h3;have hlt:w.heap.size<w.heap.size+1:=qY _;exact⟨(h.cell (p:=⟨w.heap.size,0,X⟩) hlt).trans a,(h.cell (p:=⟨w.heap.size,1,X⟩) hlt).trans b,(h.cell (p:=⟨w.heap.size,2,X⟩) hlt).trans c,(h.frozen (p:=⟨w.heap.size,0,X⟩) hlt).trans d,(h.frozen (p:=⟨w.heap.size,1,X⟩) hlt).trans e,(h.frozen (p:=⟨w.heap.size,2,X⟩) hlt).trans f⟩
 have hz1:W1.heap.size=w.heap.size+1:=by rw[hW1];simp
 unfold EF;generalize Ao m code=wc at *;generalize m.vars.length=vn at *;generalize m.rules.length=rn at *;generalize ps.length=pn at *;clear hS hf hv hT hV hk hp0;obtain⟨W2,hW2⟩:∃W2,W2=W1.alloc (U #[Y X 0 0,Y X 0 0,Y X 0 0] 148):=⟨_,rfl⟩
 have hk2:M (w.heap.size+1) W1 W2:=by rw[hW2];exact(qD _ _).alloc (by omega) _
 have hbw2:M w.heap.size w W2:=by rw[hW2];exact hb2
 have hz2:w.heap.size+1<=W2.heap.size:=by rw[hW2];simp[hz1]
 rw[hW1]at hW2;subst hW1;go_enter Tryz.func61,Tryz.ntmps61;go_wp2_with fail
 rw[<-hW2];clear hW2 hlk c5;have hle:=HLe.out _ hbw2.drew;have hB0:M W2.heap.size W2 W2:=qD _ _;have hBw:=hB0.drew;go_region_held3 (fun w'=>w'.cell? ⟨B,0,X⟩=W (Y ao vn ac)/\w'.cell? ⟨B,1,X⟩=W (Y ro rn rc)/\w'.cell? ⟨B,2,X⟩=W (Y po pn pc))
  (first|exact HSB.out _ hb12|exact HSB.out _ hbw2.drew|exact HSB.out _ hbw2)
  (first
   |(go_at_call 31;refine hle.mono ?_;rintro e w3 ⟨lo,ln,lc,rfl,hb3⟩;have hb12:=hbw2.drew.trans (hb3.mono hbw2.drew.size);have hk3:=hk2.drew.trans (hb3.mono hz2)))
 obtain⟨q0,q1,q2,q3,q4,q5⟩:=H4.out _ hk3;go_wp2_with fail
 have hbF:=((hb12.setCell (p:=⟨w.heap.size,0,X⟩) (qB _) (Y X 0 0)).setCell (p:=⟨w.heap.size,1,X⟩) (qB _) (Y X 0 0)).setCell (p:=⟨w.heap.size,2,X⟩) (qB _) (Y X 0 0);obtain⟨r1,r2⟩:=HFin.out _ hbF;refine bodyPost_ret (v:=H #[J #[Y X 0 0,Y X 0 0,Y X 0 0],.int V wc]) ?_ rfl ⟨r1,r2,.inr ⟨hw,rfl⟩⟩;simp[results,Tryz.results61,go_sem,q0,q1,q2]
structure SgAt(w4 wr:Q)(N k:Nat)(sg:Nat->Int)(lv nv:L):Prop where
 bel:M w4.heap.size w4 wr
 row:wr.rowIs w4.heap.size 3 N (fun j=>.int V (if j<k then sg j else 0))
 box:St3 wr (w4.heap.size+1) lv nv (Y (W ⟨w4.heap.size,0,X⟩) N N)
theorem SgAt.start(w4:Q)(N:Nat)(sg:Nat->Int)(lv nv:L):SgAt w4 ((w4.alloc (U (madeCells #[E V 0] N) 3)).alloc (U #[lv,nv,Y (W ⟨w4.heap.size,0,X⟩) N N] 148)) N 0 sg lv nv:=by
 refine⟨((qD _ _).alloc (qB _) _).alloc (by simp) _,?_,?_⟩
 .exact ((World.rowIs_made w4 (.int V 0) N 3).alloc _).congr (fun j _=>by simp)
 .have:=St3.new (w4.alloc (U (madeCells #[E V 0] N) 3)) lv nv (Y (W ⟨w4.heap.size,0,X⟩) N N) 148;rw[World.size_alloc]at this;exact this
theorem SgAt.later{w4 wr w':Q}{N k:Nat}{sg:Nat->Int}{lv nv:L}(h:SgAt w4 wr N k sg lv nv)(hb:M wr.heap.size wr w'):SgAt w4 w' N k sg lv nv:=
 ⟨h.bel.trans (hb.mono h.bel.size),h.row.of_block (hb.block _ h.row.lt),h.box.later hb⟩
theorem SgAt.put{w4 wr:Q}{N k:Nat}{sg:Nat->Int}{lv nv:L}(h:SgAt w4 wr N k sg lv nv):SgAt w4 (wr.setCell ⟨w4.heap.size,k,X⟩ (.int V (sg k))) N (k+1) sg lv nv:=by
 refine⟨h.bel.setCell (p:=⟨w4.heap.size,k,X⟩) (qB _) _,(h.row.set k _).congr (fun j hj=>?_),?_⟩
 .by_cases e:j=k
  .subst e;rw[if_pos rfl,if_pos (qY _)]
  .rw[if_neg e];by_cases h1:j<k
   .rw[if_pos h1,if_pos (by omega)]
   .rw[if_neg h1,if_neg (by omega)]
 .obtain ⟨h0,⟨a,b,c⟩,d,e,f⟩:=h.box;refine⟨by simpa using h0,⟨?_,?_,?_⟩,?_,?_,?_⟩<;>simp[go_sem,a,b,c,d,e,f]
theorem SgAt.done{w4 wr:Q}{N:Nat}{sg:Nat->Int}{lv nv:L}(h:SgAt w4 wr N N sg lv nv):IntsV wr (Y (W ⟨w4.heap.size,0,X⟩) N N) ((List.range N).map sg):=by
 refine⟨W ⟨w4.heap.size,0,X⟩,N,by simp,fun _=>⟨w4.heap.size,0,rfl,h.row.lt,fun i hi=>?_⟩⟩;have hi':i<N:=by simpa using hi
 rw[qW,h.row.cell hi',if_pos hi'];simp[qC,hi']
theorem Uv(w0 w:Q)(B bs bl n:Nat)(va vr pv fv:L)(m:Mo)(ps:List (List (Int×Int)))(l:List (Int×Int))(ho:Option Addr)(hc:Nat)(code:Int)(hI:-9223372036854775808<=code/\code<=9223372036854775807)(hB:0<w0.heap.size)(hT:AH w0)(hV:TaskV w0 va vr pv fv m ps l)(hk:Ad m ps l=0)(hS:SvOk Pz w0 w B bs bl n va vr pv fv m ps l ho hc)(hn:n<1000000000000)
  (f:Lit->Option L) (hf:MapIs w 3 bs n f) (hfs:∀kl v,f kl=W v->∃code,kl=.int V code/\(0<=code/\code<AK m.vars m.vars.length)/\Al Pz w m ps l code v) (hv:f (.int V code)=X) (hcr:0<=code/\code<AK m.vars m.vars.length) :
  C qA 61 #[G (W ⟨B,0,X⟩),.int V code] w (EF Pz w0 w B bs bl n va vr pv fv m ps l ho hc code):=by
 obtain⟨hp0,hl0⟩:=BX hk;obtain⟨hm0,_⟩:=Ck hp0;obtain⟨_,_,hz,_,h6⟩:=CC hl0;have hw:=D7 hm0 hcr;obtain⟨ao,ac,rfl⟩:=hV.mo.1.shape;obtain⟨ro,rc,rfl⟩:=hV.mo.2.shape;obtain⟨po,pc,rfl⟩:=hV.ps.shape;obtain⟨fo,fc,rfl,_⟩:=id hV.fo;obtain⟨W1,hW1⟩:∃W1,W1=w.alloc (U #[Y X 0 0,Y X 0 0,Y X 0 0] 148):=⟨_,rfl⟩;have hb1:M w.heap.size w W1:=by rw[hW1];exact(qD _ _).alloc (qB _) _
 have hlk:(Instr.lookup 72 (.map (W bs)) (.int V code) true).run qA W1=.ok (H #[J #[Y X 0 0,Y X 0 0,Y X 0 0],.bool K]) W1:=by
  have:=(hf.kept (hb1.block _ hf.lt)).look Dy Tryz.underlying72 (J6 _) (EQ hI);rw[hv]at this;exact this
 have c5:=(hS.box.later hb1).c5;have hb2:M w.heap.size w (W1.alloc (U #[Y X 0 0,Y X 0 0,Y X 0 0] 148)):=hb1.alloc hb1.size _;have HLe:O (∀w1,M w.heap.size w w1->C qA 31 #[J #[.slice ao m.vars.length ac,.slice ro m.rules.length rc],.slice po ps.length pc,.int V code] w1 fun e w'=>∃lo lc,e=I (H #[.slice lo ps.length lc,.int V 0])/\M w1.heap.size w1 w'/\O (BoolsV w' (.slice lo ps.length lc) (AJ m ps code)/\Ae w' (.slice lo ps.length lc) 4)):=fun w1 h=>by
  have h0:=hS.bel.trans (h.mono hS.bel.size);refine(Lg _ _ _ m ps code w1 (qE hB h0.size) (hT.below h0 hB) (hV.mo.below h0) (hV.ps.below h0)).mono fun e w' ⟨v,h1,h2,h3,h4⟩=>?_;obtain⟨t1,t2⟩:=FD hk hcr;obtain⟨lo,lc,rfl,hx⟩:=h3;rw[t2]at h1 h4;exact⟨lo,lc,by rw[h1,t1],h2,⟨lo,lc,by rw[t2],hx⟩,h4⟩
 have HNe:O (∀w1,M w.heap.size w w1->C qA 89 #[J #[.slice ao m.vars.length ac,.slice ro m.rules.length rc],.int V code] w1 fun e w'=>∃no nc,e=I (H #[.slice no (AL m code).length nc,.int V 0])/\M w1.heap.size w1 w'/\O (IntsV w' (.slice no (AL m code).length nc) (AL m code)/\Ae w' (.slice no (AL m code).length nc) 3/\∀a,no=W a->Pz a.block)):=fun w1 h=>by
  have h0:=hS.bel.trans (h.mono hS.bel.size);refine(SX _ _ m code w1 (qE hB h0.size) (hT.below h0 hB) (hV.mo.below h0) hm0).mono fun e w' ⟨v,h1,h2,h3'⟩=>?_;have h4:=Ae.owns h3';have h5:=MI h3';have h3:=Dv h3';have e1:Cw m code=AL m code:=by unfold Cw;rw[if_pos hw]
  rw[e1]at h3;obtain⟨no,nc,rfl,hx⟩:=h3;exact⟨no,nc,by rw[h1,hw],h2,⟨no,nc,rfl,hx⟩,h4,fun a e=>hS.up _ (qI h.size (h5 a _ _ (by rw[e])))⟩
 have HSg:O (∀(w1:Q) (c:Nat) (lv:L),M w.heap.size w w1->c<2^(AA l).length->BoolsV w1 lv (AJ m ps code)->C qA 90 #[G (W ⟨B,0,X⟩),lv,.int V (c:Int)] w1 fun e w'=>e=I (H #[E V (Df l (AJ m ps code) c),.int V 0])/\M w1.heap.size w1 w'):=fun w1 c lv h hcN hlv=>by
  have h0:=hS.bel.trans (h.mono hS.bel.size);exact Ud B _ _ _ _ lv l (AJ m ps code) c ho hc bs bl w1 (qE hB h0.size) (hT.below h0 hB) (hV.fo.below h0) hlv hz h6 (NO hk hcr hcN).1 (hS.box.later h) (hS.ah.below h)
 have HCl:O (∀w1,M w.heap.size w w1->C qA 32 #[G (W ⟨B,0,X⟩)] w1 fun e w'=>e=I (.int V ((2^(AA l).length:Nat):Int))/\w'=w1):=fun w1 h=>II B _ _ _ _ ho _ hc bs bl w1 h6 (hS.box.later h);have HSB:O (∀w1,M w.heap.size w w1->w1.cell? ⟨B,0,X⟩=W (.slice ao m.vars.length ac)/\w1.cell? ⟨B,1,X⟩=W (.slice ro m.rules.length rc)/\w1.cell? ⟨B,2,X⟩=W (.slice po ps.length pc)/\w1.cell? ⟨B,5,X⟩=W (.map (W bs))):=fun w1 h=>⟨(hS.box.later h).c0,(hS.box.later h).c1,(hS.box.later h).c2,(hS.box.later h).c5⟩;have HPut:O (∀w1,M w.heap.size w w1->∀v,∃w',(Instr.mapUpdate 72 (.map (W bs)) (.int V code) v).run qA w1.drew=.ok () w'/\MapIs w' 3 bs (n+1) (DZ f (.int V code) v)/\w1.grownBy w' (W bs)):=fun w1 h v=>by
  have hm1:MapIs w1.drew 3 bs n f:=hf.kept (h.block _ hf.lt);obtain⟨w',h1,h2,h3⟩:=hm1.put Dy Tryz.underlying72 (by unfold maxLen;omega) (val:=v) (EQ hI) (by simp[WideAt.IsKeyLit]);exact⟨w',h1,h2,⟨h3.os,h3.tape,h3.output,h3.size,h3.block⟩⟩
 have HTwo:O (∀w1,M w.heap.size w w1->Ce w1 bs bl):=fun w1 h=>(hS.below h).two;have H4:O (∀w',M (w.heap.size+1) W1 w'->St3 w' w.heap.size (Y X 0 0) (Y X 0 0) (Y X 0 0)):=fun w' h=>by
  have h3:St3 W1 w.heap.size (Y X 0 0) (Y X 0 0) (Y X 0 0):=by rw[hW1];exact St3.new _ _ _ _ _
  obtain⟨g0,⟨a,b,c⟩,d,e,f⟩:=h3;have hlt:w.heap.size<w.heap.size+1:=qY _;exact⟨qE g0 h.size,⟨(h.cell (p:=⟨w.heap.size,0,X⟩) hlt).trans a,(h.cell (p:=⟨w.heap.size,1,X⟩) hlt).trans b,(h.cell (p:=⟨w.heap.size,2,X⟩) hlt).trans c⟩,(h.frozen (p:=⟨w.heap.size,0,X⟩) hlt).trans d,(h.frozen (p:=⟨w.heap.size,1,X⟩) hlt).trans e,(h.frozen (p:=⟨w.heap.size,2,X⟩) hlt).trans f⟩
 have HPN:O (∀w' v,Sk bs bl w w'->w'.heap[bl]? = w.heap[bl]?->MapIs w' 3 bs (n+1) (DZ f (.int V code) v)->Al Pz w' m ps l code v->SvOk Pz w0 w' B bs bl (n+1) (.slice ao m.vars.length ac) (.slice ro m.rules.length rc) (.slice po ps.length pc) (.slice fo l.length fc) m ps l ho hc):=fun w' v h1 h2 h3 h4=>hS.putN h1 h2 hfs h3 hcr h4;have hbs:bs<w.heap.size:=hf.lt;have hbl:bl<w.heap.size:=by obtain⟨g,h1,_⟩:=hS.li;exact h1.lt
 have hne:=hS.ne;have hz1:W1.heap.size=w.heap.size+1:=by rw[hW1];simp
 have hN64:2^(AA l).length<=64:=vG (show 0<2 by decide) h6;have HStI:O (∀(w':Q) (lo no so:Option Addr) (lc nc sc:Nat),BoolsV w' (.slice lo ps.length lc) (AJ m ps code)->IntsV w' (.slice no (AL m code).length nc) (AL m code)->IntsV w' (.slice so (2^(AA l).length) sc) ((List.range (2^(AA l).length)).map (Df l (AJ m ps code)))->Ae w' (.slice lo ps.length lc) 4->Ae w' (.slice no (AL m code).length nc) 3->Ae w' (.slice so (2^(AA l).length) sc) 3->(∀a,no=W a->Pz a.block)->(∀a,so=W a->Pz a.block)->Al Pz w' m ps l code (J #[.slice lo ps.length lc,.slice no (AL m code).length nc,.slice so (2^(AA l).length) sc])):=fun w' lo no so lc nc sc h1 h2 h3 h4 h5 h6 h7 h8=>⟨lo,lc,no,nc,so,sc,rfl,h1,h2,h3,h4,h5,h6,h7,h8⟩;have HUp:O (∀b,w.heap.size<=b->Pz b):=hS.up;unfold EF;have HW:O (Ao m code=0):=hw;generalize Df l (AJ m ps code)=sg at *;generalize hlt:AJ m ps code=lt at *;generalize hnx:AL m code=nx at *;generalize nx.length=nn at *;generalize m.vars.length=vn at *;generalize m.rules.length=rn at *;generalize ps.length=pn at *;generalize l.length=fn at *;generalize 2^(AA l).length=N at *
 clear hS hf hfs hv hT hV hk hp0 hl0 hz h6 hlt hnx hw hm0;obtain⟨W2,hW2⟩:∃W2,W2=W1.alloc (U #[Y X 0 0,Y X 0 0,Y X 0 0] 148):=⟨_,rfl⟩;have hk2:M (w.heap.size+1) W1 W2:=by rw[hW2];exact(qD _ _).alloc (by omega) _
 have hbw2:M w.heap.size w W2:=by rw[hW2];exact hb2
 have hz2:w.heap.size+1<=W2.heap.size:=by rw[hW2];simp[hz1]
 rw[hW1]at hW2;subst hW1;go_enter Tryz.func61,Tryz.ntmps61;go_wp2_with fail
 rw[<-hW2];clear hW2 hlk c5;have hle:=HLe.out _ hbw2.drew;have HSC:O (∀w1,M w.heap.size w w1->w1.cell? ⟨B,0,X⟩=W (Y ao vn ac)/\w1.cell? ⟨B,1,X⟩=W (Y ro rn rc)/\w1.cell? ⟨B,2,X⟩=W (Y po pn pc)):=fun w1 h=>by obtain⟨y0,y1,y2,_⟩:=HSB.out _ h;exact⟨y0,y1,y2⟩
 have hmk:=run_make_row' (P:=qA) 43 3 (.int V 0) 8 Tryz.underlying43 Ba rfl .i64 .i64 N (by omega) (by omega);go_region_held3 (fun w'=>w'.cell? ⟨B,0,X⟩=W (Y ao vn ac)/\w'.cell? ⟨B,1,X⟩=W (Y ro rn rc)/\w'.cell? ⟨B,2,X⟩=W (Y po pn pc))
  (first|exact HSC.out _ hb12|exact HSC.out _ hbw2.drew|exact HSC.out _ hbw2)
  (first
   |(go_at_call 31;refine hle.mono ?_;rintro e w3 ⟨lo,lc,rfl,hb3,HLv⟩;have hb12:=hbw2.drew.trans (hb3.mono hbw2.drew.size);have hk3:=hk2.drew.trans (hb3.mono hz2)))
 obtain⟨z0,z1,z2,_⟩:=HSB.out _ hb12;have hnx:=HNe.out w3 hb12;go_wp2_with (first|(go_at_call 89;refine hnx.mono ?_;rintro e w4 ⟨no,nc,rfl,hb4,HNv⟩;have hb14:=hb12.trans (hb4.mono hb12.size);have hk4:=hk3.trans (hb4.mono (qI hz2 hb3.size));have hcl:=HCl.out w4 hb14)|(go_at_call 32;refine hcl.mono ?_;rintro e w5 ⟨rfl,rfl⟩))
 clear hmk hle hnx hcl;have HS0:O (SgAt w5 ((w5.alloc (U (madeCells #[E V 0] N) 3)).alloc (U #[Y lo pn lc,Y no nn nc,Y (W ⟨w5.heap.size,0,X⟩) N N] 148)) N 0 sg (Y lo pn lc) (Y no nn nc)):=SgAt.start _ _ _ _ _;have HLt:O (∀w',M w5.heap.size w5 w'->BoolsV w' (Y lo pn lc) lt):=fun w' h=>(HLv.out.1.below hb4).below h;generalize(w5.alloc (U (madeCells #[E V 0] N) 3)).alloc (U #[Y lo pn lc,Y no nn nc,Y (W ⟨w5.heap.size,0,X⟩) N N] 148)=W5 at *;obtain⟨_,⟨x0,x1,x2⟩,_,_,_⟩:=HS0.out.box
 go_wp2_with fail
 go_loopw [12,66,9] (fun _ i _ wr=>∃k:Nat,k<=N/\i=.int V k/\O (SgAt w5 wr N k sg (Y lo pn lc) (Y no nn nc))) (fun _ i _ _=>N-(intOf i).toNat)
 case atStart=>exact⟨0,qJ _,rfl,HS0⟩
 case round=>
  obtain⟨k,hk,rfl,HA⟩:=hrel;have hA:=HA.out;obtain⟨_,⟨e0,e1,e2⟩,_,_,_⟩:=id hA.box;have hbr:=hb14.trans (hA.bel.mono hb14.size);by_cases hkN:k<N
  .have hsg:=HSg.out wr.drew k _ hbr.drew hkN (HLt.out _ hA.bel.drew);have HAd:O (∀w',M wr.heap.size wr w'->SgAt w5 w' N k sg (Y lo pn lc) (Y no nn nc)):=fun w' h=>hA.later h;have HEB:O (∀w',M wr.heap.size wr w'->w'.cell? ⟨w5.heap.size+1,2,X⟩=W (Y (W ⟨w5.heap.size,0,X⟩) N N)):=fun w' h=>(hA.later h).box.2.1.2.2;have hB0:M wr.heap.size wr wr:=qD _ _;have hki:(k:Int)<(N:Int):=by omega
   clear hA HA;go_wp2_with fail
   go_region_held3 (fun w'=>w'.cell? ⟨w5.heap.size+1,2,X⟩=W (Y (W ⟨w5.heap.size,0,X⟩) N N))
    (first|exact HEB.out _ hb6|exact HEB.out _ hB0.drew|exact HEB.out _ hB0|simp[go_sem,HEB.out _ hb6])
    (first
     |(go_at_call 90;refine hsg.mono ?_;rintro e w6 ⟨rfl,hb6'⟩;have hb6:=hB0.drew.trans (hb6'.mono hB0.drew.size);have hA6:=HAd.out _ hb6;have f0:=hA6.row.cell hkN;have f1:=hA6.row.frozen k;have HA7:=(show O _ from hA6.put);clear hA6))
   go_wp2_with fail
   go_roundw
   case rel=>exact⟨k+1,by omega,by go_num,HA7⟩
   case measure=>simp[intOf];omega
  .obtain rfl:k=N:=by omega
   obtain⟨w7,hput,hm7,hg7⟩:=HPut.out wr hbr (J #[Y lo pn lc,Y no nn nc,Y (W ⟨w5.heap.size,0,X⟩) k k]);obtain⟨_,_,_,z5⟩:=HSB.out wr hbr;have htw:=HTwo.out wr hbr;have hsk:Sk bs bl wr w7:=Sk.grown hg7 (.inl rfl);have hkr:=hk4.trans (hA.bel.mono (by have:=hb4.size;have:=hb3.size;simp at *;omega));have hst4:=H4.out _ hkr;have HFin:O (∀w8,w8=((w7.setCell ⟨w.heap.size,0,X⟩ (Y lo pn lc)).setCell ⟨w.heap.size,1,X⟩ (Y no nn nc)).setCell ⟨w.heap.size,2,X⟩ (Y (W ⟨w5.heap.size,0,X⟩) k k)->Sk bs bl w w8/\SvOk Pz w0 w8 B bs bl (n+1) (Y ao vn ac) (Y ro rn rc) (Y po pn pc) (Y fo fn fc) m ps l ho hc/\Al Pz w8 m ps l code (J #[Y lo pn lc,Y no nn nc,Y (W ⟨w5.heap.size,0,X⟩) k k])):=fun w8 e8=>by
    obtain⟨_,⟨y0,y1,y2⟩,_,_,_⟩:=id hst4;have y0':=hsk.cell htw y0;have y1':=hsk.cell htw y1;have y2':=hsk.cell htw y2;have y1a:(w7.setCell ⟨w.heap.size,0,X⟩ (Y lo pn lc)).cell? ⟨w.heap.size,1,X⟩=W (Y X 0 0):=by simp[go_sem,y1']
    have y2a:((w7.setCell ⟨w.heap.size,0,X⟩ (Y lo pn lc)).setCell ⟨w.heap.size,1,X⟩ (Y no nn nc)).cell? ⟨w.heap.size,2,X⟩=W (Y X 0 0):=by simp[go_sem,y2']
    have s1:Sk bs bl w w8:=by
     rw[e8];exact((((Sk.of hbr).trans hsk).setNew (p:=⟨w.heap.size,0,X⟩) (qB _) _).setNew (p:=⟨w.heap.size,1,X⟩) (qB _) _).setNew (p:=⟨w.heap.size,2,X⟩) (qB _) _
    have hbk:∀i,i<w.heap.size->w8.heap[i]? = w7.heap[i]?:=fun i hi=>by
     rw[e8,RowKit.Below.heap_setCell _ _ _ _ (show i≠w.heap.size by omega),RowKit.Below.heap_setCell _ _ _ _ (show i≠w.heap.size by omega),RowKit.Below.heap_setCell _ _ _ _ (show i≠w.heap.size by omega)]
    have hso:Al Pz w8 m ps l code (J #[Y lo pn lc,Y no nn nc,Y (W ⟨w5.heap.size,0,X⟩) k k]):=by
     rw[e8];refine HStI.out _ lo no (W ⟨w5.heap.size,0,X⟩) lc nc k ?_ ?_ ?_ ?_ ?_ ?_ ?_ ?_
     .exact ((((HLt.out wr hA.bel).sk hsk htw).setBox y0' _).setBox y1a _).setBox y2a _
     .exact (((((HNv.out.1.below hA.bel)).sk hsk htw).setBox y0' _).setBox y1a _).setBox y2a _
     .exact (((hA.done.sk hsk htw).setBox y0' _).setBox y1a _).setBox y2a _
     .exact ((((((HLv.out.2.below hb4).below hA.bel).sk hsk htw).setCell _ _ _).setCell _ _ _).setCell _ _ _)
     .exact (((((HNv.out.2.1.below hA.bel).sk hsk htw).setCell _ _ _).setCell _ _ _).setCell _ _ _)
     .refine (((Ae.sk (fun a n c e=>?_) hsk htw).setCell _ _ _).setCell _ _ _).setCell _ _ _;injection e with e _ _;injection e with e;subst e;obtain⟨cs,hcs,_⟩:=hA.row;exact⟨cs,(0,0),hcs⟩
     .exact HNv.out.2.2
     .intro a e;injection e with e;subst e;exact HUp.out _ hb14.size
    refine⟨s1,HPN.out w8 _ s1 ?_ (hm7.kept (hbk bs hbs)) hso,hso⟩;rw[hbk bl hbl,hg7.block bl (qE hbl hbr.size) (by intro e;injection e with e;exact hne e.symm),hbr.block bl hbl]
   obtain⟨_,⟨y0,y1,y2⟩,y3,y4,y5⟩:=id hst4;have v0:=hsk.cell htw y0;have v1:=hsk.cell htw y1;have v2:=hsk.cell htw y2;have u0:=hsk.cell htw e0;have u1:=hsk.cell htw e1;have u2:=hsk.cell htw e2;have z7:=hsk.cell htw z5;have g0:w7.frozen? ⟨w.heap.size,0,X⟩=false:=(World.frozen?_of_block (hg7.block w.heap.size hst4.1 (by intro e;injection e with e;omega))).trans y3;have g1:w7.frozen? ⟨w.heap.size,1,X⟩=false:=(World.frozen?_of_block (hg7.block w.heap.size hst4.1 (by intro e;injection e with e;omega))).trans y4;have g2:w7.frozen? ⟨w.heap.size,2,X⟩=false:=(World.frozen?_of_block (hg7.block w.heap.size hst4.1 (by intro e;injection e with e;omega))).trans y5;clear HA hA hst4 hsk htw hm7 hg7 hkr HSg HLe HNe HCl HSB HPut HTwo H4 HPN HLt HNv HStI HS0;go_wp2_with fail
   go_region_held3 (fun w'=>w'.cell? ⟨B,5,X⟩=W (.map (W bs))/\w'.cell? ⟨w5.heap.size+1,0,X⟩=W (Y lo pn lc)/\w'.cell? ⟨w5.heap.size+1,1,X⟩=W (Y no nn nc)/\w'.cell? ⟨w5.heap.size+1,2,X⟩=W (Y (W ⟨w5.heap.size,0,X⟩) k k))
    (first|exact⟨z5,e0,e1,e2⟩|exact⟨z7,u0,u1,u2⟩)
    (fail)
   go_wp2_with fail
   obtain⟨r1,r2,r3⟩:=HFin.out _ rfl;refine bodyPost_ret (v:=H #[J #[Y lo pn lc,Y no nn nc,Y (W ⟨w5.heap.size,0,X⟩) k k],.int V 0]) ?_ rfl ⟨r1,r2,.inl ⟨HW.out,lo,lc,no,nc,W ⟨w5.heap.size,0,X⟩,k,rfl,r3⟩⟩;simp[results,Tryz.results61,go_sem,v0,v1,v2]
theorem Jh(w0 w:Q)(B bs bl n:Nat)(va vr pv fv:L)(m:Mo)(ps:List (List (Int×Int)))(l:List (Int×Int))(ho:Option Addr)(hc:Nat)(code:Int)(hI:-9223372036854775808<=code/\code<=9223372036854775807)(hB:0<w0.heap.size)(hT:AH w0)(hV:TaskV w0 va vr pv fv m ps l)(hk:Ad m ps l=0)(hS:SvOk Pz w0 w B bs bl n va vr pv fv m ps l ho hc)(hn:n<1000000000000) :
  C qA 61 #[G (W ⟨B,0,X⟩),.int V code] w (EF Pz w0 w B bs bl n va vr pv fv m ps l ho hc code):=by
 obtain⟨f,hf,hfs⟩:=hS.st;have hm0:=(Ck (BX hk).1).1;cases hv:f (.int V code)with
 |some v=>exact Uu w0 w B bs bl n va vr pv fv m ps l ho hc code hI hm0 hS f hf hfs v hv
 |none=>
  by_cases hcr:0<=code/\code<AK m.vars m.vars.length
  .exact Uv w0 w B bs bl n va vr pv fv m ps l ho hc code hI hB hT hV hk hS hn f hf hfs hv hcr
  .exact Uw w0 w B bs bl n va vr pv fv m ps l ho hc code hI hB hT hV hk hS f hf hv (by rw[Na hm0 hcr];decide)
theorem LV:laidOutB qA=true:=by kernel_rfl
theorem Tt:(193:TypeId)<qA.types.size:=of_decide_eq_true (by kernel_rfl)
theorem Gf:Keyed qA 193:=Keyed.of_law (deep_law_laid LV (m:=3) (by omega) Tt (by kernel_rfl) (by rw[Tryz.underlying193]))
theorem NA:∃d,qA.types.size=d+2:=⟨qA.types.size-2,by have h:2<=qA.types.size:=of_decide_eq_true (by kernel_rfl);omega⟩
theorem RB:qA.keyType 193=true:=by kernel_rfl
theorem Kf:qA.cellsOf 193=8:=by kernel_rfl
theorem Oq:qA.cellsOf 191=6:=by kernel_rfl
theorem Ot:qA.cellsOf 4=1:=by kernel_rfl
theorem Ke:qA.cellsOf 3=1:=by kernel_rfl
theorem RA(y0 y1 y2 y3 y4 y5:Bool){c s:Int}(hc:-9223372036854775808<=c/\c<=9223372036854775807)(hs:-9223372036854775808<=s/\s<=9223372036854775807) :
  ∃kl,keyOf qA 193 (J #[F y0,.bool y1,.bool y2,.bool y3,.bool y4,.bool y5,.int V c,.int V s])=W kl:=by
 obtain⟨d,hd⟩:=NA;have hwc:(Lit.int .i64 c).wf=true:=WalkArith.wf_i64 (by omega);have hws:(Lit.int .i64 s).wf=true:=WalkArith.wf_i64 (by omega);unfold keyOf;rw[Tryz.underlying193];simp only[RB,Value.formed,Tryz.underlying193,Kf,hd];simp[Program.keyLits,Tryz.underlying193,Tryz.underlying191,Tryz.underlying4,Tryz.underlying3,Kf,Oq,Ot,Ke,Value.cells,hwc,hws,List.range,List.range.loop]
theorem Uf{x:List Bool}(h:x.length<=6):(six x).length=6:=by simp[six];omega
theorem Ue{z:List Bool}(h:z.length=6):∃y0 y1 y2 y3 y4 y5,z=[y0,y1,y2,y3,y4,y5]:=by
 match z,h with
 |[a,b,c,d,e,f],_=>exact⟨a,b,c,d,e,f,rfl⟩
theorem US(w:Q)(g:Nat)(cs:Array L):w.grownBy (w.setRow g cs) (W g):=by
 refine⟨rfl,rfl,rfl,by simp[World.setRow],fun k _ hk=>?_⟩;simp only[World.setRow,qR];rw[if_neg (fun e=>hk (by rw[e]))]
theorem LJ:(qA.info? 4).map (·.size)=W 1:=by kernel_rfl
theorem PL(w:Q)(g:Nat)(lo:Option Addr)(pn lc:Nat)(x:List Bool)(c s:Int)(t ty:TypeId)(hx:BoolsV w (Y lo pn lc) x)(hl:x.length=pn)(h6:pn<=6)(hg:w.heap[g]? = W (U #[F K,.bool K,.bool K,.bool K,.bool K,.bool K,.int V c,.int V s] t (0,0))) :
  ∃w' y0 y1 y2 y3 y4 y5,(Builtin.copy_ #[111,111] ty #[Y (W ⟨g,0,X⟩) 6 6,Y lo pn lc]).run qA w=.ok (goInt pn) w'/\six x=[y0,y1,y2,y3,y4,y5]/\w'.heap[g]? = W (U #[F y0,.bool y1,.bool y2,.bool y3,.bool y4,.bool y5,.int V c,.int V s] t (0,0))/\w.grownBy w' (W g):=by
 obtain⟨y0,y1,y2,y3,y4,y5,hy⟩:=Ue (Uf (x:=x) (by omega));rcases Nat.eq_zero_or_pos pn with h0|h0
 .subst h0;have hx0:x=[]:=List.length_eq_zero_iff.1 hl;subst hx0;have e:[y0,y1,y2,y3,y4,y5]=[K,K,K,K,K,K]:=by rw[<-hy];rfl
  simp only[List.cons.injEq,and_true]at e;obtain⟨rfl,rfl,rfl,rfl,rfl,rfl⟩:=e;exact⟨w,_,_,_,_,_,_,run_copy_none w _ _ _ 4 _ _ _ _ _ _ Tryz.underlying111 LJ (by simp),hy,hg,⟨rfl,rfl,rfl,qB _,fun _ _ _=>rfl⟩⟩
 .obtain ⟨ao,cap,e1,hx⟩:=hx;injection e1 with e1 e2 e3;subst e1;obtain⟨b,off,rfl,hb,hat⟩:=hx (by intro e;rw[e]at hl;simp at hl;omega);have hrun:=run_copy_row (P:=qA) w 111 111 ty 4 g 0 6 6 ⟨b,off,X⟩ pn lc _ t (x.map Value.bool) Tryz.underlying111 LJ hg (by rw[qO,hl];exact(Nat.min_eq_left h6).symm)
   (fun j v hv=>by
    rw[List.getElem?_map]at hv;cases hxj:x[j]? with
    |none=>rw[hxj]at hv;simp at hv
    |some u=>
     rw[hxj]at hv;have hj:j<x.length:=(List.getElem?_eq_some_iff.1 hxj).1;have:=hat j hj;rw[add_plain,this];rw[qC,hxj];simpa using hv) (by simp;omega) (fun v hv=>by
    simp only[List.mem_map]at hv;obtain⟨u,_,rfl⟩:=hv;rfl)
  rw[qO,hl]at hrun;refine⟨_,y0,y1,y2,y3,y4,y5,hrun,hy,?_,US _ _ _⟩;rw[setRow_heap w g _ _ t (0,0) hg];congr 2
  have e6:(six x).map Value.bool=[.bool y0,.bool y1,.bool y2,.bool y3,.bool y4,.bool y5]:=by rw[hy];rfl
  have e7:x.map Value.bool++List.drop pn [Value.bool K,.bool K,.bool K,.bool K,.bool K,.bool K,.int V c,.int V s]=(six x).map Value.bool++[.int V c,.int V s]:=by
   unfold six;rw[List.map_append,List.map_replicate,qZ,hl];congr 1
   have:pn=1\/pn=2\/pn=3\/pn=4\/pn=5\/pn=6:=by omega
   rcases this with rfl|rfl|rfl|rfl|rfl|rfl<;>rfl
  simp only[List.take_zero,List.nil_append,qW];rw[e7,e6];rfl
open Go
def BL(S:List (Int×Int))(s:Int×Int):List (Int×Int):=if s∈S then S else S++[s]
def AG(S l:List (Int×Int)):List (Int×Int):=l.foldl BL S
theorem MP(S:List (Int×Int))(s:Int×Int):S <+: BL S s:=by
 unfold BL;split
 .exact zX _
 .exact List.prefix_append _ _
theorem MO(S:List (Int×Int))(s:Int×Int):s∈BL S s:=by
 unfold BL;split
 .assumption
 .exact List.mem_append_right _ (vI.2 rfl)
theorem JI{S:List (Int×Int)}{s x:Int×Int}:x∈BL S s↔x∈S\/x=s:=by
 unfold BL;split
 .constructor
  .exact Or.inl
  .rintro (h|rfl)<;>assumption
 .rw[List.mem_append,vI]
theorem TE{S:List (Int×Int)}(h:S.Nodup)(s:Int×Int):(BL S s).Nodup:=by
 unfold BL;split
 .exact h
 .next hs=>
  refine List.nodup_append.2 ⟨h,by simp,fun a ha b hb=>?_⟩;rw[vI]at hb;subst hb;exact fun e=>hs (e▸ha)
theorem TD(S:List (Int×Int))(s:Int×Int):S.length<=(BL S s).length/\(BL S s).length<=S.length+1:=by
 unfold BL;split
 .omega
 .rw[qF,vU];omega
theorem JL(S:List (Int×Int)):AG S []=S:=rfl
theorem JK(S:List (Int×Int))(s:Int×Int)(l:List (Int×Int)):AG S (s::l)=AG (BL S s) l:=rfl
theorem TH(S l:List (Int×Int))(s:Int×Int):AG S (l++[s])=BL (AG S l) s:=by
 unfold AG;rw[jZ];rfl
theorem MQ(l:List (Int×Int)):∀S,S <+: AG S l:=by
 induction l with
 |nil=>exact fun S=>zX _
 |cons s l ih=>exact fun S=>(MP S s).trans (ih _)
theorem EX(l:List (Int×Int)):∀(S:List (Int×Int)) (x:Int×Int),x∈AG S l↔x∈S\/x∈l:=by
 induction l with
 |nil=>intro S x;simp[JL]
 |cons s l ih=>
  intro S x;rw[JK,ih,JI,List.mem_cons,or_assoc]
theorem JM(l:List (Int×Int)):∀S:List (Int×Int),S.Nodup->(AG S l).Nodup:=by
 induction l with
 |nil=>exact fun S h=>h
 |cons s l ih=>exact fun S h=>ih _ (TE h s)
theorem Gx(l:List (Int×Int)):∀S:List (Int×Int),S.length<=(AG S l).length/\(AG S l).length<=S.length+l.length:=by
 induction l with
 |nil=>intro S;rw[JL];simp
 |cons s l ih=>
  intro S;have h1:=TD S s;have h2:=ih (BL S s);rw[JK,qV];omega
theorem Gb{S T:List (Int×Int)}(h:S <+: T){s:Int×Int}(hs:s∈S):T.idxOf s=S.idxOf s:=by
 obtain⟨R,rfl⟩:=h;rw[xP,if_pos hs]
theorem MN{S:List (Int×Int)}{s:Int×Int}(hs:s∉S):(BL S s).idxOf s=S.length:=by
 unfold BL;rw[if_neg hs,xP,if_neg hs];simp
section
variable(beg:List (Int×Int))(bh:Int×Int -> List (Int×Int))
def exS:Nat->List (Int×Int)
 |0=>AG [] beg
 |k+1=>AG (exS k) (bh ((exS k).getD k (0,0)))
theorem Kz(k:Nat):exS beg bh k <+: exS beg bh (k+1):=MQ _ _
theorem Do{k j:Nat}(h:k<=j):exS beg bh k <+: exS beg bh j:=by
 induction h with
 |refl=>exact zX _
 |step _ ih=>exact ih.trans (Kz beg bh _)
theorem Ky(k:Nat):(exS beg bh k).Nodup:=by
 induction k with
 |zero=>exact JM _ _ List.nodup_nil
 |succ k ih=>exact JM _ _ ih
theorem Po{k j p:Nat}(h:k<=j)(hp:p<(exS beg bh k).length):(exS beg bh j).getD p (0,0)=(exS beg bh k).getD p (0,0):=by
 obtain⟨R,hR⟩:=Do beg bh h;rw[<-hR,qC,qC,qX hp]
end
theorem Tu:(82:TypeId)<qA.types.size:=of_decide_eq_true (by kernel_rfl)
theorem Gg:Keyed qA 82:=Keyed.of_law (deep_law_laid LV (m:=3) (by omega) Tu (by kernel_rfl) (by rw[Tryz.underlying82]))
theorem RC:qA.keyType 82=true:=by kernel_rfl
theorem Kh:qA.cellsOf 82=2:=by kernel_rfl
def Ea(p:Int×Int):Value:=J #[E V p.1,.int V p.2]
def Co(p:Int×Int):Prop:=(-9223372036854775808<=p.1/\p.1<=9223372036854775807)/\(-9223372036854775808<=p.2/\p.2<=9223372036854775807)
def Fw(p:Int×Int):Lit:=.string (keyBytes [.int V p.1,.int V p.2])
theorem Fi{p:Int×Int}(h:Co p):keyOf qA 82 (Ea p)=W (Fw p):=by
 obtain⟨d,hd⟩:=NA;have hwc:(Lit.int .i64 p.1).wf=true:=WalkArith.wf_i64 (by have:=h.1;omega);have hws:(Lit.int .i64 p.2).wf=true:=WalkArith.wf_i64 (by have:=h.2;omega);unfold keyOf Ea Fw;rw[Tryz.underlying82];simp only[RC,Value.formed,Tryz.underlying82,Kh,hd];simp[Program.keyLits,Tryz.underlying82,Tryz.underlying3,Kh,Ke,Value.cells,hwc,hws,List.range]
theorem Um{p q:Int×Int}(hp:Co p)(hq:Co q)(h:Fw p=Fw q):p=q:=by
 have e:=Gg.inj (Fi hp) (h▸Fi hq);simp only[Ea,Value.agg.injEq]at e;simp at e;exact Prod.ext e.1 e.2
def Bp(w:Q)(b:Nat)(S:List (Int×Int)):Prop:=
 ∃f,MapIs w 82 b S.length f/\∀p,Co p->f (Fw p)=if p∈S then W (.int V (S.idxOf p:Nat))else X
theorem Bp.new{w:Q}{b:Nat}(h:w.heap[b]? = W (.map #[] 0)):Bp w b []:=⟨_,MapIs.new _ h,fun p _=>by simp⟩
theorem Bp.kept{w w':Q}{b:Nat}{S:List (Int×Int)}(h:Bp w b S)(e:w'.heap[b]? = w.heap[b]?):Bp w' b S:=by
 obtain⟨f,h1,h2⟩:=h;exact⟨f,h1.kept e,h2⟩
theorem Bp.look{w:Q}{b:Nat}{S:List (Int×Int)}(h:Bp w b S){p:Int×Int}(hp:Co p):(Instr.lookup 76 (.map (W b)) (Ea p) true).run qA w=.ok (H #[if p∈S then .int V (S.idxOf p:Nat)else .int V 0,.bool (decide (p∈S))]) w:=by
 obtain⟨f,h1,h2⟩:=h;rw[h1.look Gg Tryz.underlying76 (z:=.int V 0) (DU w) (Fi hp),h2 p hp];split<;>simp[*]
theorem Bp.put{w:Q}{b:Nat}{S:List (Int×Int)}(h:Bp w b S){p:Int×Int}(hp:Co p)(hS:p∉S)(hn:S.length<maxLen):∃w',(Instr.mapUpdate 76 (.map (W b)) (Ea p) (.int V (S.length:Nat))).run qA w=.ok () w'/\Bp w' b (BL S p)/\w.grownBy w' (W b):=by
 obtain⟨f,h1,h2⟩:=h;obtain⟨w',hr,hm,hg⟩:=h1.put Gg Tryz.underlying76 hn (val:=.int V (S.length:Nat)) (Fi hp) (Gg.key (Fi hp));have e:BL S p=S++[p]:=by unfold BL;rw[if_neg hS]
 refine⟨w',hr,⟨_,by rw[e,qF,vU];exact hm,fun q hq=>?_⟩,hg⟩;by_cases hqp:q=p
 .subst hqp;rw[GW,if_pos (MO S q),MN hS]
 .rw[GU (fun e=>hqp (Um hq hp e)),h2 q hq];by_cases hqS:q∈S
  .rw[if_pos hqS,if_pos (JI.2 (.inl hqS)),Gb (MP S p) hqS]
  .rw[if_neg hqS,if_neg (fun e=>(JI.1 e).elim hqS hqp)]
def atB(sv nv tv:L)(init many:Int)(lm:Nat):Obj:=U #[sv,.int V init,nv,tv,.int V many,.map (W lm)] 78 (0,0)
def LsAt(w:Q)(base:Nat)(nv tv:L)(N:List (List Int)):Prop:=
 ∃us:List L,w.ownsRow base 43 1 nv N.length us/\us.length=N.length/\∀i,i<N.length->∃ao c,us.getD i (Y X 0 0)=.slice ao (N.getD i []).length c/\IntsV w (.slice ao (N.getD i []).length c) (N.getD i [])/\Ae w (.slice ao (N.getD i []).length c) 3/\∀a,ao=W a->tv.ownBlock≠W a.block/\base<=a.block
structure AtX(w:Q)(base A lm:Nat)(S:List (Int×Int))(N:List (List Int))(T:List Int)(init many:Int)(sv nv tv:L):Prop where
 box:w.heap[A]? = W (atB sv nv tv init many lm)
 bA:base<=A
 bl:base<=lm
 lies:Bp w lm S
 sp:SpO w base sv S
 nx:LsAt w base nv tv N
 st:w.ownsRow base 3 1 tv T.length (AB T)
section
variable{w w':Q}{base A lm:Nat}{S:List (Int×Int)}{N:List (List Int)}{T:List Int}{init many:Int}{sv nv tv:L}
theorem LsAt.chg{Z:Nat->Prop}(h:LsAt w base nv tv N)(hs:Chg Z w w')(h1:∀i,Z i->nv.ownBlock≠W i/\∀ao:Option Addr,∀a,ao=W a->i=a.block->tv.ownBlock≠W i->¬TyB w i 3):LsAt w' base nv tv N:=by
 obtain⟨us,h2,h3,h4⟩:=h;refine⟨us,BT h2 hs (fun g e z=>(h1 g z).1 e),h3,fun i hi=>?_⟩;obtain⟨ao,c,e1,e2,e3,e4⟩:=h4 i hi;have hz:∀a,ao=W a->¬Z a.block:=fun a e z=>(h1 _ z).2 ao a e rfl (e4 a e).1 (by subst e;exact e3.ty);exact⟨ao,c,e1,e2.chg hs hz,e3.chg hs hz,e4⟩
theorem AtX.ty(h:AtX w base A lm S N T init many sv nv tv):TyB w A 78:=⟨_,_,h.box⟩
theorem Bp.isMap{b:Nat}(h:Bp w b S):∃es c,w.heap[b]? = W (.map es c):=by
 obtain⟨f,h1,_⟩:=h;exact h1.isMap
theorem Bp.lt{b:Nat}(h:Bp w b S):b<w.heap.size:=by
 obtain⟨es,c,h⟩:=h.isMap;exact(qG.1 h).1
theorem AtX.lt(h:AtX w base A lm S N T init many sv nv tv):A<w.heap.size:=h.ty.lt
theorem AtX.base_le(h:AtX w base A lm S N T init many sv nv tv):base<=w.heap.size:=by have:=h.lt;have:=h.bA;omega
theorem AtX.chg{Z:Nat->Prop}(h:AtX w base A lm S N T init many sv nv tv)(hs:Chg Z w w')(hz:∀i,Z i->i≠A/\i≠lm/\¬TyB w i 82/\¬TyB w i 43/\¬TyB w i 3):AtX w' base A lm S N T init many sv nv tv:=by
 have zA:¬Z A:=fun z=>(hz _ z).1 rfl;have zl:¬Z lm:=fun z=>(hz _ z).2.1 rfl;obtain⟨us,n1,n2,n3⟩:=id h.nx;refine⟨(hs.block A h.lt zA).trans h.box,h.bA,h.bl,h.lies.kept (hs.block lm h.lies.lt zl),BT h.sp hs (fun g e z=>(hz g z).2.2.1 (Au h.sp e).2),h.nx.chg hs fun i z=>⟨fun e=>(hz i z).2.2.2.1 (Au n1 e).2,fun _ _ _ _ _=>(hz i z).2.2.2.2⟩,BT h.st hs (fun g e z=>(hz g z).2.2.2.2 (Au h.st e).2)⟩
theorem AtX.below(h:AtX w base A lm S N T init many sv nv tv)(hb:M w.heap.size w w'):AtX w' base A lm S N T init many sv nv tv:=h.chg (Chg.of (Z:=fun _=>False) hb) fun _ z=>z.elim
theorem AtX.sk{bs bl':Nat}(h:AtX w base A lm S N T init many sv nv tv)(hs:Sk bs bl' w w')(hm:Ce w bs bl')(h1:lm≠bs)(h2:lm≠bl'):AtX w' base A lm S N T init many sv nv tv:=by
 obtain⟨⟨es,c,e1⟩,⟨es',c',e2⟩⟩:=hm;refine h.chg hs.chg fun i z=>?_;have hno:∀t,¬TyB w i t:=fun t ht=>by
  rcases z with rfl|rfl
  .exact ht.no_map e1
  .exact ht.no_map e2
 refine⟨fun e=>hno _ (e▸h.ty),fun e=>?_,hno _,hno _,hno _⟩;rcases z with rfl|rfl
 .exact h1 e.symm
 .exact h2 e.symm
def atZ(A lm:Nat)(sv:L):Nat->Prop:=fun i=>i=A\/i=lm\/sv.ownBlock=W i
theorem AtX.put{S':List (Int×Int)}{sv':L}(h:AtX w base A lm S N T init many sv nv tv)(hs:Chg (atZ A lm sv) w w')(hbx:w'.heap[A]? = W (atB sv' nv tv init many lm))(hl:Bp w' lm S')(hsp:SpO w' base sv' S'):AtX w' base A lm S' N T init many sv' nv tv:=by
 obtain⟨es,c,em⟩:=h.lies.isMap;have hno:∀i t,atZ A lm sv i->TyB w i t->t=78\/t=82:=fun i t z ht=>by
  rcases z with rfl|rfl|e
  .exact .inl (ht.eq h.ty)
  .exact absurd em ht.no_map
  .exact .inr (ht.eq (Au h.sp e).2)
 have hni:∀i,atZ A lm sv i->¬TyB w i 3:=fun i z ht=>by
  rcases hno i _ z ht with e|e
  .exact absurd e (by decide)
  .exact absurd e (by decide)
 have hnl:∀i,atZ A lm sv i->¬TyB w i 43:=fun i z ht=>by
  rcases hno i _ z ht with e|e
  .exact absurd e (by decide)
  .exact absurd e (by decide)
 obtain⟨us,n1,n2,n3⟩:=id h.nx;exact⟨hbx,h.bA,h.bl,hl,hsp,h.nx.chg hs fun i z=>⟨fun e=>hnl i z (Au n1 e).2,fun _ _ _ _ _=>hni i z⟩,BT h.st hs (fun g e z=>hni g z (Au h.st e).2)⟩
theorem OH(w:Q)(hb:w.heap[A]? = W (atB sv nv tv init many lm))(v:L):(w.setCell ⟨A,0,X⟩ v).heap[A]? = W (atB v nv tv init many lm):=by
 unfold atB at *;simp[World.setCell,qR,hb]
theorem OI(w:Q)(hb:w.heap[A]? = W (atB sv nv tv init many lm))(v:L):(w.setCell ⟨A,2,X⟩ v).heap[A]? = W (atB sv v tv init many lm):=by
 unfold atB at *;simp[World.setCell,qR,hb]
theorem OJ(w:Q)(hb:w.heap[A]? = W (atB sv nv tv init many lm))(v:L):(w.setCell ⟨A,3,X⟩ v).heap[A]? = W (atB sv nv v init many lm):=by
 unfold atB at *;simp[World.setCell,qR,hb]
theorem Cz(hb:w.heap[A]? = W (atB sv nv tv init many lm)):w.cell? ⟨A,0,X⟩=W sv/\w.cell? ⟨A,1,X⟩=W (.int V init)/\w.cell? ⟨A,2,X⟩=W nv/\w.cell? ⟨A,3,X⟩=W tv/\w.cell? ⟨A,4,X⟩=W (.int V many)/\w.cell? ⟨A,5,X⟩=W (.map (W lm)):=by
 unfold atB at hb;refine⟨?_,?_,?_,?_,?_,?_⟩<;>simp[World.cell?,hb]
theorem Hx(hb:w.heap[A]? = W (atB sv nv tv init many lm))(i:Nat):w.frozen? ⟨A,i,X⟩=false:=by
 unfold atB at hb;simp[World.frozen?,hb]
end
theorem TF(S a b:List (Int×Int)):AG S (a++b)=AG (AG S a) b:=by
 unfold AG;rw[jZ]
theorem Gy{S l:List (Int×Int)}{k:Nat}(h:k<l.length):AG S (l.take (k+1))=BL (AG S (l.take k)) (l.getD k (0,0)):=by
 rw[List.take_add_one,qH h];simp only[Option.toList_some];rw[TH];simp[qC,h]
theorem TG{S l:List (Int×Int)}{k:Nat}(h:k<l.length):(AG S l).idxOf (l.getD k (0,0))=(BL (AG S (l.take k)) (l.getD k (0,0))).idxOf (l.getD k (0,0)):=by
 rw[<-Gy h];refine Gb ?_ ?_
 .have e:AG S l=AG (AG S (l.take (k+1))) (l.drop (k+1)):=by rw[<-TF,List.take_append_drop]
  rw[e];exact MQ _ _
 .rw[Gy h];exact MO _ _
theorem JJ{S:List (Int×Int)}{p:Int×Int}(h:p∈S):BL S p=S:=by unfold BL;rw[if_pos h]
theorem Gw{S:List (Int×Int)}{p:Int×Int}(h:p∉S):BL S p=S++[p]:=by unfold BL;rw[if_neg h]
def Cl(S l:List (Int×Int)):List Int:=(List.range l.length).map fun(j:Nat)=>(((AG S l).idxOf (l.getD j (0,0)):Nat):Int)
theorem Gv(S l:List (Int×Int)):(Cl S l).length=l.length:=by simp[Cl]
theorem MM{S l:List (Int×Int)}{j:Nat}(h:j<l.length):(Cl S l).getD j 0=(((AG S l).idxOf (l.getD j (0,0)):Nat):Int):=by simp[Cl,qC,h]
theorem SpV.chg{Z:Nat->Prop}{w w':Q}{ao:Option Addr}{n c:Nat}{x:List (Int×Int)}(h:SpV w (Y ao n c) x)(hs:Chg Z w w')(hz:∀a,ao=W a->¬Z a.block):SpV w' (Y ao n c) x:=by
 obtain⟨ao',cap,e,h⟩:=h;injection e with e1 e2 e3;subst e1 e2 e3;refine⟨ao,c,rfl,fun hne=>?_⟩;obtain⟨b,off,rfl,hlt,hat⟩:=h hne;exact⟨b,off,rfl,qE hlt hs.size,fun i hi=>⟨hs.cell (hat i hi).1 (hz ⟨b,off,X⟩ rfl),hs.cell (hat i hi).2 (hz ⟨b,off,X⟩ rfl)⟩⟩
theorem SpV.get{w:Q}{ao:Option Addr}{n c:Nat}{x:List (Int×Int)}(h:SpV w (Y ao n c) x){i:Nat}(hi:i<x.length):∃b off,ao=W ⟨b,off,X⟩/\b<w.heap.size/\w.cell? ⟨b,off+i*2,X⟩=W (.int V (x.getD i (0,0)).1)/\w.cell? ⟨b,off+i*2+1,X⟩=W (.int V (x.getD i (0,0)).2):=by
 obtain⟨ao',cap,e,h⟩:=h;injection e with e1 e2 e3;subst e1;obtain⟨b,off,rfl,hlt,hat⟩:=h (by rintro rfl;simp at hi);exact⟨b,off,rfl,hlt,(hat i hi).1,(hat i hi).2⟩
structure PlB(w wr:Q)(base A lm R n:Nat)(SL SS:List (Int×Int))(sv svb svk nv tv:L)(init many:Int)(rf:Nat->L):Prop where
 box:wr.heap[A]? = W (atB svb nv tv init many lm)
 lies:Bp wr lm SL
 sp:SpO wr base svk SS
 row:wr.rowIs R 3 n rf
 chg:Chg (atZ A lm sv) w wr
 own:svk.ownBlock=sv.ownBlock\/∃g,svk.ownBlock=W g/\w.heap.size<=g
 hR:w.heap.size<=R
section
variable{w wr w':Q}{base A lm R n:Nat}{SL SS S':List (Int×Int)}{sv svb svk sv' nv tv:L}{init many:Int}{rf:Nat -> L}
theorem PlB.tyA(h:PlB w wr base A lm R n SL SS sv svb svk nv tv init many rf):TyB wr A 78:=⟨_,_,h.box⟩
theorem PlB.tyR(h:PlB w wr base A lm R n SL SS sv svb svk nv tv init many rf):TyB wr R 3:=by
 obtain⟨cs,hcs,_⟩:=h.row;exact⟨cs,(0,0),hcs⟩
theorem PlB.below(h:PlB w wr base A lm R n SL SS sv svb svk nv tv init many rf)(hb:M wr.heap.size wr w'):PlB w w' base A lm R n SL SS sv svb svk nv tv init many rf:=
 ⟨(hb.block A h.tyA.lt).trans h.box,h.lies.kept (hb.block lm h.lies.lt),h.sp.later hb (qB _),h.row.of_block (hb.block R h.tyR.lt),h.chg.trans (Chg.of hb),h.own,h.hR⟩
theorem PlB.map(h:PlB w wr base A lm R n SL SS sv svb svk nv tv init many rf)(hg:wr.grownBy w' (W lm))(hl:Bp w' lm S'):PlB w w' base A lm R n S' SS sv svb svk nv tv init many rf:=by
 obtain⟨es,c,em⟩:=h.lies.isMap;have hne:∀i t,TyB wr i t->W i≠W lm:=fun i t ht e=>by
  injection e with e;subst e;exact ht.no_map em
 have hb:∀i t,TyB wr i t->w'.heap[i]? = wr.heap[i]?:=fun i t ht=>hg.block i ht.lt (hne i t ht);refine⟨(hb A _ h.tyA).trans h.box,hl,BT h.sp (Chg.grown hg) (fun g e z=>hne g _ (Au h.sp e).2 z.symm),h.row.of_block (hb R _ h.tyR),h.chg.trans2 (Chg.grown hg) (fun i _ e=>?_),h.own,h.hR⟩;injection e with e;exact .inr (.inl e.symm)
theorem PlB.app(h:PlB w wr base A lm R n SL SS sv svb svk nv tv init many rf)(hg:wr.grownBy w' svk.ownBlock)(hs:SpO w' base sv' S')(ho:sv'.ownBlock=svk.ownBlock\/∃g,sv'.ownBlock=W g/\w.heap.size<=g):PlB w w' base A lm R n SL S' sv svb sv' nv tv init many rf:=by
 obtain⟨es,c,em⟩:=h.lies.isMap;have hne:∀i t,TyB wr i t->t≠82->W i≠svk.ownBlock:=fun i t ht h2 e=>h2 (ht.eq (Au h.sp e.symm).2);have hb:∀i t,TyB wr i t->t≠82->w'.heap[i]? = wr.heap[i]?:=fun i t ht h2=>hg.block i ht.lt (hne i t ht h2);refine⟨(hb A _ h.tyA (by decide)).trans h.box,h.lies.kept (hg.block lm h.lies.lt fun e=>(Au h.sp e.symm).2.no_map em),hs,h.row.of_block (hb R _ h.tyR (by decide)),h.chg.trans2 (Chg.grown hg) (fun i hi e=>?_),?_,h.hR⟩
 .rcases h.own with h1|⟨g,h1,h2⟩
  .exact .inr (.inr (h1▸e))
  .rw[h1]at e;injection e with e;omega
 .rcases ho with h1|h1
  .rw[h1];exact h.own
  .exact .inr h1
theorem PlB.setA(h:PlB w wr base A lm R n SL SS sv svb svk nv tv init many rf):PlB w (wr.setCell ⟨A,0,X⟩ svk) base A lm R n SL SS sv svk svk nv tv init many rf:=by
 obtain⟨es,c,em⟩:=h.lies.isMap;have hne:∀i t,TyB wr i t->t≠78->i≠A:=fun i t ht h2 e=>h2 (ht.eq (e▸h.tyA));refine⟨OH wr h.box svk,h.lies.kept (RowKit.Below.heap_setCell _ _ _ _ (fun e=>h.tyA.no_map (e▸em))),BT h.sp (Chg.setCell wr _ _) (fun g e=>hne g _ (Au h.sp e).2 (by decide)),h.row.of_block (RowKit.Below.heap_setCell _ _ _ _ (hne R _ h.tyR (by decide))),h.chg.trans2 (Chg.setCell wr _ _) (fun i _ e=>.inl e),h.own,h.hR⟩
theorem PlB.setR(h:PlB w wr base A lm R n SL SS sv svb svk nv tv init many rf)(k:Nat)(v:L):PlB w (wr.setCell ⟨R,k,X⟩ v) base A lm R n SL SS sv svb svk nv tv init many (fun j=>if j=k then v else rf j):=by
 obtain⟨es,c,em⟩:=h.lies.isMap;have hne:∀i t,TyB wr i t->t≠3->i≠R:=fun i t ht h2 e=>h2 (ht.eq (e▸h.tyR));refine⟨(RowKit.Below.heap_setCell _ _ _ _ (hne A _ h.tyA (by decide))).trans h.box,h.lies.kept (RowKit.Below.heap_setCell _ _ _ _ (fun e=>h.tyR.no_map (e▸em))),BT h.sp (Chg.setCell wr _ _) (fun g e=>hne g _ (Au h.sp e).2 (by decide)),h.row.set k v,h.chg.trans2 (Chg.setCell wr _ _) (fun i hi e=>?_),h.own,h.hR⟩;have:=h.hR;simp only at e;omega
end
def KH(w:Q)(base A lm:Nat)(S:List (Int×Int))(N:List (List Int))(T:List Int)(init many:Int)(sv nv tv:L)(l:List (Int×Int))(e:Ending)(w':Q):Prop:=
 e=I (Y (W ⟨w.heap.size,0,X⟩) l.length l.length)/\∃sv',AtX w' base A lm (AG S l) N T init many sv' nv tv/\IntsV w' (Y (W ⟨w.heap.size,0,X⟩) l.length l.length) (Cl S l)/\Ae w' (Y (W ⟨w.heap.size,0,X⟩) l.length l.length) 3/\Chg (atZ A lm sv) w w'/\(sv'.ownBlock=sv.ownBlock\/∃g,sv'.ownBlock=W g/\w.heap.size<=g)
theorem MU (w:Q) (base A lm:Nat) (S:List (Int × Int)) (N:List (List Int)) (T:List Int) (init many:Int) (sv nv tv:L) (l:List (Int × Int)) (so:Option Addr) (sc:Nat) (hX:AtX w base A lm S N T init many sv nv tv) (hl:SpV w (.slice so l.length sc) l) (hsep:∀ a,so=W a->¬ atZ A lm sv a.block) (hI:∀ j,j < l.length->Co (l.getD j (0,0))) (hz:S.length+l.length <= 1000000000) :
    C qA 18 #[G (W ⟨A,0,X⟩),.slice so l.length sc] w (KH w base A lm S N T init many sv nv tv l):=by
  obtain⟨n,hn⟩:∃n,l.length=n:=⟨_,rfl⟩;have HN:O (l.length=n):=hn;have HXt:O (AtX w base A lm S N T init many sv nv tv):=hX;have HI:O (∀j,j<n->Co (l.getD j (0,0))):=fun j hj=>hI j (by omega);have HLs:O (∀wr,Chg (atZ A lm sv) w wr->SpV wr (Y so n sc) l):=fun wr h=>by have:=hl.chg h hsep;rw[hn]at this;exact this
  have HSz:O (∀k,(AG S (l.take k)).length<=S.length+n):=fun k=>by
    have:=(Gx (l.take k) S).2;have h2:(l.take k).length<=l.length:=by rw[List.length_take];omega
    show _<=_;omega
  unfold KH;rw[hn];have hnz:S.length+n<=1000000000:=by omega
  clear hX hl hsep hI hz hn;have hmk:=run_make_row' (P:=qA) 43 3 (.int V 0) 8 Tryz.underlying43 Ba rfl .i64 .i64 n (by omega) (by omega);have HS0:O (∀W0,W0=w.alloc (U (madeCells #[E V 0] n) 3)->PlB w W0 base A lm w.heap.size n (AG S (l.take 0)) (AG S (l.take 0)) sv sv sv nv tv init many (fun j=>.int V (if j<0 then(((AG S l).idxOf (l.getD j (0,0)):Nat):Int)else 0))):=fun W0 e=>by
    subst e;have hb:M w.heap.size w (w.alloc (U (madeCells #[E V 0] n) 3)):=(qD _ _).alloc (qB _) _;have hx:=HXt.out.below hb;exact⟨hx.box,hx.lies,hx.sp,(World.rowIs_made w (.int V 0) n 3).congr (fun j _=>by simp),Chg.of hb,.inl rfl,qB _⟩
  go_enter Tryz.func18,Tryz.ntmps18;go_wp2_with fail
  go_loopw [15] (fun i wr=>∃k:Nat,k<=n/\i=.int V k/\∃svk,O (PlB w wr base A lm w.heap.size n (AG S (l.take k)) (AG S (l.take k)) sv svk svk nv tv init many (fun j=>.int V (if j<k then(((AG S l).idxOf (l.getD j (0,0)):Nat):Int)else 0)))) (fun i _=>n-(intOf i).toNat)
  case atStart=>exact⟨0,qJ _,rfl,sv,HS0.out _ rfl⟩
  case round=>
    obtain⟨k,hk,rfl,svk,HA⟩:=hrel;by_cases hlt:k<n
    . have hlt2:k<l.length:=by rw[HN.out];exact hlt
      obtain⟨b,off,rfl,hbl,c0,c1⟩:=(HLs.out wr HA.out.chg).get hlt2;have hki:(k:Int)<(n:Int):=by omega
      have hIk:=HI.out k hlt;have HT:=(show O _ from Gy (S:=S) hlt2);have HD:=(show O _ from TG (S:=S) hlt2);have hSz:=HSz.out k;have HRow:O (∀ix:Nat,(AG S l).idxOf (l.getD k (0,0))=ix->∀j:Nat,(if j=k then Value.int .i64 (ix:Nat)else .int V (if j<k then(((AG S l).idxOf (l.getD j (0,0)):Nat):Int)else 0))=.int V (if j<k+1 then(((AG S l).idxOf (l.getD j (0,0)):Nat):Int)else 0)):=fun ix e j=>by
        by_cases h:j=k
        . subst h
          rw[if_pos rfl,if_pos (qY _),e]
        . rw[if_neg h]
          by_cases h1:j<k
          . rw[if_pos h1,if_pos (by omega)]
          . rw[if_neg h1,if_neg (by omega)]
      generalize hSk:AG S (l.take k)=Sk at *;generalize hp:l.getD k (0,0)=p at *;obtain⟨x,y⟩:=p;simp only at c0 c1
      obtain⟨vo,vc,rfl⟩:=HA.out.sp.shape;have hal:M wr.heap.size wr (wr.alloc (U #[E V x,.int V y] 82)):=(qD _ _).alloc (qB _) _;have HAd:O (∀w2,M wr.heap.size wr w2->PlB w w2 base A lm w.heap.size n Sk Sk sv (.slice vo Sk.length vc) (.slice vo Sk.length vc) nv tv init many (fun j=>.int V (if j<k then(((AG S l).idxOf (l.getD j (0,0)):Nat):Int)else 0))):=fun w2 h=>HA.out.below h;obtain⟨q0,q1,q2,q3,q4,q5⟩:=Cz (HAd.out _ hal).box;have s0:(wr.alloc (U #[E V x,.int V y] 82)).cell? ⟨wr.heap.size,0,X⟩=W (.int V x):=by simp[go_sem]
      have s1:(wr.alloc (U #[E V x,.int V y] 82)).cell? ⟨wr.heap.size,1,X⟩=W (.int V y):=by simp[go_sem]
      have hlk:=(HAd.out _ hal.drew).lies.look hIk;unfold Ea at hlk;simp only at hlk;by_cases hmem:(x,y)∈Sk
      . rw [if_pos hmem,decide_eq_true hmem] at hlk
        have HV:O (((AG S l).idxOf (x,y):Nat)=Sk.idxOf (x,y)):=by show _=_;rw[HD.out,JJ hmem]
        have HT2:O (AG S (l.take (k+1))=Sk):=by show _=_;rw[HT.out,JJ hmem]
        generalize Sk.idxOf (x,y)=ix at *;generalize hW1:wr.alloc (U #[E V x,.int V y] 82)=W1 at *
        go_upto_region 5 with fail
        go_cut [8,9] (fun u8 u9 wx=>u8=.int V (ix:Nat)/\u9=.bool true/\wx=W1.drew)
        case first=>
          go_region_law (fail)
          all_goals go_wp2_with fail
          all_goals go_meet
          all_goals exact⟨rfl,rfl,rfl⟩
        case rest=>
          obtain⟨rfl,rfl,rfl⟩:=hcut;have hA6:=HAd.out _ hal.drew;have f0:=hA6.row.cell hlt;have f1:=hA6.row.frozen k;have HA7:=(show O _ from hA6.setR k (.int V (ix:Nat)));clear hA6 hlk;go_wp2_with fail
          go_roundw
          case rel=>
            refine⟨k+1,by omega,by go_num,.slice vo Sk.length vc,?_⟩;rw[HT2.out];have h8:=HA7.out;exact⟨h8.box,h8.lies,h8.sp,h8.row.congr (fun j _=>HRow.out ix HV.out j),h8.chg,h8.own,h8.hR⟩
          case measure=>simp[intOf];omega
      . rw [if_neg hmem,decide_eq_false hmem] at hlk
        have HV:O (((AG S l).idxOf (x,y):Nat)=Sk.length):=by show _=_;rw[HD.out,MN hmem]
        have HT2:O (AG S (l.take (k+1))=Sk++[(x,y)]):=by show _=_;rw[HT.out,Gw hmem]
        obtain⟨w2,hput,hl2,hg2⟩:=(HAd.out _ hal.drew.drew).lies.put hIk hmem (by unfold maxLen;omega);have hA2:=(HAd.out _ hal.drew.drew).map hg2 hl2;rw[Gw hmem]at hA2;have HA2:O (∀w3,M w2.heap.size w2 w3->PlB w w3 base A lm w.heap.size n (Sk++[(x,y)]) Sk sv (.slice vo Sk.length vc) (.slice vo Sk.length vc) nv tv init many (fun j=>.int V (if j<k then(((AG S l).idxOf (l.getD j (0,0)):Nat):Int)else 0))):=fun w3 h=>hA2.below h;have s2:w2.cell? ⟨wr.heap.size,0,X⟩=W (.int V x)/\w2.cell? ⟨wr.heap.size,1,X⟩=W (.int V y):=by
          have hne:W wr.heap.size≠W lm:=by
            have:=(HAd.out wr (qD _ _)).lies.lt;intro e;injection e with e;omega
          have hbk:=hg2.block wr.heap.size (World.block_lt_of_cell? _ _ s0) hne;exact⟨(World.cell?_of_block hbk).trans s0,(World.cell?_of_block hbk).trans s1⟩
        obtain⟨s20,s21⟩:=s2;unfold Ea at hput;simp only at hput;clear hl2 hg2 hA2;generalize hW1:wr.alloc (U #[E V x,.int V y] 82)=W1 at *
        go_upto_region 5 with fail
        go_cut [8,9] (fun u8 u9 wx=>u8=.int V 0/\u9=.bool K/\wx=W1.drew)
        case first=>
          go_region_law (fail)
          all_goals go_wp2_with fail
          all_goals go_meet
          all_goals exact⟨rfl,rfl,rfl⟩
        case rest=>
          obtain⟨rfl,rfl,rfl⟩:=hcut;go_upto_region 8 with fail
          go_cut [] (fun wx=>wx=w2)
          case first=>
            go_region_law (fail)
            all_goals go_wp2_with fail
            all_goals go_meet
            all_goals rfl
          case rest=>
            obtain rfl:=hcut;clear hput hlk;obtain⟨i0,hi,hz0,hz1,hz2⟩:=info_parts Ib;have hbA:M wc.heap.size wc (wc.drew.alloc (U #[E V x,.int V y] 82)):=((qD _ _).drew).alloc (qB _) _;have hown9:World.ownsRow (wc.drew.alloc (U #[E V x,.int V y] 82)) base 82 2 (.slice vo Sk.length vc) Sk.length (flat Sk):=(HA2.out _ hbA).sp;have hbase9:base<=(wc.drew.alloc (U #[E V x,.int V y] 82)).heap.size:=qI HXt.out.base_le (HA2.out _ hbA).chg.size;have HApp:O (∀g cap w9,World.ownsRow w9 base 82 2 (Y (W ⟨g,0,X⟩) (Sk.length+1) cap) (Sk.length+1) (flat Sk++[.int V x,.int V y])->(wc.drew.alloc (U #[E V x,.int V y] 82)).grownBy w9 (Value.slice vo Sk.length vc).ownBlock->((Value.slice vo Sk.length vc).ownBlock=W g\/g=(wc.drew.alloc (U #[E V x,.int V y] 82)).heap.size)->PlB w w9 base A lm w.heap.size n (Sk++[(x,y)]) (Sk++[(x,y)]) sv (.slice vo Sk.length vc) (Y (W ⟨g,0,X⟩) (Sk.length+1) cap) nv tv init many (fun j=>.int V (if j<k then(((AG S l).idxOf (l.getD j (0,0)):Nat):Int)else 0))):=fun g cap w9 h1 h2 h3=>by
              refine(HA2.out _ hbA).app h2 ?_ ?_
              . unfold SpO
                rw[Fa,qF];exact h1
              . rcases h3 with h|h
                . exact .inl (by rw[h];rfl)
                . exact .inr ⟨g,rfl,by have:=(HA2.out _ hbA).chg.size;omega⟩
            obtain⟨p0,_,_,_,_,_⟩:=Cz (HA2.out wc (qD _ _)).box;have p0':(wc.drew.alloc (U #[E V x,.int V y] 82)).cell? ⟨A,0,X⟩=W (.slice vo Sk.length vc):=(Cz (HA2.out _ hbA).box).1;have hnews:∀j u,[Value.int .i64 x,Value.int .i64 y][j]? = W u->(wc.drew.alloc (U #[E V x,.int V y] 82)).cell? ((⟨wc.heap.size,0,X⟩:Addr).add j)=W u:=Eb wc.drew _ _ _;have HSl:O (∀m:Nat,m=Sk.length->m+1<=1000000001):=fun m e=>by show _<=_;omega
            generalize hWA:wc.drew.alloc (U #[E V x,.int V y] 82)=WA at *;have hsk9:Sk.length<=1000000000:=by omega
            go_upto_region 9 with fail
            go_region_law (first
              |(refine step_append_lies _ (by rfl) (.tmp 48) (.tmp 50) 41 (by rfl) base 82 i0 _ 2 16 Tryz.underlying41 hi hz0 hz1 hz2 (by rfl) (by decide) (.slice vo Sk.length vc) Sk.length (flat Sk) (by rfl) hown9 ⟨wc.heap.size,0,X⟩ 1 1 [.int V x,.int V y] (by rfl) (by rfl) hnews (by intro u hu;simp at hu;rcases hu with rfl|rfl<;>rfl) (by decide) (by unfold maxLen;omega) (by omega) hbase9 _ rfl ?_;intro g9 cap9 w9 hown hgrow hat hlt9;have hA9:=HApp.out g9 cap9 w9 hown hgrow hat;have z0:=(Cz hA9.box).1;have zf:=Hx hA9.box 0;have hA10:=hA9.setA;have f0:=hA10.row.cell hlt;have f1:=hA10.row.frozen k;have HA9:=(show O _ from hA10.setR k (.int V (Sk.length:Nat)));clear hA9 hA10 hown hgrow hat))
            all_goals go_wp2_with fail
            all_goals go_roundw
            all_goals first
              | (refine ⟨k+1,by omega,by go_num,Y (W ⟨g9,0,X⟩) (Sk.length+1) cap9,?_⟩
                 rw[HT2.out];have h8:=HA9.out;exact⟨h8.box,h8.lies,h8.sp,h8.row.congr (fun j _=>HRow.out _ HV.out j),h8.chg,h8.own,h8.hR⟩)
              |(simp[intOf];omega)
    . obtain rfl:k=n:=by omega
      have HF:O (PlB w wr base A lm w.heap.size k (AG S l) (AG S l) sv svk svk nv tv init many (fun j=>.int V (if j<k then(((AG S l).idxOf (l.getD j (0,0)):Nat):Int)else 0))):=by
        have:=HA.out;rw[List.take_of_length_le (by rw[HN.out];exact qB _)]at this;exact this
      clear HA;go_wp2_with fail
      go_ret;have h:=HF.out;obtain⟨cs,hcs,_⟩:=id h.row;refine⟨rfl,svk,HXt.out.put h.chg h.box h.lies h.sp,⟨W ⟨w.heap.size,0,X⟩,k,by rw[Gv,HN.out],fun _=>⟨w.heap.size,0,rfl,h.row.lt,fun i hi=>?_⟩⟩,fun a n c e=>?_,h.chg,h.own⟩
      . rw[Gv,HN.out]at hi
        rw[qW,h.row.cell hi,if_pos hi,MM (by rw[HN.out];exact hi)]
      . injection e with e _ _
        injection e with e;subst e;exact⟨cs,(0,0),hcs⟩
variable{Pz:Nat -> Prop}
theorem V8(w:Q):(zeroValue 195).run qA w=.ok (J #[F K]) w:=by kernel_rfl
theorem QF{l:List (Int×Int)}{x y y':List Bool}{c d d':Int}(hl:y.length=y'.length)(ht:BF l y d=0)(ht':BF l y' d'=0)(e:EZ l (tru l y d)=EZ l (tru l y' d')):A8 l x c y d=A8 l x c y' d':=by
 have hf:Bm l x c y d=Bm l x c y' d':=by unfold Bm;rw[hl,ht,ht']
 unfold A8;rw[hf];split
 .exact decide_eq_decide.2 (QJ e)
 .rfl
def KD(Pz:Nat->Prop)(w0 w:Q)(B bs bl n:Nat)(va vr pv fv:L)(m:Mo)(ps:List (List (Int×Int)))(l:List (Int×Int))(ho:Option Addr)(hc:Nat)(b:Bool)(e:Ending)(w':Q):Prop:=
 e=I (H #[F b,.int V 0])/\Sk bs bl w w'/\O (SvOk Pz w0 w' B bs bl (n+1) va vr pv fv m ps l ho hc)
def Li8(w:Q)(g:Nat)(y0 y1 y2 y3 y4 y5:Bool)(c s:Int):Prop:=w.cell? ⟨g,0,X⟩=W (.bool y0)/\w.cell? ⟨g,1,X⟩=W (.bool y1)/\w.cell? ⟨g,2,X⟩=W (.bool y2)/\w.cell? ⟨g,3,X⟩=W (.bool y3)/\w.cell? ⟨g,4,X⟩=W (.bool y4)/\w.cell? ⟨g,5,X⟩=W (.bool y5)/\w.cell? ⟨g,6,X⟩=W (.int V c)/\w.cell? ⟨g,7,X⟩=W (.int V s)
theorem Li8.of{w:Q}{g:Nat}{y0 y1 y2 y3 y4 y5:Bool}{c s:Int}{t:TypeId}(h:w.heap[g]? = W (U #[F y0,.bool y1,.bool y2,.bool y3,.bool y4,.bool y5,.int V c,.int V s] t (0,0))):Li8 w g y0 y1 y2 y3 y4 y5 c s:=by
 refine⟨?_,?_,?_,?_,?_,?_,?_,?_⟩<;>simp[World.cell?,h]
theorem Li8.later{w w':Q}{g:Nat}{y0 y1 y2 y3 y4 y5:Bool}{c s:Int}(h:Li8 w g y0 y1 y2 y3 y4 y5 c s)(hg:g<w.heap.size)(hb:M w.heap.size w w'):Li8 w' g y0 y1 y2 y3 y4 y5 c s:=by
 obtain⟨h0,h1,h2,h3,h4,h5,h6,h7⟩:=h;exact⟨(hb.cell (p:=⟨g,0,X⟩) hg).trans h0,(hb.cell (p:=⟨g,1,X⟩) hg).trans h1,(hb.cell (p:=⟨g,2,X⟩) hg).trans h2,(hb.cell (p:=⟨g,3,X⟩) hg).trans h3,(hb.cell (p:=⟨g,4,X⟩) hg).trans h4,(hb.cell (p:=⟨g,5,X⟩) hg).trans h5,(hb.cell (p:=⟨g,6,X⟩) hg).trans h6,(hb.cell (p:=⟨g,7,X⟩) hg).trans h7⟩
theorem QL(w0 w:Q)(B bs bl n:Nat)(va vr pv fv:L)(m:Mo)(ps:List (List (Int×Int)))(l:List (Int×Int))(ho:Option Addr)(hc:Nat)(x y:List Bool)(c d:Nat)(lo no so lo2 no2 so2:Option Addr)(lc nn nc sc lc2 nn2 nc2 sc2:Nat)
  (hB:0<w0.heap.size) (hT:AH w0) (hV:TaskV w0 va vr pv fv m ps l) (hk:Ad m ps l=0) (hS:SvOk Pz w0 w B bs bl n va vr pv fv m ps l ho hc) (hn:n<1000000000000)
  (hx:BoolsV w (.slice lo ps.length lc) x) (hy:BoolsV w (.slice lo2 ps.length lc2) y) (hsg:IntsV w (.slice so2 (2^(AA l).length) sc2) (sgL l y)) (hxl:x.length=ps.length) (hyl:y.length=ps.length) (hcN:c<2^(AA l).length) (hdN:d<2^(AA l).length) :
  C qA 62 #[G (W ⟨B,0,X⟩),J #[.slice lo ps.length lc,Y no nn nc,.slice so (2^(AA l).length) sc],.int V (c:Int),J #[.slice lo2 ps.length lc2,Y no2 nn2 nc2,.slice so2 (2^(AA l).length) sc2],.int V (d:Int)] w (KD Pz w0 w B bs bl n va vr pv fv m ps l ho hc (A8 l x (c:Int) y (d:Int))):=by
 obtain⟨hp0,hl0⟩:=BX hk;obtain⟨_,hps6⟩:=Ck hp0;obtain⟨_,_,hz,_,h6⟩:=CC hl0;obtain⟨fo,fc,rfl,_⟩:=id hV.fo;have hN64:2^(AA l).length<=64:=vG (show 0<2 by decide) h6;have htc:∀(z:List Bool) (k:Nat),z.length=ps.length->k<2^(AA l).length->BF l z (k:Int)=0:=fun z k hz1 hk1=>by
  refine D6 (by rw[hz1];exact hl0) fun hno=>?_;unfold B8 at hno;have:((2^(AA l).length:Nat):Int)=(2:Int)^(AA l).length:=by push_cast;rfl
  rcases hno with hno|hno
  .omega
  .rw[<-this]at hno;omega
 obtain⟨g0,hg0,hgl⟩:=hS.li;obtain⟨sb,soff,rfl,hsb,hsat⟩:∃sb soff,so2=W ⟨sb,soff,X⟩/\sb<w.heap.size/\w.cell? ⟨sb,soff+d,X⟩=W (.int V (Df l y d)):=by
  obtain⟨ao,cap,e1,h1⟩:=hsg;injection e1 with e1 _ _;subst e1;obtain⟨b,off,rfl,hb,hat⟩:=h1 (by intro e;have:=congrArg List.length e;rw[M7]at this;simp at this);refine⟨b,off,rfl,hb,?_⟩;have:=hat d (by rw[M7];exact hdN);rw[this,UW hdN]
 obtain⟨sg,hsgd⟩:∃sg,Df l y d=sg:=⟨_,rfl⟩;have hsgb:-9223372036854775808<=sg/\sg<=9223372036854775807:=by
  obtain⟨b0,b1⟩:=G4 l (tru l y (d:Int)) (AA l).length;have e:sg=CF l (tru l y (d:Int)) (AA l).length:=by rw[<-hsgd];rfl
  have:((2^(AA l).length:Nat):Int)=(2:Int)^(AA l).length:=by push_cast;rfl
  rw[<-this]at b1;omega
 rw[hsgd]at hsat;obtain⟨W3,hW3⟩:∃W3,W3=((w.alloc (U #[.slice lo ps.length lc,Y no nn nc,.slice so (2^(AA l).length) sc] 148)).alloc (U #[.slice lo2 ps.length lc2,Y no2 nn2 nc2,Y (W ⟨sb,soff,X⟩) (2^(AA l).length) sc2] 148)).alloc (U #[F K,.bool K,.bool K,.bool K,.bool K,.bool K,.int V (c:Int),.int V sg] 193):=⟨_,rfl⟩;have hb3:M w.heap.size w W3:=by rw[hW3];exact(((qD _ _).alloc (qB _) _).alloc (by simp) _).alloc (by simp;omega) _
 have hz3:W3.heap.size=w.heap.size+3:=by rw[hW3];simp
 have hg3:W3.heap[w.heap.size+2]? = W (U #[F K,.bool K,.bool K,.bool K,.bool K,.bool K,.int V (c:Int),.int V sg] 193 (0,0)):=by
  rw[hW3];have:=(MapKept.heap_alloc ((w.alloc (U #[.slice lo ps.length lc,Y no nn nc,.slice so (2^(AA l).length) sc] 148)).alloc (U #[.slice lo2 ps.length lc2,Y no2 nn2 nc2,Y (W ⟨sb,soff,X⟩) (2^(AA l).length) sc2] 148)) (U #[F K,.bool K,.bool K,.bool K,.bool K,.bool K,.int V (c:Int),.int V sg] 193)).1;simpa using this
 obtain⟨w4,y0,y1,y2,y3,y4,y5,hcopy,hsix,hg4,hgr4⟩:=PL W3.drew (w.heap.size+2) lo ps.length lc x (c:Int) sg 193 3 (hx.below hb3.drew) hxl hps6 hg3;have hb4:M w.heap.size w w4:=⟨hgr4.os.trans hb3.os,hgr4.tape.trans hb3.tape,hgr4.output.trans hb3.output,qI hb3.size hgr4.size,fun i hi=>(hgr4.block i (qE hi hb3.size) (by intro e;injection e with e;omega)).trans (hb3.block i hi)⟩;have hli4:=Li8.of hg4;have hlv:E3 x (c:Int) sg=J #[F y0,.bool y1,.bool y2,.bool y3,.bool y4,.bool y5,.int V (c:Int),.int V sg]:=by unfold E3;rw[hsix];rfl
 obtain⟨kl,hkl⟩:=RA y0 y1 y2 y3 y4 y5 (c:=(c:Int)) (s:=sg) (by omega) hsgb;have hz4:w.heap.size+3<=w4.heap.size:=by have:=hgr4.size;have e:W3.drew.heap.size=W3.heap.size:=rfl;omega
 have hk4:M (w.heap.size+2) W3 w4:=⟨hgr4.os,hgr4.tape,hgr4.output,hgr4.size,fun i hi=>hgr4.block i (by show i<W3.heap.size;omega) (by intro e;injection e with e;omega)⟩;have HBx:O (∀w',M (w.heap.size+2) W3 w'->w'.cell? ⟨w.heap.size,0,X⟩=W (.slice lo ps.length lc)/\w'.cell? ⟨w.heap.size+1,0,X⟩=W (.slice lo2 ps.length lc2)):=fun w' h=>by
  refine⟨(h.cell (p:=⟨w.heap.size,0,X⟩) (by show w.heap.size<_;omega)).trans ?_,(h.cell (p:=⟨w.heap.size+1,0,X⟩) (by show w.heap.size+1<_;omega)).trans ?_⟩<;>(rw[hW3];simp[go_sem])
 have hs2:∀o1 o2,((w.alloc o1).alloc o2).cell? ⟨sb,soff+d,X⟩=W (.int V sg):=fun o1 o2=>(Below.cell (p:=⟨sb,soff+d,X⟩) (((qD w.heap.size w).alloc (qB _) o1).alloc (by simp) o2) hsb).trans hsat;have HLk:O (∀w',w'.heap[bl]? = w.heap[bl]?->(Instr.lookup 73 (.map (W bl)) (J #[F y0,.bool y1,.bool y2,.bool y3,.bool y4,.bool y5,.int V (c:Int),.int V sg]) true).run qA w'=.ok (H #[(g0 kl).getD (J #[F K]),.bool (g0 kl).isSome]) w'):=fun w' h=>(hg0.kept h).look Gf Tryz.underlying73 (V8 _) hkl;have HS6:O (∀w',M w.heap.size w w'->w'.cell? ⟨B,3,X⟩=W (.slice fo l.length fc)/\w'.cell? ⟨B,6,X⟩=W (.map (W bl))):=fun w' h=>⟨(hS.box.later h).c3,(hS.box.later h).c6⟩;have hbl:bl<w.heap.size:=hg0.lt;have hdi:(d:Int)<((2^(AA l).length:Nat):Int):=by omega
 have HLi:O (∀w',M w4.heap.size w4 w'->Li8 w' (w.heap.size+1+1) y0 y1 y2 y3 y4 y5 (c:Int) sg):=fun w' h=>hli4.later (by omega) h;unfold KD;cases hgk:g0 kl with
 |some v=>
  obtain⟨x',c',sg',b,hx'l,hkl',rfl,hall⟩:=hgl kl v hgk;have hinj:=Gf.inj hkl' (hlv▸hkl);obtain⟨rfl,rfl,rfl⟩:=Ra (hx'l.trans hxl.symm) hinj;have hbv:A8 l x' (c:Int) y (d:Int)=b:=hall y (d:Int) hyl (htc y d hyl hdN) (by rw[<-hsgd];rfl);rw[hbv];have HLk2:O (∀w',w'.heap[bl]? = w.heap[bl]?->(Instr.lookup 73 (.map (W bl)) (J #[F y0,.bool y1,.bool y2,.bool y3,.bool y4,.bool y5,.int V (c:Int),.int V sg']) true).run qA w'=.ok (H #[J #[F b],.bool true]) w'):=fun w' h=>by have:=HLk.out w' h;rw[hgk]at this;exact this
  have HFin:O (∀w',M w.heap.size w w'->Sk bs bl w w'/\SvOk Pz w0 w' B bs bl (n+1) va vr pv (.slice fo l.length fc) m ps l ho hc):=fun w' h=>⟨Sk.of h,(hS.below h).mono (vD _)⟩;generalize ps.length=pn at *;generalize 2^(AA l).length=N at *;generalize l.length=fn at *;clear HLk hS hgl hg0 hall hbv hT hV hx hy hsg htc hli4 hkl' hlv hkl hinj hgr4 hg3 hsix
  go_enter Tryz.func62,Tryz.ntmps62;go_wp2_with fail
  rw[<-hW3];obtain⟨u0,u1⟩:=HBx.out W3 (qD _ _);obtain⟨v0,v1⟩:=HBx.out w4 hk4;clear hW3;go_region_held3 (fun w'=>w'.cell? ⟨w.heap.size,0,X⟩=W (Y lo pn lc))
   (first|exact u0|exact v0)
   (fail)
  have hbl4:w4.heap[bl]? = w.heap[bl]?:=hb4.block bl hbl;obtain⟨_,q6⟩:=HS6.out w4 hb4;obtain⟨i0,i1,i2,i3,i4,i5,i6,i7⟩:=HLi.out w4 (qD _ _);clear u0 u1 v0 v1 hs2 HBx;go_wp2_with fail
  go_cut [13,14] (fun u13 u14 w'=>∃g13,u13=G (W ⟨g13,0,X⟩)/\u14=.bool true/\M w4.heap.size w4 w'/\w'.cell? ⟨g13,0,X⟩=W (.bool b))
  case first=>
   have hal:M w4.heap.size w4 (w4.alloc (U #[F K] 195)):=(qD _ _).alloc (qB _) _;have hlA:=HLk2.out w4.drew hbl4;have hlB:=HLk2.out (w4.alloc (U #[F K] 195)).drew ((hal.block bl (qE hbl hb4.size)).trans hbl4);obtain⟨_,q6'⟩:=HS6.out _ (hb4.trans (hal.mono hb4.size));obtain⟨j0,j1,j2,j3,j4,j5,j6,j7⟩:=HLi.out _ hal;go_region_law (fail)
   all_goals go_wp2_with fail
   all_goals go_meet
   all_goals exact⟨_,rfl,rfl,((qD _ _).alloc (qB _) _).drew,by simp[go_sem]⟩
  case rest=>
   obtain⟨g13,rfl,rfl,hb5,d0⟩:=hcut;have hbF:=hb4.trans (hb5.mono hb4.size);go_wp2_with fail
   go_ret2;obtain⟨r1,r2⟩:=HFin.out _ hbF;exact⟨rfl,r1,r2⟩
 |none=>
  have HLk2:O (∀w',w'.heap[bl]? = w.heap[bl]?->(Instr.lookup 73 (.map (W bl)) (J #[F y0,.bool y1,.bool y2,.bool y3,.bool y4,.bool y5,.int V (c:Int),.int V sg]) true).run qA w'=.ok (H #[J #[F K],.bool K]) w'):=fun w' h=>by have:=HLk.out w' h;rw[hgk]at this;exact this
  have hfc:Bm l x (c:Int) y (d:Int)=0:=by
   unfold Bm;rw[if_neg (by rw[hxl,hyl];simp),if_neg (by rw[htc x c hxl hcN];simp)];exact htc y d hyl hdN
  have HFo:O (∀w',M w.heap.size w w'->C qA 91 #[.slice fo l.length fc,.slice lo ps.length lc,.int V (c:Int),.slice lo2 ps.length lc2,.int V (d:Int)] w' fun e w''=>e=I (H #[F (A8 l x (c:Int) y (d:Int)),.int V 0])/\M w'.heap.size w' w''):=fun w' h=>by
   have h0:=hS.bel.trans (h.mono hS.bel.size);have:=RZ _ _ _ l x y (c:Int) (d:Int) w' (qE hB h0.size) (hT.below h0 hB) (hV.fo.below h0) (hx.below h) (hy.below h);rw[hfc]at this;exact this
  have hLO:F2 ps l kl (J #[F (A8 l x (c:Int) y (d:Int))]):=⟨x,(c:Int),sg,_,hxl,hlv▸hkl,rfl,fun y' d' h1 h2 h3=>QF (h1.trans hyl.symm) h2 (htc y d hyl hdN) (h3.trans (by rw[<-hsgd];rfl))⟩;have HPut:O (∀w',M w.heap.size w w'->∃w'',(Instr.mapUpdate 73 (.map (W bl)) (J #[F y0,.bool y1,.bool y2,.bool y3,.bool y4,.bool y5,.int V (c:Int),.int V sg]) (J #[F (A8 l x (c:Int) y (d:Int))])).run qA w'.drew=.ok () w''/\w'.grownBy w'' (W bl)/\Sk bs bl w w''/\SvOk Pz w0 w'' B bs bl (n+1) va vr pv (.slice fo l.length fc) m ps l ho hc):=fun w' h=>by
   have hm1:MapIs w'.drew 193 bl n g0:=hg0.kept (h.block _ hg0.lt);obtain⟨w'',h1,h2,h3⟩:=hm1.put Gf Tryz.underlying73 (by unfold maxLen;omega) (val:=J #[F (A8 l x (c:Int) y (d:Int))]) hkl (Gf.key hkl);have h4:w'.grownBy w'' (W bl):=⟨h3.os,h3.tape,h3.output,h3.size,h3.block⟩;exact⟨w'',h1,h4,(Sk.of h).trans (Sk.grown h4 (.inr rfl)),(hS.below h).putL h4 hgl h2 hLO⟩
  generalize A8 l x (c:Int) y (d:Int)=b at *;generalize ps.length=pn at *;generalize 2^(AA l).length=N at *;generalize l.length=fn at *;clear HLk hS hgl hg0 hT hV hx hy hsg htc hli4 hlv hkl hgr4 hg3 hsix hLO hfc
  go_enter Tryz.func62,Tryz.ntmps62;go_wp2_with fail
  rw[<-hW3];obtain⟨u0,u1⟩:=HBx.out W3 (qD _ _);obtain⟨v0,v1⟩:=HBx.out w4 hk4;clear hW3;go_region_held3 (fun w'=>w'.cell? ⟨w.heap.size,0,X⟩=W (Y lo pn lc))
   (first|exact u0|exact v0)
   (fail)
  have hbl4:w4.heap[bl]? = w.heap[bl]?:=hb4.block bl hbl;obtain⟨_,q6⟩:=HS6.out w4 hb4;obtain⟨i0,i1,i2,i3,i4,i5,i6,i7⟩:=HLi.out w4 (qD _ _);clear u0 u1 v0 v1 hs2;go_wp2_with fail
  go_cut [13,14] (fun u13 u14 w'=>∃g13,u13=G (W ⟨g13,0,X⟩)/\u14=.bool K/\M w4.heap.size w4 w')
  case first=>
   have hal:M w4.heap.size w4 (w4.alloc (U #[F K] 195)):=(qD _ _).alloc (qB _) _;have hlA:=HLk2.out w4.drew hbl4;have hlB:=HLk2.out (w4.alloc (U #[F K] 195)).drew ((hal.block bl (qE hbl hb4.size)).trans hbl4);obtain⟨_,q6'⟩:=HS6.out _ (hb4.trans (hal.mono hb4.size));obtain⟨j0,j1,j2,j3,j4,j5,j6,j7⟩:=HLi.out _ hal;go_region_law (fail)
   all_goals go_wp2_with fail
   all_goals go_meet
   all_goals exact⟨_,rfl,rfl,((qD _ _).alloc (qB _) _).drew⟩
  case rest=>
   obtain⟨g13,rfl,rfl,hb5⟩:=hcut;have hbF:=hb4.trans (hb5.mono hb4.size);have HSF:O (∀w',M wc.heap.size wc w'->w'.cell? ⟨B,3,X⟩=W (Y fo fn fc)/\w'.cell? ⟨w.heap.size,0,X⟩=W (Y lo pn lc)/\w'.cell? ⟨w.heap.size+1,0,X⟩=W (Y lo2 pn lc2)):=fun w' h=>by
    have h1:=hb5.trans (h.mono hb5.size);obtain⟨e1,e2⟩:=HBx.out w' (hk4.trans (h1.mono (by omega)));exact⟨(HS6.out w' (hbF.trans (h.mono hbF.size))).1,e1,e2⟩
   have hfo:=HFo.out _ hbF.drew;have hB0:M wc.heap.size wc wc:=qD _ _;go_wp2_with fail
   go_region_held3 (fun w'=>w'.cell? ⟨B,3,X⟩=W (Y fo fn fc)/\w'.cell? ⟨w.heap.size,0,X⟩=W (Y lo pn lc)/\w'.cell? ⟨w.heap.size+1,0,X⟩=W (Y lo2 pn lc2))
    (first|exact HSF.out _ hb6|exact HSF.out _ hB0.drew|exact HSF.out _ hB0)
    (first
     |(go_at_call 91;refine hfo.mono ?_;rintro e w6 ⟨rfl,hb6'⟩;have hb6:=hB0.drew.trans (hb6'.mono hB0.drew.size)))
   have hbG:=hbF.trans (hb6.mono hbF.size);obtain⟨w7,hput,hg7,r1,r2⟩:=HPut.out _ hbG;obtain⟨_,z6⟩:=HS6.out _ hbG;obtain⟨k0,k1,k2,k3,k4,k5,k6,k7⟩:=HLi.out w6 (hb5.trans (hb6.mono hb5.size));have HR:O (Sk bs bl w w7/\SvOk Pz w0 w7 B bs bl (n+1) va vr pv (Y fo fn fc) m ps l ho hc):=⟨r1,r2⟩;clear r1 r2 hg7 HPut;go_wp2_with fail
   go_region_law (fail)
   all_goals go_wp2_with fail
   all_goals go_ret2
   all_goals exact⟨rfl,HR.out.1,HR.out.2⟩
theorem Uk{l:List Int}(h:l.Nodup):Rise (l.mergeSort leB):=by
 have hp:(l.mergeSort leB).Pairwise (fun x y=>leB x y=true):=List.pairwise_mergeSort (le:=leB) (by intro a b c;simp only[leB,decide_eq_true_eq];omega) (by intro a b;simp only[leB,Bool.or_eq_true,decide_eq_true_eq];omega) l;have hn:(l.mergeSort leB).Nodup:=(xG l leB).nodup_iff.2 h;refine(hp.and hn).imp fun{a b} hab=>?_;have h1:a<=b:=by simpa[leB]using hab.1
 have h2:a≠b:=hab.2;omega
theorem Mq:∀{l:List Int} {lo N:Int},Rise l->(∀x∈l,lo<=x/\x<N)->lo<=N->(l.length:Int)<=N-lo
 |[],lo,N,_,_,h=>by simp;omega
 |x::l,lo,N,h1,h2,_=>by
  obtain⟨hx,t⟩:=List.pairwise_cons.1 h1;have h3:=h2 x (by simp);have:=Mq (lo:=x+1) (N:=N) t (fun y hy=>⟨by have:=hx y hy;omega,(h2 y (by simp[hy])).2⟩) (by omega);simp only[qV];omega
theorem L0{l:List Int}{N:Nat}(h:l.Nodup)(hi:∀x∈l,0<=x/\x<N):l.length<=N:=by
 have h1:=Mq (lo:=0) (N:=N) (Uk h) (fun x hx=>hi x ((xG l leB).mem_iff.1 hx)) (by omega);rw[List.length_mergeSort]at h1;omega
noncomputable def CU(l:List (Int×Int))(x:List Bool)(c:Int)(y:List Bool)(st:Int):Nat->List (Int×Int)
 |0=>[]
 |k+1=>if A8 l x c y (k:Int)=true then CU l x c y st k++[(st,(k:Int))]else CU l x c y st k
theorem IX(l:List (Int×Int))(x:List Bool)(c:Int)(y:List Bool)(st:Int):∀k,(CU l x c y st k).length<=k
 |0=>qB _
 |k+1=>by
  rw[CU];have:=IX l x c y st k;split
  .rw[qF,vU];omega
  .omega
noncomputable def C1(m:Mo)(ps:List (List (Int×Int)))(l:List (Int×Int))(code c:Int):Nat->List (Int×Int)
 |0=>[]
 |i+1=>C1 m ps l code c i++CU l (AJ m ps code) c (AJ m ps ((AL m code).getD i 0)) ((AL m code).getD i 0) (2^(AA l).length)
noncomputable def AX(m:Mo)(ps:List (List (Int×Int)))(l:List (Int×Int))(code c:Int):List (Int×Int):=C1 m ps l code c (AL m code).length
theorem IA{m:Mo}{ps:List (List (Int×Int))}{l:List (Int×Int)}(h:2^(AA l).length<=64)(code c:Int):∀i,(C1 m ps l code c i).length<=i*64
 |0=>qB _
 |i+1=>by
  rw[C1,qF];have:=IA (m:=m) (ps:=ps) h code c i;have:=IX l (AJ m ps code) c (AJ m ps ((AL m code).getD i 0)) ((AL m code).getD i 0) (2^(AA l).length);omega
theorem Iy{m:Mo}(hm:mcode m=0){x:Int}(hx:0<=x/\x<AK m.vars m.vars.length){y:Int}(hy:y∈AL m x):0<=y/\y<AK m.vars m.vars.length:=by
 have h1:=((NW _).2 y).1 hy;unfold G1 at h1;split at h1
 .simp at h1;subst h1;exact hx
 .obtain ⟨j,_,e⟩:=(TV (qB _) y).1 h1;exact T1 (Cu hm) e
theorem Lz{m:Mo}(hm:mcode m=0){x:Int}(hx:0<=x/\x<AK m.vars m.vars.length):(AL m x).length<=4096:=by
 have h1:(AL m x).Nodup:=by
  have:=(NW (G1 m x)).1;exact List.Pairwise.imp (fun{a b} h=>by omega) this
 have h2:=(Cu hm).prod (qB m.vars.length);have:=L0 (N:=(AK m.vars m.vars.length).toNat) h1 (fun y hy=>by have:=Iy hm hx hy;omega);omega
theorem Sk.after{bs bl:Nat}{wb w w':Q}(h:Sk bs bl wb w)(hb:M wb.heap.size w w'):Sk bs bl wb w':=
 ⟨hb.os.trans h.os,hb.tape.trans h.tape,hb.output.trans h.output,qI h.size hb.size,fun i hi h1 h2=>(hb.block i hi).trans (h.block i hi h1 h2)⟩
def Bx3(w:Q)(b:Nat)(x y z:L):Prop:=(w.cell? ⟨b,0,X⟩=W x/\w.cell? ⟨b,1,X⟩=W y/\w.cell? ⟨b,2,X⟩=W z)/\Ae w (Y (W ⟨b,0,X⟩) 1 1) 148
theorem Bx3.new(w:Q)(x y z:L):Bx3 (w.alloc (U #[x,y,z] 148)) w.heap.size x y z:=by
 refine⟨(St3.new w x y z _).2.1,fun a n c e=>?_⟩;injection e with e _ _;injection e with e;subst e;exact⟨_,_,(MapKept.heap_alloc w _).1⟩
theorem Bx3.sk{bs bl:Nat}{w w':Q}{b:Nat}{x y z:L}(h:Bx3 w b x y z)(hs:Sk bs bl w w')(hm:Ce w bs bl):Bx3 w' b x y z:=
 ⟨⟨hs.cell hm h.1.1,hs.cell hm h.1.2.1,hs.cell hm h.1.2.2⟩,h.2.sk hs hm⟩
theorem Bx3.grown{w w':Q}{b:Nat}{x y z:L}{own:Option Nat}(h:Bx3 w b x y z)(hg:w.grownBy w' own)(ho:∀g,own=W g->∃cs fr,w.heap[g]? = W (U cs 82 fr)):Bx3 w' b x y z:=by
 obtain⟨cs,fr,h1⟩:=h.2 _ _ _ rfl;have e:∀i v,w.cell? ⟨b,i,X⟩=W v->w'.cell? ⟨b,i,X⟩=W v:=fun i v hv=>by
  rw[World.cell?_of_block (hg.block b (qG.1 h1).1 (fun e2=>by
   obtain⟨cs',fr',h2⟩:=ho _ e2.symm;rw[h1]at h2;injection h2 with h2;injection h2 with _ h3 _;exact absurd h3 (by decide)))]
  exact hv
 exact⟨⟨e _ _ h.1.1,e _ _ h.1.2.1,e _ _ h.1.2.2⟩,h.2.grown hg (by decide) ho⟩
theorem Bx3.below{w w':Q}{b:Nat}{x y z:L}(h:Bx3 w b x y z)(hb:M w.heap.size w w'):Bx3 w' b x y z:=by
 obtain⟨cs,fr,h1⟩:=h.2 _ _ _ rfl;have hlt:b<w.heap.size:=(qG.1 h1).1;exact⟨⟨(hb.cell (p:=⟨b,0,X⟩) hlt).trans h.1.1,(hb.cell (p:=⟨b,1,X⟩) hlt).trans h.1.2.1,(hb.cell (p:=⟨b,2,X⟩) hlt).trans h.1.2.2⟩,h.2.below hb⟩
theorem SpO.own{w:Q}{base:Nat}{vo:Option Addr}{n cap:Nat}{x:List (Int×Int)}(h:SpO w base (Y vo n cap) x)(o:Obj):∀g,(Value.slice vo n cap).ownBlock=W g->base<=g/\∃cs fr,(w.alloc o).heap[g]? = W (U cs 82 fr):=by
 intro g hg;rcases h.2 with⟨h0,_⟩|⟨g',cap',cur,h1,h2,h3,_⟩
 .rw[h0]at hg;simp[Value.ownBlock]at hg
 .rw[h1]at hg;simp[Value.ownBlock]at hg;subst hg;exact⟨h2,cur,_,(Below.heap_alloc w o g' (qG.1 h3).1).trans h3⟩
variable{Pz:Nat -> Prop}
theorem Rz(w0 w:Q)(B bs bl n:Nat)(va vr pv fv:L)(m:Mo)(ps:List (List (Int×Int)))(l:List (Int×Int))(ho:Option Addr)(hc:Nat)(code:Int)(c:Nat)(hI:-9223372036854775808<=code/\code<=9223372036854775807)(hB:0<w0.heap.size)(hT:AH w0)(hV:TaskV w0 va vr pv fv m ps l)(hk:Ad m ps l=0)(hS:SvOk Pz w0 w B bs bl n va vr pv fv m ps l ho hc)(hn:n+300000<1000000000000)(hcr:0<=code/\code<AK m.vars m.vars.length)(hcN:c<2^(AA l).length) :
  C qA 35 #[G (W ⟨B,0,X⟩),J #[E V code,.int V (c:Int)]] w fun e w'=>e=I (H #[E V (B1 l (AJ m ps code) (c:Int)),.int V 0])/\Sk bs bl w w'/\O (SvOk Pz w0 w' B bs bl (n+1) va vr pv fv m ps l ho hc):=by
 obtain⟨hp0,hl0⟩:=BX hk;obtain⟨hm0,_⟩:=Ck hp0;have hw:=D7 hm0 hcr;obtain⟨fo,fc,rfl,_⟩:=id hV.fo;have htc:BF l (AJ m ps code) (c:Int)=0:=by
  refine D6 (by rw[(FD hk hcr).2];exact hl0) fun hno=>?_;unfold B8 at hno;have:((2^(AA l).length:Nat):Int)=(2:Int)^(AA l).length:=by push_cast;rfl
  rcases hno with hno|hno
  .omega
  .rw[<-this]at hno;omega
 obtain⟨W1,hW1⟩:∃W1,W1=w.alloc (U #[E V code,.int V (c:Int)] 82):=⟨_,rfl⟩;have hb1:M w.heap.size w W1:=by rw[hW1];exact(qD _ _).alloc (qB _) _
 have hs1:W1.cell? ⟨w.heap.size,0,X⟩=W (.int V code)/\W1.cell? ⟨w.heap.size,1,X⟩=W (.int V (c:Int)):=by rw[hW1];constructor<;>simp[go_sem]
 have hS1:=hS.below hb1;have hst:=Jh w0 W1 B bs bl n va vr pv (.slice fo l.length fc) m ps l ho hc code hI hB hT hV hk hS1 (by omega);have hst2:C qA 61 #[G (W ⟨B,0,X⟩),.int V code] W1 fun e w'=>∃lo lc no nn nc so sn sc,e=I (H #[J #[.slice lo ps.length lc,Y no nn nc,Y so sn sc],.int V 0])/\O (∀w2,M w'.heap.size w' w2->Sk bs bl w w2/\SvOk Pz w0 w2 B bs bl (n+1) va vr pv (.slice fo l.length fc) m ps l ho hc/\w2.cell? ⟨B,3,X⟩=W (.slice fo l.length fc)/\w2.cell? ⟨w.heap.size,0,X⟩=W (.int V code)/\w2.cell? ⟨w.heap.size,1,X⟩=W (.int V (c:Int))/\C qA 63 #[.slice fo l.length fc,.slice lo ps.length lc,.int V (c:Int)] w2 fun e w3=>e=I (H #[E V (B1 l (AJ m ps code) (c:Int)),.int V 0])/\M w2.heap.size w2 w3):=hst.mono fun e w' ⟨h1,h2,h3⟩=>by
  rcases h3 with⟨_,lo,lc,no,nc,so,sc,h4,h5⟩|⟨h4,_⟩
  .refine ⟨lo,lc,no,_,nc,so,_,sc,h4,fun w2 hb2=>?_⟩;have hsk:=(h1.trans (Sk.of hb2));have hS2:=h2.out.below hb2;obtain⟨lo',lc',no',nc',so',sc',e5,hx,_⟩:=h5.out;injection e5 with e5;simp only[Array.mk.injEq,List.cons.injEq,and_true]at e5;rw[<-e5.1]at hx;have h0:=hS2.bel;have hme:=Rc (.slice fo l.length fc) (.slice lo ps.length lc) l (AJ m ps code) (c:Int) w2 (qE hB h0.size) (hT.below h0 hB) (hV.fo.below h0) (hx.below hb2);rw[htc]at hme;exact⟨(Sk.of hb1).trans hsk,hS2,hS2.box.c3,hsk.cell hS1.two hs1.1,hsk.cell hS1.two hs1.2,hme⟩
  .exact absurd hw h4
 clear hst hS hT hV hk hw hS1 htc hp0 hl0 hm0;have HW1:O (W1=w.alloc (U #[E V code,.int V (c:Int)] 82)):=hW1;generalize B1 l (AJ m ps code) (c:Int)=mm at *;generalize ps.length=pn at *;generalize l.length=fn at *
 go_enter Tryz.func35,Tryz.ntmps35;go_wp2_with (first|(go_at_call 61;rw[<-hW1];refine hst2.mono ?_;rintro e w2 ⟨lo,lc,no,nn,nc,so,sn,sc,rfl,HR⟩))
 have hb2:∀o,M w2.heap.size w2 (w2.alloc o):=fun o=>(qD _ _).alloc (qB _) o;generalize hw3:w2.alloc (U #[Y lo pn lc,Y no nn nc,Y so sn sc] 148)=w3 at *;have hb3:M w2.heap.size w2 w3:=by rw[<-hw3];exact hb2 _
 have q0:w3.cell? ⟨w2.heap.size,0,X⟩=W (Y lo pn lc):=by rw[<-hw3];simp[go_sem]
 have hlt3:w2.heap.size<w3.heap.size:=World.block_lt_of_cell? _ _ q0;have HSF:O (∀w',M w3.heap.size w3 w'->w'.cell? ⟨B,3,X⟩=W (Y fo fn fc)/\w'.cell? ⟨w2.heap.size,0,X⟩=W (Y lo pn lc)/\w'.cell? ⟨w.heap.size,1,X⟩=W (.int V (c:Int))):=fun w' h=>by
  obtain⟨_,_,q3,_,q1,_⟩:=HR.out w' (hb3.trans (h.mono hb3.size));exact⟨q3,(h.cell (p:=⟨w2.heap.size,0,X⟩) hlt3).trans q0,q1⟩
 have hB0:M w3.heap.size w3 w3:=qD _ _;obtain⟨_,_,_,_,_,hme⟩:=HR.out w3.drew hb3.drew;clear hw3 hb2 q0 hst2 hs1 hW1;go_region_held3 (fun w'=>w'.cell? ⟨B,3,X⟩=W (Y fo fn fc)/\w'.cell? ⟨w2.heap.size,0,X⟩=W (Y lo pn lc)/\w'.cell? ⟨w.heap.size,1,X⟩=W (.int V (c:Int)))
  (first|exact HSF.out _ hb6|exact HSF.out _ hB0.drew|exact HSF.out _ hB0)
  (first|(go_at_call 63;refine hme.mono ?_;rintro e w6 ⟨rfl,hb6'⟩;have hb6:=hB0.drew.trans (hb6'.mono hB0.drew.size)))
 go_wp2_with fail
 go_ret2;obtain⟨r1,r2,_⟩:=HR.out _ (hb3.trans (hb6.mono hb3.size));exact⟨rfl,r1,r2⟩
variable{Pz:Nat -> Prop}
def J8(Pz:Nat->Prop)(w0 w:Q)(B bs bl n:Nat)(va vr pv fv:L)(m:Mo)(ps:List (List (Int×Int)))(l:List (Int×Int))(ho:Option Addr)(hc:Nat)(code c:Int)(e:Ending)(w':Q):Prop:=
 Sk bs bl w w'/\O (SvOk Pz w0 w' B bs bl (n+300000) va vr pv fv m ps l ho hc)/\((Ao m code=0/\∃so sc,e=I (H #[.slice so (AX m ps l code c).length sc,.int V 0])/\O (SpO w' w.heap.size (.slice so (AX m ps l code c).length sc) (AX m ps l code c)))\/(Ao m code≠0/\e=I (H #[Y X 0 0,.int V (Ao m code)])))
theorem OZ(w0 w:Q)(B bs bl n:Nat)(va vr pv fv:L)(m:Mo)(ps:List (List (Int×Int)))(l:List (Int×Int))(ho:Option Addr)(hc:Nat)(code:Int)(c:Nat)(hI:-9223372036854775808<=code/\code<=9223372036854775807)(hB:0<w0.heap.size)(hT:AH w0)(hV:TaskV w0 va vr pv fv m ps l)(hk:Ad m ps l=0)(hS:SvOk Pz w0 w B bs bl n va vr pv fv m ps l ho hc)(hn:n+300000<1000000000000)(hcr:0<=code/\code<AK m.vars m.vars.length)(hcN:c<2^(AA l).length) :
  C qA 34 #[G (W ⟨B,0,X⟩),J #[E V code,.int V (c:Int)]] w (J8 Pz w0 w B bs bl n va vr pv fv m ps l ho hc code (c:Int)):=by
 obtain⟨hp0,hl0⟩:=BX hk;obtain⟨hm0,_⟩:=Ck hp0;obtain⟨_,_,_,_,h6⟩:=CC hl0;have hw:=D7 hm0 hcr;have hpr:=((Cu hm0).prod (qB m.vars.length)).2;have hN64:2^(AA l).length<=64:=vG (show 0<2 by decide) h6;have hnn:=Lz hm0 hcr;obtain⟨W1,hW1⟩:∃W1,W1=w.alloc (U #[E V code,.int V (c:Int)] 82):=⟨_,rfl⟩;have hb1:M w.heap.size w W1:=by rw[hW1];exact(qD _ _).alloc (qB _) _
 have hs1:W1.cell? ⟨w.heap.size,0,X⟩=W (.int V code)/\W1.cell? ⟨w.heap.size,1,X⟩=W (.int V (c:Int)):=by rw[hW1];constructor<;>simp[go_sem]
 have hS1:=hS.below hb1;have hst:=Jh w0 W1 B bs bl n va vr pv fv m ps l ho hc code hI hB hT hV hk hS1 (by omega);have hst2:C qA 61 #[G (W ⟨B,0,X⟩),.int V code] W1 fun e w'=>∃lo lc no nc so sc,e=I (H #[J #[.slice lo ps.length lc,.slice no (AL m code).length nc,.slice so (2^(AA l).length) sc],.int V 0])/\O (Sk bs bl w w'/\SvOk Pz w0 w' B bs bl (n+1) va vr pv fv m ps l ho hc/\Al Pz w' m ps l code (J #[.slice lo ps.length lc,.slice no (AL m code).length nc,.slice so (2^(AA l).length) sc]))/\O (w'.cell? ⟨w.heap.size,0,X⟩=W (.int V code)/\w'.cell? ⟨w.heap.size,1,X⟩=W (.int V (c:Int))):=hst.mono fun e w' ⟨h1,h2,h3⟩=>by
  rcases h3 with⟨_,lo,lc,no,nc,so,sc,h4,h5⟩|⟨h4,_⟩
  .exact ⟨lo,lc,no,nc,so,sc,h4,⟨(Sk.of hb1).trans h1,h2.out,h5.out⟩,h1.cell hS1.two hs1.1,h1.cell hS1.two hs1.2⟩
  .exact absurd hw h4
 have HSt:O (∀(w':Q) (n':Nat) (c':Int),n'<1000000000000->0<=c'/\c'<AK m.vars m.vars.length->SvOk Pz w0 w' B bs bl n' va vr pv fv m ps l ho hc->C qA 61 #[G (W ⟨B,0,X⟩),.int V c'] w' fun e w''=>∃lo lc no nn2 nc so sc,e=I (H #[J #[.slice lo ps.length lc,Y no nn2 nc,.slice so (2^(AA l).length) sc],.int V 0])/\O (Sk bs bl w' w''/\SvOk Pz w0 w'' B bs bl (n'+1) va vr pv fv m ps l ho hc/\Al Pz w'' m ps l c' (J #[.slice lo ps.length lc,Y no nn2 nc,.slice so (2^(AA l).length) sc]))):=fun w' n' c' hn' hc' hS'=>(Jh w0 w' B bs bl n' va vr pv fv m ps l ho hc c' (by omega) hB hT hV hk hS' hn').mono fun e w'' ⟨h1,h2,h3⟩=>by
  rcases h3 with⟨_,lo,lc,no,nc,so,sc,h4,h5⟩|⟨h4,_⟩
  .exact ⟨lo,lc,no,_,nc,so,sc,h4,h1,h2.out,h5.out⟩
  .exact absurd (D7 hm0 hc') h4
 have HFo:O (∀(w':Q) (n' d:Nat) (c':Int) (lo no so lo2 no2 so2:Option Addr) (lc nn nc sc lc2 nn2 nc2 sc2:Nat),n'<1000000000000->d<2^(AA l).length->0<=c'/\c'<AK m.vars m.vars.length->SvOk Pz w0 w' B bs bl n' va vr pv fv m ps l ho hc->Al Pz w' m ps l code (J #[.slice lo ps.length lc,Y no nn nc,.slice so (2^(AA l).length) sc])->Al Pz w' m ps l c' (J #[.slice lo2 ps.length lc2,Y no2 nn2 nc2,.slice so2 (2^(AA l).length) sc2])->C qA 62 #[G (W ⟨B,0,X⟩),J #[.slice lo ps.length lc,Y no nn nc,.slice so (2^(AA l).length) sc],.int V (c:Int),J #[.slice lo2 ps.length lc2,Y no2 nn2 nc2,.slice so2 (2^(AA l).length) sc2],.int V (d:Int)] w' fun e w''=>e=I (H #[F (A8 l (AJ m ps code) (c:Int) (AJ m ps c') (d:Int)),.int V 0])/\O (Sk bs bl w' w''/\SvOk Pz w0 w'' B bs bl (n'+1) va vr pv fv m ps l ho hc)):=fun w' n' d c' lo no so lo2 no2 so2 lc nn nc sc lc2 nn2 nc2 sc2 hn' hd hc' hS' hA hB'=>by
  obtain⟨_,_,_,_,_,_,e1,hx,_,_,_⟩:=hA;obtain⟨_,_,_,_,_,_,e2,hy,_,hz,_⟩:=hB';simp only[Value.agg.injEq,Array.mk.injEq,List.cons.injEq,Value.slice.injEq,and_true,true_and]at e1 e2;obtain⟨⟨rfl,rfl⟩,⟨rfl,rfl,rfl⟩,rfl,rfl⟩:=e1;obtain⟨⟨rfl,rfl⟩,⟨rfl,rfl,rfl⟩,rfl,rfl⟩:=e2;exact(QL w0 w' B bs bl n' va vr pv fv m ps l ho hc (AJ m ps code) (AJ m ps c') c d _ _ _ _ _ _ _ _ _ _ _ _ _ _ hB hT hV hk hS' hn' hx hy hz (FD hk hcr).2 (FD hk hc').2 hcN hd).mono fun e w'' ⟨h1,h2,h3⟩=>⟨h1,h2,h3.out⟩
 have HCl:O (∀(w':Q) (n':Nat),SvOk Pz w0 w' B bs bl n' va vr pv fv m ps l ho hc->C qA 32 #[G (W ⟨B,0,X⟩)] w' fun e w''=>e=I (.int V ((2^(AA l).length:Nat):Int))/\w''=w'):=fun w' n' h=>II B _ _ _ _ ho _ hc bs bl w' h6 h.box;have HNx:O (∀i,i<(AL m code).length->0<=(AL m code).getD i 0/\(AL m code).getD i 0<AK m.vars m.vars.length):=fun i hi=>Iy hm0 hcr (by rw[qC,qH hi];exact List.getElem_mem hi);have HBt:O (∀i,C1 m ps l code (c:Int) (i+1)=C1 m ps l code (c:Int) i++CU l (AJ m ps code) (c:Int) (AJ m ps ((AL m code).getD i 0)) ((AL m code).getD i 0) (2^(AA l).length)):=fun _=>rfl;have HB0:O (C1 m ps l code (c:Int) 0=[]):=rfl;have HBl:O (∀i,(C1 m ps l code (c:Int) i).length<=i*64):=IA hN64 code (c:Int);have HInt:O (∀(w':Q) (lo no so:Option Addr) (lc nc sc:Nat),Al Pz w' m ps l code (J #[.slice lo ps.length lc,.slice no (AL m code).length nc,.slice so (2^(AA l).length) sc])->∀i,i<(AL m code).length->∃b off,no=W ⟨b,off,X⟩/\w'.cell? ⟨b,off+i,X⟩=W (.int V ((AL m code).getD i 0))):=fun w' lo no so lc nc sc hA i hi=>by
  obtain⟨_,_,_,_,_,_,e1,_,hx,_,_⟩:=hA;simp only[Value.agg.injEq,Array.mk.injEq,List.cons.injEq,Value.slice.injEq,and_true,true_and]at e1;obtain⟨⟨rfl,rfl⟩,⟨rfl,rfl⟩,rfl,rfl⟩:=e1;obtain⟨ao,cap,e2,h1⟩:=hx;injection e2 with e2 _ _;subst e2;obtain⟨b,off,rfl,_,hat⟩:=h1 (by intro e;rw[e]at hi;simp at hi);exact⟨b,off,rfl,hat i hi⟩
 have hw0:w0.heap.size<=w.heap.size:=hS.bel.size;have hBlt:B<w.heap.size:=hS.box.lt;unfold J8 AX;have HW:O (Ao m code=0):=hw;generalize(AL m code).length=nn at *;generalize C1 m ps l code (c:Int)=bt at *;generalize m.vars.length=vn at *;generalize hpn:ps.length=pn at *;generalize 2^(AA l).length=N at *
 clear hst hS hS1 hT hV hk hp0 hl0 hm0 h6 hw hpn hs1 hcN;subst hW1;go_enter Tryz.func34,Tryz.ntmps34;go_wp2_with (first|(go_at_call 61;refine hst2.mono ?_;rintro e w2 ⟨lo,lc,no,nc,so,sc,rfl,HR,HC⟩))
 obtain⟨hsk2,hsv2,hso2⟩:=HR.out;obtain⟨hc0,hc1⟩:=HC.out;have hb2:M w2.heap.size w2 (w2.alloc (U #[Y lo pn lc,Y no nn nc,Y so N sc] 148)):=(qD _ _).alloc (qB _) _;have hbx:=Bx3.new w2 (Y lo pn lc) (Y no nn nc) (Y so N sc);have hzb:(w2.alloc (U #[Y lo pn lc,Y no nn nc,Y so N sc] 148)).heap.size=w2.heap.size+1:=by simp
 have hskb:=hsk2.trans (Sk.of (bs:=bs) (bl:=bl) hb2);have hsvb:=hsv2.below hb2;have hsob:=hso2.below hb2;have hsz2:=hsk2.size;have hcb1:(w2.alloc (U #[Y lo pn lc,Y no nn nc,Y so N sc] 148)).cell? ⟨w.heap.size,1,X⟩=W (.int V (c:Int)):=(hb2.cell (p:=⟨w.heap.size,1,X⟩) (World.block_lt_of_cell? _ _ hc1)).trans hc1;generalize w2.alloc (U #[Y lo pn lc,Y no nn nc,Y so N sc] 148)=Wb at *;have htw:=hsvb.two;have HTw:O (Ce Wb bs bl):=htw;have HSob:O (∀w',Sk bs bl Wb w'->Al Pz w' m ps l code (J #[Y lo pn lc,Y no nn nc,Y so N sc])):=fun w' h=>hsob.sk h htw
 have HBxb:O (∀w',Sk bs bl Wb w'->(w'.cell? ⟨w2.heap.size,0,X⟩=W (Y lo pn lc)/\w'.cell? ⟨w2.heap.size,1,X⟩=W (Y no nn nc)/\w'.cell? ⟨w2.heap.size,2,X⟩=W (Y so N sc))/\w'.cell? ⟨w.heap.size,1,X⟩=W (.int V (c:Int))):=fun w' h=>⟨(hbx.sk h htw).1,h.cell htw hcb1⟩;have HSvb:O (SvOk Pz w0 Wb B bs bl (n+1) va vr pv fv m ps l ho hc):=hsvb;have HSkb:O (Sk bs bl w Wb):=hskb;clear hst2 HR HC hsk2 hsv2 hso2 hc0 hc1 hb2 hbx hskb hsvb hsob hcb1 htw;go_loopw [8,29] (fun u i wr=>∃k:Nat,k<=nn/\i=.int V k/\(∃po pk pc,u=Y po pk pc/\pk<=k*64/\O ((bt k).length=pk/\SpO wr Wb.heap.size (Y po pk pc) (bt k)))/\O (Sk bs bl Wb wr/\SvOk Pz w0 wr B bs bl (n+1+k*65) va vr pv fv m ps l ho hc)) (fun _ i _=>nn-(intOf i).toNat)
 case atStart=>exact⟨0,qJ _,rfl,⟨X,0,0,rfl,qJ _,by rw[HB0.out];rfl,by rw[HB0.out];exact SpO.nil _ _⟩,Sk.refl _ _ _,HSvb.out⟩
 case round=>
  obtain⟨k,hkn,rfl,⟨po,pk,pc,rfl,hpk,HSp⟩,HSS⟩:=hrel;by_cases hlt:k<nn
  .obtain ⟨hskr,hsvr⟩:=HSS.out;obtain⟨nb,noff,rfl,hcell⟩:=HInt.out wr lo no so lc nc sc (HSob.out wr hskr) k hlt;have hin:=HNx.out k hlt;have hst:=HSt.out wr (n+1+k*65) _ (by omega) hin hsvr;have hki:(k:Int)<(nn:Int):=by omega
   have HBk:=(show O _ from HBt.out k);have HSpk:O (∀w',Sk bs bl wr w'->SpO w' Wb.heap.size (Y po pk pc) (bt k)):=fun w' h=>HSp.out.2.sk h hsvr.two;have HSl:O ((bt k).length=pk):=HSp.out.1;have HFk:O (∀(w':Q) (n' d:Nat) (lo2 no2 so2:Option Addr) (lc2 nn2 nc2 sc2:Nat),n'<1000000000000->d<N->SvOk Pz w0 w' B bs bl n' va vr pv fv m ps l ho hc->Sk bs bl Wb w'->Al Pz w' m ps l ((AL m code).getD k 0) (J #[Y lo2 pn lc2,Y no2 nn2 nc2,Y so2 N sc2])->C qA 62 #[G (W ⟨B,0,X⟩),J #[Y lo pn lc,Y (W ⟨nb,noff,X⟩) nn nc,Y so N sc],.int V (c:Int),J #[Y lo2 pn lc2,Y no2 nn2 nc2,Y so2 N sc2],.int V (d:Int)] w' fun e w''=>e=I (H #[F (A8 l (AJ m ps code) (c:Int) (AJ m ps ((AL m code).getD k 0)) (d:Int)),.int V 0])/\O (Sk bs bl w' w''/\SvOk Pz w0 w'' B bs bl (n'+1) va vr pv fv m ps l ho hc)):=fun w' n' d lo2 no2 so2 lc2 nn2 nc2 sc2 h1 h2 h3 h4 h5=>HFo.out w' n' d _ lo _ so lo2 no2 so2 lc nn nc sc lc2 nn2 nc2 sc2 h1 h2 hin h3 (HSob.out w' h4) h5;have HF0:O (CU l (AJ m ps code) (c:Int) (AJ m ps ((AL m code).getD k 0)) ((AL m code).getD k 0) 0=[]):=rfl;have HFS:O (∀d:Nat,CU l (AJ m ps code) (c:Int) (AJ m ps ((AL m code).getD k 0)) ((AL m code).getD k 0) (d+1)=if A8 l (AJ m ps code) (c:Int) (AJ m ps ((AL m code).getD k 0)) (d:Int)=true then CU l (AJ m ps code) (c:Int) (AJ m ps ((AL m code).getD k 0)) ((AL m code).getD k 0) d++[((AL m code).getD k 0,(d:Int))]else CU l (AJ m ps code) (c:Int) (AJ m ps ((AL m code).getD k 0)) ((AL m code).getD k 0) d):=fun _=>rfl;have HFl:O (∀d,(CU l (AJ m ps code) (c:Int) (AJ m ps ((AL m code).getD k 0)) ((AL m code).getD k 0) d).length<=d):=IX _ _ _ _ _;have HStk:O (∀(w' w'':Q) (v:L),Al Pz w' m ps l ((AL m code).getD k 0) v->Ce w' bs bl->Sk bs bl w' w''->Al Pz w'' m ps l ((AL m code).getD k 0) v):=fun w' w'' v h1 h2 h3=>h1.sk h3 h2;have HStg:O (∀(w' w'':Q) (v:L) (own:Option Nat),Al Pz w' m ps l ((AL m code).getD k 0) v->w'.grownBy w'' own->(∀g,own=W g->∃cs fr,w'.heap[g]? = W (U cs 82 fr))->Al Pz w'' m ps l ((AL m code).getD k 0) v):=fun w' w'' v own h1 h2 h3=>h1.grown h2 h3;have HStb:O (∀(w':Q) (v:L) (o:Obj),Al Pz w' m ps l ((AL m code).getD k 0) v->Al Pz (w'.alloc o) m ps l ((AL m code).getD k 0) v):=fun w' v o h1=>h1.below ((qD _ _).alloc (qB _) o);generalize CU l (AJ m ps code) (c:Int) (AJ m ps ((AL m code).getD k 0)) ((AL m code).getD k 0)=ft at *;generalize hfr:(fun d:Nat=>A8 l (AJ m ps code) (c:Int) (AJ m ps ((AL m code).getD k 0)) (d:Int))=fr at *
   have HFr:O (∀d:Nat,A8 l (AJ m ps code) (c:Int) (AJ m ps ((AL m code).getD k 0)) (d:Int)=fr d):=fun d=>by rw[<-hfr]
   generalize hstk:(fun(w':Q) (v:L)=>Al Pz w' m ps l ((AL m code).getD k 0) v)=SK at *
   have HSK:O (∀(w':Q) (v:L),Al Pz w' m ps l ((AL m code).getD k 0) v↔SK w' v):=fun w' v=>by rw[<-hstk]
   clear hfr hstk;have hst':C qA 61 #[G (W ⟨B,0,X⟩),.int V ((AL m code).getD k 0)] wr fun e w''=>∃lo lc no nn2 nc so sc,e=I (H #[J #[Y lo pn lc,Y no nn2 nc,Y so N sc],.int V 0])/\O (Sk bs bl wr w''/\SvOk Pz w0 w'' B bs bl (n+1+k*65+1) va vr pv fv m ps l ho hc/\SK w'' (J #[Y lo pn lc,Y no nn2 nc,Y so N sc])):=hst.mono fun e w'' ⟨a1,a2,a3,a4,a5,a6,a7,h1,h2⟩=>⟨a1,a2,a3,a4,a5,a6,a7,h1,h2.out.1,h2.out.2.1,(HSK.out _ _).1 h2.out.2.2⟩;clear hst HInt HSt HNx HBt HB0;generalize(AL m code).getD k 0=cd at *;clear hsvr HSp
   go_wp2_with (first|(go_at_call 61;refine hst'.mono ?_;rintro e w3 ⟨lo2,lc2,no2,nn2,nc2,so2,sc2,rfl,HR3⟩;have hcl:=HCl.out _ _ (HR3.out.2.1.below ((qD w3.heap.size w3).alloc (qB _) (U #[Y lo2 pn lc2,Y no2 nn2 nc2,Y so2 N sc2] 148))))|(go_at_call 32;refine hcl.mono ?_;rintro e w4 ⟨rfl,hw4⟩))
   have hbA:M w3.heap.size w3 (w3.alloc (U #[Y lo2 pn lc2,Y no2 nn2 nc2,Y so2 N sc2] 148)):=(qD _ _).alloc (qB _) _;have HIn:O (SpO (w3.alloc (U #[Y lo2 pn lc2,Y no2 nn2 nc2,Y so2 N sc2] 148)) Wb.heap.size (Y po pk pc) (bt k)/\Sk bs bl Wb (w3.alloc (U #[Y lo2 pn lc2,Y no2 nn2 nc2,Y so2 N sc2] 148))/\SvOk Pz w0 (w3.alloc (U #[Y lo2 pn lc2,Y no2 nn2 nc2,Y so2 N sc2] 148)) B bs bl (n+1+k*65+1) va vr pv fv m ps l ho hc/\SK (w3.alloc (U #[Y lo2 pn lc2,Y no2 nn2 nc2,Y so2 N sc2] 148)) (J #[Y lo2 pn lc2,Y no2 nn2 nc2,Y so2 N sc2])/\Bx3 (w3.alloc (U #[Y lo2 pn lc2,Y no2 nn2 nc2,Y so2 N sc2] 148)) w3.heap.size (Y lo2 pn lc2) (Y no2 nn2 nc2) (Y so2 N sc2)):=
    ⟨(HSpk.out w3 HR3.out.1).later hbA (qB _),(hskr.trans HR3.out.1).trans (Sk.of hbA),HR3.out.2.1.below hbA,(HSK.out _ _).1 (HStb.out _ _ _ ((HSK.out _ _).2 HR3.out.2.2)),Bx3.new _ _ _ _⟩
   clear HR3 HSpk hst' hcl hbA HStb;generalize w3.alloc (U #[Y lo2 pn lc2,Y no2 nn2 nc2,Y so2 N sc2] 148)=Wc at *;have HSKk:O (∀(w' w'':Q) (v:L),SK w' v->Ce w' bs bl->Sk bs bl w' w''->SK w'' v):=fun w' w'' v h1 h2 h3=>(HSK.out _ _).1 (HStk.out w' w'' v ((HSK.out _ _).2 h1) h2 h3)
   have HSKg:O (∀(w' w'':Q) (v:L) (own:Option Nat),SK w' v->w'.grownBy w'' own->(∀g,own=W g->∃cs fr,w'.heap[g]? = W (U cs 82 fr))->SK w'' v):=fun w' w'' v own h1 h2 h3=>(HSK.out _ _).1 (HStg.out w' w'' v own ((HSK.out _ _).2 h1) h2 h3);have HSKa:O (∀(w':Q) (v:L) (o:Obj),SK w' v->SK (w'.alloc o) v):=fun w' v o h1=>HSKg.out w' (w'.alloc o) v X h1 (World.grownBy_alloc w' o X) (fun g e=>by simp at e);have HFk2:O (∀(w':Q) (n' d:Nat),n'<1000000000000->d<N->SvOk Pz w0 w' B bs bl n' va vr pv fv m ps l ho hc->Sk bs bl Wb w'->SK w' (J #[Y lo2 pn lc2,Y no2 nn2 nc2,Y so2 N sc2])->C qA 62 #[G (W ⟨B,0,X⟩),J #[Y lo pn lc,Y (W ⟨nb,noff,X⟩) nn nc,Y so N sc],.int V (c:Int),J #[Y lo2 pn lc2,Y no2 nn2 nc2,Y so2 N sc2],.int V (d:Int)] w' fun e w''=>e=I (H #[F (fr d),.int V 0])/\O (Sk bs bl w' w''/\SvOk Pz w0 w'' B bs bl (n'+1) va vr pv fv m ps l ho hc)):=fun w' n' d h1 h2 h3 h4 h5=>by
    have:=HFk.out w' n' d lo2 no2 so2 lc2 nn2 nc2 sc2 h1 h2 h3 h4 ((HSK.out _ _).2 h5);rw[HFr.out]at this;exact this
   have HFS2:O (∀d:Nat,ft (d+1)=if fr d=true then ft d++[(cd,(d:Int))]else ft d):=fun d=>by
    have:=HFS.out d;rw[HFr.out]at this;exact this
   clear HFk HFS HFr HSK HStk HStg HFo;go_loopw [8,44] (fun u i wr2=>∃d:Nat,d<=N/\i=.int V d/\(∃po pk2 pc,u=Y po pk2 pc/\pk2<=pk+d/\O ((bt k++ft d).length=pk2/\SpO wr2 Wb.heap.size (Y po pk2 pc) (bt k++ft d)))/\O (Sk bs bl Wb wr2/\SvOk Pz w0 wr2 B bs bl (n+1+k*65+1+d) va vr pv fv m ps l ho hc/\SK wr2 (J #[Y lo2 pn lc2,Y no2 nn2 nc2,Y so2 N sc2])/\Bx3 wr2 w3.heap.size (Y lo2 pn lc2) (Y no2 nn2 nc2) (Y so2 N sc2))) (fun _ i _=>N-(intOf i).toNat)
   case atStart=>exact⟨0,qJ _,rfl,⟨po,pk,pc,rfl,qB _,by rw[HF0.out,vN];exact HSl.out,by rw[HF0.out,vN];exact HIn.out.1⟩,HIn.out.2⟩
   case round=>
    obtain⟨d,hdN,rfl,⟨po2,pk2,pc2,rfl,hpk2,HSp2⟩,HS2⟩:=hrel;by_cases hd:d<N
    .obtain ⟨hsk2,hsv2,hSK2,hbx2⟩:=HS2.out;have hfo:=HFk2.out _ (n+1+k*65+1+d) d (by omega) hd hsv2 hsk2 hSK2;obtain⟨⟨x0,x1,x2⟩,x3⟩:=HBxb.out _ hsk2;obtain⟨⟨z0,z1,z2⟩,_⟩:=id hbx2;have htw2:=hsv2.two;have HE:=(show O _ from HFS2.out d);have HNx2:O (∀w',Sk bs bl wr w'->SpO w' Wb.heap.size (Y po2 pk2 pc2) (bt k++ft d)/\Sk bs bl Wb w'/\SK w' (J #[Y lo2 pn lc2,Y no2 nn2 nc2,Y so2 N sc2])/\Bx3 w' w3.heap.size (Y lo2 pn lc2) (Y no2 nn2 nc2) (Y so2 N sc2)):=fun w' h=>⟨HSp2.out.2.sk h htw2,hsk2.trans h,HSKk.out _ _ _ hSK2 htw2 h,hbx2.sk h htw2⟩;have HSl2:O ((bt k++ft d).length=pk2):=HSp2.out.1;clear hskr;cases hfd:fr d with
     |false=>
      rw[hfd]at hfo HE;have HE2:O (ft (d+1)=ft d):=by have:=HE.out;rw[if_neg (by simp)]at this;exact this
      clear HE hsv2 hSK2 hbx2 HSp2 HS2 hfd;go_wp2_with (first|(go_at_call 62;refine hfo.mono ?_;rintro e w5 ⟨rfl,HR5⟩))
      obtain⟨q1,q2,q3,q4⟩:=HNx2.out _ HR5.out.1;have HQ:=(show O (SpO w5 Wb.heap.size (Y po2 pk2 pc2) (bt k++ft d)/\Sk bs bl Wb w5/\SvOk Pz w0 w5 B bs bl (n+1+k*65+1+d+1) va vr pv fv m ps l ho hc/\SK w5 (J #[Y lo2 pn lc2,Y no2 nn2 nc2,Y so2 N sc2])/\Bx3 w5 w3.heap.size (Y lo2 pn lc2) (Y no2 nn2 nc2) (Y so2 N sc2))from⟨q1,q2,HR5.out.2,q3,q4⟩);clear q1 q2 q3 q4 HR5;go_roundw
      case rel=>exact⟨d+1,by omega,by go_num,⟨po2,pk2,pc2,rfl,by omega,by rw[HE2.out];exact HSl2.out,by rw[HE2.out];exact HQ.out.1⟩,HQ.out.2⟩
      case measure=>simp[intOf];omega
     |true=>
      rw[hfd]at hfo HE;have HE2:O (ft (d+1)=ft d++[(cd,(d:Int))]):=by have:=HE.out;rw[if_pos rfl]at this;exact this
      clear HE hsv2 hSK2 hbx2 HSp2 HS2 hfd;go_wp2_with (first|(go_at_call 62;refine hfo.mono ?_;rintro e w5 ⟨rfl,HR5⟩;obtain⟨q1,q2,q3,q4⟩:=HNx2.out _ HR5.out.1;have HQ:=(show O (SpO w5 Wb.heap.size (Y po2 pk2 pc2) (bt k++ft d)/\Sk bs bl Wb w5/\SvOk Pz w0 w5 B bs bl (n+1+k*65+1+d+1) va vr pv fv m ps l ho hc/\SK w5 (J #[Y lo2 pn lc2,Y no2 nn2 nc2,Y so2 N sc2])/\Bx3 w5 w3.heap.size (Y lo2 pn lc2) (Y no2 nn2 nc2) (Y so2 N sc2))from⟨q1,q2,HR5.out.2,q3,q4⟩);clear q1 q2 q3 q4 HR5;have hsp5:=HQ.out.1;have hsz5:=HQ.out.2.1.size)|(at_builtin;refine MZ cd (d:Int) rfl _ _ rfl Wb.heap.size pk2 pc2 po2 (bt k++ft d) HSl2.out rfl hsp5 rfl (by omega) hsz5 ?_;intro vo6 cap6 w6 ho6 hb6 hg6))
      have hown:=hsp5.own (U #[E V cd,.int V (d:Int)] 82);have HQ6:O (SpO w6 Wb.heap.size (.slice vo6 (pk2+1) cap6) (bt k++ft d++[(cd,(d:Int))])/\Sk bs bl Wb w6/\SvOk Pz w0 w6 B bs bl (n+1+k*65+1+d+1) va vr pv fv m ps l ho hc/\SK w6 (J #[Y lo2 pn lc2,Y no2 nn2 nc2,Y so2 N sc2])/\Bx3 w6 w3.heap.size (Y lo2 pn lc2) (Y no2 nn2 nc2) (Y so2 N sc2)):=by
       have ha:M w5.heap.size w5 (w5.alloc (U #[E V cd,.int V (d:Int)] 82)):=(qD _ _).alloc (qB _) _;refine⟨ho6,HQ.out.2.1.after hb6,(HQ.out.2.2.1.below ha).spots hg6 (fun g e=>?_),HSKg.out _ _ _ _ (HSKa.out _ _ _ HQ.out.2.2.2.1) hg6 (fun g e=>(hown g e).2),(HQ.out.2.2.2.2.below ha).grown hg6 (fun g e=>(hown g e).2)⟩;obtain⟨h1,h2⟩:=hown g e;have:=HSkb.out.size;exact⟨by omega,by omega,h2⟩
      clear hown ho6 hb6 hg6 hsp5 HQ;go_wp2_with fail
      go_roundw
      case rel=>exact⟨d+1,by omega,by go_num,⟨vo6,pk2+1,cap6,rfl,by omega,by rw[HE2.out,<-qZ,qF,HSl2.out];rfl,by rw[HE2.out,<-qZ];exact HQ6.out.1⟩,HQ6.out.2⟩
      case measure=>simp[intOf];omega
    .obtain rfl:d=N:=by omega
     have HSl2:O ((bt (k+1)).length=pk2/\SpO wr Wb.heap.size (Y po2 pk2 pc2) (bt (k+1))):=by rw[HBk.out];exact HSp2.out
     have HS3:O (Sk bs bl Wb wr/\SvOk Pz w0 wr B bs bl (n+1+(k+1)*65) va vr pv fv m ps l ho hc):=⟨HS2.out.1,HS2.out.2.1.mono (by omega)⟩;clear HSp2 HS2;go_wp2_with fail
     go_roundw
     case rel=>exact⟨k+1,by omega,by go_num,⟨po2,pk2,pc2,rfl,by omega,HSl2.out.1,HSl2.out.2⟩,HS3⟩
     case measure=>simp[intOf];omega
  .obtain rfl:k=nn:=by omega
   have HSl:O ((bt k).length=pk):=HSp.out.1;have HSpp:O (SpO wr Wb.heap.size (Y po pk pc) (bt k)):=HSp.out.2;have hwb:w.heap.size<=Wb.heap.size:=HSkb.out.size;clear HSp;go_wp2_with fail
   go_ret2;exact⟨HSkb.out.trans HSS.out.1,HSS.out.2.mono (by omega),.inl ⟨HW.out,po,pc,by rw[HSl.out];rfl,by rw[HSl.out];exact A0 HSpp.out hwb⟩⟩
section
variable{w w1 w2:Q}{base A lm:Nat}{S:List (Int×Int)}{N:List (List Int)}{T:List Int}{init many:Int}{sv nv tv nv' tv':L}
theorem AtX.appN{us:List L}{r:List Int}{ao:Option Addr}{c:Nat}(h:AtX w1 base A lm S N T init many sv nv tv)(hus:w1.ownsRow base 43 1 nv N.length us/\us.length=N.length/\∀i,i<N.length->∃ao c,us.getD i (Y X 0 0)=.slice ao (N.getD i []).length c/\IntsV w1 (.slice ao (N.getD i []).length c) (N.getD i [])/\Ae w1 (.slice ao (N.getD i []).length c) 3/\∀a,ao=W a->tv.ownBlock≠W a.block/\base<=a.block)
    (hr:IntsV w1 (.slice ao r.length c) r) (hty:Ae w1 (.slice ao r.length c) 3) (hap:∀a,ao=W a->tv.ownBlock≠W a.block/\base<=a.block) (hg:w1.grownBy w2 nv.ownBlock) (ho:w2.ownsRow base 43 1 nv' (N.length+1) (us++[.slice ao r.length c])):AtX (w2.setCell ⟨A,2,X⟩ nv') base A lm S (N++[r]) T init many sv nv' tv:=by
  obtain⟨n1,n2,n3⟩:=hus;obtain⟨es,cl,em⟩:=h.lies.isMap;have hc:Chg (fun i=>i=A\/nv.ownBlock=W i) w1 (w2.setCell ⟨A,2,X⟩ nv'):=((Chg.grown hg).weaken (fun i _ e=>.inr e)).trans2 (Chg.setCell w2 _ _) (fun i _ e=>.inl e);have hno:∀i t,(i=A\/nv.ownBlock=W i)->TyB w1 i t->t=78\/t=43:=fun i t z ht=>by
    rcases z with rfl|e
    . exact .inl (ht.eq h.ty)
    . exact .inr (ht.eq (Au n1 e).2)
  have hni:∀i,(i=A\/nv.ownBlock=W i)->¬TyB w1 i 3:=fun i z ht=>by
    rcases hno i _ z ht with e|e
    . exact absurd e (by decide)
    . exact absurd e (by decide)
  have hns:∀i,(i=A\/nv.ownBlock=W i)->¬TyB w1 i 82:=fun i z ht=>by
    rcases hno i _ z ht with e|e
    . exact absurd e (by decide)
    . exact absurd e (by decide)
  have hnm:∀i,(i=A\/nv.ownBlock=W i)->i≠lm:=fun i z e=>by
    subst e;rcases z with rfl|e
    . exact h.ty.no_map em
    . exact(Au n1 e).2.no_map em
  have hbx:w2.heap[A]? = W (atB sv nv tv init many lm):=(hg.block A h.lt fun e=>by have:=h.ty.eq (Au n1 e.symm).2;exact absurd this (by decide)).trans h.box;have hA2:TyB w2 A 78:=⟨_,_,hbx⟩;refine⟨OI w2 hbx nv',h.bA,h.bl,h.lies.kept (hc.block lm h.lies.lt (fun z=>hnm _ z rfl)),BT h.sp hc (fun g e z=>hns g z (Au h.sp e).2),⟨us++[.slice ao r.length c],?_,by simp[n2],fun i hi=>?_⟩,BT h.st hc (fun g e z=>hni g z (Au h.st e).2)⟩
  . rw[qF,vU]
    exact BT ho (Chg.setCell w2 _ _) (fun g e z=>by
      have h1:=(Au ho e).2;have z':g=A:=z;subst z';exact absurd (h1.eq hA2) (by decide))
  . have hget:∀(α:Type) (x y:List α) (d:α) (j:Nat),(x++y).getD j d=if j<x.length then x.getD j d else y.getD (j-x.length) d:=fun α x y d j=>by
      by_cases hj:j<x.length
      . rw[if_pos hj];simp[qC,qX hj]
      . rw[if_neg hj];simp[qC,List.getElem?_append_right (Nat.le_of_not_lt hj)]
    by_cases hlt:i<N.length
    . obtain⟨ao',c',e1,e2,e3,e4⟩:=n3 i hlt
      have hz:∀a,ao'=W a->¬(a.block=A\/nv.ownBlock=W a.block):=fun a e z=>hni _ z (by subst e;exact e3.ty);rw[hget,hget,n2,if_pos hlt,if_pos hlt];exact⟨ao',c',e1,e2.chg hc hz,e3.chg hc hz,e4⟩
    . have hi2:i=N.length:=by simp at hi;omega
      have hz:∀a,ao=W a->¬(a.block=A\/nv.ownBlock=W a.block):=fun a e z=>hni _ z (by subst e;exact hty.ty);rw[hget,hget,n2,if_neg hlt,if_neg hlt,hi2,Nat.sub_self];exact⟨ao,c,rfl,hr.chg hc hz,hty.chg hc hz,hap⟩
theorem AtX.appT{x:Int}(h:AtX w1 base A lm S N T init many sv nv tv)(hg:w1.grownBy w2 tv.ownBlock)(ho:w2.ownsRow base 3 1 tv' (T.length+1) (AB T++[.int V x]))(hown:tv'.ownBlock=tv.ownBlock\/∃g,tv'.ownBlock=W g/\w1.heap.size<=g):AtX (w2.setCell ⟨A,3,X⟩ tv') base A lm S N (T++[x]) init many sv nv tv':=by
 obtain⟨us,n1,n2,n3⟩:=id h.nx;obtain⟨es,cl,em⟩:=h.lies.isMap;have hc:Chg (fun i=>i=A\/tv.ownBlock=W i) w1 (w2.setCell ⟨A,3,X⟩ tv'):=((Chg.grown hg).weaken (fun i _ e=>.inr e)).trans2 (Chg.setCell w2 _ _) (fun i _ e=>.inl e);have hno:∀i t,(i=A\/tv.ownBlock=W i)->TyB w1 i t->t=78\/t=3:=fun i t z ht=>by
  rcases z with rfl|e
  .exact .inl (ht.eq h.ty)
  .exact .inr (ht.eq (Au h.st e).2)
 have hnl:∀i,(i=A\/tv.ownBlock=W i)->¬TyB w1 i 43:=fun i z ht=>by
  rcases hno i _ z ht with e|e
  .exact absurd e (by decide)
  .exact absurd e (by decide)
 have hns:∀i,(i=A\/tv.ownBlock=W i)->¬TyB w1 i 82:=fun i z ht=>by
  rcases hno i _ z ht with e|e
  .exact absurd e (by decide)
  .exact absurd e (by decide)
 have hnm:∀i,(i=A\/tv.ownBlock=W i)->i≠lm:=fun i z e=>by
  subst e;rcases z with rfl|e
  .exact h.ty.no_map em
  .exact (Au h.st e).2.no_map em
 have hbx:w2.heap[A]? = W (atB sv nv tv init many lm):=(hg.block A h.lt fun e=>by have:=h.ty.eq (Au h.st e.symm).2;exact absurd this (by decide)).trans h.box;have hA2:TyB w2 A 78:=⟨_,_,hbx⟩;refine⟨OJ w2 hbx tv',h.bA,h.bl,h.lies.kept (hc.block lm h.lies.lt (fun z=>hnm _ z rfl)),BT h.sp hc (fun g e z=>hns g z (Au h.sp e).2),⟨us,BT n1 hc (fun g e z=>hnl g z (Au n1 e).2),n2,fun i hi=>?_⟩,?_⟩
 .obtain ⟨ao',c',e1,e2,e3,e4⟩:=n3 i hi;have hz:∀a,ao'=W a->¬(a.block=A\/tv.ownBlock=W a.block):=fun a e z=>by
   rcases z with z|z
   .subst e;have:=e3.ty;rw[z]at this;exact absurd (this.eq h.ty) (by decide)
   .exact (e4 a e).1 z
  refine⟨ao',c',e1,e2.chg hc hz,e3.chg hc hz,fun a e=>⟨fun e5=>?_,(e4 a e).2⟩⟩;rcases hown with h1|⟨g,h1,h2⟩
  .rw[h1]at e5;exact(e4 a e).1 e5
  .rw[h1]at e5;injection e5 with e5;subst e;have:=e3.ty.lt;omega
 .have e:AB (T++[x])=AB T++[.int V x]:=by simp[AB]
  rw[e,qF,vU];exact BT ho (Chg.setCell w2 _ _) (fun g e z=>by
   have h1:=(Au ho e).2;have z':g=A:=z;subst z';exact absurd (h1.eq hA2) (by decide))
end
section
variable{Pz Pz':Nat -> Prop}{w0 w w':Q}{B bs bl n:Nat}{va vr pv fv:L}{m:Mo}{ps:List (List (Int×Int))}{l:List (Int×Int)}{ho:Option Addr}{hc:Nat}
theorem SvOk.chg2{Z:Nat->Prop}(h:SvOk Pz w0 w B bs bl n va vr pv fv m ps l ho hc)(hs:Chg Z w w')(hz:∀i,Z i->w0.heap.size<=i/\i≠B/\i≠bs/\i≠bl/\¬TyB w i 4/\(TyB w i 3->¬Pz i))(hp:∀b,b<w.heap.size->Pz b->Pz' b)(hup:∀b,w'.heap.size<=b->Pz' b):SvOk Pz' w0 w' B bs bl n va vr pv fv m ps l ho hc:=by
 have k:=h.chg hs hz;obtain⟨f,h1,h2⟩:=h.st;have zs:¬Z bs:=fun z=>(hz _ z).2.2.1 rfl;refine⟨k.box,k.bel,k.lo1,k.lo2,k.ne,k.ah,k.aty,hup,fun a e=>hp _ (by have:=h.aty;rw[e]at this;exact this.ty.lt) (h.aP a e),⟨f,h1.chg hs zs,fun kl v hv=>?_⟩,k.li⟩;obtain⟨code,e1,e2,e3⟩:=h2 kl v hv;obtain⟨lo,lc,no,nc,so,sc,g1,g2,g3,g4,g5,g6,g7,g8,g9⟩:=e3.chg hs fun i z=>(hz i z).2.2.2.2;obtain⟨lo',lc',no',nc',so',sc',g1',_,_,_,_,g6',g7',_,_⟩:=e3;rw[g1]at g1';simp only[Value.agg.injEq,Array.mk.injEq,List.cons.injEq,Value.slice.injEq,and_true,true_and]at g1';obtain⟨⟨rfl,rfl⟩,⟨rfl,rfl⟩,rfl,rfl⟩:=g1';exact⟨code,e1,e2,lo,lc,no,nc,so,sc,g1,g2,g3,g4,g5,g6,g7,fun a e=>by subst e;exact hp _ g6'.ty.lt (g8 a rfl),fun a e=>by subst e;exact hp _ g7'.ty.lt (g9 a rfl)⟩
end
def I5(tv:L):Nat->Prop:=fun b=>tv.ownBlock≠W b
structure ExW(w0 w:Q)(base A lm B bs bl n:Nat)(va vr pv fv:L)(m:Mo)(ps:List (List (Int×Int)))(l:List (Int×Int))(ho:Option Addr)(hc:Nat)(S:List (Int×Int))(N:List (List Int))(T:List Int)(init many:Int)(sv nv tv:L):Prop where
 su:SvOk (I5 tv) w0 w B bs bl n va vr pv fv m ps l ho hc
 tl:AtX w base A lm S N T init many sv nv tv
 lo:w0.heap.size<=base/\B<base/\bs<base/\bl<base
section
variable{w0 w w' w1 w2:Q}{base A lm B bs bl n n':Nat}{va vr pv fv:L}{m:Mo}{ps:List (List (Int×Int))}{l:List (Int×Int)}{ho:Option Addr}{hc:Nat}{S S':List (Int×Int)}{N:List (List Int)}{T:List Int}{init many:Int}{sv sv' nv tv nv' tv':L}
theorem ExW.below(h:ExW w0 w base A lm B bs bl n va vr pv fv m ps l ho hc S N T init many sv nv tv)(hb:M w.heap.size w w'):ExW w0 w' base A lm B bs bl n va vr pv fv m ps l ho hc S N T init many sv nv tv:=⟨h.su.below hb,h.tl.below hb,h.lo⟩
theorem ExW.call(h:ExW w0 w base A lm B bs bl n va vr pv fv m ps l ho hc S N T init many sv nv tv)(hs:Sk bs bl w w')(hv:SvOk (I5 tv) w0 w' B bs bl n' va vr pv fv m ps l ho hc):ExW w0 w' base A lm B bs bl n' va vr pv fv m ps l ho hc S N T init many sv nv tv:=
 ⟨hv,h.tl.sk hs h.su.two (by have:=h.tl.bl;have:=h.lo;omega) (by have:=h.tl.bl;have:=h.lo;omega),h.lo⟩
theorem ExW.far(h:ExW w0 w base A lm B bs bl n va vr pv fv m ps l ho hc S N T init many sv nv tv){i:Nat}(hi:base<=i):w0.heap.size<=i/\i≠B/\i≠bs/\i≠bl:=by
 have:=h.lo;omega
theorem ExW.put(h:ExW w0 w base A lm B bs bl n va vr pv fv m ps l ho hc S N T init many sv nv tv)(hs:Chg (atZ A lm sv) w w')(hX:AtX w' base A lm S' N T init many sv' nv tv):ExW w0 w' base A lm B bs bl n va vr pv fv m ps l ho hc S' N T init many sv' nv tv:=by
 refine⟨h.su.chg hs fun i z=>?_,hX,h.lo⟩;obtain⟨es,c,em⟩:=h.tl.lies.isMap;rcases z with rfl|rfl|e
 .obtain ⟨a,b,c,d⟩:=h.far h.tl.bA;exact⟨a,b,c,d,fun ht=>absurd (ht.eq h.tl.ty) (by decide),fun ht=>absurd (ht.eq h.tl.ty) (by decide)⟩
 .obtain ⟨a,b,c,d⟩:=h.far h.tl.bl;exact⟨a,b,c,d,fun ht=>absurd em ht.no_map,fun ht=>absurd em ht.no_map⟩
 .obtain ⟨o1,o2⟩:=Au h.tl.sp e;obtain⟨a,b,c,d⟩:=h.far o1;exact⟨a,b,c,d,fun ht=>absurd (ht.eq o2) (by decide),fun ht=>absurd (ht.eq o2) (by decide)⟩
theorem ExW.appN{us:List L}{r:List Int}{ao:Option Addr}{c:Nat}(h:ExW w0 w1 base A lm B bs bl n va vr pv fv m ps l ho hc S N T init many sv nv tv)(hus:w1.ownsRow base 43 1 nv N.length us/\us.length=N.length/\∀i,i<N.length->∃ao c,us.getD i (Y X 0 0)=.slice ao (N.getD i []).length c/\IntsV w1 (.slice ao (N.getD i []).length c) (N.getD i [])/\Ae w1 (.slice ao (N.getD i []).length c) 3/\∀a,ao=W a->tv.ownBlock≠W a.block/\base<=a.block)
  (hr:IntsV w1 (.slice ao r.length c) r) (hty:Ae w1 (.slice ao r.length c) 3) (hap:∀a,ao=W a->tv.ownBlock≠W a.block/\base<=a.block) (hg:w1.grownBy w2 nv.ownBlock) (ho':w2.ownsRow base 43 1 nv' (N.length+1) (us++[.slice ao r.length c])):ExW w0 (w2.setCell ⟨A,2,X⟩ nv') base A lm B bs bl n va vr pv fv m ps l ho hc S (N++[r]) T init many sv nv' tv:=by
 have hch:Chg (fun i=>i=A\/nv.ownBlock=W i) w1 (w2.setCell ⟨A,2,X⟩ nv'):=((Chg.grown hg).weaken (fun i _ e=>.inr e)).trans2 (Chg.setCell w2 _ _) (fun i _ e=>.inl e);refine⟨h.su.chg hch fun i z=>?_,h.tl.appN hus hr hty hap hg ho',h.lo⟩;rcases z with rfl|e
 .obtain ⟨a,b,c,d⟩:=h.far h.tl.bA;exact⟨a,b,c,d,fun ht=>absurd (ht.eq h.tl.ty) (by decide),fun ht=>absurd (ht.eq h.tl.ty) (by decide)⟩
 .obtain ⟨o1,o2⟩:=Au hus.1 e;obtain⟨a,b,c,d⟩:=h.far o1;exact⟨a,b,c,d,fun ht=>absurd (ht.eq o2) (by decide),fun ht=>absurd (ht.eq o2) (by decide)⟩
theorem ExW.appT{x:Int}(h:ExW w0 w1 base A lm B bs bl n va vr pv fv m ps l ho hc S N T init many sv nv tv)(hg:w1.grownBy w2 tv.ownBlock)(ho':w2.ownsRow base 3 1 tv' (T.length+1) (AB T++[.int V x]))(hown:tv'.ownBlock=tv.ownBlock\/∃g,tv'.ownBlock=W g/\w1.heap.size<=g):ExW w0 (w2.setCell ⟨A,3,X⟩ tv') base A lm B bs bl n va vr pv fv m ps l ho hc S N (T++[x]) init many sv nv tv':=by
 have hch:Chg (fun i=>i=A\/tv.ownBlock=W i) w1 (w2.setCell ⟨A,3,X⟩ tv'):=((Chg.grown hg).weaken (fun i _ e=>.inr e)).trans2 (Chg.setCell w2 _ _) (fun i _ e=>.inl e);have hX:=h.tl.appT hg ho' hown;refine⟨h.su.chg2 hch (fun i z=>?_) (fun b hb hp=>?_) (fun b hb e=>?_),hX,h.lo⟩
 .rcases z with rfl|e
  .obtain ⟨a,b,c,d⟩:=h.far h.tl.bA;exact⟨a,b,c,d,fun ht=>absurd (ht.eq h.tl.ty) (by decide),fun ht=>absurd (ht.eq h.tl.ty) (by decide)⟩
  .obtain ⟨o1,o2⟩:=Au h.tl.st e;obtain⟨a,b,c,d⟩:=h.far o1;exact⟨a,b,c,d,fun ht=>absurd (ht.eq o2) (by decide),fun _ hp=>hp e⟩
 .intro e;rcases hown with h1|⟨g,h1,h2⟩
  .rw[h1]at e;exact hp e
  .rw[h1]at e;injection e with e;omega
 .have:=(Au hX.st e).2.lt;omega
end
