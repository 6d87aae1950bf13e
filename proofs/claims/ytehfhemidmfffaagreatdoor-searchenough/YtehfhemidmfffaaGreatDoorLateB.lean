/- Joined texts. -/
import Derived.Test.YtehfhemidmfffaaGreatDoorLateA
import Derived.Maps.Own
open Go renaming World→N,Value→G,Calls→J
open Go.Ending renaming returned→O
open Go.IntKind renaming i64→T
open Go.Obj renaming cells→C
open Go.RowKit renaming Below→S,Hid→E
open Go.Value renaming slice→U,agg→ZY,tuple→ZZ,pointer→I,int→ZW
open _root_.Bool renaming false→ZX
open _root_.Option renaming none→Z,some→V
namespace Go.Proofs.YtehfhemidmfffaaGreatDoor
open _root_.Array renaming getElem?_eq_some_iff→qG
open Go.RowKit.Below renaming refl→qD
open _root_.Int renaming pow_pos→jY,pow_succ→kM
open _root_.List renaming append_assoc→qZ,getD_eq_getElem?_getD→qC,length_map→qO,length_range→q8
open _root_.Nat renaming le_refl→qB,le_succ→vD,le_trans→qI,lt_of_lt_of_le→qE,lt_succ_self→qY,zero_le→qJ
open Go.Proofs.Tryz renaming prog→qA
open Go.ChangeShapes Go.WideShapes Go.ChangeAt Go.RowKit Go.Deep
open Terms Tm
set_option maxHeartbeats 6400000
set_option maxRecDepth 20000
noncomputable def Ad(m:Mo)(ps:List (List (Int×Int)))(l:List (Int×Int)):Int:=if CM m ps≠0 then CM m ps else Aa ps.length l
structure TaskV(w:N)(va vr pv fv:G)(m:Mo)(ps:List (List (Int×Int)))(l:List (Int×Int)):Prop where
 mo:Av w va vr m
 ps:TermsV w pv ps
 fo:OpsV w fv l
theorem TaskV.below{w w':N}{va vr pv fv:G}{m:Mo}{ps:List (List (Int×Int))}{l:List (Int×Int)}(h:TaskV w va vr pv fv m ps l)(hb:S w.heap.size w w'):TaskV w' va vr pv fv m ps l:=⟨h.mo.below hb,h.ps.below hb,h.fo.below hb⟩
theorem ML(va vr pv fv:G)(m:Mo)(ps:List (List (Int×Int)))(l:List (Int×Int))(w:N)(hB:0<w.heap.size)(hT:AH w)(hV:TaskV w va vr pv fv m ps l) :
  J qA 28 #[ZY #[va,vr,pv,fv]] w fun e w'=>e=O (.int T (Ad m ps l))/\S w.heap.size w w':=by
 have hA:∀o,S w.heap.size w (w.alloc o):=fun o=>(qD _ _).alloc (qB _) o;have HP:E (∀w1,S w.heap.size w w1->J qA 52 #[ZY #[va,vr],pv] w1 fun e w'=>e=O (.int T (CM m ps))/\S w1.heap.size w1 w'):=fun w1 h=>Lw va vr pv m ps w1 (qE hB h.size) (hT.below h hB) (hV.mo.below h) (hV.ps.below h);have HL:E (∀w1,S w.heap.size w w1->J qA 53 #[fv,.int T (ps.length:Int)] w1 fun e w'=>e=O (.int T (Aa ps.length l))/\S w1.heap.size w1 w'):=fun w1 h=>RU fv l ps.length w1 (qE hB h.size) (hT.below h hB) (hV.fo.below h);unfold Ad;obtain⟨ao,ac,rfl⟩:=hV.mo.1.shape;obtain⟨ro,rc,rfl⟩:=hV.mo.2.shape;obtain⟨po,pc,rfl⟩:=hV.ps.shape;obtain⟨fo,fc,rfl,_⟩:=id hV.fo;generalize CM m ps=x at *;generalize Aa ps.length l=y at *;generalize m.vars.length=vn at *;generalize m.rules.length=rn at *;generalize ps.length=pn at *;generalize l.length=fn at *;clear hV hT
 have hp:=HP.out _ (hA (C #[U ao vn ac,U ro rn rc,U po pn pc,U fo fn fc] 35));have HB:E (∀w1,S (w.heap.size+1) (w.alloc (C #[U ao vn ac,U ro rn rc,U po pn pc,U fo fn fc] 35)) w1->w1.cell? ⟨w.heap.size,2,Z⟩=V (U po pn pc)/\w1.cell? ⟨w.heap.size,3,Z⟩=V (U fo fn fc)):=fun w1 h=>⟨(h.cell (p:=⟨w.heap.size,2,Z⟩) (qY _)).trans (by simp[go_sem]),(h.cell (p:=⟨w.heap.size,3,Z⟩) (qY _)).trans (by simp[go_sem])⟩;by_cases hx:x=0
 .subst hx;rw[if_neg (by simp)];go_enter Tryz.func28,Tryz.ntmps28;go_wp2_with (first|(go_at_call 52;refine hp.mono ?_;rintro e w1 ⟨rfl,hb1⟩;have hbw:=(hA _).trans (hb1.mono (hA _).size);have hq:=HB.out w1 (by simpa using hb1);have k0:=hq.1;have k1:=hq.2;have hl:=HL.out w1 hbw)|(go_at_call 53;refine hl.mono ?_;rintro e w2 ⟨rfl,hb2⟩))
  go_ret;exact⟨rfl,hbw.trans (hb2.mono hbw.size)⟩
 .rw[if_pos hx];go_enter Tryz.func28,Tryz.ntmps28;go_wp2_with (go_at_call 52;refine hp.mono ?_;rintro e w1 ⟨rfl,hb1⟩;have hbw:=(hA _).trans (hb1.mono (hA _).size))
  go_ret;exact⟨rfl,hbw⟩
theorem BX{m:Mo}{ps:List (List (Int×Int))}{l:List (Int×Int)}(h:Ad m ps l=0):CM m ps=0/\Aa ps.length l=0:=by
 unfold Ad at h;split at h
 .rename_i h1;exact absurd h h1
 .rename_i h1;exact⟨by simpa using h1,h⟩
structure SurvAt(w:N)(B:Nat)(va vr pv fv av:G)(bs bl:Nat):Prop where
 lt:B<w.heap.size
 c0:w.cell? ⟨B,0,Z⟩=V va
 c1:w.cell? ⟨B,1,Z⟩=V vr
 c2:w.cell? ⟨B,2,Z⟩=V pv
 c3:w.cell? ⟨B,3,Z⟩=V fv
 c4:w.cell? ⟨B,4,Z⟩=V av
 c5:w.cell? ⟨B,5,Z⟩=V (.map (V bs))
 c6:w.cell? ⟨B,6,Z⟩=V (.map (V bl))
theorem SurvAt.later{w w':N}{B:Nat}{va vr pv fv av:G}{bs bl:Nat}(h:SurvAt w B va vr pv fv av bs bl)(hb:S w.heap.size w w'):SurvAt w' B va vr pv fv av bs bl:=
 ⟨qE h.lt hb.size,(hb.cell (p:=⟨B,0,Z⟩) h.lt).trans h.c0,(hb.cell (p:=⟨B,1,Z⟩) h.lt).trans h.c1,(hb.cell (p:=⟨B,2,Z⟩) h.lt).trans h.c2,(hb.cell (p:=⟨B,3,Z⟩) h.lt).trans h.c3,(hb.cell (p:=⟨B,4,Z⟩) h.lt).trans h.c4,(hb.cell (p:=⟨B,5,Z⟩) h.lt).trans h.c5,(hb.cell (p:=⟨B,6,Z⟩) h.lt).trans h.c6⟩
theorem SurvAt.new(w:N)(va vr pv fv av:G)(t:TypeId):SurvAt (((w.alloc (.map #[] 0)).alloc (.map #[] 0)).alloc (C #[va,vr,pv,fv,av,.map (V w.heap.size),.map (V (w.heap.size+1))] t)) (w.heap.size+2) va vr pv fv av w.heap.size (w.heap.size+1):=by
 have e:w.heap.size+2=((w.alloc (.map #[] 0)).alloc (.map #[] 0)).heap.size:=by simp
 rw[e];refine⟨by simp,?_,?_,?_,?_,?_,?_,?_⟩<;>simp[go_sem]
theorem Rn(w:N)(o:Obj):(((w.alloc (.map #[] 0)).alloc (.map #[] 0)).alloc o).heap[w.heap.size]? = V (.map #[] 0)/\(((w.alloc (.map #[] 0)).alloc (.map #[] 0)).alloc o).heap[w.heap.size+1]? = V (.map #[] 0):=by
 have h1:=(MapKept.heap_alloc w (.map #[] 0)).1;have h2:=(MapKept.heap_alloc (w.alloc (.map #[] 0)) (.map #[] 0)).1;have b1:S (w.alloc (.map #[] 0)).heap.size (w.alloc (.map #[] 0)) (((w.alloc (.map #[] 0)).alloc (.map #[] 0)).alloc o):=((qD _ _).alloc (qB _) _).alloc (by simp) _;have b2:S ((w.alloc (.map #[] 0)).alloc (.map #[] 0)).heap.size ((w.alloc (.map #[] 0)).alloc (.map #[] 0)) (((w.alloc (.map #[] 0)).alloc (.map #[] 0)).alloc o):=(qD _ _).alloc (qB _) _;refine⟨(b1.block _ (by simp)).trans h1,?_⟩;rw[World.size_alloc]at h2;exact(b2.block _ (by simp)).trans h2
def Hu(w:N)(va vr pv fv:G)(l:List (Int×Int))(e:Ending)(w':N):Prop:=
 ∃n ao ac,e=O (ZZ #[I (V ⟨n+2,0,Z⟩),.int T 0])/\S w.heap.size w w'/\w.heap.size<=n/\w'.heap.size=n+3/\E (SurvAt w' (n+2) va vr pv fv (.slice ao (AA l).length ac) n (n+1))/\E (w'.ownsRow w.heap.size 3 1 (.slice ao (AA l).length ac) (AA l).length (AB (AA l)))/\E (w'.heap[n]? = V (.map #[] 0)/\w'.heap[n+1]? = V (.map #[] 0))
theorem U3(va vr pv fv:G)(m:Mo)(ps:List (List (Int×Int)))(l:List (Int×Int))(w:N)(hB:0<w.heap.size)(hT:AH w)(hV:TaskV w va vr pv fv m ps l)(hc:Ad m ps l=0) :
  J qA 16 #[ZY #[va,vr,pv,fv]] w (Hu w va vr pv fv l):=by
 have hA:∀o,S w.heap.size w (w.alloc o):=fun o=>(qD _ _).alloc (qB _) o;obtain⟨_,hl0⟩:=BX hc;obtain⟨ao,ac,rfl⟩:=hV.mo.1.shape;obtain⟨ro,rc,rfl⟩:=hV.mo.2.shape;obtain⟨po,pc,rfl⟩:=hV.ps.shape;obtain⟨fo,fc,rfl,_⟩:=id hV.fo;have HC:E (∀w1,S w.heap.size w w1->J qA 28 #[ZY #[.slice ao m.vars.length ac,.slice ro m.rules.length rc,.slice po ps.length pc,.slice fo l.length fc]] w1 fun e w'=>e=O (.int T 0)/\S w1.heap.size w1 w'):=fun w1 h=>by
  have:=ML _ _ _ _ m ps l w1 (qE hB h.size) (hT.below h hB) (hV.below h);rw[hc]at this;exact this
 have HL:E (∀w1,S w.heap.size w w1->J qA 29 #[.slice fo l.length fc,.int T (ps.length:Int)] w1 fun e w'=>∃ho hc,e=O (ZZ #[.slice ho (AA l).length hc,.int T 0])/\S w1.heap.size w1 w'/\E (w'.ownsRow w1.heap.size 3 1 (.slice ho (AA l).length hc) (AA l).length (AB (AA l)))):=fun w1 h=>RI _ l ps.length w1 (qE hB h.size) (hT.below h hB) (hV.fo.below h) hl0;unfold Hu;generalize AB (AA l)=av at *;generalize(AA l).length=an at *;generalize m.vars.length=vn at *;generalize m.rules.length=rn at *;generalize ps.length=pn at *;generalize l.length=fn at *;clear hV hT hc hl0;have hp:=HC.out _ (hA (C #[U ao vn ac,U ro rn rc,U po pn pc,U fo fn fc] 35))
 have HB:E (∀w1,S (w.heap.size+1) (w.alloc (C #[U ao vn ac,U ro rn rc,U po pn pc,U fo fn fc] 35)) w1->w1.cell? ⟨w.heap.size,0,Z⟩=V (U ao vn ac)/\w1.cell? ⟨w.heap.size,1,Z⟩=V (U ro rn rc)/\w1.cell? ⟨w.heap.size,2,Z⟩=V (U po pn pc)/\w1.cell? ⟨w.heap.size,3,Z⟩=V (U fo fn fc)):=fun w1 h=>⟨(h.cell (p:=⟨w.heap.size,0,Z⟩) (qY _)).trans (by simp[go_sem]),(h.cell (p:=⟨w.heap.size,1,Z⟩) (qY _)).trans (by simp[go_sem]),(h.cell (p:=⟨w.heap.size,2,Z⟩) (qY _)).trans (by simp[go_sem]),(h.cell (p:=⟨w.heap.size,3,Z⟩) (qY _)).trans (by simp[go_sem])⟩;have hmm:=@run_makeMap qA;go_enter Tryz.func16,Tryz.ntmps16;go_wp2_with (first|(go_at_call 28;refine hp.mono ?_;rintro e w1 ⟨rfl,hb1⟩;have hbw:=(hA _).trans (hb1.mono (hA _).size);have hq:=HB.out w1 (by simpa using hb1);obtain⟨k0,k1,k2,k3⟩:=hq;have hl:=HL.out w1 hbw)|(go_at_call 29;refine hl.mono ?_;rintro e w2 ⟨ho,hc,rfl,hb2,HO⟩;have hbw2:=hbw.trans (hb2.mono hbw.size);obtain⟨j0,j1,j2,j3⟩:=HB.out w2 (by have:=hb1.trans (hb2.mono hb1.size);simpa using this)))
 go_ret2;have hm1:S w.heap.size w ((w2.alloc (.map #[] 0)).alloc (.map #[] 0)):=(hbw2.alloc hbw2.size _).alloc (by have:=hbw2.size;simp;omega) _;refine⟨w2.heap.size,ho,hc,by rfl,hm1.alloc hm1.size _,hbw2.size,by simp,SurvAt.new w2 _ _ _ _ _ _,?_,?_⟩
 .exact (((A0 HO.out hbw.size).alloc _).alloc _).alloc _
 .exact Rn w2 _
theorem U2(va vr pv fv:G)(m:Mo)(ps:List (List (Int×Int)))(l:List (Int×Int))(w:N)(hB:0<w.heap.size)(hT:AH w)(hV:TaskV w va vr pv fv m ps l)(hc:Ad m ps l≠0) :
  J qA 16 #[ZY #[va,vr,pv,fv]] w fun e w'=>e=O (ZZ #[I Z,.int T (Ad m ps l)])/\S w.heap.size w w':=by
 have hA:∀o,S w.heap.size w (w.alloc o):=fun o=>(qD _ _).alloc (qB _) o;obtain⟨ao,ac,rfl⟩:=hV.mo.1.shape;obtain⟨ro,rc,rfl⟩:=hV.mo.2.shape;obtain⟨po,pc,rfl⟩:=hV.ps.shape;obtain⟨fo,fc,rfl,_⟩:=id hV.fo;have hp:=ML _ _ _ _ m ps l _ (qE hB (hA (C #[.slice ao m.vars.length ac,.slice ro m.rules.length rc,.slice po ps.length pc,.slice fo l.length fc] 35)).size) (hT.below (hA _) hB) (hV.below (hA _));generalize Ad m ps l=c at *;generalize m.vars.length=vn at *;generalize m.rules.length=rn at *;generalize ps.length=pn at *;generalize l.length=fn at *;clear hV hT
 go_enter Tryz.func16,Tryz.ntmps16;go_wp2_with (first|(go_at_call 28;refine hp.mono ?_;rintro e w1 ⟨rfl,hb1⟩;have hbw:=(hA _).trans (hb1.mono (hA _).size)))
 go_ret2;exact⟨rfl,hbw⟩
theorem II(B:Nat)(va vr pv fv:G)(ao:Option Addr)(an ac bs bl:Nat)(w:N)(h6:an<=6)(hS:SurvAt w B va vr pv fv (U ao an ac) bs bl) :
  J qA 32 #[I (V ⟨B,0,Z⟩)] w fun e w'=>e=O (.int T ((2^an:Nat):Int))/\w'=w:=by
 have c4:=hS.c4;clear hS;rcases(show an=0\/an=1\/an=2\/an=3\/an=4\/an=5\/an=6 by omega)with rfl|rfl|rfl|rfl|rfl|rfl|rfl;all_goals
  go_enter Tryz.func32,Tryz.ntmps32;go_wp2;go_ret;exact⟨rfl,rfl⟩
open Go.ChangeShapes Go.WideShapes Go.ChangeAt Go.RowKit Go.Deep Go.Maps
def EP:G->Option (DataW G×List MemPlace):=fun v=>V (.held v,[])
def MapIs(w:N)(kt:TypeId)(b n:Nat)(f:Lit->Option G):Prop:=
 ∃D:DataW G,w.ownsMap qA kt EP b n D/\∀x,Maps.has D x=(f x).isSome/\∀v,f x=V v->∀z,D.atKey x z=.held v
theorem MapIs.lt{w:N}{kt:TypeId}{b n:Nat}{f:Lit->Option G}(h:MapIs w kt b n f):b<w.heap.size:=by
 obtain⟨D,h1,_⟩:=h;exact h1.lt
theorem MapIs.isMap{w:N}{kt:TypeId}{b n:Nat}{f:Lit->Option G}(h:MapIs w kt b n f):∃es c,w.heap[b]? = V (.map es c):=by
 obtain⟨D,⟨es,c,h1,_⟩,_⟩:=h;exact⟨es,c,h1⟩
theorem MapIs.new{w:N}(kt:TypeId){b:Nat}(h:w.heap[b]? = V (.map #[] 0)):MapIs w kt b 0 (fun _=>Z):=by
 obtain⟨es,c,h1,h2,h3,h4⟩:=World.ownsMap_made w qA kt EP;rw[(MapKept.heap_alloc w _).1]at h1;injection h1 with h1;injection h1 with h5 h6;subst h5 h6;exact⟨.map [],⟨#[],0,h,h2,qB _,rfl⟩,fun x=>⟨by simp[Maps.has],fun v hv=>by simp at hv⟩⟩
theorem MapIs.kept{w w':N}{kt:TypeId}{b n:Nat}{f:Lit->Option G}(h:MapIs w kt b n f)(e:w'.heap[b]? = w.heap[b]?):MapIs w' kt b n f:=by
 obtain⟨D,⟨es,c,h1,h2⟩,h3⟩:=h;exact⟨D,⟨es,c,e.trans h1,h2⟩,h3⟩
theorem MapIs.look{w:N}{kt:TypeId}{b n:Nat}{f:Lit->Option G}(h:MapIs w kt b n f)(K:Keyed qA kt){t e:TypeId}(ht:qA.underlying t=V (.map kt e)){z:G}(hz:(zeroValue e).run qA w=.ok z w)
  {key:G} {kl:Lit} (hkey:keyOf qA kt key=V kl):(Instr.lookup t (.map (V b)) key true).run qA w=.ok (ZZ #[(f kl).getD z,.bool (f kl).isSome]) w:=by
 obtain⟨D,h1,h2⟩:=h;obtain⟨v,ps,hrun,hR⟩:=h1.look_ok K ht hz (zd:=.held z) (zp:=[]) rfl hkey;obtain⟨hs,hv⟩:=h2 kl;simp only[EP,Option.some.injEq,Prod.mk.injEq]at hR;rw[hrun,hs];cases hf:f kl with
 |none=>
  rw[hf]at hs;have:=Maps.atKey_of_not_has (D:=D) (k:=kl) (by simpa using hs) (.held z);rw[this]at hR;have e1:=hR.1;injection e1 with e1;rw[e1];rfl
 |some u=>
  rw[hv u hf]at hR;have e1:=hR.1;injection e1 with e1;rw[e1];rfl
open Classical in
noncomputable def DZ(f:Lit->Option G)(kl:Lit)(val:G):Lit->Option Value:=fun x=>if x=kl then V val else f x
theorem GW(f:Lit->Option G)(kl:Lit)(val:G):DZ f kl val kl=V val:=by unfold DZ;rw[if_pos rfl]
theorem GU{f:Lit->Option G}{kl x:Lit}(h:x≠kl)(val:G):DZ f kl val x=f x:=by unfold DZ;rw[if_neg h]
theorem MapIs.put{w:N}{kt:TypeId}{b n:Nat}{f:Lit->Option G}(h:MapIs w kt b n f)(K:Keyed qA kt){t e:TypeId}(ht:qA.underlying t=V (.map kt e))(hn:n<maxLen)
  {key val:G} {kl:Lit} (hkey:keyOf qA kt key=V kl) (hlit:WideAt.IsKeyLit kl):∃w',(Instr.mapUpdate t (.map (V b)) key val).run qA w=.ok () w'/\MapIs w' kt b (n+1) (DZ f kl val)/\w.grownBy w' (V b):=by
 obtain⟨D,h1,h2⟩:=h;obtain⟨w',hrun,h3,h4⟩:=h1.update K ht hn hkey (val:=val) (d:=.held val) (ps:=[]) rfl;refine⟨w',hrun,⟨_,h3,fun x=>?_⟩,h4⟩;by_cases hx:x=kl
 .subst hx;rw[GW];refine⟨by rw[Maps.has_put_same h1.isMap hlit];rfl,fun v hv z=>?_⟩;cases hv
  exact Maps.atKey_put_same h1.isMap hlit _ z
 .rw[GU hx];refine⟨by rw[Maps.has_put_other hx];exact(h2 x).1,fun v hv z=>?_⟩;rw[Maps.atKey_put_other hx];exact(h2 x).2 v hv z
structure Sk(bs bl:Nat)(w w':N):Prop where
 os:w'.os=w.os
 tape:w'.tape=w.tape
 output:w'.output=w.output
 size:w.heap.size<=w'.heap.size
 block:∀i,i<w.heap.size->i≠bs->i≠bl->w'.heap[i]? = w.heap[i]?
theorem Sk.refl(bs bl:Nat)(w:N):Sk bs bl w w:=⟨rfl,rfl,rfl,qB _,fun _ _ _ _=>rfl⟩
theorem Sk.trans{bs bl:Nat}{a b c:N}(h:Sk bs bl a b)(k:Sk bs bl b c):Sk bs bl a c:=
 ⟨k.os.trans h.os,k.tape.trans h.tape,k.output.trans h.output,qI h.size k.size,fun i hi h1 h2=>(k.block i (qE hi h.size) h1 h2).trans (h.block i hi h1 h2)⟩
theorem Sk.of{bs bl:Nat}{w w':N}(h:S w.heap.size w w'):Sk bs bl w w':=⟨h.os,h.tape,h.output,h.size,fun i hi _ _=>h.block i hi⟩
theorem Sk.grown{bs bl:Nat}{w w':N}{r:Nat}(h:w.grownBy w' (V r))(hr:r=bs\/r=bl):Sk bs bl w w':=
 ⟨h.os,h.tape,h.output,h.size,fun i hi h1 h2=>h.block i hi (by intro e;injection e with e;omega)⟩
theorem Sk.below{bs bl base:Nat}{w w':N}(h:Sk bs bl w w')(h1:base<=bs)(h2:base<=bl)(h3:base<=w.heap.size):S base w w':=
 ⟨h.os,h.tape,h.output,h.size,fun i hi=>h.block i (by omega) (by omega) (by omega)⟩
def Ce(w:N)(bs bl:Nat):Prop:=(∃es c,w.heap[bs]? = V (.map es c))/\∃es c,w.heap[bl]? = V (.map es c)
theorem I1{w:N}{p:Addr}{v:G}(h:w.cell? p=V v){es:Array MapEntry}{c:Nat}:w.heap[p.block]?≠V (.map es c):=by
 intro e;simp[World.cell?,e]at h
theorem Sk.cell{bs bl:Nat}{w w':N}(h:Sk bs bl w w')(hm:Ce w bs bl){p:Addr}{v:G}(hp:w.cell? p=V v):w'.cell? p=V v:=by
 obtain⟨⟨es,c,e1⟩,⟨es',c',e2⟩⟩:=hm;have hlt:=World.block_lt_of_cell? w p hp;rw[World.cell?_of_block (h.block p.block hlt (fun e=>I1 hp (by rw[e];exact e1)) (fun e=>I1 hp (by rw[e];exact e2)))];exact hp
open Go.ChangeShapes Go.WideShapes Go.ChangeAt Go.RowKit Go.Deep Go.Shelf
open Terms
attribute [local go_sem] Oper.semAt_some
def Bb(l:List (Int×Int))(claim:Int)(k:Nat)(j:Nat):Bool:=if Af (l.getD j (0,0)).1=true/\(AN l j).length<k then EI claim (AN l j).length else ZX
def G8(l:List (Int×Int))(letter:List Bool)(h:Nat->Bool)(p:Nat):Nat->Bool:=if Af (l.getD p (0,0)).1=true then h else fun j=>if j=p then mkB (l.getD p (0,0)) letter (h (p+1)) (h (sec l p))else h j
def CB(l:List (Int×Int))(letter:List Bool)(h:Nat->Bool){n:Nat}(xs:List (Fin n)):Nat->Bool:=xs.foldl (fun h x=>G8 l letter h x.1) h
theorem K2(l:List (Int×Int))(letter:List Bool)(h:Nat->Bool){n:Nat}(xs:List (Fin n))(x:Fin n):CB l letter h (xs++[x])=G8 l letter (CB l letter h xs) x.1:=by simp[CB]
theorem QK{l:List (Int×Int)}{letter:List Bool}{claim:Int}(hz:AR (l.map Prod.fst)=0){n:Nat}(h0n:0<n)(hn:n=l.length) :
  ∀k,k<=n->∀j,j<n->CB l letter (Bb l claim (AA l).length) (C0 h0n k) j=if n-k<=j then tru l letter claim j else Bb l claim (AA l).length j:=by
 intro k;induction k with
 |zero=>
  intro _ j hj;rw[if_neg (by omega)];simp[C0,CB]
 |succ k ih=>
  intro hk j hj;have ih':=ih (by omega);rw[Hy,K2];have hp:(FU h0n k).1=n-1-k:=rfl;rw[hp];obtain⟨p,hpe⟩:∃p,p=n-1-k:=⟨_,rfl⟩;rw[<-hpe];have hpl:p<l.length:=by omega
  unfold G8;cases hb:Af (l.getD p (0,0)).1 with
  |true=>
   rw[if_pos rfl,ih' j hj];by_cases hjp:j=p
   .subst hjp;rw[if_neg (by omega),if_pos (by omega),VU hpl hb];unfold Bb;exact if_pos ⟨hb,EH l hpl hb⟩
   .by_cases hle:n-k<=j
    .rw[if_pos hle,if_pos (by omega)]
    .rw[if_neg hle,if_neg (by omega)]
  |false=>
   rw[if_neg (by decide)];by_cases hjp:j=p
   .subst hjp;rw[if_pos rfl,if_pos (by omega)];obtain⟨h1,h2⟩:=Gt hz hpl;rw[VV hpl hb (fun h=>(h2 h).1)];have hpn:=JN (l.getD j (0,0)).1;by_cases p2:pn (l.getD j (0,0)).1=2
    .obtain ⟨s1,s2⟩:=h2 p2;have s0:=h1 (by omega);rw[ih' (j+1) (by omega),ih' (sec l j) (by omega),if_pos (by omega),if_pos (by omega)]
    .have hk89:(l.getD j (0,0)).1≠8/\(l.getD j (0,0)).1≠9:=by
      constructor<;>intro e<;>rw[e]at p2<;>exact absurd rfl p2
     by_cases p1:pn (l.getD j (0,0)).1=1
     .have s0:=h1 (by omega);rw[ih' (j+1) (by omega),if_pos (by omega)];simp only[mkB,hk89.1,hk89.2,if_false]
     .have hk10:(l.getD j (0,0)).1≠10:=by intro e;rw[e]at p1;exact absurd rfl p1
      simp only[mkB,hk89.1,hk89.2,hk10,if_false]
   .rw[if_neg hjp,ih' j hj];by_cases hle:n-k<=j
    .rw[if_pos hle,if_pos (by omega)]
    .rw[if_neg hle,if_neg (by omega)]
structure TrSt(w:N)(fo ev av lv:G)(n:Nat)(h:Nat->Bool)(W0s:Nat)(W:N):Prop where
 three:Bq W w.heap.size fo ev av
 letter:W.cell? ⟨w.heap.size+1,0,Z⟩=V lv
 holds:W.cell? ⟨w.heap.size+1+1+1,0,Z⟩=V (U (V ⟨w.heap.size+1+1,0,Z⟩) n n)
 row:W.rowIs (w.heap.size+1+1) 4 n (fun j=>.bool (h j))
 below:S w.heap.size w W
 size:W0s<=W.heap.size
theorem TrSt.later{w:N}{fo ev av lv:G}{n:Nat}{h:Nat->Bool}{s B:Nat}{W W':N}(t:TrSt w fo ev av lv n h s W)(hb:S B W W')(hB:w.heap.size+4<=B):TrSt w fo ev av lv n h s W':=
 ⟨t.three.below hb (by omega),(hb.cell (p:=⟨w.heap.size+1,0,Z⟩) (by simp;omega)).trans t.letter,(hb.cell (p:=⟨w.heap.size+1+1+1,0,Z⟩) (by simp;omega)).trans t.holds,t.row.of_block (hb.block _ (by omega)),t.below.trans (hb.mono (by omega)),qI t.size hb.size⟩
theorem TrSt.congr{w:N}{fo ev av lv:G}{n:Nat}{h h':Nat->Bool}{s:Nat}{W:N}(t:TrSt w fo ev av lv n h s W)(e:∀j,j<n->h j=h' j):TrSt w fo ev av lv n h' s W:=
 ⟨t.three,t.letter,t.holds,t.row.congr fun j hj=>by rw[e j hj],t.below,t.size⟩
theorem TrSt.put{w:N}{fo ev av lv:G}{n:Nat}{h:Nat->Bool}{s:Nat}{W:N}(t:TrSt w fo ev av lv n h s W)(p:Nat)(x:Bool):TrSt w fo ev av lv n (fun j=>if j=p then x else h j) s (W.setCell ⟨w.heap.size+1+1,p,Z⟩ (.bool x)):=by
 have hb:∀k,k≠w.heap.size+1+1->(W.setCell ⟨w.heap.size+1+1,p,Z⟩ (.bool x)).heap[k]? = W.heap[k]?:=fun k hk=>Below.heap_setCell W _ _ k hk;have hc:∀k q,k≠w.heap.size+1+1->(W.setCell ⟨w.heap.size+1+1,p,Z⟩ (.bool x)).cell? ⟨k,q,Z⟩=W.cell? ⟨k,q,Z⟩:=fun k q hk=>World.cell?_of_block (w:=W) (hb k hk);have hf:∀q,(W.setCell ⟨w.heap.size+1+1,p,Z⟩ (.bool x)).frozen? ⟨w.heap.size,q,Z⟩=W.frozen? ⟨w.heap.size,q,Z⟩:=fun q=>by rw[World.frozen?_setCell]
 obtain⟨k0,k1,k2,f0,f1,f2,hl⟩:=t.three;refine⟨⟨(hc _ _ (by omega)).trans k0,(hc _ _ (by omega)).trans k1,(hc _ _ (by omega)).trans k2,(hf 0).trans f0,(hf 1).trans f1,(hf 2).trans f2,by simpa using hl⟩,(hc _ _ (by omega)).trans t.letter,(hc _ _ (by omega)).trans t.holds,?_,t.below.setCell (by simp;omega) _,by simpa using t.size⟩;refine(t.row.set p (.bool x)).congr fun i _=>?_;by_cases hip:i=p
 .rw[if_pos hip,if_pos hip]
 .rw[if_neg hip,if_neg hip]
theorem TrSt.drew{w:N}{fo ev av lv:G}{n:Nat}{h:Nat->Bool}{s:Nat}{W:N}(t:TrSt w fo ev av lv n h s W):TrSt w fo ev av lv n h s W.drew:=
 ⟨⟨t.three.1,t.three.2.1,t.three.2.2.1,t.three.2.2.2.1,t.three.2.2.2.2.1,t.three.2.2.2.2.2.1,t.three.2.2.2.2.2.2⟩,t.letter,t.holds,t.row.of_block rfl,t.below.drew,t.size⟩
theorem Od:∀c,c<64->(bits BinOp.and IntKind.i64 ((c:Nat):Int) 1 == 1)=decide (((c:Nat):Int) % 2=1):=by decide
theorem Oc{claim:Int}{k:Nat}(h0:0<=claim)(h:claim<64):(bits BinOp.and IntKind.i64 (claim / 2^k) 1 == 1)=EI claim k:=by
 have h2:(0:Int)<2^k:=jY (by decide);have h3:0<=claim / 2^k:=Int.ediv_nonneg h0 (Int.le_of_lt h2);have h4:claim / 2^k<=claim:=Int.ediv_le_self _ h0;obtain⟨c,hc⟩:∃c:Nat,claim / 2^k=c:=⟨(claim / 2^k).toNat,by omega⟩;unfold EI;rw[hc];exact Od c (by omega)
theorem Qx{l:List (Int×Int)}{claim:Int}{k p:Nat}(hlk:Af (l.getD p (0,0)).1=true)(hpi:(AN l p).length=k)(j:Nat):(if j=p then EI claim k else Bb l claim k j)=Bb l claim (k+1) j:=by
 unfold Bb;by_cases hjp:j=p
 .subst hjp;rw[if_pos rfl,if_pos ⟨hlk,by omega⟩,hpi]
 .rw[if_neg hjp];by_cases hb:Af (l.getD j (0,0)).1=true
  .have hne:(AN l j).length≠k:=by
    intro e;rcases Nat.lt_or_gt_of_ne hjp with h|h
    .have:=EH l h hb;omega
    .have:=EH l h hlk;omega
   by_cases hl:(AN l j).length<k
   .rw[if_pos ⟨hb,hl⟩,if_pos ⟨hb,by omega⟩]
   .rw[if_neg (fun h=>hl h.2),if_neg (fun h=>by have:=h.2;omega)]
  .rw[if_neg (fun h=>hb h.1),if_neg (fun h=>hb h.1)]
theorem VZ(fv lv:G)(fo ev:G)(aao:Option Addr)(an ac:Nat)(claim:Int)(lo:Option Addr)(ln lc:Nat)(oo eo:Option Addr)(on oc en ec:Nat)(hfo:fo=U oo on oc)(hev:ev=U eo en ec)(hlv:lv=U lo ln lc)(hfv:fv=ZY #[fo,ev,U aao an ac])(h6:an<=6)(w:N)(h:claim<0\/2^an<=claim) :
  J qA 60 #[fv,lv,.int T claim] w fun e w'=>e=O (ZZ #[U Z 0 0,.int T 2])/\S w.heap.size w w':=by
 subst hfo hev hlv hfv;have hb:∀o o',S w.heap.size w ((w.alloc o).alloc o'):=fun o o'=>((qD _ _).alloc (qB _) o).alloc (by simp) o';rcases h with h|h
 .go_enter Tryz.func60,Tryz.ntmps60;go_wp2_with fail
  go_ret2;exact⟨rfl,hb _ _⟩
 .have h0:0<=claim:=by have:(0:Int)<2^an:=jY (by decide);omega
  have hcase:an=0\/an=1\/an=2\/an=3\/an=4\/an=5\/an=6:=by omega
  clear h6;rcases hcase with rfl|rfl|rfl|rfl|rfl|rfl|rfl;all_goals
   simp only[Int.reducePow]at h;go_enter Tryz.func60,Tryz.ntmps60;go_wp2_with fail
   go_ret2;exact⟨rfl,hb _ _⟩
attribute [local go_sem] Oper.semAt_some
def NT(p3 p4 p8 p11 p12 r0 r1 r2 r5 r6 r7 r9 r10 r13 r14 r15 r16 r17 r18 r19 r20 r21 r22 r23 r24 r25 r26 r27 r28 r29 r30 r31 r32 r33 r34 r35 r36 r37 r38 r39 r40 r41 r42 r43 r44 r45 r46 r47 r48 r49 r50 r51 r52 r53 r54 r55 r56 r57 r58 r59 r60 r61 r62 r63 r64 r65 r66 r67 r68 r69 r70:G):Act:={ tmps:=#[r0,r1,r2,p3,p4,r5,r6,r7,p8,r9,r10,p11,p12,r13,r14,r15,r16,r17,r18,r19,r20,r21,r22,r23,r24,r25,r26,r27,r28,r29,r30,r31,r32,r33,r34,r35,r36,r37,r38,r39,r40,r41,r42,r43,r44,r45,r46,r47,r48,r49,r50,r51,r52,r53,r54,r55,r56,r57,r58,r59,r60,r61,r62,r63,r64,r65,r66,r67,r68,r69,r70],defers:=[]}
def Nz(w:N)(s:Nat)(o:Int×Int)(p:Nat)(a':Act)(W:N):Prop:=∃Bx,s<=Bx/\W.cell? ⟨Bx,0,Z⟩=V (.int T o.1)/\W.cell? ⟨Bx,1,Z⟩=V (.int T o.2)/\∃r0 r1 r2 r5 r6 r7 r9 r10 r13 r14 r15 r16 r17 r18 r19 r20 r21 r22 r23 r24 r25 r26 r27 r28 r29 r30 r31 r32 r33 r34 r35 r36 r37 r38 r39 r40 r41 r42 r43 r44 r45 r46 r47 r48 r49 r50 r51 r52 r53 r54 r55 r56 r57 r58 r59 r60 r61 r62 r63 r64 r65 r66 r67 r68 r69 r70:G,a'=NT (I (V ⟨w.heap.size,0,Z⟩)) (I (V ⟨w.heap.size+1,0,Z⟩)) (I (V ⟨w.heap.size+1+1+1,0,Z⟩)) (.int T (p:Int)) (I (V ⟨Bx,0,Z⟩)) r0 r1 r2 r5 r6 r7 r9 r10 r13 r14 r15 r16 r17 r18 r19 r20 r21 r22 r23 r24 r25 r26 r27 r28 r29 r30 r31 r32 r33 r34 r35 r36 r37 r38 r39 r40 r41 r42 r43 r44 r45 r46 r47 r48 r49 r50 r51 r52 r53 r54 r55 r56 r57 r58 r59 r60 r61 r62 r63 r64 r65 r66 r67 r68 r69 r70
theorem Q9{B:Nat}{W W':N}(h:S W.heap.size W W'):KeepsFrom B W W':=⟨h.size,fun k _ _ hk _=>(h.block k (qG.1 hk).1).trans hk⟩
set_option maxRecDepth 100000 in
theorem VY(b off cap n B:Nat)(aao:Option Addr)(an ac:Nat)(lo:Option Addr)(ln lc:Nat)(l:List (Int×Int))(letter:List Bool)(claim:Int)(w:N)(h0n:0<n)(h60:n<=60)(hn:n=l.length)(hz:AR (l.map Prod.fst)=0)(hops:BN w b off l)(hbl:b<w.heap.size)
  (hrow:w.rowIs B 3 n (fun q=>.int T (Am (l.map Prod.fst) q))) (han:an=(AA l).length) (hav:IntsV w (U aao an ac) (AA l)) (h6:an<=6) (hln:ln=letter.length) (hL:BoolsV w (U lo ln lc) letter) (hlf:CD ln l=0) (h0:0<=claim) (h1:claim<2^an) :
  J qA 60 #[ZY #[U (V ⟨b,off,Z⟩) n cap,U (V ⟨B,0,Z⟩) n n,U aao an ac],U lo ln lc,.int T claim] w fun e w'=>∃bH,e=O (ZZ #[U (V ⟨bH,0,Z⟩) n n,.int T 0])/\S w.heap.size w w'/\E (w'.rowIs bH 4 n (fun j=>.bool (tru l letter claim j)))/\w.heap.size<=bH:=by
 refine(callsIn_wide (n:=8)).1 ?_;refine callsIn_of_wp_marks Tryz.func60 rfl trivial ?_ rfl;simp only[Tryz.ntmps60,List.size_toArray,List.length_cons,List.length_nil,Nat.reduceAdd,Nat.reduceSub,Array.replicate_succ,Array.replicate_zero,List.push_toArray,List.append_toArray,List.nil_append,List.cons_append];have hmk:=run_make_row' (P:=qA) 111 4 (.bool ZX) 1 Tryz.underlying111 Gc rfl .i64 .i64 n (by omega) (by omega);have HO:E (BN w b off l):=hops;have HN:E (n=l.length):=hn;have HR:E (w.rowIs B 3 n (fun q=>.int T (Am (l.map Prod.fst) q))):=hrow;have HAN:E (an=(AA l).length):=han;have HAV:E (IntsV w (U aao an ac) (AA l)):=hav;have HLN:E (ln=letter.length):=hln;have HL:E (BoolsV w (U lo ln lc) letter):=hL;have HLF:E (CD ln l=0):=hlf;have HZ:E (AR (l.map Prod.fst)=0):=hz;clear hops hn hrow han hav hln hL hlf hz;have hcase:an=0\/an=1\/an=2\/an=3\/an=4\/an=5\/an=6:=by omega
 have hsh:(2:Int)^an<=64:=by rcases hcase with rfl|rfl|rfl|rfl|rfl|rfl|rfl<;>decide
 clear hcase;gi_wp2
 have HS0:E (TrSt w (U (V ⟨b,off,Z⟩) n cap) (U (V ⟨B,0,Z⟩) n n) (U aao an ac) (U lo ln lc) n (Bb l claim 0) 0 ((((w.alloc (C #[U (V ⟨b,off,Z⟩) n cap,U (V ⟨B,0,Z⟩) n n,U aao an ac] 138)).alloc (C #[U lo ln lc] 111)).alloc (C (madeCells #[.bool ZX] n) 4)).alloc (C #[U (V ⟨w.heap.size+1+1,0,Z⟩) n n] 111))):=by
  have r:=World.rowIs_made ((w.alloc (C #[U (V ⟨b,off,Z⟩) n cap,U (V ⟨B,0,Z⟩) n n,U aao an ac] 138)).alloc (C #[U lo ln lc] 111)) (.bool ZX) n 4;simp only[World.size_alloc]at r;have hB3:∀o1 o2 o3 o4,S (w.heap.size+1) (w.alloc o1) ((((w.alloc o1).alloc o2).alloc o3).alloc o4):=fun o1 o2 o3 o4=>(((qD _ _).alloc (by simp) o2).alloc (by simp) o3).alloc (by simp) o4;exact⟨(Bq.new w _ _ _ _).below (hB3 _ _ _ _) (qY _),by simp[go_sem],by simp[go_sem],(r.of_block (Below.heap_alloc _ _ _ r.lt)).congr (fun j _=>by simp[Bb]),((((qD _ _).alloc (qB _) _).alloc (by simp) _).alloc (by simp;omega) _).alloc (by simp;omega) _,qJ _⟩
 gi_loopw [32] (fun i wr=>∃k:Nat,k<=an/\i=.int T k/\E (TrSt w (U (V ⟨b,off,Z⟩) n cap) (U (V ⟨B,0,Z⟩) n n) (U aao an ac) (U lo ln lc) n (Bb l claim k) 0 wr)) (fun i _=>an-(intOf i).toNat)
 case atStart=>
  exact⟨0,qJ _,rfl,HS0.out⟩
 case round=>
  obtain⟨k,hk,rfl,HSt⟩:=hrel;have hst:=HSt.out;by_cases hlt:k<an
  .obtain ⟨p,hp,hpn,hlk,hpi⟩:=F9 l l.length k (by have:=HAN.out;unfold AA at this;omega);obtain⟨ao',cap',hsl,hai⟩:=HAV.out;injection hsl with e1 e2 e3;subst e1;obtain⟨ab,aoff,rfl,habl,haat⟩:=hai (by intro h;have:=HAN.out;rw[h]at this;simp at this;omega);have hca:=(hst.below.cell (p:=⟨ab,aoff+k,Z⟩) habl).trans (haat k (by rw[<-HAN.out];exact hlt));have hca':wr.cell? ⟨ab,aoff+k,Z⟩=V (.int T (p:Int)):=by rw[hca];exact congrArg (fun z=>V (Value.int .i64 z)) hp
   have hch:=hst.holds;have hf:=hst.row.frozen p;have hpn':p<n:=by rw[HN.out];exact hpn
   have hcp:=hst.row.cell hpn';obtain⟨t0,t1,t2,_⟩:=hst.three;have HP:E (Af (l.getD p (0,0)).1=true/\(AN l p).length=k):=⟨hlk,hpi⟩;clear hp hpn hlk hpi hai haat hca e2 e3;have hmx:qA.follows .mixedOrders=true:=by kernel_rfl
   gi_wp2
   gi_region_o
   all_goals gi_wp2
   refine⟨⟨k+1,hlt,by first|rfl|simp,?_⟩,by simp[intOf];omega⟩;rw[Oc h0 (by omega)];exact((hst.put p (EI claim k)).congr (fun j _=>Qx HP.out.1 HP.out.2 j)).drew
  .obtain rfl:k=an:=by omega
   have HAL:E (k=(AA l).length):=HAN.out;obtain⟨t0,t1,t2,_⟩:=hst.three;generalize wr=W1 at *;clear hmk HS0 hlt hk HAV
   gi_wp2_with (refine⟨trivial,?_⟩;gi_at_call 86;refine(OW Fence.wide _ trivial rfl _ _ _ _).mono ?_;rintro e w' ⟨rfl,rfl⟩)
   have hs3:w.heap.size+4<=W1.heap.size:=by have:=World.block_lt_of_cell? W1 ⟨w.heap.size+1+1+1,0,Z⟩ hst.holds;simp at this;omega
   refine wpIn_rangeFunc_ownH rfl (by decide) (gf:=119) (lb:=#[I (V ⟨W1.heap.size,0,Z⟩)]) rfl trivial (enters_of Tryz.func119 (by kernel_rfl) rfl)
    (OX Fence.wide 7 trivial rfl (by decide) W1.heap.size w.heap.size b off n cap l h0n h60 HN.out hbl _ (by simp) (by simp;omega) (by simp[go_sem]) (HO.out.below (hst.below.alloc hst.below.size _) hbl)) OU (OT (by simp;omega) (by simp)) (qD _ _) (fun _=>rfl)
    (fun pre W=>TrSt w (U (V ⟨b,off,Z⟩) n cap) (U (V ⟨B,0,Z⟩) n n) (U aao k ac) (U lo ln lc) n (CB l letter (Bb l claim k) pre) (W1.heap.size+1) W)
    (fun _ _ _=>False)
    (fun s A Bw row hs hg hr=>hs.later (B:=W1.heap.size+1) ((qD _ _).grown hg hs.size (fun z e=>by have:=(hr z e).1;simp at this;omega)) (by omega))
    (fun _ _ _ _ _ hs _ _=>hs)
    ?h0 (fun x=>Nz w (W1.heap.size+1) (l.getD x.1 (0,0)) x.1) (fun x a' _ X Y row hs hg hr=>by obtain⟨Bx,h1,h2,h3,h4⟩:=hs;exact⟨Bx,h1,cell_kept h2 hg (fun r e=>(hr r e).2),cell_kept h3 hg (fun r e=>(hr r e).2),h4⟩)
    ?assign ?body ?done ?stop
   case h0=>
    have t:=hst.later ((qD W1.heap.size W1).alloc (qB _) (C #[U (V ⟨b,off,Z⟩) n cap] 33)) (by omega);exact⟨t.three,t.letter,t.holds,t.row,t.below,by simp⟩
   case assign=>
    rintro L pre x W K hi hK;have hsz:=hi.size;unfold GB;gi_wp2
    refine hK _ _ ?ka ?kb ?kc ?kd;case ka=>exact(KeepsOthers.alloc _ _).from _
    case kb=>exact⟨(qD _ W).alloc hi.below.size _,Below.heap_alloc _ _ _ (by omega)⟩
    case kc=>exact hi.later ((qD W.heap.size W).alloc (qB _) _) (by omega)
    case kd=>exact⟨W.heap.size,by omega,by simp[go_sem],by simp[go_sem],_,_,_,_,_,_,_,_,_,_,_,_,_,_,_,_,_,_,_,_,_,_,_,_,_,_,_,_,_,_,_,_,_,_,_,_,_,_,_,_,_,_,_,_,_,_,_,_,_,_,_,_,_,_,_,_,_,_,_,_,_,_,_,_,_,_,rfl⟩
   case body=>
    rintro L pre x a' W hl ⟨r,hr⟩ hi ⟨Bx,hBx,cx0,cx1,r0,r1,r2,r5,r6,r7,r9,r10,r13,r14,r15,r16,r17,r18,r19,r20,r21,r22,r23,r24,r25,r26,r27,r28,r29,r30,r31,r32,r33,r34,r35,r36,r37,r38,r39,r40,r41,r42,r43,r44,r45,r46,r47,r48,r49,r50,r51,r52,r53,r54,r55,r56,r57,r58,r59,r60,r61,r62,r63,r64,r65,r66,r67,r68,r69,r70,rfl⟩ hlen;have hsz:=hi.size;have hfa:=RW HLF.out x.1 (by rw[<-HN.out];exact x.2);obtain⟨hp1,hp2⟩:=Gt HZ.out (p:=x.1) (by rw[<-HN.out];exact x.2);have HSt:E (TrSt w (U (V ⟨b,off,Z⟩) n cap) (U (V ⟨B,0,Z⟩) n n) (U aao k ac) (U lo ln lc) n (CB l letter (Bb l claim k) pre) (W1.heap.size+1) W):=hi;have HNx:=K2 l letter (Bb l claim k) pre x;unfold G8 at HNx;have HNx':E (CB l letter (Bb l claim k) (pre++[x])=if Af (l.getD x.1 (0,0)).1=true then CB l letter (Bb l claim k) pre else fun j=>if j=x.1 then mkB (l.getD x.1 (0,0)) letter (CB l letter (Bb l claim k) pre (x.1+1)) (CB l letter (Bb l claim k) pre (sec l x.1))else CB l letter (Bb l claim k) pre j):=HNx;clear HNx;obtain⟨nx,hnx⟩:∃nx,CB l letter (Bb l claim k) (pre++[x])=nx:=⟨_,rfl⟩;have HNX:E (CB l letter (Bb l claim k) (pre++[x])=nx):=hnx;rw[hnx]at HNx';clear hnx;generalize CB l letter (Bb l claim k) pre=h at *;obtain⟨p,hpn⟩:=x;simp only at cx0 cx1 hfa hp1 hp2 HNx'
    generalize l.getD p (0,0)=xy at *;obtain⟨kx,vx⟩:=xy;simp only at cx0 cx1 hfa hp1 hp2 HNx'
    have hlk:=fun w=>Li kx w;have hBxl:Bx<W.heap.size:=World.block_lt_of_cell? W ⟨Bx,0,Z⟩ cx0;have hmx:qA.follows .mixedOrders=true:=by kernel_rfl
    unfold NT;cases hb:Af kx with
    |true=>
     have HE:E (nx=h):=by show _=_;rw[HNx'.out,if_pos hb]
     rw[hb]at hlk;clear hb HNx' hp1 hp2 hfa;gi_wp2_with (refine⟨trivial,?_⟩;gi_at_call 80;refine(CallsIn.inRound L (callsIn_wide.2 (hlk _))).mono ?_;rintro e w2 ⟨rfl,rfl⟩)
     refine⟨KeepsFrom.refl _ _,⟨qD _ _,rfl⟩,?_⟩;show TrSt w _ _ _ _ n (CB l letter (Bb l claim k) (pre++[⟨p,hpn⟩])) _ _;rw[HNX.out,HE.out];exact HSt.out
    |false=>
     have HE:E (nx=fun j=>if j=p then mkB (kx,vx) letter (h (p+1)) (h (sec l p))else h j):=by show _=_;rw[HNx'.out,if_neg (by rw[hb];decide)]
     rw[hb]at hlk;have hop:Ay (ln:Int) (kx,vx)=0:=hfa;have hk8:8<=kx:=by
      simp only[Ay]at hop;split at hop
      .omega
      .omega
     have h13:kx=13->0<=vx/\vx<letter.length:=fun e=>by
      simp only[Ay]at hop;rw[if_neg (by omega),if_pos e]at hop;split at hop
      .omega
      .have:=HLN.out;omega
     have hpr:kx=10\/kx=8\/kx=9->p+1<n:=fun e=>by rw[HN.out];exact hp1 (by rcases e with rfl|rfl|rfl<;>decide)
     have hps:kx=8\/kx=9->sec l p<n:=fun e=>by rw[HN.out];exact(hp2 (by rcases e with rfl|rfl<;>decide)).2
     have hBl:B<w.heap.size:=HR.out.lt;have hpa:=Gu b off cap n B (w.heap.size+1+1) p _ h l aao k ac rfl W (fun j hj=>hi.row.cell hj) hi.row.lt (fun j hj=>(hi.below.cell (p:=⟨B,j,Z⟩) hBl).trans (HR.out.cell hj)) (qE hBl hi.below.size);obtain⟨t0,t1,t2,_⟩:=hi.three;have hch:=hi.holds;have hcl:=hi.letter;have HMk:E (∀w2,S W.heap.size W w2->PartsAt w2 (W.heap.size+1+1) W.heap.size (W.heap.size+1) (w.heap.size+1+1) n B p h l->J qA 88 #[ZY #[ZW T kx,.int T vx],U lo ln lc,.func (.func 120) #[] #[I (V ⟨W.heap.size+1+1,0,Z⟩),I (V ⟨W.heap.size+1,0,Z⟩)],.func (.func 121) #[] #[I (V ⟨W.heap.size+1+1,0,Z⟩),I (V ⟨W.heap.size,0,Z⟩),I (V ⟨W.heap.size+1,0,Z⟩)]] w2.drew fun e w'=>
       e=O (.bool (mkB (kx,vx) letter (h (p+1)) (h (sec l p))))/\S W.heap.size W w'/\w'.cell? ⟨w.heap.size+1+1+1,0,Z⟩=V (U (V ⟨w.heap.size+1+1,0,Z⟩) n n)/\w'.cell? ⟨w.heap.size+1+1,p,Z⟩=V (.bool (h p))/\w'.frozen? ⟨w.heap.size+1+1,p,Z⟩=ZX):=fun w2 hb2 hP=>by
      have hlt:W.heap.size+1+1<w2.heap.size:=World.block_lt_of_cell? w2 ⟨W.heap.size+1+1,0,Z⟩ hP.holds;have hbd:S W.heap.size W w2.drew:=hb2.drew;have hPd:PartsAt w2.drew (W.heap.size+1+1) W.heap.size (W.heap.size+1) (w.heap.size+1+1) n B p h l:=⟨hP.holds,hP.row,hP.ends,hP.erow,hP.place⟩;have hLd:BoolsV w2.drew (.slice lo letter.length lc) letter:=by rw[<-HLN.out];exact(HL.out.below hi.below).below hbd
      have hsw:w2.drew.heap.size=w2.heap.size:=rfl;have hrl:=hi.row.lt;rw[HLN.out];refine(Rm kx vx lo lc _ _ _ _ n B p letter h l w2.drew h60 hLd hPd (by omega) (by omega) (by omega) (by omega) (by omega) h13 hpr hps).mono fun e w' ⟨he,hb⟩=>?_;have hbf:S W.heap.size W w':=hbd.trans (hb.mono (by omega));exact⟨he,hbf,(hbf.cell (p:=⟨w.heap.size+1+1+1,0,Z⟩) (World.block_lt_of_cell? W _ hch)).trans hch,(hbf.cell (p:=⟨w.heap.size+1+1,p,Z⟩) hrl).trans (hi.row.cell hpn),(hbf.frozen (p:=⟨w.heap.size+1+1,p,Z⟩) hrl).trans (hi.row.frozen p)⟩
     generalize mkB (kx,vx) letter (h (p+1)) (h (sec l p))=tv at HMk HE;have HC2:E (∀w2,S W.heap.size W w2->w2.cell? ⟨w.heap.size+1+1+1,0,Z⟩=V (U (V ⟨w.heap.size+1+1,0,Z⟩) n n)/\w2.cell? ⟨w.heap.size+1,0,Z⟩=V (U lo ln lc)/\w2.cell? ⟨Bx,0,Z⟩=V (.int T kx)/\w2.cell? ⟨Bx,1,Z⟩=V (.int T vx)):=fun w2 hb=>⟨(hb.cell (p:=⟨w.heap.size+1+1+1,0,Z⟩) (World.block_lt_of_cell? W _ hch)).trans hch,(hb.cell (p:=⟨w.heap.size+1,0,Z⟩) (World.block_lt_of_cell? W _ hcl)).trans hcl,(hb.cell (p:=⟨Bx,0,Z⟩) hBxl).trans cx0,(hb.cell (p:=⟨Bx,1,Z⟩) hBxl).trans cx1⟩;clear hb HNx' hp1 hp2 hfa hop h13 hpr hps hi;gi_wp2_with (first|(refine⟨trivial,?_⟩;gi_at_call 80;refine(CallsIn.inRound L (callsIn_wide.2 (hlk _))).mono ?_;rintro e wz ⟨rfl,hwz⟩;obtain rfl:=hwz.symm)|(refine⟨trivial,?_⟩;gi_at_call 87;refine(CallsIn.inRound L (callsIn_wide.2 hpa)).mono ?_;rintro e w2 ⟨rfl,hb2,HP2⟩;obtain⟨d0,d1,d2,d3⟩:=HC2.out w2 hb2;have hma:=HMk.out w2 hb2 HP2.out))
     refine Tp (fun w'=>w'.cell? ⟨w.heap.size+1+1+1,0,Z⟩=V (U (V ⟨w.heap.size+1+1,0,Z⟩) n n)/\w'.cell? ⟨w.heap.size+1,0,Z⟩=V (U lo ln lc)/\w'.cell? ⟨Bx,0,Z⟩=V (.int T kx)/\w'.cell? ⟨Bx,1,Z⟩=V (.int T vx)) hmx ?nd ?nl ?_;case nd=>
      intro i o ho c;have hi:i<9:=(qG.1 ho).1;have hc:i=0\/i=1\/i=2\/i=3\/i=4\/i=5\/i=6\/i=7\/i=8:=by omega
      rcases hc with rfl|rfl|rfl|rfl|rfl|rfl|rfl|rfl|rfl<;>(obtain rfl:=Option.some.inj ho;exact fun h=>by cases h)
     case nl=>exact fun⟨_,_,h⟩=>h
     have hS2:w2.drew.cell? ⟨w.heap.size+1+1+1,0,Z⟩=V (U (V ⟨w.heap.size+1+1,0,Z⟩) n n)/\w2.drew.cell? ⟨w.heap.size+1,0,Z⟩=V (U lo ln lc)/\w2.drew.cell? ⟨Bx,0,Z⟩=V (.int T kx)/\w2.drew.cell? ⟨Bx,1,Z⟩=V (.int T vx):=⟨d0,d1,d2,d3⟩;refine wpAnyH_take (i:=0) (v:=U (V ⟨w.heap.size+1+1,0,Z⟩) n n) rfl (by kernel_rfl) (by kernel_rfl) (by kernel_rfl) (fun _ _ _ h=>h) (Or.inl ⟨by rfl,fun wq hSw=>by obtain⟨q0,q1,q2,q3⟩:=hSw;go_simp⟩) hS2 ?_;simp only[Act.put,List.setIfInBounds_toArray];refine wpAnyH_take (i:=1) (v:=.int T (p:Int)) rfl (by kernel_rfl) (by kernel_rfl) (by kernel_rfl) (fun _ _ _ h=>h) (Or.inl ⟨by rfl,fun wq hSw=>by obtain⟨q0,q1,q2,q3⟩:=hSw;go_simp⟩) hS2 ?_;simp only[Act.put];refine wpAnyH_take (i:=2) (v:=ZY #[ZW T kx,.int T vx]) rfl (by kernel_rfl) (by kernel_rfl) (by kernel_rfl) (fun _ _ _ h=>h) (Or.inl ⟨by rfl,fun wq hSw=>by obtain⟨q0,q1,q2,q3⟩:=hSw;go_simp⟩) hS2 ?_;simp only[Act.put];refine wpAnyH_take (i:=3) (v:=U lo ln lc) rfl (by kernel_rfl) (by kernel_rfl) (by kernel_rfl) (fun _ _ _ h=>h) (Or.inl ⟨by rfl,fun wq hSw=>by obtain⟨q0,q1,q2,q3⟩:=hSw;go_simp⟩) hS2 ?_;simp only[Act.put];refine wpAnyH_take (i:=4) (v:=.func (.func 120) #[] #[I (V ⟨W.heap.size+1+1,0,Z⟩),I (V ⟨W.heap.size+1,0,Z⟩)]) rfl (by kernel_rfl) (by kernel_rfl) (by kernel_rfl) (fun _ _ _ h=>h) (Or.inl ⟨by rfl,fun wq hSw=>by obtain⟨q0,q1,q2,q3⟩:=hSw;go_simp⟩) hS2 ?_;simp only[Act.put];refine wpAnyH_take (i:=5) (v:=.func (.func 121) #[] #[I (V ⟨W.heap.size+1+1,0,Z⟩),I (V ⟨W.heap.size,0,Z⟩),I (V ⟨W.heap.size+1,0,Z⟩)]) rfl (by kernel_rfl) (by kernel_rfl) (by kernel_rfl) (fun _ _ _ h=>h) (Or.inl ⟨by rfl,fun wq hSw=>by obtain⟨q0,q1,q2,q3⟩:=hSw;go_simp⟩) hS2 ?_;simp only[Act.put];refine wpAnyH_all (rs:=[6]) (by kernel_rfl) (by decide) ?_;intro i hi;obtain rfl:i=6:=by simpa using hi
     refine Vv rfl (by rfl) (by go_simp) hma ?_;rintro e w3 ⟨rfl,hb3,g0,g1,g2⟩;obtain⟨e0,e1,e2,e3⟩:=HC2.out w3 hb3;refine⟨_,rfl,⟨e0,e1,e2,e3⟩,?_⟩;simp only[Act.put];refine wpAnyH_take (i:=7) (v:=I (V ⟨w.heap.size+1+1,p,Z⟩)) rfl (by kernel_rfl) (by kernel_rfl) (by kernel_rfl) (fun _ _ _ h=>h) (Or.inl ⟨by rfl,fun wq _=>by go_simp⟩) ⟨e0,e1,e2,e3⟩ ?_;simp only[Act.put];refine wpAnyH_all (rs:=[8]) (by kernel_rfl) (by decide) ?_;intro i hi;obtain rfl:i=8:=by simpa using hi
     have hco:∀z q,z≠w.heap.size+1+1->(w3.setCell ⟨w.heap.size+1+1,p,Z⟩ (.bool tv)).cell? ⟨z,q,Z⟩=w3.cell? ⟨z,q,Z⟩:=fun z q hz=>World.cell?_of_block (w:=w3) (Below.heap_setCell w3 _ _ z hz);refine Vw (w':=w3.setCell ⟨w.heap.size+1+1,p,Z⟩ (.bool tv)) rfl (by rfl) (by go_simp) ⟨⟨(hco _ _ (by omega)).trans e0,(hco _ _ (by omega)).trans e1,(hco _ _ (by omega)).trans e2,(hco _ _ (by omega)).trans e3⟩,?_⟩;refine wpAnyH_done (by kernel_rfl) ?_ _;have hW4:w.heap.size+4<=W.heap.size:=by omega
     refine⟨(Q9 hb3).trans ((KeepsOthers.setCell _ _ _).from _),⟨(hb3.mono HSt.out.below.size).setCell (by simp;omega) _,(Below.heap_setCell w3 _ _ W1.heap.size (by simp;omega)).trans (hb3.block _ (by omega))⟩,?_⟩;show TrSt w _ _ _ _ n (CB l letter (Bb l claim k) (pre++[⟨p,hpn⟩])) _ _;rw[HNX.out,HE.out];exact(HSt.out.later hb3 hW4).put p tv
   case done=>
    rintro D xs W hD rfl hi hK;have hch:=hi.holds;have HT:E (TrSt w (U (V ⟨b,off,Z⟩) n cap) (U (V ⟨B,0,Z⟩) n n) (U aao k ac) (U lo ln lc) n (tru l letter claim) (W1.heap.size+1) W):=hi.congr (fun j hj=>by rw[HAL.out,QK HZ.out h0n HN.out n (qB _) j hj,if_pos (by omega)]);clear hi;gi_wp2
    refine⟨by simp,.inl ⟨_,_,rfl,run_takeDeferred hK,?_⟩⟩;have hb':S (W1.heap.size+1) W (W.putObj D (.deferred Z)):=belowK_b (w:=W1.alloc (C #[U (V ⟨b,off,Z⟩) n cap] 33)) (by simp) W D _ _ hD hK rfl rfl;have t':=HT.out.later hb' (by omega);exact⟨_,results_tmp2 rfl _ _ _,_,rfl,t'.below,t'.row,by omega⟩
   case stop=>
    rintro D c pre W _ _ h _;exact h.elim
def BD(w:N)(v:G)(B:Nat)(av:G)(l:List (Int×Int)):Prop:=
 ∃b off cap,v=U (V ⟨b,off,Z⟩) l.length cap/\b<w.heap.size/\BN w b off l/\w.rowIs B 3 l.length (fun q=>.int T (Am (l.map Prod.fst) q))/\IntsV w av (AA l)
theorem BD.below{w w':N}{v:G}{B:Nat}{av:G}{l:List (Int×Int)}(h:BD w v B av l)(hb:S w.heap.size w w'):BD w' v B av l:=by
 obtain⟨b,off,cap,h1,h2,h3,h4,h5⟩:=h;exact⟨b,off,cap,h1,qE h2 hb.size,h3.below hb h2,B6 h4 hb,h5.below hb⟩
def B8(l:List (Int×Int))(claim:Int):Prop:=claim<0\/2^(AA l).length<=claim
def Ht(l:List (Int×Int))(letter:List Bool)(claim:Int)(w:N)(e:Ending)(w':N):Prop:=
 S w.heap.size w w'/\(B8 l claim->e=O (ZZ #[U Z 0 0,.int T 2]))/\(¬B8 l claim->∃bH,e=O (ZZ #[U (V ⟨bH,0,Z⟩) l.length l.length,.int T 0])/\w'.rowIs bH 4 l.length (fun j=>.bool (tru l letter claim j)))
theorem Gj(v:G)(B:Nat)(av lv:G)(l:List (Int×Int))(letter:List Bool)(claim:Int)(w:N)(hc:Aa letter.length l=0)(hV:BD w v B av l)(hL:BoolsV w lv letter) :
  J qA 60 #[ZY #[v,U (V ⟨B,0,Z⟩) l.length l.length,av],lv,.int T claim] w (Ht l letter claim w):=by
 obtain⟨hp0,hp6,hz,hlf,h6⟩:=CC hc;obtain⟨hne,h60⟩:=Dn hz;rw[qO]at h60;obtain⟨b,off,cap,rfl,hbl,hat,hrow,hav⟩:=hV;obtain⟨aao,ac,rfl,ha⟩:=id hav;obtain⟨lo,lc,rfl,hl⟩:=id hL;by_cases hcl:B8 l claim
 .exact (VZ _ _ _ _ aao _ ac claim lo _ lc (V ⟨b,off,Z⟩) (V ⟨B,0,Z⟩) l.length cap l.length l.length rfl rfl rfl rfl h6 w hcl).mono fun e w' ⟨h1,h2⟩=>⟨h2,fun _=>h1,fun h=>absurd hcl h⟩
 .have h0n:0<l.length:=by
   cases l with
   |nil=>exact absurd rfl hne
   |cons _ _=>simp
  refine(VY b off cap l.length B aao _ ac lo _ lc l letter claim w h0n h60 rfl hz hat hbl hrow rfl hav h6 rfl hL hlf (by unfold B8 at hcl;omega) (by unfold B8 at hcl;omega)).mono fun e w' ⟨bH,h1,h2,h3,_⟩=>⟨h2,fun h=>absurd h hcl,fun _=>⟨bH,h1,h3.out⟩⟩
noncomputable def BF(l:List (Int×Int))(letter:List Bool)(claim:Int):Int:=by classical exact if Aa letter.length l=0 then(if B8 l claim then 2 else 0)else Aa letter.length l
noncomputable def DI(l:List (Int×Int))(letter:List Bool)(claim:Int):List Bool:=if BF l letter claim=0 then(List.range l.length).map (tru l letter claim)else []
theorem Hb{l:List (Int×Int)}{letter:List Bool}{claim:Int}(h:Aa letter.length l≠0):BF l letter claim=Aa letter.length l:=by unfold BF;rw[if_neg h]
theorem Fy{l:List (Int×Int)}{letter:List Bool}{claim:Int}(h:Aa letter.length l=0)(h2:B8 l claim):BF l letter claim=2:=by unfold BF;rw[if_pos h,if_pos h2]
theorem D6{l:List (Int×Int)}{letter:List Bool}{claim:Int}(h:Aa letter.length l=0)(h2:¬B8 l claim):BF l letter claim=0:=by unfold BF;rw[if_pos h,if_neg h2]
theorem Oh{w:N}{bH:Nat}{l:List (Int×Int)}{letter:List Bool}{claim:Int}(h:w.rowIs bH 4 l.length (fun j=>.bool (tru l letter claim j))):BoolsV w (U (V ⟨bH,0,Z⟩) l.length l.length) ((List.range l.length).map (tru l letter claim)):=by
 have h2:=IB (w:=w) (B:=bH) (l:=(List.range l.length).map (tru l letter claim)) (by
  rw[qO,q8];exact h.congr fun j hj=>by simp[qC,hj])
 rwa[qO,q8]at h2
theorem Im(v:G)(l:List (Int×Int))(props:Int)(w:N)(hB:0<w.heap.size)(hT:AH w)(hV:OpsV w v l) :
  J qA 54 #[v,.int T props] w fun e w'=>S w.heap.size w w'/\(Aa props l≠0->e=O (ZZ #[ZY #[U Z 0 0,U Z 0 0,U Z 0 0],.int T (Aa props l)]))/\(Aa props l=0->∃B aao ac,e=O (ZZ #[ZY #[v,U (V ⟨B,0,Z⟩) l.length l.length,.slice aao (AA l).length ac],.int T 0])/\E (BD w' v B (.slice aao (AA l).length ac) l)):=by
 refine(Io v l props w hB hT hV).mono fun e w' ⟨h1,h2,h3⟩=>⟨h1,h2,fun hz=>?_⟩;obtain⟨B,av,_,he,hrow,ho⟩:=h3 hz;obtain⟨aao,ac,rfl⟩:=A1 ho;obtain⟨_,_,hze,_,_⟩:=CC hz;obtain⟨hne,_⟩:=Dn hze;obtain⟨b,off,hat⟩:∃b off,(∃cap,v=U (V ⟨b,off,Z⟩) l.length cap)/\b<w'.heap.size/\BN w' b off l:=by
  obtain⟨ao,cap,rfl,_,h⟩:=hV.below h1;obtain⟨b,off,rfl,hlt,hat⟩:=h (by rintro rfl;exact hne rfl);exact⟨b,off,⟨cap,rfl⟩,hlt,hat⟩
 obtain⟨⟨cap,hv⟩,hlt,hat⟩:=hat;exact⟨B,aao,ac,he,b,off,cap,hv,hlt,hat,hrow,Dv ho⟩
theorem Lj (v lv:G) (l:List (Int × Int)) (letter:List Bool) (claim:Int) (w:N) (hB:0 < w.heap.size) (hT:AH w) (hV:OpsV w v l) (hL:BoolsV w lv letter) :
    J qA 33 #[v,lv,.int T claim] w fun e w'=>∃v',e=O (ZZ #[v',.int T (BF l letter claim)])/\S w.heap.size w w'/\BoolsV w' v' (DI l letter claim):=by
  have hrd:=Im v l letter.length w hB hT hV;obtain⟨lo,lc,rfl,hl⟩:=id hL;obtain⟨oo,oc,rfl,_⟩:=id hV;by_cases hc:Aa letter.length l=0
  . have HM:E (∀w1 B aao ac,S w.heap.size w w1->BD w1 (.slice oo l.length oc) B (.slice aao (AA l).length ac) l->∀o,J qA 60 #[ZY #[.slice oo l.length oc,U (V ⟨B,0,Z⟩) l.length l.length,.slice aao (AA l).length ac],.slice lo letter.length lc,.int T claim] (w1.alloc o) fun e w'=>∃ro rn rc,e=O (ZZ #[U ro rn rc,.int T (BF l letter claim)])/\S w1.heap.size w1 w'/\E (BoolsV w' (U ro rn rc) (DI l letter claim))):=fun w1 B aao ac hb hW o=>by
      have hA:S w1.heap.size w1 (w1.alloc o):=(qD _ _).alloc (qB _) o;refine(Gj _ B _ _ l letter claim (w1.alloc o) hc (hW.below hA) ((hL.below hb).below hA)).mono fun e w' ⟨h1,h2,h3⟩=>?_;have h1':=hA.trans (h1.mono hA.size);by_cases hn:B8 l claim
      . exact⟨Z,0,0,by rw[Fy hc hn];exact h2 hn,h1',by show BoolsV _ _ _;unfold DI;rw[Fy hc hn];exact⟨Z,0,rfl,fun h=>absurd rfl h⟩⟩
      . obtain⟨bH,he,hr⟩:=h3 hn
        exact⟨_,_,_,by rw[D6 hc hn];exact he,h1',by show BoolsV _ _ _;unfold DI;rw[D6 hc hn];exact Oh hr⟩
    have hrd2:J qA 54 #[.slice oo l.length oc,.int T (letter.length:Int)] w fun e w'=>S w.heap.size w w'/\∃B aao ac,e=O (ZZ #[ZY #[.slice oo l.length oc,U (V ⟨B,0,Z⟩) l.length l.length,.slice aao (AA l).length ac],.int T 0])/\E (BD w' (.slice oo l.length oc) B (.slice aao (AA l).length ac) l):=hrd.mono fun e w' ⟨h1,_,h3⟩=>⟨h1,h3 hc⟩;generalize BF l letter claim=x at *;generalize DI l letter claim=res at *;generalize(AA l).length=an at *;generalize letter.length=ln at *;generalize l.length=n at *;clear hrd hT hV hL hl hc
    go_enter Tryz.func33,Tryz.ntmps33;go_wp2_with (first|(go_at_call 54;refine hrd2.mono ?_;rintro e w1 ⟨hb1,B,aao,ac,rfl,HW⟩;have hme:=HM.out w1 B aao ac hb1 HW.out)|(go_at_call 60;refine(hme _).mono ?_;rintro e w2 ⟨ro,rn,rc,rfl,hb2,HR⟩))
    go_ret2;exact⟨_,rfl,hb1.trans (hb2.mono hb1.size),HR.out⟩
  . have hrd2:J qA 54 #[.slice oo l.length oc,.int T (letter.length:Int)] w fun e w'=>S w.heap.size w w'/\e=O (ZZ #[ZY #[U Z 0 0,U Z 0 0,U Z 0 0],.int T (Aa letter.length l)]):=hrd.mono fun e w' ⟨h1,h2,_⟩=>⟨h1,h2 hc⟩
    have HX:E (BF l letter claim=Aa letter.length l/\DI l letter claim=[]):=⟨Hb hc,by unfold DI;rw[if_neg (by rw[Hb hc];exact hc)]⟩;rw[HX.out.1,HX.out.2];generalize Aa letter.length l=x at *;generalize letter.length=ln at *;generalize l.length=n at *;clear hrd hT hV hL hl HX
    go_enter Tryz.func33,Tryz.ntmps33;go_wp2_with (go_at_call 54;refine hrd2.mono ?_;rintro e w1 ⟨hb1,rfl⟩)
    go_ret2;exact⟨_,rfl,by first|exact hb1|exact hb1.alloc hb1.size _,Z,0,rfl,fun h=>absurd rfl h⟩
def C6(k:Int)(a x y:Bool):Bool:=if k=17 then a&&!x else if k=18 then !a&&x else if k=15 then a&&!y else if k=16 then !a&&y else ZX
def Cr(k:Int)(x y z nx:Bool):Bool:=if k=17 then x||z else if k=18 then x&&z else if k=15 then y||(x&&z)else if k=16 then y&&(x||z)else nx
structure PlaceIn(w:N)(b off n cap B bH:Nat)(l:List (Int×Int))(h:Nat->Bool)(p:Nat)(kx:Int):Prop where
 n60:n<=60
 pl:p<n
 one:p+1<n
 two:kx=15\/kx=16->sec l p<n
 kind:w.cell? ⟨b,off+p*2,Z⟩=V (.int T kx)
 bl:b<w.heap.size
 row:∀j,j<n->w.cell? ⟨bH,j,Z⟩=V (.bool (h j))
 hl:bH<w.heap.size
 ends : ∀ j, j < n -> w.cell? ⟨B, j, Z⟩ = V (.int T (Am (l.map Prod.fst) j))
 el:B<w.heap.size
theorem Vj(b off n cap B bH:Nat)(l:List (Int×Int))(h:Nat->Bool)(p:Nat)(kx:Int)(aao:Option Addr)(an ac:Nat)(w:N)(hI:PlaceIn w b off n cap B bH l h p kx) :
  J qA 92 #[ZY #[U (V ⟨b,off,Z⟩) n cap,U (V ⟨B,0,Z⟩) n n,U aao an ac],.int T (p:Int),U (V ⟨bH,0,Z⟩) n n] w fun e w'=>e=O (.bool (C6 kx (h p) (h (p+1)) (h (sec l p))))/\S w.heap.size w w':=by
 obtain⟨h60,hp,hp1,hp2,ck,hbl,hrow,hhl,hends,hel⟩:=hI;have hA:∀o,S w.heap.size w (w.alloc o):=fun o=>(qD _ _).alloc (qB _) o;have hpa:=fun o=>Gu b off cap n B bH p _ h l aao an ac rfl (w.alloc o) (fun j hj=>((hA o).cell (p:=⟨bH,j,Z⟩) hhl).trans (hrow j hj)) (qE hhl (hA o).size) (fun j hj=>((hA o).cell (p:=⟨B,j,Z⟩) hel).trans (hends j hj)) (qE hel (hA o).size);have hpa:=hpa (C #[U (V ⟨b,off,Z⟩) n cap,U (V ⟨B,0,Z⟩) n n,U aao an ac] 138);simp only[World.size_alloc]at hpa;have HP2:E (∀w2,S (w.heap.size+1) (w.alloc (C #[U (V ⟨b,off,Z⟩) n cap,U (V ⟨B,0,Z⟩) n n,U aao an ac] 138)) w2->S w.heap.size w w2/\w2.cell? ⟨b,off+p*2,Z⟩=V (.int T kx)/\w2.cell? ⟨bH,p,Z⟩=V (.bool (h p))/\w2.cell? ⟨w.heap.size,0,Z⟩=V (U (V ⟨b,off,Z⟩) n cap)):=fun w2 hb=>by
  have hb2:=(hA _).trans (hb.mono (vD _));exact⟨hb2,(hb2.cell (p:=⟨b,_,Z⟩) hbl).trans ck,(hb2.cell (p:=⟨bH,_,Z⟩) hhl).trans (hrow p hp),(hb.cell (p:=⟨w.heap.size,0,Z⟩) (by simp)).trans (by simp[go_sem])⟩
 have HF:E (∀w2 bh bf bp,PartsAt w2 bh bf bp bH n B p h l->J qA 120 #[I (V ⟨bh,0,Z⟩),I (V ⟨bp,0,Z⟩)] w2 fun e w'=>e=O (.bool (h (p+1)))/\w'=w2):=fun w2 bh bf bp hP=>GQ bh bp bH n p _ w2 h60 hp1 hP.holds hP.place (hP.row _ hp1);have HS:E ((kx=15\/kx=16)->∀w2 bh bf bp,PartsAt w2 bh bf bp bH n B p h l->J qA 121 #[I (V ⟨bh,0,Z⟩),I (V ⟨bf,0,Z⟩),I (V ⟨bp,0,Z⟩)] w2 fun e w'=>e=O (.bool (h (sec l p)))/\∃r,w'=w2.drewN r):=fun hk w2 bh bf bp hP=>JZ bh bf bp bH n B p (sec l p) _ w2 h60 hp1 (hp2 hk) hP.holds hP.place hP.ends (hP.erow _ hp1) (hP.row _ (hp2 hk));generalize hx:h (p+1)=x at *;generalize hy:h (sec l p)=y at *;generalize hz:h p=z at *;clear hx hy hz hrow hends ck hp2 hA
 by_cases e17:kx=17
 .subst e17;rw[show C6 17 z x y=(z&&!x) by simp[C6]];clear HS;cases z
  all_goals
   go_enter Tryz.func92,Tryz.ntmps92;go_wp2_with (first|(go_at_call 87;refine hpa.mono ?_;rintro e w2 ⟨rfl,hb2,HP⟩;obtain⟨hbw,d0,d1,d2⟩:=HP2.out w2 hb2;have hf:=HF.out w2 _ _ _ HP.out)|(go_at_call 120;refine hf.mono ?_;rintro e w3 ⟨rfl,hw3⟩;obtain rfl:=hw3.symm))
   go_ret;exact⟨by first|rfl|simp,by first|exact hbw|exact below_drewN hbw _⟩
 .by_cases e18:kx=18
  .subst e18;rw[show C6 18 z x y=(!z&&x) by simp[C6]];clear HS;cases z
   all_goals
    go_enter Tryz.func92,Tryz.ntmps92;go_wp2_with (first|(go_at_call 87;refine hpa.mono ?_;rintro e w2 ⟨rfl,hb2,HP⟩;obtain⟨hbw,d0,d1,d2⟩:=HP2.out w2 hb2;have hf:=HF.out w2 _ _ _ HP.out)|(go_at_call 120;refine hf.mono ?_;rintro e w3 ⟨rfl,hw3⟩;obtain rfl:=hw3.symm))
    go_ret;exact⟨by first|rfl|simp,by first|exact hbw|exact below_drewN hbw _⟩
  .by_cases e15:kx=15
   .subst e15;rw[show C6 15 z x y=(z&&!y) by simp[C6]];have HS2:=(show E _ from HS.out (by decide));clear HS;cases z
    all_goals
     go_enter Tryz.func92,Tryz.ntmps92;go_wp2_with (first|(go_at_call 87;refine hpa.mono ?_;rintro e w2 ⟨rfl,hb2,HP⟩;obtain⟨hbw,d0,d1,d2⟩:=HP2.out w2 hb2;have hs:=HS2.out w2 _ _ _ HP.out)|(go_at_call 121;refine hs.mono ?_;rintro e w3 ⟨rfl,r3,rfl⟩))
     go_ret;exact⟨by first|rfl|simp,by first|exact hbw|exact below_drewN hbw _⟩
   .by_cases e16:kx=16
    .subst e16;rw[show C6 16 z x y=(!z&&y) by simp[C6]];have HS2:=(show E _ from HS.out (by decide));clear HS;cases z
     all_goals
      go_enter Tryz.func92,Tryz.ntmps92;go_wp2_with (first|(go_at_call 87;refine hpa.mono ?_;rintro e w2 ⟨rfl,hb2,HP⟩;obtain⟨hbw,d0,d1,d2⟩:=HP2.out w2 hb2;have hs:=HS2.out w2 _ _ _ HP.out)|(go_at_call 121;refine hs.mono ?_;rintro e w3 ⟨rfl,r3,rfl⟩))
      go_ret;exact⟨by first|rfl|simp,by first|exact hbw|exact below_drewN hbw _⟩
    .rw[show C6 kx z x y=ZX by simp[C6,e17,e18,e15,e16]];clear HS;go_enter Tryz.func92,Tryz.ntmps92;go_wp2_with (first|(go_at_call 87;refine hpa.mono ?_;rintro e w2 ⟨rfl,hb2,HP⟩;obtain⟨hbw,d0,d1,d2⟩:=HP2.out w2 hb2))
     go_ret;exact⟨rfl,hbw⟩
theorem Q6(bn bp bN n pl:Nat)(x:Bool)(w:N)(hp:pl<n)(c0:w.cell? ⟨bn,0,Z⟩=V (U (V ⟨bN,0,Z⟩) n n))(c1:w.cell? ⟨bp,0,Z⟩=V (.int T pl))(c2:w.cell? ⟨bN,pl,Z⟩=V (.bool x)) :
  J qA 153 #[I (V ⟨bn,0,Z⟩),I (V ⟨bp,0,Z⟩)] w fun e w'=>e=O (.bool x)/\w'=w:=by
 go_enter Tryz.func153,Tryz.ntmps153;go_wp2_with fail
 go_ret;exact⟨rfl,rfl⟩
def Hi(l:List (Int×Int))(h:Nat->Bool)(p:Nat):Bool:=C6 (l.getD p (0,0)).1 (h p) (h (p+1)) (h (sec l p))
def Cv(l:List (Int×Int))(h:Nat->Bool):Nat->Int
 |0=>0
 |k+1=>Cv l h k+if Hi l h ((AA l).getD k 0).toNat=true then 0 else 2^k
theorem Ls(l:List (Int×Int))(h:Nat->Bool):∀k,0<=Cv l h k/\Cv l h k<2^k:=by
 intro k;induction k with
 |zero=>simp[Cv]
 |succ k ih=>
  have h2:(0:Int)<2^k:=jY (by decide);simp only[Cv];rw[kM];split<;>omega
theorem Sw:∀k,k<6->∀c,c<2^k->bits BinOp.or IntKind.i64 ((c:Nat):Int) (2^k)=((c:Nat):Int)+2^k:=by decide
theorem MF{c:Int}{k:Nat}(hk:k<6)(h0:0<=c)(h1:c<2^k):bits BinOp.or IntKind.i64 c (2^k)=c+2^k:=by
 obtain⟨m,rfl⟩:∃m:Nat,c=m:=⟨c.toNat,by omega⟩;refine Sw k hk m ?_;have e:((2^k:Nat):Int)=2^k:=by simp
 omega
theorem MV{k:Nat}(hk:k<=6):(2:Int)^k<=64:=by
 have hcase:k=0\/k=1\/k=2\/k=3\/k=4\/k=5\/k=6:=by omega
 rcases hcase with rfl|rfl|rfl|rfl|rfl|rfl|rfl<;>decide
noncomputable def B1(l:List (Int×Int))(letter:List Bool)(claim:Int):Int:=if BF l letter claim=0 then Cv l (tru l letter claim) (AA l).length else 0
theorem MS{w:N}{b off cap B bH:Nat}{av:G}{l:List (Int×Int)}{h:Nat->Bool}(hW:BD w (U (V ⟨b,off,Z⟩) l.length cap) B av l)(hz:AR (l.map Prod.fst)=0)(hr:w.rowIs bH 4 l.length (fun j=>.bool (h j))){p:Nat}(hp:p<l.length)(hk:Af (l.getD p (0,0)).1=true):PlaceIn w b off l.length cap B bH l h p (l.getD p (0,0)).1:=by
 obtain⟨b',off',cap',hv,hbl,hat,hrow,_⟩:=hW;injection hv with e1 e2 e3;injection Option.some.inj e1 with e4 e5;subst e4 e5;obtain⟨hne,h60⟩:=Dn hz;rw[qO]at h60;obtain⟨h1,h2⟩:=Gt hz hp;have hk':14<=(l.getD p (0,0)).1/\(l.getD p (0,0)).1<=18:=by simpa[Af]using hk
 have hpn:1<=pn (l.getD p (0,0)).1:=by
  unfold pn;split
  .omega
  .split
   .omega
   .omega
 exact⟨h60,hp,h1 hpn,fun e=>(h2 (by rcases e with e|e<;>rw[e]<;>rfl)).2,(hat p hp).1,hbl,fun j hj=>hr.cell hj,hr.lt,fun j hj=>hrow.cell hj,hrow.lt⟩
theorem Rc(v lv:G)(l:List (Int×Int))(letter:List Bool)(claim:Int)(w:N)(hB:0<w.heap.size)(hT:AH w)(hV:OpsV w v l)(hL:BoolsV w lv letter) :
  J qA 63 #[v,lv,.int T claim] w fun e w'=>e=O (ZZ #[ZW T (B1 l letter claim),.int T (BF l letter claim)])/\S w.heap.size w w':=by
 have hrd:=Im v l letter.length w hB hT hV;obtain⟨lo,lc,rfl,hl⟩:=id hL;obtain⟨oo,oc,rfl,_⟩:=id hV;by_cases hc:Aa letter.length l=0
 .obtain ⟨_,_,hz,_,h6⟩:=CC hc;have hrd2:J qA 54 #[.slice oo l.length oc,.int T (letter.length:Int)] w fun e w'=>S w.heap.size w w'/\∃B aao ac,e=O (ZZ #[ZY #[.slice oo l.length oc,U (V ⟨B,0,Z⟩) l.length l.length,.slice aao (AA l).length ac],.int T 0])/\E (BD w' (.slice oo l.length oc) B (.slice aao (AA l).length ac) l):=hrd.mono fun e w' ⟨h1,_,h3⟩=>⟨h1,h3 hc⟩;have HM:E (∀w1 B aao ac,S w.heap.size w w1->BD w1 (.slice oo l.length oc) B (.slice aao (AA l).length ac) l->J qA 60 #[ZY #[.slice oo l.length oc,U (V ⟨B,0,Z⟩) l.length l.length,.slice aao (AA l).length ac],.slice lo letter.length lc,.int T claim] (w1.alloc (C #[.slice oo l.length oc,U (V ⟨B,0,Z⟩) l.length l.length,.slice aao (AA l).length ac] 138)) fun e w'=>S (w1.heap.size+1) (w1.alloc (C #[.slice oo l.length oc,U (V ⟨B,0,Z⟩) l.length l.length,.slice aao (AA l).length ac] 138)) w'/\(B8 l claim->e=O (ZZ #[U Z 0 0,.int T 2]))/\(¬B8 l claim->∃bH,e=O (ZZ #[U (V ⟨bH,0,Z⟩) l.length l.length,.int T 0])/\E (w'.rowIs bH 4 l.length (fun j=>.bool (tru l letter claim j))))):=fun w1 B aao ac hb hW=>by
   have hA:∀o,S w1.heap.size w1 (w1.alloc o):=fun o=>(qD _ _).alloc (qB _) o;refine(Gj _ B _ _ l letter claim (w1.alloc _) hc (hW.below (hA _)) ((hL.below hb).below (hA _))).mono fun e w' ⟨h1,h2,h3⟩=>⟨?_,h2,h3⟩;simpa using h1
  by_cases hcl:B8 l claim
  .have htc:BF l letter claim=2:=Fy hc hcl;rw[htc,show B1 l letter claim=0 by unfold B1;rw[htc];rfl];have HM2:E (∀w1 B aao ac,S w.heap.size w w1->BD w1 (.slice oo l.length oc) B (.slice aao (AA l).length ac) l->J qA 60 #[ZY #[.slice oo l.length oc,U (V ⟨B,0,Z⟩) l.length l.length,.slice aao (AA l).length ac],.slice lo letter.length lc,.int T claim] (w1.alloc (C #[.slice oo l.length oc,U (V ⟨B,0,Z⟩) l.length l.length,.slice aao (AA l).length ac] 138)) fun e w'=>e=O (ZZ #[U Z 0 0,.int T 2])/\S w1.heap.size w1 w'):=fun w1 B aao ac hb hW=>(HM.out w1 B aao ac hb hW).mono fun e w' ⟨h1,h2,_⟩=>⟨h2 hcl,((qD _ _).alloc (qB _) _).trans (h1.mono (vD _))⟩;generalize(AA l).length=an at *;generalize letter.length=ln at *;generalize l.length=n at *;clear hrd hT hV hL hl hc HM hcl htc hz h6
   go_enter Tryz.func63,Tryz.ntmps63;go_wp2_with (first|(go_at_call 54;refine hrd2.mono ?_;rintro e w1 ⟨hb1,B,aao,ac,rfl,HW⟩;have hme:=HM2.out w1 B aao ac hb1 HW.out)|(go_at_call 60;refine hme.mono ?_;rintro e w2 ⟨rfl,hb2⟩))
   go_ret2;exact⟨rfl,hb1.trans (hb2.mono hb1.size)⟩
  .have htc:BF l letter claim=0:=D6 hc hcl;rw[htc,show B1 l letter claim=Cv l (tru l letter claim) (AA l).length by unfold B1;rw[htc];rfl];have HM2:E (∀w1 B aao ac,S w.heap.size w w1->BD w1 (.slice oo l.length oc) B (.slice aao (AA l).length ac) l->J qA 60 #[ZY #[.slice oo l.length oc,U (V ⟨B,0,Z⟩) l.length l.length,.slice aao (AA l).length ac],.slice lo letter.length lc,.int T claim] (w1.alloc (C #[.slice oo l.length oc,U (V ⟨B,0,Z⟩) l.length l.length,.slice aao (AA l).length ac] 138)) fun e w'=>∃bH,e=O (ZZ #[U (V ⟨bH,0,Z⟩) l.length l.length,.int T 0])/\S w1.heap.size w1 w'/\w1.heap.size<w'.heap.size/\w'.cell? ⟨w1.heap.size,0,Z⟩=V (.slice oo l.length oc)/\w'.cell? ⟨w1.heap.size,1,Z⟩=V (U (V ⟨B,0,Z⟩) l.length l.length)/\w'.cell? ⟨w1.heap.size,2,Z⟩=V (.slice aao (AA l).length ac)/\E (BD w' (.slice oo l.length oc) B (.slice aao (AA l).length ac) l/\w'.rowIs bH 4 l.length (fun j=>.bool (tru l letter claim j)))):=fun w1 B aao ac hb hW=>(HM.out w1 B aao ac hb hW).mono fun e w' ⟨h1,_,h3⟩=>by
    obtain⟨bH,he,hr⟩:=h3 hcl;have hb':S w1.heap.size w1 w':=((qD _ _).alloc (qB _) _).trans (h1.mono (vD _));refine⟨bH,he,hb',by have:=h1.size;simp at this;omega,(h1.cell (p:=⟨w1.heap.size,0,Z⟩) (qY _)).trans (by simp[go_sem]),(h1.cell (p:=⟨w1.heap.size,1,Z⟩) (qY _)).trans (by simp[go_sem]),(h1.cell (p:=⟨w1.heap.size,2,Z⟩) (qY _)).trans (by simp[go_sem]),hW.below hb',hr.out⟩
   have HWa:E (∀w2 B bH aao ac p,BD w2 (.slice oo l.length oc) B (.slice aao (AA l).length ac) l->w2.rowIs bH 4 l.length (fun j=>.bool (tru l letter claim j))->p<l.length->Af (l.getD p (0,0)).1=true->J qA 92 #[ZY #[.slice oo l.length oc,U (V ⟨B,0,Z⟩) l.length l.length,.slice aao (AA l).length ac],.int T (p:Int),U (V ⟨bH,0,Z⟩) l.length l.length] w2 fun e w'=>e=O (.bool (Hi l (tru l letter claim) p))/\S w2.heap.size w2 w'):=fun w2 B bH aao ac p hW hr hp hk=>by
    obtain⟨b,off,cap,hv,_⟩:=id hW;injection hv with e1 e2 e3;subst e1 e3;exact Vj b off l.length oc B bH l _ p _ aao _ ac w2 (MS hW hz hr hp hk)
   have HG:E (∀w2 B aao ac k,BD w2 (.slice oo l.length oc) B (.slice aao (AA l).length ac) l->k<(AA l).length->∃p:Nat,(∃ab aoff,aao=V ⟨ab,aoff,Z⟩/\w2.cell? ⟨ab,aoff+k,Z⟩=V (.int T (p:Int)))/\p<l.length/\Af (l.getD p (0,0)).1=true/\((AA l).getD k 0).toNat=p):=fun w2 B aao ac k hW hk=>by
    obtain⟨_,_,_,_,_,_,_,ao',ac',hsl,hai⟩:=hW;injection hsl with e1 e2 e3;subst e1;obtain⟨ab,aoff,rfl,habl,haat⟩:=hai (by intro h;rw[h]at hk;simp at hk);obtain⟨p,h1,h2,h3,h4⟩:=F9 l l.length k hk;have h1':(AA l).getD k 0=(p:Int):=h1;exact⟨p,⟨ab,aoff,rfl,by rw[haat k hk,h1']⟩,h2,h3,by rw[h1'];rfl⟩
   have HMS:E (∀k,Cv l (tru l letter claim) (k+1)=Cv l (tru l letter claim) k+if Hi l (tru l letter claim) ((AA l).getD k 0).toNat=true then 0 else 2^k):=fun _=>rfl;have HMB:E (∀k,0<=Cv l (tru l letter claim) k/\Cv l (tru l letter claim) k<2^k):=Ls _ _;have HM0:E (Cv l (tru l letter claim) 0=0):=rfl;generalize Cv l (tru l letter claim)=mt at *;generalize hwt:Hi l (tru l letter claim)=wt at *;clear hwt;obtain⟨an,han⟩:∃an,an=(AA l).length:=⟨_,rfl⟩
   rw[<-han]at hrd2 HM2 HWa HG h6⊢;generalize hnn:l.length=n at *;generalize letter.length=ln at *;clear hrd hT hV hL hl hc HM hcl htc hz hnn han
   go_enter Tryz.func63,Tryz.ntmps63;go_wp2_with (first|(go_at_call 54;refine hrd2.mono ?_;rintro e w1 ⟨hb1,B,aao,ac,rfl,HW⟩;have hme:=HM2.out w1 B aao ac hb1 HW.out)|(go_at_call 60;refine hme.mono ?_;rintro e w2 ⟨bH,rfl,hb2,hs2,d0,d1,d2,HW2⟩))
   have hb12:=hb1.trans (hb2.mono hb1.size);clear hrd2 hme HM2 HW;go_loopw [11,37] (fun mv i wr=>∃k:Nat,k<=an/\i=.int T (k:Int)/\mv=.int T (mt k)/\E (S w2.heap.size w2 wr)) (fun _ i _=>an-(intOf i).toNat)
   case atStart=>exact⟨0,qJ _,rfl,by rw[HM0.out],qD _ _⟩
   case round=>
    obtain⟨k,hk,rfl,rfl,HBel⟩:=hrel;have hbel:=HBel.out;have d0':=(hbel.cell (p:=⟨w1.heap.size,0,Z⟩) hs2).trans d0;have d1':=(hbel.cell (p:=⟨w1.heap.size,1,Z⟩) hs2).trans d1;have d2':=(hbel.cell (p:=⟨w1.heap.size,2,Z⟩) hs2).trans d2;by_cases hlt:k<an
    .have hWr:=HW2.out.1.below hbel;obtain⟨p,⟨ab,aoff,rfl,hca⟩,hpn,hpk,hpi⟩:=HG.out wr B aao ac k hWr hlt;have hwa:=HWa.out wr B bH _ ac p hWr (B6 HW2.out.2 hbel) hpn hpk;have HS:=(show E _ from HMS.out k);rw[hpi]at HS;obtain⟨hm0,hm1⟩:=HMB.out k;have hk6:k<6:=by omega
     have hps:=MV (k:=k) (by omega);have h2k:(0:Int)<2^k:=jY (by decide);have HOr:E (bits BinOp.or IntKind.i64 (mt k) (2^k)=mt k+2^k):=MF hk6 hm0 hm1;generalize wt p=wv at *;clear HWa HG HMS HMB hpi hpk HW2 hWr
     cases wv with
     |true=>
      have HS2:E (mt (k+1)=mt k):=by show _=_;rw[HS.out];simp
      clear HS;go_wp2_with (go_at_call 92;refine hwa.mono ?_;rintro e w3 ⟨rfl,hb3⟩)
      exact⟨⟨k+1,hlt,by first|rfl|simp,by rw[HS2.out],hbel.trans (hb3.mono hbel.size)⟩,by simp[intOf];omega⟩
     |false=>
      have HS2:E (mt (k+1)=mt k+2^k):=by show _=_;rw[HS.out];simp
      clear HS;go_wp2_with (go_at_call 92;refine hwa.mono ?_;rintro e w3 ⟨rfl,hb3⟩)
      exact⟨⟨k+1,hlt,by first|rfl|simp,by rw[HS2.out,<-HOr.out],hbel.trans (hb3.mono hbel.size)⟩,by simp[intOf];omega⟩
    .obtain rfl:k=an:=by omega
     go_wp2_with fail
     go_ret2;exact⟨rfl,hb12.trans (hbel.mono hb12.size)⟩
 .have htc:=Hb (claim:=claim) hc;rw[htc,show B1 l letter claim=0 by unfold B1;rw[htc,if_neg hc]];have hrd2:J qA 54 #[.slice oo l.length oc,.int T (letter.length:Int)] w fun e w'=>S w.heap.size w w'/\e=O (ZZ #[ZY #[U Z 0 0,U Z 0 0,U Z 0 0],.int T (Aa letter.length l)]):=hrd.mono fun e w' ⟨h1,h2,_⟩=>⟨h1,h2 hc⟩;generalize Aa letter.length l=x at *;generalize letter.length=ln at *;generalize l.length=n at *;clear hrd hT hV hL hl htc
  go_enter Tryz.func63,Tryz.ntmps63;go_wp2_with (go_at_call 54;refine hrd2.mono ?_;rintro e w1 ⟨hb1,rfl⟩)
  go_ret2;exact⟨rfl,by first|exact hb1|exact hb1.alloc hb1.size _⟩
theorem PC(b off n cap B bH bN:Nat)(l:List (Int×Int))(h g:Nat->Bool)(p:Nat)(kx:Int)(aao:Option Addr)(an ac:Nat)(w:N)(hI:PlaceIn w b off n cap B bH l h p kx)(hN:∀j,j<n->w.cell? ⟨bN,j,Z⟩=V (.bool (g j)))(hNl:bN<w.heap.size) :
  J qA 123 #[ZY #[U (V ⟨b,off,Z⟩) n cap,U (V ⟨B,0,Z⟩) n n,U aao an ac],.int T (p:Int),U (V ⟨bH,0,Z⟩) n n,U (V ⟨bN,0,Z⟩) n n] w fun e w'=>e=O (.bool (Cr kx (h (p+1)) (h (sec l p)) (g p) (g (p+1))))/\S w.heap.size w w':=by
 obtain⟨h60,hp,hp1,hp2,ck,hbl,hrow,hhl,hends,hel⟩:=hI;have hA:S w.heap.size w (((w.alloc (C #[U (V ⟨b,off,Z⟩) n cap,U (V ⟨B,0,Z⟩) n n,U aao an ac] 138)).alloc (C #[ZW T (p:Int)] 3)).alloc (C #[U (V ⟨bN,0,Z⟩) n n] 111)):=(((qD _ _).alloc (qB _) _).alloc (by simp) _).alloc (by simp;omega) _;have hpa:=Gu b off cap n B bH p _ h l aao an ac rfl (((w.alloc (C #[U (V ⟨b,off,Z⟩) n cap,U (V ⟨B,0,Z⟩) n n,U aao an ac] 138)).alloc (C #[ZW T (p:Int)] 3)).alloc (C #[U (V ⟨bN,0,Z⟩) n n] 111)) (fun j hj=>(hA.cell (p:=⟨bH,j,Z⟩) hhl).trans (hrow j hj)) (qE hhl hA.size) (fun j hj=>(hA.cell (p:=⟨B,j,Z⟩) hel).trans (hends j hj)) (qE hel hA.size);simp only[World.size_alloc]at hpa;have HP2:E (∀w2,S (w.heap.size+1+1+1) (((w.alloc (C #[U (V ⟨b,off,Z⟩) n cap,U (V ⟨B,0,Z⟩) n n,U aao an ac] 138)).alloc (C #[ZW T (p:Int)] 3)).alloc (C #[U (V ⟨bN,0,Z⟩) n n] 111)) w2->S w.heap.size w w2/\w2.cell? ⟨b,off+p*2,Z⟩=V (.int T kx)/\w2.cell? ⟨w.heap.size,0,Z⟩=V (U (V ⟨b,off,Z⟩) n cap)/\w2.cell? ⟨w.heap.size,1,Z⟩=V (U (V ⟨B,0,Z⟩) n n)/\w2.cell? ⟨w.heap.size,2,Z⟩=V (U aao an ac)/\w2.cell? ⟨w.heap.size+1,0,Z⟩=V (.int T (p:Int))/\w2.cell? ⟨w.heap.size+1+1,0,Z⟩=V (U (V ⟨bN,0,Z⟩) n n)):=fun w2 hb=>by
  have hb2:=hA.trans (hb.mono (by omega));refine⟨hb2,(hb2.cell (p:=⟨b,_,Z⟩) hbl).trans ck,(hb.cell (p:=⟨w.heap.size,0,Z⟩) (by first|(simp;omega)|simp)).trans (by simp[go_sem]),(hb.cell (p:=⟨w.heap.size,1,Z⟩) (by first|(simp;omega)|simp)).trans (by simp[go_sem]),(hb.cell (p:=⟨w.heap.size,2,Z⟩) (by first|(simp;omega)|simp)).trans (by simp[go_sem]),(hb.cell (p:=⟨w.heap.size+1,0,Z⟩) (by first|(simp;omega)|simp)).trans (by simp[go_sem]),(hb.cell (p:=⟨w.heap.size+1+1,0,Z⟩) (by simp)).trans (by simp[go_sem])⟩
 have HF:E (∀w2 bh bf bp,PartsAt w2 bh bf bp bH n B p h l->∀w3,(∀q,w3.cell? q=w2.cell? q)->J qA 120 #[I (V ⟨bh,0,Z⟩),I (V ⟨bp,0,Z⟩)] w3 fun e w'=>e=O (.bool (h (p+1)))/\w'=w3):=fun w2 bh bf bp hP w3 hc=>GQ bh bp bH n p _ w3 h60 hp1 ((hc _).trans hP.holds) ((hc _).trans hP.place) ((hc _).trans (hP.row _ hp1));have HS:E ((kx=15\/kx=16)->∀w2 bh bf bp,PartsAt w2 bh bf bp bH n B p h l->J qA 121 #[I (V ⟨bh,0,Z⟩),I (V ⟨bf,0,Z⟩),I (V ⟨bp,0,Z⟩)] w2 fun e w'=>e=O (.bool (h (sec l p)))/\∃r,w'=w2.drewN r):=fun hk w2 bh bf bp hP=>JZ bh bf bp bH n B p (sec l p) _ w2 h60 hp1 (hp2 hk) hP.holds hP.place hP.ends (hP.erow _ hp1) (hP.row _ (hp2 hk));have HZ:E (∀w2,S w.heap.size w w2->w2.cell? ⟨w.heap.size+1,0,Z⟩=V (.int T (p:Int))->w2.cell? ⟨w.heap.size+1+1,0,Z⟩=V (U (V ⟨bN,0,Z⟩) n n)->∀w3,(∀q,w3.cell? q=w2.cell? q)->J qA 153 #[I (V ⟨w.heap.size+1+1,0,Z⟩),I (V ⟨w.heap.size+1,0,Z⟩)] w3 fun e w'=>e=O (.bool (g p))/\w'=w3):=fun w2 hb c1 c2 w3 hc=>Q6 _ _ bN n p _ w3 hp ((hc _).trans c2) ((hc _).trans c1) ((hc _).trans ((hb.cell (p:=⟨bN,p,Z⟩) hNl).trans (hN p hp)));have HPN:E (∀w2,S w.heap.size w w2->J qA 87 #[ZY #[U (V ⟨b,off,Z⟩) n cap,U (V ⟨B,0,Z⟩) n n,U aao an ac],.int T (p:Int),U (V ⟨bN,0,Z⟩) n n] w2 fun e w'=>e=O (ZZ #[.func (.func 120) #[] #[I (V ⟨w2.heap.size+1+1,0,Z⟩),I (V ⟨w2.heap.size+1,0,Z⟩)],.func (.func 121) #[] #[I (V ⟨w2.heap.size+1+1,0,Z⟩),I (V ⟨w2.heap.size,0,Z⟩),I (V ⟨w2.heap.size+1,0,Z⟩)]])/\S w.heap.size w w'/\E (J qA 120 #[I (V ⟨w2.heap.size+1+1,0,Z⟩),I (V ⟨w2.heap.size+1,0,Z⟩)] w' fun e w''=>e=O (.bool (g (p+1)))/\w''=w')):=fun w2 hb=>by
  refine(Gu b off cap n B bN p _ g l aao an ac rfl w2 (fun j hj=>(hb.cell (p:=⟨bN,j,Z⟩) hNl).trans (hN j hj)) (qE hNl hb.size) (fun j hj=>(hb.cell (p:=⟨B,j,Z⟩) hel).trans (hends j hj)) (qE hel hb.size)).mono fun e w' ⟨h1,h2,h3⟩=>⟨h1,hb.trans (h2.mono hb.size),?_⟩;exact GQ _ _ bN n p _ w' h60 hp1 h3.out.holds h3.out.place (h3.out.row _ hp1)
 generalize hx:h (p+1)=x at *;generalize hy:h (sec l p)=y at *;generalize hz:g p=z at *;generalize hnx:g (p+1)=nx at *;clear hx hy hz hnx hrow hends ck hp2 hN
 by_cases e17:kx=17
 .subst e17;rw[show Cr 17 x y z nx=(x||z) by simp[Cr]];clear HS HPN;cases x
  all_goals
   go_enter Tryz.func123,Tryz.ntmps123;go_wp2_with (first|(go_at_call 87;refine hpa.mono ?_;clear hpa;rintro e w2 ⟨rfl,hb2,HP⟩;obtain⟨hbw,d0,d1,d2,d3,d4,d5⟩:=HP2.out w2 hb2;have hf:=HF.out w2 _ _ _ HP.out;have hit:=HZ.out w2 hbw d4 d5)|(go_at_call 120;refine(hf _ (by first|exact fun _=>rfl|(intro q;simp))).mono ?_;rintro e w3 ⟨rfl,hw3⟩;obtain rfl:=hw3.symm)|(go_at_call 153;refine(hit _ (by first|exact fun _=>rfl|(intro q;simp))).mono ?_;rintro e w3 ⟨rfl,hw3⟩;obtain rfl:=hw3.symm))
   go_ret;exact⟨by first|rfl|simp,by first|exact hbw|exact below_drewN hbw _⟩
 .by_cases e18:kx=18
  .subst e18;rw[show Cr 18 x y z nx=(x&&z) by simp[Cr]];clear HS HPN;cases x
   all_goals
    go_enter Tryz.func123,Tryz.ntmps123;go_wp2_with (first|(go_at_call 87;refine hpa.mono ?_;clear hpa;rintro e w2 ⟨rfl,hb2,HP⟩;obtain⟨hbw,d0,d1,d2,d3,d4,d5⟩:=HP2.out w2 hb2;have hf:=HF.out w2 _ _ _ HP.out;have hit:=HZ.out w2 hbw d4 d5)|(go_at_call 120;refine(hf _ (by first|exact fun _=>rfl|(intro q;simp))).mono ?_;rintro e w3 ⟨rfl,hw3⟩;obtain rfl:=hw3.symm)|(go_at_call 153;refine(hit _ (by first|exact fun _=>rfl|(intro q;simp))).mono ?_;rintro e w3 ⟨rfl,hw3⟩;obtain rfl:=hw3.symm))
    go_ret;exact⟨by first|rfl|simp,by first|exact hbw|exact below_drewN hbw _⟩
  .by_cases e15:kx=15
   .subst e15;rw[show Cr 15 x y z nx=(y||(x&&z)) by simp[Cr]];have HS2:=(show E _ from HS.out (by decide));clear HS HPN;cases x<;>cases y
    all_goals
     go_enter Tryz.func123,Tryz.ntmps123;go_wp2_with (first|(go_at_call 87;refine hpa.mono ?_;clear hpa;rintro e w2 ⟨rfl,hb2,HP⟩;obtain⟨hbw,d0,d1,d2,d3,d4,d5⟩:=HP2.out w2 hb2;have hf:=HF.out w2 _ _ _ HP.out;have hs:=HS2.out w2 _ _ _ HP.out;have hit:=HZ.out w2 hbw d4 d5)|(go_at_call 120;refine(hf _ (by first|exact fun _=>rfl|(intro q;simp))).mono ?_;rintro e w3 ⟨rfl,hw3⟩;obtain rfl:=hw3.symm)|(go_at_call 121;refine hs.mono ?_;rintro e w3 ⟨rfl,r3,rfl⟩)|(go_at_call 153;refine(hit _ (by first|exact fun _=>rfl|(intro q;simp))).mono ?_;rintro e w3 ⟨rfl,hw3⟩;obtain rfl:=hw3.symm))
     go_ret;exact⟨by first|rfl|simp,by first|exact hbw|exact below_drewN hbw _⟩
   .by_cases e16:kx=16
    .subst e16;rw[show Cr 16 x y z nx=(y&&(x||z)) by simp[Cr]];have HS2:=(show E _ from HS.out (by decide));clear HS HPN;cases x<;>cases y
     all_goals
      go_enter Tryz.func123,Tryz.ntmps123;go_wp2_with (first|(go_at_call 87;refine hpa.mono ?_;clear hpa;rintro e w2 ⟨rfl,hb2,HP⟩;obtain⟨hbw,d0,d1,d2,d3,d4,d5⟩:=HP2.out w2 hb2;have hf:=HF.out w2 _ _ _ HP.out;have hs:=HS2.out w2 _ _ _ HP.out;have hit:=HZ.out w2 hbw d4 d5)|(go_at_call 120;refine(hf _ (by first|exact fun _=>rfl|(intro q;simp))).mono ?_;rintro e w3 ⟨rfl,hw3⟩;obtain rfl:=hw3.symm)|(go_at_call 121;refine hs.mono ?_;rintro e w3 ⟨rfl,r3,rfl⟩)|(go_at_call 153;refine(hit _ (by first|exact fun _=>rfl|(intro q;simp))).mono ?_;rintro e w3 ⟨rfl,hw3⟩;obtain rfl:=hw3.symm))
      go_ret;exact⟨by first|rfl|simp,by first|exact hbw|exact below_drewN hbw _⟩
    .rw[show Cr kx x y z nx=nx by simp[Cr,e17,e18,e15,e16]];clear HS HF HZ;go_enter Tryz.func123,Tryz.ntmps123;go_wp2_with (first|(go_at_call 87;refine hpa.mono ?_;clear hpa;rintro e w2 ⟨rfl,hb2,HP⟩;obtain⟨hbw,d0,d1,d2,d3,d4,d5⟩:=HP2.out w2 hb2;have hpn:=HPN.out w2 hbw)|(go_at_call 87;refine hpn.mono ?_;rintro e w4 ⟨rfl,hb4,HF4⟩)|(go_at_call 120;refine HF4.out.mono ?_;rintro e w5 ⟨rfl,hw5⟩;obtain rfl:=hw5.symm))
     go_ret;exact⟨rfl,hb4⟩
def EL(l:List (Int×Int))(h g:Nat->Bool)(p:Nat):Bool:=Cr (l.getD p (0,0)).1 (h (p+1)) (h (sec l p)) (g p) (g (p+1))
def Fol(l:List (Int×Int))(h g:Nat->Bool):Prop:=∀p,p<l.length->Af (l.getD p (0,0)).1=true->h p=EL l h g p
noncomputable def Bm(l:List (Int×Int))(now:List Bool)(claim:Int)(next:List Bool)(later:Int):Int:=if now.length≠next.length then 1 else if BF l now claim≠0 then BF l now claim else BF l next later
open Classical in
noncomputable def A8(l:List (Int×Int))(now:List Bool)(claim:Int)(next:List Bool)(later:Int):Bool:=if Bm l now claim next later=0 then decide (Fol l (tru l now claim) (tru l next later))else ZX
theorem GS{l:List (Int×Int)}{now:List Bool}{claim:Int}{next:List Bool}{later:Int}(h:Bm l now claim next later≠0):A8 l now claim next later=false:=by unfold A8;rw[if_neg h]
open Classical in
theorem QG{l:List (Int×Int)}{now:List Bool}{claim:Int}{next:List Bool}{later:Int}(h:Bm l now claim next later=0)(h2:Fol l (tru l now claim) (tru l next later)):A8 l now claim next later=true:=by unfold A8;rw[if_pos h];exact decide_eq_true h2
open Classical in
theorem QE{l:List (Int×Int)}{now:List Bool}{claim:Int}{next:List Bool}{later:Int}(h2:¬Fol l (tru l now claim) (tru l next later)):A8 l now claim next later=false:=by
 unfold A8;split
 .exact decide_eq_false h2
 .rfl
theorem QH(v:G)(no xo:Option Addr)(nn nc xn xc:Nat)(claim later:Int)(oo:Option Addr)(on oc:Nat)(hv:v=U oo on oc)(w:N)(h:nn≠xn) :
  J qA 91 #[v,U no nn nc,.int T claim,U xo xn xc,.int T later] w fun e w'=>e=O (ZZ #[.bool ZX,.int T 1])/\S w.heap.size w w':=by
 subst hv;have hne:¬(nn:Int)=xn:=by omega
 clear h;go_enter Tryz.func91,Tryz.ntmps91;go_wp2_with fail
 go_ret2;exact⟨rfl,qD _ _⟩
theorem QI(oo:Option Addr)(oc:Nat)(l:List (Int×Int))(no xo:Option Addr)(nc xc:Nat)(now next:List Bool)(claim later:Int)(w:N)(hB:0<w.heap.size)(hT:AH w)(hV:OpsV w (.slice oo l.length oc) l)(hL:BoolsV w (.slice no now.length nc) now)(hX:BoolsV w (.slice xo next.length xc) next)(hlen:now.length=next.length) :
  J qA 91 #[.slice oo l.length oc,.slice no now.length nc,.int T claim,.slice xo next.length xc,.int T later] w fun e w'=>e=O (ZZ #[.bool (A8 l now claim next later),.int T (Bm l now claim next later)])/\S w.heap.size w w':=by
 have hrd:=Im _ l now.length w hB hT hV;by_cases hc:Aa now.length l=0
 .obtain ⟨_,_,hz,_,h6⟩:=CC hc;have hcx:Aa next.length l=0:=by rw[<-hlen];exact hc
  have hrd2:J qA 54 #[.slice oo l.length oc,.int T (now.length:Int)] w fun e w'=>S w.heap.size w w'/\∃B aao ac,e=O (ZZ #[ZY #[.slice oo l.length oc,U (V ⟨B,0,Z⟩) l.length l.length,.slice aao (AA l).length ac],.int T 0])/\E (BD w' (.slice oo l.length oc) B (.slice aao (AA l).length ac) l):=hrd.mono fun e w' ⟨h1,_,h3⟩=>⟨h1,h3 hc⟩;have HM:E (∀w1 B aao ac,S w.heap.size w w1->BD w1 (.slice oo l.length oc) B (.slice aao (AA l).length ac) l->J qA 60 #[ZY #[.slice oo l.length oc,U (V ⟨B,0,Z⟩) l.length l.length,.slice aao (AA l).length ac],.slice no now.length nc,.int T claim] w1 (Ht l now claim w1)):=fun w1 B aao ac hb hW=>Gj _ B _ _ l now claim w1 hc hW (hL.below hb);have HM2:E (∀w1 B aao ac,S w.heap.size w w1->BD w1 (.slice oo l.length oc) B (.slice aao (AA l).length ac) l->J qA 60 #[ZY #[.slice oo l.length oc,U (V ⟨B,0,Z⟩) l.length l.length,.slice aao (AA l).length ac],.slice xo next.length xc,.int T later] w1 (Ht l next later w1)):=fun w1 B aao ac hb hW=>Gj _ B _ _ l next later w1 hcx hW (hX.below hb)
  have HWA:E (∀w1 B aao ac,BD w1 (.slice oo l.length oc) B (.slice aao (AA l).length ac) l->∀o,BD (w1.alloc o) (.slice oo l.length oc) B (.slice aao (AA l).length ac) l):=fun w1 B aao ac hW o=>hW.below ((qD _ _).alloc (qB _) o);by_cases hcl:B8 l claim
  .have hft:Bm l now claim next later=2:=by unfold Bm;rw[if_neg (by simpa using hlen),Fy hc hcl,if_pos (by decide)]
   rw[GS (by rw[hft];decide),hft];have HM3:E (∀w1 B aao ac,S w.heap.size w w1->BD w1 (.slice oo l.length oc) B (.slice aao (AA l).length ac) l->∀o,J qA 60 #[ZY #[.slice oo l.length oc,U (V ⟨B,0,Z⟩) l.length l.length,.slice aao (AA l).length ac],.slice no now.length nc,.int T claim] (w1.alloc o) fun e w'=>e=O (ZZ #[U Z 0 0,.int T 2])/\S w1.heap.size w1 w'):=fun w1 B aao ac hb hW o=>(HM.out _ B aao ac (hb.alloc hb.size o) (HWA.out _ B aao ac hW o)).mono fun e w' ⟨h1,h2,_⟩=>⟨h2 hcl,((qD _ _).alloc (qB _) o).trans (h1.mono (by simp))⟩;generalize(AA l).length=an at *;rw[<-hlen];generalize now.length=ln at *;generalize l.length=n at *;clear hrd hT hV hL hX hc hcx HM HM2 HWA hcl hft hz h6 hlen
   go_enter Tryz.func91,Tryz.ntmps91;go_wp2_with (first|(go_at_call 54;refine hrd2.mono ?_;rintro e w1 ⟨hb1,B,aao,ac,rfl,HW⟩;have hme:=HM3.out w1 B aao ac hb1 HW.out)|(go_at_call 60;refine(hme _).mono ?_;rintro e w2 ⟨rfl,hb2⟩))
   go_ret2;exact⟨rfl,hb1.trans (hb2.mono hb1.size)⟩
  .have ht1:BF l now claim=0:=D6 hc hcl;have hft:Bm l now claim next later=BF l next later:=by unfold Bm;rw[if_neg (by simpa using hlen),ht1];rfl
   have HM3:E (∀w1 B aao ac,S w.heap.size w w1->BD w1 (.slice oo l.length oc) B (.slice aao (AA l).length ac) l->J qA 60 #[ZY #[.slice oo l.length oc,U (V ⟨B,0,Z⟩) l.length l.length,.slice aao (AA l).length ac],.slice no now.length nc,.int T claim] (w1.alloc (C #[.slice oo l.length oc,U (V ⟨B,0,Z⟩) l.length l.length,.slice aao (AA l).length ac] 138)) fun e w'=>∃bH,e=O (ZZ #[U (V ⟨bH,0,Z⟩) l.length l.length,.int T 0])/\S w1.heap.size w1 w'/\w1.heap.size<w'.heap.size/\w'.cell? ⟨w1.heap.size,0,Z⟩=V (.slice oo l.length oc)/\w'.cell? ⟨w1.heap.size,1,Z⟩=V (U (V ⟨B,0,Z⟩) l.length l.length)/\w'.cell? ⟨w1.heap.size,2,Z⟩=V (.slice aao (AA l).length ac)/\E (BD w' (.slice oo l.length oc) B (.slice aao (AA l).length ac) l/\w'.rowIs bH 4 l.length (fun j=>.bool (tru l now claim j)))):=fun w1 B aao ac hb hW=>(HM.out _ B aao ac (hb.alloc hb.size _) (HWA.out _ B aao ac hW _)).mono fun e w' ⟨h1,_,h3⟩=>by
    obtain⟨bH,he,hr⟩:=h3 hcl;have h1':S (w1.heap.size+1) (w1.alloc (C #[.slice oo l.length oc,U (V ⟨B,0,Z⟩) l.length l.length,.slice aao (AA l).length ac] 138)) w':=by simpa using h1
    have hb':S w1.heap.size w1 w':=((qD _ _).alloc (qB _) _).trans (h1'.mono (vD _));refine⟨bH,he,hb',by have:=h1'.size;simp at this;omega,(h1'.cell (p:=⟨w1.heap.size,0,Z⟩) (qY _)).trans (by simp[go_sem]),(h1'.cell (p:=⟨w1.heap.size,1,Z⟩) (qY _)).trans (by simp[go_sem]),(h1'.cell (p:=⟨w1.heap.size,2,Z⟩) (qY _)).trans (by simp[go_sem]),hW.below hb',hr⟩
   by_cases hcl2:B8 l later
   .have hft2:Bm l now claim next later=2:=by rw[hft,Fy hcx hcl2]
    rw[GS (by rw[hft2];decide),hft2];have HM4:E (∀w1 B aao ac,S w.heap.size w w1->BD w1 (.slice oo l.length oc) B (.slice aao (AA l).length ac) l->J qA 60 #[ZY #[.slice oo l.length oc,U (V ⟨B,0,Z⟩) l.length l.length,.slice aao (AA l).length ac],.slice xo next.length xc,.int T later] w1 fun e w'=>e=O (ZZ #[U Z 0 0,.int T 2])/\S w1.heap.size w1 w'):=fun w1 B aao ac hb hW=>(HM2.out _ B aao ac hb hW).mono fun e w' ⟨h1,h2,_⟩=>⟨h2 hcl2,h1⟩;generalize(AA l).length=an at *;rw[<-hlen]at HM4⊢;generalize now.length=ln at *;generalize hnn:l.length=n at *;clear hrd hT hV hL hX hc hcx HM HM2 HWA hcl hcl2 hft hft2 ht1 hz h6 hlen hnn
    go_enter Tryz.func91,Tryz.ntmps91;go_wp2_with (first|(go_at_call 54;refine hrd2.mono ?_;rintro e w1 ⟨hb1,B,aao,ac,rfl,HW⟩;have hme:=HM3.out w1 B aao ac hb1 HW.out)|(go_at_call 60;refine hme.mono ?_;clear hme;rintro e w2 ⟨bH,rfl,hb2,hs2,d0,d1,d2,HW2⟩;have hb12:=hb1.trans (hb2.mono hb1.size);have hme2:=HM4.out w2 B aao ac hb12 HW2.out.1)|(go_at_call 60;refine hme2.mono ?_;rintro e w3 ⟨rfl,hb3⟩))
    go_ret2;exact⟨rfl,hb12.trans (hb3.mono hb12.size)⟩
   .have hft2:Bm l now claim next later=0:=by rw[hft,D6 hcx hcl2]
    have HM4:E (∀w1 B aao ac,S w.heap.size w w1->BD w1 (.slice oo l.length oc) B (.slice aao (AA l).length ac) l->J qA 60 #[ZY #[.slice oo l.length oc,U (V ⟨B,0,Z⟩) l.length l.length,.slice aao (AA l).length ac],.slice xo next.length xc,.int T later] w1 fun e w'=>∃bN,e=O (ZZ #[U (V ⟨bN,0,Z⟩) l.length l.length,.int T 0])/\S w1.heap.size w1 w'/\E (w'.rowIs bN 4 l.length (fun j=>.bool (tru l next later j)))):=fun w1 B aao ac hb hW=>(HM2.out _ B aao ac hb hW).mono fun e w' ⟨h1,_,h3⟩=>by
     obtain⟨bN,he,hr⟩:=h3 hcl2;exact⟨bN,he,h1,hr⟩
    have HYes:E (Fol l (tru l now claim) (tru l next later)->A8 l now claim next later=true):=QG hft2;have HNot:E (¬Fol l (tru l now claim) (tru l next later)->A8 l now claim next later=ZX):=QE;have HFol:E (Fol l (tru l now claim) (tru l next later)↔∀p,p<l.length->Af (l.getD p (0,0)).1=true->tru l now claim p=EL l (tru l now claim) (tru l next later) p):=Iff.rfl;have HCo:E (∀w2 B bH bN aao ac p,BD w2 (.slice oo l.length oc) B (.slice aao (AA l).length ac) l->w2.rowIs bH 4 l.length (fun j=>.bool (tru l now claim j))->w2.rowIs bN 4 l.length (fun j=>.bool (tru l next later j))->p<l.length->Af (l.getD p (0,0)).1=true->J qA 123 #[ZY #[.slice oo l.length oc,U (V ⟨B,0,Z⟩) l.length l.length,.slice aao (AA l).length ac],.int T (p:Int),U (V ⟨bH,0,Z⟩) l.length l.length,U (V ⟨bN,0,Z⟩) l.length l.length] w2 fun e w'=>e=O (.bool (EL l (tru l now claim) (tru l next later) p))/\S w2.heap.size w2 w'):=fun w2 B bH bN aao ac p hW hr hr2 hp hk=>by
     obtain⟨b,off,cap,hv,_⟩:=id hW;injection hv with e1 e2 e3;subst e1 e3;exact PC b off l.length oc B bH bN l _ _ p _ aao _ ac w2 (MS hW hz hr hp hk) (fun j hj=>hr2.cell hj) hr2.lt
    have HG:E (∀w2 B aao ac k,BD w2 (.slice oo l.length oc) B (.slice aao (AA l).length ac) l->k<(AA l).length->∃p:Nat,(∃ab aoff,aao=V ⟨ab,aoff,Z⟩/\ab<w2.heap.size/\w2.cell? ⟨ab,aoff+k,Z⟩=V (.int T (p:Int)))/\p<l.length/\Af (l.getD p (0,0)).1=true/\(AN l p).length=k):=fun w2 B aao ac k hW hk=>by
     obtain⟨_,_,_,_,_,_,_,ao',ac',hsl,hai⟩:=hW;injection hsl with e1 e2 e3;subst e1;obtain⟨ab,aoff,rfl,habl,haat⟩:=hai (by intro h;rw[h]at hk;simp at hk);obtain⟨p,h1,h2,h3,h4⟩:=F9 l l.length k hk;have h1':(AA l).getD k 0=(p:Int):=h1;exact⟨p,⟨ab,aoff,rfl,habl,by rw[haat k hk,h1']⟩,h2,h3,h4⟩
    have HLt:E (∀p,p<l.length->Af (l.getD p (0,0)).1=true->(AN l p).length<(AA l).length):=fun p hp hk=>EH l hp hk;have HUq:E (∀p q,Af (l.getD p (0,0)).1=true->Af (l.getD q (0,0)).1=true->(AN l p).length=(AN l q).length->p=q):=fun p q h1 h2 he=>by
     rcases Nat.lt_trichotomy p q with h|h|h
     .have:=EH l h h1;omega
     .exact h
     .have:=EH l h h2;omega
    rw[hft2];generalize A8 l now claim next later=fr at *;generalize EL l (tru l now claim) (tru l next later)=cm at *;generalize Fol l (tru l now claim) (tru l next later)=FP at *;generalize tru l now claim=tn at *;generalize tru l next later=tx at *;obtain⟨an,han⟩:∃an,an=(AA l).length:=⟨_,rfl⟩
    rw[<-han]at hrd2 HM3 HM4 HCo HG HLt h6;rw[<-hlen]at HM4⊢;generalize now.length=ln at *;generalize hnn:l.length=n at *;clear hrd hT hV hL hX hc hcx HM HM2 HWA hcl hcl2 hft hft2 ht1 hz hlen hnn han
    go_enter Tryz.func91,Tryz.ntmps91;go_wp2_with (first|(go_at_call 54;refine hrd2.mono ?_;rintro e w1 ⟨hb1,B,aao,ac,rfl,HW⟩;have hme:=HM3.out w1 B aao ac hb1 HW.out)|(go_at_call 60;refine hme.mono ?_;clear hme;rintro e w2 ⟨bH,rfl,hb2,hs2,d0,d1,d2,HW2⟩;have hb12:=hb1.trans (hb2.mono hb1.size);have hme2:=HM4.out w2 B aao ac hb12 HW2.out.1)|(go_at_call 60;refine hme2.mono ?_;clear hme2;rintro e w3 ⟨bN,rfl,hb3,HN3⟩;have g0:=(hb3.cell (p:=⟨w1.heap.size,0,Z⟩) hs2).trans d0;have g1:=(hb3.cell (p:=⟨w1.heap.size,1,Z⟩) hs2).trans d1;have g2:=(hb3.cell (p:=⟨w1.heap.size,2,Z⟩) hs2).trans d2))
    have hb13:=hb12.trans (hb3.mono hb12.size);have hs3:=qE hs2 hb3.size;have HW3:E (BD w3 (U oo n oc) B (U aao an ac) l/\w3.rowIs bH 4 n (fun j=>.bool (tn j))):=⟨HW2.out.1.below hb3,B6 HW2.out.2 hb3⟩;clear hrd2 HM3 HM4 HW HW2 d0 d1 d2;go_loopw [56] (fun i wr=>∃k:Nat,k<=an/\i=.int T (k:Int)/\E (∀p,p<n->Af (l.getD p (0,0)).1=true->(AN l p).length<k->tn p=cm p)/\E (S w3.heap.size w3 wr)) (fun i _=>an-(intOf i).toNat)
    case atStart=>exact⟨0,qJ _,rfl,fun p _ _ h=>absurd h (Nat.not_lt_zero _),qD _ _⟩
    case round=>
     obtain⟨k,hk,rfl,HAll,HBel⟩:=hrel;have hbel:=HBel.out;by_cases hlt:k<an
     .have hWr:=HW3.out.1.below hbel;obtain⟨p,⟨ab,aoff,rfl,habl,hca⟩,hpn,hpk,hpi⟩:=HG.out wr B aao ac k hWr hlt;have hco:=HCo.out;have HSt:E (∀w',S wr.heap.size wr w'->w'.cell? ⟨w1.heap.size,0,Z⟩=V (U oo n oc)/\w'.cell? ⟨w1.heap.size,1,Z⟩=V (U (V ⟨B,0,Z⟩) n n)/\w'.cell? ⟨w1.heap.size,2,Z⟩=V (U (V ⟨ab,aoff,Z⟩) an ac)/\w'.cell? ⟨bH,p,Z⟩=V (.bool (tn p))/\S wr.heap.size wr w'):=fun w' hb=>by
       have hbw:=hbel.trans (hb.mono hbel.size);have hr:=B6 HW3.out.2 hbw;exact⟨(hbw.cell (p:=⟨w1.heap.size,0,Z⟩) hs3).trans g0,(hbw.cell (p:=⟨w1.heap.size,1,Z⟩) hs3).trans g1,(hbw.cell (p:=⟨w1.heap.size,2,Z⟩) hs3).trans g2,hr.cell hpn,hb⟩
      have hcc:=fun w' (hb:S wr.heap.size wr w')=>HCo.out w' B bH bN _ ac p (hWr.below hb) (B6 (B6 HW3.out.2 hbel) hb) (B6 (B6 HN3.out hbel) hb) hpn hpk;have hS:=HSt.out;have hB0:S wr.heap.size wr wr:=qD _ _;have HNext:E (tn p=cm p->∀q,q<n->Af (l.getD q (0,0)).1=true->(AN l q).length<k+1->tn q=cm q):=fun he q hq hqk hql=>by
       by_cases h:(AN l q).length<k
       .exact HAll.out q hq hqk h
       .have hqp:q=p:=HUq.out q p hqk hpk (by omega);rw[hqp];exact he
      have HBad:E (tn p≠cm p->fr=ZX):=fun h=>HNot.out fun hf=>h (HFol.out.1 hf p hpn hpk);have hp0:(0:Int)<=(p:Int):=Int.natCast_nonneg _;have hpI:(p:Int)<(n:Int):=by omega
      generalize tn p=tv at *;generalize cm p=cv at *;clear HG HCo HAll HNot HYes HFol HLt HUq hco HSt hWr hpk hpi
      by_cases htv:tv=cv
      .have HNx:=(show E _ from HNext.out htv);subst htv;clear HNext HBad;go_wp2_with fail
       go_region_held3 (fun w'=>w'.cell? ⟨w1.heap.size,0,Z⟩=V (U oo n oc)/\w'.cell? ⟨w1.heap.size,1,Z⟩=V (U (V ⟨B,0,Z⟩) n n)/\w'.cell? ⟨w1.heap.size,2,Z⟩=V (U (V ⟨ab,aoff,Z⟩) an ac)/\w'.cell? ⟨bH,p,Z⟩=V (.bool tv)/\S wr.heap.size wr w')
        (exact hS _ (by first|exact hB0|exact hB0.drew|exact hB0.drew.trans hb4))
        (first|(go_at_call 123;refine(hcc _ hB0.drew).mono ?_;rintro e w4 ⟨rfl,hb4⟩))
       go_wp2_with fail
       have hbf:=hbel.trans ((hB0.drew.trans hb4).mono hbel.size);exact⟨⟨k+1,hlt,by first|rfl|simp,HNx.out,hbf⟩,by simp[intOf];omega⟩
      .have HF:=(show E _ from HBad.out htv);clear HNext HBad;cases tv<;>cases cv
       .exact absurd rfl htv
       .go_wp2_with fail
        go_region_held3 (fun w'=>w'.cell? ⟨w1.heap.size,0,Z⟩=V (U oo n oc)/\w'.cell? ⟨w1.heap.size,1,Z⟩=V (U (V ⟨B,0,Z⟩) n n)/\w'.cell? ⟨w1.heap.size,2,Z⟩=V (U (V ⟨ab,aoff,Z⟩) an ac)/\w'.cell? ⟨bH,p,Z⟩=V (.bool ZX)/\S wr.heap.size wr w')
         (exact hS _ (by first|exact hB0|exact hB0.drew|exact hB0.drew.trans hb4))
         (first|(go_at_call 123;refine(hcc _ hB0.drew).mono ?_;rintro e w4 ⟨rfl,hb4⟩))
        go_wp2_with fail
        have hbf:=hbel.trans ((hB0.drew.trans hb4).mono hbel.size);go_ret2;rw[HF.out];exact⟨rfl,hb13.trans (hbf.mono hb13.size)⟩
       .go_wp2_with fail
        go_region_held3 (fun w'=>w'.cell? ⟨w1.heap.size,0,Z⟩=V (U oo n oc)/\w'.cell? ⟨w1.heap.size,1,Z⟩=V (U (V ⟨B,0,Z⟩) n n)/\w'.cell? ⟨w1.heap.size,2,Z⟩=V (U (V ⟨ab,aoff,Z⟩) an ac)/\w'.cell? ⟨bH,p,Z⟩=V (.bool true)/\S wr.heap.size wr w')
         (exact hS _ (by first|exact hB0|exact hB0.drew|exact hB0.drew.trans hb4))
         (first|(go_at_call 123;refine(hcc _ hB0.drew).mono ?_;rintro e w4 ⟨rfl,hb4⟩))
        go_wp2_with fail
        have hbf:=hbel.trans ((hB0.drew.trans hb4).mono hbel.size);go_ret2;rw[HF.out];exact⟨rfl,hb13.trans (hbf.mono hb13.size)⟩
       .exact absurd rfl htv
     .obtain rfl:k=an:=by omega
      have HFr:E (fr=true):=HYes.out (HFol.out.2 fun p hp hpk=>HAll.out p hp hpk (HLt.out p hp hpk));clear HG HCo HAll HNot HYes HFol HLt HUq;go_wp2_with fail
      go_ret2;rw[HFr.out];exact⟨rfl,hb13.trans (hbel.mono hb13.size)⟩
 .have hft:Bm l now claim next later=Aa now.length l:=by unfold Bm;rw[if_neg (by simpa using hlen),Hb hc,if_pos hc]
  rw[GS (by rw[hft];exact hc),hft];have hrd2:J qA 54 #[.slice oo l.length oc,.int T (now.length:Int)] w fun e w'=>S w.heap.size w w'/\e=O (ZZ #[ZY #[U Z 0 0,U Z 0 0,U Z 0 0],.int T (Aa now.length l)]):=hrd.mono fun e w' ⟨h1,h2,_⟩=>⟨h1,h2 hc⟩;rw[<-hlen];generalize Aa now.length l=x at *;generalize now.length=ln at *;generalize l.length=n at *;clear hrd hT hV hL hX hft hlen
  go_enter Tryz.func91,Tryz.ntmps91;go_wp2_with (go_at_call 54;refine hrd2.mono ?_;rintro e w1 ⟨hb1,rfl⟩)
  go_ret2;exact⟨rfl,by first|exact hb1|exact hb1.alloc hb1.size _⟩
theorem RZ(v nv xv:G)(l:List (Int×Int))(now next:List Bool)(claim later:Int)(w:N)(hB:0<w.heap.size)(hT:AH w)(hV:OpsV w v l)(hL:BoolsV w nv now)(hX:BoolsV w xv next) :
  J qA 91 #[v,nv,.int T claim,xv,.int T later] w fun e w'=>e=O (ZZ #[.bool (A8 l now claim next later),.int T (Bm l now claim next later)])/\S w.heap.size w w':=by
 obtain⟨oo,oc,rfl,_⟩:=id hV;obtain⟨no,nc,rfl,_⟩:=id hL;obtain⟨xo,xc,rfl,_⟩:=id hX;by_cases hlen:now.length=next.length
 .exact QI oo oc l no xo nc xc now next claim later w hB hT hV hL hX hlen
 .have hf:Bm l now claim next later=1:=by unfold Bm;rw[if_pos hlen]
  rw[GS (by rw[hf];decide),hf];exact QH _ no xo _ nc _ xc claim later oo l.length oc rfl w hlen
def C8(l:List (Int×Int))(p:Nat):Nat:=if(l.getD p (0,0)).1=14 then p+1 else p
def CF(l:List (Int×Int))(g:Nat->Bool):Nat->Int
 |0=>0
 |k+1=>CF l g k+if g (C8 l ((AA l).getD k 0).toNat)=true then 2^k else 0
def EZ(l:List (Int×Int))(g:Nat->Bool):Int:=CF l g (AA l).length
theorem G4(l:List (Int×Int))(g:Nat->Bool):∀k,0<=CF l g k/\CF l g k<2^k:=by
 intro k;induction k with
 |zero=>simp[CF]
 |succ k ih=>
  have h2:(0:Int)<2^k:=jY (by decide);rw[CF,kM];split<;>omega
theorem M9{l:List (Int×Int)}{g g':Nat->Bool}:∀{k:Nat},CF l g k=CF l g' k->∀j,j<k->g (C8 l ((AA l).getD j 0).toNat)=g' (C8 l ((AA l).getD j 0).toNat)
 |0,_,j,hj=>by omega
 |k+1,h,j,hj=>by
  obtain⟨a0,a1⟩:=G4 l g k;obtain⟨b0,b1⟩:=G4 l g' k;have h2:(0:Int)<2^k:=jY (by decide);rw[CF,CF]at h;rcases(show j<k\/j=k by omega)with h3|h3
  .refine M9 (k:=k) ?_ j h3;split at h<;>split at h<;>omega
  .subst h3;generalize g (C8 l ((AA l).getD j 0).toNat)=x at h⊢;generalize g' (C8 l ((AA l).getD j 0).toNat)=y at h⊢;cases x<;>cases y
   .rfl
   .rw[if_neg (by simp),if_pos rfl]at h;omega
   .rw[if_pos rfl,if_neg (by simp)]at h;omega
   .rfl
theorem N8(l:List (Int×Int)):∀(d n:Nat),∃r,AN l (n+d)=AN l n++r:=by
 intro d;induction d with
 |zero=>exact fun n=>⟨[],by simp⟩
 |succ d ih=>
  intro n;obtain⟨r,hr⟩:=ih n;refine⟨r++(if Af (l.getD (n+d) (0,0)).1=true then [((n+d:Nat):Int)]else []),?_⟩;rw[show n+(d+1)=(n+d)+1 by omega,AN,hr,qZ]
theorem N9{l:List (Int×Int)}{p:Nat}(hp:p<l.length)(hb:Af (l.getD p (0,0)).1=true):(AN l p).length<(AA l).length/\(AA l).getD (AN l p).length 0=(p:Int):=by
 have h1:=EH l hp hb;refine⟨h1,?_⟩;obtain⟨r,hr⟩:=N8 l (l.length-(p+1)) (p+1);rw[show p+1+(l.length-(p+1))=l.length by omega,GA hb]at hr;unfold AA;rw[hr,qZ];simp[qC]
theorem QJ{l:List (Int×Int)}{h g g':Nat->Bool}(e:EZ l g=EZ l g'):Fol l h g↔Fol l h g':=by
 have key:∀p,p<l.length->Af (l.getD p (0,0)).1=true->EL l h g p=EL l h g' p:=by
  intro p hp hb;obtain⟨h1,h2⟩:=N9 hp hb;have h3:=M9 e (AN l p).length h1;rw[h2]at h3;simp only[Int.toNat_natCast]at h3;unfold EL Cr;unfold C8 at h3;have hk:14<=(l.getD p (0,0)).1/\(l.getD p (0,0)).1<=18:=by simpa[Af]using hb
  by_cases h14:(l.getD p (0,0)).1=14
  .rw[if_pos h14]at h3;rw[h14,h3];simp
  .rw[if_neg h14]at h3;rw[h3];have:(l.getD p (0,0)).1=15\/(l.getD p (0,0)).1=16\/(l.getD p (0,0)).1=17\/(l.getD p (0,0)).1=18:=by omega
   rcases this with h5|h5|h5|h5<;>rw[h5]<;>simp
 refine⟨fun H p hp hb=>?_,fun H p hp hb=>?_⟩
 .rw[H p hp hb,key p hp hb]
 .rw[H p hp hb,key p hp hb]
theorem Ib:(qA.info? 82).map (fun i=>(i.zero,i.size,i.bytes))=V (V (ZY #[ZW T 0,.int T 0]),2,16):=by kernel_rfl
def SpO(w:N)(base:Nat)(v:G)(l:List (Int×Int)):Prop:=w.ownsRow base 82 2 v l.length (flat l)
theorem SpO.nil(w:N)(base:Nat):SpO w base (U Z 0 0) []:=World.ownsRow_nil _ _ _ _
theorem SpO.later{w w':N}{base B:Nat}{v:G}{l:List (Int×Int)}(h:SpO w base v l)(hb:S B w w')(hB:w.heap.size<=B):SpO w' base v l:=As h hb hB
theorem SpO.shape{w:N}{base:Nat}{v:G}{l:List (Int×Int)}(h:SpO w base v l):∃ao cap,v=.slice ao l.length cap:=A1 h
def SpV(w:N)(v:G)(l:List (Int×Int)):Prop:=∃ao cap,v=.slice ao l.length cap/\(l≠[]->∃b off,ao=V ⟨b,off,Z⟩/\b<w.heap.size/\BN w b off l)
theorem SpV.nil(w:N):SpV w (U Z 0 0) []:=⟨Z,0,rfl,fun h=>absurd rfl h⟩
theorem SpV.below{w w':N}{v:G}{l:List (Int×Int)}(h:SpV w v l)(hb:S w.heap.size w w'):SpV w' v l:=by
 obtain⟨ao,cap,rfl,h⟩:=h;refine⟨ao,cap,rfl,fun hne=>?_⟩;obtain⟨b,off,rfl,hlt,hat⟩:=h hne;exact⟨b,off,rfl,qE hlt hb.size,fun i hi=>⟨(hb.cell (p:=⟨b,_,Z⟩) hlt).trans (hat i hi).1,(hb.cell (p:=⟨b,_,Z⟩) hlt).trans (hat i hi).2⟩⟩
theorem SpO.v{w:N}{base:Nat}{v:G}{l:List (Int×Int)}(h:SpO w base v l):SpV w v l:=by
 rcases h.2 with⟨rfl,h0⟩|⟨g,cap,cur,rfl,hb,hg,hnc,hcm,hcs,htake⟩
 .have:l=[]:=by simpa using h0
  subst this;exact SpV.nil w
 .refine ⟨_,cap,rfl,fun _=>⟨g,0,rfl,(qG.1 hg).1,fun i hi=>?_⟩⟩;obtain⟨f0,f1⟩:=Fb l i hi;rw[World.ownsRow.cellAt h _ (by omega),World.ownsRow.cellAt h _ (by omega)];simpa using⟨f0,f1⟩
section
variable{W:N}
theorem MZ{ops:Array Oper}{rest:List Oper}{o:Oper}{a:Act}{Q:Exit->Act->N->Prop}(y z:Int)(hgd:o.guard=Z)(s x:Operand)
  (ho:o.op=.call { callee:=.builtin .append,args:=#[s,x],argTypes:=#[41,41]})
  (base n cap:Nat) (vo:Option Addr) (l:List (Int×Int)) (hl:l.length=n) (hs:a.eval s=U vo n cap) (hown:SpO W base (U vo n cap) l) (hx:a.eval x=U (V ⟨W.heap.size,0,Z⟩) 1 1)
  (hsz:(n+1)*16<=140737488355328) (hbase:base<=W.heap.size)
  (h:∀vo' cap' w',SpO w' base (.slice vo' (n+1) cap') (l++[(y,z)])->S base W w'->(W.alloc (C #[ZW T y,.int T z] 82)).grownBy w' (Value.slice vo n cap).ownBlock->wpList qA ops Q rest (a.put o.dst (.slice vo' (n+1) cap')) w'):wpList qA ops Q (o::rest) a (W.alloc (C #[ZW T y,.int T z] 82)):=by
 subst hl;obtain⟨i0,hi,hz0,hz1,hz2⟩:=info_parts Ib;have hown':W.ownsRow base 82 2 (.slice vo l.length cap) l.length (flat l):=hown;refine wpList_append_own _ hgd s x 41 ho base 82 i0 (ZY #[ZW T 0,.int T 0]) 2 16 Tryz.underlying41 hi hz0 hz1 hz2 rfl (by decide) (.slice vo l.length cap) l.length (flat l) hs (hown'.alloc _) ⟨W.heap.size,0,Z⟩ 1 1 [.int T y,.int T z] hx rfl (Eb _ _ _ _) (by intro u hu;simp at hu;rcases hu with rfl|rfl<;>rfl) (by unfold maxLen;omega) hsz (qI hbase (by simp)) ?_;intro v' w4 hown' hgrow _;obtain⟨a4,c4,rfl⟩:=A1 hown';refine h a4 c4 w4 ?_ (((qD base W).alloc hbase _).grown hgrow (qI hbase (by simp)) (fun q hq=>(World.ownsRow.lt hown q hq).1)) hgrow;unfold SpO;rw[Fa,List.length_append];exact hown'
end
theorem NQ(x:Int)(w:N) :
  J qA 116 #[ZW T x] w fun e w'=>e=O (.bool (decide (¬(-1000000<=x/\x<=1000000))))/\w'=w:=by
 by_cases h1:x < -1000000
 .rw[show decide (¬(-1000000<=x/\x<=1000000))=true by simp;omega];go_enter Tryz.func116,Tryz.ntmps116;go_wp2;all_goals go_ret
  all_goals exact⟨rfl,rfl⟩
 .by_cases h2:1000000<x
  .rw[show decide (¬(-1000000<=x/\x<=1000000))=true by simp;omega];go_enter Tryz.func116,Tryz.ntmps116;go_wp2;all_goals go_ret
   all_goals exact⟨rfl,rfl⟩
  .rw[show decide (¬(-1000000<=x/\x<=1000000))=ZX by simp;omega];go_enter Tryz.func116,Tryz.ntmps116;go_wp2;all_goals go_ret
   all_goals exact⟨rfl,rfl⟩
theorem Jp(c:Bool)(w:N) :
  J qA 146 #[.bool c] w fun e w'=>e=O (.int T (if c=true then 1 else 0))/\w'=w:=by
 cases c
 all_goals
  go_enter Tryz.func146,Tryz.ntmps146;go_wp2;all_goals go_ret
  all_goals exact⟨rfl,rfl⟩
def Db(k:Int):Nat:=if k=3 then 142 else if k=4 then 143 else if k=5 then 144 else if k=6 then 145 else if k=7 then 147 else if k=8 then 148 else 149
theorem KK{x:Int}(h:-1000000<=x/\x<=1000000):x.natAbs<=1000000:=by omega
theorem SE{x y:Int}(hx:-1000000<=x/\x<=1000000)(hy:-1000000<=y/\y<=1000000):-1000000000000<=x*y/\x*y<=1000000000000:=by
 have h:=Nat.mul_le_mul (KK hx) (KK hy);rw[<-Int.natAbs_mul]at h;omega
theorem JG(k x y:Int)(w:N)(h3:3<=k)(h9:k<=9)(hx:-1000000<=x/\x<=1000000)(hy:-1000000<=y/\y<=1000000)(ht:8<=k->(x=0\/x=1)/\(y=0\/y=1)) :
  J qA (Db k) #[ZW T x,.int T y] w fun e w'=>e=O (.int T (bin k x y))/\w'=w:=by
 have hk:k=3\/k=4\/k=5\/k=6\/k=7\/k=8\/k=9:=by omega
 have hm:=SE hx hy;obtain⟨hm1,hm2⟩:=hm;obtain⟨hx1,hx2⟩:=hx;obtain⟨hy1,hy2⟩:=hy;clear h3 h9;rcases hk with rfl|rfl|rfl|rfl|rfl|rfl|rfl
 .show J qA 142 _ _ _;clear ht;go_enter Tryz.func142,Tryz.ntmps142;go_wp2;go_ret;exact⟨rfl,rfl⟩
 .show J qA 143 _ _ _;clear ht;go_enter Tryz.func143,Tryz.ntmps143;go_wp2;go_ret;exact⟨rfl,rfl⟩
 .show J qA 144 _ _ _;clear ht;go_enter Tryz.func144,Tryz.ntmps144;go_wp2;go_ret;exact⟨rfl,rfl⟩
 .show J qA 145 _ _ _;clear ht;have htr:=fun w=>Jp (x == y) w;have hb:bin 6 x y=if(x == y)=true then 1 else 0:=by simp[bin]
  rw[<-hb]at htr;generalize bin 6 x y=z at htr⊢;clear hb;go_enter Tryz.func145,Tryz.ntmps145;go_wp2_with (go_at_call 146;refine(htr _).mono ?_;rintro e w1 ⟨rfl,rfl⟩)
  go_ret;exact⟨rfl,rfl⟩
 .show J qA 147 _ _ _;clear ht;by_cases hc:x<y
  .have htr:=fun w=>Jp true w;have hb:bin 7 x y=1:=by simp[bin,hc]
   rw[hb];clear hb;go_enter Tryz.func147,Tryz.ntmps147;go_wp2_with (go_at_call 146;refine(htr _).mono ?_;rintro e w1 ⟨rfl,rfl⟩)
   go_ret;exact⟨rfl,rfl⟩
  .have htr:=fun w=>Jp ZX w;have hb:bin 7 x y=0:=by simp[bin,hc]
   rw[hb];clear hb;go_enter Tryz.func147,Tryz.ntmps147;go_wp2_with (go_at_call 146;refine(htr _).mono ?_;rintro e w1 ⟨rfl,rfl⟩)
   go_ret;exact⟨rfl,rfl⟩
 .show J qA 148 _ _ _;obtain⟨ha,hb⟩:=ht (by decide);clear ht hm1 hm2 hx1 hx2 hy1 hy2;rcases ha with rfl|rfl<;>rcases hb with rfl|rfl;all_goals
   go_enter Tryz.func148,Tryz.ntmps148;go_wp2;go_ret;exact⟨rfl,rfl⟩
 .show J qA 149 _ _ _;obtain⟨ha,hb⟩:=ht (by decide);clear ht hm1 hm2 hx1 hx2 hy1 hy2;rcases ha with rfl|rfl<;>rcases hb with rfl|rfl;all_goals
   go_enter Tryz.func149,Tryz.ntmps149;go_wp2;go_ret;exact⟨rfl,rfl⟩
def DC:G->Option (DataW Unit×List MemPlace)
 | .func (.func f) first cap=>if first=#[]/\cap=#[]then V (.lit (.int T f),[])else Z
 | .nilFunc=>V (.nil,[])
 |_=>Z
theorem QD{v:G}{f:Nat}{ps:List MemPlace}(h:DC v=V (.lit (.int T f),ps)):v=.func (.func f) #[] #[]:=by
 unfold DC at h;split at h
 .split at h
  .rename_i hc;obtain⟨rfl,rfl⟩:=hc;simp at h;rw[Int.ofNat.inj h.1]
  .simp at h
 .simp at h
 .simp at h
theorem Ee{H:Type}{P:Program}(w:N){ops:Array Oper}{rest:List Oper}{o:Oper}{a:Act}{Q:Exit->Act->N->Prop}
  (hg:o.guard=Z) (m x v:Operand) (t:TypeId) (hop:o.op=Op.insert t m x v)
  (k e:TypeId) (K:Keyed P k) (ht:P.underlying t=V (.map k e)) (R:G->Option (DataW H×List MemPlace)) (b n:Nat) (D:DataW H)
  (hm:a.eval m=.map (V b)) (hown:w.ownsMap P k R b n D) (hn:n<maxLen) (key val:G) (kl:Lit) (hx:a.eval x=key) (hv:a.eval v=val) (hkey:keyOf P k key=V kl)
  (d:DataW H) (ps:List MemPlace) (hval:R val=V (d,ps))
  (hK:∀w',w'.ownsMap P k R b (n+1) (D.put kl d)->w.grownBy w' (V b)->wpList P ops Q rest (a.put o.dst undef) w') :
  wpList P ops Q (o::rest) a w:=by
 refine wpList_plain hg fun K' hK'=>?_;obtain⟨w',hrun,r1,r2⟩:=hown.update K ht hn hkey hval;unfold Oper.wp;simp[execOp,hop,hm,hx,hv,hrun,Result.andThen];exact hK' _ _ (hK w' r1 r2)
def JF:Nat->DataW Unit
 |0=>.map []
 |n+1=>(JF n).put (.int T ((n:Int)+3)) (.lit (.int T (Db ((n:Int)+3))))
def Dk(w:N)(M:Nat):Prop:=w.ownsMap qA 3 DC M 7 (JF 7)
theorem Dk.later{w w':N}{M:Nat}(h:Dk w M)(hb:S w.heap.size w w'):Dk w' M:=by
 have hlt:=World.ownsMap.lt h;obtain⟨es,clock,h1,h2⟩:=h;exact⟨es,clock,(hb.block M hlt).trans h1,h2⟩
theorem Dx:Keyed qA 3:=int_keyed Tryz.underlying3
theorem Dw(k:Int)(h:3<=k/\k<=9):keyOf qA 3 (.int T k)=V (.int T k):=keyOf_int_mk Tryz.underlying3 (WalkArith.wf_i64 (by omega))
theorem Dk.look{w:N}{M:Nat}(h:Dk w M){k:Int}(h3:3<=k)(h9:k<=9) :
  (Instr.lookup 222 (.map (V M)) (.int T k) ZX).run qA w=.ok (.func (.func (Db k)) #[] #[]) w:=by
 obtain⟨v,ps,hrun,hv⟩:=World.ownsMap.lookup h Dx Tryz.underlying222 (z:=.nilFunc) (by kernel_rfl) (zd:=.nil) (zp:=[]) rfl (Dw k ⟨h3,h9⟩);have hat:(JF 7).atKey (.int T k) .nil=.lit (.int T (Db k)):=by
  have hk:k=3\/k=4\/k=5\/k=6\/k=7\/k=8\/k=9:=by omega
  rcases hk with rfl|rfl|rfl|rfl|rfl|rfl|rfl<;>rfl
 rw[hat]at hv;rw[hrun,QD hv]
theorem S5(w:N) :
  J qA 117 #[] w fun e w'=>∃M,w.heap.size<=M/\e=O (.map (V M))/\Dk w' M/\S w.heap.size w w':=by
 have hmm:=@run_makeMap qA;have h0:=World.ownsMap_made w qA 3 DC;go_enter Tryz.func117,Tryz.ntmps117;go_wp2_with (first
  |(refine Ee _ rfl _ _ _ 222 rfl 3 55 Dx Tryz.underlying222 DC w.heap.size 6 _ rfl h6 (by unfold maxLen;omega) _ _ _ rfl rfl (Dw 9 (by omega)) _ [] rfl ?_;intro w7 h7 g7)
  |(refine Ee _ rfl _ _ _ 222 rfl 3 55 Dx Tryz.underlying222 DC w.heap.size 5 _ rfl h5 (by unfold maxLen;omega) _ _ _ rfl rfl (Dw 8 (by omega)) _ [] rfl ?_;intro w6 h6 g6)
  |(refine Ee _ rfl _ _ _ 222 rfl 3 55 Dx Tryz.underlying222 DC w.heap.size 4 _ rfl h4 (by unfold maxLen;omega) _ _ _ rfl rfl (Dw 7 (by omega)) _ [] rfl ?_;intro w5 h5 g5)
  |(refine Ee _ rfl _ _ _ 222 rfl 3 55 Dx Tryz.underlying222 DC w.heap.size 3 _ rfl h3 (by unfold maxLen;omega) _ _ _ rfl rfl (Dw 6 (by omega)) _ [] rfl ?_;intro w4 h4 g4)
  |(refine Ee _ rfl _ _ _ 222 rfl 3 55 Dx Tryz.underlying222 DC w.heap.size 2 _ rfl h2 (by unfold maxLen;omega) _ _ _ rfl rfl (Dw 5 (by omega)) _ [] rfl ?_;intro w3 h3 g3)
  |(refine Ee _ rfl _ _ _ 222 rfl 3 55 Dx Tryz.underlying222 DC w.heap.size 1 _ rfl h1 (by unfold maxLen;omega) _ _ _ rfl rfl (Dw 4 (by omega)) _ [] rfl ?_;intro w2 h2 g2)
  |(refine Ee _ rfl _ _ _ 222 rfl 3 55 Dx Tryz.underlying222 DC w.heap.size 0 _ rfl h0 (by unfold maxLen;omega) _ _ _ rfl rfl (Dw 3 (by omega)) _ [] rfl ?_;intro w1 h1 g1))
 go_ret;have hb0:S w.heap.size w (w.alloc (.map #[] 0)):=(qD _ _).alloc (qB _) _;have hb:∀{x y:N},S w.heap.size w x->x.grownBy y (V w.heap.size)->S w.heap.size w y:=fun h g=>h.grown g h.size (fun j hj=>by cases hj;exact qB _);exact⟨w.heap.size,qB _,rfl,h7,hb (hb (hb (hb (hb (hb (hb hb0 g1) g2) g3) g4) g5) g6) g7⟩
structure WorkAt(w:N)(b off B:Nat)(eao:Option Addr)(M:Nat)(t:Tm)(env:List Int):Prop where
 ob:b<w.heap.size
 ops:BN w b off t.ops
 ends : w.rowIs B 3 t.size (fun q => .int T (Am (t.ops.map Prod.fst) q))
 env:∀i,i<env.length->∃eb eoff,eao=V ⟨eb,eoff,Z⟩/\eb<w.heap.size/\w.cell? ⟨eb,eoff+i,Z⟩=V (.int T (env.getD i 0))
 pairs:Dk w M
theorem WorkAt.later{w w':N}{b off B:Nat}{eao:Option Addr}{M:Nat}{t:Tm}{env:List Int}(h:WorkAt w b off B eao M t env)(hb:S w.heap.size w w'):WorkAt w' b off B eao M t env:=by
 obtain⟨h1,h2,h3,h4,h5⟩:=h;refine⟨qE h1 hb.size,h2.below hb h1,h3.of_block (hb.block B h3.lt),fun i hi=>?_,h5.later hb⟩;obtain⟨eb,eoff,e1,e2,e3⟩:=h4 i hi;exact⟨eb,eoff,e1,qE e2 hb.size,(hb.cell (p:=⟨eb,eoff+i,Z⟩) e2).trans e3⟩
def BM(r:Option Int)(w:N)(e:Ending)(w':N):Prop:=
 S w.heap.size w w'/\match r with
  |some x=>e=O (.int T x)
  |none=>e=.panicked [{ v:=.iface 46 (.int T 8),recovered:=ZX}]
abbrev workV(b off n cap B:Nat)(eao:Option Addr)(en ecap M:Nat):Value:=ZY #[U (V ⟨b,off,Z⟩) n cap,U (V ⟨B,0,Z⟩) n n,U eao en ecap,.map (V M)]
theorem OQ(b off n cap B:Nat)(eao:Option Addr)(en ecap M place:Nat)(x:Int)(w:N)(hob:b<w.heap.size)(hp:place<n)(c0:w.cell? ⟨b,off+place*2,Z⟩=V (.int T 1))(c1:w.cell? ⟨b,off+place*2+1,Z⟩=V (.int T x)) :
  J qA 118 #[workV b off n cap B eao en ecap M,.int T place] w (BM (V x) w):=by
 have hne:¬b=w.heap.size:=by omega
 go_enter Tryz.func118,Tryz.ntmps118;go_wp2_with fail
 go_ret;exact⟨((qD _ _).alloc (qB _) _).alloc (by simp) _,rfl⟩
theorem OR(b off n cap B eb eoff en ecap M place j:Nat)(x:Int)(w:N)(hob:b<w.heap.size)(hp:place<n)(hj:j<en)(c0:w.cell? ⟨b,off+place*2,Z⟩=V (.int T 2))(c1:w.cell? ⟨b,off+place*2+1,Z⟩=V (.int T j))(hbl:eb<w.heap.size)(c2:w.cell? ⟨eb,eoff+j,Z⟩=V (.int T x)) :
  J qA 118 #[workV b off n cap B (V ⟨eb,eoff,Z⟩) en ecap M,.int T place] w (BM (V x) w):=by
 have hne:¬b=w.heap.size:=by omega
 go_enter Tryz.func118,Tryz.ntmps118;go_wp2_with fail
 go_ret;exact⟨((qD _ _).alloc (qB _) _).alloc (by simp) _,rfl⟩
theorem OO(b off n cap B:Nat)(eao:Option Addr)(en ecap M place:Nat)(k:Int)(hk:k=11\/k=12)(w:N)(hob:b<w.heap.size)(hp:place<n)(c0:w.cell? ⟨b,off+place*2,Z⟩=V (.int T k))(c1:w.cell? ⟨b,off+place*2+1,Z⟩=V (.int T 0)) :
  J qA 118 #[workV b off n cap B eao en ecap M,.int T place] w (BM (V (if k=11 then 1 else 0)) w):=by
 rcases hk with rfl|rfl
 .rw[if_pos rfl];have hne:¬b=w.heap.size:=by omega
  go_enter Tryz.func118,Tryz.ntmps118;go_wp2_with fail
  go_ret;exact⟨((qD _ _).alloc (qB _) _).alloc (by simp) _,rfl⟩
 .rw[if_neg (by decide)];have hne:¬b=w.heap.size:=by omega
  go_enter Tryz.func118,Tryz.ntmps118;go_wp2_with fail
  go_ret;exact⟨((qD _ _).alloc (qB _) _).alloc (by simp) _,rfl⟩
theorem OP(b off n cap B:Nat)(eao:Option Addr)(en ecap M place:Nat)(r:Option Int)(w:N)(hob:b<w.heap.size)(hp:place<n)(h60:n<=60)(c0:w.cell? ⟨b,off+place*2,Z⟩=V (.int T 10))(c1:w.cell? ⟨b,off+place*2+1,Z⟩=V (.int T 0))
  (hr:∀x,r=V x->-1000000<=x/\x<=1000000)
  (hrec:∀w',S w.heap.size w w'->J qA 118 #[workV b off n cap B eao en ecap M,.int T ((place:Int)+1)] w' (BM r w')) :
  J qA 118 #[workV b off n cap B eao en ecap M,.int T place] w (BM (r.map (1 - ·)) w):=by
 have hne:¬b=w.heap.size:=by omega
 have hb2:S w.heap.size w ((w.alloc (C #[U (V ⟨b,off,Z⟩) n cap,U (V ⟨B,0,Z⟩) n n,U eao en ecap,.map (V M)] 225)).alloc (C #[ZW T 10,.int T 0] 100)):=((qD _ _).alloc (qB _) _).alloc (by simp) _;have hrec':=hrec _ hb2;have HB2:=(show E _ from hb2);clear hrec hb2;cases r with
 |none=>
  go_enter Tryz.func118,Tryz.ntmps118;go_wp2_with (go_at_call 118;refine hrec'.mono ?_;rintro e w1 ⟨hb1,rfl⟩)
  exact⟨rfl,HB2.out.trans (hb1.mono HB2.out.size),rfl⟩
 |some x=>
  obtain⟨hx1,hx2⟩:=hr x rfl;clear hr;go_enter Tryz.func118,Tryz.ntmps118;go_wp2_with (go_at_call 118;refine hrec'.mono ?_;rintro e w1 ⟨hb1,rfl⟩)
  go_ret;exact⟨HB2.out.trans (hb1.mono HB2.out.size),rfl⟩
attribute [local go_sem ↓] Go.wp_at_zero Go.wp_at_succ
theorem S6(k:Int)(h3:3<=k)(h9:k<=9)(args:Array G)(w:N):(callFunc (Db k) args).run qA w=.ok (.enter (Db k) args) w:=by
 have hk:k=3\/k=4\/k=5\/k=6\/k=7\/k=8\/k=9:=by omega
 rcases hk with rfl|rfl|rfl|rfl|rfl|rfl|rfl
 .show (callFunc 142 args).run qA w=.ok (.enter 142 args) w;simp[go_sem]
 .show (callFunc 143 args).run qA w=.ok (.enter 143 args) w;simp[go_sem]
 .show (callFunc 144 args).run qA w=.ok (.enter 144 args) w;simp[go_sem]
 .show (callFunc 145 args).run qA w=.ok (.enter 145 args) w;simp[go_sem]
 .show (callFunc 147 args).run qA w=.ok (.enter 147 args) w;simp[go_sem]
 .show (callFunc 148 args).run qA w=.ok (.enter 148 args) w;simp[go_sem]
 .show (callFunc 149 args).run qA w=.ok (.enter 149 args) w;simp[go_sem]
theorem J0{x:Int}(h1:0<=x)(h2:x<=1000):IntKind.i64.wrap x=x:=by
 simp[IntKind.wrap,IntKind.bits,IntKind.signed];omega
theorem OL(b off n cap B:Nat)(eao:Option Addr)(en ecap M place E1 F:Nat)(k x y z:Int)(w:N)(hob:b<w.heap.size)(hBB:B<w.heap.size)(hp:place+1<n)(P1:Nat)(hP1:P1=place+1)(h60:n<=60)(hk3:3<=k)(hk9:k<=9)(c0:w.cell? ⟨b,off+place*2,Z⟩=V (.int T k))(c1:w.cell? ⟨b,off+place*2+1,Z⟩=V (.int T 0))(cE:w.cell? ⟨B,P1,Z⟩=V (.int T E1))
  (hlook:∀w',S w.heap.size w w'->(Instr.lookup 222 (.map (V M)) (.int T k) ZX).run qA w'=.ok (.func (.func F) #[] #[]) w')
  (hent:∀args w,(callFunc F args).run qA w=.ok (.enter F args) w)
  (hpair:∀w',J qA F #[ZW T x,.int T y] w' fun e w''=>e=O (.int T z)/\w''=w')
  (hra:∀w',S w.heap.size w w'->J qA 118 #[workV b off n cap B eao en ecap M,.int T P1] w' (BM (V x) w'))
  (hrb:∀w',S w.heap.size w w'->J qA 118 #[workV b off n cap B eao en ecap M,.int T E1] w' (BM (V y) w')) :
  J qA 118 #[workV b off n cap B eao en ecap M,.int T place] w (BM (lid z) w):=by
 have hne:¬b=w.heap.size:=by omega
 have hneB:¬B=w.heap.size:=by omega
 have e1:¬k=1:=by omega
 have e2:¬k=2:=by omega
 have e3:¬k=10:=by omega
 have e4:¬k=11:=by omega
 have e5:¬k=12:=by omega
 obtain⟨W2,hW2⟩:∃W2,W2=((w.alloc (C #[U (V ⟨b,off,Z⟩) n cap,U (V ⟨B,0,Z⟩) n n,U eao en ecap,.map (V M)] 225)).alloc (C #[ZW T k,.int T 0] 100)):=⟨_,rfl⟩;have hb2:S w.heap.size w W2:=by rw[hW2];exact((qD _ _).alloc (qB _) _).alloc (by simp) _
 have hsz:W2.heap.size=w.heap.size+1+1:=by rw[hW2];simp
 have d0:W2.cell? ⟨w.heap.size,0,Z⟩=V (U (V ⟨b,off,Z⟩) n cap):=by rw[hW2];simp[go_sem]
 have d1:W2.cell? ⟨w.heap.size,1,Z⟩=V (U (V ⟨B,0,Z⟩) n n):=by rw[hW2];simp[go_sem]
 have d2:W2.cell? ⟨w.heap.size,2,Z⟩=V (U eao en ecap):=by rw[hW2];simp[go_sem]
 have d3:W2.cell? ⟨w.heap.size,3,Z⟩=V (.map (V M)):=by rw[hW2];simp[go_sem]
 have d4:W2.cell? ⟨w.heap.size+1,0,Z⟩=V (.int T k):=by rw[hW2];simp[go_sem]
 have d5:W2.cell? ⟨B,P1,Z⟩=V (.int T E1):=(hb2.cell (p:=⟨B,P1,Z⟩) hBB).trans cE;have HW2:=(show E _ from hW2);have hS:∀w',S W2.heap.size W2 w'->w'.cell? ⟨w.heap.size,0,Z⟩=V (U (V ⟨b,off,Z⟩) n cap)/\w'.cell? ⟨w.heap.size,1,Z⟩=V (U (V ⟨B,0,Z⟩) n n)/\w'.cell? ⟨w.heap.size,2,Z⟩=V (U eao en ecap)/\w'.cell? ⟨w.heap.size,3,Z⟩=V (.map (V M))/\w'.cell? ⟨w.heap.size+1,0,Z⟩=V (.int T k)/\w'.cell? ⟨B,P1,Z⟩=V (.int T E1)/\(Instr.lookup 222 (.map (V M)) (.int T k) ZX).run qA w'=.ok (.func (.func F) #[] #[]) w':=fun w' hw'=>
  ⟨(hw'.cell (p:=⟨w.heap.size,0,Z⟩) (by simp only;omega)).trans d0,(hw'.cell (p:=⟨w.heap.size,1,Z⟩) (by simp only;omega)).trans d1,(hw'.cell (p:=⟨w.heap.size,2,Z⟩) (by simp only;omega)).trans d2,(hw'.cell (p:=⟨w.heap.size,3,Z⟩) (by simp only;omega)).trans d3,(hw'.cell (p:=⟨w.heap.size+1,0,Z⟩) (by simp only;omega)).trans d4,(hw'.cell (p:=⟨B,P1,Z⟩) (by simp only;omega)).trans d5,hlook w' (hb2.trans (hw'.mono hb2.size))⟩
 have hra':∀w',S W2.heap.size W2 w'->J qA 118 #[workV b off n cap B eao en ecap M,.int T P1] w' (BM (V x) w'):=fun w' hw'=>hra w' (hb2.trans (hw'.mono hb2.size));have hrb':∀w',S W2.heap.size W2 w'->J qA 118 #[workV b off n cap B eao en ecap M,.int T E1] w' (BM (V y) w'):=fun w' hw'=>hrb w' (hb2.trans (hw'.mono hb2.size));have hB0:S W2.heap.size W2 W2:=qD _ _;have HB2:E (S w.heap.size w W2):=hb2;have hp0:place<n:=by omega
 have hi0:(0:Int)<=(P1:Int):=by omega
 have hi1:(P1:Int)<(n:Int):=by omega
 have hpp:(place:Int)+1=(P1:Int):=by omega
 have hwr:IntKind.i64.wrap (P1:Int)=(P1:Int):=J0 (by omega) (by omega);have hwr2:IntKind.i64.wrap ((place:Int)+1)=(P1:Int):=by rw[hpp];exact hwr
 have htg:=fun w=>NQ z w;clear hW2 hb2 hra hrb hlook hP1 hp hsz d0 d1 d2 d3 d4 d5;by_cases hz:-1000000<=z/\z<=1000000
 .rw[show decide (¬(-1000000<=z/\z<=1000000))=ZX by simpa using hz]at htg;rw[show lid z=V z by unfold lid;rw[if_pos hz]];clear hz;go_enter Tryz.func118,Tryz.ntmps118;go_wp2_with fail
  rw[<-HW2.out];clear c0 c1 cE;go_region_held3 (fun w'=>w'.cell? ⟨w.heap.size,0,Z⟩=V (U (V ⟨b,off,Z⟩) n cap)/\w'.cell? ⟨w.heap.size,1,Z⟩=V (U (V ⟨B,0,Z⟩) n n)/\w'.cell? ⟨w.heap.size,2,Z⟩=V (U eao en ecap)/\w'.cell? ⟨w.heap.size,3,Z⟩=V (.map (V M))/\w'.cell? ⟨w.heap.size+1,0,Z⟩=V (.int T k)/\w'.cell? ⟨B,P1,Z⟩=V (.int T E1)/\(Instr.lookup 222 (.map (V M)) (.int T k) ZX).run qA w'=.ok (.func (.func F) #[] #[]) w')
   (exact hS _ (by first|exact hB0|exact hB0.drew|exact hB0.drew.trans hb1|exact(hB0.drew.trans hb1).trans (hb3.mono (hB0.drew.trans hb1).size)))
   (first|(go_at_call_of 118 E1;refine(hrb' _ (hB0.drew.trans hb1)).mono ?_;rintro e w3 ⟨hb3,rfl⟩)|(go_at_call 118;refine(hra' _ hB0.drew).mono ?_;rintro e w1 ⟨hb1,rfl⟩)|(refine(hpair _).mono ?_;rintro e w4 ⟨rfl,rfl⟩))
  all_goals
   go_wp2_with (go_at_call 116;refine(htg _).mono ?_;rintro e w5 ⟨rfl,rfl⟩)
   go_ret;exact⟨HB2.out.trans (((hB0.drew.trans hb1).trans (hb3.mono (hB0.drew.trans hb1).size)).mono HB2.out.size),rfl⟩
 .rw[show decide (¬(-1000000<=z/\z<=1000000))=true by simp;omega]at htg;rw[show lid z=Z by unfold lid;rw[if_neg hz]];clear hz;go_enter Tryz.func118,Tryz.ntmps118;go_wp2_with fail
  rw[<-HW2.out];clear c0 c1 cE;go_region_held3 (fun w'=>w'.cell? ⟨w.heap.size,0,Z⟩=V (U (V ⟨b,off,Z⟩) n cap)/\w'.cell? ⟨w.heap.size,1,Z⟩=V (U (V ⟨B,0,Z⟩) n n)/\w'.cell? ⟨w.heap.size,2,Z⟩=V (U eao en ecap)/\w'.cell? ⟨w.heap.size,3,Z⟩=V (.map (V M))/\w'.cell? ⟨w.heap.size+1,0,Z⟩=V (.int T k)/\w'.cell? ⟨B,P1,Z⟩=V (.int T E1)/\(Instr.lookup 222 (.map (V M)) (.int T k) ZX).run qA w'=.ok (.func (.func F) #[] #[]) w')
   (exact hS _ (by first|exact hB0|exact hB0.drew|exact hB0.drew.trans hb1|exact(hB0.drew.trans hb1).trans (hb3.mono (hB0.drew.trans hb1).size)))
   (first|(go_at_call_of 118 E1;refine(hrb' _ (hB0.drew.trans hb1)).mono ?_;rintro e w3 ⟨hb3,rfl⟩)|(go_at_call 118;refine(hra' _ hB0.drew).mono ?_;rintro e w1 ⟨hb1,rfl⟩)|(refine(hpair _).mono ?_;rintro e w4 ⟨rfl,rfl⟩))
  all_goals
   go_wp2_with (go_at_call 116;refine(htg _).mono ?_;rintro e w5 ⟨rfl,rfl⟩)
   exact⟨rfl,HB2.out.trans (((hB0.drew.trans hb1).trans (hb3.mono (hB0.drew.trans hb1).size)).mono HB2.out.size),rfl⟩
