/- Joined texts. -/
import Derived.Test.YtjldkfiabgagiaaGreatDoorLateA
import Derived.Maps.Own
import Derived.Deep.RegionHeld2
open Go renaming World→J,Value→ZZ,Calls→I
open Go.Ending renaming returned→N
open Go.IntKind renaming i64→T
open Go.Obj renaming cells→C
open Go.RowKit renaming Below→O,Hid→E
open Go.Value renaming slice→U,agg→ZW,tuple→ZY,pointer→G,int→ZV
open _root_.Bool renaming false→ZX
open _root_.Option renaming none→Z,some→V
namespace Go.Proofs.YtjldkfiabgagiaaGreatDoor
open _root_.Array renaming getElem?_eq_some_iff→qG
open Go.RowKit.Below renaming refl→qD
open _root_.Bool renaming and_eq_true→qK
open _root_.Int renaming pow_pos→jY,pow_succ→kT
open _root_.List renaming append_assoc→q7,getD_eq_getElem?_getD→qC,length_map→qL,length_range→q8
open _root_.Nat renaming le_refl→qB,le_succ→vD,le_trans→qI,lt_of_lt_of_le→qE,lt_succ_self→qY,zero_le→qJ
open Go.Proofs.Tryz renaming prog→qA
open Go.ChangeShapes Go.WideShapes Go.ChangeAt Go.RowKit Go.Deep Go.Shelf
open Terms
set_option maxHeartbeats 6400000
set_option maxRecDepth 20000
attribute [local go_sem] Oper.semAt_some
def Be(l:List (Int×Int))(claim:Int)(k:Nat)(j:Nat):Bool:=if Ah (l.getD j (0,0)).1=true/\(AN l j).length<k then EP claim (AN l j).length else ZX
def Hg(l:List (Int×Int))(letter:List Bool)(h:Nat->Bool)(p:Nat):Nat->Bool:=if Ah (l.getD p (0,0)).1=true then h else fun j=>if j=p then mkB (l.getD p (0,0)) letter (h (p+1)) (h (sec l p))else h j
def CB(l:List (Int×Int))(letter:List Bool)(h:Nat->Bool){n:Nat}(xs:List (Fin n)):Nat->Bool:=xs.foldl (fun h x=>Hg l letter h x.1) h
theorem LA(l:List (Int×Int))(letter:List Bool)(h:Nat->Bool){n:Nat}(xs:List (Fin n))(x:Fin n):CB l letter h (xs++[x])=Hg l letter (CB l letter h xs) x.1:=by simp[CB]
theorem QN{l:List (Int×Int)}{letter:List Bool}{claim:Int}(hz:AR (l.map Prod.fst)=0){n:Nat}(h0n:0<n)(hn:n=l.length) :
  ∀k,k<=n->∀j,j<n->CB l letter (Be l claim (AA l).length) (C1 h0n k) j=if n-k<=j then tru l letter claim j else Be l claim (AA l).length j:=by
 intro k;induction k with
 |zero=>
  intro _ j hj;rw[if_neg (by omega)];simp[C1,CB]
 |succ k ih=>
  intro hk j hj;have ih':=ih (by omega);rw[IF,LA];have hp:(FW h0n k).1=n-1-k:=rfl;rw[hp];obtain⟨p,hpe⟩:∃p,p=n-1-k:=⟨_,rfl⟩;rw[<-hpe];have hpl:p<l.length:=by omega
  unfold Hg;cases hb:Ah (l.getD p (0,0)).1 with
  |true=>
   rw[if_pos rfl,ih' j hj];by_cases hjp:j=p
   .subst hjp;rw[if_neg (by omega),if_pos (by omega),VR hpl hb];unfold Be;exact if_pos ⟨hb,EO l hpl hb⟩
   .by_cases hle:n-k<=j
    .rw[if_pos hle,if_pos (by omega)]
    .rw[if_neg hle,if_neg (by omega)]
  |false=>
   rw[if_neg (by decide)];by_cases hjp:j=p
   .subst hjp;rw[if_pos rfl,if_pos (by omega)];obtain⟨h1,h2⟩:=G0 hz hpl;rw[VS hpl hb (fun h=>(h2 h).1)];have hpn:=JR (l.getD j (0,0)).1;by_cases p2:pn (l.getD j (0,0)).1=2
    .obtain ⟨s1,s2⟩:=h2 p2;have s0:=h1 (by omega);rw[ih' (j+1) (by omega),ih' (sec l j) (by omega),if_pos (by omega),if_pos (by omega)]
    .have hk89:(l.getD j (0,0)).1≠8/\(l.getD j (0,0)).1≠9:=by
      constructor<;>intro e<;>rw[e]at p2<;>exact absurd rfl p2
     by_cases p1:pn (l.getD j (0,0)).1=1
     .have s0:=h1 (by omega);rw[ih' (j+1) (by omega),if_pos (by omega)];simp only[mkB,hk89.1,hk89.2,if_false]
     .have hk10:(l.getD j (0,0)).1≠10:=by intro e;rw[e]at p1;exact absurd rfl p1
      simp only[mkB,hk89.1,hk89.2,hk10,if_false]
   .rw[if_neg hjp,ih' j hj];by_cases hle:n-k<=j
    .rw[if_pos hle,if_pos (by omega)]
    .rw[if_neg hle,if_neg (by omega)]
structure TrSt(w:J)(fo ev av lv:ZZ)(n:Nat)(h:Nat->Bool)(W0s:Nat)(W:J):Prop where
 three:Bt W w.heap.size fo ev av
 letter:W.cell? ⟨w.heap.size+1,0,Z⟩=V lv
 holds:W.cell? ⟨w.heap.size+1+1+1,0,Z⟩=V (U (V ⟨w.heap.size+1+1,0,Z⟩) n n)
 row:W.rowIs (w.heap.size+1+1) 4 n (fun j=>.bool (h j))
 below:O w.heap.size w W
 size:W0s<=W.heap.size
theorem TrSt.later{w:J}{fo ev av lv:ZZ}{n:Nat}{h:Nat->Bool}{s B:Nat}{W W':J}(t:TrSt w fo ev av lv n h s W)(hb:O B W W')(hB:w.heap.size+4<=B):TrSt w fo ev av lv n h s W':=
 ⟨t.three.below hb (by omega),(hb.cell (p:=⟨w.heap.size+1,0,Z⟩) (by simp;omega)).trans t.letter,(hb.cell (p:=⟨w.heap.size+1+1+1,0,Z⟩) (by simp;omega)).trans t.holds,t.row.of_block (hb.block _ (by omega)),t.below.trans (hb.mono (by omega)),qI t.size hb.size⟩
theorem TrSt.congr{w:J}{fo ev av lv:ZZ}{n:Nat}{h h':Nat->Bool}{s:Nat}{W:J}(t:TrSt w fo ev av lv n h s W)(e:∀j,j<n->h j=h' j):TrSt w fo ev av lv n h' s W:=
 ⟨t.three,t.letter,t.holds,t.row.congr fun j hj=>by rw[e j hj],t.below,t.size⟩
theorem TrSt.put{w:J}{fo ev av lv:ZZ}{n:Nat}{h:Nat->Bool}{s:Nat}{W:J}(t:TrSt w fo ev av lv n h s W)(p:Nat)(x:Bool):TrSt w fo ev av lv n (fun j=>if j=p then x else h j) s (W.setCell ⟨w.heap.size+1+1,p,Z⟩ (.bool x)):=by
 have hb:∀k,k≠w.heap.size+1+1->(W.setCell ⟨w.heap.size+1+1,p,Z⟩ (.bool x)).heap[k]? = W.heap[k]?:=fun k hk=>Below.heap_setCell W _ _ k hk;have hc:∀k q,k≠w.heap.size+1+1->(W.setCell ⟨w.heap.size+1+1,p,Z⟩ (.bool x)).cell? ⟨k,q,Z⟩=W.cell? ⟨k,q,Z⟩:=fun k q hk=>World.cell?_of_block (w:=W) (hb k hk);have hf:∀q,(W.setCell ⟨w.heap.size+1+1,p,Z⟩ (.bool x)).frozen? ⟨w.heap.size,q,Z⟩=W.frozen? ⟨w.heap.size,q,Z⟩:=fun q=>by rw[World.frozen?_setCell]
 obtain⟨k0,k1,k2,f0,f1,f2,hl⟩:=t.three;refine⟨⟨(hc _ _ (by omega)).trans k0,(hc _ _ (by omega)).trans k1,(hc _ _ (by omega)).trans k2,(hf 0).trans f0,(hf 1).trans f1,(hf 2).trans f2,by simpa using hl⟩,(hc _ _ (by omega)).trans t.letter,(hc _ _ (by omega)).trans t.holds,?_,t.below.setCell (by simp;omega) _,by simpa using t.size⟩;refine(t.row.set p (.bool x)).congr fun i _=>?_;by_cases hip:i=p
 .rw[if_pos hip,if_pos hip]
 .rw[if_neg hip,if_neg hip]
theorem TrSt.drew{w:J}{fo ev av lv:ZZ}{n:Nat}{h:Nat->Bool}{s:Nat}{W:J}(t:TrSt w fo ev av lv n h s W):TrSt w fo ev av lv n h s W.drew:=
 ⟨⟨t.three.1,t.three.2.1,t.three.2.2.1,t.three.2.2.2.1,t.three.2.2.2.2.1,t.three.2.2.2.2.2.1,t.three.2.2.2.2.2.2⟩,t.letter,t.holds,t.row.of_block rfl,t.below.drew,t.size⟩
theorem Oh:∀c,c<64->(bits BinOp.and IntKind.i64 ((c:Nat):Int) 1 == 1)=decide (((c:Nat):Int) % 2=1):=by decide
theorem Og{claim:Int}{k:Nat}(h0:0<=claim)(h:claim<64):(bits BinOp.and IntKind.i64 (claim / 2^k) 1 == 1)=EP claim k:=by
 have h2:(0:Int)<2^k:=jY (by decide);have h3:0<=claim / 2^k:=Int.ediv_nonneg h0 (Int.le_of_lt h2);have h4:claim / 2^k<=claim:=Int.ediv_le_self _ h0;obtain⟨c,hc⟩:∃c:Nat,claim / 2^k=c:=⟨(claim / 2^k).toNat,by omega⟩;unfold EP;rw[hc];exact Oh c (by omega)
theorem Q0{l:List (Int×Int)}{claim:Int}{k p:Nat}(hlk:Ah (l.getD p (0,0)).1=true)(hpi:(AN l p).length=k)(j:Nat):(if j=p then EP claim k else Be l claim k j)=Be l claim (k+1) j:=by
 unfold Be;by_cases hjp:j=p
 .subst hjp;rw[if_pos rfl,if_pos ⟨hlk,by omega⟩,hpi]
 .rw[if_neg hjp];by_cases hb:Ah (l.getD j (0,0)).1=true
  .have hne:(AN l j).length≠k:=by
    intro e;rcases Nat.lt_or_gt_of_ne hjp with h|h
    .have:=EO l h hb;omega
    .have:=EO l h hlk;omega
   by_cases hl:(AN l j).length<k
   .rw[if_pos ⟨hb,hl⟩,if_pos ⟨hb,by omega⟩]
   .rw[if_neg (fun h=>hl h.2),if_neg (fun h=>by have:=h.2;omega)]
  .rw[if_neg (fun h=>hb h.1),if_neg (fun h=>hb h.1)]
theorem VW(fv lv:ZZ)(fo ev:ZZ)(aao:Option Addr)(an ac:Nat)(claim:Int)(lo:Option Addr)(ln lc:Nat)(oo eo:Option Addr)(on oc en ec:Nat)(hfo:fo=U oo on oc)(hev:ev=U eo en ec)(hlv:lv=U lo ln lc)(hfv:fv=ZW #[fo,ev,U aao an ac])(h6:an<=6)(w:J)(h:claim<0\/2^an<=claim) :
  I qA 51 #[fv,lv,.int T claim] w fun e w'=>e=N (ZY #[U Z 0 0,.int T 2])/\O w.heap.size w w':=by
 subst hfo hev hlv hfv;have hb:∀o o',O w.heap.size w ((w.alloc o).alloc o'):=fun o o'=>((qD _ _).alloc (qB _) o).alloc (by simp) o';rcases h with h|h
 .go_enter Tryz.func51,Tryz.ntmps51;go_wp2_with fail
  go_ret2;exact⟨rfl,hb _ _⟩
 .have h0:0<=claim:=by have:(0:Int)<2^an:=jY (by decide);omega
  have hcase:an=0\/an=1\/an=2\/an=3\/an=4\/an=5\/an=6:=by omega
  clear h6;rcases hcase with rfl|rfl|rfl|rfl|rfl|rfl|rfl;all_goals
   simp only[Int.reducePow]at h;go_enter Tryz.func51,Tryz.ntmps51;go_wp2_with fail
   go_ret2;exact⟨rfl,hb _ _⟩
theorem Vb{P:Program}(L n:Nat){o:Oper}{a:Act}{next:Act->J->Prop}{Q:Exit->Act->J->Prop}{r:Result Next}(h:o.upon P a next Q r):o.uponIn (Fence.wide.inRound L) n P a next Q r:=by
 have hd:∀m:Nat,(Fence.wide.inRound L).depth.isSome=true->1<=m:=fun m h=>by simp[Fence.wide,Fence.inRound]at h
 cases r with
 |halt x w'=>cases x<;>first|exact h|exact h.elim
 |ok x w'=>
  cases x with
  |value v=>exact h
  |skip=>exact h
  |defer d=>exact h
  |enter f args=>exact⟨hd _,CallsIn.inRound L ((callsIn_wide.2 h).mono fun e w'' he=>by cases e<;>exact he)⟩
  |row row args=>exact⟨hd _,fun c cs _=>by obtain⟨v,w'',h1,h2⟩:=h c cs;exact⟨v,w'',h1,stepsIn_wide.2 h2⟩⟩
  |_=>exact(h:False).elim
theorem OJ{P:Program}(L n:Nat){md:Region.Mode}{ops:Array Oper}{Q:Exit->Act->J->Prop}(hd:∀(i:Nat) (o:Oper),ops[i]? = V o->∀c,o.op≠Op.defer c)(hQ:LetsOut Q->False) :
  ∀(fuel:Nat) (listed:Array Bool) (a:Act) (w:J),wpAny P md ops Q fuel listed a w->wpAnyIn (Fence.wide.inRound L) n P md ops Q fuel listed a w:=by
 intro fuel;induction fuel with
 |zero=>intro listed a w h;exact h
 |succ fuel ih=>
  intro listed a w h;refine⟨h.1,fun i hi=>?_⟩;have h1:=wpOp_mono (K':=wpAnyIn (Fence.wide.inRound L) n P md ops Q fuel (listed.setIfInBounds i true)) (fun a' w' h'=>ih _ a' w' h') (h.2 i hi);unfold wpOp at h1;unfold wpOpIn;cases ho:ops[i]? with
  |none=>simp only[ho]at h1⊢;exact h1
  |some o=>
   simp only[ho]at h1⊢;split
   .rename_i hw;rw[if_pos hw]at h1;rcases h1 with h1|⟨_,h1⟩
    .refine ⟨fun f _=>trivial,?_⟩;rw[Oper.semAt_eq _ _ _ (hd i o ho)];exact Vb L n h1
    .exact (hQ h1).elim
   .rename_i hw;rw[if_neg hw]at h1;exact⟨fun f _=>trivial,h1⟩
theorem Ts{P:Program}{L n id:Nat}{ops:Array Oper}{Q:Exit->Act->J->Prop}{a:Act}{w:J}(S:J->Prop)(hm:P.follows .mixedOrders=true)(hd:∀(i:Nat) (o:Oper),ops[i]? = V o->∀c,o.op≠Op.defer c)(hQ:LetsOut Q->False)
  (h:wpAnyH P .any ops Q S ops.size (Array.replicate ops.size ZX) a w.drew):(Code.region id ops true).wpIn (Fence.wide.inRound L) n P Q a w:=
 wpIn_region_any hm (OJ L n hd hQ _ _ _ _ (wpAny_of_held _ _ _ _ h))
theorem Vu{P:Program}{ops:Array Oper}{Q:Exit->Act->J->Prop}{i:Nat}{K:Act->J->Prop}{a:Act}{w:J}{o:Oper}{f:FuncId}{args:Array ZZ}{R:Ending->J->Prop}(hi:ops[i]? = V o)(hw:Region.wanted o (yielded ops a.tmps)=true)(hr:(execOp a.eval o).run P w=.ok (.enter f args) w)(h:I P f args w R)
  (hR:∀e w',R e w'->∃v,e=N v/\K (a.put o.dst v) w'):wpOp P ops Q i K a w:=by
 unfold wpOp;simp only[hi];rw[if_pos hw];refine Or.inl ?_;unfold Oper.wp;rw[hr];refine h.mono fun e w' he=>?_;obtain⟨v,rfl,hk⟩:=hR e w' he;exact hk
theorem Vv{P:Program}{ops:Array Oper}{Q:Exit->Act->J->Prop}{i:Nat}{K:Act->J->Prop}{a:Act}{w w':J}{o:Oper}(hi:ops[i]? = V o)(hw:Region.wanted o (yielded ops a.tmps)=true)(hr:(execOp a.eval o).run P w=.ok .skip w')(h:K (a.put o.dst undef) w'):wpOp P ops Q i K a w:=by
 unfold wpOp;simp only[hi];rw[if_pos hw];refine Or.inl ?_;unfold Oper.wp;rw[hr];exact h
attribute [local go_sem] Oper.semAt_some
def NW(p3 p4 p8 p11 p12 r0 r1 r2 r5 r6 r7 r9 r10 r13 r14 r15 r16 r17 r18 r19 r20 r21 r22 r23 r24 r25 r26 r27 r28 r29 r30 r31 r32 r33 r34 r35 r36 r37 r38 r39 r40 r41 r42 r43 r44 r45 r46 r47 r48 r49 r50 r51 r52 r53 r54 r55 r56 r57 r58 r59 r60 r61 r62 r63 r64 r65 r66 r67 r68 r69 r70:ZZ):Act:={ tmps:=#[r0,r1,r2,p3,p4,r5,r6,r7,p8,r9,r10,p11,p12,r13,r14,r15,r16,r17,r18,r19,r20,r21,r22,r23,r24,r25,r26,r27,r28,r29,r30,r31,r32,r33,r34,r35,r36,r37,r38,r39,r40,r41,r42,r43,r44,r45,r46,r47,r48,r49,r50,r51,r52,r53,r54,r55,r56,r57,r58,r59,r60,r61,r62,r63,r64,r65,r66,r67,r68,r69,r70],defers:=[]}
def N3(w:J)(s:Nat)(o:Int×Int)(p:Nat)(a':Act)(W:J):Prop:=∃Bx,s<=Bx/\W.cell? ⟨Bx,0,Z⟩=V (.int T o.1)/\W.cell? ⟨Bx,1,Z⟩=V (.int T o.2)/\∃r0 r1 r2 r5 r6 r7 r9 r10 r13 r14 r15 r16 r17 r18 r19 r20 r21 r22 r23 r24 r25 r26 r27 r28 r29 r30 r31 r32 r33 r34 r35 r36 r37 r38 r39 r40 r41 r42 r43 r44 r45 r46 r47 r48 r49 r50 r51 r52 r53 r54 r55 r56 r57 r58 r59 r60 r61 r62 r63 r64 r65 r66 r67 r68 r69 r70:ZZ,a'=NW (G (V ⟨w.heap.size,0,Z⟩)) (G (V ⟨w.heap.size+1,0,Z⟩)) (G (V ⟨w.heap.size+1+1+1,0,Z⟩)) (.int T (p:Int)) (G (V ⟨Bx,0,Z⟩)) r0 r1 r2 r5 r6 r7 r9 r10 r13 r14 r15 r16 r17 r18 r19 r20 r21 r22 r23 r24 r25 r26 r27 r28 r29 r30 r31 r32 r33 r34 r35 r36 r37 r38 r39 r40 r41 r42 r43 r44 r45 r46 r47 r48 r49 r50 r51 r52 r53 r54 r55 r56 r57 r58 r59 r60 r61 r62 r63 r64 r65 r66 r67 r68 r69 r70
theorem RC{B:Nat}{W W':J}(h:O W.heap.size W W'):KeepsFrom B W W':=⟨h.size,fun k _ _ hk _=>(h.block k (qG.1 hk).1).trans hk⟩
set_option maxRecDepth 100000 in
theorem VV(b off cap n B:Nat)(aao:Option Addr)(an ac:Nat)(lo:Option Addr)(ln lc:Nat)(l:List (Int×Int))(letter:List Bool)(claim:Int)(w:J)(h0n:0<n)(h60:n<=60)(hn:n=l.length)(hz:AR (l.map Prod.fst)=0)(hops:BP w b off l)(hbl:b<w.heap.size)
  (hrow:w.rowIs B 3 n (fun q=>.int T (Ao (l.map Prod.fst) q))) (han:an=(AA l).length) (hav:IntsV w (U aao an ac) (AA l)) (h6:an<=6) (hln:ln=letter.length) (hL:BoolsV w (U lo ln lc) letter) (hlf:CD ln l=0) (h0:0<=claim) (h1:claim<2^an) :
  I qA 51 #[ZW #[U (V ⟨b,off,Z⟩) n cap,U (V ⟨B,0,Z⟩) n n,U aao an ac],U lo ln lc,.int T claim] w fun e w'=>∃bH,e=N (ZY #[U (V ⟨bH,0,Z⟩) n n,.int T 0])/\O w.heap.size w w'/\E (w'.rowIs bH 4 n (fun j=>.bool (tru l letter claim j)))/\w.heap.size<=bH:=by
 refine(callsIn_wide (n:=8)).1 ?_;refine callsIn_of_wp_marks Tryz.func51 rfl trivial ?_ rfl;simp only[Tryz.ntmps51,List.size_toArray,List.length_cons,List.length_nil,Nat.reduceAdd,Nat.reduceSub,Array.replicate_succ,Array.replicate_zero,List.push_toArray,List.append_toArray,List.nil_append,List.cons_append];have hmk:=run_make_row' (P:=qA) 102 4 (.bool ZX) 1 Tryz.underlying102 Gg rfl .i64 .i64 n (by omega) (by omega);have HO:E (BP w b off l):=hops;have HN:E (n=l.length):=hn;have HR:E (w.rowIs B 3 n (fun q=>.int T (Ao (l.map Prod.fst) q))):=hrow;have HAN:E (an=(AA l).length):=han;have HAV:E (IntsV w (U aao an ac) (AA l)):=hav;have HLN:E (ln=letter.length):=hln;have HL:E (BoolsV w (U lo ln lc) letter):=hL;have HLF:E (CD ln l=0):=hlf;have HZ:E (AR (l.map Prod.fst)=0):=hz;clear hops hn hrow han hav hln hL hlf hz;have hcase:an=0\/an=1\/an=2\/an=3\/an=4\/an=5\/an=6:=by omega
 have hsh:(2:Int)^an<=64:=by rcases hcase with rfl|rfl|rfl|rfl|rfl|rfl|rfl<;>decide
 clear hcase;gi_wp2
 have HS0:E (TrSt w (U (V ⟨b,off,Z⟩) n cap) (U (V ⟨B,0,Z⟩) n n) (U aao an ac) (U lo ln lc) n (Be l claim 0) 0 ((((w.alloc (C #[U (V ⟨b,off,Z⟩) n cap,U (V ⟨B,0,Z⟩) n n,U aao an ac] 123)).alloc (C #[U lo ln lc] 102)).alloc (C (madeCells #[.bool ZX] n) 4)).alloc (C #[U (V ⟨w.heap.size+1+1,0,Z⟩) n n] 102))):=by
  have r:=World.rowIs_made ((w.alloc (C #[U (V ⟨b,off,Z⟩) n cap,U (V ⟨B,0,Z⟩) n n,U aao an ac] 123)).alloc (C #[U lo ln lc] 102)) (.bool ZX) n 4;simp only[World.size_alloc]at r;have hB3:∀o1 o2 o3 o4,O (w.heap.size+1) (w.alloc o1) ((((w.alloc o1).alloc o2).alloc o3).alloc o4):=fun o1 o2 o3 o4=>(((qD _ _).alloc (by simp) o2).alloc (by simp) o3).alloc (by simp) o4;exact⟨(Bt.new w _ _ _ _).below (hB3 _ _ _ _) (qY _),by simp[go_sem],by simp[go_sem],(r.of_block (Below.heap_alloc _ _ _ r.lt)).congr (fun j _=>by simp[Be]),((((qD _ _).alloc (qB _) _).alloc (by simp) _).alloc (by simp;omega) _).alloc (by simp;omega) _,qJ _⟩
 gi_loopw [32] (fun i wr=>∃k:Nat,k<=an/\i=.int T k/\E (TrSt w (U (V ⟨b,off,Z⟩) n cap) (U (V ⟨B,0,Z⟩) n n) (U aao an ac) (U lo ln lc) n (Be l claim k) 0 wr)) (fun i _=>an-(intOf i).toNat)
 case atStart=>
  exact⟨0,qJ _,rfl,HS0.out⟩
 case round=>
  obtain⟨k,hk,rfl,HSt⟩:=hrel;have hst:=HSt.out;by_cases hlt:k<an
  .obtain ⟨p,hp,hpn,hlk,hpi⟩:=GB l l.length k (by have:=HAN.out;unfold AA at this;omega);obtain⟨ao',cap',hsl,hai⟩:=HAV.out;injection hsl with e1 e2 e3;subst e1;obtain⟨ab,aoff,rfl,habl,haat⟩:=hai (by intro h;have:=HAN.out;rw[h]at this;simp at this;omega);have hca:=(hst.below.cell (p:=⟨ab,aoff+k,Z⟩) habl).trans (haat k (by rw[<-HAN.out];exact hlt));have hca':wr.cell? ⟨ab,aoff+k,Z⟩=V (.int T (p:Int)):=by rw[hca];exact congrArg (fun z=>V (Value.int .i64 z)) hp
   have hch:=hst.holds;have hf:=hst.row.frozen p;have hpn':p<n:=by rw[HN.out];exact hpn
   have hcp:=hst.row.cell hpn';obtain⟨t0,t1,t2,_⟩:=hst.three;have HP:E (Ah (l.getD p (0,0)).1=true/\(AN l p).length=k):=⟨hlk,hpi⟩;clear hp hpn hlk hpi hai haat hca e2 e3;have hmx:qA.follows .mixedOrders=true:=by kernel_rfl
   gi_wp2
   gi_region_o
   all_goals gi_wp2
   refine⟨⟨k+1,hlt,by first|rfl|simp,?_⟩,by simp[intOf];omega⟩;rw[Og h0 (by omega)];exact((hst.put p (EP claim k)).congr (fun j _=>Q0 HP.out.1 HP.out.2 j)).drew
  .obtain rfl:k=an:=by omega
   have HAL:E (k=(AA l).length):=HAN.out;obtain⟨t0,t1,t2,_⟩:=hst.three;generalize wr=W1 at *;clear hmk HS0 hlt hk HAV
   gi_wp2_with (refine⟨trivial,?_⟩;gi_at_call 70;refine(Oa Fence.wide _ trivial rfl _ _ _ _).mono ?_;rintro e w' ⟨rfl,rfl⟩)
   have hs3:w.heap.size+4<=W1.heap.size:=by have:=World.block_lt_of_cell? W1 ⟨w.heap.size+1+1+1,0,Z⟩ hst.holds;simp at this;omega
   refine wpIn_rangeFunc_ownH rfl (by decide) (gf:=100) (lb:=#[G (V ⟨W1.heap.size,0,Z⟩)]) rfl trivial (enters_of Tryz.func100 (by kernel_rfl) rfl)
    (Ob Fence.wide 7 trivial rfl (by decide) W1.heap.size w.heap.size b off n cap l h0n h60 HN.out hbl _ (by simp) (by simp;omega) (by simp[go_sem]) (HO.out.below (hst.below.alloc hst.below.size _) hbl)) OY (OX (by simp;omega) (by simp)) (qD _ _) (fun _=>rfl)
    (fun pre W=>TrSt w (U (V ⟨b,off,Z⟩) n cap) (U (V ⟨B,0,Z⟩) n n) (U aao k ac) (U lo ln lc) n (CB l letter (Be l claim k) pre) (W1.heap.size+1) W)
    (fun _ _ _=>False)
    (fun s A Bw row hs hg hr=>hs.later (B:=W1.heap.size+1) ((qD _ _).grown hg hs.size (fun z e=>by have:=(hr z e).1;simp at this;omega)) (by omega))
    (fun _ _ _ _ _ hs _ _=>hs)
    ?h0 (fun x=>N3 w (W1.heap.size+1) (l.getD x.1 (0,0)) x.1) (fun x a' _ X Y row hs hg hr=>by obtain⟨Bx,h1,h2,h3,h4⟩:=hs;exact⟨Bx,h1,cell_kept h2 hg (fun r e=>(hr r e).2),cell_kept h3 hg (fun r e=>(hr r e).2),h4⟩)
    ?assign ?body ?done ?stop
   case h0=>
    have t:=hst.later ((qD W1.heap.size W1).alloc (qB _) (C #[U (V ⟨b,off,Z⟩) n cap] 33)) (by omega);exact⟨t.three,t.letter,t.holds,t.row,t.below,by simp⟩
   case assign=>
    rintro L pre x W K hi hK;have hsz:=hi.size;unfold GD;gi_wp2
    refine hK _ _ ?ka ?kb ?kc ?kd;case ka=>exact(KeepsOthers.alloc _ _).from _
    case kb=>exact⟨(qD _ W).alloc hi.below.size _,Below.heap_alloc _ _ _ (by omega)⟩
    case kc=>exact hi.later ((qD W.heap.size W).alloc (qB _) _) (by omega)
    case kd=>exact⟨W.heap.size,by omega,by simp[go_sem],by simp[go_sem],_,_,_,_,_,_,_,_,_,_,_,_,_,_,_,_,_,_,_,_,_,_,_,_,_,_,_,_,_,_,_,_,_,_,_,_,_,_,_,_,_,_,_,_,_,_,_,_,_,_,_,_,_,_,_,_,_,_,_,_,_,_,_,_,_,_,rfl⟩
   case body=>
    rintro L pre x a' W hl ⟨r,hr⟩ hi ⟨Bx,hBx,cx0,cx1,r0,r1,r2,r5,r6,r7,r9,r10,r13,r14,r15,r16,r17,r18,r19,r20,r21,r22,r23,r24,r25,r26,r27,r28,r29,r30,r31,r32,r33,r34,r35,r36,r37,r38,r39,r40,r41,r42,r43,r44,r45,r46,r47,r48,r49,r50,r51,r52,r53,r54,r55,r56,r57,r58,r59,r60,r61,r62,r63,r64,r65,r66,r67,r68,r69,r70,rfl⟩ hlen;have hsz:=hi.size;have hfa:=Ra HLF.out x.1 (by rw[<-HN.out];exact x.2);obtain⟨hp1,hp2⟩:=G0 HZ.out (p:=x.1) (by rw[<-HN.out];exact x.2);have HSt:E (TrSt w (U (V ⟨b,off,Z⟩) n cap) (U (V ⟨B,0,Z⟩) n n) (U aao k ac) (U lo ln lc) n (CB l letter (Be l claim k) pre) (W1.heap.size+1) W):=hi;have HNx:=LA l letter (Be l claim k) pre x;unfold Hg at HNx;have HNx':E (CB l letter (Be l claim k) (pre++[x])=if Ah (l.getD x.1 (0,0)).1=true then CB l letter (Be l claim k) pre else fun j=>if j=x.1 then mkB (l.getD x.1 (0,0)) letter (CB l letter (Be l claim k) pre (x.1+1)) (CB l letter (Be l claim k) pre (sec l x.1))else CB l letter (Be l claim k) pre j):=HNx;clear HNx;obtain⟨nx,hnx⟩:∃nx,CB l letter (Be l claim k) (pre++[x])=nx:=⟨_,rfl⟩;have HNX:E (CB l letter (Be l claim k) (pre++[x])=nx):=hnx;rw[hnx]at HNx';clear hnx;generalize CB l letter (Be l claim k) pre=h at *;obtain⟨p,hpn⟩:=x;simp only at cx0 cx1 hfa hp1 hp2 HNx'
    generalize l.getD p (0,0)=xy at *;obtain⟨kx,vx⟩:=xy;simp only at cx0 cx1 hfa hp1 hp2 HNx'
    have hlk:=fun w=>Lp kx w;have hBxl:Bx<W.heap.size:=World.block_lt_of_cell? W ⟨Bx,0,Z⟩ cx0;have hmx:qA.follows .mixedOrders=true:=by kernel_rfl
    unfold NW;cases hb:Ah kx with
    |true=>
     have HE:E (nx=h):=by show _=_;rw[HNx'.out,if_pos hb]
     rw[hb]at hlk;clear hb HNx' hp1 hp2 hfa;gi_wp2_with (refine⟨trivial,?_⟩;gi_at_call 64;refine(CallsIn.inRound L (callsIn_wide.2 (hlk _))).mono ?_;rintro e w2 ⟨rfl,rfl⟩)
     refine⟨KeepsFrom.refl _ _,⟨qD _ _,rfl⟩,?_⟩;show TrSt w _ _ _ _ n (CB l letter (Be l claim k) (pre++[⟨p,hpn⟩])) _ _;rw[HNX.out,HE.out];exact HSt.out
    |false=>
     have HE:E (nx=fun j=>if j=p then mkB (kx,vx) letter (h (p+1)) (h (sec l p))else h j):=by show _=_;rw[HNx'.out,if_neg (by rw[hb];decide)]
     rw[hb]at hlk;have hop:A0 (ln:Int) (kx,vx)=0:=hfa;have hk8:8<=kx:=by
      simp only[A0]at hop;split at hop
      .omega
      .omega
     have h13:kx=13->0<=vx/\vx<letter.length:=fun e=>by
      simp only[A0]at hop;rw[if_neg (by omega),if_pos e]at hop;split at hop
      .omega
      .have:=HLN.out;omega
     have hpr:kx=10\/kx=8\/kx=9->p+1<n:=fun e=>by rw[HN.out];exact hp1 (by rcases e with rfl|rfl|rfl<;>decide)
     have hps:kx=8\/kx=9->sec l p<n:=fun e=>by rw[HN.out];exact(hp2 (by rcases e with rfl|rfl<;>decide)).2
     have hBl:B<w.heap.size:=HR.out.lt;have hpa:=G1 b off cap n B (w.heap.size+1+1) p _ h l aao k ac rfl W (fun j hj=>hi.row.cell hj) hi.row.lt (fun j hj=>(hi.below.cell (p:=⟨B,j,Z⟩) hBl).trans (HR.out.cell hj)) (qE hBl hi.below.size);obtain⟨t0,t1,t2,_⟩:=hi.three;have hch:=hi.holds;have hcl:=hi.letter;have HMk:E (∀w2,O W.heap.size W w2->PartsAt w2 (W.heap.size+1+1) W.heap.size (W.heap.size+1) (w.heap.size+1+1) n B p h l->I qA 72 #[ZW #[ZV T kx,.int T vx],U lo ln lc,.func (.func 101) #[] #[G (V ⟨W.heap.size+1+1,0,Z⟩),G (V ⟨W.heap.size+1,0,Z⟩)],.func (.func 102) #[] #[G (V ⟨W.heap.size+1+1,0,Z⟩),G (V ⟨W.heap.size,0,Z⟩),G (V ⟨W.heap.size+1,0,Z⟩)]] w2.drew fun e w'=>
       e=N (.bool (mkB (kx,vx) letter (h (p+1)) (h (sec l p))))/\O W.heap.size W w'/\w'.cell? ⟨w.heap.size+1+1+1,0,Z⟩=V (U (V ⟨w.heap.size+1+1,0,Z⟩) n n)/\w'.cell? ⟨w.heap.size+1+1,p,Z⟩=V (.bool (h p))/\w'.frozen? ⟨w.heap.size+1+1,p,Z⟩=ZX):=fun w2 hb2 hP=>by
      have hlt:W.heap.size+1+1<w2.heap.size:=World.block_lt_of_cell? w2 ⟨W.heap.size+1+1,0,Z⟩ hP.holds;have hbd:O W.heap.size W w2.drew:=hb2.drew;have hPd:PartsAt w2.drew (W.heap.size+1+1) W.heap.size (W.heap.size+1) (w.heap.size+1+1) n B p h l:=⟨hP.holds,hP.row,hP.ends,hP.erow,hP.place⟩;have hLd:BoolsV w2.drew (.slice lo letter.length lc) letter:=by rw[<-HLN.out];exact(HL.out.below hi.below).below hbd
      have hsw:w2.drew.heap.size=w2.heap.size:=rfl;have hrl:=hi.row.lt;rw[HLN.out];refine(Rp kx vx lo lc _ _ _ _ n B p letter h l w2.drew h60 hLd hPd (by omega) (by omega) (by omega) (by omega) (by omega) h13 hpr hps).mono fun e w' ⟨he,hb⟩=>?_;have hbf:O W.heap.size W w':=hbd.trans (hb.mono (by omega));exact⟨he,hbf,(hbf.cell (p:=⟨w.heap.size+1+1+1,0,Z⟩) (World.block_lt_of_cell? W _ hch)).trans hch,(hbf.cell (p:=⟨w.heap.size+1+1,p,Z⟩) hrl).trans (hi.row.cell hpn),(hbf.frozen (p:=⟨w.heap.size+1+1,p,Z⟩) hrl).trans (hi.row.frozen p)⟩
     generalize mkB (kx,vx) letter (h (p+1)) (h (sec l p))=tv at HMk HE;have HC2:E (∀w2,O W.heap.size W w2->w2.cell? ⟨w.heap.size+1+1+1,0,Z⟩=V (U (V ⟨w.heap.size+1+1,0,Z⟩) n n)/\w2.cell? ⟨w.heap.size+1,0,Z⟩=V (U lo ln lc)/\w2.cell? ⟨Bx,0,Z⟩=V (.int T kx)/\w2.cell? ⟨Bx,1,Z⟩=V (.int T vx)):=fun w2 hb=>⟨(hb.cell (p:=⟨w.heap.size+1+1+1,0,Z⟩) (World.block_lt_of_cell? W _ hch)).trans hch,(hb.cell (p:=⟨w.heap.size+1,0,Z⟩) (World.block_lt_of_cell? W _ hcl)).trans hcl,(hb.cell (p:=⟨Bx,0,Z⟩) hBxl).trans cx0,(hb.cell (p:=⟨Bx,1,Z⟩) hBxl).trans cx1⟩;clear hb HNx' hp1 hp2 hfa hop h13 hpr hps hi;gi_wp2_with (first|(refine⟨trivial,?_⟩;gi_at_call 64;refine(CallsIn.inRound L (callsIn_wide.2 (hlk _))).mono ?_;rintro e wz ⟨rfl,hwz⟩;obtain rfl:=hwz.symm)|(refine⟨trivial,?_⟩;gi_at_call 71;refine(CallsIn.inRound L (callsIn_wide.2 hpa)).mono ?_;rintro e w2 ⟨rfl,hb2,HP2⟩;obtain⟨d0,d1,d2,d3⟩:=HC2.out w2 hb2;have hma:=HMk.out w2 hb2 HP2.out))
     refine Ts (fun w'=>w'.cell? ⟨w.heap.size+1+1+1,0,Z⟩=V (U (V ⟨w.heap.size+1+1,0,Z⟩) n n)/\w'.cell? ⟨w.heap.size+1,0,Z⟩=V (U lo ln lc)/\w'.cell? ⟨Bx,0,Z⟩=V (.int T kx)/\w'.cell? ⟨Bx,1,Z⟩=V (.int T vx)) hmx ?nd ?nl ?_;case nd=>
      intro i o ho c;have hi:i<9:=(qG.1 ho).1;have hc:i=0\/i=1\/i=2\/i=3\/i=4\/i=5\/i=6\/i=7\/i=8:=by omega
      rcases hc with rfl|rfl|rfl|rfl|rfl|rfl|rfl|rfl|rfl<;>(obtain rfl:=Option.some.inj ho;exact fun h=>by cases h)
     case nl=>exact fun⟨_,_,h⟩=>h
     have hS2:w2.drew.cell? ⟨w.heap.size+1+1+1,0,Z⟩=V (U (V ⟨w.heap.size+1+1,0,Z⟩) n n)/\w2.drew.cell? ⟨w.heap.size+1,0,Z⟩=V (U lo ln lc)/\w2.drew.cell? ⟨Bx,0,Z⟩=V (.int T kx)/\w2.drew.cell? ⟨Bx,1,Z⟩=V (.int T vx):=⟨d0,d1,d2,d3⟩;refine wpAnyH_take (i:=0) (v:=U (V ⟨w.heap.size+1+1,0,Z⟩) n n) rfl (by kernel_rfl) (by kernel_rfl) (by kernel_rfl) (fun _ _ _ h=>h) (Or.inl ⟨by rfl,fun wq hSw=>by obtain⟨q0,q1,q2,q3⟩:=hSw;go_simp⟩) hS2 ?_;simp only[Act.put,List.setIfInBounds_toArray];refine wpAnyH_take (i:=1) (v:=.int T (p:Int)) rfl (by kernel_rfl) (by kernel_rfl) (by kernel_rfl) (fun _ _ _ h=>h) (Or.inl ⟨by rfl,fun wq hSw=>by obtain⟨q0,q1,q2,q3⟩:=hSw;go_simp⟩) hS2 ?_;simp only[Act.put];refine wpAnyH_take (i:=2) (v:=ZW #[ZV T kx,.int T vx]) rfl (by kernel_rfl) (by kernel_rfl) (by kernel_rfl) (fun _ _ _ h=>h) (Or.inl ⟨by rfl,fun wq hSw=>by obtain⟨q0,q1,q2,q3⟩:=hSw;go_simp⟩) hS2 ?_;simp only[Act.put];refine wpAnyH_take (i:=3) (v:=U lo ln lc) rfl (by kernel_rfl) (by kernel_rfl) (by kernel_rfl) (fun _ _ _ h=>h) (Or.inl ⟨by rfl,fun wq hSw=>by obtain⟨q0,q1,q2,q3⟩:=hSw;go_simp⟩) hS2 ?_;simp only[Act.put];refine wpAnyH_take (i:=4) (v:=.func (.func 101) #[] #[G (V ⟨W.heap.size+1+1,0,Z⟩),G (V ⟨W.heap.size+1,0,Z⟩)]) rfl (by kernel_rfl) (by kernel_rfl) (by kernel_rfl) (fun _ _ _ h=>h) (Or.inl ⟨by rfl,fun wq hSw=>by obtain⟨q0,q1,q2,q3⟩:=hSw;go_simp⟩) hS2 ?_;simp only[Act.put];refine wpAnyH_take (i:=5) (v:=.func (.func 102) #[] #[G (V ⟨W.heap.size+1+1,0,Z⟩),G (V ⟨W.heap.size,0,Z⟩),G (V ⟨W.heap.size+1,0,Z⟩)]) rfl (by kernel_rfl) (by kernel_rfl) (by kernel_rfl) (fun _ _ _ h=>h) (Or.inl ⟨by rfl,fun wq hSw=>by obtain⟨q0,q1,q2,q3⟩:=hSw;go_simp⟩) hS2 ?_;simp only[Act.put];refine wpAnyH_all (rs:=[6]) (by kernel_rfl) (by decide) ?_;intro i hi;obtain rfl:i=6:=by simpa using hi
     refine Vu rfl (by rfl) (by go_simp) hma ?_;rintro e w3 ⟨rfl,hb3,g0,g1,g2⟩;obtain⟨e0,e1,e2,e3⟩:=HC2.out w3 hb3;refine⟨_,rfl,⟨e0,e1,e2,e3⟩,?_⟩;simp only[Act.put];refine wpAnyH_take (i:=7) (v:=G (V ⟨w.heap.size+1+1,p,Z⟩)) rfl (by kernel_rfl) (by kernel_rfl) (by kernel_rfl) (fun _ _ _ h=>h) (Or.inl ⟨by rfl,fun wq _=>by go_simp⟩) ⟨e0,e1,e2,e3⟩ ?_;simp only[Act.put];refine wpAnyH_all (rs:=[8]) (by kernel_rfl) (by decide) ?_;intro i hi;obtain rfl:i=8:=by simpa using hi
     have hco:∀z q,z≠w.heap.size+1+1->(w3.setCell ⟨w.heap.size+1+1,p,Z⟩ (.bool tv)).cell? ⟨z,q,Z⟩=w3.cell? ⟨z,q,Z⟩:=fun z q hz=>World.cell?_of_block (w:=w3) (Below.heap_setCell w3 _ _ z hz);refine Vv (w':=w3.setCell ⟨w.heap.size+1+1,p,Z⟩ (.bool tv)) rfl (by rfl) (by go_simp) ⟨⟨(hco _ _ (by omega)).trans e0,(hco _ _ (by omega)).trans e1,(hco _ _ (by omega)).trans e2,(hco _ _ (by omega)).trans e3⟩,?_⟩;refine wpAnyH_done (by kernel_rfl) ?_ _;have hW4:w.heap.size+4<=W.heap.size:=by omega
     refine⟨(RC hb3).trans ((KeepsOthers.setCell _ _ _).from _),⟨(hb3.mono HSt.out.below.size).setCell (by simp;omega) _,(Below.heap_setCell w3 _ _ W1.heap.size (by simp;omega)).trans (hb3.block _ (by omega))⟩,?_⟩;show TrSt w _ _ _ _ n (CB l letter (Be l claim k) (pre++[⟨p,hpn⟩])) _ _;rw[HNX.out,HE.out];exact(HSt.out.later hb3 hW4).put p tv
   case done=>
    rintro D xs W hD rfl hi hK;have hch:=hi.holds;have HT:E (TrSt w (U (V ⟨b,off,Z⟩) n cap) (U (V ⟨B,0,Z⟩) n n) (U aao k ac) (U lo ln lc) n (tru l letter claim) (W1.heap.size+1) W):=hi.congr (fun j hj=>by rw[HAL.out,QN HZ.out h0n HN.out n (qB _) j hj,if_pos (by omega)]);clear hi;gi_wp2
    refine⟨by simp,.inl ⟨_,_,rfl,run_takeDeferred hK,?_⟩⟩;have hb':O (W1.heap.size+1) W (W.putObj D (.deferred Z)):=belowK_b (w:=W1.alloc (C #[U (V ⟨b,off,Z⟩) n cap] 33)) (by simp) W D _ _ hD hK rfl rfl;have t':=HT.out.later hb' (by omega);exact⟨_,results_tmp2 rfl _ _ _,_,rfl,t'.below,t'.row,by omega⟩
   case stop=>
    rintro D c pre W _ _ h _;exact h.elim
open Go.ChangeShapes Go.WideShapes Go.ChangeAt Go.RowKit Go.Deep
def BF(w:J)(v:ZZ)(B:Nat)(av:ZZ)(l:List (Int×Int)):Prop:=
 ∃b off cap,v=U (V ⟨b,off,Z⟩) l.length cap/\b<w.heap.size/\BP w b off l/\w.rowIs B 3 l.length (fun q=>.int T (Ao (l.map Prod.fst) q))/\IntsV w av (AA l)
theorem BF.below{w w':J}{v:ZZ}{B:Nat}{av:ZZ}{l:List (Int×Int)}(h:BF w v B av l)(hb:O w.heap.size w w'):BF w' v B av l:=by
 obtain⟨b,off,cap,h1,h2,h3,h4,h5⟩:=h;exact⟨b,off,cap,h1,qE h2 hb.size,h3.below hb h2,B6 h4 hb,h5.below hb⟩
def B8(l:List (Int×Int))(claim:Int):Prop:=claim<0\/2^(AA l).length<=claim
def IA(l:List (Int×Int))(letter:List Bool)(claim:Int)(w:J)(e:Ending)(w':J):Prop:=
 O w.heap.size w w'/\(B8 l claim->e=N (ZY #[U Z 0 0,.int T 2]))/\(¬B8 l claim->∃bH,e=N (ZY #[U (V ⟨bH,0,Z⟩) l.length l.length,.int T 0])/\w'.rowIs bH 4 l.length (fun j=>.bool (tru l letter claim j)))
theorem Gn(v:ZZ)(B:Nat)(av lv:ZZ)(l:List (Int×Int))(letter:List Bool)(claim:Int)(w:J)(hc:Ad letter.length l=0)(hV:BF w v B av l)(hL:BoolsV w lv letter) :
  I qA 51 #[ZW #[v,U (V ⟨B,0,Z⟩) l.length l.length,av],lv,.int T claim] w (IA l letter claim w):=by
 obtain⟨hp0,hp6,hz,hlf,h6⟩:=CC hc;obtain⟨hne,h60⟩:=Dt hz;rw[qL]at h60;obtain⟨b,off,cap,rfl,hbl,hat,hrow,hav⟩:=hV;obtain⟨aao,ac,rfl,ha⟩:=id hav;obtain⟨lo,lc,rfl,hl⟩:=id hL;by_cases hcl:B8 l claim
 .exact (VW _ _ _ _ aao _ ac claim lo _ lc (V ⟨b,off,Z⟩) (V ⟨B,0,Z⟩) l.length cap l.length l.length rfl rfl rfl rfl h6 w hcl).mono fun e w' ⟨h1,h2⟩=>⟨h2,fun _=>h1,fun h=>absurd hcl h⟩
 .have h0n:0<l.length:=by
   cases l with
   |nil=>exact absurd rfl hne
   |cons _ _=>simp
  refine(VV b off cap l.length B aao _ ac lo _ lc l letter claim w h0n h60 rfl hz hat hbl hrow rfl hav h6 rfl hL hlf (by unfold B8 at hcl;omega) (by unfold B8 at hcl;omega)).mono fun e w' ⟨bH,h1,h2,h3,_⟩=>⟨h2,fun h=>absurd h hcl,fun _=>⟨bH,h1,h3.out⟩⟩
noncomputable def BH(l:List (Int×Int))(letter:List Bool)(claim:Int):Int:=by classical exact if Ad letter.length l=0 then(if B8 l claim then 2 else 0)else Ad letter.length l
noncomputable def DK(l:List (Int×Int))(letter:List Bool)(claim:Int):List Bool:=if BH l letter claim=0 then(List.range l.length).map (tru l letter claim)else []
theorem Hj{l:List (Int×Int)}{letter:List Bool}{claim:Int}(h:Ad letter.length l≠0):BH l letter claim=Ad letter.length l:=by unfold BH;rw[if_neg h]
theorem Fy{l:List (Int×Int)}{letter:List Bool}{claim:Int}(h:Ad letter.length l=0)(h2:B8 l claim):BH l letter claim=2:=by unfold BH;rw[if_pos h,if_pos h2]
theorem EC{l:List (Int×Int)}{letter:List Bool}{claim:Int}(h:Ad letter.length l=0)(h2:¬B8 l claim):BH l letter claim=0:=by unfold BH;rw[if_pos h,if_neg h2]
theorem Ol{w:J}{bH:Nat}{l:List (Int×Int)}{letter:List Bool}{claim:Int}(h:w.rowIs bH 4 l.length (fun j=>.bool (tru l letter claim j))):BoolsV w (U (V ⟨bH,0,Z⟩) l.length l.length) ((List.range l.length).map (tru l letter claim)):=by
 have h2:=IL (w:=w) (B:=bH) (l:=(List.range l.length).map (tru l letter claim)) (by
  rw[qL,q8];exact h.congr fun j hj=>by simp[qC,hj])
 rwa[qL,q8]at h2
theorem Iv(v:ZZ)(l:List (Int×Int))(props:Int)(w:J)(hB:0<w.heap.size)(hT:AH w)(hV:OpsV w v l) :
  I qA 45 #[v,.int T props] w fun e w'=>O w.heap.size w w'/\(Ad props l≠0->e=N (ZY #[ZW #[U Z 0 0,U Z 0 0,U Z 0 0],.int T (Ad props l)]))/\(Ad props l=0->∃B aao ac,e=N (ZY #[ZW #[v,U (V ⟨B,0,Z⟩) l.length l.length,.slice aao (AA l).length ac],.int T 0])/\E (BF w' v B (.slice aao (AA l).length ac) l)):=by
 refine(Iw v l props w hB hT hV).mono fun e w' ⟨h1,h2,h3⟩=>⟨h1,h2,fun hz=>?_⟩;obtain⟨B,av,_,he,hrow,ho⟩:=h3 hz;obtain⟨aao,ac,rfl⟩:=A3 ho;obtain⟨_,_,hze,_,_⟩:=CC hz;obtain⟨hne,_⟩:=Dt hze;obtain⟨b,off,hat⟩:∃b off,(∃cap,v=U (V ⟨b,off,Z⟩) l.length cap)/\b<w'.heap.size/\BP w' b off l:=by
  obtain⟨ao,cap,rfl,_,h⟩:=hV.below h1;obtain⟨b,off,rfl,hlt,hat⟩:=h (by rintro rfl;exact hne rfl);exact⟨b,off,⟨cap,rfl⟩,hlt,hat⟩
 obtain⟨⟨cap,hv⟩,hlt,hat⟩:=hat;exact⟨B,aao,ac,he,b,off,cap,hv,hlt,hat,hrow,Dz ho⟩
theorem Lq (v lv:ZZ) (l:List (Int × Int)) (letter:List Bool) (claim:Int) (w:J) (hB:0 < w.heap.size) (hT:AH w) (hV:OpsV w v l) (hL:BoolsV w lv letter) :
    I qA 32 #[v,lv,.int T claim] w fun e w'=>∃v',e=N (ZY #[v',.int T (BH l letter claim)])/\O w.heap.size w w'/\BoolsV w' v' (DK l letter claim):=by
  have hrd:=Iv v l letter.length w hB hT hV;obtain⟨lo,lc,rfl,hl⟩:=id hL;obtain⟨oo,oc,rfl,_⟩:=id hV;by_cases hc:Ad letter.length l=0
  . have HM:E (∀w1 B aao ac,O w.heap.size w w1->BF w1 (.slice oo l.length oc) B (.slice aao (AA l).length ac) l->∀o,I qA 51 #[ZW #[.slice oo l.length oc,U (V ⟨B,0,Z⟩) l.length l.length,.slice aao (AA l).length ac],.slice lo letter.length lc,.int T claim] (w1.alloc o) fun e w'=>∃ro rn rc,e=N (ZY #[U ro rn rc,.int T (BH l letter claim)])/\O w1.heap.size w1 w'/\E (BoolsV w' (U ro rn rc) (DK l letter claim))):=fun w1 B aao ac hb hW o=>by
      have hA:O w1.heap.size w1 (w1.alloc o):=(qD _ _).alloc (qB _) o;refine(Gn _ B _ _ l letter claim (w1.alloc o) hc (hW.below hA) ((hL.below hb).below hA)).mono fun e w' ⟨h1,h2,h3⟩=>?_;have h1':=hA.trans (h1.mono hA.size);by_cases hn:B8 l claim
      . exact⟨Z,0,0,by rw[Fy hc hn];exact h2 hn,h1',by show BoolsV _ _ _;unfold DK;rw[Fy hc hn];exact⟨Z,0,rfl,fun h=>absurd rfl h⟩⟩
      . obtain⟨bH,he,hr⟩:=h3 hn
        exact⟨_,_,_,by rw[EC hc hn];exact he,h1',by show BoolsV _ _ _;unfold DK;rw[EC hc hn];exact Ol hr⟩
    have hrd2:I qA 45 #[.slice oo l.length oc,.int T (letter.length:Int)] w fun e w'=>O w.heap.size w w'/\∃B aao ac,e=N (ZY #[ZW #[.slice oo l.length oc,U (V ⟨B,0,Z⟩) l.length l.length,.slice aao (AA l).length ac],.int T 0])/\E (BF w' (.slice oo l.length oc) B (.slice aao (AA l).length ac) l):=hrd.mono fun e w' ⟨h1,_,h3⟩=>⟨h1,h3 hc⟩;generalize BH l letter claim=x at *;generalize DK l letter claim=res at *;generalize(AA l).length=an at *;generalize letter.length=ln at *;generalize l.length=n at *;clear hrd hT hV hL hl hc
    go_enter Tryz.func32,Tryz.ntmps32;go_wp2_with (first|(go_at_call 45;refine hrd2.mono ?_;rintro e w1 ⟨hb1,B,aao,ac,rfl,HW⟩;have hme:=HM.out w1 B aao ac hb1 HW.out)|(go_at_call 51;refine(hme _).mono ?_;rintro e w2 ⟨ro,rn,rc,rfl,hb2,HR⟩))
    go_ret2;exact⟨_,rfl,hb1.trans (hb2.mono hb1.size),HR.out⟩
  . have hrd2:I qA 45 #[.slice oo l.length oc,.int T (letter.length:Int)] w fun e w'=>O w.heap.size w w'/\e=N (ZY #[ZW #[U Z 0 0,U Z 0 0,U Z 0 0],.int T (Ad letter.length l)]):=hrd.mono fun e w' ⟨h1,h2,_⟩=>⟨h1,h2 hc⟩
    have HX:E (BH l letter claim=Ad letter.length l/\DK l letter claim=[]):=⟨Hj hc,by unfold DK;rw[if_neg (by rw[Hj hc];exact hc)]⟩;rw[HX.out.1,HX.out.2];generalize Ad letter.length l=x at *;generalize letter.length=ln at *;generalize l.length=n at *;clear hrd hT hV hL hl HX
    go_enter Tryz.func32,Tryz.ntmps32;go_wp2_with (go_at_call 45;refine hrd2.mono ?_;rintro e w1 ⟨hb1,rfl⟩)
    go_ret2;exact⟨_,rfl,by first|exact hb1|exact hb1.alloc hb1.size _,Z,0,rfl,fun h=>absurd rfl h⟩
def C7(k:Int)(a x y:Bool):Bool:=if k=17 then a&&!x else if k=18 then !a&&x else if k=15 then a&&!y else if k=16 then !a&&y else ZX
def Cr(k:Int)(x y z nx:Bool):Bool:=if k=17 then x||z else if k=18 then x&&z else if k=15 then y||(x&&z)else if k=16 then y&&(x||z)else nx
structure PlaceIn(w:J)(b off n cap B bH:Nat)(l:List (Int×Int))(h:Nat->Bool)(p:Nat)(kx:Int):Prop where
 n60:n<=60
 pl:p<n
 one:p+1<n
 two:kx=15\/kx=16->sec l p<n
 kind:w.cell? ⟨b,off+p*2,Z⟩=V (.int T kx)
 bl:b<w.heap.size
 row:∀j,j<n->w.cell? ⟨bH,j,Z⟩=V (.bool (h j))
 hl:bH<w.heap.size
 ends : ∀ j, j < n -> w.cell? ⟨B, j, Z⟩ = V (.int T (Ao (l.map Prod.fst) j))
 el:B<w.heap.size
theorem Vg(b off n cap B bH:Nat)(l:List (Int×Int))(h:Nat->Bool)(p:Nat)(kx:Int)(aao:Option Addr)(an ac:Nat)(w:J)(hI:PlaceIn w b off n cap B bH l h p kx) :
  I qA 76 #[ZW #[U (V ⟨b,off,Z⟩) n cap,U (V ⟨B,0,Z⟩) n n,U aao an ac],.int T (p:Int),U (V ⟨bH,0,Z⟩) n n] w fun e w'=>e=N (.bool (C7 kx (h p) (h (p+1)) (h (sec l p))))/\O w.heap.size w w':=by
 obtain⟨h60,hp,hp1,hp2,ck,hbl,hrow,hhl,hends,hel⟩:=hI;have hA:∀o,O w.heap.size w (w.alloc o):=fun o=>(qD _ _).alloc (qB _) o;have hpa:=fun o=>G1 b off cap n B bH p _ h l aao an ac rfl (w.alloc o) (fun j hj=>((hA o).cell (p:=⟨bH,j,Z⟩) hhl).trans (hrow j hj)) (qE hhl (hA o).size) (fun j hj=>((hA o).cell (p:=⟨B,j,Z⟩) hel).trans (hends j hj)) (qE hel (hA o).size);have hpa:=hpa (C #[U (V ⟨b,off,Z⟩) n cap,U (V ⟨B,0,Z⟩) n n,U aao an ac] 123);simp only[World.size_alloc]at hpa;have HP2:E (∀w2,O (w.heap.size+1) (w.alloc (C #[U (V ⟨b,off,Z⟩) n cap,U (V ⟨B,0,Z⟩) n n,U aao an ac] 123)) w2->O w.heap.size w w2/\w2.cell? ⟨b,off+p*2,Z⟩=V (.int T kx)/\w2.cell? ⟨bH,p,Z⟩=V (.bool (h p))/\w2.cell? ⟨w.heap.size,0,Z⟩=V (U (V ⟨b,off,Z⟩) n cap)):=fun w2 hb=>by
  have hb2:=(hA _).trans (hb.mono (vD _));exact⟨hb2,(hb2.cell (p:=⟨b,_,Z⟩) hbl).trans ck,(hb2.cell (p:=⟨bH,_,Z⟩) hhl).trans (hrow p hp),(hb.cell (p:=⟨w.heap.size,0,Z⟩) (by simp)).trans (by simp[go_sem])⟩
 have HF:E (∀w2 bh bf bp,PartsAt w2 bh bf bp bH n B p h l->I qA 101 #[G (V ⟨bh,0,Z⟩),G (V ⟨bp,0,Z⟩)] w2 fun e w'=>e=N (.bool (h (p+1)))/\w'=w2):=fun w2 bh bf bp hP=>GU bh bp bH n p _ w2 h60 hp1 hP.holds hP.place (hP.row _ hp1);have HS:E ((kx=15\/kx=16)->∀w2 bh bf bp,PartsAt w2 bh bf bp bH n B p h l->I qA 102 #[G (V ⟨bh,0,Z⟩),G (V ⟨bf,0,Z⟩),G (V ⟨bp,0,Z⟩)] w2 fun e w'=>e=N (.bool (h (sec l p)))/\∃r,w'=w2.drewN r):=fun hk w2 bh bf bp hP=>Jd bh bf bp bH n B p (sec l p) _ w2 h60 hp1 (hp2 hk) hP.holds hP.place hP.ends (hP.erow _ hp1) (hP.row _ (hp2 hk));generalize hx:h (p+1)=x at *;generalize hy:h (sec l p)=y at *;generalize hz:h p=z at *;clear hx hy hz hrow hends ck hp2 hA
 by_cases e17:kx=17
 .subst e17;rw[show C7 17 z x y=(z&&!x) by simp[C7]];clear HS;cases z
  all_goals
   go_enter Tryz.func76,Tryz.ntmps76;go_wp2_with (first|(go_at_call 71;refine hpa.mono ?_;rintro e w2 ⟨rfl,hb2,HP⟩;obtain⟨hbw,d0,d1,d2⟩:=HP2.out w2 hb2;have hf:=HF.out w2 _ _ _ HP.out)|(go_at_call 101;refine hf.mono ?_;rintro e w3 ⟨rfl,hw3⟩;obtain rfl:=hw3.symm))
   go_ret;exact⟨by first|rfl|simp,by first|exact hbw|exact below_drewN hbw _⟩
 .by_cases e18:kx=18
  .subst e18;rw[show C7 18 z x y=(!z&&x) by simp[C7]];clear HS;cases z
   all_goals
    go_enter Tryz.func76,Tryz.ntmps76;go_wp2_with (first|(go_at_call 71;refine hpa.mono ?_;rintro e w2 ⟨rfl,hb2,HP⟩;obtain⟨hbw,d0,d1,d2⟩:=HP2.out w2 hb2;have hf:=HF.out w2 _ _ _ HP.out)|(go_at_call 101;refine hf.mono ?_;rintro e w3 ⟨rfl,hw3⟩;obtain rfl:=hw3.symm))
    go_ret;exact⟨by first|rfl|simp,by first|exact hbw|exact below_drewN hbw _⟩
  .by_cases e15:kx=15
   .subst e15;rw[show C7 15 z x y=(z&&!y) by simp[C7]];have HS2:=(show E _ from HS.out (by decide));clear HS;cases z
    all_goals
     go_enter Tryz.func76,Tryz.ntmps76;go_wp2_with (first|(go_at_call 71;refine hpa.mono ?_;rintro e w2 ⟨rfl,hb2,HP⟩;obtain⟨hbw,d0,d1,d2⟩:=HP2.out w2 hb2;have hs:=HS2.out w2 _ _ _ HP.out)|(go_at_call 102;refine hs.mono ?_;rintro e w3 ⟨rfl,r3,rfl⟩))
     go_ret;exact⟨by first|rfl|simp,by first|exact hbw|exact below_drewN hbw _⟩
   .by_cases e16:kx=16
    .subst e16;rw[show C7 16 z x y=(!z&&y) by simp[C7]];have HS2:=(show E _ from HS.out (by decide));clear HS;cases z
     all_goals
      go_enter Tryz.func76,Tryz.ntmps76;go_wp2_with (first|(go_at_call 71;refine hpa.mono ?_;rintro e w2 ⟨rfl,hb2,HP⟩;obtain⟨hbw,d0,d1,d2⟩:=HP2.out w2 hb2;have hs:=HS2.out w2 _ _ _ HP.out)|(go_at_call 102;refine hs.mono ?_;rintro e w3 ⟨rfl,r3,rfl⟩))
      go_ret;exact⟨by first|rfl|simp,by first|exact hbw|exact below_drewN hbw _⟩
    .rw[show C7 kx z x y=ZX by simp[C7,e17,e18,e15,e16]];clear HS;go_enter Tryz.func76,Tryz.ntmps76;go_wp2_with (first|(go_at_call 71;refine hpa.mono ?_;rintro e w2 ⟨rfl,hb2,HP⟩;obtain⟨hbw,d0,d1,d2⟩:=HP2.out w2 hb2))
     go_ret;exact⟨rfl,hbw⟩
theorem Q9(bn bp bN n pl:Nat)(x:Bool)(w:J)(hp:pl<n)(c0:w.cell? ⟨bn,0,Z⟩=V (U (V ⟨bN,0,Z⟩) n n))(c1:w.cell? ⟨bp,0,Z⟩=V (.int T pl))(c2:w.cell? ⟨bN,pl,Z⟩=V (.bool x)) :
  I qA 135 #[G (V ⟨bn,0,Z⟩),G (V ⟨bp,0,Z⟩)] w fun e w'=>e=N (.bool x)/\w'=w:=by
 go_enter Tryz.func135,Tryz.ntmps135;go_wp2_with fail
 go_ret;exact⟨rfl,rfl⟩
def Hp(l:List (Int×Int))(h:Nat->Bool)(p:Nat):Bool:=C7 (l.getD p (0,0)).1 (h p) (h (p+1)) (h (sec l p))
def Cw(l:List (Int×Int))(h:Nat->Bool):Nat->Int
 |0=>0
 |k+1=>Cw l h k+if Hp l h ((AA l).getD k 0).toNat=true then 0 else 2^k
theorem Ly(l:List (Int×Int))(h:Nat->Bool):∀k,0<=Cw l h k/\Cw l h k<2^k:=by
 intro k;induction k with
 |zero=>simp[Cw]
 |succ k ih=>
  have h2:(0:Int)<2^k:=jY (by decide);simp only[Cw];rw[kT];split<;>omega
theorem Sy:∀k,k<6->∀c,c<2^k->bits BinOp.or IntKind.i64 ((c:Nat):Int) (2^k)=((c:Nat):Int)+2^k:=by decide
theorem ML{c:Int}{k:Nat}(hk:k<6)(h0:0<=c)(h1:c<2^k):bits BinOp.or IntKind.i64 c (2^k)=c+2^k:=by
 obtain⟨m,rfl⟩:∃m:Nat,c=m:=⟨c.toNat,by omega⟩;refine Sy k hk m ?_;have e:((2^k:Nat):Int)=2^k:=by simp
 omega
theorem Mb{k:Nat}(hk:k<=6):(2:Int)^k<=64:=by
 have hcase:k=0\/k=1\/k=2\/k=3\/k=4\/k=5\/k=6:=by omega
 rcases hcase with rfl|rfl|rfl|rfl|rfl|rfl|rfl<;>decide
noncomputable def B1(l:List (Int×Int))(letter:List Bool)(claim:Int):Int:=if BH l letter claim=0 then Cw l (tru l letter claim) (AA l).length else 0
theorem MZ{w:J}{b off cap B bH:Nat}{av:ZZ}{l:List (Int×Int)}{h:Nat->Bool}(hW:BF w (U (V ⟨b,off,Z⟩) l.length cap) B av l)(hz:AR (l.map Prod.fst)=0)(hr:w.rowIs bH 4 l.length (fun j=>.bool (h j))){p:Nat}(hp:p<l.length)(hk:Ah (l.getD p (0,0)).1=true):PlaceIn w b off l.length cap B bH l h p (l.getD p (0,0)).1:=by
 obtain⟨b',off',cap',hv,hbl,hat,hrow,_⟩:=hW;injection hv with e1 e2 e3;injection Option.some.inj e1 with e4 e5;subst e4 e5;obtain⟨hne,h60⟩:=Dt hz;rw[qL]at h60;obtain⟨h1,h2⟩:=G0 hz hp;have hk':14<=(l.getD p (0,0)).1/\(l.getD p (0,0)).1<=18:=by simpa[Ah]using hk
 have hpn:1<=pn (l.getD p (0,0)).1:=by
  unfold pn;split
  .omega
  .split
   .omega
   .omega
 exact⟨h60,hp,h1 hpn,fun e=>(h2 (by rcases e with e|e<;>rw[e]<;>rfl)).2,(hat p hp).1,hbl,fun j hj=>hr.cell hj,hr.lt,fun j hj=>hrow.cell hj,hrow.lt⟩
theorem Rf(v lv:ZZ)(l:List (Int×Int))(letter:List Bool)(claim:Int)(w:J)(hB:0<w.heap.size)(hT:AH w)(hV:OpsV w v l)(hL:BoolsV w lv letter) :
  I qA 54 #[v,lv,.int T claim] w fun e w'=>e=N (ZY #[ZV T (B1 l letter claim),.int T (BH l letter claim)])/\O w.heap.size w w':=by
 have hrd:=Iv v l letter.length w hB hT hV;obtain⟨lo,lc,rfl,hl⟩:=id hL;obtain⟨oo,oc,rfl,_⟩:=id hV;by_cases hc:Ad letter.length l=0
 .obtain ⟨_,_,hz,_,h6⟩:=CC hc;have hrd2:I qA 45 #[.slice oo l.length oc,.int T (letter.length:Int)] w fun e w'=>O w.heap.size w w'/\∃B aao ac,e=N (ZY #[ZW #[.slice oo l.length oc,U (V ⟨B,0,Z⟩) l.length l.length,.slice aao (AA l).length ac],.int T 0])/\E (BF w' (.slice oo l.length oc) B (.slice aao (AA l).length ac) l):=hrd.mono fun e w' ⟨h1,_,h3⟩=>⟨h1,h3 hc⟩;have HM:E (∀w1 B aao ac,O w.heap.size w w1->BF w1 (.slice oo l.length oc) B (.slice aao (AA l).length ac) l->I qA 51 #[ZW #[.slice oo l.length oc,U (V ⟨B,0,Z⟩) l.length l.length,.slice aao (AA l).length ac],.slice lo letter.length lc,.int T claim] (w1.alloc (C #[.slice oo l.length oc,U (V ⟨B,0,Z⟩) l.length l.length,.slice aao (AA l).length ac] 123)) fun e w'=>O (w1.heap.size+1) (w1.alloc (C #[.slice oo l.length oc,U (V ⟨B,0,Z⟩) l.length l.length,.slice aao (AA l).length ac] 123)) w'/\(B8 l claim->e=N (ZY #[U Z 0 0,.int T 2]))/\(¬B8 l claim->∃bH,e=N (ZY #[U (V ⟨bH,0,Z⟩) l.length l.length,.int T 0])/\E (w'.rowIs bH 4 l.length (fun j=>.bool (tru l letter claim j))))):=fun w1 B aao ac hb hW=>by
   have hA:∀o,O w1.heap.size w1 (w1.alloc o):=fun o=>(qD _ _).alloc (qB _) o;refine(Gn _ B _ _ l letter claim (w1.alloc _) hc (hW.below (hA _)) ((hL.below hb).below (hA _))).mono fun e w' ⟨h1,h2,h3⟩=>⟨?_,h2,h3⟩;simpa using h1
  by_cases hcl:B8 l claim
  .have htc:BH l letter claim=2:=Fy hc hcl;rw[htc,show B1 l letter claim=0 by unfold B1;rw[htc];rfl];have HM2:E (∀w1 B aao ac,O w.heap.size w w1->BF w1 (.slice oo l.length oc) B (.slice aao (AA l).length ac) l->I qA 51 #[ZW #[.slice oo l.length oc,U (V ⟨B,0,Z⟩) l.length l.length,.slice aao (AA l).length ac],.slice lo letter.length lc,.int T claim] (w1.alloc (C #[.slice oo l.length oc,U (V ⟨B,0,Z⟩) l.length l.length,.slice aao (AA l).length ac] 123)) fun e w'=>e=N (ZY #[U Z 0 0,.int T 2])/\O w1.heap.size w1 w'):=fun w1 B aao ac hb hW=>(HM.out w1 B aao ac hb hW).mono fun e w' ⟨h1,h2,_⟩=>⟨h2 hcl,((qD _ _).alloc (qB _) _).trans (h1.mono (vD _))⟩;generalize(AA l).length=an at *;generalize letter.length=ln at *;generalize l.length=n at *;clear hrd hT hV hL hl hc HM hcl htc hz h6
   go_enter Tryz.func54,Tryz.ntmps54;go_wp2_with (first|(go_at_call 45;refine hrd2.mono ?_;rintro e w1 ⟨hb1,B,aao,ac,rfl,HW⟩;have hme:=HM2.out w1 B aao ac hb1 HW.out)|(go_at_call 51;refine hme.mono ?_;rintro e w2 ⟨rfl,hb2⟩))
   go_ret2;exact⟨rfl,hb1.trans (hb2.mono hb1.size)⟩
  .have htc:BH l letter claim=0:=EC hc hcl;rw[htc,show B1 l letter claim=Cw l (tru l letter claim) (AA l).length by unfold B1;rw[htc];rfl];have HM2:E (∀w1 B aao ac,O w.heap.size w w1->BF w1 (.slice oo l.length oc) B (.slice aao (AA l).length ac) l->I qA 51 #[ZW #[.slice oo l.length oc,U (V ⟨B,0,Z⟩) l.length l.length,.slice aao (AA l).length ac],.slice lo letter.length lc,.int T claim] (w1.alloc (C #[.slice oo l.length oc,U (V ⟨B,0,Z⟩) l.length l.length,.slice aao (AA l).length ac] 123)) fun e w'=>∃bH,e=N (ZY #[U (V ⟨bH,0,Z⟩) l.length l.length,.int T 0])/\O w1.heap.size w1 w'/\w1.heap.size<w'.heap.size/\w'.cell? ⟨w1.heap.size,0,Z⟩=V (.slice oo l.length oc)/\w'.cell? ⟨w1.heap.size,1,Z⟩=V (U (V ⟨B,0,Z⟩) l.length l.length)/\w'.cell? ⟨w1.heap.size,2,Z⟩=V (.slice aao (AA l).length ac)/\E (BF w' (.slice oo l.length oc) B (.slice aao (AA l).length ac) l/\w'.rowIs bH 4 l.length (fun j=>.bool (tru l letter claim j)))):=fun w1 B aao ac hb hW=>(HM.out w1 B aao ac hb hW).mono fun e w' ⟨h1,_,h3⟩=>by
    obtain⟨bH,he,hr⟩:=h3 hcl;have hb':O w1.heap.size w1 w':=((qD _ _).alloc (qB _) _).trans (h1.mono (vD _));refine⟨bH,he,hb',by have:=h1.size;simp at this;omega,(h1.cell (p:=⟨w1.heap.size,0,Z⟩) (qY _)).trans (by simp[go_sem]),(h1.cell (p:=⟨w1.heap.size,1,Z⟩) (qY _)).trans (by simp[go_sem]),(h1.cell (p:=⟨w1.heap.size,2,Z⟩) (qY _)).trans (by simp[go_sem]),hW.below hb',hr.out⟩
   have HWa:E (∀w2 B bH aao ac p,BF w2 (.slice oo l.length oc) B (.slice aao (AA l).length ac) l->w2.rowIs bH 4 l.length (fun j=>.bool (tru l letter claim j))->p<l.length->Ah (l.getD p (0,0)).1=true->I qA 76 #[ZW #[.slice oo l.length oc,U (V ⟨B,0,Z⟩) l.length l.length,.slice aao (AA l).length ac],.int T (p:Int),U (V ⟨bH,0,Z⟩) l.length l.length] w2 fun e w'=>e=N (.bool (Hp l (tru l letter claim) p))/\O w2.heap.size w2 w'):=fun w2 B bH aao ac p hW hr hp hk=>by
    obtain⟨b,off,cap,hv,_⟩:=id hW;injection hv with e1 e2 e3;subst e1 e3;exact Vg b off l.length oc B bH l _ p _ aao _ ac w2 (MZ hW hz hr hp hk)
   have HG:E (∀w2 B aao ac k,BF w2 (.slice oo l.length oc) B (.slice aao (AA l).length ac) l->k<(AA l).length->∃p:Nat,(∃ab aoff,aao=V ⟨ab,aoff,Z⟩/\w2.cell? ⟨ab,aoff+k,Z⟩=V (.int T (p:Int)))/\p<l.length/\Ah (l.getD p (0,0)).1=true/\((AA l).getD k 0).toNat=p):=fun w2 B aao ac k hW hk=>by
    obtain⟨_,_,_,_,_,_,_,ao',ac',hsl,hai⟩:=hW;injection hsl with e1 e2 e3;subst e1;obtain⟨ab,aoff,rfl,habl,haat⟩:=hai (by intro h;rw[h]at hk;simp at hk);obtain⟨p,h1,h2,h3,h4⟩:=GB l l.length k hk;have h1':(AA l).getD k 0=(p:Int):=h1;exact⟨p,⟨ab,aoff,rfl,by rw[haat k hk,h1']⟩,h2,h3,by rw[h1'];rfl⟩
   have HMS:E (∀k,Cw l (tru l letter claim) (k+1)=Cw l (tru l letter claim) k+if Hp l (tru l letter claim) ((AA l).getD k 0).toNat=true then 0 else 2^k):=fun _=>rfl;have HMB:E (∀k,0<=Cw l (tru l letter claim) k/\Cw l (tru l letter claim) k<2^k):=Ly _ _;have HM0:E (Cw l (tru l letter claim) 0=0):=rfl;generalize Cw l (tru l letter claim)=mt at *;generalize hwt:Hp l (tru l letter claim)=wt at *;clear hwt;obtain⟨an,han⟩:∃an,an=(AA l).length:=⟨_,rfl⟩
   rw[<-han]at hrd2 HM2 HWa HG h6⊢;generalize hnn:l.length=n at *;generalize letter.length=ln at *;clear hrd hT hV hL hl hc HM hcl htc hz hnn han
   go_enter Tryz.func54,Tryz.ntmps54;go_wp2_with (first|(go_at_call 45;refine hrd2.mono ?_;rintro e w1 ⟨hb1,B,aao,ac,rfl,HW⟩;have hme:=HM2.out w1 B aao ac hb1 HW.out)|(go_at_call 51;refine hme.mono ?_;rintro e w2 ⟨bH,rfl,hb2,hs2,d0,d1,d2,HW2⟩))
   have hb12:=hb1.trans (hb2.mono hb1.size);clear hrd2 hme HM2 HW;go_loopw [11,37] (fun mv i wr=>∃k:Nat,k<=an/\i=.int T (k:Int)/\mv=.int T (mt k)/\E (O w2.heap.size w2 wr)) (fun _ i _=>an-(intOf i).toNat)
   case atStart=>exact⟨0,qJ _,rfl,by rw[HM0.out],qD _ _⟩
   case round=>
    obtain⟨k,hk,rfl,rfl,HBel⟩:=hrel;have hbel:=HBel.out;have d0':=(hbel.cell (p:=⟨w1.heap.size,0,Z⟩) hs2).trans d0;have d1':=(hbel.cell (p:=⟨w1.heap.size,1,Z⟩) hs2).trans d1;have d2':=(hbel.cell (p:=⟨w1.heap.size,2,Z⟩) hs2).trans d2;by_cases hlt:k<an
    .have hWr:=HW2.out.1.below hbel;obtain⟨p,⟨ab,aoff,rfl,hca⟩,hpn,hpk,hpi⟩:=HG.out wr B aao ac k hWr hlt;have hwa:=HWa.out wr B bH _ ac p hWr (B6 HW2.out.2 hbel) hpn hpk;have HS:=(show E _ from HMS.out k);rw[hpi]at HS;obtain⟨hm0,hm1⟩:=HMB.out k;have hk6:k<6:=by omega
     have hps:=Mb (k:=k) (by omega);have h2k:(0:Int)<2^k:=jY (by decide);have HOr:E (bits BinOp.or IntKind.i64 (mt k) (2^k)=mt k+2^k):=ML hk6 hm0 hm1;generalize wt p=wv at *;clear HWa HG HMS HMB hpi hpk HW2 hWr
     cases wv with
     |true=>
      have HS2:E (mt (k+1)=mt k):=by show _=_;rw[HS.out];simp
      clear HS;go_wp2_with (go_at_call 76;refine hwa.mono ?_;rintro e w3 ⟨rfl,hb3⟩)
      exact⟨⟨k+1,hlt,by first|rfl|simp,by rw[HS2.out],hbel.trans (hb3.mono hbel.size)⟩,by simp[intOf];omega⟩
     |false=>
      have HS2:E (mt (k+1)=mt k+2^k):=by show _=_;rw[HS.out];simp
      clear HS;go_wp2_with (go_at_call 76;refine hwa.mono ?_;rintro e w3 ⟨rfl,hb3⟩)
      exact⟨⟨k+1,hlt,by first|rfl|simp,by rw[HS2.out,<-HOr.out],hbel.trans (hb3.mono hbel.size)⟩,by simp[intOf];omega⟩
    .obtain rfl:k=an:=by omega
     go_wp2_with fail
     go_ret2;exact⟨rfl,hb12.trans (hbel.mono hb12.size)⟩
 .have htc:=Hj (claim:=claim) hc;rw[htc,show B1 l letter claim=0 by unfold B1;rw[htc,if_neg hc]];have hrd2:I qA 45 #[.slice oo l.length oc,.int T (letter.length:Int)] w fun e w'=>O w.heap.size w w'/\e=N (ZY #[ZW #[U Z 0 0,U Z 0 0,U Z 0 0],.int T (Ad letter.length l)]):=hrd.mono fun e w' ⟨h1,h2,_⟩=>⟨h1,h2 hc⟩;generalize Ad letter.length l=x at *;generalize letter.length=ln at *;generalize l.length=n at *;clear hrd hT hV hL hl htc
  go_enter Tryz.func54,Tryz.ntmps54;go_wp2_with (go_at_call 45;refine hrd2.mono ?_;rintro e w1 ⟨hb1,rfl⟩)
  go_ret2;exact⟨rfl,by first|exact hb1|exact hb1.alloc hb1.size _⟩
theorem PH(b off n cap B bH bN:Nat)(l:List (Int×Int))(h g:Nat->Bool)(p:Nat)(kx:Int)(aao:Option Addr)(an ac:Nat)(w:J)(hI:PlaceIn w b off n cap B bH l h p kx)(hN:∀j,j<n->w.cell? ⟨bN,j,Z⟩=V (.bool (g j)))(hNl:bN<w.heap.size) :
  I qA 104 #[ZW #[U (V ⟨b,off,Z⟩) n cap,U (V ⟨B,0,Z⟩) n n,U aao an ac],.int T (p:Int),U (V ⟨bH,0,Z⟩) n n,U (V ⟨bN,0,Z⟩) n n] w fun e w'=>e=N (.bool (Cr kx (h (p+1)) (h (sec l p)) (g p) (g (p+1))))/\O w.heap.size w w':=by
 obtain⟨h60,hp,hp1,hp2,ck,hbl,hrow,hhl,hends,hel⟩:=hI;have hA:O w.heap.size w (((w.alloc (C #[U (V ⟨b,off,Z⟩) n cap,U (V ⟨B,0,Z⟩) n n,U aao an ac] 123)).alloc (C #[ZV T (p:Int)] 3)).alloc (C #[U (V ⟨bN,0,Z⟩) n n] 102)):=(((qD _ _).alloc (qB _) _).alloc (by simp) _).alloc (by simp;omega) _;have hpa:=G1 b off cap n B bH p _ h l aao an ac rfl (((w.alloc (C #[U (V ⟨b,off,Z⟩) n cap,U (V ⟨B,0,Z⟩) n n,U aao an ac] 123)).alloc (C #[ZV T (p:Int)] 3)).alloc (C #[U (V ⟨bN,0,Z⟩) n n] 102)) (fun j hj=>(hA.cell (p:=⟨bH,j,Z⟩) hhl).trans (hrow j hj)) (qE hhl hA.size) (fun j hj=>(hA.cell (p:=⟨B,j,Z⟩) hel).trans (hends j hj)) (qE hel hA.size);simp only[World.size_alloc]at hpa;have HP2:E (∀w2,O (w.heap.size+1+1+1) (((w.alloc (C #[U (V ⟨b,off,Z⟩) n cap,U (V ⟨B,0,Z⟩) n n,U aao an ac] 123)).alloc (C #[ZV T (p:Int)] 3)).alloc (C #[U (V ⟨bN,0,Z⟩) n n] 102)) w2->O w.heap.size w w2/\w2.cell? ⟨b,off+p*2,Z⟩=V (.int T kx)/\w2.cell? ⟨w.heap.size,0,Z⟩=V (U (V ⟨b,off,Z⟩) n cap)/\w2.cell? ⟨w.heap.size,1,Z⟩=V (U (V ⟨B,0,Z⟩) n n)/\w2.cell? ⟨w.heap.size,2,Z⟩=V (U aao an ac)/\w2.cell? ⟨w.heap.size+1,0,Z⟩=V (.int T (p:Int))/\w2.cell? ⟨w.heap.size+1+1,0,Z⟩=V (U (V ⟨bN,0,Z⟩) n n)):=fun w2 hb=>by
  have hb2:=hA.trans (hb.mono (by omega));refine⟨hb2,(hb2.cell (p:=⟨b,_,Z⟩) hbl).trans ck,(hb.cell (p:=⟨w.heap.size,0,Z⟩) (by first|(simp;omega)|simp)).trans (by simp[go_sem]),(hb.cell (p:=⟨w.heap.size,1,Z⟩) (by first|(simp;omega)|simp)).trans (by simp[go_sem]),(hb.cell (p:=⟨w.heap.size,2,Z⟩) (by first|(simp;omega)|simp)).trans (by simp[go_sem]),(hb.cell (p:=⟨w.heap.size+1,0,Z⟩) (by first|(simp;omega)|simp)).trans (by simp[go_sem]),(hb.cell (p:=⟨w.heap.size+1+1,0,Z⟩) (by simp)).trans (by simp[go_sem])⟩
 have HF:E (∀w2 bh bf bp,PartsAt w2 bh bf bp bH n B p h l->∀w3,(∀q,w3.cell? q=w2.cell? q)->I qA 101 #[G (V ⟨bh,0,Z⟩),G (V ⟨bp,0,Z⟩)] w3 fun e w'=>e=N (.bool (h (p+1)))/\w'=w3):=fun w2 bh bf bp hP w3 hc=>GU bh bp bH n p _ w3 h60 hp1 ((hc _).trans hP.holds) ((hc _).trans hP.place) ((hc _).trans (hP.row _ hp1));have HS:E ((kx=15\/kx=16)->∀w2 bh bf bp,PartsAt w2 bh bf bp bH n B p h l->I qA 102 #[G (V ⟨bh,0,Z⟩),G (V ⟨bf,0,Z⟩),G (V ⟨bp,0,Z⟩)] w2 fun e w'=>e=N (.bool (h (sec l p)))/\∃r,w'=w2.drewN r):=fun hk w2 bh bf bp hP=>Jd bh bf bp bH n B p (sec l p) _ w2 h60 hp1 (hp2 hk) hP.holds hP.place hP.ends (hP.erow _ hp1) (hP.row _ (hp2 hk));have HZ:E (∀w2,O w.heap.size w w2->w2.cell? ⟨w.heap.size+1,0,Z⟩=V (.int T (p:Int))->w2.cell? ⟨w.heap.size+1+1,0,Z⟩=V (U (V ⟨bN,0,Z⟩) n n)->∀w3,(∀q,w3.cell? q=w2.cell? q)->I qA 135 #[G (V ⟨w.heap.size+1+1,0,Z⟩),G (V ⟨w.heap.size+1,0,Z⟩)] w3 fun e w'=>e=N (.bool (g p))/\w'=w3):=fun w2 hb c1 c2 w3 hc=>Q9 _ _ bN n p _ w3 hp ((hc _).trans c2) ((hc _).trans c1) ((hc _).trans ((hb.cell (p:=⟨bN,p,Z⟩) hNl).trans (hN p hp)));have HPN:E (∀w2,O w.heap.size w w2->I qA 71 #[ZW #[U (V ⟨b,off,Z⟩) n cap,U (V ⟨B,0,Z⟩) n n,U aao an ac],.int T (p:Int),U (V ⟨bN,0,Z⟩) n n] w2 fun e w'=>e=N (ZY #[.func (.func 101) #[] #[G (V ⟨w2.heap.size+1+1,0,Z⟩),G (V ⟨w2.heap.size+1,0,Z⟩)],.func (.func 102) #[] #[G (V ⟨w2.heap.size+1+1,0,Z⟩),G (V ⟨w2.heap.size,0,Z⟩),G (V ⟨w2.heap.size+1,0,Z⟩)]])/\O w.heap.size w w'/\E (I qA 101 #[G (V ⟨w2.heap.size+1+1,0,Z⟩),G (V ⟨w2.heap.size+1,0,Z⟩)] w' fun e w''=>e=N (.bool (g (p+1)))/\w''=w')):=fun w2 hb=>by
  refine(G1 b off cap n B bN p _ g l aao an ac rfl w2 (fun j hj=>(hb.cell (p:=⟨bN,j,Z⟩) hNl).trans (hN j hj)) (qE hNl hb.size) (fun j hj=>(hb.cell (p:=⟨B,j,Z⟩) hel).trans (hends j hj)) (qE hel hb.size)).mono fun e w' ⟨h1,h2,h3⟩=>⟨h1,hb.trans (h2.mono hb.size),?_⟩;exact GU _ _ bN n p _ w' h60 hp1 h3.out.holds h3.out.place (h3.out.row _ hp1)
 generalize hx:h (p+1)=x at *;generalize hy:h (sec l p)=y at *;generalize hz:g p=z at *;generalize hnx:g (p+1)=nx at *;clear hx hy hz hnx hrow hends ck hp2 hN
 by_cases e17:kx=17
 .subst e17;rw[show Cr 17 x y z nx=(x||z) by simp[Cr]];clear HS HPN;cases x
  all_goals
   go_enter Tryz.func104,Tryz.ntmps104;go_wp2_with (first|(go_at_call 71;refine hpa.mono ?_;clear hpa;rintro e w2 ⟨rfl,hb2,HP⟩;obtain⟨hbw,d0,d1,d2,d3,d4,d5⟩:=HP2.out w2 hb2;have hf:=HF.out w2 _ _ _ HP.out;have hit:=HZ.out w2 hbw d4 d5)|(go_at_call 101;refine(hf _ (by first|exact fun _=>rfl|(intro q;simp))).mono ?_;rintro e w3 ⟨rfl,hw3⟩;obtain rfl:=hw3.symm)|(go_at_call 135;refine(hit _ (by first|exact fun _=>rfl|(intro q;simp))).mono ?_;rintro e w3 ⟨rfl,hw3⟩;obtain rfl:=hw3.symm))
   go_ret;exact⟨by first|rfl|simp,by first|exact hbw|exact below_drewN hbw _⟩
 .by_cases e18:kx=18
  .subst e18;rw[show Cr 18 x y z nx=(x&&z) by simp[Cr]];clear HS HPN;cases x
   all_goals
    go_enter Tryz.func104,Tryz.ntmps104;go_wp2_with (first|(go_at_call 71;refine hpa.mono ?_;clear hpa;rintro e w2 ⟨rfl,hb2,HP⟩;obtain⟨hbw,d0,d1,d2,d3,d4,d5⟩:=HP2.out w2 hb2;have hf:=HF.out w2 _ _ _ HP.out;have hit:=HZ.out w2 hbw d4 d5)|(go_at_call 101;refine(hf _ (by first|exact fun _=>rfl|(intro q;simp))).mono ?_;rintro e w3 ⟨rfl,hw3⟩;obtain rfl:=hw3.symm)|(go_at_call 135;refine(hit _ (by first|exact fun _=>rfl|(intro q;simp))).mono ?_;rintro e w3 ⟨rfl,hw3⟩;obtain rfl:=hw3.symm))
    go_ret;exact⟨by first|rfl|simp,by first|exact hbw|exact below_drewN hbw _⟩
  .by_cases e15:kx=15
   .subst e15;rw[show Cr 15 x y z nx=(y||(x&&z)) by simp[Cr]];have HS2:=(show E _ from HS.out (by decide));clear HS HPN;cases x<;>cases y
    all_goals
     go_enter Tryz.func104,Tryz.ntmps104;go_wp2_with (first|(go_at_call 71;refine hpa.mono ?_;clear hpa;rintro e w2 ⟨rfl,hb2,HP⟩;obtain⟨hbw,d0,d1,d2,d3,d4,d5⟩:=HP2.out w2 hb2;have hf:=HF.out w2 _ _ _ HP.out;have hs:=HS2.out w2 _ _ _ HP.out;have hit:=HZ.out w2 hbw d4 d5)|(go_at_call 101;refine(hf _ (by first|exact fun _=>rfl|(intro q;simp))).mono ?_;rintro e w3 ⟨rfl,hw3⟩;obtain rfl:=hw3.symm)|(go_at_call 102;refine hs.mono ?_;rintro e w3 ⟨rfl,r3,rfl⟩)|(go_at_call 135;refine(hit _ (by first|exact fun _=>rfl|(intro q;simp))).mono ?_;rintro e w3 ⟨rfl,hw3⟩;obtain rfl:=hw3.symm))
     go_ret;exact⟨by first|rfl|simp,by first|exact hbw|exact below_drewN hbw _⟩
   .by_cases e16:kx=16
    .subst e16;rw[show Cr 16 x y z nx=(y&&(x||z)) by simp[Cr]];have HS2:=(show E _ from HS.out (by decide));clear HS HPN;cases x<;>cases y
     all_goals
      go_enter Tryz.func104,Tryz.ntmps104;go_wp2_with (first|(go_at_call 71;refine hpa.mono ?_;clear hpa;rintro e w2 ⟨rfl,hb2,HP⟩;obtain⟨hbw,d0,d1,d2,d3,d4,d5⟩:=HP2.out w2 hb2;have hf:=HF.out w2 _ _ _ HP.out;have hs:=HS2.out w2 _ _ _ HP.out;have hit:=HZ.out w2 hbw d4 d5)|(go_at_call 101;refine(hf _ (by first|exact fun _=>rfl|(intro q;simp))).mono ?_;rintro e w3 ⟨rfl,hw3⟩;obtain rfl:=hw3.symm)|(go_at_call 102;refine hs.mono ?_;rintro e w3 ⟨rfl,r3,rfl⟩)|(go_at_call 135;refine(hit _ (by first|exact fun _=>rfl|(intro q;simp))).mono ?_;rintro e w3 ⟨rfl,hw3⟩;obtain rfl:=hw3.symm))
      go_ret;exact⟨by first|rfl|simp,by first|exact hbw|exact below_drewN hbw _⟩
    .rw[show Cr kx x y z nx=nx by simp[Cr,e17,e18,e15,e16]];clear HS HF HZ;go_enter Tryz.func104,Tryz.ntmps104;go_wp2_with (first|(go_at_call 71;refine hpa.mono ?_;clear hpa;rintro e w2 ⟨rfl,hb2,HP⟩;obtain⟨hbw,d0,d1,d2,d3,d4,d5⟩:=HP2.out w2 hb2;have hpn:=HPN.out w2 hbw)|(go_at_call 71;refine hpn.mono ?_;rintro e w4 ⟨rfl,hb4,HF4⟩)|(go_at_call 101;refine HF4.out.mono ?_;rintro e w5 ⟨rfl,hw5⟩;obtain rfl:=hw5.symm))
     go_ret;exact⟨rfl,hb4⟩
def ES(l:List (Int×Int))(h g:Nat->Bool)(p:Nat):Bool:=Cr (l.getD p (0,0)).1 (h (p+1)) (h (sec l p)) (g p) (g (p+1))
def Fol(l:List (Int×Int))(h g:Nat->Bool):Prop:=∀p,p<l.length->Ah (l.getD p (0,0)).1=true->h p=ES l h g p
noncomputable def Bp(l:List (Int×Int))(now:List Bool)(claim:Int)(next:List Bool)(later:Int):Int:=if now.length≠next.length then 1 else if BH l now claim≠0 then BH l now claim else BH l next later
open Classical in
noncomputable def A9(l:List (Int×Int))(now:List Bool)(claim:Int)(next:List Bool)(later:Int):Bool:=if Bp l now claim next later=0 then decide (Fol l (tru l now claim) (tru l next later))else ZX
theorem GX{l:List (Int×Int)}{now:List Bool}{claim:Int}{next:List Bool}{later:Int}(h:Bp l now claim next later≠0):A9 l now claim next later=false:=by unfold A9;rw[if_neg h]
open Classical in
theorem QJ{l:List (Int×Int)}{now:List Bool}{claim:Int}{next:List Bool}{later:Int}(h:Bp l now claim next later=0)(h2:Fol l (tru l now claim) (tru l next later)):A9 l now claim next later=true:=by unfold A9;rw[if_pos h];exact decide_eq_true h2
open Classical in
theorem QH{l:List (Int×Int)}{now:List Bool}{claim:Int}{next:List Bool}{later:Int}(h2:¬Fol l (tru l now claim) (tru l next later)):A9 l now claim next later=false:=by
 unfold A9;split
 .exact decide_eq_false h2
 .rfl
theorem QK(v:ZZ)(no xo:Option Addr)(nn nc xn xc:Nat)(claim later:Int)(oo:Option Addr)(on oc:Nat)(hv:v=U oo on oc)(w:J)(h:nn≠xn) :
  I qA 75 #[v,U no nn nc,.int T claim,U xo xn xc,.int T later] w fun e w'=>e=N (ZY #[.bool ZX,.int T 1])/\O w.heap.size w w':=by
 subst hv;have hne:¬(nn:Int)=xn:=by omega
 clear h;go_enter Tryz.func75,Tryz.ntmps75;go_wp2_with fail
 go_ret2;exact⟨rfl,qD _ _⟩
theorem QL(oo:Option Addr)(oc:Nat)(l:List (Int×Int))(no xo:Option Addr)(nc xc:Nat)(now next:List Bool)(claim later:Int)(w:J)(hB:0<w.heap.size)(hT:AH w)(hV:OpsV w (.slice oo l.length oc) l)(hL:BoolsV w (.slice no now.length nc) now)(hX:BoolsV w (.slice xo next.length xc) next)(hlen:now.length=next.length) :
  I qA 75 #[.slice oo l.length oc,.slice no now.length nc,.int T claim,.slice xo next.length xc,.int T later] w fun e w'=>e=N (ZY #[.bool (A9 l now claim next later),.int T (Bp l now claim next later)])/\O w.heap.size w w':=by
 have hrd:=Iv _ l now.length w hB hT hV;by_cases hc:Ad now.length l=0
 .obtain ⟨_,_,hz,_,h6⟩:=CC hc;have hcx:Ad next.length l=0:=by rw[<-hlen];exact hc
  have hrd2:I qA 45 #[.slice oo l.length oc,.int T (now.length:Int)] w fun e w'=>O w.heap.size w w'/\∃B aao ac,e=N (ZY #[ZW #[.slice oo l.length oc,U (V ⟨B,0,Z⟩) l.length l.length,.slice aao (AA l).length ac],.int T 0])/\E (BF w' (.slice oo l.length oc) B (.slice aao (AA l).length ac) l):=hrd.mono fun e w' ⟨h1,_,h3⟩=>⟨h1,h3 hc⟩;have HM:E (∀w1 B aao ac,O w.heap.size w w1->BF w1 (.slice oo l.length oc) B (.slice aao (AA l).length ac) l->I qA 51 #[ZW #[.slice oo l.length oc,U (V ⟨B,0,Z⟩) l.length l.length,.slice aao (AA l).length ac],.slice no now.length nc,.int T claim] w1 (IA l now claim w1)):=fun w1 B aao ac hb hW=>Gn _ B _ _ l now claim w1 hc hW (hL.below hb);have HM2:E (∀w1 B aao ac,O w.heap.size w w1->BF w1 (.slice oo l.length oc) B (.slice aao (AA l).length ac) l->I qA 51 #[ZW #[.slice oo l.length oc,U (V ⟨B,0,Z⟩) l.length l.length,.slice aao (AA l).length ac],.slice xo next.length xc,.int T later] w1 (IA l next later w1)):=fun w1 B aao ac hb hW=>Gn _ B _ _ l next later w1 hcx hW (hX.below hb)
  have HWA:E (∀w1 B aao ac,BF w1 (.slice oo l.length oc) B (.slice aao (AA l).length ac) l->∀o,BF (w1.alloc o) (.slice oo l.length oc) B (.slice aao (AA l).length ac) l):=fun w1 B aao ac hW o=>hW.below ((qD _ _).alloc (qB _) o);by_cases hcl:B8 l claim
  .have hft:Bp l now claim next later=2:=by unfold Bp;rw[if_neg (by simpa using hlen),Fy hc hcl,if_pos (by decide)]
   rw[GX (by rw[hft];decide),hft];have HM3:E (∀w1 B aao ac,O w.heap.size w w1->BF w1 (.slice oo l.length oc) B (.slice aao (AA l).length ac) l->∀o,I qA 51 #[ZW #[.slice oo l.length oc,U (V ⟨B,0,Z⟩) l.length l.length,.slice aao (AA l).length ac],.slice no now.length nc,.int T claim] (w1.alloc o) fun e w'=>e=N (ZY #[U Z 0 0,.int T 2])/\O w1.heap.size w1 w'):=fun w1 B aao ac hb hW o=>(HM.out _ B aao ac (hb.alloc hb.size o) (HWA.out _ B aao ac hW o)).mono fun e w' ⟨h1,h2,_⟩=>⟨h2 hcl,((qD _ _).alloc (qB _) o).trans (h1.mono (by simp))⟩;generalize(AA l).length=an at *;rw[<-hlen];generalize now.length=ln at *;generalize l.length=n at *;clear hrd hT hV hL hX hc hcx HM HM2 HWA hcl hft hz h6 hlen
   go_enter Tryz.func75,Tryz.ntmps75;go_wp2_with (first|(go_at_call 45;refine hrd2.mono ?_;rintro e w1 ⟨hb1,B,aao,ac,rfl,HW⟩;have hme:=HM3.out w1 B aao ac hb1 HW.out)|(go_at_call 51;refine(hme _).mono ?_;rintro e w2 ⟨rfl,hb2⟩))
   go_ret2;exact⟨rfl,hb1.trans (hb2.mono hb1.size)⟩
  .have ht1:BH l now claim=0:=EC hc hcl;have hft:Bp l now claim next later=BH l next later:=by unfold Bp;rw[if_neg (by simpa using hlen),ht1];rfl
   have HM3:E (∀w1 B aao ac,O w.heap.size w w1->BF w1 (.slice oo l.length oc) B (.slice aao (AA l).length ac) l->I qA 51 #[ZW #[.slice oo l.length oc,U (V ⟨B,0,Z⟩) l.length l.length,.slice aao (AA l).length ac],.slice no now.length nc,.int T claim] (w1.alloc (C #[.slice oo l.length oc,U (V ⟨B,0,Z⟩) l.length l.length,.slice aao (AA l).length ac] 123)) fun e w'=>∃bH,e=N (ZY #[U (V ⟨bH,0,Z⟩) l.length l.length,.int T 0])/\O w1.heap.size w1 w'/\w1.heap.size<w'.heap.size/\w'.cell? ⟨w1.heap.size,0,Z⟩=V (.slice oo l.length oc)/\w'.cell? ⟨w1.heap.size,1,Z⟩=V (U (V ⟨B,0,Z⟩) l.length l.length)/\w'.cell? ⟨w1.heap.size,2,Z⟩=V (.slice aao (AA l).length ac)/\E (BF w' (.slice oo l.length oc) B (.slice aao (AA l).length ac) l/\w'.rowIs bH 4 l.length (fun j=>.bool (tru l now claim j)))):=fun w1 B aao ac hb hW=>(HM.out _ B aao ac (hb.alloc hb.size _) (HWA.out _ B aao ac hW _)).mono fun e w' ⟨h1,_,h3⟩=>by
    obtain⟨bH,he,hr⟩:=h3 hcl;have h1':O (w1.heap.size+1) (w1.alloc (C #[.slice oo l.length oc,U (V ⟨B,0,Z⟩) l.length l.length,.slice aao (AA l).length ac] 123)) w':=by simpa using h1
    have hb':O w1.heap.size w1 w':=((qD _ _).alloc (qB _) _).trans (h1'.mono (vD _));refine⟨bH,he,hb',by have:=h1'.size;simp at this;omega,(h1'.cell (p:=⟨w1.heap.size,0,Z⟩) (qY _)).trans (by simp[go_sem]),(h1'.cell (p:=⟨w1.heap.size,1,Z⟩) (qY _)).trans (by simp[go_sem]),(h1'.cell (p:=⟨w1.heap.size,2,Z⟩) (qY _)).trans (by simp[go_sem]),hW.below hb',hr⟩
   by_cases hcl2:B8 l later
   .have hft2:Bp l now claim next later=2:=by rw[hft,Fy hcx hcl2]
    rw[GX (by rw[hft2];decide),hft2];have HM4:E (∀w1 B aao ac,O w.heap.size w w1->BF w1 (.slice oo l.length oc) B (.slice aao (AA l).length ac) l->I qA 51 #[ZW #[.slice oo l.length oc,U (V ⟨B,0,Z⟩) l.length l.length,.slice aao (AA l).length ac],.slice xo next.length xc,.int T later] w1 fun e w'=>e=N (ZY #[U Z 0 0,.int T 2])/\O w1.heap.size w1 w'):=fun w1 B aao ac hb hW=>(HM2.out _ B aao ac hb hW).mono fun e w' ⟨h1,h2,_⟩=>⟨h2 hcl2,h1⟩;generalize(AA l).length=an at *;rw[<-hlen]at HM4⊢;generalize now.length=ln at *;generalize hnn:l.length=n at *;clear hrd hT hV hL hX hc hcx HM HM2 HWA hcl hcl2 hft hft2 ht1 hz h6 hlen hnn
    go_enter Tryz.func75,Tryz.ntmps75;go_wp2_with (first|(go_at_call 45;refine hrd2.mono ?_;rintro e w1 ⟨hb1,B,aao,ac,rfl,HW⟩;have hme:=HM3.out w1 B aao ac hb1 HW.out)|(go_at_call 51;refine hme.mono ?_;clear hme;rintro e w2 ⟨bH,rfl,hb2,hs2,d0,d1,d2,HW2⟩;have hb12:=hb1.trans (hb2.mono hb1.size);have hme2:=HM4.out w2 B aao ac hb12 HW2.out.1)|(go_at_call 51;refine hme2.mono ?_;rintro e w3 ⟨rfl,hb3⟩))
    go_ret2;exact⟨rfl,hb12.trans (hb3.mono hb12.size)⟩
   .have hft2:Bp l now claim next later=0:=by rw[hft,EC hcx hcl2]
    have HM4:E (∀w1 B aao ac,O w.heap.size w w1->BF w1 (.slice oo l.length oc) B (.slice aao (AA l).length ac) l->I qA 51 #[ZW #[.slice oo l.length oc,U (V ⟨B,0,Z⟩) l.length l.length,.slice aao (AA l).length ac],.slice xo next.length xc,.int T later] w1 fun e w'=>∃bN,e=N (ZY #[U (V ⟨bN,0,Z⟩) l.length l.length,.int T 0])/\O w1.heap.size w1 w'/\E (w'.rowIs bN 4 l.length (fun j=>.bool (tru l next later j)))):=fun w1 B aao ac hb hW=>(HM2.out _ B aao ac hb hW).mono fun e w' ⟨h1,_,h3⟩=>by
     obtain⟨bN,he,hr⟩:=h3 hcl2;exact⟨bN,he,h1,hr⟩
    have HYes:E (Fol l (tru l now claim) (tru l next later)->A9 l now claim next later=true):=QJ hft2;have HNot:E (¬Fol l (tru l now claim) (tru l next later)->A9 l now claim next later=ZX):=QH;have HFol:E (Fol l (tru l now claim) (tru l next later)↔∀p,p<l.length->Ah (l.getD p (0,0)).1=true->tru l now claim p=ES l (tru l now claim) (tru l next later) p):=Iff.rfl;have HCo:E (∀w2 B bH bN aao ac p,BF w2 (.slice oo l.length oc) B (.slice aao (AA l).length ac) l->w2.rowIs bH 4 l.length (fun j=>.bool (tru l now claim j))->w2.rowIs bN 4 l.length (fun j=>.bool (tru l next later j))->p<l.length->Ah (l.getD p (0,0)).1=true->I qA 104 #[ZW #[.slice oo l.length oc,U (V ⟨B,0,Z⟩) l.length l.length,.slice aao (AA l).length ac],.int T (p:Int),U (V ⟨bH,0,Z⟩) l.length l.length,U (V ⟨bN,0,Z⟩) l.length l.length] w2 fun e w'=>e=N (.bool (ES l (tru l now claim) (tru l next later) p))/\O w2.heap.size w2 w'):=fun w2 B bH bN aao ac p hW hr hr2 hp hk=>by
     obtain⟨b,off,cap,hv,_⟩:=id hW;injection hv with e1 e2 e3;subst e1 e3;exact PH b off l.length oc B bH bN l _ _ p _ aao _ ac w2 (MZ hW hz hr hp hk) (fun j hj=>hr2.cell hj) hr2.lt
    have HG:E (∀w2 B aao ac k,BF w2 (.slice oo l.length oc) B (.slice aao (AA l).length ac) l->k<(AA l).length->∃p:Nat,(∃ab aoff,aao=V ⟨ab,aoff,Z⟩/\ab<w2.heap.size/\w2.cell? ⟨ab,aoff+k,Z⟩=V (.int T (p:Int)))/\p<l.length/\Ah (l.getD p (0,0)).1=true/\(AN l p).length=k):=fun w2 B aao ac k hW hk=>by
     obtain⟨_,_,_,_,_,_,_,ao',ac',hsl,hai⟩:=hW;injection hsl with e1 e2 e3;subst e1;obtain⟨ab,aoff,rfl,habl,haat⟩:=hai (by intro h;rw[h]at hk;simp at hk);obtain⟨p,h1,h2,h3,h4⟩:=GB l l.length k hk;have h1':(AA l).getD k 0=(p:Int):=h1;exact⟨p,⟨ab,aoff,rfl,habl,by rw[haat k hk,h1']⟩,h2,h3,h4⟩
    have HLt:E (∀p,p<l.length->Ah (l.getD p (0,0)).1=true->(AN l p).length<(AA l).length):=fun p hp hk=>EO l hp hk;have HUq:E (∀p q,Ah (l.getD p (0,0)).1=true->Ah (l.getD q (0,0)).1=true->(AN l p).length=(AN l q).length->p=q):=fun p q h1 h2 he=>by
     rcases Nat.lt_trichotomy p q with h|h|h
     .have:=EO l h h1;omega
     .exact h
     .have:=EO l h h2;omega
    rw[hft2];generalize A9 l now claim next later=fr at *;generalize ES l (tru l now claim) (tru l next later)=cm at *;generalize Fol l (tru l now claim) (tru l next later)=FP at *;generalize tru l now claim=tn at *;generalize tru l next later=tx at *;obtain⟨an,han⟩:∃an,an=(AA l).length:=⟨_,rfl⟩
    rw[<-han]at hrd2 HM3 HM4 HCo HG HLt h6;rw[<-hlen]at HM4⊢;generalize now.length=ln at *;generalize hnn:l.length=n at *;clear hrd hT hV hL hX hc hcx HM HM2 HWA hcl hcl2 hft hft2 ht1 hz hlen hnn han
    go_enter Tryz.func75,Tryz.ntmps75;go_wp2_with (first|(go_at_call 45;refine hrd2.mono ?_;rintro e w1 ⟨hb1,B,aao,ac,rfl,HW⟩;have hme:=HM3.out w1 B aao ac hb1 HW.out)|(go_at_call 51;refine hme.mono ?_;clear hme;rintro e w2 ⟨bH,rfl,hb2,hs2,d0,d1,d2,HW2⟩;have hb12:=hb1.trans (hb2.mono hb1.size);have hme2:=HM4.out w2 B aao ac hb12 HW2.out.1)|(go_at_call 51;refine hme2.mono ?_;clear hme2;rintro e w3 ⟨bN,rfl,hb3,HN3⟩;have g0:=(hb3.cell (p:=⟨w1.heap.size,0,Z⟩) hs2).trans d0;have g1:=(hb3.cell (p:=⟨w1.heap.size,1,Z⟩) hs2).trans d1;have g2:=(hb3.cell (p:=⟨w1.heap.size,2,Z⟩) hs2).trans d2))
    have hb13:=hb12.trans (hb3.mono hb12.size);have hs3:=qE hs2 hb3.size;have HW3:E (BF w3 (U oo n oc) B (U aao an ac) l/\w3.rowIs bH 4 n (fun j=>.bool (tn j))):=⟨HW2.out.1.below hb3,B6 HW2.out.2 hb3⟩;clear hrd2 HM3 HM4 HW HW2 d0 d1 d2;go_loopw [56] (fun i wr=>∃k:Nat,k<=an/\i=.int T (k:Int)/\E (∀p,p<n->Ah (l.getD p (0,0)).1=true->(AN l p).length<k->tn p=cm p)/\E (O w3.heap.size w3 wr)) (fun i _=>an-(intOf i).toNat)
    case atStart=>exact⟨0,qJ _,rfl,fun p _ _ h=>absurd h (Nat.not_lt_zero _),qD _ _⟩
    case round=>
     obtain⟨k,hk,rfl,HAll,HBel⟩:=hrel;have hbel:=HBel.out;by_cases hlt:k<an
     .have hWr:=HW3.out.1.below hbel;obtain⟨p,⟨ab,aoff,rfl,habl,hca⟩,hpn,hpk,hpi⟩:=HG.out wr B aao ac k hWr hlt;have hco:=HCo.out;have HSt:E (∀w',O wr.heap.size wr w'->w'.cell? ⟨w1.heap.size,0,Z⟩=V (U oo n oc)/\w'.cell? ⟨w1.heap.size,1,Z⟩=V (U (V ⟨B,0,Z⟩) n n)/\w'.cell? ⟨w1.heap.size,2,Z⟩=V (U (V ⟨ab,aoff,Z⟩) an ac)/\w'.cell? ⟨bH,p,Z⟩=V (.bool (tn p))/\O wr.heap.size wr w'):=fun w' hb=>by
       have hbw:=hbel.trans (hb.mono hbel.size);have hr:=B6 HW3.out.2 hbw;exact⟨(hbw.cell (p:=⟨w1.heap.size,0,Z⟩) hs3).trans g0,(hbw.cell (p:=⟨w1.heap.size,1,Z⟩) hs3).trans g1,(hbw.cell (p:=⟨w1.heap.size,2,Z⟩) hs3).trans g2,hr.cell hpn,hb⟩
      have hcc:=fun w' (hb:O wr.heap.size wr w')=>HCo.out w' B bH bN _ ac p (hWr.below hb) (B6 (B6 HW3.out.2 hbel) hb) (B6 (B6 HN3.out hbel) hb) hpn hpk;have hS:=HSt.out;have hB0:O wr.heap.size wr wr:=qD _ _;have HNext:E (tn p=cm p->∀q,q<n->Ah (l.getD q (0,0)).1=true->(AN l q).length<k+1->tn q=cm q):=fun he q hq hqk hql=>by
       by_cases h:(AN l q).length<k
       .exact HAll.out q hq hqk h
       .have hqp:q=p:=HUq.out q p hqk hpk (by omega);rw[hqp];exact he
      have HBad:E (tn p≠cm p->fr=ZX):=fun h=>HNot.out fun hf=>h (HFol.out.1 hf p hpn hpk);have hp0:(0:Int)<=(p:Int):=Int.natCast_nonneg _;have hpI:(p:Int)<(n:Int):=by omega
      generalize tn p=tv at *;generalize cm p=cv at *;clear HG HCo HAll HNot HYes HFol HLt HUq hco HSt hWr hpk hpi
      by_cases htv:tv=cv
      .have HNx:=(show E _ from HNext.out htv);subst htv;clear HNext HBad;go_wp2_with fail
       go_region_held3 (fun w'=>w'.cell? ⟨w1.heap.size,0,Z⟩=V (U oo n oc)/\w'.cell? ⟨w1.heap.size,1,Z⟩=V (U (V ⟨B,0,Z⟩) n n)/\w'.cell? ⟨w1.heap.size,2,Z⟩=V (U (V ⟨ab,aoff,Z⟩) an ac)/\w'.cell? ⟨bH,p,Z⟩=V (.bool tv)/\O wr.heap.size wr w')
        (exact hS _ (by first|exact hB0|exact hB0.drew|exact hB0.drew.trans hb4))
        (first|(go_at_call 104;refine(hcc _ hB0.drew).mono ?_;rintro e w4 ⟨rfl,hb4⟩))
       go_wp2_with fail
       have hbf:=hbel.trans ((hB0.drew.trans hb4).mono hbel.size);exact⟨⟨k+1,hlt,by first|rfl|simp,HNx.out,hbf⟩,by simp[intOf];omega⟩
      .have HF:=(show E _ from HBad.out htv);clear HNext HBad;cases tv<;>cases cv
       .exact absurd rfl htv
       .go_wp2_with fail
        go_region_held3 (fun w'=>w'.cell? ⟨w1.heap.size,0,Z⟩=V (U oo n oc)/\w'.cell? ⟨w1.heap.size,1,Z⟩=V (U (V ⟨B,0,Z⟩) n n)/\w'.cell? ⟨w1.heap.size,2,Z⟩=V (U (V ⟨ab,aoff,Z⟩) an ac)/\w'.cell? ⟨bH,p,Z⟩=V (.bool ZX)/\O wr.heap.size wr w')
         (exact hS _ (by first|exact hB0|exact hB0.drew|exact hB0.drew.trans hb4))
         (first|(go_at_call 104;refine(hcc _ hB0.drew).mono ?_;rintro e w4 ⟨rfl,hb4⟩))
        go_wp2_with fail
        have hbf:=hbel.trans ((hB0.drew.trans hb4).mono hbel.size);go_ret2;rw[HF.out];exact⟨rfl,hb13.trans (hbf.mono hb13.size)⟩
       .go_wp2_with fail
        go_region_held3 (fun w'=>w'.cell? ⟨w1.heap.size,0,Z⟩=V (U oo n oc)/\w'.cell? ⟨w1.heap.size,1,Z⟩=V (U (V ⟨B,0,Z⟩) n n)/\w'.cell? ⟨w1.heap.size,2,Z⟩=V (U (V ⟨ab,aoff,Z⟩) an ac)/\w'.cell? ⟨bH,p,Z⟩=V (.bool true)/\O wr.heap.size wr w')
         (exact hS _ (by first|exact hB0|exact hB0.drew|exact hB0.drew.trans hb4))
         (first|(go_at_call 104;refine(hcc _ hB0.drew).mono ?_;rintro e w4 ⟨rfl,hb4⟩))
        go_wp2_with fail
        have hbf:=hbel.trans ((hB0.drew.trans hb4).mono hbel.size);go_ret2;rw[HF.out];exact⟨rfl,hb13.trans (hbf.mono hb13.size)⟩
       .exact absurd rfl htv
     .obtain rfl:k=an:=by omega
      have HFr:E (fr=true):=HYes.out (HFol.out.2 fun p hp hpk=>HAll.out p hp hpk (HLt.out p hp hpk));clear HG HCo HAll HNot HYes HFol HLt HUq;go_wp2_with fail
      go_ret2;rw[HFr.out];exact⟨rfl,hb13.trans (hbel.mono hb13.size)⟩
 .have hft:Bp l now claim next later=Ad now.length l:=by unfold Bp;rw[if_neg (by simpa using hlen),Hj hc,if_pos hc]
  rw[GX (by rw[hft];exact hc),hft];have hrd2:I qA 45 #[.slice oo l.length oc,.int T (now.length:Int)] w fun e w'=>O w.heap.size w w'/\e=N (ZY #[ZW #[U Z 0 0,U Z 0 0,U Z 0 0],.int T (Ad now.length l)]):=hrd.mono fun e w' ⟨h1,h2,_⟩=>⟨h1,h2 hc⟩;rw[<-hlen];generalize Ad now.length l=x at *;generalize now.length=ln at *;generalize l.length=n at *;clear hrd hT hV hL hX hft hlen
  go_enter Tryz.func75,Tryz.ntmps75;go_wp2_with (go_at_call 45;refine hrd2.mono ?_;rintro e w1 ⟨hb1,rfl⟩)
  go_ret2;exact⟨rfl,by first|exact hb1|exact hb1.alloc hb1.size _⟩
theorem Rc(v nv xv:ZZ)(l:List (Int×Int))(now next:List Bool)(claim later:Int)(w:J)(hB:0<w.heap.size)(hT:AH w)(hV:OpsV w v l)(hL:BoolsV w nv now)(hX:BoolsV w xv next) :
  I qA 75 #[v,nv,.int T claim,xv,.int T later] w fun e w'=>e=N (ZY #[.bool (A9 l now claim next later),.int T (Bp l now claim next later)])/\O w.heap.size w w':=by
 obtain⟨oo,oc,rfl,_⟩:=id hV;obtain⟨no,nc,rfl,_⟩:=id hL;obtain⟨xo,xc,rfl,_⟩:=id hX;by_cases hlen:now.length=next.length
 .exact QL oo oc l no xo nc xc now next claim later w hB hT hV hL hX hlen
 .have hf:Bp l now claim next later=1:=by unfold Bp;rw[if_pos hlen]
  rw[GX (by rw[hf];decide),hf];exact QK _ no xo _ nc _ xc claim later oo l.length oc rfl w hlen
def DB(l:List (Int×Int))(p:Nat):Nat:=if(l.getD p (0,0)).1=14 then p+1 else p
def CF(l:List (Int×Int))(g:Nat->Bool):Nat->Int
 |0=>0
 |k+1=>CF l g k+if g (DB l ((AA l).getD k 0).toNat)=true then 2^k else 0
def Ee(l:List (Int×Int))(g:Nat->Bool):Int:=CF l g (AA l).length
theorem Hb(l:List (Int×Int))(g:Nat->Bool):∀k,0<=CF l g k/\CF l g k<2^k:=by
 intro k;induction k with
 |zero=>simp[CF]
 |succ k ih=>
  have h2:(0:Int)<2^k:=jY (by decide);rw[CF,kT];split<;>omega
theorem ND{l:List (Int×Int)}{g g':Nat->Bool}:∀{k:Nat},CF l g k=CF l g' k->∀j,j<k->g (DB l ((AA l).getD j 0).toNat)=g' (DB l ((AA l).getD j 0).toNat)
 |0,_,j,hj=>by omega
 |k+1,h,j,hj=>by
  obtain⟨a0,a1⟩:=Hb l g k;obtain⟨b0,b1⟩:=Hb l g' k;have h2:(0:Int)<2^k:=jY (by decide);rw[CF,CF]at h;rcases(show j<k\/j=k by omega)with h3|h3
  .refine ND (k:=k) ?_ j h3;split at h<;>split at h<;>omega
  .subst h3;generalize g (DB l ((AA l).getD j 0).toNat)=x at h⊢;generalize g' (DB l ((AA l).getD j 0).toNat)=y at h⊢;cases x<;>cases y
   .rfl
   .rw[if_neg (by simp),if_pos rfl]at h;omega
   .rw[if_pos rfl,if_neg (by simp)]at h;omega
   .rfl
theorem OC(l:List (Int×Int)):∀(d n:Nat),∃r,AN l (n+d)=AN l n++r:=by
 intro d;induction d with
 |zero=>exact fun n=>⟨[],by simp⟩
 |succ d ih=>
  intro n;obtain⟨r,hr⟩:=ih n;refine⟨r++(if Ah (l.getD (n+d) (0,0)).1=true then [((n+d:Nat):Int)]else []),?_⟩;rw[show n+(d+1)=(n+d)+1 by omega,AN,hr,q7]
theorem OD{l:List (Int×Int)}{p:Nat}(hp:p<l.length)(hb:Ah (l.getD p (0,0)).1=true):(AN l p).length<(AA l).length/\(AA l).getD (AN l p).length 0=(p:Int):=by
 have h1:=EO l hp hb;refine⟨h1,?_⟩;obtain⟨r,hr⟩:=OC l (l.length-(p+1)) (p+1);rw[show p+1+(l.length-(p+1))=l.length by omega,GC hb]at hr;unfold AA;rw[hr,q7];simp[qC]
theorem QM{l:List (Int×Int)}{h g g':Nat->Bool}(e:Ee l g=Ee l g'):Fol l h g↔Fol l h g':=by
 have key:∀p,p<l.length->Ah (l.getD p (0,0)).1=true->ES l h g p=ES l h g' p:=by
  intro p hp hb;obtain⟨h1,h2⟩:=OD hp hb;have h3:=ND e (AN l p).length h1;rw[h2]at h3;simp only[Int.toNat_natCast]at h3;unfold ES Cr;unfold DB at h3;have hk:14<=(l.getD p (0,0)).1/\(l.getD p (0,0)).1<=18:=by simpa[Ah]using hb
  by_cases h14:(l.getD p (0,0)).1=14
  .rw[if_pos h14]at h3;rw[h14,h3];simp
  .rw[if_neg h14]at h3;rw[h3];have:(l.getD p (0,0)).1=15\/(l.getD p (0,0)).1=16\/(l.getD p (0,0)).1=17\/(l.getD p (0,0)).1=18:=by omega
   rcases this with h5|h5|h5|h5<;>rw[h5]<;>simp
 refine⟨fun H p hp hb=>?_,fun H p hp hb=>?_⟩
 .rw[H p hp hb,key p hp hb]
 .rw[H p hp hb,key p hp hb]
theorem Il:(qA.info? 75).map (fun i=>(i.zero,i.size,i.bytes))=V (V (ZW #[ZV T 0,.int T 0]),2,16):=by kernel_rfl
def SpO(w:J)(base:Nat)(v:ZZ)(l:List (Int×Int)):Prop:=w.ownsRow base 75 2 v l.length (flat l)
theorem SpO.nil(w:J)(base:Nat):SpO w base (U Z 0 0) []:=World.ownsRow_nil _ _ _ _
theorem SpO.later{w w':J}{base B:Nat}{v:ZZ}{l:List (Int×Int)}(h:SpO w base v l)(hb:O B w w')(hB:w.heap.size<=B):SpO w' base v l:=Ar h hb hB
theorem SpO.shape{w:J}{base:Nat}{v:ZZ}{l:List (Int×Int)}(h:SpO w base v l):∃ao cap,v=.slice ao l.length cap:=A3 h
def SpV(w:J)(v:ZZ)(l:List (Int×Int)):Prop:=∃ao cap,v=.slice ao l.length cap/\(l≠[]->∃b off,ao=V ⟨b,off,Z⟩/\b<w.heap.size/\BP w b off l)
theorem SpV.nil(w:J):SpV w (U Z 0 0) []:=⟨Z,0,rfl,fun h=>absurd rfl h⟩
theorem SpV.below{w w':J}{v:ZZ}{l:List (Int×Int)}(h:SpV w v l)(hb:O w.heap.size w w'):SpV w' v l:=by
 obtain⟨ao,cap,rfl,h⟩:=h;refine⟨ao,cap,rfl,fun hne=>?_⟩;obtain⟨b,off,rfl,hlt,hat⟩:=h hne;exact⟨b,off,rfl,qE hlt hb.size,fun i hi=>⟨(hb.cell (p:=⟨b,_,Z⟩) hlt).trans (hat i hi).1,(hb.cell (p:=⟨b,_,Z⟩) hlt).trans (hat i hi).2⟩⟩
theorem SpO.v{w:J}{base:Nat}{v:ZZ}{l:List (Int×Int)}(h:SpO w base v l):SpV w v l:=by
 rcases h.2 with⟨rfl,h0⟩|⟨g,cap,cur,rfl,hb,hg,hnc,hcm,hcs,htake⟩
 .have:l=[]:=by simpa using h0
  subst this;exact SpV.nil w
 .refine ⟨_,cap,rfl,fun _=>⟨g,0,rfl,(qG.1 hg).1,fun i hi=>?_⟩⟩;obtain⟨f0,f1⟩:=E2 l i hi;rw[World.ownsRow.cellAt h _ (by omega),World.ownsRow.cellAt h _ (by omega)];simpa using⟨f0,f1⟩
section
variable{W:J}
theorem Mf{ops:Array Oper}{rest:List Oper}{o:Oper}{a:Act}{Q:Exit->Act->J->Prop}(y z:Int)(hgd:o.guard=Z)(s x:Operand)
  (ho:o.op=.call { callee:=.builtin .append,args:=#[s,x],argTypes:=#[37,37]})
  (base n cap:Nat) (vo:Option Addr) (l:List (Int×Int)) (hl:l.length=n) (hs:a.eval s=U vo n cap) (hown:SpO W base (U vo n cap) l) (hx:a.eval x=U (V ⟨W.heap.size,0,Z⟩) 1 1)
  (hsz:(n+1)*16<=140737488355328) (hbase:base<=W.heap.size)
  (h:∀vo' cap' w',SpO w' base (.slice vo' (n+1) cap') (l++[(y,z)])->O base W w'->(W.alloc (C #[ZV T y,.int T z] 75)).grownBy w' (Value.slice vo n cap).ownBlock->wpList qA ops Q rest (a.put o.dst (.slice vo' (n+1) cap')) w'):wpList qA ops Q (o::rest) a (W.alloc (C #[ZV T y,.int T z] 75)):=by
 subst hl;obtain⟨i0,hi,hz0,hz1,hz2⟩:=info_parts Il;have hown':W.ownsRow base 75 2 (.slice vo l.length cap) l.length (flat l):=hown;refine wpList_append_own _ hgd s x 37 ho base 75 i0 (ZW #[ZV T 0,.int T 0]) 2 16 Tryz.underlying37 hi hz0 hz1 hz2 rfl (by decide) (.slice vo l.length cap) l.length (flat l) hs (hown'.alloc _) ⟨W.heap.size,0,Z⟩ 1 1 [.int T y,.int T z] hx rfl (C9 _ _ _ _) (by intro u hu;simp at hu;rcases hu with rfl|rfl<;>rfl) (by unfold maxLen;omega) hsz (qI hbase (by simp)) ?_;intro v' w4 hown' hgrow _;obtain⟨a4,c4,rfl⟩:=A3 hown';refine h a4 c4 w4 ?_ (((qD base W).alloc hbase _).grown hgrow (qI hbase (by simp)) (fun q hq=>(World.ownsRow.lt hown q hq).1)) hgrow;unfold SpO;rw[Fb,List.length_append];exact hown'
end
open Go.ChangeShapes Go.WideShapes Go.ChangeAt Go.RowKit Go.Deep Go.Maps
open Terms Tm
theorem NT(x:Int)(w:J) :
  I qA 97 #[ZV T x] w fun e w'=>e=N (.bool (decide (¬(-1000000<=x/\x<=1000000))))/\w'=w:=by
 by_cases h1:x < -1000000
 .rw[show decide (¬(-1000000<=x/\x<=1000000))=true by simp;omega];go_enter Tryz.func97,Tryz.ntmps97;go_wp2;all_goals go_ret
  all_goals exact⟨rfl,rfl⟩
 .by_cases h2:1000000<x
  .rw[show decide (¬(-1000000<=x/\x<=1000000))=true by simp;omega];go_enter Tryz.func97,Tryz.ntmps97;go_wp2;all_goals go_ret
   all_goals exact⟨rfl,rfl⟩
  .rw[show decide (¬(-1000000<=x/\x<=1000000))=ZX by simp;omega];go_enter Tryz.func97,Tryz.ntmps97;go_wp2;all_goals go_ret
   all_goals exact⟨rfl,rfl⟩
theorem Js(c:Bool)(w:J) :
  I qA 128 #[.bool c] w fun e w'=>e=N (.int T (if c=true then 1 else 0))/\w'=w:=by
 cases c
 all_goals
  go_enter Tryz.func128,Tryz.ntmps128;go_wp2;all_goals go_ret
  all_goals exact⟨rfl,rfl⟩
def Di(k:Int):Nat:=if k=3 then 124 else if k=4 then 125 else if k=5 then 126 else if k=6 then 127 else if k=7 then 129 else if k=8 then 130 else 131
theorem KU{x:Int}(h:-1000000<=x/\x<=1000000):x.natAbs<=1000000:=by omega
theorem SJ{x y:Int}(hx:-1000000<=x/\x<=1000000)(hy:-1000000<=y/\y<=1000000):-1000000000000<=x*y/\x*y<=1000000000000:=by
 have h:=Nat.mul_le_mul (KU hx) (KU hy);rw[<-Int.natAbs_mul]at h;omega
theorem JL(k x y:Int)(w:J)(h3:3<=k)(h9:k<=9)(hx:-1000000<=x/\x<=1000000)(hy:-1000000<=y/\y<=1000000)(ht:8<=k->(x=0\/x=1)/\(y=0\/y=1)) :
  I qA (Di k) #[ZV T x,.int T y] w fun e w'=>e=N (.int T (bin k x y))/\w'=w:=by
 have hk:k=3\/k=4\/k=5\/k=6\/k=7\/k=8\/k=9:=by omega
 have hm:=SJ hx hy;obtain⟨hm1,hm2⟩:=hm;obtain⟨hx1,hx2⟩:=hx;obtain⟨hy1,hy2⟩:=hy;clear h3 h9;rcases hk with rfl|rfl|rfl|rfl|rfl|rfl|rfl
 .show I qA 124 _ _ _;clear ht;go_enter Tryz.func124,Tryz.ntmps124;go_wp2;go_ret;exact⟨rfl,rfl⟩
 .show I qA 125 _ _ _;clear ht;go_enter Tryz.func125,Tryz.ntmps125;go_wp2;go_ret;exact⟨rfl,rfl⟩
 .show I qA 126 _ _ _;clear ht;go_enter Tryz.func126,Tryz.ntmps126;go_wp2;go_ret;exact⟨rfl,rfl⟩
 .show I qA 127 _ _ _;clear ht;have htr:=fun w=>Js (x == y) w;have hb:bin 6 x y=if(x == y)=true then 1 else 0:=by simp[bin]
  rw[<-hb]at htr;generalize bin 6 x y=z at htr⊢;clear hb;go_enter Tryz.func127,Tryz.ntmps127;go_wp2_with (go_at_call 128;refine(htr _).mono ?_;rintro e w1 ⟨rfl,rfl⟩)
  go_ret;exact⟨rfl,rfl⟩
 .show I qA 129 _ _ _;clear ht;by_cases hc:x<y
  .have htr:=fun w=>Js true w;have hb:bin 7 x y=1:=by simp[bin,hc]
   rw[hb];clear hb;go_enter Tryz.func129,Tryz.ntmps129;go_wp2_with (go_at_call 128;refine(htr _).mono ?_;rintro e w1 ⟨rfl,rfl⟩)
   go_ret;exact⟨rfl,rfl⟩
  .have htr:=fun w=>Js ZX w;have hb:bin 7 x y=0:=by simp[bin,hc]
   rw[hb];clear hb;go_enter Tryz.func129,Tryz.ntmps129;go_wp2_with (go_at_call 128;refine(htr _).mono ?_;rintro e w1 ⟨rfl,rfl⟩)
   go_ret;exact⟨rfl,rfl⟩
 .show I qA 130 _ _ _;obtain⟨ha,hb⟩:=ht (by decide);clear ht hm1 hm2 hx1 hx2 hy1 hy2;rcases ha with rfl|rfl<;>rcases hb with rfl|rfl;all_goals
   go_enter Tryz.func130,Tryz.ntmps130;go_wp2;go_ret;exact⟨rfl,rfl⟩
 .show I qA 131 _ _ _;obtain⟨ha,hb⟩:=ht (by decide);clear ht hm1 hm2 hx1 hx2 hy1 hy2;rcases ha with rfl|rfl<;>rcases hb with rfl|rfl;all_goals
   go_enter Tryz.func131,Tryz.ntmps131;go_wp2;go_ret;exact⟨rfl,rfl⟩
def DF:ZZ->Option (DataW Unit×List MemPlace)
 | .func (.func f) first cap=>if first=#[]/\cap=#[]then V (.lit (.int T f),[])else Z
 | .nilFunc=>V (.nil,[])
 |_=>Z
theorem QG{v:ZZ}{f:Nat}{ps:List MemPlace}(h:DF v=V (.lit (.int T f),ps)):v=.func (.func f) #[] #[]:=by
 unfold DF at h;split at h
 .split at h
  .rename_i hc;obtain⟨rfl,rfl⟩:=hc;simp at h;rw[Int.ofNat.inj h.1]
  .simp at h
 .simp at h
 .simp at h
theorem Ei{H:Type}{P:Program}(w:J){ops:Array Oper}{rest:List Oper}{o:Oper}{a:Act}{Q:Exit->Act->J->Prop}
  (hg:o.guard=Z) (m x v:Operand) (t:TypeId) (hop:o.op=Op.insert t m x v)
  (k e:TypeId) (K:Keyed P k) (ht:P.underlying t=V (.map k e)) (R:ZZ->Option (DataW H×List MemPlace)) (b n:Nat) (D:DataW H)
  (hm:a.eval m=.map (V b)) (hown:w.ownsMap P k R b n D) (hn:n<maxLen) (key val:ZZ) (kl:Lit) (hx:a.eval x=key) (hv:a.eval v=val) (hkey:keyOf P k key=V kl)
  (d:DataW H) (ps:List MemPlace) (hval:R val=V (d,ps))
  (hK:∀w',w'.ownsMap P k R b (n+1) (D.put kl d)->w.grownBy w' (V b)->wpList P ops Q rest (a.put o.dst undef) w') :
  wpList P ops Q (o::rest) a w:=by
 refine wpList_plain hg fun K' hK'=>?_;obtain⟨w',hrun,r1,r2⟩:=hown.update K ht hn hkey hval;unfold Oper.wp;simp[execOp,hop,hm,hx,hv,hrun,Result.andThen];exact hK' _ _ (hK w' r1 r2)
def JK:Nat->DataW Unit
 |0=>.map []
 |n+1=>(JK n).put (.int T ((n:Int)+3)) (.lit (.int T (Di ((n:Int)+3))))
def Dr(w:J)(M:Nat):Prop:=w.ownsMap qA 3 DF M 7 (JK 7)
theorem Dr.later{w w':J}{M:Nat}(h:Dr w M)(hb:O w.heap.size w w'):Dr w' M:=by
 have hlt:=World.ownsMap.lt h;obtain⟨es,clock,h1,h2⟩:=h;exact⟨es,clock,(hb.block M hlt).trans h1,h2⟩
theorem D3:Keyed qA 3:=int_keyed Tryz.underlying3
theorem D2(k:Int)(h:3<=k/\k<=9):keyOf qA 3 (.int T k)=V (.int T k):=keyOf_int_mk Tryz.underlying3 (WalkArith.wf_i64 (by omega))
theorem Dr.look{w:J}{M:Nat}(h:Dr w M){k:Int}(h3:3<=k)(h9:k<=9) :
  (Instr.lookup 200 (.map (V M)) (.int T k) ZX).run qA w=.ok (.func (.func (Di k)) #[] #[]) w:=by
 obtain⟨v,ps,hrun,hv⟩:=World.ownsMap.lookup h D3 Tryz.underlying200 (z:=.nilFunc) (by kernel_rfl) (zd:=.nil) (zp:=[]) rfl (D2 k ⟨h3,h9⟩);have hat:(JK 7).atKey (.int T k) .nil=.lit (.int T (Di k)):=by
  have hk:k=3\/k=4\/k=5\/k=6\/k=7\/k=8\/k=9:=by omega
  rcases hk with rfl|rfl|rfl|rfl|rfl|rfl|rfl<;>rfl
 rw[hat]at hv;rw[hrun,QG hv]
theorem S7(w:J) :
  I qA 98 #[] w fun e w'=>∃M,w.heap.size<=M/\e=N (.map (V M))/\Dr w' M/\O w.heap.size w w':=by
 have hmm:=@run_makeMap qA;have h0:=World.ownsMap_made w qA 3 DF;go_enter Tryz.func98,Tryz.ntmps98;go_wp2_with (first
  |(refine Ei _ rfl _ _ _ 200 rfl 3 54 D3 Tryz.underlying200 DF w.heap.size 6 _ rfl h6 (by unfold maxLen;omega) _ _ _ rfl rfl (D2 9 (by omega)) _ [] rfl ?_;intro w7 h7 g7)
  |(refine Ei _ rfl _ _ _ 200 rfl 3 54 D3 Tryz.underlying200 DF w.heap.size 5 _ rfl h5 (by unfold maxLen;omega) _ _ _ rfl rfl (D2 8 (by omega)) _ [] rfl ?_;intro w6 h6 g6)
  |(refine Ei _ rfl _ _ _ 200 rfl 3 54 D3 Tryz.underlying200 DF w.heap.size 4 _ rfl h4 (by unfold maxLen;omega) _ _ _ rfl rfl (D2 7 (by omega)) _ [] rfl ?_;intro w5 h5 g5)
  |(refine Ei _ rfl _ _ _ 200 rfl 3 54 D3 Tryz.underlying200 DF w.heap.size 3 _ rfl h3 (by unfold maxLen;omega) _ _ _ rfl rfl (D2 6 (by omega)) _ [] rfl ?_;intro w4 h4 g4)
  |(refine Ei _ rfl _ _ _ 200 rfl 3 54 D3 Tryz.underlying200 DF w.heap.size 2 _ rfl h2 (by unfold maxLen;omega) _ _ _ rfl rfl (D2 5 (by omega)) _ [] rfl ?_;intro w3 h3 g3)
  |(refine Ei _ rfl _ _ _ 200 rfl 3 54 D3 Tryz.underlying200 DF w.heap.size 1 _ rfl h1 (by unfold maxLen;omega) _ _ _ rfl rfl (D2 4 (by omega)) _ [] rfl ?_;intro w2 h2 g2)
  |(refine Ei _ rfl _ _ _ 200 rfl 3 54 D3 Tryz.underlying200 DF w.heap.size 0 _ rfl h0 (by unfold maxLen;omega) _ _ _ rfl rfl (D2 3 (by omega)) _ [] rfl ?_;intro w1 h1 g1))
 go_ret;have hb0:O w.heap.size w (w.alloc (.map #[] 0)):=(qD _ _).alloc (qB _) _;have hb:∀{x y:J},O w.heap.size w x->x.grownBy y (V w.heap.size)->O w.heap.size w y:=fun h g=>h.grown g h.size (fun j hj=>by cases hj;exact qB _);exact⟨w.heap.size,qB _,rfl,h7,hb (hb (hb (hb (hb (hb (hb hb0 g1) g2) g3) g4) g5) g6) g7⟩
structure WorkAt(w:J)(b off B:Nat)(eao:Option Addr)(M:Nat)(t:Tm)(env:List Int):Prop where
 ob:b<w.heap.size
 ops:BP w b off t.ops
 ends : w.rowIs B 3 t.size (fun q => .int T (Ao (t.ops.map Prod.fst) q))
 env:∀i,i<env.length->∃eb eoff,eao=V ⟨eb,eoff,Z⟩/\eb<w.heap.size/\w.cell? ⟨eb,eoff+i,Z⟩=V (.int T (env.getD i 0))
 pairs:Dr w M
theorem WorkAt.later{w w':J}{b off B:Nat}{eao:Option Addr}{M:Nat}{t:Tm}{env:List Int}(h:WorkAt w b off B eao M t env)(hb:O w.heap.size w w'):WorkAt w' b off B eao M t env:=by
 obtain⟨h1,h2,h3,h4,h5⟩:=h;refine⟨qE h1 hb.size,h2.below hb h1,h3.of_block (hb.block B h3.lt),fun i hi=>?_,h5.later hb⟩;obtain⟨eb,eoff,e1,e2,e3⟩:=h4 i hi;exact⟨eb,eoff,e1,qE e2 hb.size,(hb.cell (p:=⟨eb,eoff+i,Z⟩) e2).trans e3⟩
def BO(r:Option Int)(w:J)(e:Ending)(w':J):Prop:=
 O w.heap.size w w'/\match r with
  |some x=>e=N (.int T x)
  |none=>e=.panicked [{ v:=.iface 42 (.int T 8),recovered:=ZX}]
abbrev workV(b off n cap B:Nat)(eao:Option Addr)(en ecap M:Nat):Value:=ZW #[U (V ⟨b,off,Z⟩) n cap,U (V ⟨B,0,Z⟩) n n,U eao en ecap,.map (V M)]
theorem OU(b off n cap B:Nat)(eao:Option Addr)(en ecap M place:Nat)(x:Int)(w:J)(hob:b<w.heap.size)(hp:place<n)(c0:w.cell? ⟨b,off+place*2,Z⟩=V (.int T 1))(c1:w.cell? ⟨b,off+place*2+1,Z⟩=V (.int T x)) :
  I qA 99 #[workV b off n cap B eao en ecap M,.int T place] w (BO (V x) w):=by
 have hne:¬b=w.heap.size:=by omega
 go_enter Tryz.func99,Tryz.ntmps99;go_wp2_with fail
 go_ret;exact⟨((qD _ _).alloc (qB _) _).alloc (by simp) _,rfl⟩
theorem OV(b off n cap B eb eoff en ecap M place j:Nat)(x:Int)(w:J)(hob:b<w.heap.size)(hp:place<n)(hj:j<en)(c0:w.cell? ⟨b,off+place*2,Z⟩=V (.int T 2))(c1:w.cell? ⟨b,off+place*2+1,Z⟩=V (.int T j))(hbl:eb<w.heap.size)(c2:w.cell? ⟨eb,eoff+j,Z⟩=V (.int T x)) :
  I qA 99 #[workV b off n cap B (V ⟨eb,eoff,Z⟩) en ecap M,.int T place] w (BO (V x) w):=by
 have hne:¬b=w.heap.size:=by omega
 go_enter Tryz.func99,Tryz.ntmps99;go_wp2_with fail
 go_ret;exact⟨((qD _ _).alloc (qB _) _).alloc (by simp) _,rfl⟩
theorem OS(b off n cap B:Nat)(eao:Option Addr)(en ecap M place:Nat)(k:Int)(hk:k=11\/k=12)(w:J)(hob:b<w.heap.size)(hp:place<n)(c0:w.cell? ⟨b,off+place*2,Z⟩=V (.int T k))(c1:w.cell? ⟨b,off+place*2+1,Z⟩=V (.int T 0)) :
  I qA 99 #[workV b off n cap B eao en ecap M,.int T place] w (BO (V (if k=11 then 1 else 0)) w):=by
 rcases hk with rfl|rfl
 .rw[if_pos rfl];have hne:¬b=w.heap.size:=by omega
  go_enter Tryz.func99,Tryz.ntmps99;go_wp2_with fail
  go_ret;exact⟨((qD _ _).alloc (qB _) _).alloc (by simp) _,rfl⟩
 .rw[if_neg (by decide)];have hne:¬b=w.heap.size:=by omega
  go_enter Tryz.func99,Tryz.ntmps99;go_wp2_with fail
  go_ret;exact⟨((qD _ _).alloc (qB _) _).alloc (by simp) _,rfl⟩
theorem OT(b off n cap B:Nat)(eao:Option Addr)(en ecap M place:Nat)(r:Option Int)(w:J)(hob:b<w.heap.size)(hp:place<n)(h60:n<=60)(c0:w.cell? ⟨b,off+place*2,Z⟩=V (.int T 10))(c1:w.cell? ⟨b,off+place*2+1,Z⟩=V (.int T 0))
  (hr:∀x,r=V x->-1000000<=x/\x<=1000000)
  (hrec:∀w',O w.heap.size w w'->I qA 99 #[workV b off n cap B eao en ecap M,.int T ((place:Int)+1)] w' (BO r w')) :
  I qA 99 #[workV b off n cap B eao en ecap M,.int T place] w (BO (r.map (1 - ·)) w):=by
 have hne:¬b=w.heap.size:=by omega
 have hb2:O w.heap.size w ((w.alloc (C #[U (V ⟨b,off,Z⟩) n cap,U (V ⟨B,0,Z⟩) n n,U eao en ecap,.map (V M)] 203)).alloc (C #[ZV T 10,.int T 0] 91)):=((qD _ _).alloc (qB _) _).alloc (by simp) _;have hrec':=hrec _ hb2;have HB2:=(show E _ from hb2);clear hrec hb2;cases r with
 |none=>
  go_enter Tryz.func99,Tryz.ntmps99;go_wp2_with (go_at_call 99;refine hrec'.mono ?_;rintro e w1 ⟨hb1,rfl⟩)
  exact⟨rfl,HB2.out.trans (hb1.mono HB2.out.size),rfl⟩
 |some x=>
  obtain⟨hx1,hx2⟩:=hr x rfl;clear hr;go_enter Tryz.func99,Tryz.ntmps99;go_wp2_with (go_at_call 99;refine hrec'.mono ?_;rintro e w1 ⟨hb1,rfl⟩)
  go_ret;exact⟨HB2.out.trans (hb1.mono HB2.out.size),rfl⟩
attribute [local go_sem ↓] Go.wp_at_zero Go.wp_at_succ
theorem S8(k:Int)(h3:3<=k)(h9:k<=9)(args:Array ZZ)(w:J):(callFunc (Di k) args).run qA w=.ok (.enter (Di k) args) w:=by
 have hk:k=3\/k=4\/k=5\/k=6\/k=7\/k=8\/k=9:=by omega
 rcases hk with rfl|rfl|rfl|rfl|rfl|rfl|rfl
 .show (callFunc 124 args).run qA w=.ok (.enter 124 args) w;simp[go_sem]
 .show (callFunc 125 args).run qA w=.ok (.enter 125 args) w;simp[go_sem]
 .show (callFunc 126 args).run qA w=.ok (.enter 126 args) w;simp[go_sem]
 .show (callFunc 127 args).run qA w=.ok (.enter 127 args) w;simp[go_sem]
 .show (callFunc 129 args).run qA w=.ok (.enter 129 args) w;simp[go_sem]
 .show (callFunc 130 args).run qA w=.ok (.enter 130 args) w;simp[go_sem]
 .show (callFunc 131 args).run qA w=.ok (.enter 131 args) w;simp[go_sem]
theorem J3{x:Int}(h1:0<=x)(h2:x<=1000):IntKind.i64.wrap x=x:=by
 simp[IntKind.wrap,IntKind.bits,IntKind.signed];omega
theorem OP(b off n cap B:Nat)(eao:Option Addr)(en ecap M place E1 F:Nat)(k x y z:Int)(w:J)(hob:b<w.heap.size)(hBB:B<w.heap.size)(hp:place+1<n)(P1:Nat)(hP1:P1=place+1)(h60:n<=60)(hk3:3<=k)(hk9:k<=9)(c0:w.cell? ⟨b,off+place*2,Z⟩=V (.int T k))(c1:w.cell? ⟨b,off+place*2+1,Z⟩=V (.int T 0))(cE:w.cell? ⟨B,P1,Z⟩=V (.int T E1))
  (hlook:∀w',O w.heap.size w w'->(Instr.lookup 200 (.map (V M)) (.int T k) ZX).run qA w'=.ok (.func (.func F) #[] #[]) w')
  (hent:∀args w,(callFunc F args).run qA w=.ok (.enter F args) w)
  (hpair:∀w',I qA F #[ZV T x,.int T y] w' fun e w''=>e=N (.int T z)/\w''=w')
  (hra:∀w',O w.heap.size w w'->I qA 99 #[workV b off n cap B eao en ecap M,.int T P1] w' (BO (V x) w'))
  (hrb:∀w',O w.heap.size w w'->I qA 99 #[workV b off n cap B eao en ecap M,.int T E1] w' (BO (V y) w')) :
  I qA 99 #[workV b off n cap B eao en ecap M,.int T place] w (BO (lid z) w):=by
 have hne:¬b=w.heap.size:=by omega
 have hneB:¬B=w.heap.size:=by omega
 have e1:¬k=1:=by omega
 have e2:¬k=2:=by omega
 have e3:¬k=10:=by omega
 have e4:¬k=11:=by omega
 have e5:¬k=12:=by omega
 obtain⟨W2,hW2⟩:∃W2,W2=((w.alloc (C #[U (V ⟨b,off,Z⟩) n cap,U (V ⟨B,0,Z⟩) n n,U eao en ecap,.map (V M)] 203)).alloc (C #[ZV T k,.int T 0] 91)):=⟨_,rfl⟩;have hb2:O w.heap.size w W2:=by rw[hW2];exact((qD _ _).alloc (qB _) _).alloc (by simp) _
 have hsz:W2.heap.size=w.heap.size+1+1:=by rw[hW2];simp
 have d0:W2.cell? ⟨w.heap.size,0,Z⟩=V (U (V ⟨b,off,Z⟩) n cap):=by rw[hW2];simp[go_sem]
 have d1:W2.cell? ⟨w.heap.size,1,Z⟩=V (U (V ⟨B,0,Z⟩) n n):=by rw[hW2];simp[go_sem]
 have d2:W2.cell? ⟨w.heap.size,2,Z⟩=V (U eao en ecap):=by rw[hW2];simp[go_sem]
 have d3:W2.cell? ⟨w.heap.size,3,Z⟩=V (.map (V M)):=by rw[hW2];simp[go_sem]
 have d4:W2.cell? ⟨w.heap.size+1,0,Z⟩=V (.int T k):=by rw[hW2];simp[go_sem]
 have d5:W2.cell? ⟨B,P1,Z⟩=V (.int T E1):=(hb2.cell (p:=⟨B,P1,Z⟩) hBB).trans cE;have HW2:=(show E _ from hW2);have hS:∀w',O W2.heap.size W2 w'->w'.cell? ⟨w.heap.size,0,Z⟩=V (U (V ⟨b,off,Z⟩) n cap)/\w'.cell? ⟨w.heap.size,1,Z⟩=V (U (V ⟨B,0,Z⟩) n n)/\w'.cell? ⟨w.heap.size,2,Z⟩=V (U eao en ecap)/\w'.cell? ⟨w.heap.size,3,Z⟩=V (.map (V M))/\w'.cell? ⟨w.heap.size+1,0,Z⟩=V (.int T k)/\w'.cell? ⟨B,P1,Z⟩=V (.int T E1)/\(Instr.lookup 200 (.map (V M)) (.int T k) ZX).run qA w'=.ok (.func (.func F) #[] #[]) w':=fun w' hw'=>
  ⟨(hw'.cell (p:=⟨w.heap.size,0,Z⟩) (by simp only;omega)).trans d0,(hw'.cell (p:=⟨w.heap.size,1,Z⟩) (by simp only;omega)).trans d1,(hw'.cell (p:=⟨w.heap.size,2,Z⟩) (by simp only;omega)).trans d2,(hw'.cell (p:=⟨w.heap.size,3,Z⟩) (by simp only;omega)).trans d3,(hw'.cell (p:=⟨w.heap.size+1,0,Z⟩) (by simp only;omega)).trans d4,(hw'.cell (p:=⟨B,P1,Z⟩) (by simp only;omega)).trans d5,hlook w' (hb2.trans (hw'.mono hb2.size))⟩
 have hra':∀w',O W2.heap.size W2 w'->I qA 99 #[workV b off n cap B eao en ecap M,.int T P1] w' (BO (V x) w'):=fun w' hw'=>hra w' (hb2.trans (hw'.mono hb2.size));have hrb':∀w',O W2.heap.size W2 w'->I qA 99 #[workV b off n cap B eao en ecap M,.int T E1] w' (BO (V y) w'):=fun w' hw'=>hrb w' (hb2.trans (hw'.mono hb2.size));have hB0:O W2.heap.size W2 W2:=qD _ _;have HB2:E (O w.heap.size w W2):=hb2;have hp0:place<n:=by omega
 have hi0:(0:Int)<=(P1:Int):=by omega
 have hi1:(P1:Int)<(n:Int):=by omega
 have hpp:(place:Int)+1=(P1:Int):=by omega
 have hwr:IntKind.i64.wrap (P1:Int)=(P1:Int):=J3 (by omega) (by omega);have hwr2:IntKind.i64.wrap ((place:Int)+1)=(P1:Int):=by rw[hpp];exact hwr
 have htg:=fun w=>NT z w;clear hW2 hb2 hra hrb hlook hP1 hp hsz d0 d1 d2 d3 d4 d5;by_cases hz:-1000000<=z/\z<=1000000
 .rw[show decide (¬(-1000000<=z/\z<=1000000))=ZX by simpa using hz]at htg;rw[show lid z=V z by unfold lid;rw[if_pos hz]];clear hz;go_enter Tryz.func99,Tryz.ntmps99;go_wp2_with fail
  rw[<-HW2.out];clear c0 c1 cE;go_region_held3 (fun w'=>w'.cell? ⟨w.heap.size,0,Z⟩=V (U (V ⟨b,off,Z⟩) n cap)/\w'.cell? ⟨w.heap.size,1,Z⟩=V (U (V ⟨B,0,Z⟩) n n)/\w'.cell? ⟨w.heap.size,2,Z⟩=V (U eao en ecap)/\w'.cell? ⟨w.heap.size,3,Z⟩=V (.map (V M))/\w'.cell? ⟨w.heap.size+1,0,Z⟩=V (.int T k)/\w'.cell? ⟨B,P1,Z⟩=V (.int T E1)/\(Instr.lookup 200 (.map (V M)) (.int T k) ZX).run qA w'=.ok (.func (.func F) #[] #[]) w')
   (exact hS _ (by first|exact hB0|exact hB0.drew|exact hB0.drew.trans hb1|exact(hB0.drew.trans hb1).trans (hb3.mono (hB0.drew.trans hb1).size)))
   (first|(go_at_call_of 99 E1;refine(hrb' _ (hB0.drew.trans hb1)).mono ?_;rintro e w3 ⟨hb3,rfl⟩)|(go_at_call 99;refine(hra' _ hB0.drew).mono ?_;rintro e w1 ⟨hb1,rfl⟩)|(refine(hpair _).mono ?_;rintro e w4 ⟨rfl,rfl⟩))
  all_goals
   go_wp2_with (go_at_call 97;refine(htg _).mono ?_;rintro e w5 ⟨rfl,rfl⟩)
   go_ret;exact⟨HB2.out.trans (((hB0.drew.trans hb1).trans (hb3.mono (hB0.drew.trans hb1).size)).mono HB2.out.size),rfl⟩
 .rw[show decide (¬(-1000000<=z/\z<=1000000))=true by simp;omega]at htg;rw[show lid z=Z by unfold lid;rw[if_neg hz]];clear hz;go_enter Tryz.func99,Tryz.ntmps99;go_wp2_with fail
  rw[<-HW2.out];clear c0 c1 cE;go_region_held3 (fun w'=>w'.cell? ⟨w.heap.size,0,Z⟩=V (U (V ⟨b,off,Z⟩) n cap)/\w'.cell? ⟨w.heap.size,1,Z⟩=V (U (V ⟨B,0,Z⟩) n n)/\w'.cell? ⟨w.heap.size,2,Z⟩=V (U eao en ecap)/\w'.cell? ⟨w.heap.size,3,Z⟩=V (.map (V M))/\w'.cell? ⟨w.heap.size+1,0,Z⟩=V (.int T k)/\w'.cell? ⟨B,P1,Z⟩=V (.int T E1)/\(Instr.lookup 200 (.map (V M)) (.int T k) ZX).run qA w'=.ok (.func (.func F) #[] #[]) w')
   (exact hS _ (by first|exact hB0|exact hB0.drew|exact hB0.drew.trans hb1|exact(hB0.drew.trans hb1).trans (hb3.mono (hB0.drew.trans hb1).size)))
   (first|(go_at_call_of 99 E1;refine(hrb' _ (hB0.drew.trans hb1)).mono ?_;rintro e w3 ⟨hb3,rfl⟩)|(go_at_call 99;refine(hra' _ hB0.drew).mono ?_;rintro e w1 ⟨hb1,rfl⟩)|(refine(hpair _).mono ?_;rintro e w4 ⟨rfl,rfl⟩))
  all_goals
   go_wp2_with (go_at_call 97;refine(htg _).mono ?_;rintro e w5 ⟨rfl,rfl⟩)
   exact⟨rfl,HB2.out.trans (((hB0.drew.trans hb1).trans (hb3.mono (hB0.drew.trans hb1).size)).mono HB2.out.size),rfl⟩
attribute [local go_sem ↓] Go.wp_at_zero Go.wp_at_succ
theorem Calls.pan{f:FuncId}{args:Array ZZ}{w:J}{X:Ending->J->Prop}(x:Int)(h:I qA f args w (BO Z w))
  (hX:∀w',O w.heap.size w w'->X (.panicked [{ v:=.iface 42 (.int T 8),recovered:=ZX}]) w') (_:∀w',O w.heap.size w w'->E False->X (N (.int T x)) w'):I qA f args w X:=
 h.mono fun e w' ⟨hb,he⟩=>by subst he;exact hX w' hb
theorem OQ(b off n cap B:Nat)(eao:Option Addr)(en ecap M place E1 F:Nat)(k x y z:Int)(w:J)(hob:b<w.heap.size)(hBB:B<w.heap.size)(hp:place+1<n)(P1:Nat)(hP1:P1=place+1)(h60:n<=60)(hk3:3<=k)(hk9:k<=9)(c0:w.cell? ⟨b,off+place*2,Z⟩=V (.int T k))(c1:w.cell? ⟨b,off+place*2+1,Z⟩=V (.int T 0))(cE:w.cell? ⟨B,P1,Z⟩=V (.int T E1))
  (hlook:∀w',O w.heap.size w w'->(Instr.lookup 200 (.map (V M)) (.int T k) ZX).run qA w'=.ok (.func (.func F) #[] #[]) w')
  (hent:∀args w,(callFunc F args).run qA w=.ok (.enter F args) w)
  (hpair:∀w',I qA F #[ZV T x,.int T y] w' fun e w''=>e=N (.int T z)/\w''=w')
  (hra:∀w',O w.heap.size w w'->I qA 99 #[workV b off n cap B eao en ecap M,.int T P1] w' (BO Z w'))
  (hrb:E False->∀w',O w.heap.size w w'->I qA 99 #[workV b off n cap B eao en ecap M,.int T E1] w' (BO (V y) w')) :
  I qA 99 #[workV b off n cap B eao en ecap M,.int T place] w (BO Z w):=by
 have hne:¬b=w.heap.size:=by omega
 have hneB:¬B=w.heap.size:=by omega
 have e1:¬k=1:=by omega
 have e2:¬k=2:=by omega
 have e3:¬k=10:=by omega
 have e4:¬k=11:=by omega
 have e5:¬k=12:=by omega
 obtain⟨W2,hW2⟩:∃W2,W2=((w.alloc (C #[U (V ⟨b,off,Z⟩) n cap,U (V ⟨B,0,Z⟩) n n,U eao en ecap,.map (V M)] 203)).alloc (C #[ZV T k,.int T 0] 91)):=⟨_,rfl⟩;have hb2:O w.heap.size w W2:=by rw[hW2];exact((qD _ _).alloc (qB _) _).alloc (by simp) _
 have hsz:W2.heap.size=w.heap.size+1+1:=by rw[hW2];simp
 have d0:W2.cell? ⟨w.heap.size,0,Z⟩=V (U (V ⟨b,off,Z⟩) n cap):=by rw[hW2];simp[go_sem]
 have d1:W2.cell? ⟨w.heap.size,1,Z⟩=V (U (V ⟨B,0,Z⟩) n n):=by rw[hW2];simp[go_sem]
 have d2:W2.cell? ⟨w.heap.size,2,Z⟩=V (U eao en ecap):=by rw[hW2];simp[go_sem]
 have d3:W2.cell? ⟨w.heap.size,3,Z⟩=V (.map (V M)):=by rw[hW2];simp[go_sem]
 have d4:W2.cell? ⟨w.heap.size+1,0,Z⟩=V (.int T k):=by rw[hW2];simp[go_sem]
 have d5:W2.cell? ⟨B,P1,Z⟩=V (.int T E1):=(hb2.cell (p:=⟨B,P1,Z⟩) hBB).trans cE;have HW2:=(show E _ from hW2);have hS:∀w',O W2.heap.size W2 w'->w'.cell? ⟨w.heap.size,0,Z⟩=V (U (V ⟨b,off,Z⟩) n cap)/\w'.cell? ⟨w.heap.size,1,Z⟩=V (U (V ⟨B,0,Z⟩) n n)/\w'.cell? ⟨w.heap.size,2,Z⟩=V (U eao en ecap)/\w'.cell? ⟨w.heap.size,3,Z⟩=V (.map (V M))/\w'.cell? ⟨w.heap.size+1,0,Z⟩=V (.int T k)/\w'.cell? ⟨B,P1,Z⟩=V (.int T E1)/\(Instr.lookup 200 (.map (V M)) (.int T k) ZX).run qA w'=.ok (.func (.func F) #[] #[]) w':=fun w' hw'=>
  ⟨(hw'.cell (p:=⟨w.heap.size,0,Z⟩) (by simp only;omega)).trans d0,(hw'.cell (p:=⟨w.heap.size,1,Z⟩) (by simp only;omega)).trans d1,(hw'.cell (p:=⟨w.heap.size,2,Z⟩) (by simp only;omega)).trans d2,(hw'.cell (p:=⟨w.heap.size,3,Z⟩) (by simp only;omega)).trans d3,(hw'.cell (p:=⟨w.heap.size+1,0,Z⟩) (by simp only;omega)).trans d4,(hw'.cell (p:=⟨B,P1,Z⟩) (by simp only;omega)).trans d5,hlook w' (hb2.trans (hw'.mono hb2.size))⟩
 have hra':∀w',O W2.heap.size W2 w'->I qA 99 #[workV b off n cap B eao en ecap M,.int T P1] w' (BO Z w'):=fun w' hw'=>hra w' (hb2.trans (hw'.mono hb2.size));have hrb':E False->∀w',O W2.heap.size W2 w'->I qA 99 #[workV b off n cap B eao en ecap M,.int T E1] w' (BO (V y) w'):=fun hF w' hw'=>hrb hF w' (hb2.trans (hw'.mono hb2.size));have hB0:O W2.heap.size W2 W2:=qD _ _;have HB2:E (O w.heap.size w W2):=hb2;have hp0:place<n:=by omega
 have hi0:(0:Int)<=(P1:Int):=by omega
 have hi1:(P1:Int)<(n:Int):=by omega
 have hpp:(place:Int)+1=(P1:Int):=by omega
 have hwr:IntKind.i64.wrap (P1:Int)=(P1:Int):=J3 (by omega) (by omega);have hwr2:IntKind.i64.wrap ((place:Int)+1)=(P1:Int):=by rw[hpp];exact hwr
 clear hW2 hb2 hra hrb hlook hP1 hp hsz d0 d1 d2 d3 d4 d5;go_enter Tryz.func99,Tryz.ntmps99;go_wp2_with fail
 rw[<-HW2.out];clear c0 c1 cE;go_region_held2 (fun w'=>w'.cell? ⟨w.heap.size,0,Z⟩=V (U (V ⟨b,off,Z⟩) n cap)/\w'.cell? ⟨w.heap.size,1,Z⟩=V (U (V ⟨B,0,Z⟩) n n)/\w'.cell? ⟨w.heap.size,2,Z⟩=V (U eao en ecap)/\w'.cell? ⟨w.heap.size,3,Z⟩=V (.map (V M))/\w'.cell? ⟨w.heap.size+1,0,Z⟩=V (.int T k)/\w'.cell? ⟨B,P1,Z⟩=V (.int T E1)/\(Instr.lookup 200 (.map (V M)) (.int T k) ZX).run qA w'=.ok (.func (.func F) #[] #[]) w')
  (exact hS _ (by first|exact hB0|exact hB0.drew|exact hB0.drew.trans hb1|exact(hB0.drew.trans hb1).trans (hb3.mono (hB0.drew.trans hb1).size)))
  (first|(go_at_call_of 99 E1;refine(hrb' hF _ (hB0.drew.trans hb1)).mono ?_;rintro e w3 ⟨hb3,rfl⟩)|(go_at_call 99;refine Calls.pan x (hra' _ hB0.drew) (fun w1 hb1=>⟨rfl,HB2.out.trans ((hB0.drew.trans hb1).mono HB2.out.size),rfl⟩) (fun w1 hb1 hF=>?_))|(refine(hpair _).mono ?_;rintro e w4 ⟨rfl,rfl⟩))
 all_goals exact hF.out.elim
theorem OR(b off n cap B:Nat)(eao:Option Addr)(en ecap M place E1 F:Nat)(k x y z:Int)(w:J)(hob:b<w.heap.size)(hBB:B<w.heap.size)(hp:place+1<n)(P1:Nat)(hP1:P1=place+1)(h60:n<=60)(hk3:3<=k)(hk9:k<=9)(c0:w.cell? ⟨b,off+place*2,Z⟩=V (.int T k))(c1:w.cell? ⟨b,off+place*2+1,Z⟩=V (.int T 0))(cE:w.cell? ⟨B,P1,Z⟩=V (.int T E1))
  (hlook:∀w',O w.heap.size w w'->(Instr.lookup 200 (.map (V M)) (.int T k) ZX).run qA w'=.ok (.func (.func F) #[] #[]) w')
  (hent:∀args w,(callFunc F args).run qA w=.ok (.enter F args) w)
  (hpair:∀w',I qA F #[ZV T x,.int T y] w' fun e w''=>e=N (.int T z)/\w''=w')
  (hra:∀w',O w.heap.size w w'->I qA 99 #[workV b off n cap B eao en ecap M,.int T P1] w' (BO (V x) w'))
  (hrb:∀w',O w.heap.size w w'->I qA 99 #[workV b off n cap B eao en ecap M,.int T E1] w' (BO Z w')) :
  I qA 99 #[workV b off n cap B eao en ecap M,.int T place] w (BO Z w):=by
 have hne:¬b=w.heap.size:=by omega
 have hneB:¬B=w.heap.size:=by omega
 have e1:¬k=1:=by omega
 have e2:¬k=2:=by omega
 have e3:¬k=10:=by omega
 have e4:¬k=11:=by omega
 have e5:¬k=12:=by omega
 obtain⟨W2,hW2⟩:∃W2,W2=((w.alloc (C #[U (V ⟨b,off,Z⟩) n cap,U (V ⟨B,0,Z⟩) n n,U eao en ecap,.map (V M)] 203)).alloc (C #[ZV T k,.int T 0] 91)):=⟨_,rfl⟩;have hb2:O w.heap.size w W2:=by rw[hW2];exact((qD _ _).alloc (qB _) _).alloc (by simp) _
 have hsz:W2.heap.size=w.heap.size+1+1:=by rw[hW2];simp
 have d0:W2.cell? ⟨w.heap.size,0,Z⟩=V (U (V ⟨b,off,Z⟩) n cap):=by rw[hW2];simp[go_sem]
 have d1:W2.cell? ⟨w.heap.size,1,Z⟩=V (U (V ⟨B,0,Z⟩) n n):=by rw[hW2];simp[go_sem]
 have d2:W2.cell? ⟨w.heap.size,2,Z⟩=V (U eao en ecap):=by rw[hW2];simp[go_sem]
 have d3:W2.cell? ⟨w.heap.size,3,Z⟩=V (.map (V M)):=by rw[hW2];simp[go_sem]
 have d4:W2.cell? ⟨w.heap.size+1,0,Z⟩=V (.int T k):=by rw[hW2];simp[go_sem]
 have d5:W2.cell? ⟨B,P1,Z⟩=V (.int T E1):=(hb2.cell (p:=⟨B,P1,Z⟩) hBB).trans cE;have HW2:=(show E _ from hW2);have hS:∀w',O W2.heap.size W2 w'->w'.cell? ⟨w.heap.size,0,Z⟩=V (U (V ⟨b,off,Z⟩) n cap)/\w'.cell? ⟨w.heap.size,1,Z⟩=V (U (V ⟨B,0,Z⟩) n n)/\w'.cell? ⟨w.heap.size,2,Z⟩=V (U eao en ecap)/\w'.cell? ⟨w.heap.size,3,Z⟩=V (.map (V M))/\w'.cell? ⟨w.heap.size+1,0,Z⟩=V (.int T k)/\w'.cell? ⟨B,P1,Z⟩=V (.int T E1)/\(Instr.lookup 200 (.map (V M)) (.int T k) ZX).run qA w'=.ok (.func (.func F) #[] #[]) w':=fun w' hw'=>
  ⟨(hw'.cell (p:=⟨w.heap.size,0,Z⟩) (by simp only;omega)).trans d0,(hw'.cell (p:=⟨w.heap.size,1,Z⟩) (by simp only;omega)).trans d1,(hw'.cell (p:=⟨w.heap.size,2,Z⟩) (by simp only;omega)).trans d2,(hw'.cell (p:=⟨w.heap.size,3,Z⟩) (by simp only;omega)).trans d3,(hw'.cell (p:=⟨w.heap.size+1,0,Z⟩) (by simp only;omega)).trans d4,(hw'.cell (p:=⟨B,P1,Z⟩) (by simp only;omega)).trans d5,hlook w' (hb2.trans (hw'.mono hb2.size))⟩
 have hra':∀w',O W2.heap.size W2 w'->I qA 99 #[workV b off n cap B eao en ecap M,.int T P1] w' (BO (V x) w'):=fun w' hw'=>hra w' (hb2.trans (hw'.mono hb2.size));have hrb':∀w',O W2.heap.size W2 w'->I qA 99 #[workV b off n cap B eao en ecap M,.int T E1] w' (BO Z w'):=fun w' hw'=>hrb w' (hb2.trans (hw'.mono hb2.size));have hB0:O W2.heap.size W2 W2:=qD _ _;have HB2:E (O w.heap.size w W2):=hb2;have hp0:place<n:=by omega
 have hi0:(0:Int)<=(P1:Int):=by omega
 have hi1:(P1:Int)<(n:Int):=by omega
 have hpp:(place:Int)+1=(P1:Int):=by omega
 have hwr:IntKind.i64.wrap (P1:Int)=(P1:Int):=J3 (by omega) (by omega);have hwr2:IntKind.i64.wrap ((place:Int)+1)=(P1:Int):=by rw[hpp];exact hwr
 clear hW2 hb2 hra hrb hlook hP1 hp hsz d0 d1 d2 d3 d4 d5;go_enter Tryz.func99,Tryz.ntmps99;go_wp2_with fail
 rw[<-HW2.out];clear c0 c1 cE;go_region_held2 (fun w'=>w'.cell? ⟨w.heap.size,0,Z⟩=V (U (V ⟨b,off,Z⟩) n cap)/\w'.cell? ⟨w.heap.size,1,Z⟩=V (U (V ⟨B,0,Z⟩) n n)/\w'.cell? ⟨w.heap.size,2,Z⟩=V (U eao en ecap)/\w'.cell? ⟨w.heap.size,3,Z⟩=V (.map (V M))/\w'.cell? ⟨w.heap.size+1,0,Z⟩=V (.int T k)/\w'.cell? ⟨B,P1,Z⟩=V (.int T E1)/\(Instr.lookup 200 (.map (V M)) (.int T k) ZX).run qA w'=.ok (.func (.func F) #[] #[]) w')
  (exact hS _ (by first|exact hB0|exact hB0.drew|exact hB0.drew.trans hb1|exact(hB0.drew.trans hb1).trans (hb3.mono (hB0.drew.trans hb1).size)))
  (first|(go_at_call_of 99 E1;refine Calls.pan y (hrb' _ (hB0.drew.trans hb1)) (fun w3 hb3=>⟨rfl,HB2.out.trans (((hB0.drew.trans hb1).trans (hb3.mono (hB0.drew.trans hb1).size)).mono HB2.out.size),rfl⟩) (fun w3 hb3 hF=>?_))|(go_at_call 99;refine(hra' _ hB0.drew).mono ?_;rintro e w1 ⟨hb1,rfl⟩)|(refine(hpair _).mono ?_;rintro e w4 ⟨rfl,rfl⟩))
 all_goals exact hF.out.elim
theorem OO(b off n cap B:Nat)(eao:Option Addr)(en ecap M vars:Nat)(t:Tm)(env:List Int)(hn:n=t.size)(h60:n<=60)(hg:t.Good vars)(hty:t.typed=true)(hev:EnvOk env)(hen:env.length=vars)(hen2:en=vars)(d:Nat) :
  ∀(place:Nat) (w:J),place<n->(t.sub place).size<=d->WorkAt w b off B eao M t env->
  I qA 99 #[workV b off n cap B eao en ecap M,.int T place] w (BO ((t.sub place).eval env) w):=by
 induction d with
 |zero=>intro place w _ hd;have:=(t.sub place).size_pos;omega
 |succ d ih=>
  intro place w hp hd hW;have hpt:place<t.size:=by omega
  obtain⟨s,hs⟩:∃s,s=t.sub place:=⟨_,rfl⟩;have hsg:s.Good vars:=by rw[hs];exact hg.sub _
  have hst:s.typed=true:=by
   rw[hs];refine(typed_iff _).2 fun q hq=>?_;rw[<-t.sub_sub place q hpt hq];exact(typed_iff _).1 hty _ (by have:=t.sub_fits hpt;omega)
  obtain⟨c0,c1⟩:=hW.ops place (by rw[ops_length];exact hpt);rw[op_at t hpt,<-hs]at c0 c1;simp only at c0 c1;have HKI:∀i,i<s.kids.length->place+s.koff i<n/\t.sub (place+s.koff i)=s.kids.getD i s/\Ao (t.ops.map Prod.fst) (place+s.koff i)=place+s.koff (i+1):=fun i hi=>by
   subst hs;obtain⟨h1,h2,h3,_⟩:=kid_in hg.wf hpt hi;exact⟨by omega,h2,h3⟩
  rw[<-hs]at hd⊢;cases s with
  |leaf k v=>
   rcases hsg with⟨rfl,h1,h2⟩|⟨rfl,h1,h2⟩|⟨hk,rfl⟩
   .exact OU b off n cap B eao en ecap M place v w hW.ob hp c0 c1
   .obtain ⟨j,rfl⟩:=Int.eq_ofNat_of_zero_le h1;obtain⟨eb,eoff,rfl,e2,e3⟩:=hW.env j (by omega);exact OV b off n cap B eb eoff en ecap M place j _ w hW.ob hp (by omega) c0 c1 e2 e3
   .have he:(Tm.leaf k 0).eval env=V (if k=11 then 1 else 0):=by
     simp only[Tm.eval];rw[if_neg (by omega),if_neg (by omega)]
    rw[he];exact OS b off n cap B eao en ecap M place k hk w hW.ob hp c0 c1
  |un k v a=>
   obtain⟨rfl,rfl,ha⟩:=hsg;obtain⟨p1,p2,_⟩:=HKI 0 (by simp[kids]);rw[koff_zero]at p1 p2;have hsz:a.size<=d:=by simp only[Tm.size]at hd;omega
   have hta:a.typed=true:=by simp only[Tm.typed,qK]at hst;exact hst.2
   have hrec:∀w',O w.heap.size w w'->I qA 99 #[workV b off n cap B eao en ecap M,.int T ((place:Int)+1)] w' (BO (a.eval env) w'):=fun w' hw'=>by
    have h:=ih (place+1) w' p1 (by rw[p2];exact hsz) (hW.later hw');rw[p2]at h;exact h
   have h:=OT b off n cap B eao en ecap M place (a.eval env) w hW.ob hp h60 c0 c1 (fun x hx=>(eval_le hev hen ha hta x hx).1) hrec;have he:(Tm.un 10 0 a).eval env=(a.eval env).map (1 - ·):=by
    simp only[Tm.eval];cases a.eval env<;>rfl
   rw[he];exact h
  |bi k v a b'=>
   obtain⟨h3,h9,rfl,ha,hb⟩:=hsg;obtain⟨p1,p2,p3⟩:=HKI 0 (by simp[kids]);obtain⟨q1,q2,_⟩:=HKI 1 (by simp[kids]);rw[koff_zero]at p1 p2 p3;rw[Nat.zero_add]at p3;have hsa:a.size<=d:=by simp only[Tm.size]at hd;omega
   have hsb:b'.size<=d:=by simp only[Tm.size]at hd;omega
   simp only[Tm.typed,qK,beq_iff_eq]at hst;obtain⟨⟨ka,hta⟩,kb,htb⟩:=hst;have hra:∀w',O w.heap.size w w'->I qA 99 #[workV b off n cap B eao en ecap M,.int T (place+1:Nat)] w' (BO (a.eval env) w'):=fun w' hw'=>by
    have h:=ih (place+1) w' p1 (by rw[p2];exact hsa) (hW.later hw');rw[p2]at h;exact h
   have hrb:∀w',O w.heap.size w w'->I qA 99 #[workV b off n cap B eao en ecap M,.int T (place+(Tm.bi k 0 a b').koff 1:Nat)] w' (BO (b'.eval env) w'):=fun w' hw'=>by
    have h:=ih (place+(Tm.bi k 0 a b').koff 1) w' q1 (by rw[q2];exact hsb) (hW.later hw');rw[q2]at h;exact h
   have cE:=hW.ends.cell (i:=place+1) (by omega);rw[p3]at cE;have hlook:=fun w' (hw':O w.heap.size w w')=>(hW.pairs.later hw').look h3 h9;have hent:=S8 k h3 h9;have hae:=eval_le hev hen ha hta;have hbe:=eval_le hev hen hb htb;simp only[Tm.eval];cases hx:a.eval env with
   |none=>
    rw[hx]at hra;exact OQ b off n cap B eao en ecap M place _ (Di k) k 0 0 (bin k 0 0) w hW.ob hW.ends.lt (by omega) (place+1) rfl h60 h3 h9 c0 c1 cE hlook hent (fun w'=>JL k 0 0 w' h3 h9 (by omega) (by omega) (fun _=>⟨.inl rfl,.inl rfl⟩)) hra
     (fun h=>h.out.elim)
   |some x=>
    rw[hx]at hra;have hxl:=hae x hx;cases hy:b'.eval env with
    |none=>
     rw[hy]at hrb;exact OR b off n cap B eao en ecap M place _ (Di k) k x 0 (bin k x 0) w hW.ob hW.ends.lt (by omega) (place+1) rfl h60 h3 h9 c0 c1 cE hlook hent (fun w'=>JL k x 0 w' h3 h9 hxl.1 (by omega) (fun h8=>⟨hxl.2 (by rw[ka];simp[tkT];omega),.inl rfl⟩)) hra hrb
    |some y=>
     rw[hy]at hrb;have hyl:=hbe y hy;exact OP b off n cap B eao en ecap M place _ (Di k) k x y (bin k x y) w hW.ob hW.ends.lt (by omega) (place+1) rfl h60 h3 h9 c0 c1 cE hlook hent (fun w'=>JL k x y w' h3 h9 hxl.1 hyl.1 (fun h8=>⟨hxl.2 (by rw[ka];simp[tkT];omega),hyl.2 (by rw[kb];simp[tkT];omega)⟩)) hra hrb
