/- Joined texts. -/
import Derived.Test.YtehfhemidmfffaaGreatDoorLateA
import Derived.Deep.RegionHeld2
open Go renaming World→J,Value→ZZ,Calls→I
open Go.Ending renaming returned→N
open Go.IntKind renaming i64→T
open Go.Obj renaming cells→C
open Go.RowKit renaming Below→O,Hid→E
open Go.Value renaming slice→U,agg→ZW,tuple→ZY,pointer→G,int→ZV
open _root_.Bool renaming false→ZX
open _root_.Option renaming none→Z,some→V
namespace Go.Proofs.YtehfhemidmfffaaGreatDoor
open _root_.Array renaming getElem?_eq_some_iff→qG
open Go.RowKit.Below renaming refl→qD
open _root_.Bool renaming and_eq_true→qK
open _root_.Int renaming pow_pos→j9,pow_succ→kW
open _root_.List renaming append_assoc→q9,getD_eq_getElem?_getD→qC,length_map→qM,length_range→vB
open _root_.Nat renaming le_refl→qB,le_succ→vE,le_trans→qI,lt_of_lt_of_le→qE,lt_succ_self→qZ,zero_le→qJ
open Go.Proofs.Tryz renaming prog→qA
open Go.ChangeShapes Go.WideShapes Go.ChangeAt Go.RowKit Go.Deep Go.Shelf
open Terms
open Go.Proofs.Tryz renaming func116→eM,func118→eN,func123→eO,func147→eP,func33→eQ,func60→eR,func63→eS,func91→eU,func92→eV,ntmps116→eW,ntmps118→eX,ntmps123→eY,ntmps147→eZ,ntmps33→fa,ntmps60→fd,ntmps63→fe,ntmps91→ff,ntmps92→fg,underlying222→fh,underlying3→bI
open IntKind renaming i64→aY
open World renaming block_lt_of_cell?→bW,cell?_of_block→eJ,ownsMap→fj,ownsRow→fk,size_alloc→fp
open _root_.Prod renaming fst→aW
set_option maxHeartbeats 6400000
set_option maxRecDepth 20000
attribute [local go_sem] Oper.semAt_some
def Be(l:am)(claim:Int)(k:Nat)(j:Nat):Bool:=if Ag (l.getD j (0,0)).1=true/\(AO l j).length<k then DH claim (AO l j).length else ZX
def Hu(l:am)(letter:List Bool)(h:Nat->Bool)(p:Nat):Nat->Bool:=if Ag (l.getD p (0,0)).1=true then h else fun j=>if j=p then mkB (l.getD p (0,0)) letter (h (p+1)) (h (sec l p))else h j
def CE(l:am)(letter:List Bool)(h:Nat->Bool){n:Nat}(xs:List (Fin n)):Nat->Bool:=xs.foldl (fun h x=>Hu l letter h x.1) h
theorem LT(l:am)(letter:List Bool)(h:Nat->Bool){n:Nat}(xs:List (Fin n))(x:Fin n):CE l letter h (xs++[x])=Hu l letter (CE l letter h xs) x.1:=by simp[CE]
theorem Qs{l:am}{letter:List Bool}{claim:Int}(hz:AU (l.map aW)=0){n:Nat}(h0n:0<n)(hn:n=l.length) :
  ∀k,k<=n->∀j,j<n->CE l letter (Be l claim (AA l).length) (C3 h0n k) j=if n-k<=j then tru l letter claim j else Be l claim (AA l).length j:=by
 intro k;induction k with
 |zero=>
  intro _ j hj;rw[ak (by omega)];simp[C3,CE]
 |succ k ih=>
  intro hk j hj;have ih':=ih (by omega);rw[IX,LT];have hp:(Fc h0n k).1=n-1-k:=rfl;rw[hp];obtain⟨p,hpe⟩:∃p,p=n-1-k:=⟨_,rfl⟩;rw[<-hpe];have hpl:p<l.length:=by omega
  unfold Hu;cases hb:Ag (l.getD p (0,0)).1 with
  |true=>
   rw[aj rfl,ih' j hj];by_cases hjp:j=p
   .subst hjp;rw[ak (by omega),aj (by omega),WT hpl hb];unfold Be;exact aj ⟨hb,EY l hpl hb⟩
   .by_cases hle:n-k<=j
    .rw[aj hle,aj (by omega)]
    .rw[ak hle,ak (by omega)]
  |false=>
   rw[ak (by decide)];by_cases hjp:j=p
   .subst hjp;rw[aj rfl,aj (by omega)];obtain⟨h1,h2⟩:=Hd hz hpl;rw[WU hpl hb (fun h=>(h2 h).1)];have hpn:=Jk (l.getD j (0,0)).1;by_cases p2:pn (l.getD j (0,0)).1=2
    .obtain ⟨s1,s2⟩:=h2 p2;have s0:=h1 (by omega);rw[ih' (j+1) (by omega),ih' (sec l j) (by omega),aj (by omega),aj (by omega)]
    .have hk89:(l.getD j (0,0)).1≠8/\(l.getD j (0,0)).1≠9:=by
      constructor<;>intro e<;>rw[e]at p2<;>exact absurd rfl p2
     by_cases p1:pn (l.getD j (0,0)).1=1
     .have s0:=h1 (by omega);rw[ih' (j+1) (by omega),aj (by omega)];simp only[mkB,hk89.1,hk89.2,if_false]
     .have hk10:(l.getD j (0,0)).1≠10:=by intro e;rw[e]at p1;exact absurd rfl p1
      simp only[mkB,hk89.1,hk89.2,hk10,if_false]
   .rw[ak hjp,ih' j hj];by_cases hle:n-k<=j
    .rw[aj hle,aj (by omega)]
    .rw[ak hle,ak (by omega)]
structure TrSt(w:J)(fo ev av lv:ZZ)(n:Nat)(h:Nat->Bool)(W0s:Nat)(W:J):Prop where
 three:Bv W w.heap.size fo ev av
 letter:W.cell? ⟨w.heap.size+1,0,Z⟩=V lv
 holds:W.cell? ⟨w.heap.size+1+1+1,0,Z⟩=V (U (V ⟨w.heap.size+1+1,0,Z⟩) n n)
 row:W.rowIs (w.heap.size+1+1) 4 n (fun j=>.bool (h j))
 below:O w.heap.size w W
 size:W0s<=W.heap.size
theorem TrSt.later{w:J}{fo ev av lv:ZZ}{n:Nat}{h:Nat->Bool}{s B:Nat}{W W':J}(t:TrSt w fo ev av lv n h s W)(hb:O B W W')(hB:w.heap.size+4<=B):TrSt w fo ev av lv n h s W':=
 ⟨t.three.below hb (by omega),(hb.cell (p:=⟨w.heap.size+1,0,Z⟩) (by simp;omega)).trans t.letter,(hb.cell (p:=⟨w.heap.size+1+1+1,0,Z⟩) (by simp;omega)).trans t.holds,t.row.of_block (hb.block _ (by omega)),t.below.trans (hb.mono (by omega)),qI t.size hb.size⟩
theorem TrSt.congr{w:J}{fo ev av lv:ZZ}{n:Nat}{h h':Nat->Bool}{s:Nat}{W:J}(t:TrSt w fo ev av lv n h s W)(e:∀j,j<n->h j=h' j):TrSt w fo ev av lv n h' s W:=
 ⟨t.three,t.letter,t.holds,t.row.congr fun j hj=>by rw[e j hj],t.below,t.size⟩
theorem TrSt.put{w:J}{fo ev av lv:ZZ}{n:Nat}{h:Nat->Bool}{s:Nat}{W:J}(t:TrSt w fo ev av lv n h s W)(p:Nat)(x:Bool):TrSt w fo ev av lv n (fun j=>if j=p then x else h j) s (W.setCell ⟨w.heap.size+1+1,p,Z⟩ (.bool x)):=by
 have hb:∀k,k≠w.heap.size+1+1->(W.setCell ⟨w.heap.size+1+1,p,Z⟩ (.bool x)).heap[k]? = W.heap[k]?:=fun k hk=>Below.heap_setCell W _ _ k hk;have hc:∀k q,k≠w.heap.size+1+1->(W.setCell ⟨w.heap.size+1+1,p,Z⟩ (.bool x)).cell? ⟨k,q,Z⟩=W.cell? ⟨k,q,Z⟩:=fun k q hk=>eJ (w:=W) (hb k hk);have hf:∀q,(W.setCell ⟨w.heap.size+1+1,p,Z⟩ (.bool x)).frozen? ⟨w.heap.size,q,Z⟩=W.frozen? ⟨w.heap.size,q,Z⟩:=fun q=>by rw[World.frozen?_setCell]
 obtain⟨k0,k1,k2,f0,f1,f2,hl⟩:=t.three;refine⟨⟨(hc _ _ (by omega)).trans k0,(hc _ _ (by omega)).trans k1,(hc _ _ (by omega)).trans k2,(hf 0).trans f0,(hf 1).trans f1,(hf 2).trans f2,by simpa using hl⟩,(hc _ _ (by omega)).trans t.letter,(hc _ _ (by omega)).trans t.holds,?_,t.below.setCell (by simp;omega) _,by simpa using t.size⟩;refine(t.row.set p (.bool x)).congr fun i _=>?_;by_cases hip:i=p
 .rw[aj hip,aj hip]
 .rw[ak hip,ak hip]
theorem TrSt.drew{w:J}{fo ev av lv:ZZ}{n:Nat}{h:Nat->Bool}{s:Nat}{W:J}(t:TrSt w fo ev av lv n h s W):TrSt w fo ev av lv n h s W.drew:=
 ⟨⟨t.three.1,t.three.2.1,t.three.2.2.1,t.three.2.2.2.1,t.three.2.2.2.2.1,t.three.2.2.2.2.2.1,t.three.2.2.2.2.2.2⟩,t.letter,t.holds,t.row.of_block rfl,t.below.drew,t.size⟩
theorem PJ:∀c,c<64->(bits BinOp.and aY ((c:Nat):Int) 1 == 1)=decide (((c:Nat):Int) % 2=1):=by decide
theorem PH{claim:Int}{k:Nat}(h0:0<=claim)(h:claim<64):(bits BinOp.and aY (claim / 2^k) 1 == 1)=DH claim k:=by
 have h2:(0:Int)<2^k:=j9 (by decide);have h3:0<=claim / 2^k:=Int.ediv_nonneg h0 (Int.le_of_lt h2);have h4:claim / 2^k<=claim:=Int.ediv_le_self _ h0;obtain⟨c,hc⟩:∃c:Nat,claim / 2^k=c:=⟨(claim / 2^k).toNat,by omega⟩;unfold DH;rw[hc];exact PJ c (by omega)
theorem RY{l:am}{claim:Int}{k p:Nat}(hlk:Ag (l.getD p (0,0)).1=true)(hpi:(AO l p).length=k)(j:Nat):(if j=p then DH claim k else Be l claim k j)=Be l claim (k+1) j:=by
 unfold Be;by_cases hjp:j=p
 .subst hjp;rw[aj rfl,aj ⟨hlk,by omega⟩,hpi]
 .rw[ak hjp];by_cases hb:Ag (l.getD j (0,0)).1=true
  .have hne:(AO l j).length≠k:=by
    intro e;rcases Nat.lt_or_gt_of_ne hjp with h|h
    .have:=EY l h hb;omega
    .have:=EY l h hlk;omega
   by_cases hl:(AO l j).length<k
   .rw[aj ⟨hb,hl⟩,aj ⟨hb,by omega⟩]
   .rw[ak (fun h=>hl h.2),ak (fun h=>by have:=h.2;omega)]
  .rw[ak (fun h=>hb h.1),ak (fun h=>hb h.1)]
theorem Wd(fv lv:ZZ)(fo ev:ZZ)(aao:Option Addr)(an ac:Nat)(claim:Int)(lo:Option Addr)(ln lc:Nat)(oo eo:Option Addr)(on oc en ec:Nat)(hfo:fo=U oo on oc)(hev:ev=U eo en ec)(hlv:lv=U lo ln lc)(hfv:fv=ZW #[fo,ev,U aao an ac])(h6:an<=6)(w:J)(h:claim<0\/2^an<=claim) :
  I qA 60 #[fv,lv,.int T claim] w fun e w'=>e=N (ZY #[U Z 0 0,.int T 2])/\O w.heap.size w w':=by
 subst hfo hev hlv hfv;have hb:∀o o',O w.heap.size w ((w.alloc o).alloc o'):=fun o o'=>((qD _ _).alloc (qB _) o).alloc (by simp) o';rcases h with h|h
 .go_enter eR,fd;go_wp2_with fail
  go_ret2;exact⟨rfl,hb _ _⟩
 .have h0:0<=claim:=by have:(0:Int)<2^an:=j9 (by decide);omega
  have hcase:an=0\/an=1\/an=2\/an=3\/an=4\/an=5\/an=6:=by omega
  clear h6;rcases hcase with rfl|rfl|rfl|rfl|rfl|rfl|rfl;all_goals
   simp only[Int.reducePow]at h;go_enter eR,fd;go_wp2_with fail
   go_ret2;exact⟨rfl,hb _ _⟩
theorem Wj{P:Program}(L n:Nat){o:Oper}{a:Act}{next:Act->J->Prop}{Q:Exit->Act->J->Prop}{r:Result Next}(h:o.upon P a next Q r):o.uponIn (Fence.wide.inRound L) n P a next Q r:=by
 have hd:∀m:Nat,(Fence.wide.inRound L).depth.isSome=true->1<=m:=fun m h=>by simp[Fence.wide,Fence.inRound]at h
 cases r with
 |halt x w'=>cases x<;>first|exact h|exact h.elim
 |ok x w'=>
  cases x with
  |value v=>exact h
  |skip=>exact h
  |defer d=>exact h
  |enter f args=>exact⟨hd _,CallsIn.inRound L ((callsIn_wide.2 h).mono fun e w'' he=>by cases e<;>exact he)⟩
  |row row args=>exact⟨hd _,fun c cs _=>by obtain⟨v,w'',h1,h2⟩:=h c cs;exact⟨v,w'',h1,stepsIn_wide.2 h2⟩⟩
  |_=>exact(h:False).elim
theorem Ot{P:Program}(L n:Nat){md:Region.Mode}{ops:Array Oper}{Q:Exit->Act->J->Prop}(hd:∀(i:Nat) (o:Oper),ops[i]? = V o->∀c,o.op≠Op.defer c)(hQ:LetsOut Q->False) :
  ∀(fuel:Nat) (listed:Array Bool) (a:Act) (w:J),wpAny P md ops Q fuel listed a w->wpAnyIn (Fence.wide.inRound L) n P md ops Q fuel listed a w:=by
 intro fuel;induction fuel with
 |zero=>intro listed a w h;exact h
 |succ fuel ih=>
  intro listed a w h;refine⟨h.1,fun i hi=>?_⟩;have h1:=wpOp_mono (K':=wpAnyIn (Fence.wide.inRound L) n P md ops Q fuel (listed.setIfInBounds i true)) (fun a' w' h'=>ih _ a' w' h') (h.2 i hi);unfold wpOp at h1;unfold wpOpIn;cases ho:ops[i]? with
  |none=>simp only[ho]at h1⊢;exact h1
  |some o=>
   simp only[ho]at h1⊢;split
   .rename_i hw;rw[aj hw]at h1;rcases h1 with h1|⟨_,h1⟩
    .refine ⟨fun f _=>trivial,?_⟩;rw[Oper.semAt_eq _ _ _ (hd i o ho)];exact Wj L n h1
    .exact (hQ h1).elim
   .rename_i hw;rw[ak hw]at h1;exact⟨fun f _=>trivial,h1⟩
theorem UX{P:Program}{L n id:Nat}{ops:Array Oper}{Q:Exit->Act->J->Prop}{a:Act}{w:J}(S:J->Prop)(hm:P.follows .mixedOrders=true)(hd:∀(i:Nat) (o:Oper),ops[i]? = V o->∀c,o.op≠Op.defer c)(hQ:LetsOut Q->False)
  (h:wpAnyH P .any ops Q S ops.size (Array.replicate ops.size ZX) a w.drew):(Code.region id ops true).wpIn (Fence.wide.inRound L) n P Q a w:=
 wpIn_region_any hm (Ot L n hd hQ _ _ _ _ (wpAny_of_held _ _ _ _ h))
theorem XA{P:Program}{ops:Array Oper}{Q:Exit->Act->J->Prop}{i:Nat}{K:Act->J->Prop}{a:Act}{w:J}{o:Oper}{f:FuncId}{args:Array ZZ}{R:Ending->J->Prop}(hi:ops[i]? = V o)(hw:Region.wanted o (yielded ops a.tmps)=true)(hr:(execOp a.eval o).run P w=.ok (.enter f args) w)(h:I P f args w R)
  (hR:∀e w',R e w'->∃v,e=N v/\K (a.put o.dst v) w'):wpOp P ops Q i K a w:=by
 unfold wpOp;simp only[hi];rw[aj hw];refine Or.inl ?_;unfold Oper.wp;rw[hr];refine h.mono fun e w' he=>?_;obtain⟨v,rfl,hk⟩:=hR e w' he;exact hk
theorem XB{P:Program}{ops:Array Oper}{Q:Exit->Act->J->Prop}{i:Nat}{K:Act->J->Prop}{a:Act}{w w':J}{o:Oper}(hi:ops[i]? = V o)(hw:Region.wanted o (yielded ops a.tmps)=true)(hr:(execOp a.eval o).run P w=.ok .skip w')(h:K (a.put o.dst undef) w'):wpOp P ops Q i K a w:=by
 unfold wpOp;simp only[hi];rw[aj hw];refine Or.inl ?_;unfold Oper.wp;rw[hr];exact h
attribute [local go_sem] Oper.semAt_some
def Nz(p3 p4 p8 p11 p12 r0 r1 r2 r5 r6 r7 r9 r10 r13 r14 r15 r16 r17 r18 r19 r20 r21 r22 r23 r24 r25 r26 r27 r28 r29 r30 r31 r32 r33 r34 r35 r36 r37 r38 r39 r40 r41 r42 r43 r44 r45 r46 r47 r48 r49 r50 r51 r52 r53 r54 r55 r56 r57 r58 r59 r60 r61 r62 r63 r64 r65 r66 r67 r68 r69 r70:ZZ):Act:={ tmps:=#[r0,r1,r2,p3,p4,r5,r6,r7,p8,r9,r10,p11,p12,r13,r14,r15,r16,r17,r18,r19,r20,r21,r22,r23,r24,r25,r26,r27,r28,r29,r30,r31,r32,r33,r34,r35,r36,r37,r38,r39,r40,r41,r42,r43,r44,r45,r46,r47,r48,r49,r50,r51,r52,r53,r54,r55,r56,r57,r58,r59,r60,r61,r62,r63,r64,r65,r66,r67,r68,r69,r70],defers:=[]}
def Oa(w:J)(s:Nat)(o:Int×Int)(p:Nat)(a':Act)(W:J):Prop:=∃Bx,s<=Bx/\W.cell? ⟨Bx,0,Z⟩=V (.int T o.1)/\W.cell? ⟨Bx,1,Z⟩=V (.int T o.2)/\∃r0 r1 r2 r5 r6 r7 r9 r10 r13 r14 r15 r16 r17 r18 r19 r20 r21 r22 r23 r24 r25 r26 r27 r28 r29 r30 r31 r32 r33 r34 r35 r36 r37 r38 r39 r40 r41 r42 r43 r44 r45 r46 r47 r48 r49 r50 r51 r52 r53 r54 r55 r56 r57 r58 r59 r60 r61 r62 r63 r64 r65 r66 r67 r68 r69 r70:ZZ,a'=Nz (G (V ⟨w.heap.size,0,Z⟩)) (G (V ⟨w.heap.size+1,0,Z⟩)) (G (V ⟨w.heap.size+1+1+1,0,Z⟩)) (.int T (p:Int)) (G (V ⟨Bx,0,Z⟩)) r0 r1 r2 r5 r6 r7 r9 r10 r13 r14 r15 r16 r17 r18 r19 r20 r21 r22 r23 r24 r25 r26 r27 r28 r29 r30 r31 r32 r33 r34 r35 r36 r37 r38 r39 r40 r41 r42 r43 r44 r45 r46 r47 r48 r49 r50 r51 r52 r53 r54 r55 r56 r57 r58 r59 r60 r61 r62 r63 r64 r65 r66 r67 r68 r69 r70
theorem Rl{B:Nat}{W W':J}(h:O W.heap.size W W'):KeepsFrom B W W':=⟨h.size,fun k _ _ hk _=>(h.block k (qG.1 hk).1).trans hk⟩
set_option maxRecDepth 100000 in
theorem Wa(b off cap n B:Nat)(aao:Option Addr)(an ac:Nat)(lo:Option Addr)(ln lc:Nat)(l:am)(letter:List Bool)(claim:Int)(w:J)(h0n:0<n)(h60:n<=60)(hn:n=l.length)(hz:AU (l.map aW)=0)(hops:BR w b off l)(hbl:b<w.heap.size)
  (hrow:w.rowIs B 3 n (fun q=>.int T (An (l.map aW) q))) (han:an=(AA l).length) (hav:IntsV w (U aao an ac) (AA l)) (h6:an<=6) (hln:ln=letter.length) (hL:BoolsV w (U lo ln lc) letter) (hlf:CF ln l=0) (h0:0<=claim) (h1:claim<2^an) :
  I qA 60 #[ZW #[U (V ⟨b,off,Z⟩) n cap,U (V ⟨B,0,Z⟩) n n,U aao an ac],U lo ln lc,.int T claim] w fun e w'=>∃bH,e=N (ZY #[U (V ⟨bH,0,Z⟩) n n,.int T 0])/\O w.heap.size w w'/\E (w'.rowIs bH 4 n (fun j=>.bool (tru l letter claim j)))/\w.heap.size<=bH:=by
 refine(callsIn_wide (n:=8)).1 ?_;refine callsIn_of_wp_marks eR rfl trivial ?_ rfl;simp only[fd,List.size_toArray,List.length_cons,List.length_nil,Nat.reduceAdd,Nat.reduceSub,Array.replicate_succ,Array.replicate_zero,List.push_toArray,List.append_toArray,List.nil_append,List.cons_append];have hmk:=run_make_row' (P:=qA) 111 4 (.bool ZX) 1 Tryz.underlying111 Gp rfl .i64 .i64 n (by omega) (by omega);have HO:E (BR w b off l):=hops;have HN:E (n=l.length):=hn;have HR:E (w.rowIs B 3 n (fun q=>.int T (An (l.map aW) q))):=hrow;have HAN:E (an=(AA l).length):=han;have HAV:E (IntsV w (U aao an ac) (AA l)):=hav;have HLN:E (ln=letter.length):=hln;have HL:E (BoolsV w (U lo ln lc) letter):=hL;have HLF:E (CF ln l=0):=hlf;have HZ:E (AU (l.map aW)=0):=hz;clear hops hn hrow han hav hln hL hlf hz;have hcase:an=0\/an=1\/an=2\/an=3\/an=4\/an=5\/an=6:=by omega
 have hsh:(2:Int)^an<=64:=by rcases hcase with rfl|rfl|rfl|rfl|rfl|rfl|rfl<;>decide
 clear hcase;gi_wp2
 have HS0:E (TrSt w (U (V ⟨b,off,Z⟩) n cap) (U (V ⟨B,0,Z⟩) n n) (U aao an ac) (U lo ln lc) n (Be l claim 0) 0 ((((w.alloc (C #[U (V ⟨b,off,Z⟩) n cap,U (V ⟨B,0,Z⟩) n n,U aao an ac] 138)).alloc (C #[U lo ln lc] 111)).alloc (C (madeCells #[.bool ZX] n) 4)).alloc (C #[U (V ⟨w.heap.size+1+1,0,Z⟩) n n] 111))):=by
  have r:=World.rowIs_made ((w.alloc (C #[U (V ⟨b,off,Z⟩) n cap,U (V ⟨B,0,Z⟩) n n,U aao an ac] 138)).alloc (C #[U lo ln lc] 111)) (.bool ZX) n 4;simp only[fp]at r;have hB3:∀o1 o2 o3 o4,O (w.heap.size+1) (w.alloc o1) ((((w.alloc o1).alloc o2).alloc o3).alloc o4):=fun o1 o2 o3 o4=>(((qD _ _).alloc (by simp) o2).alloc (by simp) o3).alloc (by simp) o4;exact⟨(Bv.new w _ _ _ _).below (hB3 _ _ _ _) (qZ _),by simp[go_sem],by simp[go_sem],(r.of_block (Below.heap_alloc _ _ _ r.lt)).congr (fun j _=>by simp[Be]),(((ai).alloc (by simp) _).alloc (by simp;omega) _).alloc (by simp;omega) _,qJ _⟩
 gi_loopw [32] (fun i wr=>∃k:Nat,k<=an/\i=.int T k/\E (TrSt w (U (V ⟨b,off,Z⟩) n cap) (U (V ⟨B,0,Z⟩) n n) (U aao an ac) (U lo ln lc) n (Be l claim k) 0 wr)) (fun i _=>an-(intOf i).toNat)
 case atStart=>
  exact⟨0,qJ _,rfl,HS0.out⟩
 case round=>
  obtain⟨k,hk,rfl,HSt⟩:=hrel;have hst:=HSt.out;by_cases hlt:k<an
  .obtain ⟨p,hp,hpn,hlk,hpi⟩:=GJ l l.length k (by have:=HAN.out;unfold AA at this;omega);obtain⟨ao',cap',hsl,hai⟩:=HAV.out;injection hsl with e1 e2 e3;subst e1;obtain⟨ab,aoff,rfl,habl,haat⟩:=hai (by intro h;have:=HAN.out;rw[h]at this;simp at this;omega);have hca:=(hst.below.cell (p:=⟨ab,aoff+k,Z⟩) habl).trans (haat k (by rw[<-HAN.out];exact hlt));have hca':wr.cell? ⟨ab,aoff+k,Z⟩=V (.int T (p:Int)):=by rw[hca];exact congrArg (fun z=>V (Value.int .i64 z)) hp
   have hch:=hst.holds;have hf:=hst.row.frozen p;have hpn':p<n:=by rw[HN.out];exact hpn
   have hcp:=hst.row.cell hpn';obtain⟨t0,t1,t2,_⟩:=hst.three;have HP:E (Ag (l.getD p (0,0)).1=true/\(AO l p).length=k):=⟨hlk,hpi⟩;clear hp hpn hlk hpi hai haat hca e2 e3;have hmx:qA.follows .mixedOrders=true:=by kernel_rfl
   gi_wp2
   gi_region_o
   all_goals gi_wp2
   refine⟨⟨k+1,hlt,by first|rfl|simp,?_⟩,by simp[intOf];omega⟩;rw[PH h0 (by omega)];exact((hst.put p (DH claim k)).congr (fun j _=>RY HP.out.1 HP.out.2 j)).drew
  .obtain rfl:k=an:=by omega
   have HAL:E (k=(AA l).length):=HAN.out;obtain⟨t0,t1,t2,_⟩:=hst.three;generalize wr=W1 at *;clear hmk HS0 hlt hk HAV
   gi_wp2_with (refine⟨trivial,?_⟩;gi_at_call 86;refine(O9 Fence.wide _ trivial rfl _ _ _ _).mono ?_;rintro e w' ⟨rfl,rfl⟩)
   have hs3:w.heap.size+4<=W1.heap.size:=by have:=bW W1 ⟨w.heap.size+1+1+1,0,Z⟩ hst.holds;simp at this;omega
   refine wpIn_rangeFunc_ownH rfl (by decide) (gf:=119) (lb:=#[G (V ⟨W1.heap.size,0,Z⟩)]) rfl trivial (enters_of Tryz.func119 (by kernel_rfl) rfl)
    (PA Fence.wide 7 trivial rfl (by decide) W1.heap.size w.heap.size b off n cap l h0n h60 HN.out hbl _ (by simp) (by simp;omega) (by simp[go_sem]) (HO.out.below (hst.below.alloc hst.below.size _) hbl)) O7 (O6 (by simp;omega) (by simp)) (qD _ _) (fun _=>rfl)
    (fun pre W=>TrSt w (U (V ⟨b,off,Z⟩) n cap) (U (V ⟨B,0,Z⟩) n n) (U aao k ac) (U lo ln lc) n (CE l letter (Be l claim k) pre) (W1.heap.size+1) W)
    (fun _ _ _=>False)
    (fun s A Bw row hs hg hr=>hs.later (B:=W1.heap.size+1) ((qD _ _).grown hg hs.size (fun z e=>by have:=(hr z e).1;simp at this;omega)) (by omega))
    (fun _ _ _ _ _ hs _ _=>hs)
    ?h0 (fun x=>Oa w (W1.heap.size+1) (l.getD x.1 (0,0)) x.1) (fun x a' _ X Y row hs hg hr=>by obtain⟨Bx,h1,h2,h3,h4⟩:=hs;exact⟨Bx,h1,cell_kept h2 hg (fun r e=>(hr r e).2),cell_kept h3 hg (fun r e=>(hr r e).2),h4⟩)
    ?assign ?body ?done ?stop
   case h0=>
    have t:=hst.later ((qD W1.heap.size W1).alloc (qB _) (C #[U (V ⟨b,off,Z⟩) n cap] 33)) (by omega);exact⟨t.three,t.letter,t.holds,t.row,t.below,by simp⟩
   case assign=>
    rintro L pre x W K hi hK;have hsz:=hi.size;unfold GL;gi_wp2
    refine hK _ _ ?ka ?kb ?kc ?kd;case ka=>exact(KeepsOthers.alloc _ _).from _
    case kb=>exact⟨(qD _ W).alloc hi.below.size _,Below.heap_alloc _ _ _ (by omega)⟩
    case kc=>exact hi.later ((qD W.heap.size W).alloc (qB _) _) (by omega)
    case kd=>exact⟨W.heap.size,by omega,by simp[go_sem],by simp[go_sem],_,_,_,_,_,_,_,_,_,_,_,_,_,_,_,_,_,_,_,_,_,_,_,_,_,_,_,_,_,_,_,_,_,_,_,_,_,_,_,_,_,_,_,_,_,_,_,_,_,_,_,_,_,_,_,_,_,_,_,_,_,_,_,_,_,_,rfl⟩
   case body=>
    rintro L pre x a' W hl ⟨r,hr⟩ hi ⟨Bx,hBx,cx0,cx1,r0,r1,r2,r5,r6,r7,r9,r10,r13,r14,r15,r16,r17,r18,r19,r20,r21,r22,r23,r24,r25,r26,r27,r28,r29,r30,r31,r32,r33,r34,r35,r36,r37,r38,r39,r40,r41,r42,r43,r44,r45,r46,r47,r48,r49,r50,r51,r52,r53,r54,r55,r56,r57,r58,r59,r60,r61,r62,r63,r64,r65,r66,r67,r68,r69,r70,rfl⟩ hlen;have hsz:=hi.size;have hfa:=SB HLF.out x.1 (by rw[<-HN.out];exact x.2);obtain⟨hp1,hp2⟩:=Hd HZ.out (p:=x.1) (by rw[<-HN.out];exact x.2);have HSt:E (TrSt w (U (V ⟨b,off,Z⟩) n cap) (U (V ⟨B,0,Z⟩) n n) (U aao k ac) (U lo ln lc) n (CE l letter (Be l claim k) pre) (W1.heap.size+1) W):=hi;have HNx:=LT l letter (Be l claim k) pre x;unfold Hu at HNx;have HNx':E (CE l letter (Be l claim k) (pre++[x])=if Ag (l.getD x.1 (0,0)).1=true then CE l letter (Be l claim k) pre else fun j=>if j=x.1 then mkB (l.getD x.1 (0,0)) letter (CE l letter (Be l claim k) pre (x.1+1)) (CE l letter (Be l claim k) pre (sec l x.1))else CE l letter (Be l claim k) pre j):=HNx;clear HNx;obtain⟨nx,hnx⟩:∃nx,CE l letter (Be l claim k) (pre++[x])=nx:=⟨_,rfl⟩;have HNX:E (CE l letter (Be l claim k) (pre++[x])=nx):=hnx;rw[hnx]at HNx';clear hnx;generalize CE l letter (Be l claim k) pre=h at *;obtain⟨p,hpn⟩:=x;simp only at cx0 cx1 hfa hp1 hp2 HNx'
    generalize l.getD p (0,0)=xy at *;obtain⟨kx,vx⟩:=xy;simp only at cx0 cx1 hfa hp1 hp2 HNx'
    have hlk:=fun w=>L9 kx w;have hBxl:Bx<W.heap.size:=bW W ⟨Bx,0,Z⟩ cx0;have hmx:qA.follows .mixedOrders=true:=by kernel_rfl
    unfold Nz;cases hb:Ag kx with
    |true=>
     have HE:E (nx=h):=by show _=_;rw[HNx'.out,aj hb]
     rw[hb]at hlk;clear hb HNx' hp1 hp2 hfa;gi_wp2_with (refine⟨trivial,?_⟩;gi_at_call 80;refine(CallsIn.inRound L (callsIn_wide.2 (hlk _))).mono ?_;rintro e w2 ⟨rfl,rfl⟩)
     refine⟨KeepsFrom.refl _ _,⟨qD _ _,rfl⟩,?_⟩;show TrSt w _ _ _ _ n (CE l letter (Be l claim k) (pre++[⟨p,hpn⟩])) _ _;rw[HNX.out,HE.out];exact HSt.out
    |false=>
     have HE:E (nx=fun j=>if j=p then mkB (kx,vx) letter (h (p+1)) (h (sec l p))else h j):=by show _=_;rw[HNx'.out,ak (by rw[hb];decide)]
     rw[hb]at hlk;have hop:A4 (ln:Int) (kx,vx)=0:=hfa;have hk8:8<=kx:=by
      simp only[A4]at hop;split at hop
      .omega
      .omega
     have h13:kx=13->0<=vx/\vx<letter.length:=fun e=>by
      simp only[A4]at hop;rw[ak (by omega),aj e]at hop;split at hop
      .omega
      .have:=HLN.out;omega
     have hpr:kx=10\/kx=8\/kx=9->p+1<n:=fun e=>by rw[HN.out];exact hp1 (by rcases e with rfl|rfl|rfl<;>decide)
     have hps:kx=8\/kx=9->sec l p<n:=fun e=>by rw[HN.out];exact(hp2 (by rcases e with rfl|rfl<;>decide)).2
     have hBl:B<w.heap.size:=HR.out.lt;have hpa:=He b off cap n B (w.heap.size+1+1) p _ h l aao k ac rfl W (fun j hj=>hi.row.cell hj) hi.row.lt (fun j hj=>(hi.below.cell (p:=⟨B,j,Z⟩) hBl).trans (HR.out.cell hj)) (qE hBl hi.below.size);obtain⟨t0,t1,t2,_⟩:=hi.three;have hch:=hi.holds;have hcl:=hi.letter;have HMk:E (∀w2,O W.heap.size W w2->PartsAt w2 (W.heap.size+1+1) W.heap.size (W.heap.size+1) (w.heap.size+1+1) n B p h l->I qA 88 #[ZW #[ZV T kx,.int T vx],U lo ln lc,.func (.func 120) #[] #[G (V ⟨W.heap.size+1+1,0,Z⟩),G (V ⟨W.heap.size+1,0,Z⟩)],.func (.func 121) #[] #[G (V ⟨W.heap.size+1+1,0,Z⟩),G (V ⟨W.heap.size,0,Z⟩),G (V ⟨W.heap.size+1,0,Z⟩)]] w2.drew fun e w'=>
       e=N (.bool (mkB (kx,vx) letter (h (p+1)) (h (sec l p))))/\O W.heap.size W w'/\w'.cell? ⟨w.heap.size+1+1+1,0,Z⟩=V (U (V ⟨w.heap.size+1+1,0,Z⟩) n n)/\w'.cell? ⟨w.heap.size+1+1,p,Z⟩=V (.bool (h p))/\w'.frozen? ⟨w.heap.size+1+1,p,Z⟩=ZX):=fun w2 hb2 hP=>by
      have hlt:W.heap.size+1+1<w2.heap.size:=bW w2 ⟨W.heap.size+1+1,0,Z⟩ hP.holds;have hbd:O W.heap.size W w2.drew:=hb2.drew;have hPd:PartsAt w2.drew (W.heap.size+1+1) W.heap.size (W.heap.size+1) (w.heap.size+1+1) n B p h l:=⟨hP.holds,hP.row,hP.ends,hP.erow,hP.place⟩;have hLd:BoolsV w2.drew (.slice lo letter.length lc) letter:=by rw[<-HLN.out];exact(HL.out.below hi.below).below hbd
      have hsw:w2.drew.heap.size=w2.heap.size:=rfl;have hrl:=hi.row.lt;rw[HLN.out];refine(ST kx vx lo lc _ _ _ _ n B p letter h l w2.drew h60 hLd hPd (by omega) (by omega) (by omega) (by omega) (by omega) h13 hpr hps).mono fun e w' ⟨he,hb⟩=>?_;have hbf:O W.heap.size W w':=hbd.trans (hb.mono (by omega));exact⟨he,hbf,(hbf.cell (p:=⟨w.heap.size+1+1+1,0,Z⟩) (bW W _ hch)).trans hch,(hbf.cell (p:=⟨w.heap.size+1+1,p,Z⟩) hrl).trans (hi.row.cell hpn),(hbf.frozen (p:=⟨w.heap.size+1+1,p,Z⟩) hrl).trans (hi.row.frozen p)⟩
     generalize mkB (kx,vx) letter (h (p+1)) (h (sec l p))=tv at HMk HE;have HC2:E (∀w2,O W.heap.size W w2->w2.cell? ⟨w.heap.size+1+1+1,0,Z⟩=V (U (V ⟨w.heap.size+1+1,0,Z⟩) n n)/\w2.cell? ⟨w.heap.size+1,0,Z⟩=V (U lo ln lc)/\w2.cell? ⟨Bx,0,Z⟩=V (.int T kx)/\w2.cell? ⟨Bx,1,Z⟩=V (.int T vx)):=fun w2 hb=>⟨(hb.cell (p:=⟨w.heap.size+1+1+1,0,Z⟩) (bW W _ hch)).trans hch,(hb.cell (p:=⟨w.heap.size+1,0,Z⟩) (bW W _ hcl)).trans hcl,(hb.cell (p:=⟨Bx,0,Z⟩) hBxl).trans cx0,(hb.cell (p:=⟨Bx,1,Z⟩) hBxl).trans cx1⟩;clear hb HNx' hp1 hp2 hfa hop h13 hpr hps hi;gi_wp2_with (first|(refine⟨trivial,?_⟩;gi_at_call 80;refine(CallsIn.inRound L (callsIn_wide.2 (hlk _))).mono ?_;rintro e wz ⟨rfl,hwz⟩;obtain rfl:=hwz.symm)|(refine⟨trivial,?_⟩;gi_at_call 87;refine(CallsIn.inRound L (callsIn_wide.2 hpa)).mono ?_;rintro e w2 ⟨rfl,hb2,HP2⟩;obtain⟨d0,d1,d2,d3⟩:=HC2.out w2 hb2;have hma:=HMk.out w2 hb2 HP2.out))
     refine UX (fun w'=>w'.cell? ⟨w.heap.size+1+1+1,0,Z⟩=V (U (V ⟨w.heap.size+1+1,0,Z⟩) n n)/\w'.cell? ⟨w.heap.size+1,0,Z⟩=V (U lo ln lc)/\w'.cell? ⟨Bx,0,Z⟩=V (.int T kx)/\w'.cell? ⟨Bx,1,Z⟩=V (.int T vx)) hmx ?nd ?nl ?_;case nd=>
      intro i o ho c;have hi:i<9:=(qG.1 ho).1;have hc:i=0\/i=1\/i=2\/i=3\/i=4\/i=5\/i=6\/i=7\/i=8:=by omega
      rcases hc with rfl|rfl|rfl|rfl|rfl|rfl|rfl|rfl|rfl<;>(obtain rfl:=Option.some.inj ho;exact fun h=>by cases h)
     case nl=>exact fun⟨_,_,h⟩=>h
     have hS2:w2.drew.cell? ⟨w.heap.size+1+1+1,0,Z⟩=V (U (V ⟨w.heap.size+1+1,0,Z⟩) n n)/\w2.drew.cell? ⟨w.heap.size+1,0,Z⟩=V (U lo ln lc)/\w2.drew.cell? ⟨Bx,0,Z⟩=V (.int T kx)/\w2.drew.cell? ⟨Bx,1,Z⟩=V (.int T vx):=⟨d0,d1,d2,d3⟩;refine wpAnyH_take (i:=0) (v:=U (V ⟨w.heap.size+1+1,0,Z⟩) n n) rfl (by kernel_rfl) (by kernel_rfl) (by kernel_rfl) (fun _ _ _ h=>h) (Or.inl ⟨by rfl,fun wq hSw=>by obtain⟨q0,q1,q2,q3⟩:=hSw;go_simp⟩) hS2 ?_;simp only[Act.put,List.setIfInBounds_toArray];refine wpAnyH_take (i:=1) (v:=.int T (p:Int)) rfl (by kernel_rfl) (by kernel_rfl) (by kernel_rfl) (fun _ _ _ h=>h) (Or.inl ⟨by rfl,fun wq hSw=>by obtain⟨q0,q1,q2,q3⟩:=hSw;go_simp⟩) hS2 ?_;simp only[Act.put];refine wpAnyH_take (i:=2) (v:=ZW #[ZV T kx,.int T vx]) rfl (by kernel_rfl) (by kernel_rfl) (by kernel_rfl) (fun _ _ _ h=>h) (Or.inl ⟨by rfl,fun wq hSw=>by obtain⟨q0,q1,q2,q3⟩:=hSw;go_simp⟩) hS2 ?_;simp only[Act.put];refine wpAnyH_take (i:=3) (v:=U lo ln lc) rfl (by kernel_rfl) (by kernel_rfl) (by kernel_rfl) (fun _ _ _ h=>h) (Or.inl ⟨by rfl,fun wq hSw=>by obtain⟨q0,q1,q2,q3⟩:=hSw;go_simp⟩) hS2 ?_;simp only[Act.put];refine wpAnyH_take (i:=4) (v:=.func (.func 120) #[] #[G (V ⟨W.heap.size+1+1,0,Z⟩),G (V ⟨W.heap.size+1,0,Z⟩)]) rfl (by kernel_rfl) (by kernel_rfl) (by kernel_rfl) (fun _ _ _ h=>h) (Or.inl ⟨by rfl,fun wq hSw=>by obtain⟨q0,q1,q2,q3⟩:=hSw;go_simp⟩) hS2 ?_;simp only[Act.put];refine wpAnyH_take (i:=5) (v:=.func (.func 121) #[] #[G (V ⟨W.heap.size+1+1,0,Z⟩),G (V ⟨W.heap.size,0,Z⟩),G (V ⟨W.heap.size+1,0,Z⟩)]) rfl (by kernel_rfl) (by kernel_rfl) (by kernel_rfl) (fun _ _ _ h=>h) (Or.inl ⟨by rfl,fun wq hSw=>by obtain⟨q0,q1,q2,q3⟩:=hSw;go_simp⟩) hS2 ?_;simp only[Act.put];refine wpAnyH_all (rs:=[6]) (by kernel_rfl) (by decide) ?_;intro i hi;obtain rfl:i=6:=by simpa using hi
     refine XA rfl (by rfl) (by go_simp) hma ?_;rintro e w3 ⟨rfl,hb3,g0,g1,g2⟩;obtain⟨e0,e1,e2,e3⟩:=HC2.out w3 hb3;refine⟨_,rfl,⟨e0,e1,e2,e3⟩,?_⟩;simp only[Act.put];refine wpAnyH_take (i:=7) (v:=G (V ⟨w.heap.size+1+1,p,Z⟩)) rfl (by kernel_rfl) (by kernel_rfl) (by kernel_rfl) (fun _ _ _ h=>h) (Or.inl ⟨by rfl,fun wq _=>by go_simp⟩) ⟨e0,e1,e2,e3⟩ ?_;simp only[Act.put];refine wpAnyH_all (rs:=[8]) (by kernel_rfl) (by decide) ?_;intro i hi;obtain rfl:i=8:=by simpa using hi
     have hco:∀z q,z≠w.heap.size+1+1->(w3.setCell ⟨w.heap.size+1+1,p,Z⟩ (.bool tv)).cell? ⟨z,q,Z⟩=w3.cell? ⟨z,q,Z⟩:=fun z q hz=>eJ (w:=w3) (Below.heap_setCell w3 _ _ z hz);refine XB (w':=w3.setCell ⟨w.heap.size+1+1,p,Z⟩ (.bool tv)) rfl (by rfl) (by go_simp) ⟨⟨(hco _ _ (by omega)).trans e0,(hco _ _ (by omega)).trans e1,(hco _ _ (by omega)).trans e2,(hco _ _ (by omega)).trans e3⟩,?_⟩;refine wpAnyH_done (by kernel_rfl) ?_ _;have hW4:w.heap.size+4<=W.heap.size:=by omega
     refine⟨(Rl hb3).trans ((KeepsOthers.setCell _ _ _).from _),⟨(hb3.mono HSt.out.below.size).setCell (by simp;omega) _,(Below.heap_setCell w3 _ _ W1.heap.size (by simp;omega)).trans (hb3.block _ (by omega))⟩,?_⟩;show TrSt w _ _ _ _ n (CE l letter (Be l claim k) (pre++[⟨p,hpn⟩])) _ _;rw[HNX.out,HE.out];exact(HSt.out.later hb3 hW4).put p tv
   case done=>
    rintro D xs W hD rfl hi hK;have hch:=hi.holds;have HT:E (TrSt w (U (V ⟨b,off,Z⟩) n cap) (U (V ⟨B,0,Z⟩) n n) (U aao k ac) (U lo ln lc) n (tru l letter claim) (W1.heap.size+1) W):=hi.congr (fun j hj=>by rw[HAL.out,Qs HZ.out h0n HN.out n (qB _) j hj,aj (by omega)]);clear hi;gi_wp2
    refine⟨by simp,.inl ⟨_,_,rfl,run_takeDeferred hK,?_⟩⟩;have hb':O (W1.heap.size+1) W (W.putObj D (.deferred Z)):=belowK_b (w:=W1.alloc (C #[U (V ⟨b,off,Z⟩) n cap] 33)) (by simp) W D _ _ hD hK rfl rfl;have t':=HT.out.later hb' (by omega);exact⟨_,results_tmp2 rfl _ _ _,_,rfl,t'.below,t'.row,by omega⟩
   case stop=>
    rintro D c pre W _ _ h _;exact h.elim
open Go.ChangeShapes Go.WideShapes Go.ChangeAt Go.RowKit Go.Deep
def BG(w:J)(v:ZZ)(B:Nat)(av:ZZ)(l:am):Prop:=
 ∃b off cap,v=U (V ⟨b,off,Z⟩) l.length cap/\b<w.heap.size/\BR w b off l/\w.rowIs B 3 l.length (fun q=>.int T (An (l.map aW) q))/\IntsV w av (AA l)
theorem BG.below{w w':J}{v:ZZ}{B:Nat}{av:ZZ}{l:am}(h:BG w v B av l)(hb:O w.heap.size w w'):BG w' v B av l:=by
 obtain⟨b,off,cap,h1,h2,h3,h4,h5⟩:=h;exact⟨b,off,cap,h1,qE h2 hb.size,h3.below hb h2,CA h4 hb,h5.below hb⟩
def CB(l:am)(claim:Int):Prop:=claim<0\/2^(AA l).length<=claim
def IL(l:am)(letter:List Bool)(claim:Int)(w:J)(e:Ending)(w':J):Prop:=
 O w.heap.size w w'/\(CB l claim->e=N (ZY #[U Z 0 0,.int T 2]))/\(¬CB l claim->∃bH,e=N (ZY #[U (V ⟨bH,0,Z⟩) l.length l.length,.int T 0])/\w'.rowIs bH 4 l.length (fun j=>.bool (tru l letter claim j)))
theorem G0(v:ZZ)(B:Nat)(av lv:ZZ)(l:am)(letter:List Bool)(claim:Int)(w:J)(hc:Ad letter.length l=0)(hV:BG w v B av l)(hL:BoolsV w lv letter) :
  I qA 60 #[ZW #[v,U (V ⟨B,0,Z⟩) l.length l.length,av],lv,.int T claim] w (IL l letter claim w):=by
 obtain⟨hp0,hp6,hz,hlf,h6⟩:=B6 hc;obtain⟨hne,h60⟩:=D3 hz;rw[qM]at h60;obtain⟨b,off,cap,rfl,hbl,hat,hrow,hav⟩:=hV;obtain⟨aao,ac,rfl,ha⟩:=id hav;obtain⟨lo,lc,rfl,hl⟩:=id hL;by_cases hcl:CB l claim
 .exact (Wd _ _ _ _ aao _ ac claim lo _ lc (V ⟨b,off,Z⟩) (V ⟨B,0,Z⟩) l.length cap l.length l.length rfl rfl rfl rfl h6 w hcl).mono fun e w' ⟨h1,h2⟩=>⟨h2,fun _=>h1,fun h=>absurd hcl h⟩
 .have h0n:0<l.length:=by
   cases l with
   |nil=>exact absurd rfl hne
   |cons _ _=>simp
  refine(Wa b off cap l.length B aao _ ac lo _ lc l letter claim w h0n h60 rfl hz hat hbl hrow rfl hav h6 rfl hL hlf (by unfold CB at hcl;omega) (by unfold CB at hcl;omega)).mono fun e w' ⟨bH,h1,h2,h3,_⟩=>⟨h2,fun h=>absurd h hcl,fun _=>⟨bH,h1,h3.out⟩⟩
noncomputable def BI(l:am)(letter:List Bool)(claim:Int):Int:=by classical exact if Ad letter.length l=0 then(if CB l claim then 2 else 0)else Ad letter.length l
noncomputable def DR(l:am)(letter:List Bool)(claim:Int):List Bool:=if BI l letter claim=0 then(List.range l.length).map (tru l letter claim)else []
theorem Hy{l:am}{letter:List Bool}{claim:Int}(h:Ad letter.length l≠0):BI l letter claim=Ad letter.length l:=by unfold BI;rw[ak h]
theorem F4{l:am}{letter:List Bool}{claim:Int}(h:Ad letter.length l=0)(h2:CB l claim):BI l letter claim=2:=by unfold BI;rw[aj h,aj h2]
theorem EL{l:am}{letter:List Bool}{claim:Int}(h:Ad letter.length l=0)(h2:¬CB l claim):BI l letter claim=0:=by unfold BI;rw[aj h,ak h2]
theorem PN{w:J}{bH:Nat}{l:am}{letter:List Bool}{claim:Int}(h:w.rowIs bH 4 l.length (fun j=>.bool (tru l letter claim j))):BoolsV w (U (V ⟨bH,0,Z⟩) l.length l.length) ((List.range l.length).map (tru l letter claim)):=by
 have h2:=Ic (w:=w) (B:=bH) (l:=(List.range l.length).map (tru l letter claim)) (by
  rw[qM,vB];exact h.congr fun j hj=>by simp[qC,hj])
 rwa[qM,vB]at h2
theorem JD(v:ZZ)(l:am)(props:Int)(w:J)(hB:0<w.heap.size)(hT:AF w)(hV:OpsV w v l) :
  I qA 54 #[v,.int T props] w fun e w'=>O w.heap.size w w'/\(Ad props l≠0->e=N (ZY #[ZW #[U Z 0 0,U Z 0 0,U Z 0 0],.int T (Ad props l)]))/\(Ad props l=0->∃B aao ac,e=N (ZY #[ZW #[v,U (V ⟨B,0,Z⟩) l.length l.length,.slice aao (AA l).length ac],.int T 0])/\E (BG w' v B (.slice aao (AA l).length ac) l)):=by
 refine(JE v l props w hB hT hV).mono fun e w' ⟨h1,h2,h3⟩=>⟨h1,h2,fun hz=>?_⟩;obtain⟨B,av,_,he,hrow,ho⟩:=h3 hz;obtain⟨aao,ac,rfl⟩:=Au ho;obtain⟨_,_,hze,_,_⟩:=B6 hz;obtain⟨hne,_⟩:=D3 hze;obtain⟨b,off,hat⟩:∃b off,(∃cap,v=U (V ⟨b,off,Z⟩) l.length cap)/\b<w'.heap.size/\BR w' b off l:=by
  obtain⟨ao,cap,rfl,_,h⟩:=hV.below h1;obtain⟨b,off,rfl,hlt,hat⟩:=h (by rintro rfl;exact hne rfl);exact⟨b,off,⟨cap,rfl⟩,hlt,hat⟩
 obtain⟨⟨cap,hv⟩,hlt,hat⟩:=hat;exact⟨B,aao,ac,he,b,off,cap,hv,hlt,hat,hrow,D8 ho⟩
theorem MA (v lv:ZZ) (l:List (Int × Int)) (letter:List Bool) (claim:Int) (w:J) (hB:0 < w.heap.size) (hT:AF w) (hV:OpsV w v l) (hL:BoolsV w lv letter) :
    I qA 33 #[v,lv,.int T claim] w fun e w'=>∃v',e=N (ZY #[v',.int T (BI l letter claim)])/\O w.heap.size w w'/\BoolsV w' v' (DR l letter claim):=by
  have hrd:=JD v l letter.length w hB hT hV;obtain⟨lo,lc,rfl,hl⟩:=id hL;obtain⟨oo,oc,rfl,_⟩:=id hV;by_cases hc:Ad letter.length l=0
  . have HM:E (∀w1 B aao ac,O w.heap.size w w1->BG w1 (.slice oo l.length oc) B (.slice aao (AA l).length ac) l->∀o,I qA 60 #[ZW #[.slice oo l.length oc,U (V ⟨B,0,Z⟩) l.length l.length,.slice aao (AA l).length ac],.slice lo letter.length lc,.int T claim] (w1.alloc o) fun e w'=>∃ro rn rc,e=N (ZY #[U ro rn rc,.int T (BI l letter claim)])/\O w1.heap.size w1 w'/\E (BoolsV w' (U ro rn rc) (DR l letter claim))):=fun w1 B aao ac hb hW o=>by
      have hA:O w1.heap.size w1 (w1.alloc o):=(qD _ _).alloc (qB _) o;refine(G0 _ B _ _ l letter claim (w1.alloc o) hc (hW.below hA) ((hL.below hb).below hA)).mono fun e w' ⟨h1,h2,h3⟩=>?_;have h1':=ae hA h1;by_cases hn:CB l claim
      . exact⟨Z,0,0,by rw[F4 hc hn];exact h2 hn,h1',by show BoolsV _ _ _;unfold DR;rw[F4 hc hn];exact⟨Z,0,rfl,fun h=>absurd rfl h⟩⟩
      . obtain⟨bH,he,hr⟩:=h3 hn
        exact⟨_,_,_,by rw[EL hc hn];exact he,h1',by show BoolsV _ _ _;unfold DR;rw[EL hc hn];exact PN hr⟩
    have hrd2:I qA 54 #[.slice oo l.length oc,.int T (letter.length:Int)] w fun e w'=>O w.heap.size w w'/\∃B aao ac,e=N (ZY #[ZW #[.slice oo l.length oc,U (V ⟨B,0,Z⟩) l.length l.length,.slice aao (AA l).length ac],.int T 0])/\E (BG w' (.slice oo l.length oc) B (.slice aao (AA l).length ac) l):=hrd.mono fun e w' ⟨h1,_,h3⟩=>⟨h1,h3 hc⟩;generalize BI l letter claim=x at *;generalize DR l letter claim=res at *;generalize(AA l).length=an at *;generalize letter.length=ln at *;generalize l.length=n at *;clear hrd hT hV hL hl hc
    go_enter eQ,fa;go_wp2_with (first|(go_at_call 54;refine hrd2.mono ?_;rintro e w1 ⟨hb1,B,aao,ac,rfl,HW⟩;have hme:=HM.out w1 B aao ac hb1 HW.out)|(go_at_call 60;refine(hme _).mono ?_;rintro e w2 ⟨ro,rn,rc,rfl,hb2,HR⟩))
    go_ret2;exact⟨_,rfl,ae hb1 hb2,HR.out⟩
  . have hrd2:I qA 54 #[.slice oo l.length oc,.int T (letter.length:Int)] w fun e w'=>O w.heap.size w w'/\e=N (ZY #[ZW #[U Z 0 0,U Z 0 0,U Z 0 0],.int T (Ad letter.length l)]):=hrd.mono fun e w' ⟨h1,h2,_⟩=>⟨h1,h2 hc⟩
    have HX:E (BI l letter claim=Ad letter.length l/\DR l letter claim=[]):=⟨Hy hc,by unfold DR;rw[ak (by rw[Hy hc];exact hc)]⟩;rw[HX.out.1,HX.out.2];generalize Ad letter.length l=x at *;generalize letter.length=ln at *;generalize l.length=n at *;clear hrd hT hV hL hl HX
    go_enter eQ,fa;go_wp2_with (go_at_call 54;refine hrd2.mono ?_;rintro e w1 ⟨hb1,rfl⟩)
    go_ret2;exact⟨_,rfl,by first|exact hb1|exact hb1.alloc hb1.size _,Z,0,rfl,fun h=>absurd rfl h⟩
def DA(k:Int)(a x y:Bool):Bool:=if k=17 then a&&!x else if k=18 then !a&&x else if k=15 then a&&!y else if k=16 then !a&&y else ZX
def Ct(k:Int)(x y z nx:Bool):Bool:=if k=17 then x||z else if k=18 then x&&z else if k=15 then y||(x&&z)else if k=16 then y&&(x||z)else nx
structure PlaceIn(w:J)(b off n cap B bH:Nat)(l:am)(h:Nat->Bool)(p:Nat)(kx:Int):Prop where
 n60:n<=60
 pl:p<n
 one:p+1<n
 two:kx=15\/kx=16->sec l p<n
 kind:w.cell? ⟨b,off+p*2,Z⟩=V (.int T kx)
 bl:b<w.heap.size
 row:∀j,j<n->w.cell? ⟨bH,j,Z⟩=V (.bool (h j))
 hl:bH<w.heap.size
 ends : ∀ j, j < n -> w.cell? ⟨B, j, Z⟩ = V (.int T (An (l.map aW) j))
 el:B<w.heap.size
theorem Wr(b off n cap B bH:Nat)(l:am)(h:Nat->Bool)(p:Nat)(kx:Int)(aao:Option Addr)(an ac:Nat)(w:J)(hI:PlaceIn w b off n cap B bH l h p kx) :
  I qA 92 #[ZW #[U (V ⟨b,off,Z⟩) n cap,U (V ⟨B,0,Z⟩) n n,U aao an ac],.int T (p:Int),U (V ⟨bH,0,Z⟩) n n] w fun e w'=>e=N (.bool (DA kx (h p) (h (p+1)) (h (sec l p))))/\O w.heap.size w w':=by
 obtain⟨h60,hp,hp1,hp2,ck,hbl,hrow,hhl,hends,hel⟩:=hI;have hA:∀o,O w.heap.size w (w.alloc o):=fun o=>(qD _ _).alloc (qB _) o;have hpa:=fun o=>He b off cap n B bH p _ h l aao an ac rfl (w.alloc o) (fun j hj=>((hA o).cell (p:=⟨bH,j,Z⟩) hhl).trans (hrow j hj)) (qE hhl (hA o).size) (fun j hj=>((hA o).cell (p:=⟨B,j,Z⟩) hel).trans (hends j hj)) (qE hel (hA o).size);have hpa:=hpa (C #[U (V ⟨b,off,Z⟩) n cap,U (V ⟨B,0,Z⟩) n n,U aao an ac] 138);simp only[fp]at hpa;have HP2:E (∀w2,O (w.heap.size+1) (w.alloc (C #[U (V ⟨b,off,Z⟩) n cap,U (V ⟨B,0,Z⟩) n n,U aao an ac] 138)) w2->O w.heap.size w w2/\w2.cell? ⟨b,off+p*2,Z⟩=V (.int T kx)/\w2.cell? ⟨bH,p,Z⟩=V (.bool (h p))/\w2.cell? ⟨w.heap.size,0,Z⟩=V (U (V ⟨b,off,Z⟩) n cap)):=fun w2 hb=>by
  have hb2:=(hA _).trans (hb.mono (vE _));exact⟨hb2,(hb2.cell (p:=⟨b,_,Z⟩) hbl).trans ck,(hb2.cell (p:=⟨bH,_,Z⟩) hhl).trans (hrow p hp),(hb.cell (p:=⟨w.heap.size,0,Z⟩) (by simp)).trans (by simp[go_sem])⟩
 have HF:E (∀w2 bh bf bp,PartsAt w2 bh bf bp bH n B p h l->I qA 120 #[G (V ⟨bh,0,Z⟩),G (V ⟨bp,0,Z⟩)] w2 fun e w'=>e=N (.bool (h (p+1)))/\w'=w2):=fun w2 bh bf bp hP=>Gd bh bp bH n p _ w2 h60 hp1 hP.holds hP.place (hP.row _ hp1);have HS:E ((kx=15\/kx=16)->∀w2 bh bf bp,PartsAt w2 bh bf bp bH n B p h l->I qA 121 #[G (V ⟨bh,0,Z⟩),G (V ⟨bf,0,Z⟩),G (V ⟨bp,0,Z⟩)] w2 fun e w'=>e=N (.bool (h (sec l p)))/\∃r,w'=w2.drewN r):=fun hk w2 bh bf bp hP=>Jw bh bf bp bH n B p (sec l p) _ w2 h60 hp1 (hp2 hk) hP.holds hP.place hP.ends (hP.erow _ hp1) (hP.row _ (hp2 hk));generalize hx:h (p+1)=x at *;generalize hy:h (sec l p)=y at *;generalize hz:h p=z at *;clear hx hy hz hrow hends ck hp2 hA
 by_cases e17:kx=17
 .subst e17;rw[show DA 17 z x y=(z&&!x) by simp[DA]];clear HS;cases z
  all_goals
   go_enter eV,fg;go_wp2_with (first|(go_at_call 87;refine hpa.mono ?_;rintro e w2 ⟨rfl,hb2,HP⟩;obtain⟨hbw,d0,d1,d2⟩:=HP2.out w2 hb2;have hf:=HF.out w2 _ _ _ HP.out)|(go_at_call 120;refine hf.mono ?_;rintro e w3 ⟨rfl,hw3⟩;obtain rfl:=hw3.symm))
   go_ret;exact⟨by first|rfl|simp,by first|exact hbw|exact below_drewN hbw _⟩
 .by_cases e18:kx=18
  .subst e18;rw[show DA 18 z x y=(!z&&x) by simp[DA]];clear HS;cases z
   all_goals
    go_enter eV,fg;go_wp2_with (first|(go_at_call 87;refine hpa.mono ?_;rintro e w2 ⟨rfl,hb2,HP⟩;obtain⟨hbw,d0,d1,d2⟩:=HP2.out w2 hb2;have hf:=HF.out w2 _ _ _ HP.out)|(go_at_call 120;refine hf.mono ?_;rintro e w3 ⟨rfl,hw3⟩;obtain rfl:=hw3.symm))
    go_ret;exact⟨by first|rfl|simp,by first|exact hbw|exact below_drewN hbw _⟩
  .by_cases e15:kx=15
   .subst e15;rw[show DA 15 z x y=(z&&!y) by simp[DA]];have HS2:=(show E _ from HS.out (by decide));clear HS;cases z
    all_goals
     go_enter eV,fg;go_wp2_with (first|(go_at_call 87;refine hpa.mono ?_;rintro e w2 ⟨rfl,hb2,HP⟩;obtain⟨hbw,d0,d1,d2⟩:=HP2.out w2 hb2;have hs:=HS2.out w2 _ _ _ HP.out)|(go_at_call 121;refine hs.mono ?_;rintro e w3 ⟨rfl,r3,rfl⟩))
     go_ret;exact⟨by first|rfl|simp,by first|exact hbw|exact below_drewN hbw _⟩
   .by_cases e16:kx=16
    .subst e16;rw[show DA 16 z x y=(!z&&y) by simp[DA]];have HS2:=(show E _ from HS.out (by decide));clear HS;cases z
     all_goals
      go_enter eV,fg;go_wp2_with (first|(go_at_call 87;refine hpa.mono ?_;rintro e w2 ⟨rfl,hb2,HP⟩;obtain⟨hbw,d0,d1,d2⟩:=HP2.out w2 hb2;have hs:=HS2.out w2 _ _ _ HP.out)|(go_at_call 121;refine hs.mono ?_;rintro e w3 ⟨rfl,r3,rfl⟩))
      go_ret;exact⟨by first|rfl|simp,by first|exact hbw|exact below_drewN hbw _⟩
    .rw[show DA kx z x y=ZX by simp[DA,e17,e18,e15,e16]];clear HS;go_enter eV,fg;go_wp2_with (first|(go_at_call 87;refine hpa.mono ?_;rintro e w2 ⟨rfl,hb2,HP⟩;obtain⟨hbw,d0,d1,d2⟩:=HP2.out w2 hb2))
     go_ret;exact⟨rfl,hbw⟩
theorem Ri(bn bp bN n pl:Nat)(x:Bool)(w:J)(hp:pl<n)(c0:w.cell? ⟨bn,0,Z⟩=V (U (V ⟨bN,0,Z⟩) n n))(c1:w.cell? ⟨bp,0,Z⟩=V (.int T pl))(c2:w.cell? ⟨bN,pl,Z⟩=V (.bool x)) :
  I qA 153 #[G (V ⟨bn,0,Z⟩),G (V ⟨bp,0,Z⟩)] w fun e w'=>e=N (.bool x)/\w'=w:=by
 go_enter Tryz.func153,Tryz.ntmps153;go_wp2_with fail
 go_ret;exact⟨rfl,rfl⟩
def IB(l:am)(h:Nat->Bool)(p:Nat):Bool:=DA (l.getD p (0,0)).1 (h p) (h (p+1)) (h (sec l p))
def Cx(l:am)(h:Nat->Bool):Nat->Int
 |0=>0
 |k+1=>Cx l h k+if IB l h ((AA l).getD k 0).toNat=true then 0 else 2^k
theorem MJ(l:am)(h:Nat->Bool):∀k,0<=Cx l h k/\Cx l h k<2^k:=by
 intro k;induction k with
 |zero=>simp[Cx]
 |succ k ih=>
  have h2:(0:Int)<2^k:=j9 (by decide);simp only[Cx];rw[kW];split<;>omega
theorem Tg:∀k,k<6->∀c,c<2^k->bits BinOp.or aY ((c:Nat):Int) (2^k)=((c:Nat):Int)+2^k:=by decide
theorem Mi{c:Int}{k:Nat}(hk:k<6)(h0:0<=c)(h1:c<2^k):bits BinOp.or aY c (2^k)=c+2^k:=by
 obtain⟨m,rfl⟩:∃m:Nat,c=m:=⟨c.toNat,by omega⟩;refine Tg k hk m ?_;have e:((2^k:Nat):Int)=2^k:=by simp
 omega
theorem M1{k:Nat}(hk:k<=6):(2:Int)^k<=64:=by
 have hcase:k=0\/k=1\/k=2\/k=3\/k=4\/k=5\/k=6:=by omega
 rcases hcase with rfl|rfl|rfl|rfl|rfl|rfl|rfl<;>decide
noncomputable def B7(l:am)(letter:List Bool)(claim:Int):Int:=if BI l letter claim=0 then Cx l (tru l letter claim) (AA l).length else 0
theorem Mz{w:J}{b off cap B bH:Nat}{av:ZZ}{l:am}{h:Nat->Bool}(hW:BG w (U (V ⟨b,off,Z⟩) l.length cap) B av l)(hz:AU (l.map aW)=0)(hr:w.rowIs bH 4 l.length (fun j=>.bool (h j))){p:Nat}(hp:p<l.length)(hk:Ag (l.getD p (0,0)).1=true):PlaceIn w b off l.length cap B bH l h p (l.getD p (0,0)).1:=by
 obtain⟨b',off',cap',hv,hbl,hat,hrow,_⟩:=hW;injection hv with e1 e2 e3;injection Option.some.inj e1 with e4 e5;subst e4 e5;obtain⟨hne,h60⟩:=D3 hz;rw[qM]at h60;obtain⟨h1,h2⟩:=Hd hz hp;have hk':14<=(l.getD p (0,0)).1/\(l.getD p (0,0)).1<=18:=by simpa[Ag]using hk
 have hpn:1<=pn (l.getD p (0,0)).1:=by
  unfold pn;split
  .omega
  .split
   .omega
   .omega
 exact⟨h60,hp,h1 hpn,fun e=>(h2 (by rcases e with e|e<;>rw[e]<;>rfl)).2,(hat p hp).1,hbl,fun j hj=>hr.cell hj,hr.lt,fun j hj=>hrow.cell hj,hrow.lt⟩
theorem SG(v lv:ZZ)(l:am)(letter:List Bool)(claim:Int)(w:J)(hB:0<w.heap.size)(hT:AF w)(hV:OpsV w v l)(hL:BoolsV w lv letter) :
  I qA 63 #[v,lv,.int T claim] w fun e w'=>e=N (ZY #[ZV T (B7 l letter claim),.int T (BI l letter claim)])/\O w.heap.size w w':=by
 have hrd:=JD v l letter.length w hB hT hV;obtain⟨lo,lc,rfl,hl⟩:=id hL;obtain⟨oo,oc,rfl,_⟩:=id hV;by_cases hc:Ad letter.length l=0
 .obtain ⟨_,_,hz,_,h6⟩:=B6 hc;have hrd2:I qA 54 #[.slice oo l.length oc,.int T (letter.length:Int)] w fun e w'=>O w.heap.size w w'/\∃B aao ac,e=N (ZY #[ZW #[.slice oo l.length oc,U (V ⟨B,0,Z⟩) l.length l.length,.slice aao (AA l).length ac],.int T 0])/\E (BG w' (.slice oo l.length oc) B (.slice aao (AA l).length ac) l):=hrd.mono fun e w' ⟨h1,_,h3⟩=>⟨h1,h3 hc⟩;have HM:E (∀w1 B aao ac,O w.heap.size w w1->BG w1 (.slice oo l.length oc) B (.slice aao (AA l).length ac) l->I qA 60 #[ZW #[.slice oo l.length oc,U (V ⟨B,0,Z⟩) l.length l.length,.slice aao (AA l).length ac],.slice lo letter.length lc,.int T claim] (w1.alloc (C #[.slice oo l.length oc,U (V ⟨B,0,Z⟩) l.length l.length,.slice aao (AA l).length ac] 138)) fun e w'=>O (w1.heap.size+1) (w1.alloc (C #[.slice oo l.length oc,U (V ⟨B,0,Z⟩) l.length l.length,.slice aao (AA l).length ac] 138)) w'/\(CB l claim->e=N (ZY #[U Z 0 0,.int T 2]))/\(¬CB l claim->∃bH,e=N (ZY #[U (V ⟨bH,0,Z⟩) l.length l.length,.int T 0])/\E (w'.rowIs bH 4 l.length (fun j=>.bool (tru l letter claim j))))):=fun w1 B aao ac hb hW=>by
   have hA:∀o,O w1.heap.size w1 (w1.alloc o):=fun o=>(qD _ _).alloc (qB _) o;refine(G0 _ B _ _ l letter claim (w1.alloc _) hc (hW.below (hA _)) ((hL.below hb).below (hA _))).mono fun e w' ⟨h1,h2,h3⟩=>⟨?_,h2,h3⟩;simpa using h1
  by_cases hcl:CB l claim
  .have htc:BI l letter claim=2:=F4 hc hcl;rw[htc,show B7 l letter claim=0 by unfold B7;rw[htc];rfl];have HM2:E (∀w1 B aao ac,O w.heap.size w w1->BG w1 (.slice oo l.length oc) B (.slice aao (AA l).length ac) l->I qA 60 #[ZW #[.slice oo l.length oc,U (V ⟨B,0,Z⟩) l.length l.length,.slice aao (AA l).length ac],.slice lo letter.length lc,.int T claim] (w1.alloc (C #[.slice oo l.length oc,U (V ⟨B,0,Z⟩) l.length l.length,.slice aao (AA l).length ac] 138)) fun e w'=>e=N (ZY #[U Z 0 0,.int T 2])/\O w1.heap.size w1 w'):=fun w1 B aao ac hb hW=>(HM.out w1 B aao ac hb hW).mono fun e w' ⟨h1,h2,_⟩=>⟨h2 hcl,(ai).trans (h1.mono (vE _))⟩;generalize(AA l).length=an at *;generalize letter.length=ln at *;generalize l.length=n at *;clear hrd hT hV hL hl hc HM hcl htc hz h6
   go_enter eS,fe;go_wp2_with (first|(go_at_call 54;refine hrd2.mono ?_;rintro e w1 ⟨hb1,B,aao,ac,rfl,HW⟩;have hme:=HM2.out w1 B aao ac hb1 HW.out)|(go_at_call 60;refine hme.mono ?_;rintro e w2 ⟨rfl,hb2⟩))
   go_ret2;exact⟨rfl,ae hb1 hb2⟩
  .have htc:BI l letter claim=0:=EL hc hcl;rw[htc,show B7 l letter claim=Cx l (tru l letter claim) (AA l).length by unfold B7;rw[htc];rfl];have HM2:E (∀w1 B aao ac,O w.heap.size w w1->BG w1 (.slice oo l.length oc) B (.slice aao (AA l).length ac) l->I qA 60 #[ZW #[.slice oo l.length oc,U (V ⟨B,0,Z⟩) l.length l.length,.slice aao (AA l).length ac],.slice lo letter.length lc,.int T claim] (w1.alloc (C #[.slice oo l.length oc,U (V ⟨B,0,Z⟩) l.length l.length,.slice aao (AA l).length ac] 138)) fun e w'=>∃bH,e=N (ZY #[U (V ⟨bH,0,Z⟩) l.length l.length,.int T 0])/\O w1.heap.size w1 w'/\w1.heap.size<w'.heap.size/\w'.cell? ⟨w1.heap.size,0,Z⟩=V (.slice oo l.length oc)/\w'.cell? ⟨w1.heap.size,1,Z⟩=V (U (V ⟨B,0,Z⟩) l.length l.length)/\w'.cell? ⟨w1.heap.size,2,Z⟩=V (.slice aao (AA l).length ac)/\E (BG w' (.slice oo l.length oc) B (.slice aao (AA l).length ac) l/\w'.rowIs bH 4 l.length (fun j=>.bool (tru l letter claim j)))):=fun w1 B aao ac hb hW=>(HM.out w1 B aao ac hb hW).mono fun e w' ⟨h1,_,h3⟩=>by
    obtain⟨bH,he,hr⟩:=h3 hcl;have hb':O w1.heap.size w1 w':=(ai).trans (h1.mono (vE _));refine⟨bH,he,hb',by have:=h1.size;simp at this;omega,(h1.cell (p:=⟨w1.heap.size,0,Z⟩) (qZ _)).trans (by simp[go_sem]),(h1.cell (p:=⟨w1.heap.size,1,Z⟩) (qZ _)).trans (by simp[go_sem]),(h1.cell (p:=⟨w1.heap.size,2,Z⟩) (qZ _)).trans (by simp[go_sem]),hW.below hb',hr.out⟩
   have HWa:E (∀w2 B bH aao ac p,BG w2 (.slice oo l.length oc) B (.slice aao (AA l).length ac) l->w2.rowIs bH 4 l.length (fun j=>.bool (tru l letter claim j))->p<l.length->Ag (l.getD p (0,0)).1=true->I qA 92 #[ZW #[.slice oo l.length oc,U (V ⟨B,0,Z⟩) l.length l.length,.slice aao (AA l).length ac],.int T (p:Int),U (V ⟨bH,0,Z⟩) l.length l.length] w2 fun e w'=>e=N (.bool (IB l (tru l letter claim) p))/\O w2.heap.size w2 w'):=fun w2 B bH aao ac p hW hr hp hk=>by
    obtain⟨b,off,cap,hv,_⟩:=id hW;injection hv with e1 e2 e3;subst e1 e3;exact Wr b off l.length oc B bH l _ p _ aao _ ac w2 (Mz hW hz hr hp hk)
   have HG:E (∀w2 B aao ac k,BG w2 (.slice oo l.length oc) B (.slice aao (AA l).length ac) l->k<(AA l).length->∃p:Nat,(∃ab aoff,aao=V ⟨ab,aoff,Z⟩/\w2.cell? ⟨ab,aoff+k,Z⟩=V (.int T (p:Int)))/\p<l.length/\Ag (l.getD p (0,0)).1=true/\((AA l).getD k 0).toNat=p):=fun w2 B aao ac k hW hk=>by
    obtain⟨_,_,_,_,_,_,_,ao',ac',hsl,hai⟩:=hW;injection hsl with e1 e2 e3;subst e1;obtain⟨ab,aoff,rfl,habl,haat⟩:=hai (by intro h;rw[h]at hk;simp at hk);obtain⟨p,h1,h2,h3,h4⟩:=GJ l l.length k hk;have h1':(AA l).getD k 0=(p:Int):=h1;exact⟨p,⟨ab,aoff,rfl,by rw[haat k hk,h1']⟩,h2,h3,by rw[h1'];rfl⟩
   have HMS:E (∀k,Cx l (tru l letter claim) (k+1)=Cx l (tru l letter claim) k+if IB l (tru l letter claim) ((AA l).getD k 0).toNat=true then 0 else 2^k):=fun _=>rfl;have HMB:E (∀k,0<=Cx l (tru l letter claim) k/\Cx l (tru l letter claim) k<2^k):=MJ _ _;have HM0:E (Cx l (tru l letter claim) 0=0):=rfl;generalize Cx l (tru l letter claim)=mt at *;generalize hwt:IB l (tru l letter claim)=wt at *;clear hwt;obtain⟨an,han⟩:∃an,an=(AA l).length:=⟨_,rfl⟩
   rw[<-han]at hrd2 HM2 HWa HG h6⊢;generalize hnn:l.length=n at *;generalize letter.length=ln at *;clear hrd hT hV hL hl hc HM hcl htc hz hnn han
   go_enter eS,fe;go_wp2_with (first|(go_at_call 54;refine hrd2.mono ?_;rintro e w1 ⟨hb1,B,aao,ac,rfl,HW⟩;have hme:=HM2.out w1 B aao ac hb1 HW.out)|(go_at_call 60;refine hme.mono ?_;rintro e w2 ⟨bH,rfl,hb2,hs2,d0,d1,d2,HW2⟩))
   have hb12:=ae hb1 hb2;clear hrd2 hme HM2 HW;go_loopw [11,37] (fun mv i wr=>∃k:Nat,k<=an/\i=.int T (k:Int)/\mv=.int T (mt k)/\E (O w2.heap.size w2 wr)) (fun _ i _=>an-(intOf i).toNat)
   case atStart=>exact⟨0,qJ _,rfl,by rw[HM0.out],qD _ _⟩
   case round=>
    obtain⟨k,hk,rfl,rfl,HBel⟩:=hrel;have hbel:=HBel.out;have d0':=(hbel.cell (p:=⟨w1.heap.size,0,Z⟩) hs2).trans d0;have d1':=(hbel.cell (p:=⟨w1.heap.size,1,Z⟩) hs2).trans d1;have d2':=(hbel.cell (p:=⟨w1.heap.size,2,Z⟩) hs2).trans d2;by_cases hlt:k<an
    .have hWr:=HW2.out.1.below hbel;obtain⟨p,⟨ab,aoff,rfl,hca⟩,hpn,hpk,hpi⟩:=HG.out wr B aao ac k hWr hlt;have hwa:=HWa.out wr B bH _ ac p hWr (CA HW2.out.2 hbel) hpn hpk;have HS:=(show E _ from HMS.out k);rw[hpi]at HS;obtain⟨hm0,hm1⟩:=HMB.out k;have hk6:k<6:=by omega
     have hps:=M1 (k:=k) (by omega);have h2k:(0:Int)<2^k:=j9 (by decide);have HOr:E (bits BinOp.or aY (mt k) (2^k)=mt k+2^k):=Mi hk6 hm0 hm1;generalize wt p=wv at *;clear HWa HG HMS HMB hpi hpk HW2 hWr
     cases wv with
     |true=>
      have HS2:E (mt (k+1)=mt k):=by show _=_;rw[HS.out];simp
      clear HS;go_wp2_with (go_at_call 92;refine hwa.mono ?_;rintro e w3 ⟨rfl,hb3⟩)
      exact⟨⟨k+1,hlt,by first|rfl|simp,by rw[HS2.out],ae hbel hb3⟩,by simp[intOf];omega⟩
     |false=>
      have HS2:E (mt (k+1)=mt k+2^k):=by show _=_;rw[HS.out];simp
      clear HS;go_wp2_with (go_at_call 92;refine hwa.mono ?_;rintro e w3 ⟨rfl,hb3⟩)
      exact⟨⟨k+1,hlt,by first|rfl|simp,by rw[HS2.out,<-HOr.out],ae hbel hb3⟩,by simp[intOf];omega⟩
    .obtain rfl:k=an:=by omega
     go_wp2_with fail
     go_ret2;exact⟨rfl,ae hb12 hbel⟩
 .have htc:=Hy (claim:=claim) hc;rw[htc,show B7 l letter claim=0 by unfold B7;rw[htc,ak hc]];have hrd2:I qA 54 #[.slice oo l.length oc,.int T (letter.length:Int)] w fun e w'=>O w.heap.size w w'/\e=N (ZY #[ZW #[U Z 0 0,U Z 0 0,U Z 0 0],.int T (Ad letter.length l)]):=hrd.mono fun e w' ⟨h1,h2,_⟩=>⟨h1,h2 hc⟩;generalize Ad letter.length l=x at *;generalize letter.length=ln at *;generalize l.length=n at *;clear hrd hT hV hL hl htc
  go_enter eS,fe;go_wp2_with (go_at_call 54;refine hrd2.mono ?_;rintro e w1 ⟨hb1,rfl⟩)
  go_ret2;exact⟨rfl,by first|exact hb1|exact hb1.alloc hb1.size _⟩
theorem Pu(b off n cap B bH bN:Nat)(l:am)(h g:Nat->Bool)(p:Nat)(kx:Int)(aao:Option Addr)(an ac:Nat)(w:J)(hI:PlaceIn w b off n cap B bH l h p kx)(hN:∀j,j<n->w.cell? ⟨bN,j,Z⟩=V (.bool (g j)))(hNl:bN<w.heap.size) :
  I qA 123 #[ZW #[U (V ⟨b,off,Z⟩) n cap,U (V ⟨B,0,Z⟩) n n,U aao an ac],.int T (p:Int),U (V ⟨bH,0,Z⟩) n n,U (V ⟨bN,0,Z⟩) n n] w fun e w'=>e=N (.bool (Ct kx (h (p+1)) (h (sec l p)) (g p) (g (p+1))))/\O w.heap.size w w':=by
 obtain⟨h60,hp,hp1,hp2,ck,hbl,hrow,hhl,hends,hel⟩:=hI;have hA:O w.heap.size w (((w.alloc (C #[U (V ⟨b,off,Z⟩) n cap,U (V ⟨B,0,Z⟩) n n,U aao an ac] 138)).alloc (C #[ZV T (p:Int)] 3)).alloc (C #[U (V ⟨bN,0,Z⟩) n n] 111)):=((ai).alloc (by simp) _).alloc (by simp;omega) _;have hpa:=He b off cap n B bH p _ h l aao an ac rfl (((w.alloc (C #[U (V ⟨b,off,Z⟩) n cap,U (V ⟨B,0,Z⟩) n n,U aao an ac] 138)).alloc (C #[ZV T (p:Int)] 3)).alloc (C #[U (V ⟨bN,0,Z⟩) n n] 111)) (fun j hj=>(hA.cell (p:=⟨bH,j,Z⟩) hhl).trans (hrow j hj)) (qE hhl hA.size) (fun j hj=>(hA.cell (p:=⟨B,j,Z⟩) hel).trans (hends j hj)) (qE hel hA.size);simp only[fp]at hpa;have HP2:E (∀w2,O (w.heap.size+1+1+1) (((w.alloc (C #[U (V ⟨b,off,Z⟩) n cap,U (V ⟨B,0,Z⟩) n n,U aao an ac] 138)).alloc (C #[ZV T (p:Int)] 3)).alloc (C #[U (V ⟨bN,0,Z⟩) n n] 111)) w2->O w.heap.size w w2/\w2.cell? ⟨b,off+p*2,Z⟩=V (.int T kx)/\w2.cell? ⟨w.heap.size,0,Z⟩=V (U (V ⟨b,off,Z⟩) n cap)/\w2.cell? ⟨w.heap.size,1,Z⟩=V (U (V ⟨B,0,Z⟩) n n)/\w2.cell? ⟨w.heap.size,2,Z⟩=V (U aao an ac)/\w2.cell? ⟨w.heap.size+1,0,Z⟩=V (.int T (p:Int))/\w2.cell? ⟨w.heap.size+1+1,0,Z⟩=V (U (V ⟨bN,0,Z⟩) n n)):=fun w2 hb=>by
  have hb2:=hA.trans (hb.mono (by omega));refine⟨hb2,(hb2.cell (p:=⟨b,_,Z⟩) hbl).trans ck,(hb.cell (p:=⟨w.heap.size,0,Z⟩) (by first|(simp;omega)|simp)).trans (by simp[go_sem]),(hb.cell (p:=⟨w.heap.size,1,Z⟩) (by first|(simp;omega)|simp)).trans (by simp[go_sem]),(hb.cell (p:=⟨w.heap.size,2,Z⟩) (by first|(simp;omega)|simp)).trans (by simp[go_sem]),(hb.cell (p:=⟨w.heap.size+1,0,Z⟩) (by first|(simp;omega)|simp)).trans (by simp[go_sem]),(hb.cell (p:=⟨w.heap.size+1+1,0,Z⟩) (by simp)).trans (by simp[go_sem])⟩
 have HF:E (∀w2 bh bf bp,PartsAt w2 bh bf bp bH n B p h l->∀w3,(∀q,w3.cell? q=w2.cell? q)->I qA 120 #[G (V ⟨bh,0,Z⟩),G (V ⟨bp,0,Z⟩)] w3 fun e w'=>e=N (.bool (h (p+1)))/\w'=w3):=fun w2 bh bf bp hP w3 hc=>Gd bh bp bH n p _ w3 h60 hp1 ((hc _).trans hP.holds) ((hc _).trans hP.place) ((hc _).trans (hP.row _ hp1));have HS:E ((kx=15\/kx=16)->∀w2 bh bf bp,PartsAt w2 bh bf bp bH n B p h l->I qA 121 #[G (V ⟨bh,0,Z⟩),G (V ⟨bf,0,Z⟩),G (V ⟨bp,0,Z⟩)] w2 fun e w'=>e=N (.bool (h (sec l p)))/\∃r,w'=w2.drewN r):=fun hk w2 bh bf bp hP=>Jw bh bf bp bH n B p (sec l p) _ w2 h60 hp1 (hp2 hk) hP.holds hP.place hP.ends (hP.erow _ hp1) (hP.row _ (hp2 hk));have HZ:E (∀w2,O w.heap.size w w2->w2.cell? ⟨w.heap.size+1,0,Z⟩=V (.int T (p:Int))->w2.cell? ⟨w.heap.size+1+1,0,Z⟩=V (U (V ⟨bN,0,Z⟩) n n)->∀w3,(∀q,w3.cell? q=w2.cell? q)->I qA 153 #[G (V ⟨w.heap.size+1+1,0,Z⟩),G (V ⟨w.heap.size+1,0,Z⟩)] w3 fun e w'=>e=N (.bool (g p))/\w'=w3):=fun w2 hb c1 c2 w3 hc=>Ri _ _ bN n p _ w3 hp ((hc _).trans c2) ((hc _).trans c1) ((hc _).trans ((hb.cell (p:=⟨bN,p,Z⟩) hNl).trans (hN p hp)));have HPN:E (∀w2,O w.heap.size w w2->I qA 87 #[ZW #[U (V ⟨b,off,Z⟩) n cap,U (V ⟨B,0,Z⟩) n n,U aao an ac],.int T (p:Int),U (V ⟨bN,0,Z⟩) n n] w2 fun e w'=>e=N (ZY #[.func (.func 120) #[] #[G (V ⟨w2.heap.size+1+1,0,Z⟩),G (V ⟨w2.heap.size+1,0,Z⟩)],.func (.func 121) #[] #[G (V ⟨w2.heap.size+1+1,0,Z⟩),G (V ⟨w2.heap.size,0,Z⟩),G (V ⟨w2.heap.size+1,0,Z⟩)]])/\O w.heap.size w w'/\E (I qA 120 #[G (V ⟨w2.heap.size+1+1,0,Z⟩),G (V ⟨w2.heap.size+1,0,Z⟩)] w' fun e w''=>e=N (.bool (g (p+1)))/\w''=w')):=fun w2 hb=>by
  refine(He b off cap n B bN p _ g l aao an ac rfl w2 (fun j hj=>(hb.cell (p:=⟨bN,j,Z⟩) hNl).trans (hN j hj)) (qE hNl hb.size) (fun j hj=>(hb.cell (p:=⟨B,j,Z⟩) hel).trans (hends j hj)) (qE hel hb.size)).mono fun e w' ⟨h1,h2,h3⟩=>⟨h1,ae hb h2,?_⟩;exact Gd _ _ bN n p _ w' h60 hp1 h3.out.holds h3.out.place (h3.out.row _ hp1)
 generalize hx:h (p+1)=x at *;generalize hy:h (sec l p)=y at *;generalize hz:g p=z at *;generalize hnx:g (p+1)=nx at *;clear hx hy hz hnx hrow hends ck hp2 hN
 by_cases e17:kx=17
 .subst e17;rw[show Ct 17 x y z nx=(x||z) by simp[Ct]];clear HS HPN;cases x
  all_goals
   go_enter eO,eY;go_wp2_with (first|(go_at_call 87;refine hpa.mono ?_;clear hpa;rintro e w2 ⟨rfl,hb2,HP⟩;obtain⟨hbw,d0,d1,d2,d3,d4,d5⟩:=HP2.out w2 hb2;have hf:=HF.out w2 _ _ _ HP.out;have hit:=HZ.out w2 hbw d4 d5)|(go_at_call 120;refine(hf _ (by first|exact fun _=>rfl|(intro q;simp))).mono ?_;rintro e w3 ⟨rfl,hw3⟩;obtain rfl:=hw3.symm)|(go_at_call 153;refine(hit _ (by first|exact fun _=>rfl|(intro q;simp))).mono ?_;rintro e w3 ⟨rfl,hw3⟩;obtain rfl:=hw3.symm))
   go_ret;exact⟨by first|rfl|simp,by first|exact hbw|exact below_drewN hbw _⟩
 .by_cases e18:kx=18
  .subst e18;rw[show Ct 18 x y z nx=(x&&z) by simp[Ct]];clear HS HPN;cases x
   all_goals
    go_enter eO,eY;go_wp2_with (first|(go_at_call 87;refine hpa.mono ?_;clear hpa;rintro e w2 ⟨rfl,hb2,HP⟩;obtain⟨hbw,d0,d1,d2,d3,d4,d5⟩:=HP2.out w2 hb2;have hf:=HF.out w2 _ _ _ HP.out;have hit:=HZ.out w2 hbw d4 d5)|(go_at_call 120;refine(hf _ (by first|exact fun _=>rfl|(intro q;simp))).mono ?_;rintro e w3 ⟨rfl,hw3⟩;obtain rfl:=hw3.symm)|(go_at_call 153;refine(hit _ (by first|exact fun _=>rfl|(intro q;simp))).mono ?_;rintro e w3 ⟨rfl,hw3⟩;obtain rfl:=hw3.symm))
    go_ret;exact⟨by first|rfl|simp,by first|exact hbw|exact below_drewN hbw _⟩
  .by_cases e15:kx=15
   .subst e15;rw[show Ct 15 x y z nx=(y||(x&&z)) by simp[Ct]];have HS2:=(show E _ from HS.out (by decide));clear HS HPN;cases x<;>cases y
    all_goals
     go_enter eO,eY;go_wp2_with (first|(go_at_call 87;refine hpa.mono ?_;clear hpa;rintro e w2 ⟨rfl,hb2,HP⟩;obtain⟨hbw,d0,d1,d2,d3,d4,d5⟩:=HP2.out w2 hb2;have hf:=HF.out w2 _ _ _ HP.out;have hs:=HS2.out w2 _ _ _ HP.out;have hit:=HZ.out w2 hbw d4 d5)|(go_at_call 120;refine(hf _ (by first|exact fun _=>rfl|(intro q;simp))).mono ?_;rintro e w3 ⟨rfl,hw3⟩;obtain rfl:=hw3.symm)|(go_at_call 121;refine hs.mono ?_;rintro e w3 ⟨rfl,r3,rfl⟩)|(go_at_call 153;refine(hit _ (by first|exact fun _=>rfl|(intro q;simp))).mono ?_;rintro e w3 ⟨rfl,hw3⟩;obtain rfl:=hw3.symm))
     go_ret;exact⟨by first|rfl|simp,by first|exact hbw|exact below_drewN hbw _⟩
   .by_cases e16:kx=16
    .subst e16;rw[show Ct 16 x y z nx=(y&&(x||z)) by simp[Ct]];have HS2:=(show E _ from HS.out (by decide));clear HS HPN;cases x<;>cases y
     all_goals
      go_enter eO,eY;go_wp2_with (first|(go_at_call 87;refine hpa.mono ?_;clear hpa;rintro e w2 ⟨rfl,hb2,HP⟩;obtain⟨hbw,d0,d1,d2,d3,d4,d5⟩:=HP2.out w2 hb2;have hf:=HF.out w2 _ _ _ HP.out;have hs:=HS2.out w2 _ _ _ HP.out;have hit:=HZ.out w2 hbw d4 d5)|(go_at_call 120;refine(hf _ (by first|exact fun _=>rfl|(intro q;simp))).mono ?_;rintro e w3 ⟨rfl,hw3⟩;obtain rfl:=hw3.symm)|(go_at_call 121;refine hs.mono ?_;rintro e w3 ⟨rfl,r3,rfl⟩)|(go_at_call 153;refine(hit _ (by first|exact fun _=>rfl|(intro q;simp))).mono ?_;rintro e w3 ⟨rfl,hw3⟩;obtain rfl:=hw3.symm))
      go_ret;exact⟨by first|rfl|simp,by first|exact hbw|exact below_drewN hbw _⟩
    .rw[show Ct kx x y z nx=nx by simp[Ct,e17,e18,e15,e16]];clear HS HF HZ;go_enter eO,eY;go_wp2_with (first|(go_at_call 87;refine hpa.mono ?_;clear hpa;rintro e w2 ⟨rfl,hb2,HP⟩;obtain⟨hbw,d0,d1,d2,d3,d4,d5⟩:=HP2.out w2 hb2;have hpn:=HPN.out w2 hbw)|(go_at_call 87;refine hpn.mono ?_;rintro e w4 ⟨rfl,hb4,HF4⟩)|(go_at_call 120;refine HF4.out.mono ?_;rintro e w5 ⟨rfl,hw5⟩;obtain rfl:=hw5.symm))
     go_ret;exact⟨rfl,hb4⟩
def Ec(l:am)(h g:Nat->Bool)(p:Nat):Bool:=Ct (l.getD p (0,0)).1 (h (p+1)) (h (sec l p)) (g p) (g (p+1))
def Fol(l:am)(h g:Nat->Bool):Prop:=∀p,p<l.length->Ag (l.getD p (0,0)).1=true->h p=Ec l h g p
noncomputable def Bp(l:am)(now:List Bool)(claim:Int)(next:List Bool)(later:Int):Int:=if now.length≠next.length then 1 else if BI l now claim≠0 then BI l now claim else BI l next later
open Classical in
noncomputable def BC(l:am)(now:List Bool)(claim:Int)(next:List Bool)(later:Int):Bool:=if Bp l now claim next later=0 then decide (Fol l (tru l now claim) (tru l next later))else ZX
theorem Ge{l:am}{now:List Bool}{claim:Int}{next:List Bool}{later:Int}(h:Bp l now claim next later≠0):BC l now claim next later=false:=by unfold BC;rw[ak h]
open Classical in
theorem Qo{l:am}{now:List Bool}{claim:Int}{next:List Bool}{later:Int}(h:Bp l now claim next later=0)(h2:Fol l (tru l now claim) (tru l next later)):BC l now claim next later=true:=by unfold BC;rw[aj h];exact decide_eq_true h2
open Classical in
theorem Qm{l:am}{now:List Bool}{claim:Int}{next:List Bool}{later:Int}(h2:¬Fol l (tru l now claim) (tru l next later)):BC l now claim next later=false:=by
 unfold BC;split
 .exact decide_eq_false h2
 .rfl
theorem Qp(v:ZZ)(no xo:Option Addr)(nn nc xn xc:Nat)(claim later:Int)(oo:Option Addr)(on oc:Nat)(hv:v=U oo on oc)(w:J)(h:nn≠xn) :
  I qA 91 #[v,U no nn nc,.int T claim,U xo xn xc,.int T later] w fun e w'=>e=N (ZY #[.bool ZX,.int T 1])/\O w.heap.size w w':=by
 subst hv;have hne:¬(nn:Int)=xn:=by omega
 clear h;go_enter eU,ff;go_wp2_with fail
 go_ret2;exact⟨rfl,qD _ _⟩
theorem Qq(oo:Option Addr)(oc:Nat)(l:am)(no xo:Option Addr)(nc xc:Nat)(now next:List Bool)(claim later:Int)(w:J)(hB:0<w.heap.size)(hT:AF w)(hV:OpsV w (.slice oo l.length oc) l)(hL:BoolsV w (.slice no now.length nc) now)(hX:BoolsV w (.slice xo next.length xc) next)(hlen:now.length=next.length) :
  I qA 91 #[.slice oo l.length oc,.slice no now.length nc,.int T claim,.slice xo next.length xc,.int T later] w fun e w'=>e=N (ZY #[.bool (BC l now claim next later),.int T (Bp l now claim next later)])/\O w.heap.size w w':=by
 have hrd:=JD _ l now.length w hB hT hV;by_cases hc:Ad now.length l=0
 .obtain ⟨_,_,hz,_,h6⟩:=B6 hc;have hcx:Ad next.length l=0:=by rw[<-hlen];exact hc
  have hrd2:I qA 54 #[.slice oo l.length oc,.int T (now.length:Int)] w fun e w'=>O w.heap.size w w'/\∃B aao ac,e=N (ZY #[ZW #[.slice oo l.length oc,U (V ⟨B,0,Z⟩) l.length l.length,.slice aao (AA l).length ac],.int T 0])/\E (BG w' (.slice oo l.length oc) B (.slice aao (AA l).length ac) l):=hrd.mono fun e w' ⟨h1,_,h3⟩=>⟨h1,h3 hc⟩;have HM:E (∀w1 B aao ac,O w.heap.size w w1->BG w1 (.slice oo l.length oc) B (.slice aao (AA l).length ac) l->I qA 60 #[ZW #[.slice oo l.length oc,U (V ⟨B,0,Z⟩) l.length l.length,.slice aao (AA l).length ac],.slice no now.length nc,.int T claim] w1 (IL l now claim w1)):=fun w1 B aao ac hb hW=>G0 _ B _ _ l now claim w1 hc hW (hL.below hb);have HM2:E (∀w1 B aao ac,O w.heap.size w w1->BG w1 (.slice oo l.length oc) B (.slice aao (AA l).length ac) l->I qA 60 #[ZW #[.slice oo l.length oc,U (V ⟨B,0,Z⟩) l.length l.length,.slice aao (AA l).length ac],.slice xo next.length xc,.int T later] w1 (IL l next later w1)):=fun w1 B aao ac hb hW=>G0 _ B _ _ l next later w1 hcx hW (hX.below hb)
  have HWA:E (∀w1 B aao ac,BG w1 (.slice oo l.length oc) B (.slice aao (AA l).length ac) l->∀o,BG (w1.alloc o) (.slice oo l.length oc) B (.slice aao (AA l).length ac) l):=fun w1 B aao ac hW o=>hW.below ((qD _ _).alloc (qB _) o);by_cases hcl:CB l claim
  .have hft:Bp l now claim next later=2:=by unfold Bp;rw[ak (by simpa using hlen),F4 hc hcl,aj (by decide)]
   rw[Ge (by rw[hft];decide),hft];have HM3:E (∀w1 B aao ac,O w.heap.size w w1->BG w1 (.slice oo l.length oc) B (.slice aao (AA l).length ac) l->∀o,I qA 60 #[ZW #[.slice oo l.length oc,U (V ⟨B,0,Z⟩) l.length l.length,.slice aao (AA l).length ac],.slice no now.length nc,.int T claim] (w1.alloc o) fun e w'=>e=N (ZY #[U Z 0 0,.int T 2])/\O w1.heap.size w1 w'):=fun w1 B aao ac hb hW o=>(HM.out _ B aao ac (hb.alloc hb.size o) (HWA.out _ B aao ac hW o)).mono fun e w' ⟨h1,h2,_⟩=>⟨h2 hcl,((qD _ _).alloc (qB _) o).trans (h1.mono (by simp))⟩;generalize(AA l).length=an at *;rw[<-hlen];generalize now.length=ln at *;generalize l.length=n at *;clear hrd hT hV hL hX hc hcx HM HM2 HWA hcl hft hz h6 hlen
   go_enter eU,ff;go_wp2_with (first|(go_at_call 54;refine hrd2.mono ?_;rintro e w1 ⟨hb1,B,aao,ac,rfl,HW⟩;have hme:=HM3.out w1 B aao ac hb1 HW.out)|(go_at_call 60;refine(hme _).mono ?_;rintro e w2 ⟨rfl,hb2⟩))
   go_ret2;exact⟨rfl,ae hb1 hb2⟩
  .have ht1:BI l now claim=0:=EL hc hcl;have hft:Bp l now claim next later=BI l next later:=by unfold Bp;rw[ak (by simpa using hlen),ht1];rfl
   have HM3:E (∀w1 B aao ac,O w.heap.size w w1->BG w1 (.slice oo l.length oc) B (.slice aao (AA l).length ac) l->I qA 60 #[ZW #[.slice oo l.length oc,U (V ⟨B,0,Z⟩) l.length l.length,.slice aao (AA l).length ac],.slice no now.length nc,.int T claim] (w1.alloc (C #[.slice oo l.length oc,U (V ⟨B,0,Z⟩) l.length l.length,.slice aao (AA l).length ac] 138)) fun e w'=>∃bH,e=N (ZY #[U (V ⟨bH,0,Z⟩) l.length l.length,.int T 0])/\O w1.heap.size w1 w'/\w1.heap.size<w'.heap.size/\w'.cell? ⟨w1.heap.size,0,Z⟩=V (.slice oo l.length oc)/\w'.cell? ⟨w1.heap.size,1,Z⟩=V (U (V ⟨B,0,Z⟩) l.length l.length)/\w'.cell? ⟨w1.heap.size,2,Z⟩=V (.slice aao (AA l).length ac)/\E (BG w' (.slice oo l.length oc) B (.slice aao (AA l).length ac) l/\w'.rowIs bH 4 l.length (fun j=>.bool (tru l now claim j)))):=fun w1 B aao ac hb hW=>(HM.out _ B aao ac (hb.alloc hb.size _) (HWA.out _ B aao ac hW _)).mono fun e w' ⟨h1,_,h3⟩=>by
    obtain⟨bH,he,hr⟩:=h3 hcl;have h1':O (w1.heap.size+1) (w1.alloc (C #[.slice oo l.length oc,U (V ⟨B,0,Z⟩) l.length l.length,.slice aao (AA l).length ac] 138)) w':=by simpa using h1
    have hb':O w1.heap.size w1 w':=(ai).trans (h1'.mono (vE _));refine⟨bH,he,hb',by have:=h1'.size;simp at this;omega,(h1'.cell (p:=⟨w1.heap.size,0,Z⟩) (qZ _)).trans (by simp[go_sem]),(h1'.cell (p:=⟨w1.heap.size,1,Z⟩) (qZ _)).trans (by simp[go_sem]),(h1'.cell (p:=⟨w1.heap.size,2,Z⟩) (qZ _)).trans (by simp[go_sem]),hW.below hb',hr⟩
   by_cases hcl2:CB l later
   .have hft2:Bp l now claim next later=2:=by rw[hft,F4 hcx hcl2]
    rw[Ge (by rw[hft2];decide),hft2];have HM4:E (∀w1 B aao ac,O w.heap.size w w1->BG w1 (.slice oo l.length oc) B (.slice aao (AA l).length ac) l->I qA 60 #[ZW #[.slice oo l.length oc,U (V ⟨B,0,Z⟩) l.length l.length,.slice aao (AA l).length ac],.slice xo next.length xc,.int T later] w1 fun e w'=>e=N (ZY #[U Z 0 0,.int T 2])/\O w1.heap.size w1 w'):=fun w1 B aao ac hb hW=>(HM2.out _ B aao ac hb hW).mono fun e w' ⟨h1,h2,_⟩=>⟨h2 hcl2,h1⟩;generalize(AA l).length=an at *;rw[<-hlen]at HM4⊢;generalize now.length=ln at *;generalize hnn:l.length=n at *;clear hrd hT hV hL hX hc hcx HM HM2 HWA hcl hcl2 hft hft2 ht1 hz h6 hlen hnn
    go_enter eU,ff;go_wp2_with (first|(go_at_call 54;refine hrd2.mono ?_;rintro e w1 ⟨hb1,B,aao,ac,rfl,HW⟩;have hme:=HM3.out w1 B aao ac hb1 HW.out)|(go_at_call 60;refine hme.mono ?_;clear hme;rintro e w2 ⟨bH,rfl,hb2,hs2,d0,d1,d2,HW2⟩;have hb12:=ae hb1 hb2;have hme2:=HM4.out w2 B aao ac hb12 HW2.out.1)|(go_at_call 60;refine hme2.mono ?_;rintro e w3 ⟨rfl,hb3⟩))
    go_ret2;exact⟨rfl,ae hb12 hb3⟩
   .have hft2:Bp l now claim next later=0:=by rw[hft,EL hcx hcl2]
    have HM4:E (∀w1 B aao ac,O w.heap.size w w1->BG w1 (.slice oo l.length oc) B (.slice aao (AA l).length ac) l->I qA 60 #[ZW #[.slice oo l.length oc,U (V ⟨B,0,Z⟩) l.length l.length,.slice aao (AA l).length ac],.slice xo next.length xc,.int T later] w1 fun e w'=>∃bN,e=N (ZY #[U (V ⟨bN,0,Z⟩) l.length l.length,.int T 0])/\O w1.heap.size w1 w'/\E (w'.rowIs bN 4 l.length (fun j=>.bool (tru l next later j)))):=fun w1 B aao ac hb hW=>(HM2.out _ B aao ac hb hW).mono fun e w' ⟨h1,_,h3⟩=>by
     obtain⟨bN,he,hr⟩:=h3 hcl2;exact⟨bN,he,h1,hr⟩
    have HYes:E (Fol l (tru l now claim) (tru l next later)->BC l now claim next later=true):=Qo hft2;have HNot:E (¬Fol l (tru l now claim) (tru l next later)->BC l now claim next later=ZX):=Qm;have HFol:E (Fol l (tru l now claim) (tru l next later)↔∀p,p<l.length->Ag (l.getD p (0,0)).1=true->tru l now claim p=Ec l (tru l now claim) (tru l next later) p):=Iff.rfl;have HCo:E (∀w2 B bH bN aao ac p,BG w2 (.slice oo l.length oc) B (.slice aao (AA l).length ac) l->w2.rowIs bH 4 l.length (fun j=>.bool (tru l now claim j))->w2.rowIs bN 4 l.length (fun j=>.bool (tru l next later j))->p<l.length->Ag (l.getD p (0,0)).1=true->I qA 123 #[ZW #[.slice oo l.length oc,U (V ⟨B,0,Z⟩) l.length l.length,.slice aao (AA l).length ac],.int T (p:Int),U (V ⟨bH,0,Z⟩) l.length l.length,U (V ⟨bN,0,Z⟩) l.length l.length] w2 fun e w'=>e=N (.bool (Ec l (tru l now claim) (tru l next later) p))/\O w2.heap.size w2 w'):=fun w2 B bH bN aao ac p hW hr hr2 hp hk=>by
     obtain⟨b,off,cap,hv,_⟩:=id hW;injection hv with e1 e2 e3;subst e1 e3;exact Pu b off l.length oc B bH bN l _ _ p _ aao _ ac w2 (Mz hW hz hr hp hk) (fun j hj=>hr2.cell hj) hr2.lt
    have HG:E (∀w2 B aao ac k,BG w2 (.slice oo l.length oc) B (.slice aao (AA l).length ac) l->k<(AA l).length->∃p:Nat,(∃ab aoff,aao=V ⟨ab,aoff,Z⟩/\ab<w2.heap.size/\w2.cell? ⟨ab,aoff+k,Z⟩=V (.int T (p:Int)))/\p<l.length/\Ag (l.getD p (0,0)).1=true/\(AO l p).length=k):=fun w2 B aao ac k hW hk=>by
     obtain⟨_,_,_,_,_,_,_,ao',ac',hsl,hai⟩:=hW;injection hsl with e1 e2 e3;subst e1;obtain⟨ab,aoff,rfl,habl,haat⟩:=hai (by intro h;rw[h]at hk;simp at hk);obtain⟨p,h1,h2,h3,h4⟩:=GJ l l.length k hk;have h1':(AA l).getD k 0=(p:Int):=h1;exact⟨p,⟨ab,aoff,rfl,habl,by rw[haat k hk,h1']⟩,h2,h3,h4⟩
    have HLt:E (∀p,p<l.length->Ag (l.getD p (0,0)).1=true->(AO l p).length<(AA l).length):=fun p hp hk=>EY l hp hk;have HUq:E (∀p q,Ag (l.getD p (0,0)).1=true->Ag (l.getD q (0,0)).1=true->(AO l p).length=(AO l q).length->p=q):=fun p q h1 h2 he=>by
     rcases Nat.lt_trichotomy p q with h|h|h
     .have:=EY l h h1;omega
     .exact h
     .have:=EY l h h2;omega
    rw[hft2];generalize BC l now claim next later=fr at *;generalize Ec l (tru l now claim) (tru l next later)=cm at *;generalize Fol l (tru l now claim) (tru l next later)=FP at *;generalize tru l now claim=tn at *;generalize tru l next later=tx at *;obtain⟨an,han⟩:∃an,an=(AA l).length:=⟨_,rfl⟩
    rw[<-han]at hrd2 HM3 HM4 HCo HG HLt h6;rw[<-hlen]at HM4⊢;generalize now.length=ln at *;generalize hnn:l.length=n at *;clear hrd hT hV hL hX hc hcx HM HM2 HWA hcl hcl2 hft hft2 ht1 hz hlen hnn han
    go_enter eU,ff;go_wp2_with (first|(go_at_call 54;refine hrd2.mono ?_;rintro e w1 ⟨hb1,B,aao,ac,rfl,HW⟩;have hme:=HM3.out w1 B aao ac hb1 HW.out)|(go_at_call 60;refine hme.mono ?_;clear hme;rintro e w2 ⟨bH,rfl,hb2,hs2,d0,d1,d2,HW2⟩;have hb12:=ae hb1 hb2;have hme2:=HM4.out w2 B aao ac hb12 HW2.out.1)|(go_at_call 60;refine hme2.mono ?_;clear hme2;rintro e w3 ⟨bN,rfl,hb3,HN3⟩;have g0:=(hb3.cell (p:=⟨w1.heap.size,0,Z⟩) hs2).trans d0;have g1:=(hb3.cell (p:=⟨w1.heap.size,1,Z⟩) hs2).trans d1;have g2:=(hb3.cell (p:=⟨w1.heap.size,2,Z⟩) hs2).trans d2))
    have hb13:=ae hb12 hb3;have hs3:=qE hs2 hb3.size;have HW3:E (BG w3 (U oo n oc) B (U aao an ac) l/\w3.rowIs bH 4 n (fun j=>.bool (tn j))):=⟨HW2.out.1.below hb3,CA HW2.out.2 hb3⟩;clear hrd2 HM3 HM4 HW HW2 d0 d1 d2;go_loopw [56] (fun i wr=>∃k:Nat,k<=an/\i=.int T (k:Int)/\E (∀p,p<n->Ag (l.getD p (0,0)).1=true->(AO l p).length<k->tn p=cm p)/\E (O w3.heap.size w3 wr)) (fun i _=>an-(intOf i).toNat)
    case atStart=>exact⟨0,qJ _,rfl,fun p _ _ h=>absurd h (Nat.not_lt_zero _),qD _ _⟩
    case round=>
     obtain⟨k,hk,rfl,HAll,HBel⟩:=hrel;have hbel:=HBel.out;by_cases hlt:k<an
     .have hWr:=HW3.out.1.below hbel;obtain⟨p,⟨ab,aoff,rfl,habl,hca⟩,hpn,hpk,hpi⟩:=HG.out wr B aao ac k hWr hlt;have hco:=HCo.out;have HSt:E (∀w',O wr.heap.size wr w'->w'.cell? ⟨w1.heap.size,0,Z⟩=V (U oo n oc)/\w'.cell? ⟨w1.heap.size,1,Z⟩=V (U (V ⟨B,0,Z⟩) n n)/\w'.cell? ⟨w1.heap.size,2,Z⟩=V (U (V ⟨ab,aoff,Z⟩) an ac)/\w'.cell? ⟨bH,p,Z⟩=V (.bool (tn p))/\O wr.heap.size wr w'):=fun w' hb=>by
       have hbw:=ae hbel hb;have hr:=CA HW3.out.2 hbw;exact⟨(hbw.cell (p:=⟨w1.heap.size,0,Z⟩) hs3).trans g0,(hbw.cell (p:=⟨w1.heap.size,1,Z⟩) hs3).trans g1,(hbw.cell (p:=⟨w1.heap.size,2,Z⟩) hs3).trans g2,hr.cell hpn,hb⟩
      have hcc:=fun w' (hb:O wr.heap.size wr w')=>HCo.out w' B bH bN _ ac p (hWr.below hb) (CA (CA HW3.out.2 hbel) hb) (CA (CA HN3.out hbel) hb) hpn hpk;have hS:=HSt.out;have hB0:O wr.heap.size wr wr:=qD _ _;have HNext:E (tn p=cm p->∀q,q<n->Ag (l.getD q (0,0)).1=true->(AO l q).length<k+1->tn q=cm q):=fun he q hq hqk hql=>by
       by_cases h:(AO l q).length<k
       .exact HAll.out q hq hqk h
       .have hqp:q=p:=HUq.out q p hqk hpk (by omega);rw[hqp];exact he
      have HBad:E (tn p≠cm p->fr=ZX):=fun h=>HNot.out fun hf=>h (HFol.out.1 hf p hpn hpk);have hp0:(0:Int)<=(p:Int):=Int.natCast_nonneg _;have hpI:(p:Int)<(n:Int):=by omega
      generalize tn p=tv at *;generalize cm p=cv at *;clear HG HCo HAll HNot HYes HFol HLt HUq hco HSt hWr hpk hpi
      by_cases htv:tv=cv
      .have HNx:=(show E _ from HNext.out htv);subst htv;clear HNext HBad;go_wp2_with fail
       go_region_held3 (fun w'=>w'.cell? ⟨w1.heap.size,0,Z⟩=V (U oo n oc)/\w'.cell? ⟨w1.heap.size,1,Z⟩=V (U (V ⟨B,0,Z⟩) n n)/\w'.cell? ⟨w1.heap.size,2,Z⟩=V (U (V ⟨ab,aoff,Z⟩) an ac)/\w'.cell? ⟨bH,p,Z⟩=V (.bool tv)/\O wr.heap.size wr w')
        (exact hS _ (by first|exact hB0|exact hB0.drew|exact hB0.drew.trans hb4))
        (first|(go_at_call 123;refine(hcc _ hB0.drew).mono ?_;rintro e w4 ⟨rfl,hb4⟩))
       go_wp2_with fail
       have hbf:=hbel.trans ((hB0.drew.trans hb4).mono hbel.size);exact⟨⟨k+1,hlt,by first|rfl|simp,HNx.out,hbf⟩,by simp[intOf];omega⟩
      .have HF:=(show E _ from HBad.out htv);clear HNext HBad;cases tv<;>cases cv
       .exact absurd rfl htv
       .go_wp2_with fail
        go_region_held3 (fun w'=>w'.cell? ⟨w1.heap.size,0,Z⟩=V (U oo n oc)/\w'.cell? ⟨w1.heap.size,1,Z⟩=V (U (V ⟨B,0,Z⟩) n n)/\w'.cell? ⟨w1.heap.size,2,Z⟩=V (U (V ⟨ab,aoff,Z⟩) an ac)/\w'.cell? ⟨bH,p,Z⟩=V (.bool ZX)/\O wr.heap.size wr w')
         (exact hS _ (by first|exact hB0|exact hB0.drew|exact hB0.drew.trans hb4))
         (first|(go_at_call 123;refine(hcc _ hB0.drew).mono ?_;rintro e w4 ⟨rfl,hb4⟩))
        go_wp2_with fail
        have hbf:=hbel.trans ((hB0.drew.trans hb4).mono hbel.size);go_ret2;rw[HF.out];exact⟨rfl,ae hb13 hbf⟩
       .go_wp2_with fail
        go_region_held3 (fun w'=>w'.cell? ⟨w1.heap.size,0,Z⟩=V (U oo n oc)/\w'.cell? ⟨w1.heap.size,1,Z⟩=V (U (V ⟨B,0,Z⟩) n n)/\w'.cell? ⟨w1.heap.size,2,Z⟩=V (U (V ⟨ab,aoff,Z⟩) an ac)/\w'.cell? ⟨bH,p,Z⟩=V (.bool true)/\O wr.heap.size wr w')
         (exact hS _ (by first|exact hB0|exact hB0.drew|exact hB0.drew.trans hb4))
         (first|(go_at_call 123;refine(hcc _ hB0.drew).mono ?_;rintro e w4 ⟨rfl,hb4⟩))
        go_wp2_with fail
        have hbf:=hbel.trans ((hB0.drew.trans hb4).mono hbel.size);go_ret2;rw[HF.out];exact⟨rfl,ae hb13 hbf⟩
       .exact absurd rfl htv
     .obtain rfl:k=an:=by omega
      have HFr:E (fr=true):=HYes.out (HFol.out.2 fun p hp hpk=>HAll.out p hp hpk (HLt.out p hp hpk));clear HG HCo HAll HNot HYes HFol HLt HUq;go_wp2_with fail
      go_ret2;rw[HFr.out];exact⟨rfl,ae hb13 hbel⟩
 .have hft:Bp l now claim next later=Ad now.length l:=by unfold Bp;rw[ak (by simpa using hlen),Hy hc,aj hc]
  rw[Ge (by rw[hft];exact hc),hft];have hrd2:I qA 54 #[.slice oo l.length oc,.int T (now.length:Int)] w fun e w'=>O w.heap.size w w'/\e=N (ZY #[ZW #[U Z 0 0,U Z 0 0,U Z 0 0],.int T (Ad now.length l)]):=hrd.mono fun e w' ⟨h1,h2,_⟩=>⟨h1,h2 hc⟩;rw[<-hlen];generalize Ad now.length l=x at *;generalize now.length=ln at *;generalize l.length=n at *;clear hrd hT hV hL hX hft hlen
  go_enter eU,ff;go_wp2_with (go_at_call 54;refine hrd2.mono ?_;rintro e w1 ⟨hb1,rfl⟩)
  go_ret2;exact⟨rfl,by first|exact hb1|exact hb1.alloc hb1.size _⟩
theorem SD(v nv xv:ZZ)(l:am)(now next:List Bool)(claim later:Int)(w:J)(hB:0<w.heap.size)(hT:AF w)(hV:OpsV w v l)(hL:BoolsV w nv now)(hX:BoolsV w xv next) :
  I qA 91 #[v,nv,.int T claim,xv,.int T later] w fun e w'=>e=N (ZY #[.bool (BC l now claim next later),.int T (Bp l now claim next later)])/\O w.heap.size w w':=by
 obtain⟨oo,oc,rfl,_⟩:=id hV;obtain⟨no,nc,rfl,_⟩:=id hL;obtain⟨xo,xc,rfl,_⟩:=id hX;by_cases hlen:now.length=next.length
 .exact Qq oo oc l no xo nc xc now next claim later w hB hT hV hL hX hlen
 .have hf:Bp l now claim next later=1:=by unfold Bp;rw[aj hlen]
  rw[Ge (by rw[hf];decide),hf];exact Qp _ no xo _ nc _ xc claim later oo l.length oc rfl w hlen
def DF(l:am)(p:Nat):Nat:=if(l.getD p (0,0)).1=14 then p+1 else p
def CH(l:am)(g:Nat->Bool):Nat->Int
 |0=>0
 |k+1=>CH l g k+if g (DF l ((AA l).getD k 0).toNat)=true then 2^k else 0
def Er(l:am)(g:Nat->Bool):Int:=CH l g (AA l).length
theorem Hq(l:am)(g:Nat->Bool):∀k,0<=CH l g k/\CH l g k<2^k:=by
 intro k;induction k with
 |zero=>simp[CH]
 |succ k ih=>
  have h2:(0:Int)<2^k:=j9 (by decide);rw[CH,kW];split<;>omega
theorem Nf{l:am}{g g':Nat->Bool}:∀{k:Nat},CH l g k=CH l g' k->∀j,j<k->g (DF l ((AA l).getD j 0).toNat)=g' (DF l ((AA l).getD j 0).toNat)
 |0,_,j,hj=>by omega
 |k+1,h,j,hj=>by
  obtain⟨a0,a1⟩:=Hq l g k;obtain⟨b0,b1⟩:=Hq l g' k;have h2:(0:Int)<2^k:=j9 (by decide);rw[CH,CH]at h;rcases(show j<k\/j=k by omega)with h3|h3
  .refine Nf (k:=k) ?_ j h3;split at h<;>split at h<;>omega
  .subst h3;generalize g (DF l ((AA l).getD j 0).toNat)=x at h⊢;generalize g' (DF l ((AA l).getD j 0).toNat)=y at h⊢;cases x<;>cases y
   .rfl
   .rw[ak (by simp),aj rfl]at h;omega
   .rw[aj rfl,ak (by simp)]at h;omega
   .rfl
theorem Oj(l:am):∀(d n:Nat),∃r,AO l (n+d)=AO l n++r:=by
 intro d;induction d with
 |zero=>exact fun n=>⟨[],by simp⟩
 |succ d ih=>
  intro n;obtain⟨r,hr⟩:=ih n;refine⟨r++(if Ag (l.getD (n+d) (0,0)).1=true then [((n+d:Nat):Int)]else []),?_⟩;rw[show n+(d+1)=(n+d)+1 by omega,AO,hr,q9]
theorem Ok{l:am}{p:Nat}(hp:p<l.length)(hb:Ag (l.getD p (0,0)).1=true):(AO l p).length<(AA l).length/\(AA l).getD (AO l p).length 0=(p:Int):=by
 have h1:=EY l hp hb;refine⟨h1,?_⟩;obtain⟨r,hr⟩:=Oj l (l.length-(p+1)) (p+1);rw[show p+1+(l.length-(p+1))=l.length by omega,GK hb]at hr;unfold AA;rw[hr,q9];simp[qC]
theorem Qr{l:am}{h g g':Nat->Bool}(e:Er l g=Er l g'):Fol l h g↔Fol l h g':=by
 have key:∀p,p<l.length->Ag (l.getD p (0,0)).1=true->Ec l h g p=Ec l h g' p:=by
  intro p hp hb;obtain⟨h1,h2⟩:=Ok hp hb;have h3:=Nf e (AO l p).length h1;rw[h2]at h3;simp only[Int.toNat_natCast]at h3;unfold Ec Ct;unfold DF at h3;have hk:14<=(l.getD p (0,0)).1/\(l.getD p (0,0)).1<=18:=by simpa[Ag]using hb
  by_cases h14:(l.getD p (0,0)).1=14
  .rw[aj h14]at h3;rw[h14,h3];simp
  .rw[ak h14]at h3;rw[h3];have:(l.getD p (0,0)).1=15\/(l.getD p (0,0)).1=16\/(l.getD p (0,0)).1=17\/(l.getD p (0,0)).1=18:=by omega
   rcases this with h5|h5|h5|h5<;>rw[h5]<;>simp
 refine⟨fun H p hp hb=>?_,fun H p hp hb=>?_⟩
 .rw[H p hp hb,key p hp hb]
 .rw[H p hp hb,key p hp hb]
theorem I2:(qA.info? 82).map (fun i=>(i.zero,i.size,i.bytes))=V (V (ZW #[ZV T 0,.int T 0]),2,16):=by kernel_rfl
def SpO(w:J)(base:Nat)(v:ZZ)(l:am):Prop:=w.ownsRow base 82 2 v l.length (flat l)
theorem SpO.nil(w:J)(base:Nat):SpO w base (U Z 0 0) []:=World.ownsRow_nil _ _ _ _
theorem SpO.later{w w':J}{base B:Nat}{v:ZZ}{l:am}(h:SpO w base v l)(hb:O B w w')(hB:w.heap.size<=B):SpO w' base v l:=Ap h hb hB
theorem SpO.shape{w:J}{base:Nat}{v:ZZ}{l:am}(h:SpO w base v l):∃ao cap,v=.slice ao l.length cap:=Au h
def SpV(w:J)(v:ZZ)(l:am):Prop:=∃ao cap,v=.slice ao l.length cap/\(l≠[]->∃b off,ao=V ⟨b,off,Z⟩/\b<w.heap.size/\BR w b off l)
theorem SpV.nil(w:J):SpV w (U Z 0 0) []:=⟨Z,0,rfl,fun h=>absurd rfl h⟩
theorem SpV.below{w w':J}{v:ZZ}{l:am}(h:SpV w v l)(hb:O w.heap.size w w'):SpV w' v l:=by
 obtain⟨ao,cap,rfl,h⟩:=h;refine⟨ao,cap,rfl,fun hne=>?_⟩;obtain⟨b,off,rfl,hlt,hat⟩:=h hne;exact⟨b,off,rfl,qE hlt hb.size,fun i hi=>⟨(hb.cell (p:=⟨b,_,Z⟩) hlt).trans (hat i hi).1,(hb.cell (p:=⟨b,_,Z⟩) hlt).trans (hat i hi).2⟩⟩
theorem SpO.v{w:J}{base:Nat}{v:ZZ}{l:am}(h:SpO w base v l):SpV w v l:=by
 rcases h.2 with⟨rfl,h0⟩|⟨g,cap,cur,rfl,hb,hg,hnc,hcm,hcs,htake⟩
 .have:l=[]:=by simpa using h0
  subst this;exact SpV.nil w
 .refine ⟨_,cap,rfl,fun _=>⟨g,0,rfl,(qG.1 hg).1,fun i hi=>?_⟩⟩;obtain⟨f0,f1⟩:=Fj l i hi;rw[fk.cellAt h _ (by omega),fk.cellAt h _ (by omega)];simpa using⟨f0,f1⟩
section
variable{W:J}
theorem M5{ops:Array Oper}{rest:List Oper}{o:Oper}{a:Act}{Q:Exit->Act->J->Prop}(y z:Int)(hgd:o.guard=Z)(s x:Operand)
  (ho:o.op=.call { callee:=.builtin .append,args:=#[s,x],argTypes:=#[41,41]})
  (base n cap:Nat) (vo:Option Addr) (l:am) (hl:l.length=n) (hs:a.eval s=U vo n cap) (hown:SpO W base (U vo n cap) l) (hx:a.eval x=U (V ⟨W.heap.size,0,Z⟩) 1 1)
  (hsz:(n+1)*16<=140737488355328) (hbase:base<=W.heap.size)
  (h:∀vo' cap' w',SpO w' base (.slice vo' (n+1) cap') (l++[(y,z)])->O base W w'->(W.alloc (C #[ZV T y,.int T z] 82)).grownBy w' (Value.slice vo n cap).ownBlock->wpList qA ops Q rest (a.put o.dst (.slice vo' (n+1) cap')) w'):wpList qA ops Q (o::rest) a (W.alloc (C #[ZV T y,.int T z] 82)):=by
 subst hl;obtain⟨i0,hi,hz0,hz1,hz2⟩:=info_parts I2;have hown':W.ownsRow base 82 2 (.slice vo l.length cap) l.length (flat l):=hown;refine wpList_append_own _ hgd s x 41 ho base 82 i0 (ZW #[ZV T 0,.int T 0]) 2 16 Tryz.underlying41 hi hz0 hz1 hz2 rfl (by decide) (.slice vo l.length cap) l.length (flat l) hs (hown'.alloc _) ⟨W.heap.size,0,Z⟩ 1 1 [.int T y,.int T z] hx rfl (DS _ _ _ _) (by intro u hu;simp at hu;rcases hu with rfl|rfl<;>rfl) (by unfold maxLen;omega) hsz (qI hbase (by simp)) ?_;intro v' w4 hown' hgrow _;obtain⟨a4,c4,rfl⟩:=Au hown';refine h a4 c4 w4 ?_ (((qD base W).alloc hbase _).grown hgrow (qI hbase (by simp)) (fun q hq=>(fk.lt hown q hq).1)) hgrow;unfold SpO;rw[Fi,List.length_append];exact hown'
end
open Go.ChangeShapes Go.WideShapes Go.ChangeAt Go.RowKit Go.Deep Go.Maps
open Terms Tm
theorem Nw(x:Int)(w:J) :
  I qA 116 #[ZV T x] w fun e w'=>e=N (.bool (decide (¬(-1000000<=x/\x<=1000000))))/\w'=w:=by
 by_cases h1:x < -1000000
 .rw[show decide (¬(-1000000<=x/\x<=1000000))=true by simp;omega];go_enter eM,eW;go_wp2;all_goals go_ret
  all_goals exact⟨rfl,rfl⟩
 .by_cases h2:1000000<x
  .rw[show decide (¬(-1000000<=x/\x<=1000000))=true by simp;omega];go_enter eM,eW;go_wp2;all_goals go_ret
   all_goals exact⟨rfl,rfl⟩
  .rw[show decide (¬(-1000000<=x/\x<=1000000))=ZX by simp;omega];go_enter eM,eW;go_wp2;all_goals go_ret
   all_goals exact⟨rfl,rfl⟩
theorem KC(c:Bool)(w:J) :
  I qA 146 #[.bool c] w fun e w'=>e=N (.int T (if c=true then 1 else 0))/\w'=w:=by
 cases c
 all_goals
  go_enter Tryz.func146,Tryz.ntmps146;go_wp2;all_goals go_ret
  all_goals exact⟨rfl,rfl⟩
def Dp(k:Int):Nat:=if k=3 then 142 else if k=4 then 143 else if k=5 then 144 else if k=6 then 145 else if k=7 then 147 else if k=8 then 148 else 149
theorem Kd{x:Int}(h:-1000000<=x/\x<=1000000):x.natAbs<=1000000:=by omega
theorem Sz{x y:Int}(hx:-1000000<=x/\x<=1000000)(hy:-1000000<=y/\y<=1000000):-1000000000000<=x*y/\x*y<=1000000000000:=by
 have h:=Nat.mul_le_mul (Kd hx) (Kd hy);rw[<-Int.natAbs_mul]at h;omega
theorem Je(k x y:Int)(w:J)(h3:3<=k)(h9:k<=9)(hx:-1000000<=x/\x<=1000000)(hy:-1000000<=y/\y<=1000000)(ht:8<=k->(x=0\/x=1)/\(y=0\/y=1)) :
  I qA (Dp k) #[ZV T x,.int T y] w fun e w'=>e=N (.int T (bin k x y))/\w'=w:=by
 have hk:k=3\/k=4\/k=5\/k=6\/k=7\/k=8\/k=9:=by omega
 have hm:=Sz hx hy;obtain⟨hm1,hm2⟩:=hm;obtain⟨hx1,hx2⟩:=hx;obtain⟨hy1,hy2⟩:=hy;clear h3 h9;rcases hk with rfl|rfl|rfl|rfl|rfl|rfl|rfl
 .show I qA 142 _ _ _;clear ht;go_enter Tryz.func142,Tryz.ntmps142;go_wp2;go_ret;exact⟨rfl,rfl⟩
 .show I qA 143 _ _ _;clear ht;go_enter Tryz.func143,Tryz.ntmps143;go_wp2;go_ret;exact⟨rfl,rfl⟩
 .show I qA 144 _ _ _;clear ht;go_enter Tryz.func144,Tryz.ntmps144;go_wp2;go_ret;exact⟨rfl,rfl⟩
 .show I qA 145 _ _ _;clear ht;have htr:=fun w=>KC (x == y) w;have hb:bin 6 x y=if(x == y)=true then 1 else 0:=by simp[bin]
  rw[<-hb]at htr;generalize bin 6 x y=z at htr⊢;clear hb;go_enter Tryz.func145,Tryz.ntmps145;go_wp2_with (go_at_call 146;refine(htr _).mono ?_;rintro e w1 ⟨rfl,rfl⟩)
  go_ret;exact⟨rfl,rfl⟩
 .show I qA 147 _ _ _;clear ht;by_cases hc:x<y
  .have htr:=fun w=>KC true w;have hb:bin 7 x y=1:=by simp[bin,hc]
   rw[hb];clear hb;go_enter eP,eZ;go_wp2_with (go_at_call 146;refine(htr _).mono ?_;rintro e w1 ⟨rfl,rfl⟩)
   go_ret;exact⟨rfl,rfl⟩
  .have htr:=fun w=>KC ZX w;have hb:bin 7 x y=0:=by simp[bin,hc]
   rw[hb];clear hb;go_enter eP,eZ;go_wp2_with (go_at_call 146;refine(htr _).mono ?_;rintro e w1 ⟨rfl,rfl⟩)
   go_ret;exact⟨rfl,rfl⟩
 .show I qA 148 _ _ _;obtain⟨ha,hb⟩:=ht (by decide);clear ht hm1 hm2 hx1 hx2 hy1 hy2;rcases ha with rfl|rfl<;>rcases hb with rfl|rfl;all_goals
   go_enter Tryz.func148,Tryz.ntmps148;go_wp2;go_ret;exact⟨rfl,rfl⟩
 .show I qA 149 _ _ _;obtain⟨ha,hb⟩:=ht (by decide);clear ht hm1 hm2 hx1 hx2 hy1 hy2;rcases ha with rfl|rfl<;>rcases hb with rfl|rfl;all_goals
   go_enter Tryz.func149,Tryz.ntmps149;go_wp2;go_ret;exact⟨rfl,rfl⟩
def DL:ZZ->Option (DataW Unit×List MemPlace)
 | .func (.func f) first cap=>if first=#[]/\cap=#[]then V (.lit (.int T f),[])else Z
 | .nilFunc=>V (.nil,[])
 |_=>Z
theorem Ql{v:ZZ}{f:Nat}{ps:List MemPlace}(h:DL v=V (.lit (.int T f),ps)):v=.func (.func f) #[] #[]:=by
 unfold DL at h;split at h
 .split at h
  .rename_i hc;obtain⟨rfl,rfl⟩:=hc;simp at h;rw[Int.ofNat.inj h.1]
  .simp at h
 .simp at h
 .simp at h
theorem Eu{H:Type}{P:Program}(w:J){ops:Array Oper}{rest:List Oper}{o:Oper}{a:Act}{Q:Exit->Act->J->Prop}
  (hg:o.guard=Z) (m x v:Operand) (t:TypeId) (hop:o.op=Op.insert t m x v)
  (k e:TypeId) (K:Keyed P k) (ht:P.underlying t=V (.map k e)) (R:ZZ->Option (DataW H×List MemPlace)) (b n:Nat) (D:DataW H)
  (hm:a.eval m=.map (V b)) (hown:w.ownsMap P k R b n D) (hn:n<maxLen) (key val:ZZ) (kl:Lit) (hx:a.eval x=key) (hv:a.eval v=val) (hkey:keyOf P k key=V kl)
  (d:DataW H) (ps:List MemPlace) (hval:R val=V (d,ps))
  (hK:∀w',w'.ownsMap P k R b (n+1) (D.put kl d)->w.grownBy w' (V b)->wpList P ops Q rest (a.put o.dst undef) w') :
  wpList P ops Q (o::rest) a w:=by
 refine wpList_plain hg fun K' hK'=>?_;obtain⟨w',hrun,r1,r2⟩:=hown.update K ht hn hkey hval;unfold Oper.wp;simp[execOp,hop,hm,hx,hv,hrun,Result.andThen];exact hK' _ _ (hK w' r1 r2)
def Jd:Nat->DataW Unit
 |0=>.map []
 |n+1=>(Jd n).put (.int T ((n:Int)+3)) (.lit (.int T (Dp ((n:Int)+3))))
def Dz(w:J)(M:Nat):Prop:=w.ownsMap qA 3 DL M 7 (Jd 7)
theorem Dz.later{w w':J}{M:Nat}(h:Dz w M)(hb:O w.heap.size w w'):Dz w' M:=by
 have hlt:=fj.lt h;obtain⟨es,clock,h1,h2⟩:=h;exact⟨es,clock,(hb.block M hlt).trans h1,h2⟩
theorem EA:Keyed qA 3:=int_keyed bI
theorem D9(k:Int)(h:3<=k/\k<=9):keyOf qA 3 (.int T k)=V (.int T k):=keyOf_int_mk bI (WalkArith.wf_i64 (by omega))
theorem Dz.look{w:J}{M:Nat}(h:Dz w M){k:Int}(h3:3<=k)(h9:k<=9) :
  (Instr.lookup 222 (.map (V M)) (.int T k) ZX).run qA w=.ok (.func (.func (Dp k)) #[] #[]) w:=by
 obtain⟨v,ps,hrun,hv⟩:=fj.lookup h EA fh (z:=.nilFunc) (by kernel_rfl) (zd:=.nil) (zp:=[]) rfl (D9 k ⟨h3,h9⟩);have hat:(Jd 7).atKey (.int T k) .nil=.lit (.int T (Dp k)):=by
  have hk:k=3\/k=4\/k=5\/k=6\/k=7\/k=8\/k=9:=by omega
  rcases hk with rfl|rfl|rfl|rfl|rfl|rfl|rfl<;>rfl
 rw[hat]at hv;rw[hrun,Ql hv]
theorem Tr(w:J) :
  I qA 117 #[] w fun e w'=>∃M,w.heap.size<=M/\e=N (.map (V M))/\Dz w' M/\O w.heap.size w w':=by
 have hmm:=@run_makeMap qA;have h0:=World.ownsMap_made w qA 3 DL;go_enter Tryz.func117,Tryz.ntmps117;go_wp2_with (first
  |(refine Eu _ rfl _ _ _ 222 rfl 3 55 EA fh DL w.heap.size 6 _ rfl h6 (by unfold maxLen;omega) _ _ _ rfl rfl (D9 9 (by omega)) _ [] rfl ?_;intro w7 h7 g7)
  |(refine Eu _ rfl _ _ _ 222 rfl 3 55 EA fh DL w.heap.size 5 _ rfl h5 (by unfold maxLen;omega) _ _ _ rfl rfl (D9 8 (by omega)) _ [] rfl ?_;intro w6 h6 g6)
  |(refine Eu _ rfl _ _ _ 222 rfl 3 55 EA fh DL w.heap.size 4 _ rfl h4 (by unfold maxLen;omega) _ _ _ rfl rfl (D9 7 (by omega)) _ [] rfl ?_;intro w5 h5 g5)
  |(refine Eu _ rfl _ _ _ 222 rfl 3 55 EA fh DL w.heap.size 3 _ rfl h3 (by unfold maxLen;omega) _ _ _ rfl rfl (D9 6 (by omega)) _ [] rfl ?_;intro w4 h4 g4)
  |(refine Eu _ rfl _ _ _ 222 rfl 3 55 EA fh DL w.heap.size 2 _ rfl h2 (by unfold maxLen;omega) _ _ _ rfl rfl (D9 5 (by omega)) _ [] rfl ?_;intro w3 h3 g3)
  |(refine Eu _ rfl _ _ _ 222 rfl 3 55 EA fh DL w.heap.size 1 _ rfl h1 (by unfold maxLen;omega) _ _ _ rfl rfl (D9 4 (by omega)) _ [] rfl ?_;intro w2 h2 g2)
  |(refine Eu _ rfl _ _ _ 222 rfl 3 55 EA fh DL w.heap.size 0 _ rfl h0 (by unfold maxLen;omega) _ _ _ rfl rfl (D9 3 (by omega)) _ [] rfl ?_;intro w1 h1 g1))
 go_ret;have hb0:O w.heap.size w (w.alloc (.map #[] 0)):=ai;have hb:∀{x y:J},O w.heap.size w x->x.grownBy y (V w.heap.size)->O w.heap.size w y:=fun h g=>h.grown g h.size (fun j hj=>by cases hj;exact qB _);exact⟨w.heap.size,qB _,rfl,h7,hb (hb (hb (hb (hb (hb (hb hb0 g1) g2) g3) g4) g5) g6) g7⟩
structure WorkAt(w:J)(b off B:Nat)(eao:Option Addr)(M:Nat)(t:Tm)(env:List Int):Prop where
 ob:b<w.heap.size
 ops:BR w b off t.ops
 ends : w.rowIs B 3 t.size (fun q => .int T (An (t.ops.map aW) q))
 env:∀i,i<env.length->∃eb eoff,eao=V ⟨eb,eoff,Z⟩/\eb<w.heap.size/\w.cell? ⟨eb,eoff+i,Z⟩=V (.int T (env.getD i 0))
 pairs:Dz w M
theorem WorkAt.later{w w':J}{b off B:Nat}{eao:Option Addr}{M:Nat}{t:Tm}{env:List Int}(h:WorkAt w b off B eao M t env)(hb:O w.heap.size w w'):WorkAt w' b off B eao M t env:=by
 obtain⟨h1,h2,h3,h4,h5⟩:=h;refine⟨qE h1 hb.size,h2.below hb h1,h3.of_block (hb.block B h3.lt),fun i hi=>?_,h5.later hb⟩;obtain⟨eb,eoff,e1,e2,e3⟩:=h4 i hi;exact⟨eb,eoff,e1,qE e2 hb.size,(hb.cell (p:=⟨eb,eoff+i,Z⟩) e2).trans e3⟩
def BQ(r:Option Int)(w:J)(e:Ending)(w':J):Prop:=
 O w.heap.size w w'/\match r with
  |some x=>e=N (.int T x)
  |none=>e=.panicked [{ v:=.iface 46 (.int T 8),recovered:=ZX}]
abbrev workV(b off n cap B:Nat)(eao:Option Addr)(en ecap M:Nat):Value:=ZW #[U (V ⟨b,off,Z⟩) n cap,U (V ⟨B,0,Z⟩) n n,U eao en ecap,.map (V M)]
theorem O3(b off n cap B:Nat)(eao:Option Addr)(en ecap M place:Nat)(x:Int)(w:J)(hob:b<w.heap.size)(hp:place<n)(c0:w.cell? ⟨b,off+place*2,Z⟩=V (.int T 1))(c1:w.cell? ⟨b,off+place*2+1,Z⟩=V (.int T x)) :
  I qA 118 #[workV b off n cap B eao en ecap M,.int T place] w (BQ (V x) w):=by
 have hne:¬b=w.heap.size:=by omega
 go_enter eN,eX;go_wp2_with fail
 go_ret;exact⟨(ai).alloc (by simp) _,rfl⟩
theorem O4(b off n cap B eb eoff en ecap M place j:Nat)(x:Int)(w:J)(hob:b<w.heap.size)(hp:place<n)(hj:j<en)(c0:w.cell? ⟨b,off+place*2,Z⟩=V (.int T 2))(c1:w.cell? ⟨b,off+place*2+1,Z⟩=V (.int T j))(hbl:eb<w.heap.size)(c2:w.cell? ⟨eb,eoff+j,Z⟩=V (.int T x)) :
  I qA 118 #[workV b off n cap B (V ⟨eb,eoff,Z⟩) en ecap M,.int T place] w (BQ (V x) w):=by
 have hne:¬b=w.heap.size:=by omega
 go_enter eN,eX;go_wp2_with fail
 go_ret;exact⟨(ai).alloc (by simp) _,rfl⟩
theorem O1(b off n cap B:Nat)(eao:Option Addr)(en ecap M place:Nat)(k:Int)(hk:k=11\/k=12)(w:J)(hob:b<w.heap.size)(hp:place<n)(c0:w.cell? ⟨b,off+place*2,Z⟩=V (.int T k))(c1:w.cell? ⟨b,off+place*2+1,Z⟩=V (.int T 0)) :
  I qA 118 #[workV b off n cap B eao en ecap M,.int T place] w (BQ (V (if k=11 then 1 else 0)) w):=by
 rcases hk with rfl|rfl
 .rw[aj rfl];have hne:¬b=w.heap.size:=by omega
  go_enter eN,eX;go_wp2_with fail
  go_ret;exact⟨(ai).alloc (by simp) _,rfl⟩
 .rw[ak (by decide)];have hne:¬b=w.heap.size:=by omega
  go_enter eN,eX;go_wp2_with fail
  go_ret;exact⟨(ai).alloc (by simp) _,rfl⟩
theorem O2(b off n cap B:Nat)(eao:Option Addr)(en ecap M place:Nat)(r:Option Int)(w:J)(hob:b<w.heap.size)(hp:place<n)(h60:n<=60)(c0:w.cell? ⟨b,off+place*2,Z⟩=V (.int T 10))(c1:w.cell? ⟨b,off+place*2+1,Z⟩=V (.int T 0))
  (hr:∀x,r=V x->-1000000<=x/\x<=1000000)
  (hrec:∀w',O w.heap.size w w'->I qA 118 #[workV b off n cap B eao en ecap M,.int T ((place:Int)+1)] w' (BQ r w')) :
  I qA 118 #[workV b off n cap B eao en ecap M,.int T place] w (BQ (r.map (1 - ·)) w):=by
 have hne:¬b=w.heap.size:=by omega
 have hb2:O w.heap.size w ((w.alloc (C #[U (V ⟨b,off,Z⟩) n cap,U (V ⟨B,0,Z⟩) n n,U eao en ecap,.map (V M)] 225)).alloc (C #[ZV T 10,.int T 0] 100)):=(ai).alloc (by simp) _;have hrec':=hrec _ hb2;have HB2:=(show E _ from hb2);clear hrec hb2;cases r with
 |none=>
  go_enter eN,eX;go_wp2_with (go_at_call 118;refine hrec'.mono ?_;rintro e w1 ⟨hb1,rfl⟩)
  exact⟨rfl,ae HB2.out hb1,rfl⟩
 |some x=>
  obtain⟨hx1,hx2⟩:=hr x rfl;clear hr;go_enter eN,eX;go_wp2_with (go_at_call 118;refine hrec'.mono ?_;rintro e w1 ⟨hb1,rfl⟩)
  go_ret;exact⟨ae HB2.out hb1,rfl⟩
attribute [local go_sem ↓] Go.wp_at_zero Go.wp_at_succ
theorem Ts(k:Int)(h3:3<=k)(h9:k<=9)(args:Array ZZ)(w:J):(callFunc (Dp k) args).run qA w=.ok (.enter (Dp k) args) w:=by
 have hk:k=3\/k=4\/k=5\/k=6\/k=7\/k=8\/k=9:=by omega
 rcases hk with rfl|rfl|rfl|rfl|rfl|rfl|rfl
 .show (callFunc 142 args).run qA w=.ok (.enter 142 args) w;simp[go_sem]
 .show (callFunc 143 args).run qA w=.ok (.enter 143 args) w;simp[go_sem]
 .show (callFunc 144 args).run qA w=.ok (.enter 144 args) w;simp[go_sem]
 .show (callFunc 145 args).run qA w=.ok (.enter 145 args) w;simp[go_sem]
 .show (callFunc 147 args).run qA w=.ok (.enter 147 args) w;simp[go_sem]
 .show (callFunc 148 args).run qA w=.ok (.enter 148 args) w;simp[go_sem]
 .show (callFunc 149 args).run qA w=.ok (.enter 149 args) w;simp[go_sem]
theorem KM{x:Int}(h1:0<=x)(h2:x<=1000):aY.wrap x=x:=by
 simp[IntKind.wrap,IntKind.bits,IntKind.signed];omega
theorem Oy(b off n cap B:Nat)(eao:Option Addr)(en ecap M place E1 F:Nat)(k x y z:Int)(w:J)(hob:b<w.heap.size)(hBB:B<w.heap.size)(hp:place+1<n)(P1:Nat)(hP1:P1=place+1)(h60:n<=60)(hk3:3<=k)(hk9:k<=9)(c0:w.cell? ⟨b,off+place*2,Z⟩=V (.int T k))(c1:w.cell? ⟨b,off+place*2+1,Z⟩=V (.int T 0))(cE:w.cell? ⟨B,P1,Z⟩=V (.int T E1))
  (hlook:∀w',O w.heap.size w w'->(Instr.lookup 222 (.map (V M)) (.int T k) ZX).run qA w'=.ok (.func (.func F) #[] #[]) w')
  (hent:∀args w,(callFunc F args).run qA w=.ok (.enter F args) w)
  (hpair:∀w',I qA F #[ZV T x,.int T y] w' fun e w''=>e=N (.int T z)/\w''=w')
  (hra:∀w',O w.heap.size w w'->I qA 118 #[workV b off n cap B eao en ecap M,.int T P1] w' (BQ (V x) w'))
  (hrb:∀w',O w.heap.size w w'->I qA 118 #[workV b off n cap B eao en ecap M,.int T E1] w' (BQ (V y) w')) :
  I qA 118 #[workV b off n cap B eao en ecap M,.int T place] w (BQ (lid z) w):=by
 have hne:¬b=w.heap.size:=by omega
 have hneB:¬B=w.heap.size:=by omega
 have e1:¬k=1:=by omega
 have e2:¬k=2:=by omega
 have e3:¬k=10:=by omega
 have e4:¬k=11:=by omega
 have e5:¬k=12:=by omega
 obtain⟨W2,hW2⟩:∃W2,W2=((w.alloc (C #[U (V ⟨b,off,Z⟩) n cap,U (V ⟨B,0,Z⟩) n n,U eao en ecap,.map (V M)] 225)).alloc (C #[ZV T k,.int T 0] 100)):=⟨_,rfl⟩;have hb2:O w.heap.size w W2:=by rw[hW2];exact(ai).alloc (by simp) _
 have hsz:W2.heap.size=w.heap.size+1+1:=by rw[hW2];simp
 have d0:W2.cell? ⟨w.heap.size,0,Z⟩=V (U (V ⟨b,off,Z⟩) n cap):=by rw[hW2];simp[go_sem]
 have d1:W2.cell? ⟨w.heap.size,1,Z⟩=V (U (V ⟨B,0,Z⟩) n n):=by rw[hW2];simp[go_sem]
 have d2:W2.cell? ⟨w.heap.size,2,Z⟩=V (U eao en ecap):=by rw[hW2];simp[go_sem]
 have d3:W2.cell? ⟨w.heap.size,3,Z⟩=V (.map (V M)):=by rw[hW2];simp[go_sem]
 have d4:W2.cell? ⟨w.heap.size+1,0,Z⟩=V (.int T k):=by rw[hW2];simp[go_sem]
 have d5:W2.cell? ⟨B,P1,Z⟩=V (.int T E1):=(hb2.cell (p:=⟨B,P1,Z⟩) hBB).trans cE;have HW2:=(show E _ from hW2);have hS:∀w',O W2.heap.size W2 w'->w'.cell? ⟨w.heap.size,0,Z⟩=V (U (V ⟨b,off,Z⟩) n cap)/\w'.cell? ⟨w.heap.size,1,Z⟩=V (U (V ⟨B,0,Z⟩) n n)/\w'.cell? ⟨w.heap.size,2,Z⟩=V (U eao en ecap)/\w'.cell? ⟨w.heap.size,3,Z⟩=V (.map (V M))/\w'.cell? ⟨w.heap.size+1,0,Z⟩=V (.int T k)/\w'.cell? ⟨B,P1,Z⟩=V (.int T E1)/\(Instr.lookup 222 (.map (V M)) (.int T k) ZX).run qA w'=.ok (.func (.func F) #[] #[]) w':=fun w' hw'=>
  ⟨(hw'.cell (p:=⟨w.heap.size,0,Z⟩) (by simp only;omega)).trans d0,(hw'.cell (p:=⟨w.heap.size,1,Z⟩) (by simp only;omega)).trans d1,(hw'.cell (p:=⟨w.heap.size,2,Z⟩) (by simp only;omega)).trans d2,(hw'.cell (p:=⟨w.heap.size,3,Z⟩) (by simp only;omega)).trans d3,(hw'.cell (p:=⟨w.heap.size+1,0,Z⟩) (by simp only;omega)).trans d4,(hw'.cell (p:=⟨B,P1,Z⟩) (by simp only;omega)).trans d5,hlook w' (ae hb2 hw')⟩
 have hra':∀w',O W2.heap.size W2 w'->I qA 118 #[workV b off n cap B eao en ecap M,.int T P1] w' (BQ (V x) w'):=fun w' hw'=>hra w' (ae hb2 hw');have hrb':∀w',O W2.heap.size W2 w'->I qA 118 #[workV b off n cap B eao en ecap M,.int T E1] w' (BQ (V y) w'):=fun w' hw'=>hrb w' (ae hb2 hw');have hB0:O W2.heap.size W2 W2:=qD _ _;have HB2:E (O w.heap.size w W2):=hb2;have hp0:place<n:=by omega
 have hi0:(0:Int)<=(P1:Int):=by omega
 have hi1:(P1:Int)<(n:Int):=by omega
 have hpp:(place:Int)+1=(P1:Int):=by omega
 have hwr:aY.wrap (P1:Int)=(P1:Int):=KM (by omega) (by omega);have hwr2:aY.wrap ((place:Int)+1)=(P1:Int):=by rw[hpp];exact hwr
 have htg:=fun w=>Nw z w;clear hW2 hb2 hra hrb hlook hP1 hp hsz d0 d1 d2 d3 d4 d5;by_cases hz:-1000000<=z/\z<=1000000
 .rw[show decide (¬(-1000000<=z/\z<=1000000))=ZX by simpa using hz]at htg;rw[show lid z=V z by unfold lid;rw[aj hz]];clear hz;go_enter eN,eX;go_wp2_with fail
  rw[<-HW2.out];clear c0 c1 cE;go_region_held3 (fun w'=>w'.cell? ⟨w.heap.size,0,Z⟩=V (U (V ⟨b,off,Z⟩) n cap)/\w'.cell? ⟨w.heap.size,1,Z⟩=V (U (V ⟨B,0,Z⟩) n n)/\w'.cell? ⟨w.heap.size,2,Z⟩=V (U eao en ecap)/\w'.cell? ⟨w.heap.size,3,Z⟩=V (.map (V M))/\w'.cell? ⟨w.heap.size+1,0,Z⟩=V (.int T k)/\w'.cell? ⟨B,P1,Z⟩=V (.int T E1)/\(Instr.lookup 222 (.map (V M)) (.int T k) ZX).run qA w'=.ok (.func (.func F) #[] #[]) w')
   (exact hS _ (by first|exact hB0|exact hB0.drew|exact hB0.drew.trans hb1|exact(hB0.drew.trans hb1).trans (hb3.mono (hB0.drew.trans hb1).size)))
   (first|(go_at_call_of 118 E1;refine(hrb' _ (hB0.drew.trans hb1)).mono ?_;rintro e w3 ⟨hb3,rfl⟩)|(go_at_call 118;refine(hra' _ hB0.drew).mono ?_;rintro e w1 ⟨hb1,rfl⟩)|(refine(hpair _).mono ?_;rintro e w4 ⟨rfl,rfl⟩))
  all_goals
   go_wp2_with (go_at_call 116;refine(htg _).mono ?_;rintro e w5 ⟨rfl,rfl⟩)
   go_ret;exact⟨HB2.out.trans (((hB0.drew.trans hb1).trans (hb3.mono (hB0.drew.trans hb1).size)).mono HB2.out.size),rfl⟩
 .rw[show decide (¬(-1000000<=z/\z<=1000000))=true by simp;omega]at htg;rw[show lid z=Z by unfold lid;rw[ak hz]];clear hz;go_enter eN,eX;go_wp2_with fail
  rw[<-HW2.out];clear c0 c1 cE;go_region_held3 (fun w'=>w'.cell? ⟨w.heap.size,0,Z⟩=V (U (V ⟨b,off,Z⟩) n cap)/\w'.cell? ⟨w.heap.size,1,Z⟩=V (U (V ⟨B,0,Z⟩) n n)/\w'.cell? ⟨w.heap.size,2,Z⟩=V (U eao en ecap)/\w'.cell? ⟨w.heap.size,3,Z⟩=V (.map (V M))/\w'.cell? ⟨w.heap.size+1,0,Z⟩=V (.int T k)/\w'.cell? ⟨B,P1,Z⟩=V (.int T E1)/\(Instr.lookup 222 (.map (V M)) (.int T k) ZX).run qA w'=.ok (.func (.func F) #[] #[]) w')
   (exact hS _ (by first|exact hB0|exact hB0.drew|exact hB0.drew.trans hb1|exact(hB0.drew.trans hb1).trans (hb3.mono (hB0.drew.trans hb1).size)))
   (first|(go_at_call_of 118 E1;refine(hrb' _ (hB0.drew.trans hb1)).mono ?_;rintro e w3 ⟨hb3,rfl⟩)|(go_at_call 118;refine(hra' _ hB0.drew).mono ?_;rintro e w1 ⟨hb1,rfl⟩)|(refine(hpair _).mono ?_;rintro e w4 ⟨rfl,rfl⟩))
  all_goals
   go_wp2_with (go_at_call 116;refine(htg _).mono ?_;rintro e w5 ⟨rfl,rfl⟩)
   exact⟨rfl,HB2.out.trans (((hB0.drew.trans hb1).trans (hb3.mono (hB0.drew.trans hb1).size)).mono HB2.out.size),rfl⟩
attribute [local go_sem ↓] Go.wp_at_zero Go.wp_at_succ
theorem Calls.pan{f:FuncId}{args:Array ZZ}{w:J}{X:Ending->J->Prop}(x:Int)(h:I qA f args w (BQ Z w))
  (hX:∀w',O w.heap.size w w'->X (.panicked [{ v:=.iface 46 (.int T 8),recovered:=ZX}]) w') (_:∀w',O w.heap.size w w'->E False->X (N (.int T x)) w'):I qA f args w X:=
 h.mono fun e w' ⟨hb,he⟩=>by subst he;exact hX w' hb
theorem Oz(b off n cap B:Nat)(eao:Option Addr)(en ecap M place E1 F:Nat)(k x y z:Int)(w:J)(hob:b<w.heap.size)(hBB:B<w.heap.size)(hp:place+1<n)(P1:Nat)(hP1:P1=place+1)(h60:n<=60)(hk3:3<=k)(hk9:k<=9)(c0:w.cell? ⟨b,off+place*2,Z⟩=V (.int T k))(c1:w.cell? ⟨b,off+place*2+1,Z⟩=V (.int T 0))(cE:w.cell? ⟨B,P1,Z⟩=V (.int T E1))
  (hlook:∀w',O w.heap.size w w'->(Instr.lookup 222 (.map (V M)) (.int T k) ZX).run qA w'=.ok (.func (.func F) #[] #[]) w')
  (hent:∀args w,(callFunc F args).run qA w=.ok (.enter F args) w)
  (hpair:∀w',I qA F #[ZV T x,.int T y] w' fun e w''=>e=N (.int T z)/\w''=w')
  (hra:∀w',O w.heap.size w w'->I qA 118 #[workV b off n cap B eao en ecap M,.int T P1] w' (BQ Z w'))
  (hrb:E False->∀w',O w.heap.size w w'->I qA 118 #[workV b off n cap B eao en ecap M,.int T E1] w' (BQ (V y) w')) :
  I qA 118 #[workV b off n cap B eao en ecap M,.int T place] w (BQ Z w):=by
 have hne:¬b=w.heap.size:=by omega
 have hneB:¬B=w.heap.size:=by omega
 have e1:¬k=1:=by omega
 have e2:¬k=2:=by omega
 have e3:¬k=10:=by omega
 have e4:¬k=11:=by omega
 have e5:¬k=12:=by omega
 obtain⟨W2,hW2⟩:∃W2,W2=((w.alloc (C #[U (V ⟨b,off,Z⟩) n cap,U (V ⟨B,0,Z⟩) n n,U eao en ecap,.map (V M)] 225)).alloc (C #[ZV T k,.int T 0] 100)):=⟨_,rfl⟩;have hb2:O w.heap.size w W2:=by rw[hW2];exact(ai).alloc (by simp) _
 have hsz:W2.heap.size=w.heap.size+1+1:=by rw[hW2];simp
 have d0:W2.cell? ⟨w.heap.size,0,Z⟩=V (U (V ⟨b,off,Z⟩) n cap):=by rw[hW2];simp[go_sem]
 have d1:W2.cell? ⟨w.heap.size,1,Z⟩=V (U (V ⟨B,0,Z⟩) n n):=by rw[hW2];simp[go_sem]
 have d2:W2.cell? ⟨w.heap.size,2,Z⟩=V (U eao en ecap):=by rw[hW2];simp[go_sem]
 have d3:W2.cell? ⟨w.heap.size,3,Z⟩=V (.map (V M)):=by rw[hW2];simp[go_sem]
 have d4:W2.cell? ⟨w.heap.size+1,0,Z⟩=V (.int T k):=by rw[hW2];simp[go_sem]
 have d5:W2.cell? ⟨B,P1,Z⟩=V (.int T E1):=(hb2.cell (p:=⟨B,P1,Z⟩) hBB).trans cE;have HW2:=(show E _ from hW2);have hS:∀w',O W2.heap.size W2 w'->w'.cell? ⟨w.heap.size,0,Z⟩=V (U (V ⟨b,off,Z⟩) n cap)/\w'.cell? ⟨w.heap.size,1,Z⟩=V (U (V ⟨B,0,Z⟩) n n)/\w'.cell? ⟨w.heap.size,2,Z⟩=V (U eao en ecap)/\w'.cell? ⟨w.heap.size,3,Z⟩=V (.map (V M))/\w'.cell? ⟨w.heap.size+1,0,Z⟩=V (.int T k)/\w'.cell? ⟨B,P1,Z⟩=V (.int T E1)/\(Instr.lookup 222 (.map (V M)) (.int T k) ZX).run qA w'=.ok (.func (.func F) #[] #[]) w':=fun w' hw'=>
  ⟨(hw'.cell (p:=⟨w.heap.size,0,Z⟩) (by simp only;omega)).trans d0,(hw'.cell (p:=⟨w.heap.size,1,Z⟩) (by simp only;omega)).trans d1,(hw'.cell (p:=⟨w.heap.size,2,Z⟩) (by simp only;omega)).trans d2,(hw'.cell (p:=⟨w.heap.size,3,Z⟩) (by simp only;omega)).trans d3,(hw'.cell (p:=⟨w.heap.size+1,0,Z⟩) (by simp only;omega)).trans d4,(hw'.cell (p:=⟨B,P1,Z⟩) (by simp only;omega)).trans d5,hlook w' (ae hb2 hw')⟩
 have hra':∀w',O W2.heap.size W2 w'->I qA 118 #[workV b off n cap B eao en ecap M,.int T P1] w' (BQ Z w'):=fun w' hw'=>hra w' (ae hb2 hw');have hrb':E False->∀w',O W2.heap.size W2 w'->I qA 118 #[workV b off n cap B eao en ecap M,.int T E1] w' (BQ (V y) w'):=fun hF w' hw'=>hrb hF w' (ae hb2 hw');have hB0:O W2.heap.size W2 W2:=qD _ _;have HB2:E (O w.heap.size w W2):=hb2;have hp0:place<n:=by omega
 have hi0:(0:Int)<=(P1:Int):=by omega
 have hi1:(P1:Int)<(n:Int):=by omega
 have hpp:(place:Int)+1=(P1:Int):=by omega
 have hwr:aY.wrap (P1:Int)=(P1:Int):=KM (by omega) (by omega);have hwr2:aY.wrap ((place:Int)+1)=(P1:Int):=by rw[hpp];exact hwr
 clear hW2 hb2 hra hrb hlook hP1 hp hsz d0 d1 d2 d3 d4 d5;go_enter eN,eX;go_wp2_with fail
 rw[<-HW2.out];clear c0 c1 cE;go_region_held2 (fun w'=>w'.cell? ⟨w.heap.size,0,Z⟩=V (U (V ⟨b,off,Z⟩) n cap)/\w'.cell? ⟨w.heap.size,1,Z⟩=V (U (V ⟨B,0,Z⟩) n n)/\w'.cell? ⟨w.heap.size,2,Z⟩=V (U eao en ecap)/\w'.cell? ⟨w.heap.size,3,Z⟩=V (.map (V M))/\w'.cell? ⟨w.heap.size+1,0,Z⟩=V (.int T k)/\w'.cell? ⟨B,P1,Z⟩=V (.int T E1)/\(Instr.lookup 222 (.map (V M)) (.int T k) ZX).run qA w'=.ok (.func (.func F) #[] #[]) w')
  (exact hS _ (by first|exact hB0|exact hB0.drew|exact hB0.drew.trans hb1|exact(hB0.drew.trans hb1).trans (hb3.mono (hB0.drew.trans hb1).size)))
  (first|(go_at_call_of 118 E1;refine(hrb' hF _ (hB0.drew.trans hb1)).mono ?_;rintro e w3 ⟨hb3,rfl⟩)|(go_at_call 118;refine Calls.pan x (hra' _ hB0.drew) (fun w1 hb1=>⟨rfl,HB2.out.trans ((hB0.drew.trans hb1).mono HB2.out.size),rfl⟩) (fun w1 hb1 hF=>?_))|(refine(hpair _).mono ?_;rintro e w4 ⟨rfl,rfl⟩))
 all_goals exact hF.out.elim
theorem O0(b off n cap B:Nat)(eao:Option Addr)(en ecap M place E1 F:Nat)(k x y z:Int)(w:J)(hob:b<w.heap.size)(hBB:B<w.heap.size)(hp:place+1<n)(P1:Nat)(hP1:P1=place+1)(h60:n<=60)(hk3:3<=k)(hk9:k<=9)(c0:w.cell? ⟨b,off+place*2,Z⟩=V (.int T k))(c1:w.cell? ⟨b,off+place*2+1,Z⟩=V (.int T 0))(cE:w.cell? ⟨B,P1,Z⟩=V (.int T E1))
  (hlook:∀w',O w.heap.size w w'->(Instr.lookup 222 (.map (V M)) (.int T k) ZX).run qA w'=.ok (.func (.func F) #[] #[]) w')
  (hent:∀args w,(callFunc F args).run qA w=.ok (.enter F args) w)
  (hpair:∀w',I qA F #[ZV T x,.int T y] w' fun e w''=>e=N (.int T z)/\w''=w')
  (hra:∀w',O w.heap.size w w'->I qA 118 #[workV b off n cap B eao en ecap M,.int T P1] w' (BQ (V x) w'))
  (hrb:∀w',O w.heap.size w w'->I qA 118 #[workV b off n cap B eao en ecap M,.int T E1] w' (BQ Z w')) :
  I qA 118 #[workV b off n cap B eao en ecap M,.int T place] w (BQ Z w):=by
 have hne:¬b=w.heap.size:=by omega
 have hneB:¬B=w.heap.size:=by omega
 have e1:¬k=1:=by omega
 have e2:¬k=2:=by omega
 have e3:¬k=10:=by omega
 have e4:¬k=11:=by omega
 have e5:¬k=12:=by omega
 obtain⟨W2,hW2⟩:∃W2,W2=((w.alloc (C #[U (V ⟨b,off,Z⟩) n cap,U (V ⟨B,0,Z⟩) n n,U eao en ecap,.map (V M)] 225)).alloc (C #[ZV T k,.int T 0] 100)):=⟨_,rfl⟩;have hb2:O w.heap.size w W2:=by rw[hW2];exact(ai).alloc (by simp) _
 have hsz:W2.heap.size=w.heap.size+1+1:=by rw[hW2];simp
 have d0:W2.cell? ⟨w.heap.size,0,Z⟩=V (U (V ⟨b,off,Z⟩) n cap):=by rw[hW2];simp[go_sem]
 have d1:W2.cell? ⟨w.heap.size,1,Z⟩=V (U (V ⟨B,0,Z⟩) n n):=by rw[hW2];simp[go_sem]
 have d2:W2.cell? ⟨w.heap.size,2,Z⟩=V (U eao en ecap):=by rw[hW2];simp[go_sem]
 have d3:W2.cell? ⟨w.heap.size,3,Z⟩=V (.map (V M)):=by rw[hW2];simp[go_sem]
 have d4:W2.cell? ⟨w.heap.size+1,0,Z⟩=V (.int T k):=by rw[hW2];simp[go_sem]
 have d5:W2.cell? ⟨B,P1,Z⟩=V (.int T E1):=(hb2.cell (p:=⟨B,P1,Z⟩) hBB).trans cE;have HW2:=(show E _ from hW2);have hS:∀w',O W2.heap.size W2 w'->w'.cell? ⟨w.heap.size,0,Z⟩=V (U (V ⟨b,off,Z⟩) n cap)/\w'.cell? ⟨w.heap.size,1,Z⟩=V (U (V ⟨B,0,Z⟩) n n)/\w'.cell? ⟨w.heap.size,2,Z⟩=V (U eao en ecap)/\w'.cell? ⟨w.heap.size,3,Z⟩=V (.map (V M))/\w'.cell? ⟨w.heap.size+1,0,Z⟩=V (.int T k)/\w'.cell? ⟨B,P1,Z⟩=V (.int T E1)/\(Instr.lookup 222 (.map (V M)) (.int T k) ZX).run qA w'=.ok (.func (.func F) #[] #[]) w':=fun w' hw'=>
  ⟨(hw'.cell (p:=⟨w.heap.size,0,Z⟩) (by simp only;omega)).trans d0,(hw'.cell (p:=⟨w.heap.size,1,Z⟩) (by simp only;omega)).trans d1,(hw'.cell (p:=⟨w.heap.size,2,Z⟩) (by simp only;omega)).trans d2,(hw'.cell (p:=⟨w.heap.size,3,Z⟩) (by simp only;omega)).trans d3,(hw'.cell (p:=⟨w.heap.size+1,0,Z⟩) (by simp only;omega)).trans d4,(hw'.cell (p:=⟨B,P1,Z⟩) (by simp only;omega)).trans d5,hlook w' (ae hb2 hw')⟩
 have hra':∀w',O W2.heap.size W2 w'->I qA 118 #[workV b off n cap B eao en ecap M,.int T P1] w' (BQ (V x) w'):=fun w' hw'=>hra w' (ae hb2 hw');have hrb':∀w',O W2.heap.size W2 w'->I qA 118 #[workV b off n cap B eao en ecap M,.int T E1] w' (BQ Z w'):=fun w' hw'=>hrb w' (ae hb2 hw');have hB0:O W2.heap.size W2 W2:=qD _ _;have HB2:E (O w.heap.size w W2):=hb2;have hp0:place<n:=by omega
 have hi0:(0:Int)<=(P1:Int):=by omega
 have hi1:(P1:Int)<(n:Int):=by omega
 have hpp:(place:Int)+1=(P1:Int):=by omega
 have hwr:aY.wrap (P1:Int)=(P1:Int):=KM (by omega) (by omega);have hwr2:aY.wrap ((place:Int)+1)=(P1:Int):=by rw[hpp];exact hwr
 clear hW2 hb2 hra hrb hlook hP1 hp hsz d0 d1 d2 d3 d4 d5;go_enter eN,eX;go_wp2_with fail
 rw[<-HW2.out];clear c0 c1 cE;go_region_held2 (fun w'=>w'.cell? ⟨w.heap.size,0,Z⟩=V (U (V ⟨b,off,Z⟩) n cap)/\w'.cell? ⟨w.heap.size,1,Z⟩=V (U (V ⟨B,0,Z⟩) n n)/\w'.cell? ⟨w.heap.size,2,Z⟩=V (U eao en ecap)/\w'.cell? ⟨w.heap.size,3,Z⟩=V (.map (V M))/\w'.cell? ⟨w.heap.size+1,0,Z⟩=V (.int T k)/\w'.cell? ⟨B,P1,Z⟩=V (.int T E1)/\(Instr.lookup 222 (.map (V M)) (.int T k) ZX).run qA w'=.ok (.func (.func F) #[] #[]) w')
  (exact hS _ (by first|exact hB0|exact hB0.drew|exact hB0.drew.trans hb1|exact(hB0.drew.trans hb1).trans (hb3.mono (hB0.drew.trans hb1).size)))
  (first|(go_at_call_of 118 E1;refine Calls.pan y (hrb' _ (hB0.drew.trans hb1)) (fun w3 hb3=>⟨rfl,HB2.out.trans (((hB0.drew.trans hb1).trans (hb3.mono (hB0.drew.trans hb1).size)).mono HB2.out.size),rfl⟩) (fun w3 hb3 hF=>?_))|(go_at_call 118;refine(hra' _ hB0.drew).mono ?_;rintro e w1 ⟨hb1,rfl⟩)|(refine(hpair _).mono ?_;rintro e w4 ⟨rfl,rfl⟩))
 all_goals exact hF.out.elim
theorem Ox(b off n cap B:Nat)(eao:Option Addr)(en ecap M vars:Nat)(t:Tm)(env:List Int)(hn:n=t.size)(h60:n<=60)(hg:t.Good vars)(hty:t.typed=true)(hev:EnvOk env)(hen:env.length=vars)(hen2:en=vars)(d:Nat) :
  ∀(place:Nat) (w:J),place<n->(t.sub place).size<=d->WorkAt w b off B eao M t env->
  I qA 118 #[workV b off n cap B eao en ecap M,.int T place] w (BQ ((t.sub place).eval env) w):=by
 induction d with
 |zero=>intro place w _ hd;have:=(t.sub place).size_pos;omega
 |succ d ih=>
  intro place w hp hd hW;have hpt:place<t.size:=by omega
  obtain⟨s,hs⟩:∃s,s=t.sub place:=⟨_,rfl⟩;have hsg:s.Good vars:=by rw[hs];exact hg.sub _
  have hst:s.typed=true:=by
   rw[hs];refine(typed_iff _).2 fun q hq=>?_;rw[<-t.sub_sub place q hpt hq];exact(typed_iff _).1 hty _ (by have:=t.sub_fits hpt;omega)
  obtain⟨c0,c1⟩:=hW.ops place (by rw[ops_length];exact hpt);rw[op_at t hpt,<-hs]at c0 c1;simp only at c0 c1;have HKI:∀i,i<s.kids.length->place+s.koff i<n/\t.sub (place+s.koff i)=s.kids.getD i s/\An (t.ops.map aW) (place+s.koff i)=place+s.koff (i+1):=fun i hi=>by
   subst hs;obtain⟨h1,h2,h3,_⟩:=kid_in hg.wf hpt hi;exact⟨by omega,h2,h3⟩
  rw[<-hs]at hd⊢;cases s with
  |leaf k v=>
   rcases hsg with⟨rfl,h1,h2⟩|⟨rfl,h1,h2⟩|⟨hk,rfl⟩
   .exact O3 b off n cap B eao en ecap M place v w hW.ob hp c0 c1
   .obtain ⟨j,rfl⟩:=Int.eq_ofNat_of_zero_le h1;obtain⟨eb,eoff,rfl,e2,e3⟩:=hW.env j (by omega);exact O4 b off n cap B eb eoff en ecap M place j _ w hW.ob hp (by omega) c0 c1 e2 e3
   .have he:(Tm.leaf k 0).eval env=V (if k=11 then 1 else 0):=by
     simp only[Tm.eval];rw[ak (by omega),ak (by omega)]
    rw[he];exact O1 b off n cap B eao en ecap M place k hk w hW.ob hp c0 c1
  |un k v a=>
   obtain⟨rfl,rfl,ha⟩:=hsg;obtain⟨p1,p2,_⟩:=HKI 0 (by simp[kids]);rw[koff_zero]at p1 p2;have hsz:a.size<=d:=by simp only[Tm.size]at hd;omega
   have hta:a.typed=true:=by simp only[Tm.typed,qK]at hst;exact hst.2
   have hrec:∀w',O w.heap.size w w'->I qA 118 #[workV b off n cap B eao en ecap M,.int T ((place:Int)+1)] w' (BQ (a.eval env) w'):=fun w' hw'=>by
    have h:=ih (place+1) w' p1 (by rw[p2];exact hsz) (hW.later hw');rw[p2]at h;exact h
   have h:=O2 b off n cap B eao en ecap M place (a.eval env) w hW.ob hp h60 c0 c1 (fun x hx=>(eval_le hev hen ha hta x hx).1) hrec;have he:(Tm.un 10 0 a).eval env=(a.eval env).map (1 - ·):=by
    simp only[Tm.eval];cases a.eval env<;>rfl
   rw[he];exact h
  |bi k v a b'=>
   obtain⟨h3,h9,rfl,ha,hb⟩:=hsg;obtain⟨p1,p2,p3⟩:=HKI 0 (by simp[kids]);obtain⟨q1,q2,_⟩:=HKI 1 (by simp[kids]);rw[koff_zero]at p1 p2 p3;rw[Nat.zero_add]at p3;have hsa:a.size<=d:=by simp only[Tm.size]at hd;omega
   have hsb:b'.size<=d:=by simp only[Tm.size]at hd;omega
   simp only[Tm.typed,qK,beq_iff_eq]at hst;obtain⟨⟨ka,hta⟩,kb,htb⟩:=hst;have hra:∀w',O w.heap.size w w'->I qA 118 #[workV b off n cap B eao en ecap M,.int T (place+1:Nat)] w' (BQ (a.eval env) w'):=fun w' hw'=>by
    have h:=ih (place+1) w' p1 (by rw[p2];exact hsa) (hW.later hw');rw[p2]at h;exact h
   have hrb:∀w',O w.heap.size w w'->I qA 118 #[workV b off n cap B eao en ecap M,.int T (place+(Tm.bi k 0 a b').koff 1:Nat)] w' (BQ (b'.eval env) w'):=fun w' hw'=>by
    have h:=ih (place+(Tm.bi k 0 a b').koff 1) w' q1 (by rw[q2];exact hsb) (hW.later hw');rw[q2]at h;exact h
   have cE:=hW.ends.cell (i:=place+1) (by omega);rw[p3]at cE;have hlook:=fun w' (hw':O w.heap.size w w')=>(hW.pairs.later hw').look h3 h9;have hent:=Ts k h3 h9;have hae:=eval_le hev hen ha hta;have hbe:=eval_le hev hen hb htb;simp only[Tm.eval];cases hx:a.eval env with
   |none=>
    rw[hx]at hra;exact Oz b off n cap B eao en ecap M place _ (Dp k) k 0 0 (bin k 0 0) w hW.ob hW.ends.lt (by omega) (place+1) rfl h60 h3 h9 c0 c1 cE hlook hent (fun w'=>Je k 0 0 w' h3 h9 (by omega) (by omega) (fun _=>⟨.inl rfl,.inl rfl⟩)) hra
     (fun h=>h.out.elim)
   |some x=>
    rw[hx]at hra;have hxl:=hae x hx;cases hy:b'.eval env with
    |none=>
     rw[hy]at hrb;exact O0 b off n cap B eao en ecap M place _ (Dp k) k x 0 (bin k x 0) w hW.ob hW.ends.lt (by omega) (place+1) rfl h60 h3 h9 c0 c1 cE hlook hent (fun w'=>Je k x 0 w' h3 h9 hxl.1 (by omega) (fun h8=>⟨hxl.2 (by rw[ka];simp[tkT];omega),.inl rfl⟩)) hra hrb
    |some y=>
     rw[hy]at hrb;have hyl:=hbe y hy;exact Oy b off n cap B eao en ecap M place _ (Dp k) k x y (bin k x y) w hW.ob hW.ends.lt (by omega) (place+1) rfl h60 h3 h9 c0 c1 cE hlook hent (fun w'=>Je k x y w' h3 h9 hxl.1 hyl.1 (fun h8=>⟨hxl.2 (by rw[ka];simp[tkT];omega),hyl.2 (by rw[kb];simp[tkT];omega)⟩)) hra hrb
