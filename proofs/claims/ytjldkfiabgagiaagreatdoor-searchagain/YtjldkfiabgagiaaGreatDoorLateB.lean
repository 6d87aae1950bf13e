/- Joined texts. -/
import Derived.Test.YtjldkfiabgagiaaGreatDoorLateA
import Derived.Maps.Own
import Derived.Deep.RegionHeld2
import Derived.Shelf.Slices.Clone
import Derived.Laws.OwnMore
namespace Go.Proofs.YtjldkfiabgagiaaGreatDoor
open _root_.Array renaming getElem?_eq_some_iff→qG
open Go.RowKit.Below renaming refl→qD
open _root_.Bool renaming and_eq_true→qK
open _root_.Int renaming pow_pos→jY,pow_succ→kT
open _root_.List renaming any_eq_false→xM,append_assoc→q7,getD_eq_getElem?_getD→qC,length_map→qL,length_range→q8
open _root_.Nat renaming le_refl→qB,le_succ→vC,le_trans→qI,lt_of_lt_of_le→qE,lt_succ_self→qY,zero_add→qU,zero_le→qJ
open Go.Proofs.Tryz renaming prog→qA
open Go.ChangeShapes Go.WideShapes Go.ChangeAt Go.RowKit Go.Deep Go.Shelf
open Terms
set_option maxHeartbeats 6400000
set_option maxRecDepth 20000
attribute [local go_sem] Oper.semAt_some
def NT(p3 p4 p8 p11 p12 r0 r1 r2 r5 r6 r7 r9 r10 r13 r14 r15 r16 r17 r18 r19 r20 r21 r22 r23 r24 r25 r26 r27 r28 r29 r30 r31 r32 r33 r34 r35 r36 r37 r38 r39 r40 r41 r42 r43 r44 r45 r46 r47 r48 r49 r50 r51 r52 r53 r54 r55 r56 r57 r58 r59 r60 r61 r62 r63 r64 r65 r66 r67 r68 r69 r70:Value):Act:={ tmps:=#[r0,r1,r2,p3,p4,r5,r6,r7,p8,r9,r10,p11,p12,r13,r14,r15,r16,r17,r18,r19,r20,r21,r22,r23,r24,r25,r26,r27,r28,r29,r30,r31,r32,r33,r34,r35,r36,r37,r38,r39,r40,r41,r42,r43,r44,r45,r46,r47,r48,r49,r50,r51,r52,r53,r54,r55,r56,r57,r58,r59,r60,r61,r62,r63,r64,r65,r66,r67,r68,r69,r70],defers:=[]}
def N1(w:World)(s:Nat)(o:Int×Int)(p:Nat)(a':Act)(W:World):Prop:=∃Bx,s<=Bx/\W.cell? ⟨Bx,0,none⟩=some (.int .i64 o.1)/\W.cell? ⟨Bx,1,none⟩=some (.int .i64 o.2)/\∃r0 r1 r2 r5 r6 r7 r9 r10 r13 r14 r15 r16 r17 r18 r19 r20 r21 r22 r23 r24 r25 r26 r27 r28 r29 r30 r31 r32 r33 r34 r35 r36 r37 r38 r39 r40 r41 r42 r43 r44 r45 r46 r47 r48 r49 r50 r51 r52 r53 r54 r55 r56 r57 r58 r59 r60 r61 r62 r63 r64 r65 r66 r67 r68 r69 r70:Value,a'=NT (.pointer (some ⟨w.heap.size,0,none⟩)) (.pointer (some ⟨w.heap.size+1,0,none⟩)) (.pointer (some ⟨w.heap.size+1+1+1,0,none⟩)) (.int .i64 (p:Int)) (.pointer (some ⟨Bx,0,none⟩)) r0 r1 r2 r5 r6 r7 r9 r10 r13 r14 r15 r16 r17 r18 r19 r20 r21 r22 r23 r24 r25 r26 r27 r28 r29 r30 r31 r32 r33 r34 r35 r36 r37 r38 r39 r40 r41 r42 r43 r44 r45 r46 r47 r48 r49 r50 r51 r52 r53 r54 r55 r56 r57 r58 r59 r60 r61 r62 r63 r64 r65 r66 r67 r68 r69 r70
theorem RC{B:Nat}{W W':World}(h:Below W.heap.size W W'):KeepsFrom B W W':=⟨h.size,fun k _ _ hk _=>(h.block k (qG.1 hk).1).trans hk⟩
set_option maxRecDepth 100000 in
theorem Vd(b off cap n B:Nat)(aao:Option Addr)(an ac:Nat)(lo:Option Addr)(ln lc:Nat)(l:List (Int×Int))(letter:List Bool)(claim:Int)(w:World)(h0n:0<n)(h60:n<=60)(hn:n=l.length)(hz:AR (l.map Prod.fst)=0)(hops:BO w b off l)(hbl:b<w.heap.size)
  (hrow:w.rowIs B 3 n (fun q=>.int .i64 (Al (l.map Prod.fst) q))) (han:an=(AA l).length) (hav:IntsV w (.slice aao an ac) (AA l)) (h6:an<=6) (hln:ln=letter.length) (hL:BoolsV w (.slice lo ln lc) letter) (hlf:CC ln l=0) (h0:0<=claim) (h1:claim<2^an) :
  Calls qA 51 #[.agg #[.slice (some ⟨b,off,none⟩) n cap,.slice (some ⟨B,0,none⟩) n n,.slice aao an ac],.slice lo ln lc,.int .i64 claim] w fun e w'=>∃bH,e=.returned (.tuple #[.slice (some ⟨bH,0,none⟩) n n,.int .i64 0])/\Below w.heap.size w w'/\Hid (w'.rowIs bH 4 n (fun j=>.bool (tru l letter claim j)))/\w.heap.size<=bH:=by
 refine(callsIn_wide (n:=8)).1 ?_;refine callsIn_of_wp_marks Tryz.func51 rfl trivial ?_ rfl;simp only[Tryz.ntmps51,List.size_toArray,List.length_cons,List.length_nil,Nat.reduceAdd,Nat.reduceSub,Array.replicate_succ,Array.replicate_zero,List.push_toArray,List.append_toArray,List.nil_append,List.cons_append];have hmk:=run_make_row' (P:=qA) 102 4 (.bool false) 1 Tryz.underlying102 Gi rfl .i64 .i64 n (by omega) (by omega);have HO:Hid (BO w b off l):=hops;have HN:Hid (n=l.length):=hn;have HR:Hid (w.rowIs B 3 n (fun q=>.int .i64 (Al (l.map Prod.fst) q))):=hrow;have HAN:Hid (an=(AA l).length):=han;have HAV:Hid (IntsV w (.slice aao an ac) (AA l)):=hav;have HLN:Hid (ln=letter.length):=hln;have HL:Hid (BoolsV w (.slice lo ln lc) letter):=hL;have HLF:Hid (CC ln l=0):=hlf;have HZ:Hid (AR (l.map Prod.fst)=0):=hz;clear hops hn hrow han hav hln hL hlf hz;have hcase:an=0\/an=1\/an=2\/an=3\/an=4\/an=5\/an=6:=by omega
 have hsh:(2:Int)^an<=64:=by rcases hcase with rfl|rfl|rfl|rfl|rfl|rfl|rfl<;>decide
 clear hcase;gi_wp2
 have HS0:Hid (TrSt w (.slice (some ⟨b,off,none⟩) n cap) (.slice (some ⟨B,0,none⟩) n n) (.slice aao an ac) (.slice lo ln lc) n (Bb l claim 0) 0 ((((w.alloc (.cells #[.slice (some ⟨b,off,none⟩) n cap,.slice (some ⟨B,0,none⟩) n n,.slice aao an ac] 123)).alloc (.cells #[.slice lo ln lc] 102)).alloc (.cells (madeCells #[.bool false] n) 4)).alloc (.cells #[.slice (some ⟨w.heap.size+1+1,0,none⟩) n n] 102))):=by
  have r:=World.rowIs_made ((w.alloc (.cells #[.slice (some ⟨b,off,none⟩) n cap,.slice (some ⟨B,0,none⟩) n n,.slice aao an ac] 123)).alloc (.cells #[.slice lo ln lc] 102)) (.bool false) n 4;simp only[World.size_alloc]at r;have hB3:∀o1 o2 o3 o4,Below (w.heap.size+1) (w.alloc o1) ((((w.alloc o1).alloc o2).alloc o3).alloc o4):=fun o1 o2 o3 o4=>(((qD _ _).alloc (by simp) o2).alloc (by simp) o3).alloc (by simp) o4;exact⟨(Bq.new w _ _ _ _).below (hB3 _ _ _ _) (qY _),by simp[go_sem],by simp[go_sem],(r.of_block (Below.heap_alloc _ _ _ r.lt)).congr (fun j _=>by simp[Bb]),((((qD _ _).alloc (qB _) _).alloc (by simp) _).alloc (by simp;omega) _).alloc (by simp;omega) _,qJ _⟩
 gi_loopw [32] (fun i wr=>∃k:Nat,k<=an/\i=.int .i64 k/\Hid (TrSt w (.slice (some ⟨b,off,none⟩) n cap) (.slice (some ⟨B,0,none⟩) n n) (.slice aao an ac) (.slice lo ln lc) n (Bb l claim k) 0 wr)) (fun i _=>an-(intOf i).toNat)
 case atStart=>
  exact⟨0,qJ _,rfl,HS0.out⟩
 case round=>
  obtain⟨k,hk,rfl,HSt⟩:=hrel;have hst:=HSt.out;by_cases hlt:k<an
  .obtain ⟨p,hp,hpn,hlk,hpi⟩:=GD l l.length k (by have:=HAN.out;unfold AA at this;omega);obtain⟨ao',cap',hsl,hai⟩:=HAV.out;injection hsl with e1 e2 e3;subst e1;obtain⟨ab,aoff,rfl,habl,haat⟩:=hai (by intro h;have:=HAN.out;rw[h]at this;simp at this;omega);have hca:=(hst.below.cell (p:=⟨ab,aoff+k,none⟩) habl).trans (haat k (by rw[<-HAN.out];exact hlt));have hca':wr.cell? ⟨ab,aoff+k,none⟩=some (.int .i64 (p:Int)):=by rw[hca];exact congrArg (fun z=>some (Value.int .i64 z)) hp
   have hch:=hst.holds;have hf:=hst.row.frozen p;have hpn':p<n:=by rw[HN.out];exact hpn
   have hcp:=hst.row.cell hpn';obtain⟨t0,t1,t2,_⟩:=hst.three;have HP:Hid (Af (l.getD p (0,0)).1=true/\(AN l p).length=k):=⟨hlk,hpi⟩;clear hp hpn hlk hpi hai haat hca e2 e3;have hmx:qA.follows .mixedOrders=true:=by kernel_rfl
   gi_wp2
   gi_region_o
   all_goals gi_wp2
   refine⟨⟨k+1,hlt,by first|rfl|simp,?_⟩,by simp[intOf];omega⟩;rw[Og h0 (by omega)];exact((hst.put p (EM claim k)).congr (fun j _=>Q0 HP.out.1 HP.out.2 j)).drew
  .obtain rfl:k=an:=by omega
   have HAL:Hid (k=(AA l).length):=HAN.out;obtain⟨t0,t1,t2,_⟩:=hst.three;generalize wr=W1 at *;clear hmk HS0 hlt hk HAV
   gi_wp2_with (refine⟨trivial,?_⟩;gi_at_call 70;refine(OZ Fence.wide _ trivial rfl _ _ _ _).mono ?_;rintro e w' ⟨rfl,rfl⟩)
   have hs3:w.heap.size+4<=W1.heap.size:=by have:=World.block_lt_of_cell? W1 ⟨w.heap.size+1+1+1,0,none⟩ hst.holds;simp at this;omega
   refine wpIn_rangeFunc_ownH rfl (by decide) (gf:=100) (lb:=#[.pointer (some ⟨W1.heap.size,0,none⟩)]) rfl trivial (enters_of Tryz.func100 (by kernel_rfl) rfl)
    (Oa Fence.wide 7 trivial rfl (by decide) W1.heap.size w.heap.size b off n cap l h0n h60 HN.out hbl _ (by simp) (by simp;omega) (by simp[go_sem]) (HO.out.below (hst.below.alloc hst.below.size _) hbl)) OX (OW (by simp;omega) (by simp)) (qD _ _) (fun _=>rfl)
    (fun pre W=>TrSt w (.slice (some ⟨b,off,none⟩) n cap) (.slice (some ⟨B,0,none⟩) n n) (.slice aao k ac) (.slice lo ln lc) n (CA l letter (Bb l claim k) pre) (W1.heap.size+1) W)
    (fun _ _ _=>False)
    (fun s A Bw row hs hg hr=>hs.later (B:=W1.heap.size+1) ((qD _ _).grown hg hs.size (fun z e=>by have:=(hr z e).1;simp at this;omega)) (by omega))
    (fun _ _ _ _ _ hs _ _=>hs)
    ?h0 (fun x=>N1 w (W1.heap.size+1) (l.getD x.1 (0,0)) x.1) (fun x a' _ X Y row hs hg hr=>by obtain⟨Bx,h1,h2,h3,h4⟩:=hs;exact⟨Bx,h1,cell_kept h2 hg (fun r e=>(hr r e).2),cell_kept h3 hg (fun r e=>(hr r e).2),h4⟩)
    ?assign ?body ?done ?stop
   case h0=>
    have t:=hst.later ((qD W1.heap.size W1).alloc (qB _) (.cells #[.slice (some ⟨b,off,none⟩) n cap] 33)) (by omega);exact⟨t.three,t.letter,t.holds,t.row,t.below,by simp⟩
   case assign=>
    rintro L pre x W K hi hK;have hsz:=hi.size;unfold GF;gi_wp2
    refine hK _ _ ?ka ?kb ?kc ?kd;case ka=>exact(KeepsOthers.alloc _ _).from _
    case kb=>exact⟨(qD _ W).alloc hi.below.size _,Below.heap_alloc _ _ _ (by omega)⟩
    case kc=>exact hi.later ((qD W.heap.size W).alloc (qB _) _) (by omega)
    case kd=>exact⟨W.heap.size,by omega,by simp[go_sem],by simp[go_sem],_,_,_,_,_,_,_,_,_,_,_,_,_,_,_,_,_,_,_,_,_,_,_,_,_,_,_,_,_,_,_,_,_,_,_,_,_,_,_,_,_,_,_,_,_,_,_,_,_,_,_,_,_,_,_,_,_,_,_,_,_,_,_,_,_,_,rfl⟩
   case body=>
    rintro L pre x a' W hl ⟨r,hr⟩ hi ⟨Bx,hBx,cx0,cx1,r0,r1,r2,r5,r6,r7,r9,r10,r13,r14,r15,r16,r17,r18,r19,r20,r21,r22,r23,r24,r25,r26,r27,r28,r29,r30,r31,r32,r33,r34,r35,r36,r37,r38,r39,r40,r41,r42,r43,r44,r45,r46,r47,r48,r49,r50,r51,r52,r53,r54,r55,r56,r57,r58,r59,r60,r61,r62,r63,r64,r65,r66,r67,r68,r69,r70,rfl⟩ hlen;have hsz:=hi.size;have hfa:=Rb HLF.out x.1 (by rw[<-HN.out];exact x.2);obtain⟨hp1,hp2⟩:=G1 HZ.out (p:=x.1) (by rw[<-HN.out];exact x.2);have HSt:Hid (TrSt w (.slice (some ⟨b,off,none⟩) n cap) (.slice (some ⟨B,0,none⟩) n n) (.slice aao k ac) (.slice lo ln lc) n (CA l letter (Bb l claim k) pre) (W1.heap.size+1) W):=hi;have HNx:=K0 l letter (Bb l claim k) pre x;unfold Hh at HNx;have HNx':Hid (CA l letter (Bb l claim k) (pre++[x])=if Af (l.getD x.1 (0,0)).1=true then CA l letter (Bb l claim k) pre else fun j=>if j=x.1 then mkB (l.getD x.1 (0,0)) letter (CA l letter (Bb l claim k) pre (x.1+1)) (CA l letter (Bb l claim k) pre (sec l x.1))else CA l letter (Bb l claim k) pre j):=HNx;clear HNx;obtain⟨nx,hnx⟩:∃nx,CA l letter (Bb l claim k) (pre++[x])=nx:=⟨_,rfl⟩;have HNX:Hid (CA l letter (Bb l claim k) (pre++[x])=nx):=hnx;rw[hnx]at HNx';clear hnx;generalize CA l letter (Bb l claim k) pre=h at *;obtain⟨p,hpn⟩:=x;simp only at cx0 cx1 hfa hp1 hp2 HNx'
    generalize l.getD p (0,0)=xy at *;obtain⟨kx,vx⟩:=xy;simp only at cx0 cx1 hfa hp1 hp2 HNx'
    have hlk:=fun w=>Lg kx w;have hBxl:Bx<W.heap.size:=World.block_lt_of_cell? W ⟨Bx,0,none⟩ cx0;have hmx:qA.follows .mixedOrders=true:=by kernel_rfl
    unfold NT;cases hb:Af kx with
    |true=>
     have HE:Hid (nx=h):=by show _=_;rw[HNx'.out,if_pos hb]
     rw[hb]at hlk;clear hb HNx' hp1 hp2 hfa;gi_wp2_with (refine⟨trivial,?_⟩;gi_at_call 64;refine(CallsIn.inRound L (callsIn_wide.2 (hlk _))).mono ?_;rintro e w2 ⟨rfl,rfl⟩)
     refine⟨KeepsFrom.refl _ _,⟨qD _ _,rfl⟩,?_⟩;show TrSt w _ _ _ _ n (CA l letter (Bb l claim k) (pre++[⟨p,hpn⟩])) _ _;rw[HNX.out,HE.out];exact HSt.out
    |false=>
     have HE:Hid (nx=fun j=>if j=p then mkB (kx,vx) letter (h (p+1)) (h (sec l p))else h j):=by show _=_;rw[HNx'.out,if_neg (by rw[hb];decide)]
     rw[hb]at hlk;have hop:Az (ln:Int) (kx,vx)=0:=hfa;have hk8:8<=kx:=by
      simp only[Az]at hop;split at hop
      .omega
      .omega
     have h13:kx=13->0<=vx/\vx<letter.length:=fun e=>by
      simp only[Az]at hop;rw[if_neg (by omega),if_pos e]at hop;split at hop
      .omega
      .have:=HLN.out;omega
     have hpr:kx=10\/kx=8\/kx=9->p+1<n:=fun e=>by rw[HN.out];exact hp1 (by rcases e with rfl|rfl|rfl<;>decide)
     have hps:kx=8\/kx=9->sec l p<n:=fun e=>by rw[HN.out];exact(hp2 (by rcases e with rfl|rfl<;>decide)).2
     have hBl:B<w.heap.size:=HR.out.lt;have hpa:=G2 b off cap n B (w.heap.size+1+1) p _ h l aao k ac rfl W (fun j hj=>hi.row.cell hj) hi.row.lt (fun j hj=>(hi.below.cell (p:=⟨B,j,none⟩) hBl).trans (HR.out.cell hj)) (qE hBl hi.below.size);obtain⟨t0,t1,t2,_⟩:=hi.three;have hch:=hi.holds;have hcl:=hi.letter;have HMk:Hid (∀w2,Below W.heap.size W w2->PartsAt w2 (W.heap.size+1+1) W.heap.size (W.heap.size+1) (w.heap.size+1+1) n B p h l->Calls qA 72 #[.agg #[.int .i64 kx,.int .i64 vx],.slice lo ln lc,.func (.func 101) #[] #[.pointer (some ⟨W.heap.size+1+1,0,none⟩),.pointer (some ⟨W.heap.size+1,0,none⟩)],.func (.func 102) #[] #[.pointer (some ⟨W.heap.size+1+1,0,none⟩),.pointer (some ⟨W.heap.size,0,none⟩),.pointer (some ⟨W.heap.size+1,0,none⟩)]] w2.drew fun e w'=>
       e=.returned (.bool (mkB (kx,vx) letter (h (p+1)) (h (sec l p))))/\Below W.heap.size W w'/\w'.cell? ⟨w.heap.size+1+1+1,0,none⟩=some (.slice (some ⟨w.heap.size+1+1,0,none⟩) n n)/\w'.cell? ⟨w.heap.size+1+1,p,none⟩=some (.bool (h p))/\w'.frozen? ⟨w.heap.size+1+1,p,none⟩=false):=fun w2 hb2 hP=>by
      have hlt:W.heap.size+1+1<w2.heap.size:=World.block_lt_of_cell? w2 ⟨W.heap.size+1+1,0,none⟩ hP.holds;have hbd:Below W.heap.size W w2.drew:=hb2.drew;have hPd:PartsAt w2.drew (W.heap.size+1+1) W.heap.size (W.heap.size+1) (w.heap.size+1+1) n B p h l:=⟨hP.holds,hP.row,hP.ends,hP.erow,hP.place⟩;have hLd:BoolsV w2.drew (.slice lo letter.length lc) letter:=by rw[<-HLN.out];exact(HL.out.below hi.below).below hbd
      have hsw:w2.drew.heap.size=w2.heap.size:=rfl;have hrl:=hi.row.lt;rw[HLN.out];refine(Rq kx vx lo lc _ _ _ _ n B p letter h l w2.drew h60 hLd hPd (by omega) (by omega) (by omega) (by omega) (by omega) h13 hpr hps).mono fun e w' ⟨he,hb⟩=>?_;have hbf:Below W.heap.size W w':=hbd.trans (hb.mono (by omega));exact⟨he,hbf,(hbf.cell (p:=⟨w.heap.size+1+1+1,0,none⟩) (World.block_lt_of_cell? W _ hch)).trans hch,(hbf.cell (p:=⟨w.heap.size+1+1,p,none⟩) hrl).trans (hi.row.cell hpn),(hbf.frozen (p:=⟨w.heap.size+1+1,p,none⟩) hrl).trans (hi.row.frozen p)⟩
     generalize mkB (kx,vx) letter (h (p+1)) (h (sec l p))=tv at HMk HE;have HC2:Hid (∀w2,Below W.heap.size W w2->w2.cell? ⟨w.heap.size+1+1+1,0,none⟩=some (.slice (some ⟨w.heap.size+1+1,0,none⟩) n n)/\w2.cell? ⟨w.heap.size+1,0,none⟩=some (.slice lo ln lc)/\w2.cell? ⟨Bx,0,none⟩=some (.int .i64 kx)/\w2.cell? ⟨Bx,1,none⟩=some (.int .i64 vx)):=fun w2 hb=>⟨(hb.cell (p:=⟨w.heap.size+1+1+1,0,none⟩) (World.block_lt_of_cell? W _ hch)).trans hch,(hb.cell (p:=⟨w.heap.size+1,0,none⟩) (World.block_lt_of_cell? W _ hcl)).trans hcl,(hb.cell (p:=⟨Bx,0,none⟩) hBxl).trans cx0,(hb.cell (p:=⟨Bx,1,none⟩) hBxl).trans cx1⟩;clear hb HNx' hp1 hp2 hfa hop h13 hpr hps hi;gi_wp2_with (first|(refine⟨trivial,?_⟩;gi_at_call 64;refine(CallsIn.inRound L (callsIn_wide.2 (hlk _))).mono ?_;rintro e wz ⟨rfl,hwz⟩;obtain rfl:=hwz.symm)|(refine⟨trivial,?_⟩;gi_at_call 71;refine(CallsIn.inRound L (callsIn_wide.2 hpa)).mono ?_;rintro e w2 ⟨rfl,hb2,HP2⟩;obtain⟨d0,d1,d2,d3⟩:=HC2.out w2 hb2;have hma:=HMk.out w2 hb2 HP2.out))
     refine T0 (fun w'=>w'.cell? ⟨w.heap.size+1+1+1,0,none⟩=some (.slice (some ⟨w.heap.size+1+1,0,none⟩) n n)/\w'.cell? ⟨w.heap.size+1,0,none⟩=some (.slice lo ln lc)/\w'.cell? ⟨Bx,0,none⟩=some (.int .i64 kx)/\w'.cell? ⟨Bx,1,none⟩=some (.int .i64 vx)) hmx ?nd ?nl ?_;case nd=>
      intro i o ho c;have hi:i<9:=(qG.1 ho).1;have hc:i=0\/i=1\/i=2\/i=3\/i=4\/i=5\/i=6\/i=7\/i=8:=by omega
      rcases hc with rfl|rfl|rfl|rfl|rfl|rfl|rfl|rfl|rfl<;>(obtain rfl:=Option.some.inj ho;exact fun h=>by cases h)
     case nl=>exact fun⟨_,_,h⟩=>h
     have hS2:w2.drew.cell? ⟨w.heap.size+1+1+1,0,none⟩=some (.slice (some ⟨w.heap.size+1+1,0,none⟩) n n)/\w2.drew.cell? ⟨w.heap.size+1,0,none⟩=some (.slice lo ln lc)/\w2.drew.cell? ⟨Bx,0,none⟩=some (.int .i64 kx)/\w2.drew.cell? ⟨Bx,1,none⟩=some (.int .i64 vx):=⟨d0,d1,d2,d3⟩;refine wpAnyH_take (i:=0) (v:=.slice (some ⟨w.heap.size+1+1,0,none⟩) n n) rfl (by kernel_rfl) (by kernel_rfl) (by kernel_rfl) (fun _ _ _ h=>h) (Or.inl ⟨by rfl,fun wq hSw=>by obtain⟨q0,q1,q2,q3⟩:=hSw;go_simp⟩) hS2 ?_;simp only[Act.put,List.setIfInBounds_toArray];refine wpAnyH_take (i:=1) (v:=.int .i64 (p:Int)) rfl (by kernel_rfl) (by kernel_rfl) (by kernel_rfl) (fun _ _ _ h=>h) (Or.inl ⟨by rfl,fun wq hSw=>by obtain⟨q0,q1,q2,q3⟩:=hSw;go_simp⟩) hS2 ?_;simp only[Act.put];refine wpAnyH_take (i:=2) (v:=.agg #[.int .i64 kx,.int .i64 vx]) rfl (by kernel_rfl) (by kernel_rfl) (by kernel_rfl) (fun _ _ _ h=>h) (Or.inl ⟨by rfl,fun wq hSw=>by obtain⟨q0,q1,q2,q3⟩:=hSw;go_simp⟩) hS2 ?_;simp only[Act.put];refine wpAnyH_take (i:=3) (v:=.slice lo ln lc) rfl (by kernel_rfl) (by kernel_rfl) (by kernel_rfl) (fun _ _ _ h=>h) (Or.inl ⟨by rfl,fun wq hSw=>by obtain⟨q0,q1,q2,q3⟩:=hSw;go_simp⟩) hS2 ?_;simp only[Act.put];refine wpAnyH_take (i:=4) (v:=.func (.func 101) #[] #[.pointer (some ⟨W.heap.size+1+1,0,none⟩),.pointer (some ⟨W.heap.size+1,0,none⟩)]) rfl (by kernel_rfl) (by kernel_rfl) (by kernel_rfl) (fun _ _ _ h=>h) (Or.inl ⟨by rfl,fun wq hSw=>by obtain⟨q0,q1,q2,q3⟩:=hSw;go_simp⟩) hS2 ?_;simp only[Act.put];refine wpAnyH_take (i:=5) (v:=.func (.func 102) #[] #[.pointer (some ⟨W.heap.size+1+1,0,none⟩),.pointer (some ⟨W.heap.size,0,none⟩),.pointer (some ⟨W.heap.size+1,0,none⟩)]) rfl (by kernel_rfl) (by kernel_rfl) (by kernel_rfl) (fun _ _ _ h=>h) (Or.inl ⟨by rfl,fun wq hSw=>by obtain⟨q0,q1,q2,q3⟩:=hSw;go_simp⟩) hS2 ?_;simp only[Act.put];refine wpAnyH_all (rs:=[6]) (by kernel_rfl) (by decide) ?_;intro i hi;obtain rfl:i=6:=by simpa using hi
     refine V4 rfl (by rfl) (by go_simp) hma ?_;rintro e w3 ⟨rfl,hb3,g0,g1,g2⟩;obtain⟨e0,e1,e2,e3⟩:=HC2.out w3 hb3;refine⟨_,rfl,⟨e0,e1,e2,e3⟩,?_⟩;simp only[Act.put];refine wpAnyH_take (i:=7) (v:=.pointer (some ⟨w.heap.size+1+1,p,none⟩)) rfl (by kernel_rfl) (by kernel_rfl) (by kernel_rfl) (fun _ _ _ h=>h) (Or.inl ⟨by rfl,fun wq _=>by go_simp⟩) ⟨e0,e1,e2,e3⟩ ?_;simp only[Act.put];refine wpAnyH_all (rs:=[8]) (by kernel_rfl) (by decide) ?_;intro i hi;obtain rfl:i=8:=by simpa using hi
     have hco:∀z q,z≠w.heap.size+1+1->(w3.setCell ⟨w.heap.size+1+1,p,none⟩ (.bool tv)).cell? ⟨z,q,none⟩=w3.cell? ⟨z,q,none⟩:=fun z q hz=>World.cell?_of_block (w:=w3) (Below.heap_setCell w3 _ _ z hz);refine V5 (w':=w3.setCell ⟨w.heap.size+1+1,p,none⟩ (.bool tv)) rfl (by rfl) (by go_simp) ⟨⟨(hco _ _ (by omega)).trans e0,(hco _ _ (by omega)).trans e1,(hco _ _ (by omega)).trans e2,(hco _ _ (by omega)).trans e3⟩,?_⟩;refine wpAnyH_done (by kernel_rfl) ?_ _;have hW4:w.heap.size+4<=W.heap.size:=by omega
     refine⟨(RC hb3).trans ((KeepsOthers.setCell _ _ _).from _),⟨(hb3.mono HSt.out.below.size).setCell (by simp;omega) _,(Below.heap_setCell w3 _ _ W1.heap.size (by simp;omega)).trans (hb3.block _ (by omega))⟩,?_⟩;show TrSt w _ _ _ _ n (CA l letter (Bb l claim k) (pre++[⟨p,hpn⟩])) _ _;rw[HNX.out,HE.out];exact(HSt.out.later hb3 hW4).put p tv
   case done=>
    rintro D xs W hD rfl hi hK;have hch:=hi.holds;have HT:Hid (TrSt w (.slice (some ⟨b,off,none⟩) n cap) (.slice (some ⟨B,0,none⟩) n n) (.slice aao k ac) (.slice lo ln lc) n (tru l letter claim) (W1.heap.size+1) W):=hi.congr (fun j hj=>by rw[HAL.out,QN HZ.out h0n HN.out n (qB _) j hj,if_pos (by omega)]);clear hi;gi_wp2
    refine⟨by simp,.inl ⟨_,_,rfl,run_takeDeferred hK,?_⟩⟩;have hb':Below (W1.heap.size+1) W (W.putObj D (.deferred none)):=belowK_b (w:=W1.alloc (.cells #[.slice (some ⟨b,off,none⟩) n cap] 33)) (by simp) W D _ _ hD hK rfl rfl;have t':=HT.out.later hb' (by omega);exact⟨_,results_tmp2 rfl _ _ _,_,rfl,t'.below,t'.row,by omega⟩
   case stop=>
    rintro D c pre W _ _ h _;exact h.elim
open Go.ChangeShapes Go.WideShapes Go.ChangeAt Go.RowKit Go.Deep
def BD(w:World)(v:Value)(B:Nat)(av:Value)(l:List (Int×Int)):Prop:=
 ∃b off cap,v=.slice (some ⟨b,off,none⟩) l.length cap/\b<w.heap.size/\BO w b off l/\w.rowIs B 3 l.length (fun q=>.int .i64 (Al (l.map Prod.fst) q))/\IntsV w av (AA l)
theorem BD.below{w w':World}{v:Value}{B:Nat}{av:Value}{l:List (Int×Int)}(h:BD w v B av l)(hb:Below w.heap.size w w'):BD w' v B av l:=by
 obtain⟨b,off,cap,h1,h2,h3,h4,h5⟩:=h;exact⟨b,off,cap,h1,qE h2 hb.size,h3.below hb h2,B3 h4 hb,h5.below hb⟩
def B6(l:List (Int×Int))(claim:Int):Prop:=claim<0\/2^(AA l).length<=claim
def H9(l:List (Int×Int))(letter:List Bool)(claim:Int)(w:World)(e:Ending)(w':World):Prop:=
 Below w.heap.size w w'/\(B6 l claim->e=.returned (.tuple #[.slice none 0 0,.int .i64 2]))/\(¬B6 l claim->∃bH,e=.returned (.tuple #[.slice (some ⟨bH,0,none⟩) l.length l.length,.int .i64 0])/\w'.rowIs bH 4 l.length (fun j=>.bool (tru l letter claim j)))
theorem Gq(v:Value)(B:Nat)(av lv:Value)(l:List (Int×Int))(letter:List Bool)(claim:Int)(w:World)(hc:Ab letter.length l=0)(hV:BD w v B av l)(hL:BoolsV w lv letter) :
  Calls qA 51 #[.agg #[v,.slice (some ⟨B,0,none⟩) l.length l.length,av],lv,.int .i64 claim] w (H9 l letter claim w):=by
 obtain⟨hp0,hp6,hz,hlf,h6⟩:=CB hc;obtain⟨hne,h60⟩:=Dq hz;rw[qL]at h60;obtain⟨b,off,cap,rfl,hbl,hat,hrow,hav⟩:=hV;obtain⟨aao,ac,rfl,ha⟩:=id hav;obtain⟨lo,lc,rfl,hl⟩:=id hL;by_cases hcl:B6 l claim
 .exact (Ve _ _ _ _ aao _ ac claim lo _ lc (some ⟨b,off,none⟩) (some ⟨B,0,none⟩) l.length cap l.length l.length rfl rfl rfl rfl h6 w hcl).mono fun e w' ⟨h1,h2⟩=>⟨h2,fun _=>h1,fun h=>absurd hcl h⟩
 .have h0n:0<l.length:=by
   cases l with
   |nil=>exact absurd rfl hne
   |cons _ _=>simp
  refine(Vd b off cap l.length B aao _ ac lo _ lc l letter claim w h0n h60 rfl hz hat hbl hrow rfl hav h6 rfl hL hlf (by unfold B6 at hcl;omega) (by unfold B6 at hcl;omega)).mono fun e w' ⟨bH,h1,h2,h3,_⟩=>⟨h2,fun h=>absurd h hcl,fun _=>⟨bH,h1,h3.out⟩⟩
noncomputable def BF(l:List (Int×Int))(letter:List Bool)(claim:Int):Int:=by classical exact if Ab letter.length l=0 then(if B6 l claim then 2 else 0)else Ab letter.length l
noncomputable def DH(l:List (Int×Int))(letter:List Bool)(claim:Int):List Bool:=if BF l letter claim=0 then(List.range l.length).map (tru l letter claim)else []
theorem Hk{l:List (Int×Int)}{letter:List Bool}{claim:Int}(h:Ab letter.length l≠0):BF l letter claim=Ab letter.length l:=by unfold BF;rw[if_neg h]
theorem Fz{l:List (Int×Int)}{letter:List Bool}{claim:Int}(h:Ab letter.length l=0)(h2:B6 l claim):BF l letter claim=2:=by unfold BF;rw[if_pos h,if_pos h2]
theorem EA{l:List (Int×Int)}{letter:List Bool}{claim:Int}(h:Ab letter.length l=0)(h2:¬B6 l claim):BF l letter claim=0:=by unfold BF;rw[if_pos h,if_neg h2]
theorem Ol{w:World}{bH:Nat}{l:List (Int×Int)}{letter:List Bool}{claim:Int}(h:w.rowIs bH 4 l.length (fun j=>.bool (tru l letter claim j))):BoolsV w (.slice (some ⟨bH,0,none⟩) l.length l.length) ((List.range l.length).map (tru l letter claim)):=by
 have h2:=IL (w:=w) (B:=bH) (l:=(List.range l.length).map (tru l letter claim)) (by
  rw[qL,q8];exact h.congr fun j hj=>by simp[qC,hj])
 rwa[qL,q8]at h2
theorem Iv(v:Value)(l:List (Int×Int))(props:Int)(w:World)(hB:0<w.heap.size)(hT:AH w)(hV:OpsV w v l) :
  Calls qA 45 #[v,.int .i64 props] w fun e w'=>Below w.heap.size w w'/\(Ab props l≠0->e=.returned (.tuple #[.agg #[.slice none 0 0,.slice none 0 0,.slice none 0 0],.int .i64 (Ab props l)]))/\(Ab props l=0->∃B aao ac,e=.returned (.tuple #[.agg #[v,.slice (some ⟨B,0,none⟩) l.length l.length,.slice aao (AA l).length ac],.int .i64 0])/\Hid (BD w' v B (.slice aao (AA l).length ac) l)):=by
 refine(Iw v l props w hB hT hV).mono fun e w' ⟨h1,h2,h3⟩=>⟨h1,h2,fun hz=>?_⟩;obtain⟨B,av,_,he,hrow,ho⟩:=h3 hz;obtain⟨aao,ac,rfl⟩:=A2 ho;obtain⟨_,_,hze,_,_⟩:=CB hz;obtain⟨hne,_⟩:=Dq hze;obtain⟨b,off,hat⟩:∃b off,(∃cap,v=.slice (some ⟨b,off,none⟩) l.length cap)/\b<w'.heap.size/\BO w' b off l:=by
  obtain⟨ao,cap,rfl,_,h⟩:=hV.below h1;obtain⟨b,off,rfl,hlt,hat⟩:=h (by rintro rfl;exact hne rfl);exact⟨b,off,⟨cap,rfl⟩,hlt,hat⟩
 obtain⟨⟨cap,hv⟩,hlt,hat⟩:=hat;exact⟨B,aao,ac,he,b,off,cap,hv,hlt,hat,hrow,Dw ho⟩
theorem Lh (v lv:Value) (l:List (Int × Int)) (letter:List Bool) (claim:Int) (w:World) (hB:0 < w.heap.size) (hT:AH w) (hV:OpsV w v l) (hL:BoolsV w lv letter) :
    Calls qA 32 #[v,lv,.int .i64 claim] w fun e w'=>∃v',e=.returned (.tuple #[v',.int .i64 (BF l letter claim)])/\Below w.heap.size w w'/\BoolsV w' v' (DH l letter claim):=by
  have hrd:=Iv v l letter.length w hB hT hV;obtain⟨lo,lc,rfl,hl⟩:=id hL;obtain⟨oo,oc,rfl,_⟩:=id hV;by_cases hc:Ab letter.length l=0
  . have HM:Hid (∀w1 B aao ac,Below w.heap.size w w1->BD w1 (.slice oo l.length oc) B (.slice aao (AA l).length ac) l->∀o,Calls qA 51 #[.agg #[.slice oo l.length oc,.slice (some ⟨B,0,none⟩) l.length l.length,.slice aao (AA l).length ac],.slice lo letter.length lc,.int .i64 claim] (w1.alloc o) fun e w'=>∃ro rn rc,e=.returned (.tuple #[.slice ro rn rc,.int .i64 (BF l letter claim)])/\Below w1.heap.size w1 w'/\Hid (BoolsV w' (.slice ro rn rc) (DH l letter claim))):=fun w1 B aao ac hb hW o=>by
      have hA:Below w1.heap.size w1 (w1.alloc o):=(qD _ _).alloc (qB _) o;refine(Gq _ B _ _ l letter claim (w1.alloc o) hc (hW.below hA) ((hL.below hb).below hA)).mono fun e w' ⟨h1,h2,h3⟩=>?_;have h1':=hA.trans (h1.mono hA.size);by_cases hn:B6 l claim
      . exact⟨none,0,0,by rw[Fz hc hn];exact h2 hn,h1',by show BoolsV _ _ _;unfold DH;rw[Fz hc hn];exact⟨none,0,rfl,fun h=>absurd rfl h⟩⟩
      . obtain⟨bH,he,hr⟩:=h3 hn
        exact⟨_,_,_,by rw[EA hc hn];exact he,h1',by show BoolsV _ _ _;unfold DH;rw[EA hc hn];exact Ol hr⟩
    have hrd2:Calls qA 45 #[.slice oo l.length oc,.int .i64 (letter.length:Int)] w fun e w'=>Below w.heap.size w w'/\∃B aao ac,e=.returned (.tuple #[.agg #[.slice oo l.length oc,.slice (some ⟨B,0,none⟩) l.length l.length,.slice aao (AA l).length ac],.int .i64 0])/\Hid (BD w' (.slice oo l.length oc) B (.slice aao (AA l).length ac) l):=hrd.mono fun e w' ⟨h1,_,h3⟩=>⟨h1,h3 hc⟩;generalize BF l letter claim=x at *;generalize DH l letter claim=res at *;generalize(AA l).length=an at *;generalize letter.length=ln at *;generalize l.length=n at *;clear hrd hT hV hL hl hc
    go_enter Tryz.func32,Tryz.ntmps32;go_wp2_with (first|(go_at_call 45;refine hrd2.mono ?_;rintro e w1 ⟨hb1,B,aao,ac,rfl,HW⟩;have hme:=HM.out w1 B aao ac hb1 HW.out)|(go_at_call 51;refine(hme _).mono ?_;rintro e w2 ⟨ro,rn,rc,rfl,hb2,HR⟩))
    go_ret2;exact⟨_,rfl,hb1.trans (hb2.mono hb1.size),HR.out⟩
  . have hrd2:Calls qA 45 #[.slice oo l.length oc,.int .i64 (letter.length:Int)] w fun e w'=>Below w.heap.size w w'/\e=.returned (.tuple #[.agg #[.slice none 0 0,.slice none 0 0,.slice none 0 0],.int .i64 (Ab letter.length l)]):=hrd.mono fun e w' ⟨h1,h2,_⟩=>⟨h1,h2 hc⟩
    have HX:Hid (BF l letter claim=Ab letter.length l/\DH l letter claim=[]):=⟨Hk hc,by unfold DH;rw[if_neg (by rw[Hk hc];exact hc)]⟩;rw[HX.out.1,HX.out.2];generalize Ab letter.length l=x at *;generalize letter.length=ln at *;generalize l.length=n at *;clear hrd hT hV hL hl HX
    go_enter Tryz.func32,Tryz.ntmps32;go_wp2_with (go_at_call 45;refine hrd2.mono ?_;rintro e w1 ⟨hb1,rfl⟩)
    go_ret2;exact⟨_,rfl,by first|exact hb1|exact hb1.alloc hb1.size _,none,0,rfl,fun h=>absurd rfl h⟩
def C6(k:Int)(a x y:Bool):Bool:=if k=17 then a&&!x else if k=18 then !a&&x else if k=15 then a&&!y else if k=16 then !a&&y else false
def Cr(k:Int)(x y z nx:Bool):Bool:=if k=17 then x||z else if k=18 then x&&z else if k=15 then y||(x&&z)else if k=16 then y&&(x||z)else nx
structure PlaceIn(w:World)(b off n cap B bH:Nat)(l:List (Int×Int))(h:Nat->Bool)(p:Nat)(kx:Int):Prop where
 n60:n<=60
 pl:p<n
 one:p+1<n
 two:kx=15\/kx=16->sec l p<n
 kind:w.cell? ⟨b,off+p*2,none⟩=some (.int .i64 kx)
 bl:b<w.heap.size
 row:∀j,j<n->w.cell? ⟨bH,j,none⟩=some (.bool (h j))
 hl:bH<w.heap.size
 ends : ∀ j, j < n -> w.cell? ⟨B, j, none⟩ = some (.int .i64 (Al (l.map Prod.fst) j))
 el:B<w.heap.size
theorem Vo(b off n cap B bH:Nat)(l:List (Int×Int))(h:Nat->Bool)(p:Nat)(kx:Int)(aao:Option Addr)(an ac:Nat)(w:World)(hI:PlaceIn w b off n cap B bH l h p kx) :
  Calls qA 76 #[.agg #[.slice (some ⟨b,off,none⟩) n cap,.slice (some ⟨B,0,none⟩) n n,.slice aao an ac],.int .i64 (p:Int),.slice (some ⟨bH,0,none⟩) n n] w fun e w'=>e=.returned (.bool (C6 kx (h p) (h (p+1)) (h (sec l p))))/\Below w.heap.size w w':=by
 obtain⟨h60,hp,hp1,hp2,ck,hbl,hrow,hhl,hends,hel⟩:=hI;have hA:∀o,Below w.heap.size w (w.alloc o):=fun o=>(qD _ _).alloc (qB _) o;have hpa:=fun o=>G2 b off cap n B bH p _ h l aao an ac rfl (w.alloc o) (fun j hj=>((hA o).cell (p:=⟨bH,j,none⟩) hhl).trans (hrow j hj)) (qE hhl (hA o).size) (fun j hj=>((hA o).cell (p:=⟨B,j,none⟩) hel).trans (hends j hj)) (qE hel (hA o).size);have hpa:=hpa (.cells #[.slice (some ⟨b,off,none⟩) n cap,.slice (some ⟨B,0,none⟩) n n,.slice aao an ac] 123);simp only[World.size_alloc]at hpa;have HP2:Hid (∀w2,Below (w.heap.size+1) (w.alloc (.cells #[.slice (some ⟨b,off,none⟩) n cap,.slice (some ⟨B,0,none⟩) n n,.slice aao an ac] 123)) w2->Below w.heap.size w w2/\w2.cell? ⟨b,off+p*2,none⟩=some (.int .i64 kx)/\w2.cell? ⟨bH,p,none⟩=some (.bool (h p))/\w2.cell? ⟨w.heap.size,0,none⟩=some (.slice (some ⟨b,off,none⟩) n cap)):=fun w2 hb=>by
  have hb2:=(hA _).trans (hb.mono (vC _));exact⟨hb2,(hb2.cell (p:=⟨b,_,none⟩) hbl).trans ck,(hb2.cell (p:=⟨bH,_,none⟩) hhl).trans (hrow p hp),(hb.cell (p:=⟨w.heap.size,0,none⟩) (by simp)).trans (by simp[go_sem])⟩
 have HF:Hid (∀w2 bh bf bp,PartsAt w2 bh bf bp bH n B p h l->Calls qA 101 #[.pointer (some ⟨bh,0,none⟩),.pointer (some ⟨bp,0,none⟩)] w2 fun e w'=>e=.returned (.bool (h (p+1)))/\w'=w2):=fun w2 bh bf bp hP=>GX bh bp bH n p _ w2 h60 hp1 hP.holds hP.place (hP.row _ hp1);have HS:Hid ((kx=15\/kx=16)->∀w2 bh bf bp,PartsAt w2 bh bf bp bH n B p h l->Calls qA 102 #[.pointer (some ⟨bh,0,none⟩),.pointer (some ⟨bf,0,none⟩),.pointer (some ⟨bp,0,none⟩)] w2 fun e w'=>e=.returned (.bool (h (sec l p)))/\∃r,w'=w2.drewN r):=fun hk w2 bh bf bp hP=>Jc bh bf bp bH n B p (sec l p) _ w2 h60 hp1 (hp2 hk) hP.holds hP.place hP.ends (hP.erow _ hp1) (hP.row _ (hp2 hk));generalize hx:h (p+1)=x at *;generalize hy:h (sec l p)=y at *;generalize hz:h p=z at *;clear hx hy hz hrow hends ck hp2 hA
 by_cases e17:kx=17
 .subst e17;rw[show C6 17 z x y=(z&&!x) by simp[C6]];clear HS;cases z
  all_goals
   go_enter Tryz.func76,Tryz.ntmps76;go_wp2_with (first|(go_at_call 71;refine hpa.mono ?_;rintro e w2 ⟨rfl,hb2,HP⟩;obtain⟨hbw,d0,d1,d2⟩:=HP2.out w2 hb2;have hf:=HF.out w2 _ _ _ HP.out)|(go_at_call 101;refine hf.mono ?_;rintro e w3 ⟨rfl,hw3⟩;obtain rfl:=hw3.symm))
   go_ret;exact⟨by first|rfl|simp,by first|exact hbw|exact below_drewN hbw _⟩
 .by_cases e18:kx=18
  .subst e18;rw[show C6 18 z x y=(!z&&x) by simp[C6]];clear HS;cases z
   all_goals
    go_enter Tryz.func76,Tryz.ntmps76;go_wp2_with (first|(go_at_call 71;refine hpa.mono ?_;rintro e w2 ⟨rfl,hb2,HP⟩;obtain⟨hbw,d0,d1,d2⟩:=HP2.out w2 hb2;have hf:=HF.out w2 _ _ _ HP.out)|(go_at_call 101;refine hf.mono ?_;rintro e w3 ⟨rfl,hw3⟩;obtain rfl:=hw3.symm))
    go_ret;exact⟨by first|rfl|simp,by first|exact hbw|exact below_drewN hbw _⟩
  .by_cases e15:kx=15
   .subst e15;rw[show C6 15 z x y=(z&&!y) by simp[C6]];have HS2:=(show Hid _ from HS.out (by decide));clear HS;cases z
    all_goals
     go_enter Tryz.func76,Tryz.ntmps76;go_wp2_with (first|(go_at_call 71;refine hpa.mono ?_;rintro e w2 ⟨rfl,hb2,HP⟩;obtain⟨hbw,d0,d1,d2⟩:=HP2.out w2 hb2;have hs:=HS2.out w2 _ _ _ HP.out)|(go_at_call 102;refine hs.mono ?_;rintro e w3 ⟨rfl,r3,rfl⟩))
     go_ret;exact⟨by first|rfl|simp,by first|exact hbw|exact below_drewN hbw _⟩
   .by_cases e16:kx=16
    .subst e16;rw[show C6 16 z x y=(!z&&y) by simp[C6]];have HS2:=(show Hid _ from HS.out (by decide));clear HS;cases z
     all_goals
      go_enter Tryz.func76,Tryz.ntmps76;go_wp2_with (first|(go_at_call 71;refine hpa.mono ?_;rintro e w2 ⟨rfl,hb2,HP⟩;obtain⟨hbw,d0,d1,d2⟩:=HP2.out w2 hb2;have hs:=HS2.out w2 _ _ _ HP.out)|(go_at_call 102;refine hs.mono ?_;rintro e w3 ⟨rfl,r3,rfl⟩))
      go_ret;exact⟨by first|rfl|simp,by first|exact hbw|exact below_drewN hbw _⟩
    .rw[show C6 kx z x y=false by simp[C6,e17,e18,e15,e16]];clear HS;go_enter Tryz.func76,Tryz.ntmps76;go_wp2_with (first|(go_at_call 71;refine hpa.mono ?_;rintro e w2 ⟨rfl,hb2,HP⟩;obtain⟨hbw,d0,d1,d2⟩:=HP2.out w2 hb2))
     go_ret;exact⟨rfl,hbw⟩
theorem Q9(bn bp bN n pl:Nat)(x:Bool)(w:World)(hp:pl<n)(c0:w.cell? ⟨bn,0,none⟩=some (.slice (some ⟨bN,0,none⟩) n n))(c1:w.cell? ⟨bp,0,none⟩=some (.int .i64 pl))(c2:w.cell? ⟨bN,pl,none⟩=some (.bool x)) :
  Calls qA 135 #[.pointer (some ⟨bn,0,none⟩),.pointer (some ⟨bp,0,none⟩)] w fun e w'=>e=.returned (.bool x)/\w'=w:=by
 go_enter Tryz.func135,Tryz.ntmps135;go_wp2_with fail
 go_ret;exact⟨rfl,rfl⟩
def Hq(l:List (Int×Int))(h:Nat->Bool)(p:Nat):Bool:=C6 (l.getD p (0,0)).1 (h p) (h (p+1)) (h (sec l p))
def Cv(l:List (Int×Int))(h:Nat->Bool):Nat->Int
 |0=>0
 |k+1=>Cv l h k+if Hq l h ((AA l).getD k 0).toNat=true then 0 else 2^k
theorem Lp(l:List (Int×Int))(h:Nat->Bool):∀k,0<=Cv l h k/\Cv l h k<2^k:=by
 intro k;induction k with
 |zero=>simp[Cv]
 |succ k ih=>
  have h2:(0:Int)<2^k:=jY (by decide);simp only[Cv];rw[kT];split<;>omega
theorem S6:∀k,k<6->∀c,c<2^k->bits BinOp.or IntKind.i64 ((c:Nat):Int) (2^k)=((c:Nat):Int)+2^k:=by decide
theorem ME{c:Int}{k:Nat}(hk:k<6)(h0:0<=c)(h1:c<2^k):bits BinOp.or IntKind.i64 c (2^k)=c+2^k:=by
 obtain⟨m,rfl⟩:∃m:Nat,c=m:=⟨c.toNat,by omega⟩;refine S6 k hk m ?_;have e:((2^k:Nat):Int)=2^k:=by simp
 omega
theorem MU{k:Nat}(hk:k<=6):(2:Int)^k<=64:=by
 have hcase:k=0\/k=1\/k=2\/k=3\/k=4\/k=5\/k=6:=by omega
 rcases hcase with rfl|rfl|rfl|rfl|rfl|rfl|rfl<;>decide
noncomputable def Bz(l:List (Int×Int))(letter:List Bool)(claim:Int):Int:=if BF l letter claim=0 then Cv l (tru l letter claim) (AA l).length else 0
theorem MR{w:World}{b off cap B bH:Nat}{av:Value}{l:List (Int×Int)}{h:Nat->Bool}(hW:BD w (.slice (some ⟨b,off,none⟩) l.length cap) B av l)(hz:AR (l.map Prod.fst)=0)(hr:w.rowIs bH 4 l.length (fun j=>.bool (h j))){p:Nat}(hp:p<l.length)(hk:Af (l.getD p (0,0)).1=true):PlaceIn w b off l.length cap B bH l h p (l.getD p (0,0)).1:=by
 obtain⟨b',off',cap',hv,hbl,hat,hrow,_⟩:=hW;injection hv with e1 e2 e3;injection Option.some.inj e1 with e4 e5;subst e4 e5;obtain⟨hne,h60⟩:=Dq hz;rw[qL]at h60;obtain⟨h1,h2⟩:=G1 hz hp;have hk':14<=(l.getD p (0,0)).1/\(l.getD p (0,0)).1<=18:=by simpa[Af]using hk
 have hpn:1<=pn (l.getD p (0,0)).1:=by
  unfold pn;split
  .omega
  .split
   .omega
   .omega
 exact⟨h60,hp,h1 hpn,fun e=>(h2 (by rcases e with e|e<;>rw[e]<;>rfl)).2,(hat p hp).1,hbl,fun j hj=>hr.cell hj,hr.lt,fun j hj=>hrow.cell hj,hrow.lt⟩
theorem Rg(v lv:Value)(l:List (Int×Int))(letter:List Bool)(claim:Int)(w:World)(hB:0<w.heap.size)(hT:AH w)(hV:OpsV w v l)(hL:BoolsV w lv letter) :
  Calls qA 54 #[v,lv,.int .i64 claim] w fun e w'=>e=.returned (.tuple #[.int .i64 (Bz l letter claim),.int .i64 (BF l letter claim)])/\Below w.heap.size w w':=by
 have hrd:=Iv v l letter.length w hB hT hV;obtain⟨lo,lc,rfl,hl⟩:=id hL;obtain⟨oo,oc,rfl,_⟩:=id hV;by_cases hc:Ab letter.length l=0
 .obtain ⟨_,_,hz,_,h6⟩:=CB hc;have hrd2:Calls qA 45 #[.slice oo l.length oc,.int .i64 (letter.length:Int)] w fun e w'=>Below w.heap.size w w'/\∃B aao ac,e=.returned (.tuple #[.agg #[.slice oo l.length oc,.slice (some ⟨B,0,none⟩) l.length l.length,.slice aao (AA l).length ac],.int .i64 0])/\Hid (BD w' (.slice oo l.length oc) B (.slice aao (AA l).length ac) l):=hrd.mono fun e w' ⟨h1,_,h3⟩=>⟨h1,h3 hc⟩;have HM:Hid (∀w1 B aao ac,Below w.heap.size w w1->BD w1 (.slice oo l.length oc) B (.slice aao (AA l).length ac) l->Calls qA 51 #[.agg #[.slice oo l.length oc,.slice (some ⟨B,0,none⟩) l.length l.length,.slice aao (AA l).length ac],.slice lo letter.length lc,.int .i64 claim] (w1.alloc (.cells #[.slice oo l.length oc,.slice (some ⟨B,0,none⟩) l.length l.length,.slice aao (AA l).length ac] 123)) fun e w'=>Below (w1.heap.size+1) (w1.alloc (.cells #[.slice oo l.length oc,.slice (some ⟨B,0,none⟩) l.length l.length,.slice aao (AA l).length ac] 123)) w'/\(B6 l claim->e=.returned (.tuple #[.slice none 0 0,.int .i64 2]))/\(¬B6 l claim->∃bH,e=.returned (.tuple #[.slice (some ⟨bH,0,none⟩) l.length l.length,.int .i64 0])/\Hid (w'.rowIs bH 4 l.length (fun j=>.bool (tru l letter claim j))))):=fun w1 B aao ac hb hW=>by
   have hA:∀o,Below w1.heap.size w1 (w1.alloc o):=fun o=>(qD _ _).alloc (qB _) o;refine(Gq _ B _ _ l letter claim (w1.alloc _) hc (hW.below (hA _)) ((hL.below hb).below (hA _))).mono fun e w' ⟨h1,h2,h3⟩=>⟨?_,h2,h3⟩;simpa using h1
  by_cases hcl:B6 l claim
  .have htc:BF l letter claim=2:=Fz hc hcl;rw[htc,show Bz l letter claim=0 by unfold Bz;rw[htc];rfl];have HM2:Hid (∀w1 B aao ac,Below w.heap.size w w1->BD w1 (.slice oo l.length oc) B (.slice aao (AA l).length ac) l->Calls qA 51 #[.agg #[.slice oo l.length oc,.slice (some ⟨B,0,none⟩) l.length l.length,.slice aao (AA l).length ac],.slice lo letter.length lc,.int .i64 claim] (w1.alloc (.cells #[.slice oo l.length oc,.slice (some ⟨B,0,none⟩) l.length l.length,.slice aao (AA l).length ac] 123)) fun e w'=>e=.returned (.tuple #[.slice none 0 0,.int .i64 2])/\Below w1.heap.size w1 w'):=fun w1 B aao ac hb hW=>(HM.out w1 B aao ac hb hW).mono fun e w' ⟨h1,h2,_⟩=>⟨h2 hcl,((qD _ _).alloc (qB _) _).trans (h1.mono (vC _))⟩;generalize(AA l).length=an at *;generalize letter.length=ln at *;generalize l.length=n at *;clear hrd hT hV hL hl hc HM hcl htc hz h6
   go_enter Tryz.func54,Tryz.ntmps54;go_wp2_with (first|(go_at_call 45;refine hrd2.mono ?_;rintro e w1 ⟨hb1,B,aao,ac,rfl,HW⟩;have hme:=HM2.out w1 B aao ac hb1 HW.out)|(go_at_call 51;refine hme.mono ?_;rintro e w2 ⟨rfl,hb2⟩))
   go_ret2;exact⟨rfl,hb1.trans (hb2.mono hb1.size)⟩
  .have htc:BF l letter claim=0:=EA hc hcl;rw[htc,show Bz l letter claim=Cv l (tru l letter claim) (AA l).length by unfold Bz;rw[htc];rfl];have HM2:Hid (∀w1 B aao ac,Below w.heap.size w w1->BD w1 (.slice oo l.length oc) B (.slice aao (AA l).length ac) l->Calls qA 51 #[.agg #[.slice oo l.length oc,.slice (some ⟨B,0,none⟩) l.length l.length,.slice aao (AA l).length ac],.slice lo letter.length lc,.int .i64 claim] (w1.alloc (.cells #[.slice oo l.length oc,.slice (some ⟨B,0,none⟩) l.length l.length,.slice aao (AA l).length ac] 123)) fun e w'=>∃bH,e=.returned (.tuple #[.slice (some ⟨bH,0,none⟩) l.length l.length,.int .i64 0])/\Below w1.heap.size w1 w'/\w1.heap.size<w'.heap.size/\w'.cell? ⟨w1.heap.size,0,none⟩=some (.slice oo l.length oc)/\w'.cell? ⟨w1.heap.size,1,none⟩=some (.slice (some ⟨B,0,none⟩) l.length l.length)/\w'.cell? ⟨w1.heap.size,2,none⟩=some (.slice aao (AA l).length ac)/\Hid (BD w' (.slice oo l.length oc) B (.slice aao (AA l).length ac) l/\w'.rowIs bH 4 l.length (fun j=>.bool (tru l letter claim j)))):=fun w1 B aao ac hb hW=>(HM.out w1 B aao ac hb hW).mono fun e w' ⟨h1,_,h3⟩=>by
    obtain⟨bH,he,hr⟩:=h3 hcl;have hb':Below w1.heap.size w1 w':=((qD _ _).alloc (qB _) _).trans (h1.mono (vC _));refine⟨bH,he,hb',by have:=h1.size;simp at this;omega,(h1.cell (p:=⟨w1.heap.size,0,none⟩) (qY _)).trans (by simp[go_sem]),(h1.cell (p:=⟨w1.heap.size,1,none⟩) (qY _)).trans (by simp[go_sem]),(h1.cell (p:=⟨w1.heap.size,2,none⟩) (qY _)).trans (by simp[go_sem]),hW.below hb',hr.out⟩
   have HWa:Hid (∀w2 B bH aao ac p,BD w2 (.slice oo l.length oc) B (.slice aao (AA l).length ac) l->w2.rowIs bH 4 l.length (fun j=>.bool (tru l letter claim j))->p<l.length->Af (l.getD p (0,0)).1=true->Calls qA 76 #[.agg #[.slice oo l.length oc,.slice (some ⟨B,0,none⟩) l.length l.length,.slice aao (AA l).length ac],.int .i64 (p:Int),.slice (some ⟨bH,0,none⟩) l.length l.length] w2 fun e w'=>e=.returned (.bool (Hq l (tru l letter claim) p))/\Below w2.heap.size w2 w'):=fun w2 B bH aao ac p hW hr hp hk=>by
    obtain⟨b,off,cap,hv,_⟩:=id hW;injection hv with e1 e2 e3;subst e1 e3;exact Vo b off l.length oc B bH l _ p _ aao _ ac w2 (MR hW hz hr hp hk)
   have HG:Hid (∀w2 B aao ac k,BD w2 (.slice oo l.length oc) B (.slice aao (AA l).length ac) l->k<(AA l).length->∃p:Nat,(∃ab aoff,aao=some ⟨ab,aoff,none⟩/\w2.cell? ⟨ab,aoff+k,none⟩=some (.int .i64 (p:Int)))/\p<l.length/\Af (l.getD p (0,0)).1=true/\((AA l).getD k 0).toNat=p):=fun w2 B aao ac k hW hk=>by
    obtain⟨_,_,_,_,_,_,_,ao',ac',hsl,hai⟩:=hW;injection hsl with e1 e2 e3;subst e1;obtain⟨ab,aoff,rfl,habl,haat⟩:=hai (by intro h;rw[h]at hk;simp at hk);obtain⟨p,h1,h2,h3,h4⟩:=GD l l.length k hk;have h1':(AA l).getD k 0=(p:Int):=h1;exact⟨p,⟨ab,aoff,rfl,by rw[haat k hk,h1']⟩,h2,h3,by rw[h1'];rfl⟩
   have HMS:Hid (∀k,Cv l (tru l letter claim) (k+1)=Cv l (tru l letter claim) k+if Hq l (tru l letter claim) ((AA l).getD k 0).toNat=true then 0 else 2^k):=fun _=>rfl;have HMB:Hid (∀k,0<=Cv l (tru l letter claim) k/\Cv l (tru l letter claim) k<2^k):=Lp _ _;have HM0:Hid (Cv l (tru l letter claim) 0=0):=rfl;generalize Cv l (tru l letter claim)=mt at *;generalize hwt:Hq l (tru l letter claim)=wt at *;clear hwt;obtain⟨an,han⟩:∃an,an=(AA l).length:=⟨_,rfl⟩
   rw[<-han]at hrd2 HM2 HWa HG h6⊢;generalize hnn:l.length=n at *;generalize letter.length=ln at *;clear hrd hT hV hL hl hc HM hcl htc hz hnn han
   go_enter Tryz.func54,Tryz.ntmps54;go_wp2_with (first|(go_at_call 45;refine hrd2.mono ?_;rintro e w1 ⟨hb1,B,aao,ac,rfl,HW⟩;have hme:=HM2.out w1 B aao ac hb1 HW.out)|(go_at_call 51;refine hme.mono ?_;rintro e w2 ⟨bH,rfl,hb2,hs2,d0,d1,d2,HW2⟩))
   have hb12:=hb1.trans (hb2.mono hb1.size);clear hrd2 hme HM2 HW;go_loopw [11,37] (fun mv i wr=>∃k:Nat,k<=an/\i=.int .i64 (k:Int)/\mv=.int .i64 (mt k)/\Hid (Below w2.heap.size w2 wr)) (fun _ i _=>an-(intOf i).toNat)
   case atStart=>exact⟨0,qJ _,rfl,by rw[HM0.out],qD _ _⟩
   case round=>
    obtain⟨k,hk,rfl,rfl,HBel⟩:=hrel;have hbel:=HBel.out;have d0':=(hbel.cell (p:=⟨w1.heap.size,0,none⟩) hs2).trans d0;have d1':=(hbel.cell (p:=⟨w1.heap.size,1,none⟩) hs2).trans d1;have d2':=(hbel.cell (p:=⟨w1.heap.size,2,none⟩) hs2).trans d2;by_cases hlt:k<an
    .have hWr:=HW2.out.1.below hbel;obtain⟨p,⟨ab,aoff,rfl,hca⟩,hpn,hpk,hpi⟩:=HG.out wr B aao ac k hWr hlt;have hwa:=HWa.out wr B bH _ ac p hWr (B3 HW2.out.2 hbel) hpn hpk;have HS:=(show Hid _ from HMS.out k);rw[hpi]at HS;obtain⟨hm0,hm1⟩:=HMB.out k;have hk6:k<6:=by omega
     have hps:=MU (k:=k) (by omega);have h2k:(0:Int)<2^k:=jY (by decide);have HOr:Hid (bits BinOp.or IntKind.i64 (mt k) (2^k)=mt k+2^k):=ME hk6 hm0 hm1;generalize wt p=wv at *;clear HWa HG HMS HMB hpi hpk HW2 hWr
     cases wv with
     |true=>
      have HS2:Hid (mt (k+1)=mt k):=by show _=_;rw[HS.out];simp
      clear HS;go_wp2_with (go_at_call 76;refine hwa.mono ?_;rintro e w3 ⟨rfl,hb3⟩)
      exact⟨⟨k+1,hlt,by first|rfl|simp,by rw[HS2.out],hbel.trans (hb3.mono hbel.size)⟩,by simp[intOf];omega⟩
     |false=>
      have HS2:Hid (mt (k+1)=mt k+2^k):=by show _=_;rw[HS.out];simp
      clear HS;go_wp2_with (go_at_call 76;refine hwa.mono ?_;rintro e w3 ⟨rfl,hb3⟩)
      exact⟨⟨k+1,hlt,by first|rfl|simp,by rw[HS2.out,<-HOr.out],hbel.trans (hb3.mono hbel.size)⟩,by simp[intOf];omega⟩
    .obtain rfl:k=an:=by omega
     go_wp2_with fail
     go_ret2;exact⟨rfl,hb12.trans (hbel.mono hb12.size)⟩
 .have htc:=Hk (claim:=claim) hc;rw[htc,show Bz l letter claim=0 by unfold Bz;rw[htc,if_neg hc]];have hrd2:Calls qA 45 #[.slice oo l.length oc,.int .i64 (letter.length:Int)] w fun e w'=>Below w.heap.size w w'/\e=.returned (.tuple #[.agg #[.slice none 0 0,.slice none 0 0,.slice none 0 0],.int .i64 (Ab letter.length l)]):=hrd.mono fun e w' ⟨h1,h2,_⟩=>⟨h1,h2 hc⟩;generalize Ab letter.length l=x at *;generalize letter.length=ln at *;generalize l.length=n at *;clear hrd hT hV hL hl htc
  go_enter Tryz.func54,Tryz.ntmps54;go_wp2_with (go_at_call 45;refine hrd2.mono ?_;rintro e w1 ⟨hb1,rfl⟩)
  go_ret2;exact⟨rfl,by first|exact hb1|exact hb1.alloc hb1.size _⟩
theorem PH(b off n cap B bH bN:Nat)(l:List (Int×Int))(h g:Nat->Bool)(p:Nat)(kx:Int)(aao:Option Addr)(an ac:Nat)(w:World)(hI:PlaceIn w b off n cap B bH l h p kx)(hN:∀j,j<n->w.cell? ⟨bN,j,none⟩=some (.bool (g j)))(hNl:bN<w.heap.size) :
  Calls qA 104 #[.agg #[.slice (some ⟨b,off,none⟩) n cap,.slice (some ⟨B,0,none⟩) n n,.slice aao an ac],.int .i64 (p:Int),.slice (some ⟨bH,0,none⟩) n n,.slice (some ⟨bN,0,none⟩) n n] w fun e w'=>e=.returned (.bool (Cr kx (h (p+1)) (h (sec l p)) (g p) (g (p+1))))/\Below w.heap.size w w':=by
 obtain⟨h60,hp,hp1,hp2,ck,hbl,hrow,hhl,hends,hel⟩:=hI;have hA:Below w.heap.size w (((w.alloc (.cells #[.slice (some ⟨b,off,none⟩) n cap,.slice (some ⟨B,0,none⟩) n n,.slice aao an ac] 123)).alloc (.cells #[.int .i64 (p:Int)] 3)).alloc (.cells #[.slice (some ⟨bN,0,none⟩) n n] 102)):=(((qD _ _).alloc (qB _) _).alloc (by simp) _).alloc (by simp;omega) _;have hpa:=G2 b off cap n B bH p _ h l aao an ac rfl (((w.alloc (.cells #[.slice (some ⟨b,off,none⟩) n cap,.slice (some ⟨B,0,none⟩) n n,.slice aao an ac] 123)).alloc (.cells #[.int .i64 (p:Int)] 3)).alloc (.cells #[.slice (some ⟨bN,0,none⟩) n n] 102)) (fun j hj=>(hA.cell (p:=⟨bH,j,none⟩) hhl).trans (hrow j hj)) (qE hhl hA.size) (fun j hj=>(hA.cell (p:=⟨B,j,none⟩) hel).trans (hends j hj)) (qE hel hA.size);simp only[World.size_alloc]at hpa;have HP2:Hid (∀w2,Below (w.heap.size+1+1+1) (((w.alloc (.cells #[.slice (some ⟨b,off,none⟩) n cap,.slice (some ⟨B,0,none⟩) n n,.slice aao an ac] 123)).alloc (.cells #[.int .i64 (p:Int)] 3)).alloc (.cells #[.slice (some ⟨bN,0,none⟩) n n] 102)) w2->Below w.heap.size w w2/\w2.cell? ⟨b,off+p*2,none⟩=some (.int .i64 kx)/\w2.cell? ⟨w.heap.size,0,none⟩=some (.slice (some ⟨b,off,none⟩) n cap)/\w2.cell? ⟨w.heap.size,1,none⟩=some (.slice (some ⟨B,0,none⟩) n n)/\w2.cell? ⟨w.heap.size,2,none⟩=some (.slice aao an ac)/\w2.cell? ⟨w.heap.size+1,0,none⟩=some (.int .i64 (p:Int))/\w2.cell? ⟨w.heap.size+1+1,0,none⟩=some (.slice (some ⟨bN,0,none⟩) n n)):=fun w2 hb=>by
  have hb2:=hA.trans (hb.mono (by omega));refine⟨hb2,(hb2.cell (p:=⟨b,_,none⟩) hbl).trans ck,(hb.cell (p:=⟨w.heap.size,0,none⟩) (by first|(simp;omega)|simp)).trans (by simp[go_sem]),(hb.cell (p:=⟨w.heap.size,1,none⟩) (by first|(simp;omega)|simp)).trans (by simp[go_sem]),(hb.cell (p:=⟨w.heap.size,2,none⟩) (by first|(simp;omega)|simp)).trans (by simp[go_sem]),(hb.cell (p:=⟨w.heap.size+1,0,none⟩) (by first|(simp;omega)|simp)).trans (by simp[go_sem]),(hb.cell (p:=⟨w.heap.size+1+1,0,none⟩) (by simp)).trans (by simp[go_sem])⟩
 have HF:Hid (∀w2 bh bf bp,PartsAt w2 bh bf bp bH n B p h l->∀w3,(∀q,w3.cell? q=w2.cell? q)->Calls qA 101 #[.pointer (some ⟨bh,0,none⟩),.pointer (some ⟨bp,0,none⟩)] w3 fun e w'=>e=.returned (.bool (h (p+1)))/\w'=w3):=fun w2 bh bf bp hP w3 hc=>GX bh bp bH n p _ w3 h60 hp1 ((hc _).trans hP.holds) ((hc _).trans hP.place) ((hc _).trans (hP.row _ hp1));have HS:Hid ((kx=15\/kx=16)->∀w2 bh bf bp,PartsAt w2 bh bf bp bH n B p h l->Calls qA 102 #[.pointer (some ⟨bh,0,none⟩),.pointer (some ⟨bf,0,none⟩),.pointer (some ⟨bp,0,none⟩)] w2 fun e w'=>e=.returned (.bool (h (sec l p)))/\∃r,w'=w2.drewN r):=fun hk w2 bh bf bp hP=>Jc bh bf bp bH n B p (sec l p) _ w2 h60 hp1 (hp2 hk) hP.holds hP.place hP.ends (hP.erow _ hp1) (hP.row _ (hp2 hk));have HZ:Hid (∀w2,Below w.heap.size w w2->w2.cell? ⟨w.heap.size+1,0,none⟩=some (.int .i64 (p:Int))->w2.cell? ⟨w.heap.size+1+1,0,none⟩=some (.slice (some ⟨bN,0,none⟩) n n)->∀w3,(∀q,w3.cell? q=w2.cell? q)->Calls qA 135 #[.pointer (some ⟨w.heap.size+1+1,0,none⟩),.pointer (some ⟨w.heap.size+1,0,none⟩)] w3 fun e w'=>e=.returned (.bool (g p))/\w'=w3):=fun w2 hb c1 c2 w3 hc=>Q9 _ _ bN n p _ w3 hp ((hc _).trans c2) ((hc _).trans c1) ((hc _).trans ((hb.cell (p:=⟨bN,p,none⟩) hNl).trans (hN p hp)));have HPN:Hid (∀w2,Below w.heap.size w w2->Calls qA 71 #[.agg #[.slice (some ⟨b,off,none⟩) n cap,.slice (some ⟨B,0,none⟩) n n,.slice aao an ac],.int .i64 (p:Int),.slice (some ⟨bN,0,none⟩) n n] w2 fun e w'=>e=.returned (.tuple #[.func (.func 101) #[] #[.pointer (some ⟨w2.heap.size+1+1,0,none⟩),.pointer (some ⟨w2.heap.size+1,0,none⟩)],.func (.func 102) #[] #[.pointer (some ⟨w2.heap.size+1+1,0,none⟩),.pointer (some ⟨w2.heap.size,0,none⟩),.pointer (some ⟨w2.heap.size+1,0,none⟩)]])/\Below w.heap.size w w'/\Hid (Calls qA 101 #[.pointer (some ⟨w2.heap.size+1+1,0,none⟩),.pointer (some ⟨w2.heap.size+1,0,none⟩)] w' fun e w''=>e=.returned (.bool (g (p+1)))/\w''=w')):=fun w2 hb=>by
  refine(G2 b off cap n B bN p _ g l aao an ac rfl w2 (fun j hj=>(hb.cell (p:=⟨bN,j,none⟩) hNl).trans (hN j hj)) (qE hNl hb.size) (fun j hj=>(hb.cell (p:=⟨B,j,none⟩) hel).trans (hends j hj)) (qE hel hb.size)).mono fun e w' ⟨h1,h2,h3⟩=>⟨h1,hb.trans (h2.mono hb.size),?_⟩;exact GX _ _ bN n p _ w' h60 hp1 h3.out.holds h3.out.place (h3.out.row _ hp1)
 generalize hx:h (p+1)=x at *;generalize hy:h (sec l p)=y at *;generalize hz:g p=z at *;generalize hnx:g (p+1)=nx at *;clear hx hy hz hnx hrow hends ck hp2 hN
 by_cases e17:kx=17
 .subst e17;rw[show Cr 17 x y z nx=(x||z) by simp[Cr]];clear HS HPN;cases x
  all_goals
   go_enter Tryz.func104,Tryz.ntmps104;go_wp2_with (first|(go_at_call 71;refine hpa.mono ?_;clear hpa;rintro e w2 ⟨rfl,hb2,HP⟩;obtain⟨hbw,d0,d1,d2,d3,d4,d5⟩:=HP2.out w2 hb2;have hf:=HF.out w2 _ _ _ HP.out;have hit:=HZ.out w2 hbw d4 d5)|(go_at_call 101;refine(hf _ (by first|exact fun _=>rfl|(intro q;simp))).mono ?_;rintro e w3 ⟨rfl,hw3⟩;obtain rfl:=hw3.symm)|(go_at_call 135;refine(hit _ (by first|exact fun _=>rfl|(intro q;simp))).mono ?_;rintro e w3 ⟨rfl,hw3⟩;obtain rfl:=hw3.symm))
   go_ret;exact⟨by first|rfl|simp,by first|exact hbw|exact below_drewN hbw _⟩
 .by_cases e18:kx=18
  .subst e18;rw[show Cr 18 x y z nx=(x&&z) by simp[Cr]];clear HS HPN;cases x
   all_goals
    go_enter Tryz.func104,Tryz.ntmps104;go_wp2_with (first|(go_at_call 71;refine hpa.mono ?_;clear hpa;rintro e w2 ⟨rfl,hb2,HP⟩;obtain⟨hbw,d0,d1,d2,d3,d4,d5⟩:=HP2.out w2 hb2;have hf:=HF.out w2 _ _ _ HP.out;have hit:=HZ.out w2 hbw d4 d5)|(go_at_call 101;refine(hf _ (by first|exact fun _=>rfl|(intro q;simp))).mono ?_;rintro e w3 ⟨rfl,hw3⟩;obtain rfl:=hw3.symm)|(go_at_call 135;refine(hit _ (by first|exact fun _=>rfl|(intro q;simp))).mono ?_;rintro e w3 ⟨rfl,hw3⟩;obtain rfl:=hw3.symm))
    go_ret;exact⟨by first|rfl|simp,by first|exact hbw|exact below_drewN hbw _⟩
  .by_cases e15:kx=15
   .subst e15;rw[show Cr 15 x y z nx=(y||(x&&z)) by simp[Cr]];have HS2:=(show Hid _ from HS.out (by decide));clear HS HPN;cases x<;>cases y
    all_goals
     go_enter Tryz.func104,Tryz.ntmps104;go_wp2_with (first|(go_at_call 71;refine hpa.mono ?_;clear hpa;rintro e w2 ⟨rfl,hb2,HP⟩;obtain⟨hbw,d0,d1,d2,d3,d4,d5⟩:=HP2.out w2 hb2;have hf:=HF.out w2 _ _ _ HP.out;have hs:=HS2.out w2 _ _ _ HP.out;have hit:=HZ.out w2 hbw d4 d5)|(go_at_call 101;refine(hf _ (by first|exact fun _=>rfl|(intro q;simp))).mono ?_;rintro e w3 ⟨rfl,hw3⟩;obtain rfl:=hw3.symm)|(go_at_call 102;refine hs.mono ?_;rintro e w3 ⟨rfl,r3,rfl⟩)|(go_at_call 135;refine(hit _ (by first|exact fun _=>rfl|(intro q;simp))).mono ?_;rintro e w3 ⟨rfl,hw3⟩;obtain rfl:=hw3.symm))
     go_ret;exact⟨by first|rfl|simp,by first|exact hbw|exact below_drewN hbw _⟩
   .by_cases e16:kx=16
    .subst e16;rw[show Cr 16 x y z nx=(y&&(x||z)) by simp[Cr]];have HS2:=(show Hid _ from HS.out (by decide));clear HS HPN;cases x<;>cases y
     all_goals
      go_enter Tryz.func104,Tryz.ntmps104;go_wp2_with (first|(go_at_call 71;refine hpa.mono ?_;clear hpa;rintro e w2 ⟨rfl,hb2,HP⟩;obtain⟨hbw,d0,d1,d2,d3,d4,d5⟩:=HP2.out w2 hb2;have hf:=HF.out w2 _ _ _ HP.out;have hs:=HS2.out w2 _ _ _ HP.out;have hit:=HZ.out w2 hbw d4 d5)|(go_at_call 101;refine(hf _ (by first|exact fun _=>rfl|(intro q;simp))).mono ?_;rintro e w3 ⟨rfl,hw3⟩;obtain rfl:=hw3.symm)|(go_at_call 102;refine hs.mono ?_;rintro e w3 ⟨rfl,r3,rfl⟩)|(go_at_call 135;refine(hit _ (by first|exact fun _=>rfl|(intro q;simp))).mono ?_;rintro e w3 ⟨rfl,hw3⟩;obtain rfl:=hw3.symm))
      go_ret;exact⟨by first|rfl|simp,by first|exact hbw|exact below_drewN hbw _⟩
    .rw[show Cr kx x y z nx=nx by simp[Cr,e17,e18,e15,e16]];clear HS HF HZ;go_enter Tryz.func104,Tryz.ntmps104;go_wp2_with (first|(go_at_call 71;refine hpa.mono ?_;clear hpa;rintro e w2 ⟨rfl,hb2,HP⟩;obtain⟨hbw,d0,d1,d2,d3,d4,d5⟩:=HP2.out w2 hb2;have hpn:=HPN.out w2 hbw)|(go_at_call 71;refine hpn.mono ?_;rintro e w4 ⟨rfl,hb4,HF4⟩)|(go_at_call 101;refine HF4.out.mono ?_;rintro e w5 ⟨rfl,hw5⟩;obtain rfl:=hw5.symm))
     go_ret;exact⟨rfl,hb4⟩
def EP(l:List (Int×Int))(h g:Nat->Bool)(p:Nat):Bool:=Cr (l.getD p (0,0)).1 (h (p+1)) (h (sec l p)) (g p) (g (p+1))
def Fol(l:List (Int×Int))(h g:Nat->Bool):Prop:=∀p,p<l.length->Af (l.getD p (0,0)).1=true->h p=EP l h g p
noncomputable def Bn(l:List (Int×Int))(now:List Bool)(claim:Int)(next:List Bool)(later:Int):Int:=if now.length≠next.length then 1 else if BF l now claim≠0 then BF l now claim else BF l next later
open Classical in
noncomputable def A8(l:List (Int×Int))(now:List Bool)(claim:Int)(next:List Bool)(later:Int):Bool:=if Bn l now claim next later=0 then decide (Fol l (tru l now claim) (tru l next later))else false
theorem GZ{l:List (Int×Int)}{now:List Bool}{claim:Int}{next:List Bool}{later:Int}(h:Bn l now claim next later≠0):A8 l now claim next later=false:=by unfold A8;rw[if_neg h]
open Classical in
theorem QJ{l:List (Int×Int)}{now:List Bool}{claim:Int}{next:List Bool}{later:Int}(h:Bn l now claim next later=0)(h2:Fol l (tru l now claim) (tru l next later)):A8 l now claim next later=true:=by unfold A8;rw[if_pos h];exact decide_eq_true h2
open Classical in
theorem QH{l:List (Int×Int)}{now:List Bool}{claim:Int}{next:List Bool}{later:Int}(h2:¬Fol l (tru l now claim) (tru l next later)):A8 l now claim next later=false:=by
 unfold A8;split
 .exact decide_eq_false h2
 .rfl
theorem QK(v:Value)(no xo:Option Addr)(nn nc xn xc:Nat)(claim later:Int)(oo:Option Addr)(on oc:Nat)(hv:v=.slice oo on oc)(w:World)(h:nn≠xn) :
  Calls qA 75 #[v,.slice no nn nc,.int .i64 claim,.slice xo xn xc,.int .i64 later] w fun e w'=>e=.returned (.tuple #[.bool false,.int .i64 1])/\Below w.heap.size w w':=by
 subst hv;have hne:¬(nn:Int)=xn:=by omega
 clear h;go_enter Tryz.func75,Tryz.ntmps75;go_wp2_with fail
 go_ret2;exact⟨rfl,qD _ _⟩
theorem QL(oo:Option Addr)(oc:Nat)(l:List (Int×Int))(no xo:Option Addr)(nc xc:Nat)(now next:List Bool)(claim later:Int)(w:World)(hB:0<w.heap.size)(hT:AH w)(hV:OpsV w (.slice oo l.length oc) l)(hL:BoolsV w (.slice no now.length nc) now)(hX:BoolsV w (.slice xo next.length xc) next)(hlen:now.length=next.length) :
  Calls qA 75 #[.slice oo l.length oc,.slice no now.length nc,.int .i64 claim,.slice xo next.length xc,.int .i64 later] w fun e w'=>e=.returned (.tuple #[.bool (A8 l now claim next later),.int .i64 (Bn l now claim next later)])/\Below w.heap.size w w':=by
 have hrd:=Iv _ l now.length w hB hT hV;by_cases hc:Ab now.length l=0
 .obtain ⟨_,_,hz,_,h6⟩:=CB hc;have hcx:Ab next.length l=0:=by rw[<-hlen];exact hc
  have hrd2:Calls qA 45 #[.slice oo l.length oc,.int .i64 (now.length:Int)] w fun e w'=>Below w.heap.size w w'/\∃B aao ac,e=.returned (.tuple #[.agg #[.slice oo l.length oc,.slice (some ⟨B,0,none⟩) l.length l.length,.slice aao (AA l).length ac],.int .i64 0])/\Hid (BD w' (.slice oo l.length oc) B (.slice aao (AA l).length ac) l):=hrd.mono fun e w' ⟨h1,_,h3⟩=>⟨h1,h3 hc⟩;have HM:Hid (∀w1 B aao ac,Below w.heap.size w w1->BD w1 (.slice oo l.length oc) B (.slice aao (AA l).length ac) l->Calls qA 51 #[.agg #[.slice oo l.length oc,.slice (some ⟨B,0,none⟩) l.length l.length,.slice aao (AA l).length ac],.slice no now.length nc,.int .i64 claim] w1 (H9 l now claim w1)):=fun w1 B aao ac hb hW=>Gq _ B _ _ l now claim w1 hc hW (hL.below hb);have HM2:Hid (∀w1 B aao ac,Below w.heap.size w w1->BD w1 (.slice oo l.length oc) B (.slice aao (AA l).length ac) l->Calls qA 51 #[.agg #[.slice oo l.length oc,.slice (some ⟨B,0,none⟩) l.length l.length,.slice aao (AA l).length ac],.slice xo next.length xc,.int .i64 later] w1 (H9 l next later w1)):=fun w1 B aao ac hb hW=>Gq _ B _ _ l next later w1 hcx hW (hX.below hb)
  have HWA:Hid (∀w1 B aao ac,BD w1 (.slice oo l.length oc) B (.slice aao (AA l).length ac) l->∀o,BD (w1.alloc o) (.slice oo l.length oc) B (.slice aao (AA l).length ac) l):=fun w1 B aao ac hW o=>hW.below ((qD _ _).alloc (qB _) o);by_cases hcl:B6 l claim
  .have hft:Bn l now claim next later=2:=by unfold Bn;rw[if_neg (by simpa using hlen),Fz hc hcl,if_pos (by decide)]
   rw[GZ (by rw[hft];decide),hft];have HM3:Hid (∀w1 B aao ac,Below w.heap.size w w1->BD w1 (.slice oo l.length oc) B (.slice aao (AA l).length ac) l->∀o,Calls qA 51 #[.agg #[.slice oo l.length oc,.slice (some ⟨B,0,none⟩) l.length l.length,.slice aao (AA l).length ac],.slice no now.length nc,.int .i64 claim] (w1.alloc o) fun e w'=>e=.returned (.tuple #[.slice none 0 0,.int .i64 2])/\Below w1.heap.size w1 w'):=fun w1 B aao ac hb hW o=>(HM.out _ B aao ac (hb.alloc hb.size o) (HWA.out _ B aao ac hW o)).mono fun e w' ⟨h1,h2,_⟩=>⟨h2 hcl,((qD _ _).alloc (qB _) o).trans (h1.mono (by simp))⟩;generalize(AA l).length=an at *;rw[<-hlen];generalize now.length=ln at *;generalize l.length=n at *;clear hrd hT hV hL hX hc hcx HM HM2 HWA hcl hft hz h6 hlen
   go_enter Tryz.func75,Tryz.ntmps75;go_wp2_with (first|(go_at_call 45;refine hrd2.mono ?_;rintro e w1 ⟨hb1,B,aao,ac,rfl,HW⟩;have hme:=HM3.out w1 B aao ac hb1 HW.out)|(go_at_call 51;refine(hme _).mono ?_;rintro e w2 ⟨rfl,hb2⟩))
   go_ret2;exact⟨rfl,hb1.trans (hb2.mono hb1.size)⟩
  .have ht1:BF l now claim=0:=EA hc hcl;have hft:Bn l now claim next later=BF l next later:=by unfold Bn;rw[if_neg (by simpa using hlen),ht1];rfl
   have HM3:Hid (∀w1 B aao ac,Below w.heap.size w w1->BD w1 (.slice oo l.length oc) B (.slice aao (AA l).length ac) l->Calls qA 51 #[.agg #[.slice oo l.length oc,.slice (some ⟨B,0,none⟩) l.length l.length,.slice aao (AA l).length ac],.slice no now.length nc,.int .i64 claim] (w1.alloc (.cells #[.slice oo l.length oc,.slice (some ⟨B,0,none⟩) l.length l.length,.slice aao (AA l).length ac] 123)) fun e w'=>∃bH,e=.returned (.tuple #[.slice (some ⟨bH,0,none⟩) l.length l.length,.int .i64 0])/\Below w1.heap.size w1 w'/\w1.heap.size<w'.heap.size/\w'.cell? ⟨w1.heap.size,0,none⟩=some (.slice oo l.length oc)/\w'.cell? ⟨w1.heap.size,1,none⟩=some (.slice (some ⟨B,0,none⟩) l.length l.length)/\w'.cell? ⟨w1.heap.size,2,none⟩=some (.slice aao (AA l).length ac)/\Hid (BD w' (.slice oo l.length oc) B (.slice aao (AA l).length ac) l/\w'.rowIs bH 4 l.length (fun j=>.bool (tru l now claim j)))):=fun w1 B aao ac hb hW=>(HM.out _ B aao ac (hb.alloc hb.size _) (HWA.out _ B aao ac hW _)).mono fun e w' ⟨h1,_,h3⟩=>by
    obtain⟨bH,he,hr⟩:=h3 hcl;have h1':Below (w1.heap.size+1) (w1.alloc (.cells #[.slice oo l.length oc,.slice (some ⟨B,0,none⟩) l.length l.length,.slice aao (AA l).length ac] 123)) w':=by simpa using h1
    have hb':Below w1.heap.size w1 w':=((qD _ _).alloc (qB _) _).trans (h1'.mono (vC _));refine⟨bH,he,hb',by have:=h1'.size;simp at this;omega,(h1'.cell (p:=⟨w1.heap.size,0,none⟩) (qY _)).trans (by simp[go_sem]),(h1'.cell (p:=⟨w1.heap.size,1,none⟩) (qY _)).trans (by simp[go_sem]),(h1'.cell (p:=⟨w1.heap.size,2,none⟩) (qY _)).trans (by simp[go_sem]),hW.below hb',hr⟩
   by_cases hcl2:B6 l later
   .have hft2:Bn l now claim next later=2:=by rw[hft,Fz hcx hcl2]
    rw[GZ (by rw[hft2];decide),hft2];have HM4:Hid (∀w1 B aao ac,Below w.heap.size w w1->BD w1 (.slice oo l.length oc) B (.slice aao (AA l).length ac) l->Calls qA 51 #[.agg #[.slice oo l.length oc,.slice (some ⟨B,0,none⟩) l.length l.length,.slice aao (AA l).length ac],.slice xo next.length xc,.int .i64 later] w1 fun e w'=>e=.returned (.tuple #[.slice none 0 0,.int .i64 2])/\Below w1.heap.size w1 w'):=fun w1 B aao ac hb hW=>(HM2.out _ B aao ac hb hW).mono fun e w' ⟨h1,h2,_⟩=>⟨h2 hcl2,h1⟩;generalize(AA l).length=an at *;rw[<-hlen]at HM4⊢;generalize now.length=ln at *;generalize hnn:l.length=n at *;clear hrd hT hV hL hX hc hcx HM HM2 HWA hcl hcl2 hft hft2 ht1 hz h6 hlen hnn
    go_enter Tryz.func75,Tryz.ntmps75;go_wp2_with (first|(go_at_call 45;refine hrd2.mono ?_;rintro e w1 ⟨hb1,B,aao,ac,rfl,HW⟩;have hme:=HM3.out w1 B aao ac hb1 HW.out)|(go_at_call 51;refine hme.mono ?_;clear hme;rintro e w2 ⟨bH,rfl,hb2,hs2,d0,d1,d2,HW2⟩;have hb12:=hb1.trans (hb2.mono hb1.size);have hme2:=HM4.out w2 B aao ac hb12 HW2.out.1)|(go_at_call 51;refine hme2.mono ?_;rintro e w3 ⟨rfl,hb3⟩))
    go_ret2;exact⟨rfl,hb12.trans (hb3.mono hb12.size)⟩
   .have hft2:Bn l now claim next later=0:=by rw[hft,EA hcx hcl2]
    have HM4:Hid (∀w1 B aao ac,Below w.heap.size w w1->BD w1 (.slice oo l.length oc) B (.slice aao (AA l).length ac) l->Calls qA 51 #[.agg #[.slice oo l.length oc,.slice (some ⟨B,0,none⟩) l.length l.length,.slice aao (AA l).length ac],.slice xo next.length xc,.int .i64 later] w1 fun e w'=>∃bN,e=.returned (.tuple #[.slice (some ⟨bN,0,none⟩) l.length l.length,.int .i64 0])/\Below w1.heap.size w1 w'/\Hid (w'.rowIs bN 4 l.length (fun j=>.bool (tru l next later j)))):=fun w1 B aao ac hb hW=>(HM2.out _ B aao ac hb hW).mono fun e w' ⟨h1,_,h3⟩=>by
     obtain⟨bN,he,hr⟩:=h3 hcl2;exact⟨bN,he,h1,hr⟩
    have HYes:Hid (Fol l (tru l now claim) (tru l next later)->A8 l now claim next later=true):=QJ hft2;have HNot:Hid (¬Fol l (tru l now claim) (tru l next later)->A8 l now claim next later=false):=QH;have HFol:Hid (Fol l (tru l now claim) (tru l next later)↔∀p,p<l.length->Af (l.getD p (0,0)).1=true->tru l now claim p=EP l (tru l now claim) (tru l next later) p):=Iff.rfl;have HCo:Hid (∀w2 B bH bN aao ac p,BD w2 (.slice oo l.length oc) B (.slice aao (AA l).length ac) l->w2.rowIs bH 4 l.length (fun j=>.bool (tru l now claim j))->w2.rowIs bN 4 l.length (fun j=>.bool (tru l next later j))->p<l.length->Af (l.getD p (0,0)).1=true->Calls qA 104 #[.agg #[.slice oo l.length oc,.slice (some ⟨B,0,none⟩) l.length l.length,.slice aao (AA l).length ac],.int .i64 (p:Int),.slice (some ⟨bH,0,none⟩) l.length l.length,.slice (some ⟨bN,0,none⟩) l.length l.length] w2 fun e w'=>e=.returned (.bool (EP l (tru l now claim) (tru l next later) p))/\Below w2.heap.size w2 w'):=fun w2 B bH bN aao ac p hW hr hr2 hp hk=>by
     obtain⟨b,off,cap,hv,_⟩:=id hW;injection hv with e1 e2 e3;subst e1 e3;exact PH b off l.length oc B bH bN l _ _ p _ aao _ ac w2 (MR hW hz hr hp hk) (fun j hj=>hr2.cell hj) hr2.lt
    have HG:Hid (∀w2 B aao ac k,BD w2 (.slice oo l.length oc) B (.slice aao (AA l).length ac) l->k<(AA l).length->∃p:Nat,(∃ab aoff,aao=some ⟨ab,aoff,none⟩/\ab<w2.heap.size/\w2.cell? ⟨ab,aoff+k,none⟩=some (.int .i64 (p:Int)))/\p<l.length/\Af (l.getD p (0,0)).1=true/\(AN l p).length=k):=fun w2 B aao ac k hW hk=>by
     obtain⟨_,_,_,_,_,_,_,ao',ac',hsl,hai⟩:=hW;injection hsl with e1 e2 e3;subst e1;obtain⟨ab,aoff,rfl,habl,haat⟩:=hai (by intro h;rw[h]at hk;simp at hk);obtain⟨p,h1,h2,h3,h4⟩:=GD l l.length k hk;have h1':(AA l).getD k 0=(p:Int):=h1;exact⟨p,⟨ab,aoff,rfl,habl,by rw[haat k hk,h1']⟩,h2,h3,h4⟩
    have HLt:Hid (∀p,p<l.length->Af (l.getD p (0,0)).1=true->(AN l p).length<(AA l).length):=fun p hp hk=>EL l hp hk;have HUq:Hid (∀p q,Af (l.getD p (0,0)).1=true->Af (l.getD q (0,0)).1=true->(AN l p).length=(AN l q).length->p=q):=fun p q h1 h2 he=>by
     rcases Nat.lt_trichotomy p q with h|h|h
     .have:=EL l h h1;omega
     .exact h
     .have:=EL l h h2;omega
    rw[hft2];generalize A8 l now claim next later=fr at *;generalize EP l (tru l now claim) (tru l next later)=cm at *;generalize Fol l (tru l now claim) (tru l next later)=FP at *;generalize tru l now claim=tn at *;generalize tru l next later=tx at *;obtain⟨an,han⟩:∃an,an=(AA l).length:=⟨_,rfl⟩
    rw[<-han]at hrd2 HM3 HM4 HCo HG HLt h6;rw[<-hlen]at HM4⊢;generalize now.length=ln at *;generalize hnn:l.length=n at *;clear hrd hT hV hL hX hc hcx HM HM2 HWA hcl hcl2 hft hft2 ht1 hz hlen hnn han
    go_enter Tryz.func75,Tryz.ntmps75;go_wp2_with (first|(go_at_call 45;refine hrd2.mono ?_;rintro e w1 ⟨hb1,B,aao,ac,rfl,HW⟩;have hme:=HM3.out w1 B aao ac hb1 HW.out)|(go_at_call 51;refine hme.mono ?_;clear hme;rintro e w2 ⟨bH,rfl,hb2,hs2,d0,d1,d2,HW2⟩;have hb12:=hb1.trans (hb2.mono hb1.size);have hme2:=HM4.out w2 B aao ac hb12 HW2.out.1)|(go_at_call 51;refine hme2.mono ?_;clear hme2;rintro e w3 ⟨bN,rfl,hb3,HN3⟩;have g0:=(hb3.cell (p:=⟨w1.heap.size,0,none⟩) hs2).trans d0;have g1:=(hb3.cell (p:=⟨w1.heap.size,1,none⟩) hs2).trans d1;have g2:=(hb3.cell (p:=⟨w1.heap.size,2,none⟩) hs2).trans d2))
    have hb13:=hb12.trans (hb3.mono hb12.size);have hs3:=qE hs2 hb3.size;have HW3:Hid (BD w3 (.slice oo n oc) B (.slice aao an ac) l/\w3.rowIs bH 4 n (fun j=>.bool (tn j))):=⟨HW2.out.1.below hb3,B3 HW2.out.2 hb3⟩;clear hrd2 HM3 HM4 HW HW2 d0 d1 d2;go_loopw [56] (fun i wr=>∃k:Nat,k<=an/\i=.int .i64 (k:Int)/\Hid (∀p,p<n->Af (l.getD p (0,0)).1=true->(AN l p).length<k->tn p=cm p)/\Hid (Below w3.heap.size w3 wr)) (fun i _=>an-(intOf i).toNat)
    case atStart=>exact⟨0,qJ _,rfl,fun p _ _ h=>absurd h (Nat.not_lt_zero _),qD _ _⟩
    case round=>
     obtain⟨k,hk,rfl,HAll,HBel⟩:=hrel;have hbel:=HBel.out;by_cases hlt:k<an
     .have hWr:=HW3.out.1.below hbel;obtain⟨p,⟨ab,aoff,rfl,habl,hca⟩,hpn,hpk,hpi⟩:=HG.out wr B aao ac k hWr hlt;have hco:=HCo.out;have HSt:Hid (∀w',Below wr.heap.size wr w'->w'.cell? ⟨w1.heap.size,0,none⟩=some (.slice oo n oc)/\w'.cell? ⟨w1.heap.size,1,none⟩=some (.slice (some ⟨B,0,none⟩) n n)/\w'.cell? ⟨w1.heap.size,2,none⟩=some (.slice (some ⟨ab,aoff,none⟩) an ac)/\w'.cell? ⟨bH,p,none⟩=some (.bool (tn p))/\Below wr.heap.size wr w'):=fun w' hb=>by
       have hbw:=hbel.trans (hb.mono hbel.size);have hr:=B3 HW3.out.2 hbw;exact⟨(hbw.cell (p:=⟨w1.heap.size,0,none⟩) hs3).trans g0,(hbw.cell (p:=⟨w1.heap.size,1,none⟩) hs3).trans g1,(hbw.cell (p:=⟨w1.heap.size,2,none⟩) hs3).trans g2,hr.cell hpn,hb⟩
      have hcc:=fun w' (hb:Below wr.heap.size wr w')=>HCo.out w' B bH bN _ ac p (hWr.below hb) (B3 (B3 HW3.out.2 hbel) hb) (B3 (B3 HN3.out hbel) hb) hpn hpk;have hS:=HSt.out;have hB0:Below wr.heap.size wr wr:=qD _ _;have HNext:Hid (tn p=cm p->∀q,q<n->Af (l.getD q (0,0)).1=true->(AN l q).length<k+1->tn q=cm q):=fun he q hq hqk hql=>by
       by_cases h:(AN l q).length<k
       .exact HAll.out q hq hqk h
       .have hqp:q=p:=HUq.out q p hqk hpk (by omega);rw[hqp];exact he
      have HBad:Hid (tn p≠cm p->fr=false):=fun h=>HNot.out fun hf=>h (HFol.out.1 hf p hpn hpk);have hp0:(0:Int)<=(p:Int):=Int.natCast_nonneg _;have hpI:(p:Int)<(n:Int):=by omega
      generalize tn p=tv at *;generalize cm p=cv at *;clear HG HCo HAll HNot HYes HFol HLt HUq hco HSt hWr hpk hpi
      by_cases htv:tv=cv
      .have HNx:=(show Hid _ from HNext.out htv);subst htv;clear HNext HBad;go_wp2_with fail
       go_region_held3 (fun w'=>w'.cell? ⟨w1.heap.size,0,none⟩=some (.slice oo n oc)/\w'.cell? ⟨w1.heap.size,1,none⟩=some (.slice (some ⟨B,0,none⟩) n n)/\w'.cell? ⟨w1.heap.size,2,none⟩=some (.slice (some ⟨ab,aoff,none⟩) an ac)/\w'.cell? ⟨bH,p,none⟩=some (.bool tv)/\Below wr.heap.size wr w')
        (exact hS _ (by first|exact hB0|exact hB0.drew|exact hB0.drew.trans hb4))
        (first|(go_at_call 104;refine(hcc _ hB0.drew).mono ?_;rintro e w4 ⟨rfl,hb4⟩))
       go_wp2_with fail
       have hbf:=hbel.trans ((hB0.drew.trans hb4).mono hbel.size);exact⟨⟨k+1,hlt,by first|rfl|simp,HNx.out,hbf⟩,by simp[intOf];omega⟩
      .have HF:=(show Hid _ from HBad.out htv);clear HNext HBad;cases tv<;>cases cv
       .exact absurd rfl htv
       .go_wp2_with fail
        go_region_held3 (fun w'=>w'.cell? ⟨w1.heap.size,0,none⟩=some (.slice oo n oc)/\w'.cell? ⟨w1.heap.size,1,none⟩=some (.slice (some ⟨B,0,none⟩) n n)/\w'.cell? ⟨w1.heap.size,2,none⟩=some (.slice (some ⟨ab,aoff,none⟩) an ac)/\w'.cell? ⟨bH,p,none⟩=some (.bool false)/\Below wr.heap.size wr w')
         (exact hS _ (by first|exact hB0|exact hB0.drew|exact hB0.drew.trans hb4))
         (first|(go_at_call 104;refine(hcc _ hB0.drew).mono ?_;rintro e w4 ⟨rfl,hb4⟩))
        go_wp2_with fail
        have hbf:=hbel.trans ((hB0.drew.trans hb4).mono hbel.size);go_ret2;rw[HF.out];exact⟨rfl,hb13.trans (hbf.mono hb13.size)⟩
       .go_wp2_with fail
        go_region_held3 (fun w'=>w'.cell? ⟨w1.heap.size,0,none⟩=some (.slice oo n oc)/\w'.cell? ⟨w1.heap.size,1,none⟩=some (.slice (some ⟨B,0,none⟩) n n)/\w'.cell? ⟨w1.heap.size,2,none⟩=some (.slice (some ⟨ab,aoff,none⟩) an ac)/\w'.cell? ⟨bH,p,none⟩=some (.bool true)/\Below wr.heap.size wr w')
         (exact hS _ (by first|exact hB0|exact hB0.drew|exact hB0.drew.trans hb4))
         (first|(go_at_call 104;refine(hcc _ hB0.drew).mono ?_;rintro e w4 ⟨rfl,hb4⟩))
        go_wp2_with fail
        have hbf:=hbel.trans ((hB0.drew.trans hb4).mono hbel.size);go_ret2;rw[HF.out];exact⟨rfl,hb13.trans (hbf.mono hb13.size)⟩
       .exact absurd rfl htv
     .obtain rfl:k=an:=by omega
      have HFr:Hid (fr=true):=HYes.out (HFol.out.2 fun p hp hpk=>HAll.out p hp hpk (HLt.out p hp hpk));clear HG HCo HAll HNot HYes HFol HLt HUq;go_wp2_with fail
      go_ret2;rw[HFr.out];exact⟨rfl,hb13.trans (hbel.mono hb13.size)⟩
 .have hft:Bn l now claim next later=Ab now.length l:=by unfold Bn;rw[if_neg (by simpa using hlen),Hk hc,if_pos hc]
  rw[GZ (by rw[hft];exact hc),hft];have hrd2:Calls qA 45 #[.slice oo l.length oc,.int .i64 (now.length:Int)] w fun e w'=>Below w.heap.size w w'/\e=.returned (.tuple #[.agg #[.slice none 0 0,.slice none 0 0,.slice none 0 0],.int .i64 (Ab now.length l)]):=hrd.mono fun e w' ⟨h1,h2,_⟩=>⟨h1,h2 hc⟩;rw[<-hlen];generalize Ab now.length l=x at *;generalize now.length=ln at *;generalize l.length=n at *;clear hrd hT hV hL hX hft hlen
  go_enter Tryz.func75,Tryz.ntmps75;go_wp2_with (go_at_call 45;refine hrd2.mono ?_;rintro e w1 ⟨hb1,rfl⟩)
  go_ret2;exact⟨rfl,by first|exact hb1|exact hb1.alloc hb1.size _⟩
theorem Rd(v nv xv:Value)(l:List (Int×Int))(now next:List Bool)(claim later:Int)(w:World)(hB:0<w.heap.size)(hT:AH w)(hV:OpsV w v l)(hL:BoolsV w nv now)(hX:BoolsV w xv next) :
  Calls qA 75 #[v,nv,.int .i64 claim,xv,.int .i64 later] w fun e w'=>e=.returned (.tuple #[.bool (A8 l now claim next later),.int .i64 (Bn l now claim next later)])/\Below w.heap.size w w':=by
 obtain⟨oo,oc,rfl,_⟩:=id hV;obtain⟨no,nc,rfl,_⟩:=id hL;obtain⟨xo,xc,rfl,_⟩:=id hX;by_cases hlen:now.length=next.length
 .exact QL oo oc l no xo nc xc now next claim later w hB hT hV hL hX hlen
 .have hf:Bn l now claim next later=1:=by unfold Bn;rw[if_pos hlen]
  rw[GZ (by rw[hf];decide),hf];exact QK _ no xo _ nc _ xc claim later oo l.length oc rfl w hlen
def C8(l:List (Int×Int))(p:Nat):Nat:=if(l.getD p (0,0)).1=14 then p+1 else p
def CE(l:List (Int×Int))(g:Nat->Bool):Nat->Int
 |0=>0
 |k+1=>CE l g k+if g (C8 l ((AA l).getD k 0).toNat)=true then 2^k else 0
def Eb(l:List (Int×Int))(g:Nat->Bool):Int:=CE l g (AA l).length
theorem Hd(l:List (Int×Int))(g:Nat->Bool):∀k,0<=CE l g k/\CE l g k<2^k:=by
 intro k;induction k with
 |zero=>simp[CE]
 |succ k ih=>
  have h2:(0:Int)<2^k:=jY (by decide);rw[CE,kT];split<;>omega
theorem M8{l:List (Int×Int)}{g g':Nat->Bool}:∀{k:Nat},CE l g k=CE l g' k->∀j,j<k->g (C8 l ((AA l).getD j 0).toNat)=g' (C8 l ((AA l).getD j 0).toNat)
 |0,_,j,hj=>by omega
 |k+1,h,j,hj=>by
  obtain⟨a0,a1⟩:=Hd l g k;obtain⟨b0,b1⟩:=Hd l g' k;have h2:(0:Int)<2^k:=jY (by decide);rw[CE,CE]at h;rcases(show j<k\/j=k by omega)with h3|h3
  .refine M8 (k:=k) ?_ j h3;split at h<;>split at h<;>omega
  .subst h3;generalize g (C8 l ((AA l).getD j 0).toNat)=x at h⊢;generalize g' (C8 l ((AA l).getD j 0).toNat)=y at h⊢;cases x<;>cases y
   .rfl
   .rw[if_neg (by simp),if_pos rfl]at h;omega
   .rw[if_pos rfl,if_neg (by simp)]at h;omega
   .rfl
theorem OB(l:List (Int×Int)):∀(d n:Nat),∃r,AN l (n+d)=AN l n++r:=by
 intro d;induction d with
 |zero=>exact fun n=>⟨[],by simp⟩
 |succ d ih=>
  intro n;obtain⟨r,hr⟩:=ih n;refine⟨r++(if Af (l.getD (n+d) (0,0)).1=true then [((n+d:Nat):Int)]else []),?_⟩;rw[show n+(d+1)=(n+d)+1 by omega,AN,hr,q7]
theorem OC{l:List (Int×Int)}{p:Nat}(hp:p<l.length)(hb:Af (l.getD p (0,0)).1=true):(AN l p).length<(AA l).length/\(AA l).getD (AN l p).length 0=(p:Int):=by
 have h1:=EL l hp hb;refine⟨h1,?_⟩;obtain⟨r,hr⟩:=OB l (l.length-(p+1)) (p+1);rw[show p+1+(l.length-(p+1))=l.length by omega,GE hb]at hr;unfold AA;rw[hr,q7];simp[qC]
theorem QM{l:List (Int×Int)}{h g g':Nat->Bool}(e:Eb l g=Eb l g'):Fol l h g↔Fol l h g':=by
 have key:∀p,p<l.length->Af (l.getD p (0,0)).1=true->EP l h g p=EP l h g' p:=by
  intro p hp hb;obtain⟨h1,h2⟩:=OC hp hb;have h3:=M8 e (AN l p).length h1;rw[h2]at h3;simp only[Int.toNat_natCast]at h3;unfold EP Cr;unfold C8 at h3;have hk:14<=(l.getD p (0,0)).1/\(l.getD p (0,0)).1<=18:=by simpa[Af]using hb
  by_cases h14:(l.getD p (0,0)).1=14
  .rw[if_pos h14]at h3;rw[h14,h3];simp
  .rw[if_neg h14]at h3;rw[h3];have:(l.getD p (0,0)).1=15\/(l.getD p (0,0)).1=16\/(l.getD p (0,0)).1=17\/(l.getD p (0,0)).1=18:=by omega
   rcases this with h5|h5|h5|h5<;>rw[h5]<;>simp
 refine⟨fun H p hp hb=>?_,fun H p hp hb=>?_⟩
 .rw[H p hp hb,key p hp hb]
 .rw[H p hp hb,key p hp hb]
theorem Il:(qA.info? 75).map (fun i=>(i.zero,i.size,i.bytes))=some (some (.agg #[.int .i64 0,.int .i64 0]),2,16):=by kernel_rfl
def SpO(w:World)(base:Nat)(v:Value)(l:List (Int×Int)):Prop:=w.ownsRow base 75 2 v l.length (flat l)
theorem SpO.nil(w:World)(base:Nat):SpO w base (.slice none 0 0) []:=World.ownsRow_nil _ _ _ _
theorem SpO.later{w w':World}{base B:Nat}{v:Value}{l:List (Int×Int)}(h:SpO w base v l)(hb:Below B w w')(hB:w.heap.size<=B):SpO w' base v l:=Aq h hb hB
theorem SpO.shape{w:World}{base:Nat}{v:Value}{l:List (Int×Int)}(h:SpO w base v l):∃ao cap,v=.slice ao l.length cap:=A2 h
def SpV(w:World)(v:Value)(l:List (Int×Int)):Prop:=∃ao cap,v=.slice ao l.length cap/\(l≠[]->∃b off,ao=some ⟨b,off,none⟩/\b<w.heap.size/\BO w b off l)
theorem SpV.nil(w:World):SpV w (.slice none 0 0) []:=⟨none,0,rfl,fun h=>absurd rfl h⟩
theorem SpV.below{w w':World}{v:Value}{l:List (Int×Int)}(h:SpV w v l)(hb:Below w.heap.size w w'):SpV w' v l:=by
 obtain⟨ao,cap,rfl,h⟩:=h;refine⟨ao,cap,rfl,fun hne=>?_⟩;obtain⟨b,off,rfl,hlt,hat⟩:=h hne;exact⟨b,off,rfl,qE hlt hb.size,fun i hi=>⟨(hb.cell (p:=⟨b,_,none⟩) hlt).trans (hat i hi).1,(hb.cell (p:=⟨b,_,none⟩) hlt).trans (hat i hi).2⟩⟩
theorem SpO.v{w:World}{base:Nat}{v:Value}{l:List (Int×Int)}(h:SpO w base v l):SpV w v l:=by
 rcases h.2 with⟨rfl,h0⟩|⟨g,cap,cur,rfl,hb,hg,hnc,hcm,hcs,htake⟩
 .have:l=[]:=by simpa using h0
  subst this;exact SpV.nil w
 .refine ⟨_,cap,rfl,fun _=>⟨g,0,rfl,(qG.1 hg).1,fun i hi=>?_⟩⟩;obtain⟨f0,f1⟩:=Ex l i hi;rw[World.ownsRow.cellAt h _ (by omega),World.ownsRow.cellAt h _ (by omega)];simpa using⟨f0,f1⟩
section
variable{W:World}
theorem MY{ops:Array Oper}{rest:List Oper}{o:Oper}{a:Act}{Q:Exit->Act->World->Prop}(y z:Int)(hgd:o.guard=none)(s x:Operand)
  (ho:o.op=.call { callee:=.builtin .append,args:=#[s,x],argTypes:=#[37,37]})
  (base n cap:Nat) (vo:Option Addr) (l:List (Int×Int)) (hl:l.length=n) (hs:a.eval s=.slice vo n cap) (hown:SpO W base (.slice vo n cap) l) (hx:a.eval x=.slice (some ⟨W.heap.size,0,none⟩) 1 1)
  (hsz:(n+1)*16<=140737488355328) (hbase:base<=W.heap.size)
  (h:∀vo' cap' w',SpO w' base (.slice vo' (n+1) cap') (l++[(y,z)])->Below base W w'->(W.alloc (.cells #[.int .i64 y,.int .i64 z] 75)).grownBy w' (Value.slice vo n cap).ownBlock->wpList qA ops Q rest (a.put o.dst (.slice vo' (n+1) cap')) w'):wpList qA ops Q (o::rest) a (W.alloc (.cells #[.int .i64 y,.int .i64 z] 75)):=by
 subst hl;obtain⟨i0,hi,hz0,hz1,hz2⟩:=info_parts Il;have hown':W.ownsRow base 75 2 (.slice vo l.length cap) l.length (flat l):=hown;refine wpList_append_own _ hgd s x 37 ho base 75 i0 (.agg #[.int .i64 0,.int .i64 0]) 2 16 Tryz.underlying37 hi hz0 hz1 hz2 rfl (by decide) (.slice vo l.length cap) l.length (flat l) hs (hown'.alloc _) ⟨W.heap.size,0,none⟩ 1 1 [.int .i64 y,.int .i64 z] hx rfl (DI _ _ _ _) (by intro u hu;simp at hu;rcases hu with rfl|rfl<;>rfl) (by unfold maxLen;omega) hsz (qI hbase (by simp)) ?_;intro v' w4 hown' hgrow _;obtain⟨a4,c4,rfl⟩:=A2 hown';refine h a4 c4 w4 ?_ (((qD base W).alloc hbase _).grown hgrow (qI hbase (by simp)) (fun q hq=>(World.ownsRow.lt hown q hq).1)) hgrow;unfold SpO;rw[FZ,List.length_append];exact hown'
end
open Go.ChangeShapes Go.WideShapes Go.ChangeAt Go.RowKit Go.Deep Go.Maps
open Terms Tm
theorem NQ(x:Int)(w:World) :
  Calls qA 97 #[.int .i64 x] w fun e w'=>e=.returned (.bool (decide (¬(-1000000<=x/\x<=1000000))))/\w'=w:=by
 by_cases h1:x < -1000000
 .rw[show decide (¬(-1000000<=x/\x<=1000000))=true by simp;omega];go_enter Tryz.func97,Tryz.ntmps97;go_wp2;all_goals go_ret
  all_goals exact⟨rfl,rfl⟩
 .by_cases h2:1000000<x
  .rw[show decide (¬(-1000000<=x/\x<=1000000))=true by simp;omega];go_enter Tryz.func97,Tryz.ntmps97;go_wp2;all_goals go_ret
   all_goals exact⟨rfl,rfl⟩
  .rw[show decide (¬(-1000000<=x/\x<=1000000))=false by simp;omega];go_enter Tryz.func97,Tryz.ntmps97;go_wp2;all_goals go_ret
   all_goals exact⟨rfl,rfl⟩
theorem Jr(c:Bool)(w:World) :
  Calls qA 128 #[.bool c] w fun e w'=>e=.returned (.int .i64 (if c=true then 1 else 0))/\w'=w:=by
 cases c
 all_goals
  go_enter Tryz.func128,Tryz.ntmps128;go_wp2;all_goals go_ret
  all_goals exact⟨rfl,rfl⟩
def Dd(k:Int):Nat:=if k=3 then 124 else if k=4 then 125 else if k=5 then 126 else if k=6 then 127 else if k=7 then 129 else if k=8 then 130 else 131
theorem KK{x:Int}(h:-1000000<=x/\x<=1000000):x.natAbs<=1000000:=by omega
theorem SM{x y:Int}(hx:-1000000<=x/\x<=1000000)(hy:-1000000<=y/\y<=1000000):-1000000000000<=x*y/\x*y<=1000000000000:=by
 have h:=Nat.mul_le_mul (KK hx) (KK hy);rw[<-Int.natAbs_mul]at h;omega
theorem JL(k x y:Int)(w:World)(h3:3<=k)(h9:k<=9)(hx:-1000000<=x/\x<=1000000)(hy:-1000000<=y/\y<=1000000)(ht:8<=k->(x=0\/x=1)/\(y=0\/y=1)) :
  Calls qA (Dd k) #[.int .i64 x,.int .i64 y] w fun e w'=>e=.returned (.int .i64 (bin k x y))/\w'=w:=by
 have hk:k=3\/k=4\/k=5\/k=6\/k=7\/k=8\/k=9:=by omega
 have hm:=SM hx hy;obtain⟨hm1,hm2⟩:=hm;obtain⟨hx1,hx2⟩:=hx;obtain⟨hy1,hy2⟩:=hy;clear h3 h9;rcases hk with rfl|rfl|rfl|rfl|rfl|rfl|rfl
 .show Calls qA 124 _ _ _;clear ht;go_enter Tryz.func124,Tryz.ntmps124;go_wp2;go_ret;exact⟨rfl,rfl⟩
 .show Calls qA 125 _ _ _;clear ht;go_enter Tryz.func125,Tryz.ntmps125;go_wp2;go_ret;exact⟨rfl,rfl⟩
 .show Calls qA 126 _ _ _;clear ht;go_enter Tryz.func126,Tryz.ntmps126;go_wp2;go_ret;exact⟨rfl,rfl⟩
 .show Calls qA 127 _ _ _;clear ht;have htr:=fun w=>Jr (x == y) w;have hb:bin 6 x y=if(x == y)=true then 1 else 0:=by simp[bin]
  rw[<-hb]at htr;generalize bin 6 x y=z at htr⊢;clear hb;go_enter Tryz.func127,Tryz.ntmps127;go_wp2_with (go_at_call 128;refine(htr _).mono ?_;rintro e w1 ⟨rfl,rfl⟩)
  go_ret;exact⟨rfl,rfl⟩
 .show Calls qA 129 _ _ _;clear ht;by_cases hc:x<y
  .have htr:=fun w=>Jr true w;have hb:bin 7 x y=1:=by simp[bin,hc]
   rw[hb];clear hb;go_enter Tryz.func129,Tryz.ntmps129;go_wp2_with (go_at_call 128;refine(htr _).mono ?_;rintro e w1 ⟨rfl,rfl⟩)
   go_ret;exact⟨rfl,rfl⟩
  .have htr:=fun w=>Jr false w;have hb:bin 7 x y=0:=by simp[bin,hc]
   rw[hb];clear hb;go_enter Tryz.func129,Tryz.ntmps129;go_wp2_with (go_at_call 128;refine(htr _).mono ?_;rintro e w1 ⟨rfl,rfl⟩)
   go_ret;exact⟨rfl,rfl⟩
 .show Calls qA 130 _ _ _;obtain⟨ha,hb⟩:=ht (by decide);clear ht hm1 hm2 hx1 hx2 hy1 hy2;rcases ha with rfl|rfl<;>rcases hb with rfl|rfl;all_goals
   go_enter Tryz.func130,Tryz.ntmps130;go_wp2;go_ret;exact⟨rfl,rfl⟩
 .show Calls qA 131 _ _ _;obtain⟨ha,hb⟩:=ht (by decide);clear ht hm1 hm2 hx1 hx2 hy1 hy2;rcases ha with rfl|rfl<;>rcases hb with rfl|rfl;all_goals
   go_enter Tryz.func131,Tryz.ntmps131;go_wp2;go_ret;exact⟨rfl,rfl⟩
def DC:Value->Option (DataW Unit×List MemPlace)
 | .func (.func f) first cap=>if first=#[]/\cap=#[]then some (.lit (.int .i64 f),[])else none
 | .nilFunc=>some (.nil,[])
 |_=>none
theorem QG{v:Value}{f:Nat}{ps:List MemPlace}(h:DC v=some (.lit (.int .i64 f),ps)):v=.func (.func f) #[] #[]:=by
 unfold DC at h;split at h
 .split at h
  .rename_i hc;obtain⟨rfl,rfl⟩:=hc;simp at h;rw[Int.ofNat.inj h.1]
  .simp at h
 .simp at h
 .simp at h
theorem Ef{H:Type}{P:Program}(w:World){ops:Array Oper}{rest:List Oper}{o:Oper}{a:Act}{Q:Exit->Act->World->Prop}
  (hg:o.guard=none) (m x v:Operand) (t:TypeId) (hop:o.op=Op.insert t m x v)
  (k e:TypeId) (K:Keyed P k) (ht:P.underlying t=some (.map k e)) (R:Value->Option (DataW H×List MemPlace)) (b n:Nat) (D:DataW H)
  (hm:a.eval m=.map (some b)) (hown:w.ownsMap P k R b n D) (hn:n<maxLen) (key val:Value) (kl:Lit) (hx:a.eval x=key) (hv:a.eval v=val) (hkey:keyOf P k key=some kl)
  (d:DataW H) (ps:List MemPlace) (hval:R val=some (d,ps))
  (hK:∀w',w'.ownsMap P k R b (n+1) (D.put kl d)->w.grownBy w' (some b)->wpList P ops Q rest (a.put o.dst undef) w') :
  wpList P ops Q (o::rest) a w:=by
 refine wpList_plain hg fun K' hK'=>?_;obtain⟨w',hrun,r1,r2⟩:=hown.update K ht hn hkey hval;unfold Oper.wp;simp[execOp,hop,hm,hx,hv,hrun,Result.andThen];exact hK' _ _ (hK w' r1 r2)
def JK:Nat->DataW Unit
 |0=>.map []
 |n+1=>(JK n).put (.int .i64 ((n:Int)+3)) (.lit (.int .i64 (Dd ((n:Int)+3))))
def Do(w:World)(M:Nat):Prop:=w.ownsMap qA 3 DC M 7 (JK 7)
theorem Do.later{w w':World}{M:Nat}(h:Do w M)(hb:Below w.heap.size w w'):Do w' M:=by
 have hlt:=World.ownsMap.lt h;obtain⟨es,clock,h1,h2⟩:=h;exact⟨es,clock,(hb.block M hlt).trans h1,h2⟩
theorem Dy:Keyed qA 3:=int_keyed Tryz.underlying3
theorem Dx(k:Int)(h:3<=k/\k<=9):keyOf qA 3 (.int .i64 k)=some (.int .i64 k):=keyOf_int_mk Tryz.underlying3 (WalkArith.wf_i64 (by omega))
theorem Do.look{w:World}{M:Nat}(h:Do w M){k:Int}(h3:3<=k)(h9:k<=9) :
  (Instr.lookup 200 (.map (some M)) (.int .i64 k) false).run qA w=.ok (.func (.func (Dd k)) #[] #[]) w:=by
 obtain⟨v,ps,hrun,hv⟩:=World.ownsMap.lookup h Dy Tryz.underlying200 (z:=.nilFunc) (by kernel_rfl) (zd:=.nil) (zp:=[]) rfl (Dx k ⟨h3,h9⟩);have hat:(JK 7).atKey (.int .i64 k) .nil=.lit (.int .i64 (Dd k)):=by
  have hk:k=3\/k=4\/k=5\/k=6\/k=7\/k=8\/k=9:=by omega
  rcases hk with rfl|rfl|rfl|rfl|rfl|rfl|rfl<;>rfl
 rw[hat]at hv;rw[hrun,QG hv]
theorem TG(w:World) :
  Calls qA 98 #[] w fun e w'=>∃M,w.heap.size<=M/\e=.returned (.map (some M))/\Do w' M/\Below w.heap.size w w':=by
 have hmm:=@run_makeMap qA;have h0:=World.ownsMap_made w qA 3 DC;go_enter Tryz.func98,Tryz.ntmps98;go_wp2_with (first
  |(refine Ef _ rfl _ _ _ 200 rfl 3 54 Dy Tryz.underlying200 DC w.heap.size 6 _ rfl h6 (by unfold maxLen;omega) _ _ _ rfl rfl (Dx 9 (by omega)) _ [] rfl ?_;intro w7 h7 g7)
  |(refine Ef _ rfl _ _ _ 200 rfl 3 54 Dy Tryz.underlying200 DC w.heap.size 5 _ rfl h5 (by unfold maxLen;omega) _ _ _ rfl rfl (Dx 8 (by omega)) _ [] rfl ?_;intro w6 h6 g6)
  |(refine Ef _ rfl _ _ _ 200 rfl 3 54 Dy Tryz.underlying200 DC w.heap.size 4 _ rfl h4 (by unfold maxLen;omega) _ _ _ rfl rfl (Dx 7 (by omega)) _ [] rfl ?_;intro w5 h5 g5)
  |(refine Ef _ rfl _ _ _ 200 rfl 3 54 Dy Tryz.underlying200 DC w.heap.size 3 _ rfl h3 (by unfold maxLen;omega) _ _ _ rfl rfl (Dx 6 (by omega)) _ [] rfl ?_;intro w4 h4 g4)
  |(refine Ef _ rfl _ _ _ 200 rfl 3 54 Dy Tryz.underlying200 DC w.heap.size 2 _ rfl h2 (by unfold maxLen;omega) _ _ _ rfl rfl (Dx 5 (by omega)) _ [] rfl ?_;intro w3 h3 g3)
  |(refine Ef _ rfl _ _ _ 200 rfl 3 54 Dy Tryz.underlying200 DC w.heap.size 1 _ rfl h1 (by unfold maxLen;omega) _ _ _ rfl rfl (Dx 4 (by omega)) _ [] rfl ?_;intro w2 h2 g2)
  |(refine Ef _ rfl _ _ _ 200 rfl 3 54 Dy Tryz.underlying200 DC w.heap.size 0 _ rfl h0 (by unfold maxLen;omega) _ _ _ rfl rfl (Dx 3 (by omega)) _ [] rfl ?_;intro w1 h1 g1))
 go_ret;have hb0:Below w.heap.size w (w.alloc (.map #[] 0)):=(qD _ _).alloc (qB _) _;have hb:∀{x y:World},Below w.heap.size w x->x.grownBy y (some w.heap.size)->Below w.heap.size w y:=fun h g=>h.grown g h.size (fun j hj=>by cases hj;exact qB _);exact⟨w.heap.size,qB _,rfl,h7,hb (hb (hb (hb (hb (hb (hb hb0 g1) g2) g3) g4) g5) g6) g7⟩
structure WorkAt(w:World)(b off B:Nat)(eao:Option Addr)(M:Nat)(t:Tm)(env:List Int):Prop where
 ob:b<w.heap.size
 ops:BO w b off t.ops
 ends : w.rowIs B 3 t.size (fun q => .int .i64 (Al (t.ops.map Prod.fst) q))
 env:∀i,i<env.length->∃eb eoff,eao=some ⟨eb,eoff,none⟩/\eb<w.heap.size/\w.cell? ⟨eb,eoff+i,none⟩=some (.int .i64 (env.getD i 0))
 pairs:Do w M
theorem WorkAt.later{w w':World}{b off B:Nat}{eao:Option Addr}{M:Nat}{t:Tm}{env:List Int}(h:WorkAt w b off B eao M t env)(hb:Below w.heap.size w w'):WorkAt w' b off B eao M t env:=by
 obtain⟨h1,h2,h3,h4,h5⟩:=h;refine⟨qE h1 hb.size,h2.below hb h1,h3.of_block (hb.block B h3.lt),fun i hi=>?_,h5.later hb⟩;obtain⟨eb,eoff,e1,e2,e3⟩:=h4 i hi;exact⟨eb,eoff,e1,qE e2 hb.size,(hb.cell (p:=⟨eb,eoff+i,none⟩) e2).trans e3⟩
def BN(r:Option Int)(w:World)(e:Ending)(w':World):Prop:=
 Below w.heap.size w w'/\match r with
  |some x=>e=.returned (.int .i64 x)
  |none=>e=.panicked [{ v:=.iface 42 (.int .i64 8),recovered:=false}]
abbrev workV(b off n cap B:Nat)(eao:Option Addr)(en ecap M:Nat):Value:=.agg #[.slice (some ⟨b,off,none⟩) n cap,.slice (some ⟨B,0,none⟩) n n,.slice eao en ecap,.map (some M)]
theorem OT(b off n cap B:Nat)(eao:Option Addr)(en ecap M place:Nat)(x:Int)(w:World)(hob:b<w.heap.size)(hp:place<n)(c0:w.cell? ⟨b,off+place*2,none⟩=some (.int .i64 1))(c1:w.cell? ⟨b,off+place*2+1,none⟩=some (.int .i64 x)) :
  Calls qA 99 #[workV b off n cap B eao en ecap M,.int .i64 place] w (BN (some x) w):=by
 have hne:¬b=w.heap.size:=by omega
 go_enter Tryz.func99,Tryz.ntmps99;go_wp2_with fail
 go_ret;exact⟨((qD _ _).alloc (qB _) _).alloc (by simp) _,rfl⟩
theorem OU(b off n cap B eb eoff en ecap M place j:Nat)(x:Int)(w:World)(hob:b<w.heap.size)(hp:place<n)(hj:j<en)(c0:w.cell? ⟨b,off+place*2,none⟩=some (.int .i64 2))(c1:w.cell? ⟨b,off+place*2+1,none⟩=some (.int .i64 j))(hbl:eb<w.heap.size)(c2:w.cell? ⟨eb,eoff+j,none⟩=some (.int .i64 x)) :
  Calls qA 99 #[workV b off n cap B (some ⟨eb,eoff,none⟩) en ecap M,.int .i64 place] w (BN (some x) w):=by
 have hne:¬b=w.heap.size:=by omega
 go_enter Tryz.func99,Tryz.ntmps99;go_wp2_with fail
 go_ret;exact⟨((qD _ _).alloc (qB _) _).alloc (by simp) _,rfl⟩
theorem OR(b off n cap B:Nat)(eao:Option Addr)(en ecap M place:Nat)(k:Int)(hk:k=11\/k=12)(w:World)(hob:b<w.heap.size)(hp:place<n)(c0:w.cell? ⟨b,off+place*2,none⟩=some (.int .i64 k))(c1:w.cell? ⟨b,off+place*2+1,none⟩=some (.int .i64 0)) :
  Calls qA 99 #[workV b off n cap B eao en ecap M,.int .i64 place] w (BN (some (if k=11 then 1 else 0)) w):=by
 rcases hk with rfl|rfl
 .rw[if_pos rfl];have hne:¬b=w.heap.size:=by omega
  go_enter Tryz.func99,Tryz.ntmps99;go_wp2_with fail
  go_ret;exact⟨((qD _ _).alloc (qB _) _).alloc (by simp) _,rfl⟩
 .rw[if_neg (by decide)];have hne:¬b=w.heap.size:=by omega
  go_enter Tryz.func99,Tryz.ntmps99;go_wp2_with fail
  go_ret;exact⟨((qD _ _).alloc (qB _) _).alloc (by simp) _,rfl⟩
theorem OS(b off n cap B:Nat)(eao:Option Addr)(en ecap M place:Nat)(r:Option Int)(w:World)(hob:b<w.heap.size)(hp:place<n)(h60:n<=60)(c0:w.cell? ⟨b,off+place*2,none⟩=some (.int .i64 10))(c1:w.cell? ⟨b,off+place*2+1,none⟩=some (.int .i64 0))
  (hr:∀x,r=some x->-1000000<=x/\x<=1000000)
  (hrec:∀w',Below w.heap.size w w'->Calls qA 99 #[workV b off n cap B eao en ecap M,.int .i64 ((place:Int)+1)] w' (BN r w')) :
  Calls qA 99 #[workV b off n cap B eao en ecap M,.int .i64 place] w (BN (r.map (1 - ·)) w):=by
 have hne:¬b=w.heap.size:=by omega
 have hb2:Below w.heap.size w ((w.alloc (.cells #[.slice (some ⟨b,off,none⟩) n cap,.slice (some ⟨B,0,none⟩) n n,.slice eao en ecap,.map (some M)] 203)).alloc (.cells #[.int .i64 10,.int .i64 0] 91)):=((qD _ _).alloc (qB _) _).alloc (by simp) _;have hrec':=hrec _ hb2;have HB2:=(show Hid _ from hb2);clear hrec hb2;cases r with
 |none=>
  go_enter Tryz.func99,Tryz.ntmps99;go_wp2_with (go_at_call 99;refine hrec'.mono ?_;rintro e w1 ⟨hb1,rfl⟩)
  exact⟨rfl,HB2.out.trans (hb1.mono HB2.out.size),rfl⟩
 |some x=>
  obtain⟨hx1,hx2⟩:=hr x rfl;clear hr;go_enter Tryz.func99,Tryz.ntmps99;go_wp2_with (go_at_call 99;refine hrec'.mono ?_;rintro e w1 ⟨hb1,rfl⟩)
  go_ret;exact⟨HB2.out.trans (hb1.mono HB2.out.size),rfl⟩
attribute [local go_sem ↓] Go.wp_at_zero Go.wp_at_succ
theorem TH(k:Int)(h3:3<=k)(h9:k<=9)(args:Array Value)(w:World):(callFunc (Dd k) args).run qA w=.ok (.enter (Dd k) args) w:=by
 have hk:k=3\/k=4\/k=5\/k=6\/k=7\/k=8\/k=9:=by omega
 rcases hk with rfl|rfl|rfl|rfl|rfl|rfl|rfl
 .show (callFunc 124 args).run qA w=.ok (.enter 124 args) w;simp[go_sem]
 .show (callFunc 125 args).run qA w=.ok (.enter 125 args) w;simp[go_sem]
 .show (callFunc 126 args).run qA w=.ok (.enter 126 args) w;simp[go_sem]
 .show (callFunc 127 args).run qA w=.ok (.enter 127 args) w;simp[go_sem]
 .show (callFunc 129 args).run qA w=.ok (.enter 129 args) w;simp[go_sem]
 .show (callFunc 130 args).run qA w=.ok (.enter 130 args) w;simp[go_sem]
 .show (callFunc 131 args).run qA w=.ok (.enter 131 args) w;simp[go_sem]
theorem J2{x:Int}(h1:0<=x)(h2:x<=1000):IntKind.i64.wrap x=x:=by
 simp[IntKind.wrap,IntKind.bits,IntKind.signed];omega
theorem OO(b off n cap B:Nat)(eao:Option Addr)(en ecap M place E1 F:Nat)(k x y z:Int)(w:World)(hob:b<w.heap.size)(hBB:B<w.heap.size)(hp:place+1<n)(P1:Nat)(hP1:P1=place+1)(h60:n<=60)(hk3:3<=k)(hk9:k<=9)(c0:w.cell? ⟨b,off+place*2,none⟩=some (.int .i64 k))(c1:w.cell? ⟨b,off+place*2+1,none⟩=some (.int .i64 0))(cE:w.cell? ⟨B,P1,none⟩=some (.int .i64 E1))
  (hlook:∀w',Below w.heap.size w w'->(Instr.lookup 200 (.map (some M)) (.int .i64 k) false).run qA w'=.ok (.func (.func F) #[] #[]) w')
  (hent:∀args w,(callFunc F args).run qA w=.ok (.enter F args) w)
  (hpair:∀w',Calls qA F #[.int .i64 x,.int .i64 y] w' fun e w''=>e=.returned (.int .i64 z)/\w''=w')
  (hra:∀w',Below w.heap.size w w'->Calls qA 99 #[workV b off n cap B eao en ecap M,.int .i64 P1] w' (BN (some x) w'))
  (hrb:∀w',Below w.heap.size w w'->Calls qA 99 #[workV b off n cap B eao en ecap M,.int .i64 E1] w' (BN (some y) w')) :
  Calls qA 99 #[workV b off n cap B eao en ecap M,.int .i64 place] w (BN (lid z) w):=by
 have hne:¬b=w.heap.size:=by omega
 have hneB:¬B=w.heap.size:=by omega
 have e1:¬k=1:=by omega
 have e2:¬k=2:=by omega
 have e3:¬k=10:=by omega
 have e4:¬k=11:=by omega
 have e5:¬k=12:=by omega
 obtain⟨W2,hW2⟩:∃W2,W2=((w.alloc (.cells #[.slice (some ⟨b,off,none⟩) n cap,.slice (some ⟨B,0,none⟩) n n,.slice eao en ecap,.map (some M)] 203)).alloc (.cells #[.int .i64 k,.int .i64 0] 91)):=⟨_,rfl⟩;have hb2:Below w.heap.size w W2:=by rw[hW2];exact((qD _ _).alloc (qB _) _).alloc (by simp) _
 have hsz:W2.heap.size=w.heap.size+1+1:=by rw[hW2];simp
 have d0:W2.cell? ⟨w.heap.size,0,none⟩=some (.slice (some ⟨b,off,none⟩) n cap):=by rw[hW2];simp[go_sem]
 have d1:W2.cell? ⟨w.heap.size,1,none⟩=some (.slice (some ⟨B,0,none⟩) n n):=by rw[hW2];simp[go_sem]
 have d2:W2.cell? ⟨w.heap.size,2,none⟩=some (.slice eao en ecap):=by rw[hW2];simp[go_sem]
 have d3:W2.cell? ⟨w.heap.size,3,none⟩=some (.map (some M)):=by rw[hW2];simp[go_sem]
 have d4:W2.cell? ⟨w.heap.size+1,0,none⟩=some (.int .i64 k):=by rw[hW2];simp[go_sem]
 have d5:W2.cell? ⟨B,P1,none⟩=some (.int .i64 E1):=(hb2.cell (p:=⟨B,P1,none⟩) hBB).trans cE;have HW2:=(show Hid _ from hW2);have hS:∀w',Below W2.heap.size W2 w'->w'.cell? ⟨w.heap.size,0,none⟩=some (.slice (some ⟨b,off,none⟩) n cap)/\w'.cell? ⟨w.heap.size,1,none⟩=some (.slice (some ⟨B,0,none⟩) n n)/\w'.cell? ⟨w.heap.size,2,none⟩=some (.slice eao en ecap)/\w'.cell? ⟨w.heap.size,3,none⟩=some (.map (some M))/\w'.cell? ⟨w.heap.size+1,0,none⟩=some (.int .i64 k)/\w'.cell? ⟨B,P1,none⟩=some (.int .i64 E1)/\(Instr.lookup 200 (.map (some M)) (.int .i64 k) false).run qA w'=.ok (.func (.func F) #[] #[]) w':=fun w' hw'=>
  ⟨(hw'.cell (p:=⟨w.heap.size,0,none⟩) (by simp only;omega)).trans d0,(hw'.cell (p:=⟨w.heap.size,1,none⟩) (by simp only;omega)).trans d1,(hw'.cell (p:=⟨w.heap.size,2,none⟩) (by simp only;omega)).trans d2,(hw'.cell (p:=⟨w.heap.size,3,none⟩) (by simp only;omega)).trans d3,(hw'.cell (p:=⟨w.heap.size+1,0,none⟩) (by simp only;omega)).trans d4,(hw'.cell (p:=⟨B,P1,none⟩) (by simp only;omega)).trans d5,hlook w' (hb2.trans (hw'.mono hb2.size))⟩
 have hra':∀w',Below W2.heap.size W2 w'->Calls qA 99 #[workV b off n cap B eao en ecap M,.int .i64 P1] w' (BN (some x) w'):=fun w' hw'=>hra w' (hb2.trans (hw'.mono hb2.size));have hrb':∀w',Below W2.heap.size W2 w'->Calls qA 99 #[workV b off n cap B eao en ecap M,.int .i64 E1] w' (BN (some y) w'):=fun w' hw'=>hrb w' (hb2.trans (hw'.mono hb2.size));have hB0:Below W2.heap.size W2 W2:=qD _ _;have HB2:Hid (Below w.heap.size w W2):=hb2;have hp0:place<n:=by omega
 have hi0:(0:Int)<=(P1:Int):=by omega
 have hi1:(P1:Int)<(n:Int):=by omega
 have hpp:(place:Int)+1=(P1:Int):=by omega
 have hwr:IntKind.i64.wrap (P1:Int)=(P1:Int):=J2 (by omega) (by omega);have hwr2:IntKind.i64.wrap ((place:Int)+1)=(P1:Int):=by rw[hpp];exact hwr
 have htg:=fun w=>NQ z w;clear hW2 hb2 hra hrb hlook hP1 hp hsz d0 d1 d2 d3 d4 d5;by_cases hz:-1000000<=z/\z<=1000000
 .rw[show decide (¬(-1000000<=z/\z<=1000000))=false by simpa using hz]at htg;rw[show lid z=some z by unfold lid;rw[if_pos hz]];clear hz;go_enter Tryz.func99,Tryz.ntmps99;go_wp2_with fail
  rw[<-HW2.out];clear c0 c1 cE;go_region_held3 (fun w'=>w'.cell? ⟨w.heap.size,0,none⟩=some (.slice (some ⟨b,off,none⟩) n cap)/\w'.cell? ⟨w.heap.size,1,none⟩=some (.slice (some ⟨B,0,none⟩) n n)/\w'.cell? ⟨w.heap.size,2,none⟩=some (.slice eao en ecap)/\w'.cell? ⟨w.heap.size,3,none⟩=some (.map (some M))/\w'.cell? ⟨w.heap.size+1,0,none⟩=some (.int .i64 k)/\w'.cell? ⟨B,P1,none⟩=some (.int .i64 E1)/\(Instr.lookup 200 (.map (some M)) (.int .i64 k) false).run qA w'=.ok (.func (.func F) #[] #[]) w')
   (exact hS _ (by first|exact hB0|exact hB0.drew|exact hB0.drew.trans hb1|exact(hB0.drew.trans hb1).trans (hb3.mono (hB0.drew.trans hb1).size)))
   (first|(go_at_call_of 99 E1;refine(hrb' _ (hB0.drew.trans hb1)).mono ?_;rintro e w3 ⟨hb3,rfl⟩)|(go_at_call 99;refine(hra' _ hB0.drew).mono ?_;rintro e w1 ⟨hb1,rfl⟩)|(refine(hpair _).mono ?_;rintro e w4 ⟨rfl,rfl⟩))
  all_goals
   go_wp2_with (go_at_call 97;refine(htg _).mono ?_;rintro e w5 ⟨rfl,rfl⟩)
   go_ret;exact⟨HB2.out.trans (((hB0.drew.trans hb1).trans (hb3.mono (hB0.drew.trans hb1).size)).mono HB2.out.size),rfl⟩
 .rw[show decide (¬(-1000000<=z/\z<=1000000))=true by simp;omega]at htg;rw[show lid z=none by unfold lid;rw[if_neg hz]];clear hz;go_enter Tryz.func99,Tryz.ntmps99;go_wp2_with fail
  rw[<-HW2.out];clear c0 c1 cE;go_region_held3 (fun w'=>w'.cell? ⟨w.heap.size,0,none⟩=some (.slice (some ⟨b,off,none⟩) n cap)/\w'.cell? ⟨w.heap.size,1,none⟩=some (.slice (some ⟨B,0,none⟩) n n)/\w'.cell? ⟨w.heap.size,2,none⟩=some (.slice eao en ecap)/\w'.cell? ⟨w.heap.size,3,none⟩=some (.map (some M))/\w'.cell? ⟨w.heap.size+1,0,none⟩=some (.int .i64 k)/\w'.cell? ⟨B,P1,none⟩=some (.int .i64 E1)/\(Instr.lookup 200 (.map (some M)) (.int .i64 k) false).run qA w'=.ok (.func (.func F) #[] #[]) w')
   (exact hS _ (by first|exact hB0|exact hB0.drew|exact hB0.drew.trans hb1|exact(hB0.drew.trans hb1).trans (hb3.mono (hB0.drew.trans hb1).size)))
   (first|(go_at_call_of 99 E1;refine(hrb' _ (hB0.drew.trans hb1)).mono ?_;rintro e w3 ⟨hb3,rfl⟩)|(go_at_call 99;refine(hra' _ hB0.drew).mono ?_;rintro e w1 ⟨hb1,rfl⟩)|(refine(hpair _).mono ?_;rintro e w4 ⟨rfl,rfl⟩))
  all_goals
   go_wp2_with (go_at_call 97;refine(htg _).mono ?_;rintro e w5 ⟨rfl,rfl⟩)
   exact⟨rfl,HB2.out.trans (((hB0.drew.trans hb1).trans (hb3.mono (hB0.drew.trans hb1).size)).mono HB2.out.size),rfl⟩
attribute [local go_sem ↓] Go.wp_at_zero Go.wp_at_succ
theorem Calls.pan{f:FuncId}{args:Array Value}{w:World}{X:Ending->World->Prop}(x:Int)(h:Calls qA f args w (BN none w))
  (hX:∀w',Below w.heap.size w w'->X (.panicked [{ v:=.iface 42 (.int .i64 8),recovered:=false}]) w') (_:∀w',Below w.heap.size w w'->Hid False->X (.returned (.int .i64 x)) w'):Calls qA f args w X:=
 h.mono fun e w' ⟨hb,he⟩=>by subst he;exact hX w' hb
theorem OP(b off n cap B:Nat)(eao:Option Addr)(en ecap M place E1 F:Nat)(k x y z:Int)(w:World)(hob:b<w.heap.size)(hBB:B<w.heap.size)(hp:place+1<n)(P1:Nat)(hP1:P1=place+1)(h60:n<=60)(hk3:3<=k)(hk9:k<=9)(c0:w.cell? ⟨b,off+place*2,none⟩=some (.int .i64 k))(c1:w.cell? ⟨b,off+place*2+1,none⟩=some (.int .i64 0))(cE:w.cell? ⟨B,P1,none⟩=some (.int .i64 E1))
  (hlook:∀w',Below w.heap.size w w'->(Instr.lookup 200 (.map (some M)) (.int .i64 k) false).run qA w'=.ok (.func (.func F) #[] #[]) w')
  (hent:∀args w,(callFunc F args).run qA w=.ok (.enter F args) w)
  (hpair:∀w',Calls qA F #[.int .i64 x,.int .i64 y] w' fun e w''=>e=.returned (.int .i64 z)/\w''=w')
  (hra:∀w',Below w.heap.size w w'->Calls qA 99 #[workV b off n cap B eao en ecap M,.int .i64 P1] w' (BN none w'))
  (hrb:Hid False->∀w',Below w.heap.size w w'->Calls qA 99 #[workV b off n cap B eao en ecap M,.int .i64 E1] w' (BN (some y) w')) :
  Calls qA 99 #[workV b off n cap B eao en ecap M,.int .i64 place] w (BN none w):=by
 have hne:¬b=w.heap.size:=by omega
 have hneB:¬B=w.heap.size:=by omega
 have e1:¬k=1:=by omega
 have e2:¬k=2:=by omega
 have e3:¬k=10:=by omega
 have e4:¬k=11:=by omega
 have e5:¬k=12:=by omega
 obtain⟨W2,hW2⟩:∃W2,W2=((w.alloc (.cells #[.slice (some ⟨b,off,none⟩) n cap,.slice (some ⟨B,0,none⟩) n n,.slice eao en ecap,.map (some M)] 203)).alloc (.cells #[.int .i64 k,.int .i64 0] 91)):=⟨_,rfl⟩;have hb2:Below w.heap.size w W2:=by rw[hW2];exact((qD _ _).alloc (qB _) _).alloc (by simp) _
 have hsz:W2.heap.size=w.heap.size+1+1:=by rw[hW2];simp
 have d0:W2.cell? ⟨w.heap.size,0,none⟩=some (.slice (some ⟨b,off,none⟩) n cap):=by rw[hW2];simp[go_sem]
 have d1:W2.cell? ⟨w.heap.size,1,none⟩=some (.slice (some ⟨B,0,none⟩) n n):=by rw[hW2];simp[go_sem]
 have d2:W2.cell? ⟨w.heap.size,2,none⟩=some (.slice eao en ecap):=by rw[hW2];simp[go_sem]
 have d3:W2.cell? ⟨w.heap.size,3,none⟩=some (.map (some M)):=by rw[hW2];simp[go_sem]
 have d4:W2.cell? ⟨w.heap.size+1,0,none⟩=some (.int .i64 k):=by rw[hW2];simp[go_sem]
 have d5:W2.cell? ⟨B,P1,none⟩=some (.int .i64 E1):=(hb2.cell (p:=⟨B,P1,none⟩) hBB).trans cE;have HW2:=(show Hid _ from hW2);have hS:∀w',Below W2.heap.size W2 w'->w'.cell? ⟨w.heap.size,0,none⟩=some (.slice (some ⟨b,off,none⟩) n cap)/\w'.cell? ⟨w.heap.size,1,none⟩=some (.slice (some ⟨B,0,none⟩) n n)/\w'.cell? ⟨w.heap.size,2,none⟩=some (.slice eao en ecap)/\w'.cell? ⟨w.heap.size,3,none⟩=some (.map (some M))/\w'.cell? ⟨w.heap.size+1,0,none⟩=some (.int .i64 k)/\w'.cell? ⟨B,P1,none⟩=some (.int .i64 E1)/\(Instr.lookup 200 (.map (some M)) (.int .i64 k) false).run qA w'=.ok (.func (.func F) #[] #[]) w':=fun w' hw'=>
  ⟨(hw'.cell (p:=⟨w.heap.size,0,none⟩) (by simp only;omega)).trans d0,(hw'.cell (p:=⟨w.heap.size,1,none⟩) (by simp only;omega)).trans d1,(hw'.cell (p:=⟨w.heap.size,2,none⟩) (by simp only;omega)).trans d2,(hw'.cell (p:=⟨w.heap.size,3,none⟩) (by simp only;omega)).trans d3,(hw'.cell (p:=⟨w.heap.size+1,0,none⟩) (by simp only;omega)).trans d4,(hw'.cell (p:=⟨B,P1,none⟩) (by simp only;omega)).trans d5,hlook w' (hb2.trans (hw'.mono hb2.size))⟩
 have hra':∀w',Below W2.heap.size W2 w'->Calls qA 99 #[workV b off n cap B eao en ecap M,.int .i64 P1] w' (BN none w'):=fun w' hw'=>hra w' (hb2.trans (hw'.mono hb2.size));have hrb':Hid False->∀w',Below W2.heap.size W2 w'->Calls qA 99 #[workV b off n cap B eao en ecap M,.int .i64 E1] w' (BN (some y) w'):=fun hF w' hw'=>hrb hF w' (hb2.trans (hw'.mono hb2.size));have hB0:Below W2.heap.size W2 W2:=qD _ _;have HB2:Hid (Below w.heap.size w W2):=hb2;have hp0:place<n:=by omega
 have hi0:(0:Int)<=(P1:Int):=by omega
 have hi1:(P1:Int)<(n:Int):=by omega
 have hpp:(place:Int)+1=(P1:Int):=by omega
 have hwr:IntKind.i64.wrap (P1:Int)=(P1:Int):=J2 (by omega) (by omega);have hwr2:IntKind.i64.wrap ((place:Int)+1)=(P1:Int):=by rw[hpp];exact hwr
 clear hW2 hb2 hra hrb hlook hP1 hp hsz d0 d1 d2 d3 d4 d5;go_enter Tryz.func99,Tryz.ntmps99;go_wp2_with fail
 rw[<-HW2.out];clear c0 c1 cE;go_region_held2 (fun w'=>w'.cell? ⟨w.heap.size,0,none⟩=some (.slice (some ⟨b,off,none⟩) n cap)/\w'.cell? ⟨w.heap.size,1,none⟩=some (.slice (some ⟨B,0,none⟩) n n)/\w'.cell? ⟨w.heap.size,2,none⟩=some (.slice eao en ecap)/\w'.cell? ⟨w.heap.size,3,none⟩=some (.map (some M))/\w'.cell? ⟨w.heap.size+1,0,none⟩=some (.int .i64 k)/\w'.cell? ⟨B,P1,none⟩=some (.int .i64 E1)/\(Instr.lookup 200 (.map (some M)) (.int .i64 k) false).run qA w'=.ok (.func (.func F) #[] #[]) w')
  (exact hS _ (by first|exact hB0|exact hB0.drew|exact hB0.drew.trans hb1|exact(hB0.drew.trans hb1).trans (hb3.mono (hB0.drew.trans hb1).size)))
  (first|(go_at_call_of 99 E1;refine(hrb' hF _ (hB0.drew.trans hb1)).mono ?_;rintro e w3 ⟨hb3,rfl⟩)|(go_at_call 99;refine Calls.pan x (hra' _ hB0.drew) (fun w1 hb1=>⟨rfl,HB2.out.trans ((hB0.drew.trans hb1).mono HB2.out.size),rfl⟩) (fun w1 hb1 hF=>?_))|(refine(hpair _).mono ?_;rintro e w4 ⟨rfl,rfl⟩))
 all_goals exact hF.out.elim
theorem OQ(b off n cap B:Nat)(eao:Option Addr)(en ecap M place E1 F:Nat)(k x y z:Int)(w:World)(hob:b<w.heap.size)(hBB:B<w.heap.size)(hp:place+1<n)(P1:Nat)(hP1:P1=place+1)(h60:n<=60)(hk3:3<=k)(hk9:k<=9)(c0:w.cell? ⟨b,off+place*2,none⟩=some (.int .i64 k))(c1:w.cell? ⟨b,off+place*2+1,none⟩=some (.int .i64 0))(cE:w.cell? ⟨B,P1,none⟩=some (.int .i64 E1))
  (hlook:∀w',Below w.heap.size w w'->(Instr.lookup 200 (.map (some M)) (.int .i64 k) false).run qA w'=.ok (.func (.func F) #[] #[]) w')
  (hent:∀args w,(callFunc F args).run qA w=.ok (.enter F args) w)
  (hpair:∀w',Calls qA F #[.int .i64 x,.int .i64 y] w' fun e w''=>e=.returned (.int .i64 z)/\w''=w')
  (hra:∀w',Below w.heap.size w w'->Calls qA 99 #[workV b off n cap B eao en ecap M,.int .i64 P1] w' (BN (some x) w'))
  (hrb:∀w',Below w.heap.size w w'->Calls qA 99 #[workV b off n cap B eao en ecap M,.int .i64 E1] w' (BN none w')) :
  Calls qA 99 #[workV b off n cap B eao en ecap M,.int .i64 place] w (BN none w):=by
 have hne:¬b=w.heap.size:=by omega
 have hneB:¬B=w.heap.size:=by omega
 have e1:¬k=1:=by omega
 have e2:¬k=2:=by omega
 have e3:¬k=10:=by omega
 have e4:¬k=11:=by omega
 have e5:¬k=12:=by omega
 obtain⟨W2,hW2⟩:∃W2,W2=((w.alloc (.cells #[.slice (some ⟨b,off,none⟩) n cap,.slice (some ⟨B,0,none⟩) n n,.slice eao en ecap,.map (some M)] 203)).alloc (.cells #[.int .i64 k,.int .i64 0] 91)):=⟨_,rfl⟩;have hb2:Below w.heap.size w W2:=by rw[hW2];exact((qD _ _).alloc (qB _) _).alloc (by simp) _
 have hsz:W2.heap.size=w.heap.size+1+1:=by rw[hW2];simp
 have d0:W2.cell? ⟨w.heap.size,0,none⟩=some (.slice (some ⟨b,off,none⟩) n cap):=by rw[hW2];simp[go_sem]
 have d1:W2.cell? ⟨w.heap.size,1,none⟩=some (.slice (some ⟨B,0,none⟩) n n):=by rw[hW2];simp[go_sem]
 have d2:W2.cell? ⟨w.heap.size,2,none⟩=some (.slice eao en ecap):=by rw[hW2];simp[go_sem]
 have d3:W2.cell? ⟨w.heap.size,3,none⟩=some (.map (some M)):=by rw[hW2];simp[go_sem]
 have d4:W2.cell? ⟨w.heap.size+1,0,none⟩=some (.int .i64 k):=by rw[hW2];simp[go_sem]
 have d5:W2.cell? ⟨B,P1,none⟩=some (.int .i64 E1):=(hb2.cell (p:=⟨B,P1,none⟩) hBB).trans cE;have HW2:=(show Hid _ from hW2);have hS:∀w',Below W2.heap.size W2 w'->w'.cell? ⟨w.heap.size,0,none⟩=some (.slice (some ⟨b,off,none⟩) n cap)/\w'.cell? ⟨w.heap.size,1,none⟩=some (.slice (some ⟨B,0,none⟩) n n)/\w'.cell? ⟨w.heap.size,2,none⟩=some (.slice eao en ecap)/\w'.cell? ⟨w.heap.size,3,none⟩=some (.map (some M))/\w'.cell? ⟨w.heap.size+1,0,none⟩=some (.int .i64 k)/\w'.cell? ⟨B,P1,none⟩=some (.int .i64 E1)/\(Instr.lookup 200 (.map (some M)) (.int .i64 k) false).run qA w'=.ok (.func (.func F) #[] #[]) w':=fun w' hw'=>
  ⟨(hw'.cell (p:=⟨w.heap.size,0,none⟩) (by simp only;omega)).trans d0,(hw'.cell (p:=⟨w.heap.size,1,none⟩) (by simp only;omega)).trans d1,(hw'.cell (p:=⟨w.heap.size,2,none⟩) (by simp only;omega)).trans d2,(hw'.cell (p:=⟨w.heap.size,3,none⟩) (by simp only;omega)).trans d3,(hw'.cell (p:=⟨w.heap.size+1,0,none⟩) (by simp only;omega)).trans d4,(hw'.cell (p:=⟨B,P1,none⟩) (by simp only;omega)).trans d5,hlook w' (hb2.trans (hw'.mono hb2.size))⟩
 have hra':∀w',Below W2.heap.size W2 w'->Calls qA 99 #[workV b off n cap B eao en ecap M,.int .i64 P1] w' (BN (some x) w'):=fun w' hw'=>hra w' (hb2.trans (hw'.mono hb2.size));have hrb':∀w',Below W2.heap.size W2 w'->Calls qA 99 #[workV b off n cap B eao en ecap M,.int .i64 E1] w' (BN none w'):=fun w' hw'=>hrb w' (hb2.trans (hw'.mono hb2.size));have hB0:Below W2.heap.size W2 W2:=qD _ _;have HB2:Hid (Below w.heap.size w W2):=hb2;have hp0:place<n:=by omega
 have hi0:(0:Int)<=(P1:Int):=by omega
 have hi1:(P1:Int)<(n:Int):=by omega
 have hpp:(place:Int)+1=(P1:Int):=by omega
 have hwr:IntKind.i64.wrap (P1:Int)=(P1:Int):=J2 (by omega) (by omega);have hwr2:IntKind.i64.wrap ((place:Int)+1)=(P1:Int):=by rw[hpp];exact hwr
 clear hW2 hb2 hra hrb hlook hP1 hp hsz d0 d1 d2 d3 d4 d5;go_enter Tryz.func99,Tryz.ntmps99;go_wp2_with fail
 rw[<-HW2.out];clear c0 c1 cE;go_region_held2 (fun w'=>w'.cell? ⟨w.heap.size,0,none⟩=some (.slice (some ⟨b,off,none⟩) n cap)/\w'.cell? ⟨w.heap.size,1,none⟩=some (.slice (some ⟨B,0,none⟩) n n)/\w'.cell? ⟨w.heap.size,2,none⟩=some (.slice eao en ecap)/\w'.cell? ⟨w.heap.size,3,none⟩=some (.map (some M))/\w'.cell? ⟨w.heap.size+1,0,none⟩=some (.int .i64 k)/\w'.cell? ⟨B,P1,none⟩=some (.int .i64 E1)/\(Instr.lookup 200 (.map (some M)) (.int .i64 k) false).run qA w'=.ok (.func (.func F) #[] #[]) w')
  (exact hS _ (by first|exact hB0|exact hB0.drew|exact hB0.drew.trans hb1|exact(hB0.drew.trans hb1).trans (hb3.mono (hB0.drew.trans hb1).size)))
  (first|(go_at_call_of 99 E1;refine Calls.pan y (hrb' _ (hB0.drew.trans hb1)) (fun w3 hb3=>⟨rfl,HB2.out.trans (((hB0.drew.trans hb1).trans (hb3.mono (hB0.drew.trans hb1).size)).mono HB2.out.size),rfl⟩) (fun w3 hb3 hF=>?_))|(go_at_call 99;refine(hra' _ hB0.drew).mono ?_;rintro e w1 ⟨hb1,rfl⟩)|(refine(hpair _).mono ?_;rintro e w4 ⟨rfl,rfl⟩))
 all_goals exact hF.out.elim
theorem ON(b off n cap B:Nat)(eao:Option Addr)(en ecap M vars:Nat)(t:Tm)(env:List Int)(hn:n=t.size)(h60:n<=60)(hg:t.Good vars)(hty:t.typed=true)(hev:EnvOk env)(hen:env.length=vars)(hen2:en=vars)(d:Nat) :
  ∀(place:Nat) (w:World),place<n->(t.sub place).size<=d->WorkAt w b off B eao M t env->
  Calls qA 99 #[workV b off n cap B eao en ecap M,.int .i64 place] w (BN ((t.sub place).eval env) w):=by
 induction d with
 |zero=>intro place w _ hd;have:=(t.sub place).size_pos;omega
 |succ d ih=>
  intro place w hp hd hW;have hpt:place<t.size:=by omega
  obtain⟨s,hs⟩:∃s,s=t.sub place:=⟨_,rfl⟩;have hsg:s.Good vars:=by rw[hs];exact hg.sub _
  have hst:s.typed=true:=by
   rw[hs];refine(typed_iff _).2 fun q hq=>?_;rw[<-t.sub_sub place q hpt hq];exact(typed_iff _).1 hty _ (by have:=t.sub_fits hpt;omega)
  obtain⟨c0,c1⟩:=hW.ops place (by rw[ops_length];exact hpt);rw[op_at t hpt,<-hs]at c0 c1;simp only at c0 c1;have HKI:∀i,i<s.kids.length->place+s.koff i<n/\t.sub (place+s.koff i)=s.kids.getD i s/\Al (t.ops.map Prod.fst) (place+s.koff i)=place+s.koff (i+1):=fun i hi=>by
   subst hs;obtain⟨h1,h2,h3,_⟩:=kid_in hg.wf hpt hi;exact⟨by omega,h2,h3⟩
  rw[<-hs]at hd⊢;cases s with
  |leaf k v=>
   rcases hsg with⟨rfl,h1,h2⟩|⟨rfl,h1,h2⟩|⟨hk,rfl⟩
   .exact OT b off n cap B eao en ecap M place v w hW.ob hp c0 c1
   .obtain ⟨j,rfl⟩:=Int.eq_ofNat_of_zero_le h1;obtain⟨eb,eoff,rfl,e2,e3⟩:=hW.env j (by omega);exact OU b off n cap B eb eoff en ecap M place j _ w hW.ob hp (by omega) c0 c1 e2 e3
   .have he:(Tm.leaf k 0).eval env=some (if k=11 then 1 else 0):=by
     simp only[Tm.eval];rw[if_neg (by omega),if_neg (by omega)]
    rw[he];exact OR b off n cap B eao en ecap M place k hk w hW.ob hp c0 c1
  |un k v a=>
   obtain⟨rfl,rfl,ha⟩:=hsg;obtain⟨p1,p2,_⟩:=HKI 0 (by simp[kids]);rw[koff_zero]at p1 p2;have hsz:a.size<=d:=by simp only[Tm.size]at hd;omega
   have hta:a.typed=true:=by simp only[Tm.typed,qK]at hst;exact hst.2
   have hrec:∀w',Below w.heap.size w w'->Calls qA 99 #[workV b off n cap B eao en ecap M,.int .i64 ((place:Int)+1)] w' (BN (a.eval env) w'):=fun w' hw'=>by
    have h:=ih (place+1) w' p1 (by rw[p2];exact hsz) (hW.later hw');rw[p2]at h;exact h
   have h:=OS b off n cap B eao en ecap M place (a.eval env) w hW.ob hp h60 c0 c1 (fun x hx=>(eval_le hev hen ha hta x hx).1) hrec;have he:(Tm.un 10 0 a).eval env=(a.eval env).map (1 - ·):=by
    simp only[Tm.eval];cases a.eval env<;>rfl
   rw[he];exact h
  |bi k v a b'=>
   obtain⟨h3,h9,rfl,ha,hb⟩:=hsg;obtain⟨p1,p2,p3⟩:=HKI 0 (by simp[kids]);obtain⟨q1,q2,_⟩:=HKI 1 (by simp[kids]);rw[koff_zero]at p1 p2 p3;rw[qU]at p3;have hsa:a.size<=d:=by simp only[Tm.size]at hd;omega
   have hsb:b'.size<=d:=by simp only[Tm.size]at hd;omega
   simp only[Tm.typed,qK,beq_iff_eq]at hst;obtain⟨⟨ka,hta⟩,kb,htb⟩:=hst;have hra:∀w',Below w.heap.size w w'->Calls qA 99 #[workV b off n cap B eao en ecap M,.int .i64 (place+1:Nat)] w' (BN (a.eval env) w'):=fun w' hw'=>by
    have h:=ih (place+1) w' p1 (by rw[p2];exact hsa) (hW.later hw');rw[p2]at h;exact h
   have hrb:∀w',Below w.heap.size w w'->Calls qA 99 #[workV b off n cap B eao en ecap M,.int .i64 (place+(Tm.bi k 0 a b').koff 1:Nat)] w' (BN (b'.eval env) w'):=fun w' hw'=>by
    have h:=ih (place+(Tm.bi k 0 a b').koff 1) w' q1 (by rw[q2];exact hsb) (hW.later hw');rw[q2]at h;exact h
   have cE:=hW.ends.cell (i:=place+1) (by omega);rw[p3]at cE;have hlook:=fun w' (hw':Below w.heap.size w w')=>(hW.pairs.later hw').look h3 h9;have hent:=TH k h3 h9;have hae:=eval_le hev hen ha hta;have hbe:=eval_le hev hen hb htb;simp only[Tm.eval];cases hx:a.eval env with
   |none=>
    rw[hx]at hra;exact OP b off n cap B eao en ecap M place _ (Dd k) k 0 0 (bin k 0 0) w hW.ob hW.ends.lt (by omega) (place+1) rfl h60 h3 h9 c0 c1 cE hlook hent (fun w'=>JL k 0 0 w' h3 h9 (by omega) (by omega) (fun _=>⟨.inl rfl,.inl rfl⟩)) hra
     (fun h=>h.out.elim)
   |some x=>
    rw[hx]at hra;have hxl:=hae x hx;cases hy:b'.eval env with
    |none=>
     rw[hy]at hrb;exact OQ b off n cap B eao en ecap M place _ (Dd k) k x 0 (bin k x 0) w hW.ob hW.ends.lt (by omega) (place+1) rfl h60 h3 h9 c0 c1 cE hlook hent (fun w'=>JL k x 0 w' h3 h9 hxl.1 (by omega) (fun h8=>⟨hxl.2 (by rw[ka];simp[tkT];omega),.inl rfl⟩)) hra hrb
    |some y=>
     rw[hy]at hrb;have hyl:=hbe y hy;exact OO b off n cap B eao en ecap M place _ (Dd k) k x y (bin k x y) w hW.ob hW.ends.lt (by omega) (place+1) rfl h60 h3 h9 c0 c1 cE hlook hent (fun w'=>JL k x y w' h3 h9 hxl.1 hyl.1 (fun h8=>⟨hxl.2 (by rw[ka];simp[tkT];omega),hyl.2 (by rw[kb];simp[tkT];omega)⟩)) hra hrb
theorem PZ(s:Nat)(x:Int)(v0 v1:Value)(w:World)(hc0:w.cell? ⟨s,0,none⟩=some v0)(hc1:w.cell? ⟨s+1,0,none⟩=some v1)(hz0:w.frozen? ⟨s,0,none⟩=false)(hz1:w.frozen? ⟨s+1,0,none⟩=false) :
  CallsD qA 95 #[.pointer (some ⟨s,0,none⟩),.pointer (some ⟨s+1,0,none⟩)] (.panicking [{ v:=.iface 42 (.int .i64 x),recovered:=false}]) w fun e u' w'=>
   e=.returned (.tuple #[])/\u'=.panicking [{ v:=.iface 42 (.int .i64 x),recovered:=true}]/\w'=((w.setCell ⟨s,0,none⟩ (.int .i64 0)).setCell ⟨s+1,0,none⟩ (.int .i64 x)).drew:=by
 have hta:∀w:World,(Instr.typeAssert (.iface 42 (.int .i64 x)) 20 42 false).run qA w=.ok (.int .i64 x) w:=fun _=>by kernel_rfl
 refine callsD_of_wpS Tryz.func95 rfl fun c₀ cs hu=>?_;rw[Tryz.ntmps95];show Code.wpS _ _ _ { tmps:=#[.pointer (some ⟨s,0,none⟩),.pointer (some ⟨s+1,0,none⟩),undef,undef,undef,undef,undef,undef],defers:=[]} _ _;apply wpS_seq;apply wpS_region;simp[wpOpsS,go_sem,recoverD,hu,Exit.thenS];refine wpS_of_wp ?_;go_wp2;go_region
 go_wp2;simp[bodyPostS,results,Tryz.results95]
theorem Ic(s:Nat)(w:World) :
  CallsD qA 95 #[.pointer (some ⟨s,0,none⟩),.pointer (some ⟨s+1,0,none⟩)] .returning w fun e u' w'=>
   e=.returned (.tuple #[])/\u'=.returning/\w'=w:=by
 refine callsD_of_wpS Tryz.func95 rfl fun c₀ cs hu=>?_;rw[Tryz.ntmps95];show Code.wpS _ _ _ { tmps:=#[.pointer (some ⟨s,0,none⟩),.pointer (some ⟨s+1,0,none⟩),undef,undef,undef,undef,undef,undef],defers:=[]} _ _;apply wpS_seq;apply wpS_region;simp[wpOpsS,go_sem,recoverD,hu,Exit.thenS];refine wpS_of_wp ?_;go_wp2;cases c₀
 simp_all[bodyPostS,results,Tryz.results95]
def Cs(env:List Int):Bool:=env.any fun x=>decide (¬(-1000000<=x/\x<=1000000))
def GP(l:List (Int×Int))(t:Tm)(env:List Int):Int:=
 if A0 env.length l t≠0 then 0 else if Cs env=true then 0 else match t.eval env with
  |some x=>x
  |none=>0
def GO(l:List (Int×Int))(t:Tm)(env:List Int):Int:=
 if A0 env.length l t≠0 then A0 env.length l t else if Cs env=true then 2 else match t.eval env with
  |some _=>0
  |none=>8
theorem Pf{env:List Int}(h:Cs env=false):EnvOk env:=fun i hi=>by
 unfold Cs at h;rw[xM]at h;have:=h (env.getD i 0) (by simp[qC,hi]);generalize env.getD i 0=x at *;simp at this
 omega
theorem Pg{env:List Int}(h:∀j,j<env.length->-1000000<=env.getD j 0/\env.getD j 0<=1000000):Cs env=false:=by
 unfold Cs;rw[xM];intro x hx;obtain⟨i,hi,rfl⟩:=List.getElem_of_mem hx;have:=h i hi;simp[qC,hi]at this;simp;omega
theorem Pe{env:List Int}{i:Nat}(hi:i<env.length)(h:¬(-1000000<=env.getD i 0/\env.getD i 0<=1000000)):Cs env=true:=by
 unfold Cs;rw[List.any_eq_true];refine⟨env[i],List.getElem_mem hi,?_⟩;simp[qC,hi]at h;simp;omega
def e0(w:World):World:=(w.alloc (.cells #[.int .i64 0] 3)).alloc (.cells #[.int .i64 0] 42)
theorem Ib(w:World):Below w.heap.size w (e0 w):=((qD _ _).alloc (qB _) _).alloc (by simp) _
theorem Kr(w:World){w':World}(h:Below (e0 w).heap.size (e0 w) w') :
  w'.cell? ⟨w.heap.size,0,none⟩=some (.int .i64 0)/\w'.cell? ⟨w.heap.size+1,0,none⟩=some (.int .i64 0)/\w'.frozen? ⟨w.heap.size,0,none⟩=false/\w'.frozen? ⟨w.heap.size+1,0,none⟩=false/\w.heap.size+1<w'.heap.size/\Below w.heap.size w w':=by
 have hs:=h.size;have hz:(e0 w).heap.size=w.heap.size+1+1:=by simp[e0]
 refine⟨?_,?_,?_,?_,by omega,(Ib w).trans (h.mono (Ib w).size)⟩
 .rw[h.cell (p:=⟨w.heap.size,0,none⟩) (by simp only;omega)];simp[e0,go_sem]
 .rw[h.cell (p:=⟨w.heap.size+1,0,none⟩) (by simp only;omega)];simp[e0,go_sem]
 .rw[h.frozen (p:=⟨w.heap.size,0,none⟩) (by simp only;omega)];simp[e0,go_sem]
 .rw[h.frozen (p:=⟨w.heap.size+1,0,none⟩) (by simp only;omega)];simp[e0,go_sem]
theorem Pm(ao:Option Addr)(n cap:Nat)(eao:Option Addr)(en ecap:Nat)(x:Int)(w:World)(hx:x≠0)
  (heo:Calls qA 96 #[.slice ao n cap,.int .i64 en] (e0 w) fun e w''=>e=.returned (.tuple #[.slice none 0 0,.int .i64 x])/\Below (e0 w).heap.size (e0 w) w'') :
  Calls qA 69 #[.slice ao n cap,.slice eao en ecap] w fun e w'=>e=.returned (.tuple #[.int .i64 0,.int .i64 x])/\Below w.heap.size w w':=by
 have hmf:=Fe;go_enter_defers Tryz.func69,Tryz.ntmps69;go_wp2_with (go_at_call 96;refine heo.mono ?_;rintro e w2 ⟨rfl,hb2⟩;obtain⟨c0,c1,f0,f1,hsz,hbw⟩:=Kr w hb2)
 go_region
 all_goals go_wp2_with fail
 all_goals
  refine leaves_cons (f:=95) (args:=#[.pointer (some ⟨w.heap.size,0,none⟩),.pointer (some ⟨w.heap.size+1,0,none⟩)]) (by simp) (by simp[go_sem]) ?_;refine(Ic w.heap.size _).mono ?_;rintro e u' w'' ⟨rfl,rfl,rfl⟩;simp[Leaves,settle,results,Tryz.results69,go_sem,c0,c1];first
   |exact(((hbw.setCell (p:=⟨w.heap.size+1,0,none⟩) (by simp) _).drew).setCell (p:=⟨w.heap.size,0,none⟩) (qB _) _).setCell (p:=⟨w.heap.size+1,0,none⟩) (by simp) _
   |exact(((hbw.setCell (p:=⟨w.heap.size+1,0,none⟩) (by simp) _).drew).setCell (p:=⟨w.heap.size+1,0,none⟩) (by simp) _).setCell (p:=⟨w.heap.size,0,none⟩) (qB _) _
noncomputable def exN(l:List (Int×Int))(env:List Int):Int:=GP l (Cy l) env
noncomputable def exC(l:List (Int×Int))(env:List Int):Int:=GO l (Cy l) env
noncomputable def CV(l:List (Int×Int))(env:List Int):Bool:=decide (exC l env=0)&&decide (exN l env=1)
noncomputable def Cn(env:List Int)(sets:List St):Nat->List Int
 |0=>env
 |k+1=>(Cn env sets k).set (sets.getD k st0).var.toNat (exN (sets.getD k st0).val env)
theorem Jd(env:List Int)(sets:List St)(k:Nat):(Cn env sets k).length=env.length:=by
 induction k with
 |zero=>rfl
 |succ k ih=>simp[Cn,ih]
noncomputable def Bt(env:List Int)(r:Ru):List Int:=Cn env r.sets r.sets.length
def Je(env:List Int)(r:Ru):Prop:=∀j,j<r.sets.length->exC (r.sets.getD j st0).val env=0
open Classical in
noncomputable def BT(vars:List Vr)(env:List Int)(r:Ru):Option Int:=
 if CV r.guard env=true/\Je env r/\∀i,i<vars.length->inB vars (Bt env r) i then some (Bl vars (Bt env r) vars.length)else none
def Gz:Option Int->Int
 |some x=>x
 |none=>0
def Gy:Option Int->Int
 |some _=>0
 |none=>11
theorem UA{vars:List Vr}{env:List Int}{r:Ru}(h:CV r.guard env=false):BT vars env r=none:=by
 unfold BT;rw[if_neg (fun h2=>by rw[h]at h2;cases h2.1)]
theorem UB{vars:List Vr}{env:List Int}{r:Ru}{j:Nat}(hj:j<r.sets.length)(h:exC (r.sets.getD j st0).val env≠0):BT vars env r=none:=by
 unfold BT;rw[if_neg (fun h2=>h (h2.2.1 j hj))]
theorem T9{vars:List Vr}{env:List Int}{r:Ru}(h1:CV r.guard env=true)(h2:Je env r)(hl:env.length=vars.length){m:Mo}(hm:mcode m=0)(hv:m.vars=vars) :
  (Bv m (Bt env r)=0->BT vars env r=some (Cd m (Bt env r)))/\(Bv m (Bt env r)≠0->BT vars env r=none):=by
 have hb:(Bt env r).length=m.vars.length:=by unfold Bt;rw[Jd,hl,hv]
 subst hv;by_cases hin:∀i,i<m.vars.length->inB m.vars (Bt env r) i
 .have hc:=Kc hm ⟨hb,hin⟩;refine⟨fun _=>?_,fun h=>absurd hc h⟩;unfold BT;rw[if_pos ⟨h1,h2,hin⟩];unfold Cd;rw[if_pos hc]
 .have hc:=IR hm (vals:=Bt env r) (fun h=>hin h.2);refine⟨fun h=>(by rw[hc]at h;cases h),fun _=>?_⟩;unfold BT;rw[if_neg (fun h=>hin h.2.2)]
theorem UD{vars:Int}{r:Ru}(h:BE vars r=0):r.sets.length<=6/\∀j,j<r.sets.length->0<=(r.sets.getD j st0).var/\(r.sets.getD j st0).var<vars:=by
 unfold BE at h;split at h
 .simp at h
 .rename_i h6;refine⟨by omega,fun j hj=>?_⟩;split at h
  .have h1:=Ig h j hj;unfold sAt at h1;split at h1
   .simp at h1
   .rename_i h2;omega
  .rename_i h2;exact absurd h h2
theorem Rz{m:Mo}(h:mcode m=0):m.rules.length<=12/\∀j,j<m.rules.length->BE m.vars.length (m.rules.getD j ru0)=0:=by
 unfold mcode at h;split at h
 .split at h
  .simp at h
  .rename_i h1;exact⟨by omega,Ig h⟩
 .rename_i h0;exact absurd h h0
theorem Ll{m:Mo}(h:mcode m=0):mcode ⟨m.vars,[]⟩=0:=by
 have hv:vcode m.vars=0:=by
  unfold mcode at h;split at h
  .assumption
  .rename_i h0;exact absurd h h0
 unfold mcode;rw[if_pos hv];rfl
theorem Ju(l:List Vr)(c:Int):(A7 l c).length=l.length:=by simp[A7]
open Go.Shelf Go.RowKit Go.Lib
def RT:Go.Shelf.Ren:=⟨fun|15=>161|n=>n,fun|22=>39|3=>3|4=>4|n=>n,fun|n=>n⟩
theorem RS:Go.Proofs.Lays2.n15 qA RT:={
 mixed:=by kernel_rfl
 f15:=Tryz.func161.trans (congrArg some (by kernel_rfl))
 t3:=Tryz.underlying3
 a3:=Tryz.isAgg3
 z3:=Tryz.sizeOf3
 v3:=Tryz.zeroValue3
 t4:=Tryz.underlying4
 a4:=Tryz.isAgg4
 z4:=Tryz.sizeOf4
 v4:=Tryz.zeroValue4
 t22:=Tryz.underlying39
 a22:=Tryz.isAgg39
 z22:=Tryz.sizeOf39
 v22:=Tryz.zeroValue39
 i3:=by kernel_rfl}
theorem PD(B:Nat)(l:List Int)(w:World)(hl:l.length<=10000)(hr:w.rowIs B 3 l.length (fun j=>.int .i64 (l.getD j 0))) :
    Calls qA 161 #[.slice (some ⟨B,0,none⟩) l.length l.length] w fun e w'=>∃g cap,e=.returned (.slice (some ⟨g,0,none⟩) l.length cap)/\w.heap.size<=g/\Below w.heap.size w w'/\w'.ownsRow w.heap.size 3 1 (.slice (some ⟨g,0,none⟩) l.length cap) l.length (AB l):=by
  have h:Calls qA 161 #[.slice (some ⟨B,0,none⟩) l.length l.length] w fun e w'=>∃v',e=.returned v'/\w'.ownsRow w.heap.size 3 1 v' l.length ((l.take l.length).map (Value.int .i64))/\v'≠.slice none 0 0/\Below w.heap.size w w':=
    Any.slices_Clone_int RS B 0 l.length l.length l w (qB _) (by omega) (fun j hj=>by rw[qU];exact hr.cell hj)
  refine h.mono fun e w' ⟨v',he,ho,hn,hb⟩=>?_;rw[List.take_length]at ho;obtain⟨g,cap,rfl,hg,_⟩:=Lib.holds_of_ownsRow ho hn;exact⟨g,cap,he,hg,hb,ho⟩
