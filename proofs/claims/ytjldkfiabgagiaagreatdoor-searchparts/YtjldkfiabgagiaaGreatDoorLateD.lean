/- Joined texts. -/
import Derived.Test.YtjldkfiabgagiaaGreatDoorLateC
import Derived.Deep.Cut
import Derived.Deep.CutBlock
import Derived.Deep.CutRange
import Derived.Deep.DeepCutAuto
open Go renaming World→M,Value→J,Calls→ZZ
open Go.Ending renaming returned→I
open Go.IntKind renaming i64→U
open Go.Obj renaming cells→Q
open Go.RowKit renaming Below→L,Hid→O
open Go.Value renaming slice→Y,bool→ZY,agg→H,tuple→C,pointer→G,int→E
open _root_.Bool renaming false→F
open _root_.Option renaming none→W,some→V
namespace Go.Proofs.YtjldkfiabgagiaaGreatDoor
open _root_.Array renaming getElem?_eq_some_iff→qG,getElem?_modify→qR
open Go.RowKit.Below renaming refl→qD
open _root_.List renaming append_assoc→q7,append_nil→vN,getD_eq_getElem?_getD→qC,getElem?_eq_getElem→qH,getElem_mem→qT,length_append→qF,length_singleton→vW,mem_append→qN,mem_singleton→vJ,mergeSort_perm→xG
open _root_.Nat renaming le_refl→qB,le_trans→qI,lt_of_lt_of_le→qE,pow_le_pow_right→vG,zero_le→qJ
open Go.Proofs.Tryz renaming prog→qA
open Go.ChangeShapes Go.WideShapes Go.ChangeAt Go.RowKit Go.Deep Go.Maps
open Terms Tm
set_option maxHeartbeats 6400000
set_option maxRecDepth 20000
def atB(sv nv tv:J)(init many:Int)(lm:Nat):Obj:=Q #[sv,.int U init,nv,tv,.int U many,.map (V lm)] 71 (0,0)
def Dq(w:M)(base:Nat)(nv tv:J)(N:List (List Int)):Prop:=
 ∃us:List J,w.ownsRow base 39 1 nv N.length us/\us.length=N.length/\∀i,i<N.length->∃ao c,us.getD i (Y W 0 0)=.slice ao (N.getD i []).length c/\IntsV w (.slice ao (N.getD i []).length c) (N.getD i [])/\Ag w (.slice ao (N.getD i []).length c) 3/\∀a,ao=V a->tv.ownBlock≠V a.block/\base<=a.block
structure AtX(w:M)(base A lm:Nat)(S:List (Int×Int))(N:List (List Int))(T:List Int)(init many:Int)(sv nv tv:J):Prop where
 box:w.heap[A]? = V (atB sv nv tv init many lm)
 bA:base<=A
 bl:base<=lm
 lies:LiesAt w lm S
 sp:SpO w base sv S
 nx:Dq w base nv tv N
 st:w.ownsRow base 3 1 tv T.length (AB T)
section
variable{w w':M}{base A lm:Nat}{S:List (Int×Int)}{N:List (List Int)}{T:List Int}{init many:Int}{sv nv tv:J}
theorem Dq.chg{Z:Nat->Prop}(h:Dq w base nv tv N)(hs:Chg Z w w')(h1:∀i,Z i->nv.ownBlock≠V i/\∀ao:Option Addr,∀a,ao=V a->i=a.block->tv.ownBlock≠V i->¬TyB w i 3):Dq w' base nv tv N:=by
 obtain⟨us,h2,h3,h4⟩:=h;refine⟨us,BW h2 hs (fun g e z=>(h1 g z).1 e),h3,fun i hi=>?_⟩;obtain⟨ao,c,e1,e2,e3,e4⟩:=h4 i hi;have hz:∀a,ao=V a->¬Z a.block:=fun a e z=>(h1 _ z).2 ao a e rfl (e4 a e).1 (by subst e;exact e3.ty);exact⟨ao,c,e1,e2.chg hs hz,e3.chg hs hz,e4⟩
theorem AtX.ty(h:AtX w base A lm S N T init many sv nv tv):TyB w A 71:=⟨_,_,h.box⟩
theorem LiesAt.isMap{b:Nat}(h:LiesAt w b S):∃es c,w.heap[b]? = V (.map es c):=by
 obtain⟨f,h1,_⟩:=h;exact h1.isMap
theorem LiesAt.lt{b:Nat}(h:LiesAt w b S):b<w.heap.size:=by
 obtain⟨es,c,h⟩:=h.isMap;exact(qG.1 h).1
theorem AtX.lt(h:AtX w base A lm S N T init many sv nv tv):A<w.heap.size:=h.ty.lt
theorem AtX.base_le(h:AtX w base A lm S N T init many sv nv tv):base<=w.heap.size:=by have:=h.lt;have:=h.bA;omega
theorem AtX.chg{Z:Nat->Prop}(h:AtX w base A lm S N T init many sv nv tv)(hs:Chg Z w w')(hz:∀i,Z i->i≠A/\i≠lm/\¬TyB w i 75/\¬TyB w i 39/\¬TyB w i 3):AtX w' base A lm S N T init many sv nv tv:=by
 have zA:¬Z A:=fun z=>(hz _ z).1 rfl;have zl:¬Z lm:=fun z=>(hz _ z).2.1 rfl;obtain⟨us,n1,n2,n3⟩:=id h.nx;refine⟨(hs.block A h.lt zA).trans h.box,h.bA,h.bl,h.lies.kept (hs.block lm h.lies.lt zl),BW h.sp hs (fun g e z=>(hz g z).2.2.1 (Aw h.sp e).2),h.nx.chg hs fun i z=>⟨fun e=>(hz i z).2.2.2.1 (Aw n1 e).2,fun _ _ _ _ _=>(hz i z).2.2.2.2⟩,BW h.st hs (fun g e z=>(hz g z).2.2.2.2 (Aw h.st e).2)⟩
theorem AtX.below(h:AtX w base A lm S N T init many sv nv tv)(hb:L w.heap.size w w'):AtX w' base A lm S N T init many sv nv tv:=h.chg (Chg.of (Z:=fun _=>False) hb) fun _ z=>z.elim
theorem AtX.sk{bs bl':Nat}(h:AtX w base A lm S N T init many sv nv tv)(hs:Sk bs bl' w w')(hm:Cd w bs bl')(h1:lm≠bs)(h2:lm≠bl'):AtX w' base A lm S N T init many sv nv tv:=by
 obtain⟨⟨es,c,e1⟩,⟨es',c',e2⟩⟩:=hm;refine h.chg hs.chg fun i z=>?_;have hno:∀t,¬TyB w i t:=fun t ht=>by
  rcases z with rfl|rfl
  .exact ht.no_map e1
  .exact ht.no_map e2
 refine⟨fun e=>hno _ (e▸h.ty),fun e=>?_,hno _,hno _,hno _⟩;rcases z with rfl|rfl
 .exact h1 e.symm
 .exact h2 e.symm
def atZ(A lm:Nat)(sv:J):Nat->Prop:=fun i=>i=A\/i=lm\/sv.ownBlock=V i
theorem AtX.put{S':List (Int×Int)}{sv':J}(h:AtX w base A lm S N T init many sv nv tv)(hs:Chg (atZ A lm sv) w w')(hbx:w'.heap[A]? = V (atB sv' nv tv init many lm))(hl:LiesAt w' lm S')(hsp:SpO w' base sv' S'):AtX w' base A lm S' N T init many sv' nv tv:=by
 obtain⟨es,c,em⟩:=h.lies.isMap;have hno:∀i t,atZ A lm sv i->TyB w i t->t=71\/t=75:=fun i t z ht=>by
  rcases z with rfl|rfl|e
  .exact .inl (ht.eq h.ty)
  .exact absurd em ht.no_map
  .exact .inr (ht.eq (Aw h.sp e).2)
 have hni:∀i,atZ A lm sv i->¬TyB w i 3:=fun i z ht=>by
  rcases hno i _ z ht with e|e
  .exact absurd e (by decide)
  .exact absurd e (by decide)
 have hnl:∀i,atZ A lm sv i->¬TyB w i 39:=fun i z ht=>by
  rcases hno i _ z ht with e|e
  .exact absurd e (by decide)
  .exact absurd e (by decide)
 obtain⟨us,n1,n2,n3⟩:=id h.nx;exact⟨hbx,h.bA,h.bl,hl,hsp,h.nx.chg hs fun i z=>⟨fun e=>hnl i z (Aw n1 e).2,fun _ _ _ _ _=>hni i z⟩,BW h.st hs (fun g e z=>hni g z (Aw h.st e).2)⟩
theorem OL(w:M)(hb:w.heap[A]? = V (atB sv nv tv init many lm))(v:J):(w.setCell ⟨A,0,W⟩ v).heap[A]? = V (atB v nv tv init many lm):=by
 unfold atB at *;simp[World.setCell,qR,hb]
theorem OM(w:M)(hb:w.heap[A]? = V (atB sv nv tv init many lm))(v:J):(w.setCell ⟨A,2,W⟩ v).heap[A]? = V (atB sv v tv init many lm):=by
 unfold atB at *;simp[World.setCell,qR,hb]
theorem ON(w:M)(hb:w.heap[A]? = V (atB sv nv tv init many lm))(v:J):(w.setCell ⟨A,3,W⟩ v).heap[A]? = V (atB sv nv v init many lm):=by
 unfold atB at *;simp[World.setCell,qR,hb]
theorem C0(hb:w.heap[A]? = V (atB sv nv tv init many lm)):w.cell? ⟨A,0,W⟩=V sv/\w.cell? ⟨A,1,W⟩=V (.int U init)/\w.cell? ⟨A,2,W⟩=V nv/\w.cell? ⟨A,3,W⟩=V tv/\w.cell? ⟨A,4,W⟩=V (.int U many)/\w.cell? ⟨A,5,W⟩=V (.map (V lm)):=by
 unfold atB at hb;refine⟨?_,?_,?_,?_,?_,?_⟩<;>simp[World.cell?,hb]
theorem IE(hb:w.heap[A]? = V (atB sv nv tv init many lm))(i:Nat):w.frozen? ⟨A,i,W⟩=false:=by
 unfold atB at hb;simp[World.frozen?,hb]
end
theorem TI(S a b:List (Int×Int)):AG S (a++b)=AG (AG S a) b:=by
 unfold AG;rw[List.foldl_append]
theorem G5{S l:List (Int×Int)}{k:Nat}(h:k<l.length):AG S (l.take (k+1))=BN (AG S (l.take k)) (l.getD k (0,0)):=by
 rw[List.take_add_one,qH h];simp only[Option.toList_some];rw[TK];simp[qC,h]
theorem TJ{S l:List (Int×Int)}{k:Nat}(h:k<l.length):(AG S l).idxOf (l.getD k (0,0))=(BN (AG S (l.take k)) (l.getD k (0,0))).idxOf (l.getD k (0,0)):=by
 rw[<-G5 h];refine Gf ?_ ?_
 .have e:AG S l=AG (AG S (l.take (k+1))) (l.drop (k+1)):=by rw[<-TI,List.take_append_drop]
  rw[e];exact MX _ _
 .rw[G5 h];exact MV _ _
theorem JN{S:List (Int×Int)}{p:Int×Int}(h:p∈S):BN S p=S:=by unfold BN;rw[if_pos h]
theorem G3{S:List (Int×Int)}{p:Int×Int}(h:p∉S):BN S p=S++[p]:=by unfold BN;rw[if_neg h]
def Ck(S l:List (Int×Int)):List Int:=(List.range l.length).map fun(j:Nat)=>(((AG S l).idxOf (l.getD j (0,0)):Nat):Int)
theorem G2(S l:List (Int×Int)):(Ck S l).length=l.length:=by simp[Ck]
theorem MS{S l:List (Int×Int)}{j:Nat}(h:j<l.length):(Ck S l).getD j 0=(((AG S l).idxOf (l.getD j (0,0)):Nat):Int):=by simp[Ck,qC,h]
theorem SpV.chg{Z:Nat->Prop}{w w':M}{ao:Option Addr}{n c:Nat}{x:List (Int×Int)}(h:SpV w (Y ao n c) x)(hs:Chg Z w w')(hz:∀a,ao=V a->¬Z a.block):SpV w' (Y ao n c) x:=by
 obtain⟨ao',cap,e,h⟩:=h;injection e with e1 e2 e3;subst e1 e2 e3;refine⟨ao,c,rfl,fun hne=>?_⟩;obtain⟨b,off,rfl,hlt,hat⟩:=h hne;exact⟨b,off,rfl,qE hlt hs.size,fun i hi=>⟨hs.cell (hat i hi).1 (hz ⟨b,off,W⟩ rfl),hs.cell (hat i hi).2 (hz ⟨b,off,W⟩ rfl)⟩⟩
theorem SpV.get{w:M}{ao:Option Addr}{n c:Nat}{x:List (Int×Int)}(h:SpV w (Y ao n c) x){i:Nat}(hi:i<x.length):∃b off,ao=V ⟨b,off,W⟩/\b<w.heap.size/\w.cell? ⟨b,off+i*2,W⟩=V (.int U (x.getD i (0,0)).1)/\w.cell? ⟨b,off+i*2+1,W⟩=V (.int U (x.getD i (0,0)).2):=by
 obtain⟨ao',cap,e,h⟩:=h;injection e with e1 e2 e3;subst e1;obtain⟨b,off,rfl,hlt,hat⟩:=h (by rintro rfl;simp at hi);exact⟨b,off,rfl,hlt,(hat i hi).1,(hat i hi).2⟩
structure PlB(w wr:M)(base A lm R n:Nat)(SL SS:List (Int×Int))(sv svb svk nv tv:J)(init many:Int)(rf:Nat->J):Prop where
 box:wr.heap[A]? = V (atB svb nv tv init many lm)
 lies:LiesAt wr lm SL
 sp:SpO wr base svk SS
 row:wr.rowIs R 3 n rf
 chg:Chg (atZ A lm sv) w wr
 own:svk.ownBlock=sv.ownBlock\/∃g,svk.ownBlock=V g/\w.heap.size<=g
 hR:w.heap.size<=R
section
variable{w wr w':M}{base A lm R n:Nat}{SL SS S':List (Int×Int)}{sv svb svk sv' nv tv:J}{init many:Int}{rf:Nat -> J}
theorem PlB.tyA(h:PlB w wr base A lm R n SL SS sv svb svk nv tv init many rf):TyB wr A 71:=⟨_,_,h.box⟩
theorem PlB.tyR(h:PlB w wr base A lm R n SL SS sv svb svk nv tv init many rf):TyB wr R 3:=by
 obtain⟨cs,hcs,_⟩:=h.row;exact⟨cs,(0,0),hcs⟩
theorem PlB.below(h:PlB w wr base A lm R n SL SS sv svb svk nv tv init many rf)(hb:L wr.heap.size wr w'):PlB w w' base A lm R n SL SS sv svb svk nv tv init many rf:=
 ⟨(hb.block A h.tyA.lt).trans h.box,h.lies.kept (hb.block lm h.lies.lt),h.sp.later hb (qB _),h.row.of_block (hb.block R h.tyR.lt),h.chg.trans (Chg.of hb),h.own,h.hR⟩
theorem PlB.map(h:PlB w wr base A lm R n SL SS sv svb svk nv tv init many rf)(hg:wr.grownBy w' (V lm))(hl:LiesAt w' lm S'):PlB w w' base A lm R n S' SS sv svb svk nv tv init many rf:=by
 obtain⟨es,c,em⟩:=h.lies.isMap;have hne:∀i t,TyB wr i t->V i≠V lm:=fun i t ht e=>by
  injection e with e;subst e;exact ht.no_map em
 have hb:∀i t,TyB wr i t->w'.heap[i]? = wr.heap[i]?:=fun i t ht=>hg.block i ht.lt (hne i t ht);refine⟨(hb A _ h.tyA).trans h.box,hl,BW h.sp (Chg.grown hg) (fun g e z=>hne g _ (Aw h.sp e).2 z.symm),h.row.of_block (hb R _ h.tyR),h.chg.trans2 (Chg.grown hg) (fun i _ e=>?_),h.own,h.hR⟩;injection e with e;exact .inr (.inl e.symm)
theorem PlB.app(h:PlB w wr base A lm R n SL SS sv svb svk nv tv init many rf)(hg:wr.grownBy w' svk.ownBlock)(hs:SpO w' base sv' S')(ho:sv'.ownBlock=svk.ownBlock\/∃g,sv'.ownBlock=V g/\w.heap.size<=g):PlB w w' base A lm R n SL S' sv svb sv' nv tv init many rf:=by
 obtain⟨es,c,em⟩:=h.lies.isMap;have hne:∀i t,TyB wr i t->t≠75->V i≠svk.ownBlock:=fun i t ht h2 e=>h2 (ht.eq (Aw h.sp e.symm).2);have hb:∀i t,TyB wr i t->t≠75->w'.heap[i]? = wr.heap[i]?:=fun i t ht h2=>hg.block i ht.lt (hne i t ht h2);refine⟨(hb A _ h.tyA (by decide)).trans h.box,h.lies.kept (hg.block lm h.lies.lt fun e=>(Aw h.sp e.symm).2.no_map em),hs,h.row.of_block (hb R _ h.tyR (by decide)),h.chg.trans2 (Chg.grown hg) (fun i hi e=>?_),?_,h.hR⟩
 .rcases h.own with h1|⟨g,h1,h2⟩
  .exact .inr (.inr (h1▸e))
  .rw[h1]at e;injection e with e;omega
 .rcases ho with h1|h1
  .rw[h1];exact h.own
  .exact .inr h1
theorem PlB.setA(h:PlB w wr base A lm R n SL SS sv svb svk nv tv init many rf):PlB w (wr.setCell ⟨A,0,W⟩ svk) base A lm R n SL SS sv svk svk nv tv init many rf:=by
 obtain⟨es,c,em⟩:=h.lies.isMap;have hne:∀i t,TyB wr i t->t≠71->i≠A:=fun i t ht h2 e=>h2 (ht.eq (e▸h.tyA));refine⟨OL wr h.box svk,h.lies.kept (RowKit.Below.heap_setCell _ _ _ _ (fun e=>h.tyA.no_map (e▸em))),BW h.sp (Chg.setCell wr _ _) (fun g e=>hne g _ (Aw h.sp e).2 (by decide)),h.row.of_block (RowKit.Below.heap_setCell _ _ _ _ (hne R _ h.tyR (by decide))),h.chg.trans2 (Chg.setCell wr _ _) (fun i _ e=>.inl e),h.own,h.hR⟩
theorem PlB.setR(h:PlB w wr base A lm R n SL SS sv svb svk nv tv init many rf)(k:Nat)(v:J):PlB w (wr.setCell ⟨R,k,W⟩ v) base A lm R n SL SS sv svb svk nv tv init many (fun j=>if j=k then v else rf j):=by
 obtain⟨es,c,em⟩:=h.lies.isMap;have hne:∀i t,TyB wr i t->t≠3->i≠R:=fun i t ht h2 e=>h2 (ht.eq (e▸h.tyR));refine⟨(RowKit.Below.heap_setCell _ _ _ _ (hne A _ h.tyA (by decide))).trans h.box,h.lies.kept (RowKit.Below.heap_setCell _ _ _ _ (fun e=>h.tyR.no_map (e▸em))),BW h.sp (Chg.setCell wr _ _) (fun g e=>hne g _ (Aw h.sp e).2 (by decide)),h.row.set k v,h.chg.trans2 (Chg.setCell wr _ _) (fun i hi e=>?_),h.own,h.hR⟩;have:=h.hR;simp only at e;omega
end
def KT(w:M)(base A lm:Nat)(S:List (Int×Int))(N:List (List Int))(T:List Int)(init many:Int)(sv nv tv:J)(l:List (Int×Int))(e:Ending)(w':M):Prop:=
 e=I (Y (V ⟨w.heap.size,0,W⟩) l.length l.length)/\∃sv',AtX w' base A lm (AG S l) N T init many sv' nv tv/\IntsV w' (Y (V ⟨w.heap.size,0,W⟩) l.length l.length) (Ck S l)/\Ag w' (Y (V ⟨w.heap.size,0,W⟩) l.length l.length) 3/\Chg (atZ A lm sv) w w'/\(sv'.ownBlock=sv.ownBlock\/∃g,sv'.ownBlock=V g/\w.heap.size<=g)
theorem Ma (w:M) (base A lm:Nat) (S:List (Int × Int)) (N:List (List Int)) (T:List Int) (init many:Int) (sv nv tv:J) (l:List (Int × Int)) (so:Option Addr) (sc:Nat) (hX:AtX w base A lm S N T init many sv nv tv) (hl:SpV w (.slice so l.length sc) l) (hsep:∀ a,so=V a->¬ atZ A lm sv a.block) (hI:∀ j,j < l.length->Cn (l.getD j (0,0))) (hz:S.length+l.length <= 1000000000) :
    ZZ qA 19 #[G (V ⟨A,0,W⟩),.slice so l.length sc] w (KT w base A lm S N T init many sv nv tv l):=by
  obtain⟨n,hn⟩:∃n,l.length=n:=⟨_,rfl⟩;have HN:O (l.length=n):=hn;have HXt:O (AtX w base A lm S N T init many sv nv tv):=hX;have HI:O (∀j,j<n->Cn (l.getD j (0,0))):=fun j hj=>hI j (by omega);have HLs:O (∀wr,Chg (atZ A lm sv) w wr->SpV wr (Y so n sc) l):=fun wr h=>by have:=hl.chg h hsep;rw[hn]at this;exact this
  have HSz:O (∀k,(AG S (l.take k)).length<=S.length+n):=fun k=>by
    have:=(G4 (l.take k) S).2;have h2:(l.take k).length<=l.length:=by rw[List.length_take];omega
    show _<=_;omega
  unfold KT;rw[hn];have hnz:S.length+n<=1000000000:=by omega
  clear hX hl hsep hI hz hn;have hmk:=run_make_row' (P:=qA) 39 3 (.int U 0) 8 Tryz.underlying39 Bd rfl .i64 .i64 n (by omega) (by omega);have HS0:O (∀W0,W0=w.alloc (Q (madeCells #[E U 0] n) 3)->PlB w W0 base A lm w.heap.size n (AG S (l.take 0)) (AG S (l.take 0)) sv sv sv nv tv init many (fun j=>.int U (if j<0 then(((AG S l).idxOf (l.getD j (0,0)):Nat):Int)else 0))):=fun W0 e=>by
    subst e;have hb:L w.heap.size w (w.alloc (Q (madeCells #[E U 0] n) 3)):=(qD _ _).alloc (qB _) _;have hx:=HXt.out.below hb;exact⟨hx.box,hx.lies,hx.sp,(World.rowIs_made w (.int U 0) n 3).congr (fun j _=>by simp),Chg.of hb,.inl rfl,qB _⟩
  go_enter Tryz.func19,Tryz.ntmps19;go_wp2_with fail
  go_loopw [15] (fun i wr=>∃k:Nat,k<=n/\i=.int U k/\∃svk,O (PlB w wr base A lm w.heap.size n (AG S (l.take k)) (AG S (l.take k)) sv svk svk nv tv init many (fun j=>.int U (if j<k then(((AG S l).idxOf (l.getD j (0,0)):Nat):Int)else 0)))) (fun i _=>n-(intOf i).toNat)
  case atStart=>exact⟨0,qJ _,rfl,sv,HS0.out _ rfl⟩
  case round=>
    obtain⟨k,hk,rfl,svk,HA⟩:=hrel;by_cases hlt:k<n
    . have hlt2:k<l.length:=by rw[HN.out];exact hlt
      obtain⟨b,off,rfl,hbl,c0,c1⟩:=(HLs.out wr HA.out.chg).get hlt2;have hki:(k:Int)<(n:Int):=by omega
      have hIk:=HI.out k hlt;have HT:=(show O _ from G5 (S:=S) hlt2);have HD:=(show O _ from TJ (S:=S) hlt2);have hSz:=HSz.out k;have HRow:O (∀ix:Nat,(AG S l).idxOf (l.getD k (0,0))=ix->∀j:Nat,(if j=k then Value.int .i64 (ix:Nat)else .int U (if j<k then(((AG S l).idxOf (l.getD j (0,0)):Nat):Int)else 0))=.int U (if j<k+1 then(((AG S l).idxOf (l.getD j (0,0)):Nat):Int)else 0)):=fun ix e j=>by
        by_cases h:j=k
        . subst h
          rw[if_pos rfl,if_pos (Nat.lt_succ_self _),e]
        . rw[if_neg h]
          by_cases h1:j<k
          . rw[if_pos h1,if_pos (by omega)]
          . rw[if_neg h1,if_neg (by omega)]
      generalize hSk:AG S (l.take k)=Sk at *;generalize hp:l.getD k (0,0)=p at *;obtain⟨x,y⟩:=p;simp only at c0 c1
      obtain⟨vo,vc,rfl⟩:=HA.out.sp.shape;have hal:L wr.heap.size wr (wr.alloc (Q #[E U x,.int U y] 75)):=(qD _ _).alloc (qB _) _;have HAd:O (∀w2,L wr.heap.size wr w2->PlB w w2 base A lm w.heap.size n Sk Sk sv (.slice vo Sk.length vc) (.slice vo Sk.length vc) nv tv init many (fun j=>.int U (if j<k then(((AG S l).idxOf (l.getD j (0,0)):Nat):Int)else 0))):=fun w2 h=>HA.out.below h;obtain⟨q0,q1,q2,q3,q4,q5⟩:=C0 (HAd.out _ hal).box;have s0:(wr.alloc (Q #[E U x,.int U y] 75)).cell? ⟨wr.heap.size,0,W⟩=V (.int U x):=by simp[go_sem]
      have s1:(wr.alloc (Q #[E U x,.int U y] 75)).cell? ⟨wr.heap.size,1,W⟩=V (.int U y):=by simp[go_sem]
      have hlk:=(HAd.out _ hal.drew).lies.look hIk;unfold Ef at hlk;simp only at hlk;by_cases hmem:(x,y)∈Sk
      . rw [if_pos hmem,decide_eq_true hmem] at hlk
        have HV:O (((AG S l).idxOf (x,y):Nat)=Sk.idxOf (x,y)):=by show _=_;rw[HD.out,JN hmem]
        have HT2:O (AG S (l.take (k+1))=Sk):=by show _=_;rw[HT.out,JN hmem]
        generalize Sk.idxOf (x,y)=ix at *;generalize hW1:wr.alloc (Q #[E U x,.int U y] 75)=W1 at *
        go_upto_region 5 with fail
        go_cut [8,9] (fun u8 u9 wx=>u8=.int U (ix:Nat)/\u9=.bool true/\wx=W1.drew)
        case first=>
          go_region_law (fail)
          all_goals go_wp2_with fail
          all_goals go_meet
          all_goals exact⟨rfl,rfl,rfl⟩
        case rest=>
          obtain⟨rfl,rfl,rfl⟩:=hcut;have hA6:=HAd.out _ hal.drew;have f0:=hA6.row.cell hlt;have f1:=hA6.row.frozen k;have HA7:=(show O _ from hA6.setR k (.int U (ix:Nat)));clear hA6 hlk;go_wp2_with fail
          go_roundw
          case rel=>
            refine⟨k+1,by omega,by go_num,.slice vo Sk.length vc,?_⟩;rw[HT2.out];have h8:=HA7.out;exact⟨h8.box,h8.lies,h8.sp,h8.row.congr (fun j _=>HRow.out ix HV.out j),h8.chg,h8.own,h8.hR⟩
          case measure=>simp[intOf];omega
      . rw [if_neg hmem,decide_eq_false hmem] at hlk
        have HV:O (((AG S l).idxOf (x,y):Nat)=Sk.length):=by show _=_;rw[HD.out,MU hmem]
        have HT2:O (AG S (l.take (k+1))=Sk++[(x,y)]):=by show _=_;rw[HT.out,G3 hmem]
        obtain⟨w2,hput,hl2,hg2⟩:=(HAd.out _ hal.drew.drew).lies.put hIk hmem (by unfold maxLen;omega);have hA2:=(HAd.out _ hal.drew.drew).map hg2 hl2;rw[G3 hmem]at hA2;have HA2:O (∀w3,L w2.heap.size w2 w3->PlB w w3 base A lm w.heap.size n (Sk++[(x,y)]) Sk sv (.slice vo Sk.length vc) (.slice vo Sk.length vc) nv tv init many (fun j=>.int U (if j<k then(((AG S l).idxOf (l.getD j (0,0)):Nat):Int)else 0))):=fun w3 h=>hA2.below h;have s2:w2.cell? ⟨wr.heap.size,0,W⟩=V (.int U x)/\w2.cell? ⟨wr.heap.size,1,W⟩=V (.int U y):=by
          have hne:V wr.heap.size≠V lm:=by
            have:=(HAd.out wr (qD _ _)).lies.lt;intro e;injection e with e;omega
          have hbk:=hg2.block wr.heap.size (World.block_lt_of_cell? _ _ s0) hne;exact⟨(World.cell?_of_block hbk).trans s0,(World.cell?_of_block hbk).trans s1⟩
        obtain⟨s20,s21⟩:=s2;unfold Ef at hput;simp only at hput;clear hl2 hg2 hA2;generalize hW1:wr.alloc (Q #[E U x,.int U y] 75)=W1 at *
        go_upto_region 5 with fail
        go_cut [8,9] (fun u8 u9 wx=>u8=.int U 0/\u9=.bool F/\wx=W1.drew)
        case first=>
          go_region_law (fail)
          all_goals go_wp2_with fail
          all_goals go_meet
          all_goals exact⟨rfl,rfl,rfl⟩
        case rest=>
          obtain⟨rfl,rfl,rfl⟩:=hcut;go_upto_region 8 with fail
          go_cut [] (fun wx=>wx=w2)
          case first=>
            go_region_law (fail)
            all_goals go_wp2_with fail
            all_goals go_meet
            all_goals rfl
          case rest=>
            obtain rfl:=hcut;clear hput hlk;obtain⟨i0,hi,hz0,hz1,hz2⟩:=info_parts Il;have hbA:L wc.heap.size wc (wc.drew.alloc (Q #[E U x,.int U y] 75)):=((qD _ _).drew).alloc (qB _) _;have hown9:World.ownsRow (wc.drew.alloc (Q #[E U x,.int U y] 75)) base 75 2 (.slice vo Sk.length vc) Sk.length (flat Sk):=(HA2.out _ hbA).sp;have hbase9:base<=(wc.drew.alloc (Q #[E U x,.int U y] 75)).heap.size:=qI HXt.out.base_le (HA2.out _ hbA).chg.size;have HApp:O (∀g cap w9,World.ownsRow w9 base 75 2 (Y (V ⟨g,0,W⟩) (Sk.length+1) cap) (Sk.length+1) (flat Sk++[.int U x,.int U y])->(wc.drew.alloc (Q #[E U x,.int U y] 75)).grownBy w9 (Value.slice vo Sk.length vc).ownBlock->((Value.slice vo Sk.length vc).ownBlock=V g\/g=(wc.drew.alloc (Q #[E U x,.int U y] 75)).heap.size)->PlB w w9 base A lm w.heap.size n (Sk++[(x,y)]) (Sk++[(x,y)]) sv (.slice vo Sk.length vc) (Y (V ⟨g,0,W⟩) (Sk.length+1) cap) nv tv init many (fun j=>.int U (if j<k then(((AG S l).idxOf (l.getD j (0,0)):Nat):Int)else 0))):=fun g cap w9 h1 h2 h3=>by
              refine(HA2.out _ hbA).app h2 ?_ ?_
              . unfold SpO
                rw[Fb,qF];exact h1
              . rcases h3 with h|h
                . exact .inl (by rw[h];rfl)
                . exact .inr ⟨g,rfl,by have:=(HA2.out _ hbA).chg.size;omega⟩
            obtain⟨p0,_,_,_,_,_⟩:=C0 (HA2.out wc (qD _ _)).box;have p0':(wc.drew.alloc (Q #[E U x,.int U y] 75)).cell? ⟨A,0,W⟩=V (.slice vo Sk.length vc):=(C0 (HA2.out _ hbA).box).1;have hnews:∀j u,[Value.int .i64 x,Value.int .i64 y][j]? = V u->(wc.drew.alloc (Q #[E U x,.int U y] 75)).cell? ((⟨wc.heap.size,0,W⟩:Addr).add j)=V u:=C9 wc.drew _ _ _;have HSl:O (∀m:Nat,m=Sk.length->m+1<=1000000001):=fun m e=>by show _<=_;omega
            generalize hWA:wc.drew.alloc (Q #[E U x,.int U y] 75)=WA at *;have hsk9:Sk.length<=1000000000:=by omega
            go_upto_region 9 with fail
            go_region_law (first
              |(refine step_append_lies _ (by rfl) (.tmp 48) (.tmp 50) 37 (by rfl) base 75 i0 _ 2 16 Tryz.underlying37 hi hz0 hz1 hz2 (by rfl) (by decide) (.slice vo Sk.length vc) Sk.length (flat Sk) (by rfl) hown9 ⟨wc.heap.size,0,W⟩ 1 1 [.int U x,.int U y] (by rfl) (by rfl) hnews (by intro u hu;simp at hu;rcases hu with rfl|rfl<;>rfl) (by decide) (by unfold maxLen;omega) (by omega) hbase9 _ rfl ?_;intro g9 cap9 w9 hown hgrow hat hlt9;have hA9:=HApp.out g9 cap9 w9 hown hgrow hat;have z0:=(C0 hA9.box).1;have zf:=IE hA9.box 0;have hA10:=hA9.setA;have f0:=hA10.row.cell hlt;have f1:=hA10.row.frozen k;have HA9:=(show O _ from hA10.setR k (.int U (Sk.length:Nat)));clear hA9 hA10 hown hgrow hat))
            all_goals go_wp2_with fail
            all_goals go_roundw
            all_goals first
              | (refine ⟨k+1,by omega,by go_num,Y (V ⟨g9,0,W⟩) (Sk.length+1) cap9,?_⟩
                 rw[HT2.out];have h8:=HA9.out;exact⟨h8.box,h8.lies,h8.sp,h8.row.congr (fun j _=>HRow.out _ HV.out j),h8.chg,h8.own,h8.hR⟩)
              |(simp[intOf];omega)
    . obtain rfl:k=n:=by omega
      have HF:O (PlB w wr base A lm w.heap.size k (AG S l) (AG S l) sv svk svk nv tv init many (fun j=>.int U (if j<k then(((AG S l).idxOf (l.getD j (0,0)):Nat):Int)else 0))):=by
        have:=HA.out;rw[List.take_of_length_le (by rw[HN.out];exact qB _)]at this;exact this
      clear HA;go_wp2_with fail
      go_ret;have h:=HF.out;obtain⟨cs,hcs,_⟩:=id h.row;refine⟨rfl,svk,HXt.out.put h.chg h.box h.lies h.sp,⟨V ⟨w.heap.size,0,W⟩,k,by rw[G2,HN.out],fun _=>⟨w.heap.size,0,rfl,h.row.lt,fun i hi=>?_⟩⟩,fun a n c e=>?_,h.chg,h.own⟩
      . rw[G2,HN.out]at hi
        rw[Nat.zero_add,h.row.cell hi,if_pos hi,MS (by rw[HN.out];exact hi)]
      . injection e with e _ _
        injection e with e;subst e;exact⟨cs,(0,0),hcs⟩
variable{Pz:Nat -> Prop}
theorem V6(w:M):(zeroValue 175).run qA w=.ok (H #[ZY F]) w:=by kernel_rfl
theorem QI{l:List (Int×Int)}{x y y':List Bool}{c d d':Int}(hl:y.length=y'.length)(ht:BH l y d=0)(ht':BH l y' d'=0)(e:Ee l (tru l y d)=Ee l (tru l y' d')):A9 l x c y d=A9 l x c y' d':=by
 have hf:Bp l x c y d=Bp l x c y' d':=by unfold Bp;rw[hl,ht,ht']
 unfold A9;rw[hf];split
 .exact decide_eq_decide.2 (QM e)
 .rfl
def KP(Pz:Nat->Prop)(w0 w:M)(B bs bl n:Nat)(va vr pv fv:J)(m:Mo)(ps:List (List (Int×Int)))(l:List (Int×Int))(ho:Option Addr)(hc:Nat)(b:Bool)(e:Ending)(w':M):Prop:=
 e=I (C #[ZY b,.int U 0])/\Sk bs bl w w'/\O (SvOk Pz w0 w' B bs bl (n+1) va vr pv fv m ps l ho hc)
def Li8(w:M)(g:Nat)(y0 y1 y2 y3 y4 y5:Bool)(c s:Int):Prop:=w.cell? ⟨g,0,W⟩=V (.bool y0)/\w.cell? ⟨g,1,W⟩=V (.bool y1)/\w.cell? ⟨g,2,W⟩=V (.bool y2)/\w.cell? ⟨g,3,W⟩=V (.bool y3)/\w.cell? ⟨g,4,W⟩=V (.bool y4)/\w.cell? ⟨g,5,W⟩=V (.bool y5)/\w.cell? ⟨g,6,W⟩=V (.int U c)/\w.cell? ⟨g,7,W⟩=V (.int U s)
theorem Li8.of{w:M}{g:Nat}{y0 y1 y2 y3 y4 y5:Bool}{c s:Int}{t:TypeId}(h:w.heap[g]? = V (Q #[ZY y0,.bool y1,.bool y2,.bool y3,.bool y4,.bool y5,.int U c,.int U s] t (0,0))):Li8 w g y0 y1 y2 y3 y4 y5 c s:=by
 refine⟨?_,?_,?_,?_,?_,?_,?_,?_⟩<;>simp[World.cell?,h]
theorem Li8.later{w w':M}{g:Nat}{y0 y1 y2 y3 y4 y5:Bool}{c s:Int}(h:Li8 w g y0 y1 y2 y3 y4 y5 c s)(hg:g<w.heap.size)(hb:L w.heap.size w w'):Li8 w' g y0 y1 y2 y3 y4 y5 c s:=by
 obtain⟨h0,h1,h2,h3,h4,h5,h6,h7⟩:=h;exact⟨(hb.cell (p:=⟨g,0,W⟩) hg).trans h0,(hb.cell (p:=⟨g,1,W⟩) hg).trans h1,(hb.cell (p:=⟨g,2,W⟩) hg).trans h2,(hb.cell (p:=⟨g,3,W⟩) hg).trans h3,(hb.cell (p:=⟨g,4,W⟩) hg).trans h4,(hb.cell (p:=⟨g,5,W⟩) hg).trans h5,(hb.cell (p:=⟨g,6,W⟩) hg).trans h6,(hb.cell (p:=⟨g,7,W⟩) hg).trans h7⟩
theorem QO(w0 w:M)(B bs bl n:Nat)(va vr pv fv:J)(m:Mo)(ps:List (List (Int×Int)))(l:List (Int×Int))(ho:Option Addr)(hc:Nat)(x y:List Bool)(c d:Nat)(lo no so lo2 no2 so2:Option Addr)(lc nn nc sc lc2 nn2 nc2 sc2:Nat)
  (hB:0<w0.heap.size) (hT:AH w0) (hV:TaskV w0 va vr pv fv m ps l) (hk:Af m ps l=0) (hS:SvOk Pz w0 w B bs bl n va vr pv fv m ps l ho hc) (hn:n<1000000000000)
  (hx:BoolsV w (.slice lo ps.length lc) x) (hy:BoolsV w (.slice lo2 ps.length lc2) y) (hsg:IntsV w (.slice so2 (2^(AA l).length) sc2) (sgL l y)) (hxl:x.length=ps.length) (hyl:y.length=ps.length) (hcN:c<2^(AA l).length) (hdN:d<2^(AA l).length) :
  ZZ qA 53 #[G (V ⟨B,0,W⟩),H #[.slice lo ps.length lc,Y no nn nc,.slice so (2^(AA l).length) sc],.int U (c:Int),H #[.slice lo2 ps.length lc2,Y no2 nn2 nc2,.slice so2 (2^(AA l).length) sc2],.int U (d:Int)] w (KP Pz w0 w B bs bl n va vr pv fv m ps l ho hc (A9 l x (c:Int) y (d:Int))):=by
 obtain⟨hp0,hl0⟩:=Ba hk;obtain⟨_,hps6⟩:=Cj hp0;obtain⟨_,_,hz,_,h6⟩:=CC hl0;obtain⟨fo,fc,rfl,_⟩:=id hV.fo;have hN64:2^(AA l).length<=64:=vG (show 0<2 by decide) h6;have htc:∀(z:List Bool) (k:Nat),z.length=ps.length->k<2^(AA l).length->BH l z (k:Int)=0:=fun z k hz1 hk1=>by
  refine EC (by rw[hz1];exact hl0) fun hno=>?_;unfold B8 at hno;have:((2^(AA l).length:Nat):Int)=(2:Int)^(AA l).length:=by push_cast;rfl
  rcases hno with hno|hno
  .omega
  .rw[<-this]at hno;omega
 obtain⟨g0,hg0,hgl⟩:=hS.li;obtain⟨sb,soff,rfl,hsb,hsat⟩:∃sb soff,so2=V ⟨sb,soff,W⟩/\sb<w.heap.size/\w.cell? ⟨sb,soff+d,W⟩=V (.int U (Dl l y d)):=by
  obtain⟨ao,cap,e1,h1⟩:=hsg;injection e1 with e1 _ _;subst e1;obtain⟨b,off,rfl,hb,hat⟩:=h1 (by intro e;have:=congrArg List.length e;rw[NB]at this;simp at this);refine⟨b,off,rfl,hb,?_⟩;have:=hat d (by rw[NB];exact hdN);rw[this,UT hdN]
 obtain⟨sg,hsgd⟩:∃sg,Dl l y d=sg:=⟨_,rfl⟩;have hsgb:-9223372036854775808<=sg/\sg<=9223372036854775807:=by
  obtain⟨b0,b1⟩:=Hb l (tru l y (d:Int)) (AA l).length;have e:sg=CF l (tru l y (d:Int)) (AA l).length:=by rw[<-hsgd];rfl
  have:((2^(AA l).length:Nat):Int)=(2:Int)^(AA l).length:=by push_cast;rfl
  rw[<-this]at b1;omega
 rw[hsgd]at hsat;obtain⟨W3,hW3⟩:∃W3,W3=((w.alloc (Q #[.slice lo ps.length lc,Y no nn nc,.slice so (2^(AA l).length) sc] 133)).alloc (Q #[.slice lo2 ps.length lc2,Y no2 nn2 nc2,Y (V ⟨sb,soff,W⟩) (2^(AA l).length) sc2] 133)).alloc (Q #[ZY F,.bool F,.bool F,.bool F,.bool F,.bool F,.int U (c:Int),.int U sg] 173):=⟨_,rfl⟩;have hb3:L w.heap.size w W3:=by rw[hW3];exact(((qD _ _).alloc (qB _) _).alloc (by simp) _).alloc (by simp;omega) _
 have hz3:W3.heap.size=w.heap.size+3:=by rw[hW3];simp
 have hg3:W3.heap[w.heap.size+2]? = V (Q #[ZY F,.bool F,.bool F,.bool F,.bool F,.bool F,.int U (c:Int),.int U sg] 173 (0,0)):=by
  rw[hW3];have:=(MapKept.heap_alloc ((w.alloc (Q #[.slice lo ps.length lc,Y no nn nc,.slice so (2^(AA l).length) sc] 133)).alloc (Q #[.slice lo2 ps.length lc2,Y no2 nn2 nc2,Y (V ⟨sb,soff,W⟩) (2^(AA l).length) sc2] 133)) (Q #[ZY F,.bool F,.bool F,.bool F,.bool F,.bool F,.int U (c:Int),.int U sg] 173)).1;simpa using this
 obtain⟨w4,y0,y1,y2,y3,y4,y5,hcopy,hsix,hg4,hgr4⟩:=PR W3.drew (w.heap.size+2) lo ps.length lc x (c:Int) sg 173 3 (hx.below hb3.drew) hxl hps6 hg3;have hb4:L w.heap.size w w4:=⟨hgr4.os.trans hb3.os,hgr4.tape.trans hb3.tape,hgr4.output.trans hb3.output,qI hb3.size hgr4.size,fun i hi=>(hgr4.block i (qE hi hb3.size) (by intro e;injection e with e;omega)).trans (hb3.block i hi)⟩;have hli4:=Li8.of hg4;have hlv:E8 x (c:Int) sg=H #[ZY y0,.bool y1,.bool y2,.bool y3,.bool y4,.bool y5,.int U (c:Int),.int U sg]:=by unfold E8;rw[hsix];rfl
 obtain⟨kl,hkl⟩:=RD y0 y1 y2 y3 y4 y5 (c:=(c:Int)) (s:=sg) (by omega) hsgb;have hz4:w.heap.size+3<=w4.heap.size:=by have:=hgr4.size;have e:W3.drew.heap.size=W3.heap.size:=rfl;omega
 have hk4:L (w.heap.size+2) W3 w4:=⟨hgr4.os,hgr4.tape,hgr4.output,hgr4.size,fun i hi=>hgr4.block i (by show i<W3.heap.size;omega) (by intro e;injection e with e;omega)⟩;have HBx:O (∀w',L (w.heap.size+2) W3 w'->w'.cell? ⟨w.heap.size,0,W⟩=V (.slice lo ps.length lc)/\w'.cell? ⟨w.heap.size+1,0,W⟩=V (.slice lo2 ps.length lc2)):=fun w' h=>by
  refine⟨(h.cell (p:=⟨w.heap.size,0,W⟩) (by show w.heap.size<_;omega)).trans ?_,(h.cell (p:=⟨w.heap.size+1,0,W⟩) (by show w.heap.size+1<_;omega)).trans ?_⟩<;>(rw[hW3];simp[go_sem])
 have hs2:∀o1 o2,((w.alloc o1).alloc o2).cell? ⟨sb,soff+d,W⟩=V (.int U sg):=fun o1 o2=>(Below.cell (p:=⟨sb,soff+d,W⟩) (((qD w.heap.size w).alloc (qB _) o1).alloc (by simp) o2) hsb).trans hsat;have HLk:O (∀w',w'.heap[bl]? = w.heap[bl]?->(Instr.lookup 66 (.map (V bl)) (H #[ZY y0,.bool y1,.bool y2,.bool y3,.bool y4,.bool y5,.int U (c:Int),.int U sg]) true).run qA w'=.ok (C #[(g0 kl).getD (H #[ZY F]),.bool (g0 kl).isSome]) w'):=fun w' h=>(hg0.kept h).look Gj Tryz.underlying66 (V6 _) hkl;have HS6:O (∀w',L w.heap.size w w'->w'.cell? ⟨B,3,W⟩=V (.slice fo l.length fc)/\w'.cell? ⟨B,6,W⟩=V (.map (V bl))):=fun w' h=>⟨(hS.box.later h).c3,(hS.box.later h).c6⟩;have hbl:bl<w.heap.size:=hg0.lt;have hdi:(d:Int)<((2^(AA l).length:Nat):Int):=by omega
 have HLi:O (∀w',L w4.heap.size w4 w'->Li8 w' (w.heap.size+1+1) y0 y1 y2 y3 y4 y5 (c:Int) sg):=fun w' h=>hli4.later (by omega) h;unfold KP;cases hgk:g0 kl with
 |some v=>
  obtain⟨x',c',sg',b,hx'l,hkl',rfl,hall⟩:=hgl kl v hgk;have hinj:=Gj.inj hkl' (hlv▸hkl);obtain⟨rfl,rfl,rfl⟩:=Rd (hx'l.trans hxl.symm) hinj;have hbv:A9 l x' (c:Int) y (d:Int)=b:=hall y (d:Int) hyl (htc y d hyl hdN) (by rw[<-hsgd];rfl);rw[hbv];have HLk2:O (∀w',w'.heap[bl]? = w.heap[bl]?->(Instr.lookup 66 (.map (V bl)) (H #[ZY y0,.bool y1,.bool y2,.bool y3,.bool y4,.bool y5,.int U (c:Int),.int U sg']) true).run qA w'=.ok (C #[H #[ZY b],.bool true]) w'):=fun w' h=>by have:=HLk.out w' h;rw[hgk]at this;exact this
  have HFin:O (∀w',L w.heap.size w w'->Sk bs bl w w'/\SvOk Pz w0 w' B bs bl (n+1) va vr pv (.slice fo l.length fc) m ps l ho hc):=fun w' h=>⟨Sk.of h,(hS.below h).mono (Nat.le_succ _)⟩;generalize ps.length=pn at *;generalize 2^(AA l).length=N at *;generalize l.length=fn at *;clear HLk hS hgl hg0 hall hbv hT hV hx hy hsg htc hli4 hkl' hlv hkl hinj hgr4 hg3 hsix
  go_enter Tryz.func53,Tryz.ntmps53;go_wp2_with fail
  rw[<-hW3];obtain⟨u0,u1⟩:=HBx.out W3 (qD _ _);obtain⟨v0,v1⟩:=HBx.out w4 hk4;clear hW3;go_region_held3 (fun w'=>w'.cell? ⟨w.heap.size,0,W⟩=V (Y lo pn lc))
   (first|exact u0|exact v0)
   (fail)
  have hbl4:w4.heap[bl]? = w.heap[bl]?:=hb4.block bl hbl;obtain⟨_,q6⟩:=HS6.out w4 hb4;obtain⟨i0,i1,i2,i3,i4,i5,i6,i7⟩:=HLi.out w4 (qD _ _);clear u0 u1 v0 v1 hs2 HBx;go_wp2_with fail
  go_cut [13,14] (fun u13 u14 w'=>∃g13,u13=G (V ⟨g13,0,W⟩)/\u14=.bool true/\L w4.heap.size w4 w'/\w'.cell? ⟨g13,0,W⟩=V (.bool b))
  case first=>
   have hal:L w4.heap.size w4 (w4.alloc (Q #[ZY F] 175)):=(qD _ _).alloc (qB _) _;have hlA:=HLk2.out w4.drew hbl4;have hlB:=HLk2.out (w4.alloc (Q #[ZY F] 175)).drew ((hal.block bl (qE hbl hb4.size)).trans hbl4);obtain⟨_,q6'⟩:=HS6.out _ (hb4.trans (hal.mono hb4.size));obtain⟨j0,j1,j2,j3,j4,j5,j6,j7⟩:=HLi.out _ hal;go_region_law (fail)
   all_goals go_wp2_with fail
   all_goals go_meet
   all_goals exact⟨_,rfl,rfl,((qD _ _).alloc (qB _) _).drew,by simp[go_sem]⟩
  case rest=>
   obtain⟨g13,rfl,rfl,hb5,d0⟩:=hcut;have hbF:=hb4.trans (hb5.mono hb4.size);go_wp2_with fail
   go_ret2;obtain⟨r1,r2⟩:=HFin.out _ hbF;exact⟨rfl,r1,r2⟩
 |none=>
  have HLk2:O (∀w',w'.heap[bl]? = w.heap[bl]?->(Instr.lookup 66 (.map (V bl)) (H #[ZY y0,.bool y1,.bool y2,.bool y3,.bool y4,.bool y5,.int U (c:Int),.int U sg]) true).run qA w'=.ok (C #[H #[ZY F],.bool F]) w'):=fun w' h=>by have:=HLk.out w' h;rw[hgk]at this;exact this
  have hfc:Bp l x (c:Int) y (d:Int)=0:=by
   unfold Bp;rw[if_neg (by rw[hxl,hyl];simp),if_neg (by rw[htc x c hxl hcN];simp)];exact htc y d hyl hdN
  have HFo:O (∀w',L w.heap.size w w'->ZZ qA 75 #[.slice fo l.length fc,.slice lo ps.length lc,.int U (c:Int),.slice lo2 ps.length lc2,.int U (d:Int)] w' fun e w''=>e=I (C #[ZY (A9 l x (c:Int) y (d:Int)),.int U 0])/\L w'.heap.size w' w''):=fun w' h=>by
   have h0:=hS.bel.trans (h.mono hS.bel.size);have:=Rc _ _ _ l x y (c:Int) (d:Int) w' (qE hB h0.size) (hT.below h0 hB) (hV.fo.below h0) (hx.below h) (hy.below h);rw[hfc]at this;exact this
  have hLO:F4 ps l kl (H #[ZY (A9 l x (c:Int) y (d:Int))]):=⟨x,(c:Int),sg,_,hxl,hlv▸hkl,rfl,fun y' d' h1 h2 h3=>QI (h1.trans hyl.symm) h2 (htc y d hyl hdN) (h3.trans (by rw[<-hsgd];rfl))⟩;have HPut:O (∀w',L w.heap.size w w'->∃w'',(Instr.mapUpdate 66 (.map (V bl)) (H #[ZY y0,.bool y1,.bool y2,.bool y3,.bool y4,.bool y5,.int U (c:Int),.int U sg]) (H #[ZY (A9 l x (c:Int) y (d:Int))])).run qA w'.drew=.ok () w''/\w'.grownBy w'' (V bl)/\Sk bs bl w w''/\SvOk Pz w0 w'' B bs bl (n+1) va vr pv (.slice fo l.length fc) m ps l ho hc):=fun w' h=>by
   have hm1:MapIs w'.drew 173 bl n g0:=hg0.kept (h.block _ hg0.lt);obtain⟨w'',h1,h2,h3⟩:=hm1.put Gj Tryz.underlying66 (by unfold maxLen;omega) (val:=H #[ZY (A9 l x (c:Int) y (d:Int))]) hkl (Gj.key hkl);have h4:w'.grownBy w'' (V bl):=⟨h3.os,h3.tape,h3.output,h3.size,h3.block⟩;exact⟨w'',h1,h4,(Sk.of h).trans (Sk.grown h4 (.inr rfl)),(hS.below h).putL h4 hgl h2 hLO⟩
  generalize A9 l x (c:Int) y (d:Int)=b at *;generalize ps.length=pn at *;generalize 2^(AA l).length=N at *;generalize l.length=fn at *;clear HLk hS hgl hg0 hT hV hx hy hsg htc hli4 hlv hkl hgr4 hg3 hsix hLO hfc
  go_enter Tryz.func53,Tryz.ntmps53;go_wp2_with fail
  rw[<-hW3];obtain⟨u0,u1⟩:=HBx.out W3 (qD _ _);obtain⟨v0,v1⟩:=HBx.out w4 hk4;clear hW3;go_region_held3 (fun w'=>w'.cell? ⟨w.heap.size,0,W⟩=V (Y lo pn lc))
   (first|exact u0|exact v0)
   (fail)
  have hbl4:w4.heap[bl]? = w.heap[bl]?:=hb4.block bl hbl;obtain⟨_,q6⟩:=HS6.out w4 hb4;obtain⟨i0,i1,i2,i3,i4,i5,i6,i7⟩:=HLi.out w4 (qD _ _);clear u0 u1 v0 v1 hs2;go_wp2_with fail
  go_cut [13,14] (fun u13 u14 w'=>∃g13,u13=G (V ⟨g13,0,W⟩)/\u14=.bool F/\L w4.heap.size w4 w')
  case first=>
   have hal:L w4.heap.size w4 (w4.alloc (Q #[ZY F] 175)):=(qD _ _).alloc (qB _) _;have hlA:=HLk2.out w4.drew hbl4;have hlB:=HLk2.out (w4.alloc (Q #[ZY F] 175)).drew ((hal.block bl (qE hbl hb4.size)).trans hbl4);obtain⟨_,q6'⟩:=HS6.out _ (hb4.trans (hal.mono hb4.size));obtain⟨j0,j1,j2,j3,j4,j5,j6,j7⟩:=HLi.out _ hal;go_region_law (fail)
   all_goals go_wp2_with fail
   all_goals go_meet
   all_goals exact⟨_,rfl,rfl,((qD _ _).alloc (qB _) _).drew⟩
  case rest=>
   obtain⟨g13,rfl,rfl,hb5⟩:=hcut;have hbF:=hb4.trans (hb5.mono hb4.size);have HSF:O (∀w',L wc.heap.size wc w'->w'.cell? ⟨B,3,W⟩=V (Y fo fn fc)/\w'.cell? ⟨w.heap.size,0,W⟩=V (Y lo pn lc)/\w'.cell? ⟨w.heap.size+1,0,W⟩=V (Y lo2 pn lc2)):=fun w' h=>by
    have h1:=hb5.trans (h.mono hb5.size);obtain⟨e1,e2⟩:=HBx.out w' (hk4.trans (h1.mono (by omega)));exact⟨(HS6.out w' (hbF.trans (h.mono hbF.size))).1,e1,e2⟩
   have hfo:=HFo.out _ hbF.drew;have hB0:L wc.heap.size wc wc:=qD _ _;go_wp2_with fail
   go_region_held3 (fun w'=>w'.cell? ⟨B,3,W⟩=V (Y fo fn fc)/\w'.cell? ⟨w.heap.size,0,W⟩=V (Y lo pn lc)/\w'.cell? ⟨w.heap.size+1,0,W⟩=V (Y lo2 pn lc2))
    (first|exact HSF.out _ hb6|exact HSF.out _ hB0.drew|exact HSF.out _ hB0)
    (first
     |(go_at_call 75;refine hfo.mono ?_;rintro e w6 ⟨rfl,hb6'⟩;have hb6:=hB0.drew.trans (hb6'.mono hB0.drew.size)))
   have hbG:=hbF.trans (hb6.mono hbF.size);obtain⟨w7,hput,hg7,r1,r2⟩:=HPut.out _ hbG;obtain⟨_,z6⟩:=HS6.out _ hbG;obtain⟨k0,k1,k2,k3,k4,k5,k6,k7⟩:=HLi.out w6 (hb5.trans (hb6.mono hb5.size));have HR:O (Sk bs bl w w7/\SvOk Pz w0 w7 B bs bl (n+1) va vr pv (Y fo fn fc) m ps l ho hc):=⟨r1,r2⟩;clear r1 r2 hg7 HPut;go_wp2_with fail
   go_region_law (fail)
   all_goals go_wp2_with fail
   all_goals go_ret2
   all_goals exact⟨rfl,HR.out.1,HR.out.2⟩
theorem Ui{l:List Int}(h:l.Nodup):Rise (l.mergeSort leB):=by
 have hp:(l.mergeSort leB).Pairwise (fun x y=>leB x y=true):=List.pairwise_mergeSort (le:=leB) (by intro a b c;simp only[leB,decide_eq_true_eq];omega) (by intro a b;simp only[leB,Bool.or_eq_true,decide_eq_true_eq];omega) l;have hn:(l.mergeSort leB).Nodup:=(xG l leB).nodup_iff.2 h;refine(hp.and hn).imp fun{a b} hab=>?_;have h1:a<=b:=by simpa[leB]using hab.1
 have h2:a≠b:=hab.2;omega
theorem Mv:∀{l:List Int} {lo N:Int},Rise l->(∀x∈l,lo<=x/\x<N)->lo<=N->(l.length:Int)<=N-lo
 |[],lo,N,_,_,h=>by simp;omega
 |x::l,lo,N,h1,h2,_=>by
  obtain⟨hx,t⟩:=List.pairwise_cons.1 h1;have h3:=h2 x (by simp);have:=Mv (lo:=x+1) (N:=N) t (fun y hy=>⟨by have:=hx y hy;omega,(h2 y (by simp[hy])).2⟩) (by omega);simp only[List.length_cons];omega
theorem MC{l:List Int}{N:Nat}(h:l.Nodup)(hi:∀x∈l,0<=x/\x<N):l.length<=N:=by
 have h1:=Mv (lo:=0) (N:=N) (Ui h) (fun x hx=>hi x ((xG l leB).mem_iff.1 hx)) (by omega);rw[List.length_mergeSort]at h1;omega
noncomputable def CU(l:List (Int×Int))(x:List Bool)(c:Int)(y:List Bool)(st:Int):Nat->List (Int×Int)
 |0=>[]
 |k+1=>if A9 l x c y (k:Int)=true then CU l x c y st k++[(st,(k:Int))]else CU l x c y st k
theorem Ih(l:List (Int×Int))(x:List Bool)(c:Int)(y:List Bool)(st:Int):∀k,(CU l x c y st k).length<=k
 |0=>qB _
 |k+1=>by
  rw[CU];have:=Ih l x c y st k;split
  .rw[qF,vW];omega
  .omega
noncomputable def C2(m:Mo)(ps:List (List (Int×Int)))(l:List (Int×Int))(code c:Int):Nat->List (Int×Int)
 |0=>[]
 |i+1=>C2 m ps l code c i++CU l (AJ m ps code) c (AJ m ps ((AL m code).getD i 0)) ((AL m code).getD i 0) (2^(AA l).length)
noncomputable def AZ(m:Mo)(ps:List (List (Int×Int)))(l:List (Int×Int))(code c:Int):List (Int×Int):=C2 m ps l code c (AL m code).length
theorem IK{m:Mo}{ps:List (List (Int×Int))}{l:List (Int×Int)}(h:2^(AA l).length<=64)(code c:Int):∀i,(C2 m ps l code c i).length<=i*64
 |0=>qB _
 |i+1=>by
  rw[C2,qF];have:=IK (m:=m) (ps:=ps) h code c i;have:=Ih l (AJ m ps code) c (AJ m ps ((AL m code).getD i 0)) ((AL m code).getD i 0) (2^(AA l).length);omega
theorem I5{m:Mo}(hm:mcode m=0){x:Int}(hx:0<=x/\x<AK m.vars m.vars.length){y:Int}(hy:y∈AL m x):0<=y/\y<AK m.vars m.vars.length:=by
 have h1:=((NZ _).2 y).1 hy;unfold G8 at h1;split at h1
 .simp at h1;subst h1;exact hx
 .obtain ⟨j,_,e⟩:=(TY (qB _) y).1 h1;exact T4 (Cv hm) e
theorem MB{m:Mo}(hm:mcode m=0){x:Int}(hx:0<=x/\x<AK m.vars m.vars.length):(AL m x).length<=4096:=by
 have h1:(AL m x).Nodup:=by
  have:=(NZ (G8 m x)).1;exact List.Pairwise.imp (fun{a b} h=>by omega) this
 have h2:=(Cv hm).prod (qB m.vars.length);have:=MC (N:=(AK m.vars m.vars.length).toNat) h1 (fun y hy=>by have:=I5 hm hx hy;omega);omega
theorem Sk.after{bs bl:Nat}{wb w w':M}(h:Sk bs bl wb w)(hb:L wb.heap.size w w'):Sk bs bl wb w':=
 ⟨hb.os.trans h.os,hb.tape.trans h.tape,hb.output.trans h.output,qI h.size hb.size,fun i hi h1 h2=>(hb.block i hi).trans (h.block i hi h1 h2)⟩
def Bx3(w:M)(b:Nat)(x y z:J):Prop:=(w.cell? ⟨b,0,W⟩=V x/\w.cell? ⟨b,1,W⟩=V y/\w.cell? ⟨b,2,W⟩=V z)/\Ag w (Y (V ⟨b,0,W⟩) 1 1) 133
theorem Bx3.new(w:M)(x y z:J):Bx3 (w.alloc (Q #[x,y,z] 133)) w.heap.size x y z:=by
 refine⟨(St3.new w x y z _).2.1,fun a n c e=>?_⟩;injection e with e _ _;injection e with e;subst e;exact⟨_,_,(MapKept.heap_alloc w _).1⟩
theorem Bx3.sk{bs bl:Nat}{w w':M}{b:Nat}{x y z:J}(h:Bx3 w b x y z)(hs:Sk bs bl w w')(hm:Cd w bs bl):Bx3 w' b x y z:=
 ⟨⟨hs.cell hm h.1.1,hs.cell hm h.1.2.1,hs.cell hm h.1.2.2⟩,h.2.sk hs hm⟩
theorem Bx3.grown{w w':M}{b:Nat}{x y z:J}{own:Option Nat}(h:Bx3 w b x y z)(hg:w.grownBy w' own)(ho:∀g,own=V g->∃cs fr,w.heap[g]? = V (Q cs 75 fr)):Bx3 w' b x y z:=by
 obtain⟨cs,fr,h1⟩:=h.2 _ _ _ rfl;have e:∀i v,w.cell? ⟨b,i,W⟩=V v->w'.cell? ⟨b,i,W⟩=V v:=fun i v hv=>by
  rw[World.cell?_of_block (hg.block b (qG.1 h1).1 (fun e2=>by
   obtain⟨cs',fr',h2⟩:=ho _ e2.symm;rw[h1]at h2;injection h2 with h2;injection h2 with _ h3 _;exact absurd h3 (by decide)))]
  exact hv
 exact⟨⟨e _ _ h.1.1,e _ _ h.1.2.1,e _ _ h.1.2.2⟩,h.2.grown hg (by decide) ho⟩
theorem Bx3.below{w w':M}{b:Nat}{x y z:J}(h:Bx3 w b x y z)(hb:L w.heap.size w w'):Bx3 w' b x y z:=by
 obtain⟨cs,fr,h1⟩:=h.2 _ _ _ rfl;have hlt:b<w.heap.size:=(qG.1 h1).1;exact⟨⟨(hb.cell (p:=⟨b,0,W⟩) hlt).trans h.1.1,(hb.cell (p:=⟨b,1,W⟩) hlt).trans h.1.2.1,(hb.cell (p:=⟨b,2,W⟩) hlt).trans h.1.2.2⟩,h.2.below hb⟩
theorem SpO.own{w:M}{base:Nat}{vo:Option Addr}{n cap:Nat}{x:List (Int×Int)}(h:SpO w base (Y vo n cap) x)(o:Obj):∀g,(Value.slice vo n cap).ownBlock=V g->base<=g/\∃cs fr,(w.alloc o).heap[g]? = V (Q cs 75 fr):=by
 intro g hg;rcases h.2 with⟨h0,_⟩|⟨g',cap',cur,h1,h2,h3,_⟩
 .rw[h0]at hg;simp[Value.ownBlock]at hg
 .rw[h1]at hg;simp[Value.ownBlock]at hg;subst hg;exact⟨h2,cur,_,(Below.heap_alloc w o g' (qG.1 h3).1).trans h3⟩
variable{Pz:Nat -> Prop}
theorem R2(w0 w:M)(B bs bl n:Nat)(va vr pv fv:J)(m:Mo)(ps:List (List (Int×Int)))(l:List (Int×Int))(ho:Option Addr)(hc:Nat)(code:Int)(c:Nat)(hI:-9223372036854775808<=code/\code<=9223372036854775807)(hB:0<w0.heap.size)(hT:AH w0)(hV:TaskV w0 va vr pv fv m ps l)(hk:Af m ps l=0)(hS:SvOk Pz w0 w B bs bl n va vr pv fv m ps l ho hc)(hn:n+300000<1000000000000)(hcr:0<=code/\code<AK m.vars m.vars.length)(hcN:c<2^(AA l).length) :
  ZZ qA 34 #[G (V ⟨B,0,W⟩),H #[E U code,.int U (c:Int)]] w fun e w'=>e=I (C #[E U (B1 l (AJ m ps code) (c:Int)),.int U 0])/\Sk bs bl w w'/\O (SvOk Pz w0 w' B bs bl (n+1) va vr pv fv m ps l ho hc):=by
 obtain⟨hp0,hl0⟩:=Ba hk;obtain⟨hm0,_⟩:=Cj hp0;have hw:=ED hm0 hcr;obtain⟨fo,fc,rfl,_⟩:=id hV.fo;have htc:BH l (AJ m ps code) (c:Int)=0:=by
  refine EC (by rw[(FI hk hcr).2];exact hl0) fun hno=>?_;unfold B8 at hno;have:((2^(AA l).length:Nat):Int)=(2:Int)^(AA l).length:=by push_cast;rfl
  rcases hno with hno|hno
  .omega
  .rw[<-this]at hno;omega
 obtain⟨W1,hW1⟩:∃W1,W1=w.alloc (Q #[E U code,.int U (c:Int)] 75):=⟨_,rfl⟩;have hb1:L w.heap.size w W1:=by rw[hW1];exact(qD _ _).alloc (qB _) _
 have hs1:W1.cell? ⟨w.heap.size,0,W⟩=V (.int U code)/\W1.cell? ⟨w.heap.size,1,W⟩=V (.int U (c:Int)):=by rw[hW1];constructor<;>simp[go_sem]
 have hS1:=hS.below hb1;have hst:=Jk w0 W1 B bs bl n va vr pv (.slice fo l.length fc) m ps l ho hc code hI hB hT hV hk hS1 (by omega);have hst2:ZZ qA 52 #[G (V ⟨B,0,W⟩),.int U code] W1 fun e w'=>∃lo lc no nn nc so sn sc,e=I (C #[H #[.slice lo ps.length lc,Y no nn nc,Y so sn sc],.int U 0])/\O (∀w2,L w'.heap.size w' w2->Sk bs bl w w2/\SvOk Pz w0 w2 B bs bl (n+1) va vr pv (.slice fo l.length fc) m ps l ho hc/\w2.cell? ⟨B,3,W⟩=V (.slice fo l.length fc)/\w2.cell? ⟨w.heap.size,0,W⟩=V (.int U code)/\w2.cell? ⟨w.heap.size,1,W⟩=V (.int U (c:Int))/\ZZ qA 54 #[.slice fo l.length fc,.slice lo ps.length lc,.int U (c:Int)] w2 fun e w3=>e=I (C #[E U (B1 l (AJ m ps code) (c:Int)),.int U 0])/\L w2.heap.size w2 w3):=hst.mono fun e w' ⟨h1,h2,h3⟩=>by
  rcases h3 with⟨_,lo,lc,no,nc,so,sc,h4,h5⟩|⟨h4,_⟩
  .refine ⟨lo,lc,no,_,nc,so,_,sc,h4,fun w2 hb2=>?_⟩;have hsk:=(h1.trans (Sk.of hb2));have hS2:=h2.out.below hb2;obtain⟨lo',lc',no',nc',so',sc',e5,hx,_⟩:=h5.out;injection e5 with e5;simp only[Array.mk.injEq,List.cons.injEq,and_true]at e5;rw[<-e5.1]at hx;have h0:=hS2.bel;have hme:=Rf (.slice fo l.length fc) (.slice lo ps.length lc) l (AJ m ps code) (c:Int) w2 (qE hB h0.size) (hT.below h0 hB) (hV.fo.below h0) (hx.below hb2);rw[htc]at hme;exact⟨(Sk.of hb1).trans hsk,hS2,hS2.box.c3,hsk.cell hS1.two hs1.1,hsk.cell hS1.two hs1.2,hme⟩
  .exact absurd hw h4
 clear hst hS hT hV hk hw hS1 htc hp0 hl0 hm0;have HW1:O (W1=w.alloc (Q #[E U code,.int U (c:Int)] 75)):=hW1;generalize B1 l (AJ m ps code) (c:Int)=mm at *;generalize ps.length=pn at *;generalize l.length=fn at *
 go_enter Tryz.func34,Tryz.ntmps34;go_wp2_with (first|(go_at_call 52;rw[<-hW1];refine hst2.mono ?_;rintro e w2 ⟨lo,lc,no,nn,nc,so,sn,sc,rfl,HR⟩))
 have hb2:∀o,L w2.heap.size w2 (w2.alloc o):=fun o=>(qD _ _).alloc (qB _) o;generalize hw3:w2.alloc (Q #[Y lo pn lc,Y no nn nc,Y so sn sc] 133)=w3 at *;have hb3:L w2.heap.size w2 w3:=by rw[<-hw3];exact hb2 _
 have q0:w3.cell? ⟨w2.heap.size,0,W⟩=V (Y lo pn lc):=by rw[<-hw3];simp[go_sem]
 have hlt3:w2.heap.size<w3.heap.size:=World.block_lt_of_cell? _ _ q0;have HSF:O (∀w',L w3.heap.size w3 w'->w'.cell? ⟨B,3,W⟩=V (Y fo fn fc)/\w'.cell? ⟨w2.heap.size,0,W⟩=V (Y lo pn lc)/\w'.cell? ⟨w.heap.size,1,W⟩=V (.int U (c:Int))):=fun w' h=>by
  obtain⟨_,_,q3,_,q1,_⟩:=HR.out w' (hb3.trans (h.mono hb3.size));exact⟨q3,(h.cell (p:=⟨w2.heap.size,0,W⟩) hlt3).trans q0,q1⟩
 have hB0:L w3.heap.size w3 w3:=qD _ _;obtain⟨_,_,_,_,_,hme⟩:=HR.out w3.drew hb3.drew;clear hw3 hb2 q0 hst2 hs1 hW1;go_region_held3 (fun w'=>w'.cell? ⟨B,3,W⟩=V (Y fo fn fc)/\w'.cell? ⟨w2.heap.size,0,W⟩=V (Y lo pn lc)/\w'.cell? ⟨w.heap.size,1,W⟩=V (.int U (c:Int)))
  (first|exact HSF.out _ hb6|exact HSF.out _ hB0.drew|exact HSF.out _ hB0)
  (first|(go_at_call 54;refine hme.mono ?_;rintro e w6 ⟨rfl,hb6'⟩;have hb6:=hB0.drew.trans (hb6'.mono hB0.drew.size)))
 go_wp2_with fail
 go_ret2;obtain⟨r1,r2,_⟩:=HR.out _ (hb3.trans (hb6.mono hb3.size));exact⟨rfl,r1,r2⟩
variable{Pz:Nat -> Prop}
def KK(Pz:Nat->Prop)(w0 w:M)(B bs bl n:Nat)(va vr pv fv:J)(m:Mo)(ps:List (List (Int×Int)))(l:List (Int×Int))(ho:Option Addr)(hc:Nat)(code c:Int)(e:Ending)(w':M):Prop:=
 Sk bs bl w w'/\O (SvOk Pz w0 w' B bs bl (n+300000) va vr pv fv m ps l ho hc)/\((As m code=0/\∃so sc,e=I (C #[.slice so (AZ m ps l code c).length sc,.int U 0])/\O (SpO w' w.heap.size (.slice so (AZ m ps l code c).length sc) (AZ m ps l code c)))\/(As m code≠0/\e=I (C #[Y W 0 0,.int U (As m code)])))
theorem Od(w0 w:M)(B bs bl n:Nat)(va vr pv fv:J)(m:Mo)(ps:List (List (Int×Int)))(l:List (Int×Int))(ho:Option Addr)(hc:Nat)(code:Int)(c:Nat)(hI:-9223372036854775808<=code/\code<=9223372036854775807)(hB:0<w0.heap.size)(hT:AH w0)(hV:TaskV w0 va vr pv fv m ps l)(hk:Af m ps l=0)(hS:SvOk Pz w0 w B bs bl n va vr pv fv m ps l ho hc)(hn:n+300000<1000000000000)(hcr:0<=code/\code<AK m.vars m.vars.length)(hcN:c<2^(AA l).length) :
  ZZ qA 33 #[G (V ⟨B,0,W⟩),H #[E U code,.int U (c:Int)]] w (KK Pz w0 w B bs bl n va vr pv fv m ps l ho hc code (c:Int)):=by
 obtain⟨hp0,hl0⟩:=Ba hk;obtain⟨hm0,_⟩:=Cj hp0;obtain⟨_,_,_,_,h6⟩:=CC hl0;have hw:=ED hm0 hcr;have hpr:=((Cv hm0).prod (qB m.vars.length)).2;have hN64:2^(AA l).length<=64:=vG (show 0<2 by decide) h6;have hnn:=MB hm0 hcr;obtain⟨W1,hW1⟩:∃W1,W1=w.alloc (Q #[E U code,.int U (c:Int)] 75):=⟨_,rfl⟩;have hb1:L w.heap.size w W1:=by rw[hW1];exact(qD _ _).alloc (qB _) _
 have hs1:W1.cell? ⟨w.heap.size,0,W⟩=V (.int U code)/\W1.cell? ⟨w.heap.size,1,W⟩=V (.int U (c:Int)):=by rw[hW1];constructor<;>simp[go_sem]
 have hS1:=hS.below hb1;have hst:=Jk w0 W1 B bs bl n va vr pv fv m ps l ho hc code hI hB hT hV hk hS1 (by omega);have hst2:ZZ qA 52 #[G (V ⟨B,0,W⟩),.int U code] W1 fun e w'=>∃lo lc no nc so sc,e=I (C #[H #[.slice lo ps.length lc,.slice no (AL m code).length nc,.slice so (2^(AA l).length) sc],.int U 0])/\O (Sk bs bl w w'/\SvOk Pz w0 w' B bs bl (n+1) va vr pv fv m ps l ho hc/\An Pz w' m ps l code (H #[.slice lo ps.length lc,.slice no (AL m code).length nc,.slice so (2^(AA l).length) sc]))/\O (w'.cell? ⟨w.heap.size,0,W⟩=V (.int U code)/\w'.cell? ⟨w.heap.size,1,W⟩=V (.int U (c:Int))):=hst.mono fun e w' ⟨h1,h2,h3⟩=>by
  rcases h3 with⟨_,lo,lc,no,nc,so,sc,h4,h5⟩|⟨h4,_⟩
  .exact ⟨lo,lc,no,nc,so,sc,h4,⟨(Sk.of hb1).trans h1,h2.out,h5.out⟩,h1.cell hS1.two hs1.1,h1.cell hS1.two hs1.2⟩
  .exact absurd hw h4
 have HSt:O (∀(w':M) (n':Nat) (c':Int),n'<1000000000000->0<=c'/\c'<AK m.vars m.vars.length->SvOk Pz w0 w' B bs bl n' va vr pv fv m ps l ho hc->ZZ qA 52 #[G (V ⟨B,0,W⟩),.int U c'] w' fun e w''=>∃lo lc no nn2 nc so sc,e=I (C #[H #[.slice lo ps.length lc,Y no nn2 nc,.slice so (2^(AA l).length) sc],.int U 0])/\O (Sk bs bl w' w''/\SvOk Pz w0 w'' B bs bl (n'+1) va vr pv fv m ps l ho hc/\An Pz w'' m ps l c' (H #[.slice lo ps.length lc,Y no nn2 nc,.slice so (2^(AA l).length) sc]))):=fun w' n' c' hn' hc' hS'=>(Jk w0 w' B bs bl n' va vr pv fv m ps l ho hc c' (by omega) hB hT hV hk hS' hn').mono fun e w'' ⟨h1,h2,h3⟩=>by
  rcases h3 with⟨_,lo,lc,no,nc,so,sc,h4,h5⟩|⟨h4,_⟩
  .exact ⟨lo,lc,no,_,nc,so,sc,h4,h1,h2.out,h5.out⟩
  .exact absurd (ED hm0 hc') h4
 have HFo:O (∀(w':M) (n' d:Nat) (c':Int) (lo no so lo2 no2 so2:Option Addr) (lc nn nc sc lc2 nn2 nc2 sc2:Nat),n'<1000000000000->d<2^(AA l).length->0<=c'/\c'<AK m.vars m.vars.length->SvOk Pz w0 w' B bs bl n' va vr pv fv m ps l ho hc->An Pz w' m ps l code (H #[.slice lo ps.length lc,Y no nn nc,.slice so (2^(AA l).length) sc])->An Pz w' m ps l c' (H #[.slice lo2 ps.length lc2,Y no2 nn2 nc2,.slice so2 (2^(AA l).length) sc2])->ZZ qA 53 #[G (V ⟨B,0,W⟩),H #[.slice lo ps.length lc,Y no nn nc,.slice so (2^(AA l).length) sc],.int U (c:Int),H #[.slice lo2 ps.length lc2,Y no2 nn2 nc2,.slice so2 (2^(AA l).length) sc2],.int U (d:Int)] w' fun e w''=>e=I (C #[ZY (A9 l (AJ m ps code) (c:Int) (AJ m ps c') (d:Int)),.int U 0])/\O (Sk bs bl w' w''/\SvOk Pz w0 w'' B bs bl (n'+1) va vr pv fv m ps l ho hc)):=fun w' n' d c' lo no so lo2 no2 so2 lc nn nc sc lc2 nn2 nc2 sc2 hn' hd hc' hS' hA hB'=>by
  obtain⟨_,_,_,_,_,_,e1,hx,_,_,_⟩:=hA;obtain⟨_,_,_,_,_,_,e2,hy,_,hz,_⟩:=hB';simp only[Value.agg.injEq,Array.mk.injEq,List.cons.injEq,Value.slice.injEq,and_true,true_and]at e1 e2;obtain⟨⟨rfl,rfl⟩,⟨rfl,rfl,rfl⟩,rfl,rfl⟩:=e1;obtain⟨⟨rfl,rfl⟩,⟨rfl,rfl,rfl⟩,rfl,rfl⟩:=e2;exact(QO w0 w' B bs bl n' va vr pv fv m ps l ho hc (AJ m ps code) (AJ m ps c') c d _ _ _ _ _ _ _ _ _ _ _ _ _ _ hB hT hV hk hS' hn' hx hy hz (FI hk hcr).2 (FI hk hc').2 hcN hd).mono fun e w'' ⟨h1,h2,h3⟩=>⟨h1,h2,h3.out⟩
 have HCl:O (∀(w':M) (n':Nat),SvOk Pz w0 w' B bs bl n' va vr pv fv m ps l ho hc->ZZ qA 31 #[G (V ⟨B,0,W⟩)] w' fun e w''=>e=I (.int U ((2^(AA l).length:Nat):Int))/\w''=w'):=fun w' n' h=>IW B _ _ _ _ ho _ hc bs bl w' h6 h.box;have HNx:O (∀i,i<(AL m code).length->0<=(AL m code).getD i 0/\(AL m code).getD i 0<AK m.vars m.vars.length):=fun i hi=>I5 hm0 hcr (by rw[qC,qH hi];exact qT hi);have HBt:O (∀i,C2 m ps l code (c:Int) (i+1)=C2 m ps l code (c:Int) i++CU l (AJ m ps code) (c:Int) (AJ m ps ((AL m code).getD i 0)) ((AL m code).getD i 0) (2^(AA l).length)):=fun _=>rfl;have HB0:O (C2 m ps l code (c:Int) 0=[]):=rfl;have HBl:O (∀i,(C2 m ps l code (c:Int) i).length<=i*64):=IK hN64 code (c:Int);have HInt:O (∀(w':M) (lo no so:Option Addr) (lc nc sc:Nat),An Pz w' m ps l code (H #[.slice lo ps.length lc,.slice no (AL m code).length nc,.slice so (2^(AA l).length) sc])->∀i,i<(AL m code).length->∃b off,no=V ⟨b,off,W⟩/\w'.cell? ⟨b,off+i,W⟩=V (.int U ((AL m code).getD i 0))):=fun w' lo no so lc nc sc hA i hi=>by
  obtain⟨_,_,_,_,_,_,e1,_,hx,_,_⟩:=hA;simp only[Value.agg.injEq,Array.mk.injEq,List.cons.injEq,Value.slice.injEq,and_true,true_and]at e1;obtain⟨⟨rfl,rfl⟩,⟨rfl,rfl⟩,rfl,rfl⟩:=e1;obtain⟨ao,cap,e2,h1⟩:=hx;injection e2 with e2 _ _;subst e2;obtain⟨b,off,rfl,_,hat⟩:=h1 (by intro e;rw[e]at hi;simp at hi);exact⟨b,off,rfl,hat i hi⟩
 have hw0:w0.heap.size<=w.heap.size:=hS.bel.size;have hBlt:B<w.heap.size:=hS.box.lt;unfold KK AZ;have HW:O (As m code=0):=hw;generalize(AL m code).length=nn at *;generalize C2 m ps l code (c:Int)=bt at *;generalize m.vars.length=vn at *;generalize hpn:ps.length=pn at *;generalize 2^(AA l).length=N at *
 clear hst hS hS1 hT hV hk hp0 hl0 hm0 h6 hw hpn hs1 hcN;subst hW1;go_enter Tryz.func33,Tryz.ntmps33;go_wp2_with (first|(go_at_call 52;refine hst2.mono ?_;rintro e w2 ⟨lo,lc,no,nc,so,sc,rfl,HR,HC⟩))
 obtain⟨hsk2,hsv2,hso2⟩:=HR.out;obtain⟨hc0,hc1⟩:=HC.out;have hb2:L w2.heap.size w2 (w2.alloc (Q #[Y lo pn lc,Y no nn nc,Y so N sc] 133)):=(qD _ _).alloc (qB _) _;have hbx:=Bx3.new w2 (Y lo pn lc) (Y no nn nc) (Y so N sc);have hzb:(w2.alloc (Q #[Y lo pn lc,Y no nn nc,Y so N sc] 133)).heap.size=w2.heap.size+1:=by simp
 have hskb:=hsk2.trans (Sk.of (bs:=bs) (bl:=bl) hb2);have hsvb:=hsv2.below hb2;have hsob:=hso2.below hb2;have hsz2:=hsk2.size;have hcb1:(w2.alloc (Q #[Y lo pn lc,Y no nn nc,Y so N sc] 133)).cell? ⟨w.heap.size,1,W⟩=V (.int U (c:Int)):=(hb2.cell (p:=⟨w.heap.size,1,W⟩) (World.block_lt_of_cell? _ _ hc1)).trans hc1;generalize w2.alloc (Q #[Y lo pn lc,Y no nn nc,Y so N sc] 133)=Wb at *;have htw:=hsvb.two;have HTw:O (Cd Wb bs bl):=htw;have HSob:O (∀w',Sk bs bl Wb w'->An Pz w' m ps l code (H #[Y lo pn lc,Y no nn nc,Y so N sc])):=fun w' h=>hsob.sk h htw
 have HBxb:O (∀w',Sk bs bl Wb w'->(w'.cell? ⟨w2.heap.size,0,W⟩=V (Y lo pn lc)/\w'.cell? ⟨w2.heap.size,1,W⟩=V (Y no nn nc)/\w'.cell? ⟨w2.heap.size,2,W⟩=V (Y so N sc))/\w'.cell? ⟨w.heap.size,1,W⟩=V (.int U (c:Int))):=fun w' h=>⟨(hbx.sk h htw).1,h.cell htw hcb1⟩;have HSvb:O (SvOk Pz w0 Wb B bs bl (n+1) va vr pv fv m ps l ho hc):=hsvb;have HSkb:O (Sk bs bl w Wb):=hskb;clear hst2 HR HC hsk2 hsv2 hso2 hc0 hc1 hb2 hbx hskb hsvb hsob hcb1 htw;go_loopw [8,29] (fun u i wr=>∃k:Nat,k<=nn/\i=.int U k/\(∃po pk pc,u=Y po pk pc/\pk<=k*64/\O ((bt k).length=pk/\SpO wr Wb.heap.size (Y po pk pc) (bt k)))/\O (Sk bs bl Wb wr/\SvOk Pz w0 wr B bs bl (n+1+k*65) va vr pv fv m ps l ho hc)) (fun _ i _=>nn-(intOf i).toNat)
 case atStart=>exact⟨0,qJ _,rfl,⟨W,0,0,rfl,qJ _,by rw[HB0.out];rfl,by rw[HB0.out];exact SpO.nil _ _⟩,Sk.refl _ _ _,HSvb.out⟩
 case round=>
  obtain⟨k,hkn,rfl,⟨po,pk,pc,rfl,hpk,HSp⟩,HSS⟩:=hrel;by_cases hlt:k<nn
  .obtain ⟨hskr,hsvr⟩:=HSS.out;obtain⟨nb,noff,rfl,hcell⟩:=HInt.out wr lo no so lc nc sc (HSob.out wr hskr) k hlt;have hin:=HNx.out k hlt;have hst:=HSt.out wr (n+1+k*65) _ (by omega) hin hsvr;have hki:(k:Int)<(nn:Int):=by omega
   have HBk:=(show O _ from HBt.out k);have HSpk:O (∀w',Sk bs bl wr w'->SpO w' Wb.heap.size (Y po pk pc) (bt k)):=fun w' h=>HSp.out.2.sk h hsvr.two;have HSl:O ((bt k).length=pk):=HSp.out.1;have HFk:O (∀(w':M) (n' d:Nat) (lo2 no2 so2:Option Addr) (lc2 nn2 nc2 sc2:Nat),n'<1000000000000->d<N->SvOk Pz w0 w' B bs bl n' va vr pv fv m ps l ho hc->Sk bs bl Wb w'->An Pz w' m ps l ((AL m code).getD k 0) (H #[Y lo2 pn lc2,Y no2 nn2 nc2,Y so2 N sc2])->ZZ qA 53 #[G (V ⟨B,0,W⟩),H #[Y lo pn lc,Y (V ⟨nb,noff,W⟩) nn nc,Y so N sc],.int U (c:Int),H #[Y lo2 pn lc2,Y no2 nn2 nc2,Y so2 N sc2],.int U (d:Int)] w' fun e w''=>e=I (C #[ZY (A9 l (AJ m ps code) (c:Int) (AJ m ps ((AL m code).getD k 0)) (d:Int)),.int U 0])/\O (Sk bs bl w' w''/\SvOk Pz w0 w'' B bs bl (n'+1) va vr pv fv m ps l ho hc)):=fun w' n' d lo2 no2 so2 lc2 nn2 nc2 sc2 h1 h2 h3 h4 h5=>HFo.out w' n' d _ lo _ so lo2 no2 so2 lc nn nc sc lc2 nn2 nc2 sc2 h1 h2 hin h3 (HSob.out w' h4) h5;have HF0:O (CU l (AJ m ps code) (c:Int) (AJ m ps ((AL m code).getD k 0)) ((AL m code).getD k 0) 0=[]):=rfl;have HFS:O (∀d:Nat,CU l (AJ m ps code) (c:Int) (AJ m ps ((AL m code).getD k 0)) ((AL m code).getD k 0) (d+1)=if A9 l (AJ m ps code) (c:Int) (AJ m ps ((AL m code).getD k 0)) (d:Int)=true then CU l (AJ m ps code) (c:Int) (AJ m ps ((AL m code).getD k 0)) ((AL m code).getD k 0) d++[((AL m code).getD k 0,(d:Int))]else CU l (AJ m ps code) (c:Int) (AJ m ps ((AL m code).getD k 0)) ((AL m code).getD k 0) d):=fun _=>rfl;have HFl:O (∀d,(CU l (AJ m ps code) (c:Int) (AJ m ps ((AL m code).getD k 0)) ((AL m code).getD k 0) d).length<=d):=Ih _ _ _ _ _;have HStk:O (∀(w' w'':M) (v:J),An Pz w' m ps l ((AL m code).getD k 0) v->Cd w' bs bl->Sk bs bl w' w''->An Pz w'' m ps l ((AL m code).getD k 0) v):=fun w' w'' v h1 h2 h3=>h1.sk h3 h2;have HStg:O (∀(w' w'':M) (v:J) (own:Option Nat),An Pz w' m ps l ((AL m code).getD k 0) v->w'.grownBy w'' own->(∀g,own=V g->∃cs fr,w'.heap[g]? = V (Q cs 75 fr))->An Pz w'' m ps l ((AL m code).getD k 0) v):=fun w' w'' v own h1 h2 h3=>h1.grown h2 h3;have HStb:O (∀(w':M) (v:J) (o:Obj),An Pz w' m ps l ((AL m code).getD k 0) v->An Pz (w'.alloc o) m ps l ((AL m code).getD k 0) v):=fun w' v o h1=>h1.below ((qD _ _).alloc (qB _) o);generalize CU l (AJ m ps code) (c:Int) (AJ m ps ((AL m code).getD k 0)) ((AL m code).getD k 0)=ft at *;generalize hfr:(fun d:Nat=>A9 l (AJ m ps code) (c:Int) (AJ m ps ((AL m code).getD k 0)) (d:Int))=fr at *
   have HFr:O (∀d:Nat,A9 l (AJ m ps code) (c:Int) (AJ m ps ((AL m code).getD k 0)) (d:Int)=fr d):=fun d=>by rw[<-hfr]
   generalize hstk:(fun(w':M) (v:J)=>An Pz w' m ps l ((AL m code).getD k 0) v)=SK at *
   have HSK:O (∀(w':M) (v:J),An Pz w' m ps l ((AL m code).getD k 0) v↔SK w' v):=fun w' v=>by rw[<-hstk]
   clear hfr hstk;have hst':ZZ qA 52 #[G (V ⟨B,0,W⟩),.int U ((AL m code).getD k 0)] wr fun e w''=>∃lo lc no nn2 nc so sc,e=I (C #[H #[Y lo pn lc,Y no nn2 nc,Y so N sc],.int U 0])/\O (Sk bs bl wr w''/\SvOk Pz w0 w'' B bs bl (n+1+k*65+1) va vr pv fv m ps l ho hc/\SK w'' (H #[Y lo pn lc,Y no nn2 nc,Y so N sc])):=hst.mono fun e w'' ⟨a1,a2,a3,a4,a5,a6,a7,h1,h2⟩=>⟨a1,a2,a3,a4,a5,a6,a7,h1,h2.out.1,h2.out.2.1,(HSK.out _ _).1 h2.out.2.2⟩;clear hst HInt HSt HNx HBt HB0;generalize(AL m code).getD k 0=cd at *;clear hsvr HSp
   go_wp2_with (first|(go_at_call 52;refine hst'.mono ?_;rintro e w3 ⟨lo2,lc2,no2,nn2,nc2,so2,sc2,rfl,HR3⟩;have hcl:=HCl.out _ _ (HR3.out.2.1.below ((qD w3.heap.size w3).alloc (qB _) (Q #[Y lo2 pn lc2,Y no2 nn2 nc2,Y so2 N sc2] 133))))|(go_at_call 31;refine hcl.mono ?_;rintro e w4 ⟨rfl,hw4⟩))
   have hbA:L w3.heap.size w3 (w3.alloc (Q #[Y lo2 pn lc2,Y no2 nn2 nc2,Y so2 N sc2] 133)):=(qD _ _).alloc (qB _) _;have HIn:O (SpO (w3.alloc (Q #[Y lo2 pn lc2,Y no2 nn2 nc2,Y so2 N sc2] 133)) Wb.heap.size (Y po pk pc) (bt k)/\Sk bs bl Wb (w3.alloc (Q #[Y lo2 pn lc2,Y no2 nn2 nc2,Y so2 N sc2] 133))/\SvOk Pz w0 (w3.alloc (Q #[Y lo2 pn lc2,Y no2 nn2 nc2,Y so2 N sc2] 133)) B bs bl (n+1+k*65+1) va vr pv fv m ps l ho hc/\SK (w3.alloc (Q #[Y lo2 pn lc2,Y no2 nn2 nc2,Y so2 N sc2] 133)) (H #[Y lo2 pn lc2,Y no2 nn2 nc2,Y so2 N sc2])/\Bx3 (w3.alloc (Q #[Y lo2 pn lc2,Y no2 nn2 nc2,Y so2 N sc2] 133)) w3.heap.size (Y lo2 pn lc2) (Y no2 nn2 nc2) (Y so2 N sc2)):=
    ⟨(HSpk.out w3 HR3.out.1).later hbA (qB _),(hskr.trans HR3.out.1).trans (Sk.of hbA),HR3.out.2.1.below hbA,(HSK.out _ _).1 (HStb.out _ _ _ ((HSK.out _ _).2 HR3.out.2.2)),Bx3.new _ _ _ _⟩
   clear HR3 HSpk hst' hcl hbA HStb;generalize w3.alloc (Q #[Y lo2 pn lc2,Y no2 nn2 nc2,Y so2 N sc2] 133)=Wc at *;have HSKk:O (∀(w' w'':M) (v:J),SK w' v->Cd w' bs bl->Sk bs bl w' w''->SK w'' v):=fun w' w'' v h1 h2 h3=>(HSK.out _ _).1 (HStk.out w' w'' v ((HSK.out _ _).2 h1) h2 h3)
   have HSKg:O (∀(w' w'':M) (v:J) (own:Option Nat),SK w' v->w'.grownBy w'' own->(∀g,own=V g->∃cs fr,w'.heap[g]? = V (Q cs 75 fr))->SK w'' v):=fun w' w'' v own h1 h2 h3=>(HSK.out _ _).1 (HStg.out w' w'' v own ((HSK.out _ _).2 h1) h2 h3);have HSKa:O (∀(w':M) (v:J) (o:Obj),SK w' v->SK (w'.alloc o) v):=fun w' v o h1=>HSKg.out w' (w'.alloc o) v W h1 (World.grownBy_alloc w' o W) (fun g e=>by simp at e);have HFk2:O (∀(w':M) (n' d:Nat),n'<1000000000000->d<N->SvOk Pz w0 w' B bs bl n' va vr pv fv m ps l ho hc->Sk bs bl Wb w'->SK w' (H #[Y lo2 pn lc2,Y no2 nn2 nc2,Y so2 N sc2])->ZZ qA 53 #[G (V ⟨B,0,W⟩),H #[Y lo pn lc,Y (V ⟨nb,noff,W⟩) nn nc,Y so N sc],.int U (c:Int),H #[Y lo2 pn lc2,Y no2 nn2 nc2,Y so2 N sc2],.int U (d:Int)] w' fun e w''=>e=I (C #[ZY (fr d),.int U 0])/\O (Sk bs bl w' w''/\SvOk Pz w0 w'' B bs bl (n'+1) va vr pv fv m ps l ho hc)):=fun w' n' d h1 h2 h3 h4 h5=>by
    have:=HFk.out w' n' d lo2 no2 so2 lc2 nn2 nc2 sc2 h1 h2 h3 h4 ((HSK.out _ _).2 h5);rw[HFr.out]at this;exact this
   have HFS2:O (∀d:Nat,ft (d+1)=if fr d=true then ft d++[(cd,(d:Int))]else ft d):=fun d=>by
    have:=HFS.out d;rw[HFr.out]at this;exact this
   clear HFk HFS HFr HSK HStk HStg HFo;go_loopw [8,44] (fun u i wr2=>∃d:Nat,d<=N/\i=.int U d/\(∃po pk2 pc,u=Y po pk2 pc/\pk2<=pk+d/\O ((bt k++ft d).length=pk2/\SpO wr2 Wb.heap.size (Y po pk2 pc) (bt k++ft d)))/\O (Sk bs bl Wb wr2/\SvOk Pz w0 wr2 B bs bl (n+1+k*65+1+d) va vr pv fv m ps l ho hc/\SK wr2 (H #[Y lo2 pn lc2,Y no2 nn2 nc2,Y so2 N sc2])/\Bx3 wr2 w3.heap.size (Y lo2 pn lc2) (Y no2 nn2 nc2) (Y so2 N sc2))) (fun _ i _=>N-(intOf i).toNat)
   case atStart=>exact⟨0,qJ _,rfl,⟨po,pk,pc,rfl,qB _,by rw[HF0.out,vN];exact HSl.out,by rw[HF0.out,vN];exact HIn.out.1⟩,HIn.out.2⟩
   case round=>
    obtain⟨d,hdN,rfl,⟨po2,pk2,pc2,rfl,hpk2,HSp2⟩,HS2⟩:=hrel;by_cases hd:d<N
    .obtain ⟨hsk2,hsv2,hSK2,hbx2⟩:=HS2.out;have hfo:=HFk2.out _ (n+1+k*65+1+d) d (by omega) hd hsv2 hsk2 hSK2;obtain⟨⟨x0,x1,x2⟩,x3⟩:=HBxb.out _ hsk2;obtain⟨⟨z0,z1,z2⟩,_⟩:=id hbx2;have htw2:=hsv2.two;have HE:=(show O _ from HFS2.out d);have HNx2:O (∀w',Sk bs bl wr w'->SpO w' Wb.heap.size (Y po2 pk2 pc2) (bt k++ft d)/\Sk bs bl Wb w'/\SK w' (H #[Y lo2 pn lc2,Y no2 nn2 nc2,Y so2 N sc2])/\Bx3 w' w3.heap.size (Y lo2 pn lc2) (Y no2 nn2 nc2) (Y so2 N sc2)):=fun w' h=>⟨HSp2.out.2.sk h htw2,hsk2.trans h,HSKk.out _ _ _ hSK2 htw2 h,hbx2.sk h htw2⟩;have HSl2:O ((bt k++ft d).length=pk2):=HSp2.out.1;clear hskr;cases hfd:fr d with
     |false=>
      rw[hfd]at hfo HE;have HE2:O (ft (d+1)=ft d):=by have:=HE.out;rw[if_neg (by simp)]at this;exact this
      clear HE hsv2 hSK2 hbx2 HSp2 HS2 hfd;go_wp2_with (first|(go_at_call 53;refine hfo.mono ?_;rintro e w5 ⟨rfl,HR5⟩))
      obtain⟨q1,q2,q3,q4⟩:=HNx2.out _ HR5.out.1;have HQ:=(show O (SpO w5 Wb.heap.size (Y po2 pk2 pc2) (bt k++ft d)/\Sk bs bl Wb w5/\SvOk Pz w0 w5 B bs bl (n+1+k*65+1+d+1) va vr pv fv m ps l ho hc/\SK w5 (H #[Y lo2 pn lc2,Y no2 nn2 nc2,Y so2 N sc2])/\Bx3 w5 w3.heap.size (Y lo2 pn lc2) (Y no2 nn2 nc2) (Y so2 N sc2))from⟨q1,q2,HR5.out.2,q3,q4⟩);clear q1 q2 q3 q4 HR5;go_roundw
      case rel=>exact⟨d+1,by omega,by go_num,⟨po2,pk2,pc2,rfl,by omega,by rw[HE2.out];exact HSl2.out,by rw[HE2.out];exact HQ.out.1⟩,HQ.out.2⟩
      case measure=>simp[intOf];omega
     |true=>
      rw[hfd]at hfo HE;have HE2:O (ft (d+1)=ft d++[(cd,(d:Int))]):=by have:=HE.out;rw[if_pos rfl]at this;exact this
      clear HE hsv2 hSK2 hbx2 HSp2 HS2 hfd;go_wp2_with (first|(go_at_call 53;refine hfo.mono ?_;rintro e w5 ⟨rfl,HR5⟩;obtain⟨q1,q2,q3,q4⟩:=HNx2.out _ HR5.out.1;have HQ:=(show O (SpO w5 Wb.heap.size (Y po2 pk2 pc2) (bt k++ft d)/\Sk bs bl Wb w5/\SvOk Pz w0 w5 B bs bl (n+1+k*65+1+d+1) va vr pv fv m ps l ho hc/\SK w5 (H #[Y lo2 pn lc2,Y no2 nn2 nc2,Y so2 N sc2])/\Bx3 w5 w3.heap.size (Y lo2 pn lc2) (Y no2 nn2 nc2) (Y so2 N sc2))from⟨q1,q2,HR5.out.2,q3,q4⟩);clear q1 q2 q3 q4 HR5;have hsp5:=HQ.out.1;have hsz5:=HQ.out.2.1.size)|(at_builtin;refine Mf cd (d:Int) rfl _ _ rfl Wb.heap.size pk2 pc2 po2 (bt k++ft d) HSl2.out rfl hsp5 rfl (by omega) hsz5 ?_;intro vo6 cap6 w6 ho6 hb6 hg6))
      have hown:=hsp5.own (Q #[E U cd,.int U (d:Int)] 75);have HQ6:O (SpO w6 Wb.heap.size (.slice vo6 (pk2+1) cap6) (bt k++ft d++[(cd,(d:Int))])/\Sk bs bl Wb w6/\SvOk Pz w0 w6 B bs bl (n+1+k*65+1+d+1) va vr pv fv m ps l ho hc/\SK w6 (H #[Y lo2 pn lc2,Y no2 nn2 nc2,Y so2 N sc2])/\Bx3 w6 w3.heap.size (Y lo2 pn lc2) (Y no2 nn2 nc2) (Y so2 N sc2)):=by
       have ha:L w5.heap.size w5 (w5.alloc (Q #[E U cd,.int U (d:Int)] 75)):=(qD _ _).alloc (qB _) _;refine⟨ho6,HQ.out.2.1.after hb6,(HQ.out.2.2.1.below ha).spots hg6 (fun g e=>?_),HSKg.out _ _ _ _ (HSKa.out _ _ _ HQ.out.2.2.2.1) hg6 (fun g e=>(hown g e).2),(HQ.out.2.2.2.2.below ha).grown hg6 (fun g e=>(hown g e).2)⟩;obtain⟨h1,h2⟩:=hown g e;have:=HSkb.out.size;exact⟨by omega,by omega,h2⟩
      clear hown ho6 hb6 hg6 hsp5 HQ;go_wp2_with fail
      go_roundw
      case rel=>exact⟨d+1,by omega,by go_num,⟨vo6,pk2+1,cap6,rfl,by omega,by rw[HE2.out,<-q7,qF,HSl2.out];rfl,by rw[HE2.out,<-q7];exact HQ6.out.1⟩,HQ6.out.2⟩
      case measure=>simp[intOf];omega
    .obtain rfl:d=N:=by omega
     have HSl2:O ((bt (k+1)).length=pk2/\SpO wr Wb.heap.size (Y po2 pk2 pc2) (bt (k+1))):=by rw[HBk.out];exact HSp2.out
     have HS3:O (Sk bs bl Wb wr/\SvOk Pz w0 wr B bs bl (n+1+(k+1)*65) va vr pv fv m ps l ho hc):=⟨HS2.out.1,HS2.out.2.1.mono (by omega)⟩;clear HSp2 HS2;go_wp2_with fail
     go_roundw
     case rel=>exact⟨k+1,by omega,by go_num,⟨po2,pk2,pc2,rfl,by omega,HSl2.out.1,HSl2.out.2⟩,HS3⟩
     case measure=>simp[intOf];omega
  .obtain rfl:k=nn:=by omega
   have HSl:O ((bt k).length=pk):=HSp.out.1;have HSpp:O (SpO wr Wb.heap.size (Y po pk pc) (bt k)):=HSp.out.2;have hwb:w.heap.size<=Wb.heap.size:=HSkb.out.size;clear HSp;go_wp2_with fail
   go_ret2;exact⟨HSkb.out.trans HSS.out.1,HSS.out.2.mono (by omega),.inl ⟨HW.out,po,pc,by rw[HSl.out];rfl,by rw[HSl.out];exact A2 HSpp.out hwb⟩⟩
section
variable{w w1 w2:M}{base A lm:Nat}{S:List (Int×Int)}{N:List (List Int)}{T:List Int}{init many:Int}{sv nv tv nv' tv':J}
theorem AtX.appN{us:List J}{r:List Int}{ao:Option Addr}{c:Nat}(h:AtX w1 base A lm S N T init many sv nv tv)(hus:w1.ownsRow base 39 1 nv N.length us/\us.length=N.length/\∀i,i<N.length->∃ao c,us.getD i (Y W 0 0)=.slice ao (N.getD i []).length c/\IntsV w1 (.slice ao (N.getD i []).length c) (N.getD i [])/\Ag w1 (.slice ao (N.getD i []).length c) 3/\∀a,ao=V a->tv.ownBlock≠V a.block/\base<=a.block)
    (hr:IntsV w1 (.slice ao r.length c) r) (hty:Ag w1 (.slice ao r.length c) 3) (hap:∀a,ao=V a->tv.ownBlock≠V a.block/\base<=a.block) (hg:w1.grownBy w2 nv.ownBlock) (ho:w2.ownsRow base 39 1 nv' (N.length+1) (us++[.slice ao r.length c])):AtX (w2.setCell ⟨A,2,W⟩ nv') base A lm S (N++[r]) T init many sv nv' tv:=by
  obtain⟨n1,n2,n3⟩:=hus;obtain⟨es,cl,em⟩:=h.lies.isMap;have hc:Chg (fun i=>i=A\/nv.ownBlock=V i) w1 (w2.setCell ⟨A,2,W⟩ nv'):=((Chg.grown hg).weaken (fun i _ e=>.inr e)).trans2 (Chg.setCell w2 _ _) (fun i _ e=>.inl e);have hno:∀i t,(i=A\/nv.ownBlock=V i)->TyB w1 i t->t=71\/t=39:=fun i t z ht=>by
    rcases z with rfl|e
    . exact .inl (ht.eq h.ty)
    . exact .inr (ht.eq (Aw n1 e).2)
  have hni:∀i,(i=A\/nv.ownBlock=V i)->¬TyB w1 i 3:=fun i z ht=>by
    rcases hno i _ z ht with e|e
    . exact absurd e (by decide)
    . exact absurd e (by decide)
  have hns:∀i,(i=A\/nv.ownBlock=V i)->¬TyB w1 i 75:=fun i z ht=>by
    rcases hno i _ z ht with e|e
    . exact absurd e (by decide)
    . exact absurd e (by decide)
  have hnm:∀i,(i=A\/nv.ownBlock=V i)->i≠lm:=fun i z e=>by
    subst e;rcases z with rfl|e
    . exact h.ty.no_map em
    . exact(Aw n1 e).2.no_map em
  have hbx:w2.heap[A]? = V (atB sv nv tv init many lm):=(hg.block A h.lt fun e=>by have:=h.ty.eq (Aw n1 e.symm).2;exact absurd this (by decide)).trans h.box;have hA2:TyB w2 A 71:=⟨_,_,hbx⟩;refine⟨OM w2 hbx nv',h.bA,h.bl,h.lies.kept (hc.block lm h.lies.lt (fun z=>hnm _ z rfl)),BW h.sp hc (fun g e z=>hns g z (Aw h.sp e).2),⟨us++[.slice ao r.length c],?_,by simp[n2],fun i hi=>?_⟩,BW h.st hc (fun g e z=>hni g z (Aw h.st e).2)⟩
  . rw[qF,vW]
    exact BW ho (Chg.setCell w2 _ _) (fun g e z=>by
      have h1:=(Aw ho e).2;have z':g=A:=z;subst z';exact absurd (h1.eq hA2) (by decide))
  . have hget:∀(α:Type) (x y:List α) (d:α) (j:Nat),(x++y).getD j d=if j<x.length then x.getD j d else y.getD (j-x.length) d:=fun α x y d j=>by
      by_cases hj:j<x.length
      . rw[if_pos hj];simp[qC,List.getElem?_append_left hj]
      . rw[if_neg hj];simp[qC,List.getElem?_append_right (Nat.le_of_not_lt hj)]
    by_cases hlt:i<N.length
    . obtain⟨ao',c',e1,e2,e3,e4⟩:=n3 i hlt
      have hz:∀a,ao'=V a->¬(a.block=A\/nv.ownBlock=V a.block):=fun a e z=>hni _ z (by subst e;exact e3.ty);rw[hget,hget,n2,if_pos hlt,if_pos hlt];exact⟨ao',c',e1,e2.chg hc hz,e3.chg hc hz,e4⟩
    . have hi2:i=N.length:=by simp at hi;omega
      have hz:∀a,ao=V a->¬(a.block=A\/nv.ownBlock=V a.block):=fun a e z=>hni _ z (by subst e;exact hty.ty);rw[hget,hget,n2,if_neg hlt,if_neg hlt,hi2,Nat.sub_self];exact⟨ao,c,rfl,hr.chg hc hz,hty.chg hc hz,hap⟩
theorem AtX.appT{x:Int}(h:AtX w1 base A lm S N T init many sv nv tv)(hg:w1.grownBy w2 tv.ownBlock)(ho:w2.ownsRow base 3 1 tv' (T.length+1) (AB T++[.int U x]))(hown:tv'.ownBlock=tv.ownBlock\/∃g,tv'.ownBlock=V g/\w1.heap.size<=g):AtX (w2.setCell ⟨A,3,W⟩ tv') base A lm S N (T++[x]) init many sv nv tv':=by
 obtain⟨us,n1,n2,n3⟩:=id h.nx;obtain⟨es,cl,em⟩:=h.lies.isMap;have hc:Chg (fun i=>i=A\/tv.ownBlock=V i) w1 (w2.setCell ⟨A,3,W⟩ tv'):=((Chg.grown hg).weaken (fun i _ e=>.inr e)).trans2 (Chg.setCell w2 _ _) (fun i _ e=>.inl e);have hno:∀i t,(i=A\/tv.ownBlock=V i)->TyB w1 i t->t=71\/t=3:=fun i t z ht=>by
  rcases z with rfl|e
  .exact .inl (ht.eq h.ty)
  .exact .inr (ht.eq (Aw h.st e).2)
 have hnl:∀i,(i=A\/tv.ownBlock=V i)->¬TyB w1 i 39:=fun i z ht=>by
  rcases hno i _ z ht with e|e
  .exact absurd e (by decide)
  .exact absurd e (by decide)
 have hns:∀i,(i=A\/tv.ownBlock=V i)->¬TyB w1 i 75:=fun i z ht=>by
  rcases hno i _ z ht with e|e
  .exact absurd e (by decide)
  .exact absurd e (by decide)
 have hnm:∀i,(i=A\/tv.ownBlock=V i)->i≠lm:=fun i z e=>by
  subst e;rcases z with rfl|e
  .exact h.ty.no_map em
  .exact (Aw h.st e).2.no_map em
 have hbx:w2.heap[A]? = V (atB sv nv tv init many lm):=(hg.block A h.lt fun e=>by have:=h.ty.eq (Aw h.st e.symm).2;exact absurd this (by decide)).trans h.box;have hA2:TyB w2 A 71:=⟨_,_,hbx⟩;refine⟨ON w2 hbx tv',h.bA,h.bl,h.lies.kept (hc.block lm h.lies.lt (fun z=>hnm _ z rfl)),BW h.sp hc (fun g e z=>hns g z (Aw h.sp e).2),⟨us,BW n1 hc (fun g e z=>hnl g z (Aw n1 e).2),n2,fun i hi=>?_⟩,?_⟩
 .obtain ⟨ao',c',e1,e2,e3,e4⟩:=n3 i hi;have hz:∀a,ao'=V a->¬(a.block=A\/tv.ownBlock=V a.block):=fun a e z=>by
   rcases z with z|z
   .subst e;have:=e3.ty;rw[z]at this;exact absurd (this.eq h.ty) (by decide)
   .exact (e4 a e).1 z
  refine⟨ao',c',e1,e2.chg hc hz,e3.chg hc hz,fun a e=>⟨fun e5=>?_,(e4 a e).2⟩⟩;rcases hown with h1|⟨g,h1,h2⟩
  .rw[h1]at e5;exact(e4 a e).1 e5
  .rw[h1]at e5;injection e5 with e5;subst e;have:=e3.ty.lt;omega
 .have e:AB (T++[x])=AB T++[.int U x]:=by simp[AB]
  rw[e,qF,vW];exact BW ho (Chg.setCell w2 _ _) (fun g e z=>by
   have h1:=(Aw ho e).2;have z':g=A:=z;subst z';exact absurd (h1.eq hA2) (by decide))
end
section
variable{Pz Pz':Nat -> Prop}{w0 w w':M}{B bs bl n:Nat}{va vr pv fv:J}{m:Mo}{ps:List (List (Int×Int))}{l:List (Int×Int)}{ho:Option Addr}{hc:Nat}
theorem SvOk.chg2{Z:Nat->Prop}(h:SvOk Pz w0 w B bs bl n va vr pv fv m ps l ho hc)(hs:Chg Z w w')(hz:∀i,Z i->w0.heap.size<=i/\i≠B/\i≠bs/\i≠bl/\¬TyB w i 4/\(TyB w i 3->¬Pz i))(hp:∀b,b<w.heap.size->Pz b->Pz' b)(hup:∀b,w'.heap.size<=b->Pz' b):SvOk Pz' w0 w' B bs bl n va vr pv fv m ps l ho hc:=by
 have k:=h.chg hs hz;obtain⟨f,h1,h2⟩:=h.st;have zs:¬Z bs:=fun z=>(hz _ z).2.2.1 rfl;refine⟨k.box,k.bel,k.lo1,k.lo2,k.ne,k.ah,k.aty,hup,fun a e=>hp _ (by have:=h.aty;rw[e]at this;exact this.ty.lt) (h.aP a e),⟨f,h1.chg hs zs,fun kl v hv=>?_⟩,k.li⟩;obtain⟨code,e1,e2,e3⟩:=h2 kl v hv;obtain⟨lo,lc,no,nc,so,sc,g1,g2,g3,g4,g5,g6,g7,g8,g9⟩:=e3.chg hs fun i z=>(hz i z).2.2.2.2;obtain⟨lo',lc',no',nc',so',sc',g1',_,_,_,_,g6',g7',_,_⟩:=e3;rw[g1]at g1';simp only[Value.agg.injEq,Array.mk.injEq,List.cons.injEq,Value.slice.injEq,and_true,true_and]at g1';obtain⟨⟨rfl,rfl⟩,⟨rfl,rfl⟩,rfl,rfl⟩:=g1';exact⟨code,e1,e2,lo,lc,no,nc,so,sc,g1,g2,g3,g4,g5,g6,g7,fun a e=>by subst e;exact hp _ g6'.ty.lt (g8 a rfl),fun a e=>by subst e;exact hp _ g7'.ty.lt (g9 a rfl)⟩
end
def JC(tv:J):Nat->Prop:=fun b=>tv.ownBlock≠V b
structure ExW(w0 w:M)(base A lm B bs bl n:Nat)(va vr pv fv:J)(m:Mo)(ps:List (List (Int×Int)))(l:List (Int×Int))(ho:Option Addr)(hc:Nat)(S:List (Int×Int))(N:List (List Int))(T:List Int)(init many:Int)(sv nv tv:J):Prop where
 su:SvOk (JC tv) w0 w B bs bl n va vr pv fv m ps l ho hc
 tl:AtX w base A lm S N T init many sv nv tv
 lo:w0.heap.size<=base/\B<base/\bs<base/\bl<base
section
variable{w0 w w' w1 w2:M}{base A lm B bs bl n n':Nat}{va vr pv fv:J}{m:Mo}{ps:List (List (Int×Int))}{l:List (Int×Int)}{ho:Option Addr}{hc:Nat}{S S':List (Int×Int)}{N:List (List Int)}{T:List Int}{init many:Int}{sv sv' nv tv nv' tv':J}
theorem ExW.below(h:ExW w0 w base A lm B bs bl n va vr pv fv m ps l ho hc S N T init many sv nv tv)(hb:L w.heap.size w w'):ExW w0 w' base A lm B bs bl n va vr pv fv m ps l ho hc S N T init many sv nv tv:=⟨h.su.below hb,h.tl.below hb,h.lo⟩
theorem ExW.call(h:ExW w0 w base A lm B bs bl n va vr pv fv m ps l ho hc S N T init many sv nv tv)(hs:Sk bs bl w w')(hv:SvOk (JC tv) w0 w' B bs bl n' va vr pv fv m ps l ho hc):ExW w0 w' base A lm B bs bl n' va vr pv fv m ps l ho hc S N T init many sv nv tv:=
 ⟨hv,h.tl.sk hs h.su.two (by have:=h.tl.bl;have:=h.lo;omega) (by have:=h.tl.bl;have:=h.lo;omega),h.lo⟩
theorem ExW.far(h:ExW w0 w base A lm B bs bl n va vr pv fv m ps l ho hc S N T init many sv nv tv){i:Nat}(hi:base<=i):w0.heap.size<=i/\i≠B/\i≠bs/\i≠bl:=by
 have:=h.lo;omega
theorem ExW.put(h:ExW w0 w base A lm B bs bl n va vr pv fv m ps l ho hc S N T init many sv nv tv)(hs:Chg (atZ A lm sv) w w')(hX:AtX w' base A lm S' N T init many sv' nv tv):ExW w0 w' base A lm B bs bl n va vr pv fv m ps l ho hc S' N T init many sv' nv tv:=by
 refine⟨h.su.chg hs fun i z=>?_,hX,h.lo⟩;obtain⟨es,c,em⟩:=h.tl.lies.isMap;rcases z with rfl|rfl|e
 .obtain ⟨a,b,c,d⟩:=h.far h.tl.bA;exact⟨a,b,c,d,fun ht=>absurd (ht.eq h.tl.ty) (by decide),fun ht=>absurd (ht.eq h.tl.ty) (by decide)⟩
 .obtain ⟨a,b,c,d⟩:=h.far h.tl.bl;exact⟨a,b,c,d,fun ht=>absurd em ht.no_map,fun ht=>absurd em ht.no_map⟩
 .obtain ⟨o1,o2⟩:=Aw h.tl.sp e;obtain⟨a,b,c,d⟩:=h.far o1;exact⟨a,b,c,d,fun ht=>absurd (ht.eq o2) (by decide),fun ht=>absurd (ht.eq o2) (by decide)⟩
theorem ExW.appN{us:List J}{r:List Int}{ao:Option Addr}{c:Nat}(h:ExW w0 w1 base A lm B bs bl n va vr pv fv m ps l ho hc S N T init many sv nv tv)(hus:w1.ownsRow base 39 1 nv N.length us/\us.length=N.length/\∀i,i<N.length->∃ao c,us.getD i (Y W 0 0)=.slice ao (N.getD i []).length c/\IntsV w1 (.slice ao (N.getD i []).length c) (N.getD i [])/\Ag w1 (.slice ao (N.getD i []).length c) 3/\∀a,ao=V a->tv.ownBlock≠V a.block/\base<=a.block)
  (hr:IntsV w1 (.slice ao r.length c) r) (hty:Ag w1 (.slice ao r.length c) 3) (hap:∀a,ao=V a->tv.ownBlock≠V a.block/\base<=a.block) (hg:w1.grownBy w2 nv.ownBlock) (ho':w2.ownsRow base 39 1 nv' (N.length+1) (us++[.slice ao r.length c])):ExW w0 (w2.setCell ⟨A,2,W⟩ nv') base A lm B bs bl n va vr pv fv m ps l ho hc S (N++[r]) T init many sv nv' tv:=by
 have hch:Chg (fun i=>i=A\/nv.ownBlock=V i) w1 (w2.setCell ⟨A,2,W⟩ nv'):=((Chg.grown hg).weaken (fun i _ e=>.inr e)).trans2 (Chg.setCell w2 _ _) (fun i _ e=>.inl e);refine⟨h.su.chg hch fun i z=>?_,h.tl.appN hus hr hty hap hg ho',h.lo⟩;rcases z with rfl|e
 .obtain ⟨a,b,c,d⟩:=h.far h.tl.bA;exact⟨a,b,c,d,fun ht=>absurd (ht.eq h.tl.ty) (by decide),fun ht=>absurd (ht.eq h.tl.ty) (by decide)⟩
 .obtain ⟨o1,o2⟩:=Aw hus.1 e;obtain⟨a,b,c,d⟩:=h.far o1;exact⟨a,b,c,d,fun ht=>absurd (ht.eq o2) (by decide),fun ht=>absurd (ht.eq o2) (by decide)⟩
theorem ExW.appT{x:Int}(h:ExW w0 w1 base A lm B bs bl n va vr pv fv m ps l ho hc S N T init many sv nv tv)(hg:w1.grownBy w2 tv.ownBlock)(ho':w2.ownsRow base 3 1 tv' (T.length+1) (AB T++[.int U x]))(hown:tv'.ownBlock=tv.ownBlock\/∃g,tv'.ownBlock=V g/\w1.heap.size<=g):ExW w0 (w2.setCell ⟨A,3,W⟩ tv') base A lm B bs bl n va vr pv fv m ps l ho hc S N (T++[x]) init many sv nv tv':=by
 have hch:Chg (fun i=>i=A\/tv.ownBlock=V i) w1 (w2.setCell ⟨A,3,W⟩ tv'):=((Chg.grown hg).weaken (fun i _ e=>.inr e)).trans2 (Chg.setCell w2 _ _) (fun i _ e=>.inl e);have hX:=h.tl.appT hg ho' hown;refine⟨h.su.chg2 hch (fun i z=>?_) (fun b hb hp=>?_) (fun b hb e=>?_),hX,h.lo⟩
 .rcases z with rfl|e
  .obtain ⟨a,b,c,d⟩:=h.far h.tl.bA;exact⟨a,b,c,d,fun ht=>absurd (ht.eq h.tl.ty) (by decide),fun ht=>absurd (ht.eq h.tl.ty) (by decide)⟩
  .obtain ⟨o1,o2⟩:=Aw h.tl.st e;obtain⟨a,b,c,d⟩:=h.far o1;exact⟨a,b,c,d,fun ht=>absurd (ht.eq o2) (by decide),fun _ hp=>hp e⟩
 .intro e;rcases hown with h1|⟨g,h1,h2⟩
  .rw[h1]at e;exact hp e
  .rw[h1]at e;injection e with e;omega
 .have:=(Aw hX.st e).2.lt;omega
end
theorem Qw:(qA.info? 39).map (fun i=>(i.zero,i.size,i.bytes))=V (V (Y W 0 0),1,24):=by kernel_rfl
theorem J5{l:List (Int×Int)}{x:List Bool}{c:Int}{y:List Bool}{st:Int}{p:Int×Int}:∀k,p∈CU l x c y st k->p.1=st/\∃d:Nat,d<k/\p.2=(d:Int)/\A9 l x c y (d:Int)=true
 |0,h=>by simp[CU]at h
 |k+1,h=>by
  rw[CU]at h;split at h
  .next hf=>
   rw[qN,vJ]at h;rcases h with h|rfl
   .obtain ⟨h1,d,h2,h3⟩:=J5 k h;exact⟨h1,d,by omega,h3⟩
   .exact ⟨rfl,k,by omega,rfl,hf⟩
  .obtain ⟨h1,d,h2,h3⟩:=J5 k h;exact⟨h1,d,by omega,h3⟩
theorem Nj{m:Mo}{ps:List (List (Int×Int))}{l:List (Int×Int)}{code c:Int}{p:Int×Int}:∀i,i<=(AL m code).length->p∈C2 m ps l code c i->p.1∈AL m code/\∃d:Nat,d<2^(AA l).length/\p.2=(d:Int)/\A9 l (AJ m ps code) c (AJ m ps p.1) (d:Int)=true
 |0,_,h=>by simp[C2]at h
 |i+1,hi,h=>by
  rw[C2,qN]at h;rcases h with h|h
  .exact Nj i (by omega) h
  .obtain ⟨h1,d,h2,h3,h4⟩:=J5 _ h;refine⟨?_,d,h2,h3,by rw[h1];exact h4⟩;rw[h1,qC,qH (by omega)];exact qT _
theorem Kb{m:Mo}{ps:List (List (Int×Int))}{l:List (Int×Int)}{code c:Int}(hm:mcode m=0)(hcr:0<=code/\code<AK m.vars m.vars.length){p:Int×Int}(h:p∈AZ m ps l code c):(0<=p.1/\p.1<AK m.vars m.vars.length)/\∃d:Nat,d<2^(AA l).length/\p.2=(d:Int):=by
 obtain⟨h1,d,h2,h3,_⟩:=Nj _ (qB _) h;exact⟨I5 hm hcr h1,d,h2,h3⟩
theorem IJ{m:Mo}{ps:List (List (Int×Int))}{l:List (Int×Int)}{code c:Int}(hm:mcode m=0)(hcr:0<=code/\code<AK m.vars m.vars.length)(h6:(AA l).length<=6):(AZ m ps l code c).length<=262144:=by
 have h1:=IK (m:=m) (ps:=ps) (l:=l) (vG (show 0<2 by decide) h6) code c (AL m code).length;have h2:=MB hm hcr;unfold AZ;omega
theorem NH{m:Mo}{ps:List (List (Int×Int))}{l:List (Int×Int)}(hk:Af m ps l=0){p:Int×Int}(h:(0<=p.1/\p.1<AK m.vars m.vars.length)/\∃d:Nat,d<2^(AA l).length/\p.2=(d:Int)):Cn p:=by
 obtain⟨hp0,hl0⟩:=Ba hk;obtain⟨hm0,_⟩:=Cj hp0;obtain⟨_,_,_,_,h6⟩:=CC hl0;have hpr:=((Cv hm0).prod (qB m.vars.length)).2;have hN64:2^(AA l).length<=64:=vG (show 0<2 by decide) h6;obtain⟨h1,d,h2,h3⟩:=h;unfold Cn;omega
def H7(w0:M)(base A lm B bs bl n:Nat)(va vr pv fv:J)(m:Mo)(ps:List (List (Int×Int)))(l:List (Int×Int))(ho:Option Addr)(hc:Nat)(S:List (Int×Int))(N:List (List Int))(T:List Int)(init many:Int)(code:Int)(c:Nat)(e:Ending)(w':M):Prop:=
 e=I (.int U (if 20000<(AG S (AZ m ps l code (c:Int))).length then 12 else 0))/\∃sv nv tv,O (ExW w0 w' base A lm B bs bl (n+300001) va vr pv fv m ps l ho hc (AG S (AZ m ps l code (c:Int))) (N++[Ck S (AZ m ps l code (c:Int))]) (T++[B1 l (AJ m ps code) (c:Int)]) init many sv nv tv)
theorem Qf(w0 w:M)(base A lm B bs bl n:Nat)(va vr pv fv:J)(m:Mo)(ps:List (List (Int×Int)))(l:List (Int×Int))(ho:Option Addr)(hc:Nat)(S:List (Int×Int))(N:List (List Int))(T:List Int)(init many:Int)(sv nv tv:J)(code:Int)(c:Nat)(hB:0<w0.heap.size)(hT:AH w0)(hV:TaskV w0 va vr pv fv m ps l)(hk:Af m ps l=0)(hX:ExW w0 w base A lm B bs bl n va vr pv fv m ps l ho hc S N T init many sv nv tv)(hn:n+600000<1000000000000)(hcr:0<=code/\code<AK m.vars m.vars.length)(hcN:c<2^(AA l).length)(hzS:S.length<=20000)(hzN:N.length<=20000)(hzT:T.length<=20000) :
  ZZ qA 20 #[G (V ⟨A,0,W⟩),G (V ⟨B,0,W⟩),H #[E U code,.int U (c:Int)]] w (H7 w0 base A lm B bs bl n va vr pv fv m ps l ho hc S N T init many code c):=by
 obtain⟨hp0,hl0⟩:=Ba hk;obtain⟨hm0,_⟩:=Cj hp0;obtain⟨_,_,_,_,h6⟩:=CC hl0;have hpr:=((Cv hm0).prod (qB m.vars.length)).2;have hI:-9223372036854775808<=code/\code<=9223372036854775807:=by omega
 have hbl:=IJ (ps:=ps) (c:=(c:Int)) hm0 hcr h6;have hIs:∀j,j<(AZ m ps l code (c:Int)).length->Cn ((AZ m ps l code (c:Int)).getD j (0,0)):=fun j hj=>NH hk (Kb hm0 hcr (c:=(c:Int)) (ps:=ps) (by rw[qC,qH hj];exact qT _));have hw0:=ED hm0 hcr;obtain⟨W1,hW1⟩:∃W1,W1=w.alloc (Q #[E U code,.int U (c:Int)] 75):=⟨_,rfl⟩;have hb1:L w.heap.size w W1:=by rw[hW1];exact(qD _ _).alloc (qB _) _
 have hs1:W1.cell? ⟨w.heap.size,0,W⟩=V (.int U code)/\W1.cell? ⟨w.heap.size,1,W⟩=V (.int U (c:Int)):=by rw[hW1];constructor<;>simp[go_sem]
 have hX1:=hX.below hb1;have hbe:ZZ qA 33 #[G (V ⟨B,0,W⟩),H #[E U code,.int U (c:Int)]] W1 fun e w2=>∃so sc,e=I (C #[.slice so (AZ m ps l code (c:Int)).length sc,.int U 0])/\(w2.cell? ⟨w.heap.size,0,W⟩=V (.int U code)/\w2.cell? ⟨w.heap.size,1,W⟩=V (.int U (c:Int)))/\O (ExW w0 w2 base A lm B bs bl (n+300000) va vr pv fv m ps l ho hc S N T init many sv nv tv/\SpO w2 W1.heap.size (.slice so (AZ m ps l code (c:Int)).length sc) (AZ m ps l code (c:Int))):=
  (Od w0 W1 B bs bl n va vr pv fv m ps l ho hc code c hI hB hT hV hk hX1.su (by omega) hcr hcN).mono fun e w2 ⟨h1,h2,h3⟩=>by
   rcases h3 with⟨_,so,sc,h4,h5⟩|⟨h4,_⟩
   .exact ⟨so,sc,h4,⟨h1.cell hX1.su.two hs1.1,h1.cell hX1.su.two hs1.2⟩,hX1.call h1 h2.out,h5.out⟩
   .exact absurd hw0 h4
 have HMe:O (∀w2,ExW w0 w2 base A lm B bs bl (n+300000) va vr pv fv m ps l ho hc S N T init many sv nv tv->ZZ qA 34 #[G (V ⟨B,0,W⟩),H #[E U code,.int U (c:Int)]] w2 fun e w3=>e=I (C #[E U (B1 l (AJ m ps code) (c:Int)),.int U 0])/\O (ExW w0 w3 base A lm B bs bl (n+300001) va vr pv fv m ps l ho hc S N T init many sv nv tv/\∀so sc,SpO w2 W1.heap.size (.slice so (AZ m ps l code (c:Int)).length sc) (AZ m ps l code (c:Int))->SpO w3 W1.heap.size (.slice so (AZ m ps l code (c:Int)).length sc) (AZ m ps l code (c:Int)))):=fun w2 hx=>
  (R2 w0 w2 B bs bl (n+300000) va vr pv fv m ps l ho hc code c hI hB hT hV hk hx.su (by omega) hcr hcN).mono fun e w3 ⟨h1,h2,h3⟩=>⟨h1,hx.call h2 h3.out,fun so sc h=>h.sk h2 hx.su.two⟩
 have HPl:O (∀w3 so sc,ExW w0 w3 base A lm B bs bl (n+300001) va vr pv fv m ps l ho hc S N T init many sv nv tv->SpO w3 W1.heap.size (.slice so (AZ m ps l code (c:Int)).length sc) (AZ m ps l code (c:Int))->ZZ qA 19 #[G (V ⟨A,0,W⟩),.slice so (AZ m ps l code (c:Int)).length sc] w3.drew fun e w4=>e=I (Y (V ⟨w3.heap.size,0,W⟩) (AZ m ps l code (c:Int)).length (AZ m ps l code (c:Int)).length)/\∃us sv',w4.cell? ⟨A,2,W⟩=V nv/\(w4.alloc (Q #[Y (V ⟨w3.heap.size,0,W⟩) (AZ m ps l code (c:Int)).length (AZ m ps l code (c:Int)).length] 39)).cell? ⟨A,2,W⟩=V nv/\(w4.alloc (Q #[Y (V ⟨w3.heap.size,0,W⟩) (AZ m ps l code (c:Int)).length (AZ m ps l code (c:Int)).length] 39)).ownsRow base 39 1 nv N.length us/\base<=(w4.alloc (Q #[Y (V ⟨w3.heap.size,0,W⟩) (AZ m ps l code (c:Int)).length (AZ m ps l code (c:Int)).length] 39)).heap.size/\O (∀g cap w9,World.ownsRow w9 base 39 1 (Y (V ⟨g,0,W⟩) (N.length+1) cap) (N.length+1) (us++[Y (V ⟨w3.heap.size,0,W⟩) (AZ m ps l code (c:Int)).length (AZ m ps l code (c:Int)).length])->(w4.alloc (Q #[Y (V ⟨w3.heap.size,0,W⟩) (AZ m ps l code (c:Int)).length (AZ m ps l code (c:Int)).length] 39)).grownBy w9 nv.ownBlock->(w9.cell? ⟨A,2,W⟩=V nv/\w9.frozen? ⟨A,2,W⟩=F)/\ExW w0 (w9.setCell ⟨A,2,W⟩ (Y (V ⟨g,0,W⟩) (N.length+1) cap)) base A lm B bs bl (n+300001) va vr pv fv m ps l ho hc (AG S (AZ m ps l code (c:Int))) (N++[Ck S (AZ m ps l code (c:Int))]) T init many sv' (Y (V ⟨g,0,W⟩) (N.length+1) cap) tv)):=fun w3 so sc hx hsp=>by
  have hbd:L w3.heap.size w3 w3.drew:=(qD _ _).drew;have hx3:=hx.below hbd;have hsp3:=hsp.later hbd (qB _);have hsep:∀a,so=V a->¬atZ A lm sv a.block:=fun a e z=>by
   have hge:=MO hsp a _ _ (by rw[e]);rcases z with z|z|z
   .have:=hX1.tl.lt;omega
   .have:=hX1.tl.lies.lt;omega
   .have:=(Aw hX1.tl.sp z).2.lt;omega
  refine(Ma w3.drew base A lm S N T init many sv nv tv _ so sc hx3.tl hsp3.v hsep hIs (by omega)).mono fun e w4 ⟨h1,sv',h2,h3,h4,h5,h6⟩=>?_;have hx4:=hx3.put h5 h2;have hba:L w4.heap.size w4 (w4.alloc (Q #[Y (V ⟨w3.heap.size,0,W⟩) (AZ m ps l code (c:Int)).length (AZ m ps l code (c:Int)).length] 39)):=(qD _ _).alloc (qB _) _;have hx5:=hx4.below hba;obtain⟨us,hus⟩:=id hx5.tl.nx;have hbs3:base<=w3.heap.size:=hx.tl.base_le;refine⟨h1,us,sv',(C0 hx4.tl.box).2.2.1,(C0 hx5.tl.box).2.2.1,hus.1,hx5.tl.base_le,fun g cap w9 g1 g2=>⟨?_,?_⟩⟩
  .have hbx:w9.heap[A]? = V (atB sv' nv tv init many lm):=(g2.block A hx5.tl.lt fun e=>by have:=hx5.tl.ty.eq (Aw hus.1 e.symm).2;exact absurd this (by decide)).trans hx5.tl.box;exact⟨(C0 hbx).2.2.1,IE hbx 2⟩
  .have e:(AZ m ps l code (c:Int)).length=(Ck S (AZ m ps l code (c:Int))).length:=(G2 _ _).symm;have hr5:=h3.below hba;have ht5:=h4.below hba;have hr6:IntsV (w4.alloc (Q #[Y (V ⟨w3.heap.size,0,W⟩) (AZ m ps l code (c:Int)).length (AZ m ps l code (c:Int)).length] 39)) (Y (V ⟨w3.heap.size,0,W⟩) (Ck S (AZ m ps l code (c:Int))).length (AZ m ps l code (c:Int)).length) (Ck S (AZ m ps l code (c:Int))):=by rw[<-e];exact hr5
   have ht6:Ag (w4.alloc (Q #[Y (V ⟨w3.heap.size,0,W⟩) (AZ m ps l code (c:Int)).length (AZ m ps l code (c:Int)).length] 39)) (Y (V ⟨w3.heap.size,0,W⟩) (Ck S (AZ m ps l code (c:Int))).length (AZ m ps l code (c:Int)).length) 3:=by rw[<-e];exact ht5
   refine hx5.appN hus hr6 ht6 (fun a ea=>?_) g2 (by rw[<-e];exact g1);injection ea with ea;subst ea;refine⟨fun e2=>?_,hbs3⟩;have:=(Aw hx.tl.st e2).2.lt;simp only at this;omega
 clear hX hX1 hT hV hk hp0 hl0 hm0 hIs hw0;unfold H7;generalize AZ m ps l code (c:Int)=beh at *;generalize B1 l (AJ m ps code) (c:Int)=mt at *;have HPn:O (∀w' sv nv tv N T n,ExW w0 w' base A lm B bs bl n va vr pv fv m ps l ho hc (AG S beh) N T init many sv nv tv->∃vo vc,sv=.slice vo (AG S beh).length vc):=fun w' sv nv tv N T n h=>h.tl.sp.shape
 have hpn:(AG S beh).length<=300000:=by have:=(G4 beh S).2;omega
 generalize AG S beh=PS at *;generalize Ck S beh=PI at *;generalize hbn:beh.length=bn at *;have HTs:O (∀w' sv nv n S N,ExW w0 w' base A lm B bs bl n va vr pv fv m ps l ho hc S N T init many sv nv tv->∃xo xc,tv=.slice xo T.length xc):=fun w' sv nv n S N h=>A3 h.tl.st
 have HNs:O (∀w',ExW w0 w' base A lm B bs bl (n+300000) va vr pv fv m ps l ho hc S N T init many sv nv tv->∃xo xc,nv=.slice xo N.length xc):=fun w' h=>by
  obtain⟨us,h1,_⟩:=h.tl.nx;exact A3 h1
 obtain⟨i0,hi,hz0,hz1,hz2⟩:=info_parts Qw;obtain⟨j0,hj,jz0,jz1,jz2⟩:=info_parts Bd;go_enter Tryz.func20,Tryz.ntmps20;go_upto_region 7 with(first|(go_at_call 33;rw[<-hW1];refine hbe.mono ?_;rintro e w2 ⟨so,sc,rfl,⟨b0,b1⟩,HX2⟩;have hme:=HMe.out w2 HX2.out.1)|(go_at_call 34;refine hme.mono ?_;rintro e w3 ⟨rfl,HX3⟩))
 have hpl:=HPl.out w3 so sc HX3.out.1 (HX3.out.2 so sc HX2.out.2);have a2:w3.cell? ⟨A,2,W⟩=V nv:=(C0 HX3.out.1.tl.box).2.2.1;obtain⟨no,nc,rfl⟩:=HNs.out w2 HX2.out.1;clear hbe hme HMe HPl HX2 HX3 HNs hs1 b0 b1;go_cut [] (fun wx=>∃sv' nv',O (ExW w0 wx base A lm B bs bl (n+300001) va vr pv fv m ps l ho hc PS (N++[PI]) T init many sv' nv' tv))
 case first=>
  go_region_law (first
   |(refine step_append_lies _ (by rfl) (.tmp 33) (.tmp 37) 38 (by rfl) base 39 i0 _ 1 24 Tryz.underlying38 hi hz0 hz1 hz2 (by rfl) (by decide) (.slice no N.length nc) N.length us (by rfl) hown4 ⟨w4.heap.size,0,W⟩ 1 1 [Y (V ⟨w3.heap.size,0,W⟩) bn bn] (by rfl) (by rfl) (cell_one_new _ _ _) (by intro u hu;simp at hu;subst hu;rfl) (by decide) (by unfold maxLen;omega) (by omega) hba4 _ rfl ?_;intro g9 cap9 w9 hown hgrow hat hlt9;obtain⟨⟨z0,zf⟩,hx9⟩:=HN4.out g9 cap9 w9 hown hgrow;have HX9:=(show O _ from hx9);clear hx9 hown hgrow hat)
   |(go_simp;go_at_call 19;refine hpl.mono ?_;rintro e w4 ⟨rfl,us,sv4,y0,y1,hown4,hba4,HN4⟩))
  all_goals go_wp2_with fail
  all_goals go_meet
  all_goals exact⟨_,_,HX9⟩
 case rest=>
  obtain⟨sv5,nv5,HX5⟩:=hcut;obtain⟨xo,xc,rfl⟩:=HTs.out wc sv5 nv5 _ PS _ HX5.out;obtain⟨vo5,vc5,rfl⟩:=HPn.out wc _ _ _ _ _ _ HX5.out;have hba:L wc.heap.size wc (wc.alloc (Q #[E U mt] 3)):=(qD _ _).alloc (qB _) _;have hx6:=HX5.out.below hba;have hown6:World.ownsRow (wc.alloc (Q #[E U mt] 3)) base 3 1 (.slice xo T.length xc) T.length (AB T):=hx6.tl.st;have hbs6:=hx6.tl.base_le;have a3:wc.cell? ⟨A,3,W⟩=V (.slice xo T.length xc):=(C0 HX5.out.tl.box).2.2.2.1;have HT6:O (∀g cap w9,World.ownsRow w9 base 3 1 (Y (V ⟨g,0,W⟩) (T.length+1) cap) (T.length+1) (AB T++[.int U mt])->(wc.alloc (Q #[E U mt] 3)).grownBy w9 (Value.slice xo T.length xc).ownBlock->((Value.slice xo T.length xc).ownBlock=V g\/g=(wc.alloc (Q #[E U mt] 3)).heap.size)->(w9.cell? ⟨A,3,W⟩=V (.slice xo T.length xc)/\w9.frozen? ⟨A,3,W⟩=F)/\(w9.setCell ⟨A,3,W⟩ (Y (V ⟨g,0,W⟩) (T.length+1) cap)).cell? ⟨A,0,W⟩=V (.slice vo5 PS.length vc5)/\O (ExW w0 (w9.setCell ⟨A,3,W⟩ (Y (V ⟨g,0,W⟩) (T.length+1) cap)) base A lm B bs bl (n+300001) va vr pv fv m ps l ho hc PS (N++[PI]) (T++[mt]) init many (.slice vo5 PS.length vc5) nv5 (Y (V ⟨g,0,W⟩) (T.length+1) cap))):=fun g cap w9 h1 h2 h3=>by
   have hbx:w9.heap[A]? = V (atB (.slice vo5 PS.length vc5) nv5 (.slice xo T.length xc) init many lm):=(h2.block A hx6.tl.lt fun e=>by have:=hx6.tl.ty.eq (Aw hx6.tl.st e.symm).2;exact absurd this (by decide)).trans hx6.tl.box;have hxx:=hx6.appT h2 h1 (by
    rcases h3 with h|h
    .exact .inl (by rw[h];rfl)
    .exact .inr ⟨g,rfl,by omega⟩)
   exact⟨⟨(C0 hbx).2.2.2.1,IE hbx 3⟩,(C0 hxx.tl.box).1,hxx⟩
  clear hx6 HX5 HTs HPn;by_cases hfull:20000<PS.length
  .have hfi:(20000:Int)<(PS.length:Int):=by omega
   go_wp2_with (first|(at_builtin;refine wpList_append_lies _ rfl (.tmp 47) (.tmp 49) 39 rfl base 3 j0 _ 1 8 Tryz.underlying39 hj jz0 jz1 jz2 rfl (by decide) (.slice xo T.length xc) T.length (AB T) rfl hown6 ⟨wc.heap.size,0,W⟩ 1 1 [.int U mt] rfl rfl (cell_one_new _ _ _) (by intro u hu;simp at hu;subst hu;rfl) (by decide) (by unfold maxLen;omega) (by omega) hbs6 _ rfl ?_;intro g9 cap9 w9 hown hgrow hat hlt9;obtain⟨⟨z0,zf⟩,z1,HX9⟩:=HT6.out g9 cap9 w9 hown hgrow hat;clear hown hgrow hat))
   go_ret;exact⟨by first|rfl|simp[hfull],_,_,_,HX9⟩
  .have hfi:¬(20000:Int)<(PS.length:Int):=by omega
   go_wp2_with (first|(at_builtin;refine wpList_append_lies _ rfl (.tmp 47) (.tmp 49) 39 rfl base 3 j0 _ 1 8 Tryz.underlying39 hj jz0 jz1 jz2 rfl (by decide) (.slice xo T.length xc) T.length (AB T) rfl hown6 ⟨wc.heap.size,0,W⟩ 1 1 [.int U mt] rfl rfl (cell_one_new _ _ _) (by intro u hu;simp at hu;subst hu;rfl) (by decide) (by unfold maxLen;omega) (by omega) hbs6 _ rfl ?_;intro g9 cap9 w9 hown hgrow hat hlt9;obtain⟨⟨z0,zf⟩,z1,HX9⟩:=HT6.out g9 cap9 w9 hown hgrow hat;clear hown hgrow hat))
   go_ret;exact⟨by first|rfl|simp[hfull],_,_,_,HX9⟩
variable{Pz:Nat -> Prop}
theorem SvOk.made{w0 w w':M}{n:Nat}{va vr pv fv:J}{m:Mo}{ps:List (List (Int×Int))}{l:List (Int×Int)}{ho:Option Addr}{hc:Nat}(hb:L w0.heap.size w0 w)(hb2:L w.heap.size w w')(hn:w.heap.size<=n)(hs:SurvAt w' (n+2) va vr pv fv (.slice ho (AA l).length hc) n (n+1))
  (ho':w'.ownsRow w.heap.size 3 1 (.slice ho (AA l).length hc) (AA l).length (AB (AA l))) (h1:w'.heap[n]? = V (.map #[] 0)) (h2:w'.heap[n+1]? = V (.map #[] 0)):SvOk (fun _=>True) w0 w' (n+2) n (n+1) 0 va vr pv fv m ps l ho hc:=by
 have:=hb.size;exact⟨hs,hb.trans (hb2.mono hb.size),by omega,by omega,by omega,Dz ho',Ag.owns ho',fun _ _=>trivial,fun _ _=>trivial,⟨_,MapIs.new _ h1,fun kl v h=>by simp at h⟩,⟨_,MapIs.new _ h2,fun kl v h=>by simp at h⟩⟩
def Bl(m:Mo)(l:List (Int×Int))(p:Int×Int):Prop:=(0<=p.1/\p.1<AK m.vars m.vars.length)/\∃d:Nat,d<2^(AA l).length/\p.2=(d:Int)
noncomputable def BA(m:Mo)(ps:List (List (Int×Int)))(l:List (Int×Int))(p:Int×Int):List (Int×Int):=AZ m ps l p.1 p.2
noncomputable def xpP(m:Mo)(ps:List (List (Int×Int)))(l:List (Int×Int))(k:Nat):List (Int×Int):=exS (AC m ps l) (BA m ps l) k
noncomputable def B7(m:Mo)(ps:List (List (Int×Int)))(l:List (Int×Int))(k:Nat):Int×Int:=(xpP m ps l k).getD k (0,0)
noncomputable def xpN(m:Mo)(ps:List (List (Int×Int)))(l:List (Int×Int)):Nat->List (List Int)
 |0=>[]
 |k+1=>xpN m ps l k++[Ck (xpP m ps l k) (BA m ps l (B7 m ps l k))]
noncomputable def xpT(m:Mo)(ps:List (List (Int×Int)))(l:List (Int×Int)):Nat->List Int
 |0=>[]
 |k+1=>xpT m ps l k++[B1 l (AJ m ps (B7 m ps l k).1) (B7 m ps l k).2]
section
variable{m:Mo}{ps:List (List (Int×Int))}{l:List (Int×Int)}
theorem Hu(k:Nat):xpP m ps l (k+1)=AG (xpP m ps l k) (BA m ps l (B7 m ps l k)):=rfl
theorem DW:∀k,(xpN m ps l k).length=k
 |0=>rfl
 |k+1=>by rw[xpN,qF,DW k];rfl
theorem Dm:∀k,(xpT m ps l k).length=k
 |0=>rfl
 |k+1=>by rw[xpT,qF,Dm k];rfl
theorem Ht{p:Int×Int}:∀k,p∈CA m ps l k->p.1=B9 m/\∃d:Nat,d<k/\p.2=(d:Int)/\tru l (AJ m ps (B9 m)) (d:Int) 0≠true
 |0,h=>by simp[CA]at h
 |k+1,h=>by
  rw[CA]at h;split at h
  .obtain ⟨h1,d,h2,h3⟩:=Ht k h;exact⟨h1,d,by omega,h3⟩
  .next hf=>
   rw[qN,vJ]at h;rcases h with h|rfl
   .obtain ⟨h1,d,h2,h3⟩:=Ht k h;exact⟨h1,d,by omega,h3⟩
   .exact ⟨rfl,k,by omega,rfl,hf⟩
theorem Ka(hk:Af m ps l=0){p:Int×Int}(h:p∈AC m ps l):Bl m l p:=by
 obtain⟨h1,d,h2,h3,_⟩:=Ht _ h;exact⟨by rw[h1];exact Jn hk,d,h2,h3⟩
theorem V2(hk:Af m ps l=0){s p:Int×Int}(hs:Bl m l s)(h:p∈BA m ps l s):Bl m l p:=Kb (Cj (Ba hk).1).1 hs.1 h
theorem Nt(hk:Af m ps l=0):∀p∈xpP m ps l 0,Bl m l p:=fun p hp=>by
 rcases(Ec _ _ _).1 hp with h|h
 .exact absurd h List.not_mem_nil
 .exact Ka hk h
theorem J6{k:Nat}(h:k<(xpP m ps l k).length):B7 m ps l k∈xpP m ps l k:=by
 unfold B7;rw[qC,qH h];exact qT _
theorem Ns(hk:Af m ps l=0){k:Nat}(hl:k<(xpP m ps l k).length)(h:∀p∈xpP m ps l k,Bl m l p):∀p∈xpP m ps l (k+1),Bl m l p:=fun p hp=>by
 rw[Hu]at hp;rcases(Ec _ _ _).1 hp with h1|h1
 .exact h p h1
 .exact V2 hk (h _ (J6 hl)) h1
end
def BI(m:Mo)(ps:List (List (Int×Int)))(l:List (Int×Int))(K:Nat):Prop:=(xpP m ps l K).length=K/\K<=20000/\(∀j,j<K->j<(xpP m ps l j).length)/\∀p∈xpP m ps l K,Bl m l p
def Ep(m:Mo)(ps:List (List (Int×Int)))(l:List (Int×Int)):Prop:=∃k,(∀j,j<=k->j<(xpP m ps l j).length)/\20000<(xpP m ps l (k+1)).length
def GrX(w:M)(base:Nat)(m:Mo)(ps:List (List (Int×Int)))(l:List (Int×Int))(K:Nat)(sv nv tv:J):Prop:=SpO w base sv (xpP m ps l K)/\Dq w base nv tv (xpN m ps l K)/\w.ownsRow base 3 1 tv (xpT m ps l K).length (AB (xpT m ps l K))
def FQ(w:M)(m:Mo)(ps:List (List (Int×Int)))(l:List (Int×Int))(e:Ending)(w':M):Prop:=
 (Af m ps l=0/\∃K,BI m ps l K/\∃sv nv tv,e=I (C #[H #[sv,.int U ((AC m ps l).length:Nat),nv,tv,.int U ((AA l).length:Nat)],.int U 0])/\L w.heap.size w w'/\O (GrX w' w.heap.size m ps l K sv nv tv))\/
 (Af m ps l=0/\Ep m ps l/\e=I (C #[H #[Y W 0 0,.int U 0,Y W 0 0,Y W 0 0,.int U 0],.int U 12])/\L w.heap.size w w')\/
 (Af m ps l≠0/\e=I (C #[H #[Y W 0 0,.int U 0,Y W 0 0,Y W 0 0,.int U 0],.int U (Af m ps l)])/\L w.heap.size w w')
def grB(sv nv tv:J)(init many:Int):Obj:=Q #[sv,.int U init,nv,tv,.int U many] 41 (0,0)
section
variable{w w':M}{X:Nat}{sv nv tv:J}{init many:Int}
theorem El(hb:w.heap[X]? = V (grB sv nv tv init many)):w.cell? ⟨X,0,W⟩=V sv/\w.cell? ⟨X,1,W⟩=V (.int U init)/\w.cell? ⟨X,2,W⟩=V nv/\w.cell? ⟨X,3,W⟩=V tv/\w.cell? ⟨X,4,W⟩=V (.int U many):=by
 unfold grB at hb;refine⟨?_,?_,?_,?_,?_⟩<;>simp[World.cell?,hb]
theorem LM(hb:w.heap[X]? = V (grB sv nv tv init many))(i:Nat):w.frozen? ⟨X,i,W⟩=false:=by
 unfold grB at hb;simp[World.frozen?,hb]
theorem IV(w:M)(X:Nat)(a b c d e:J):Chg (fun i=>i=X) w (((((w.setCell ⟨X,0,W⟩ a).setCell ⟨X,1,W⟩ b).setCell ⟨X,2,W⟩ c).setCell ⟨X,3,W⟩ d).setCell ⟨X,4,W⟩ e):=
 (((((Chg.setCell w ⟨X,0,W⟩ a).trans (Chg.setCell _ ⟨X,1,W⟩ b)).trans (Chg.setCell _ ⟨X,2,W⟩ c)).trans (Chg.setCell _ ⟨X,3,W⟩ d)).trans (Chg.setCell _ ⟨X,4,W⟩ e))
theorem GrX.chg{base K:Nat}{m:Mo}{ps:List (List (Int×Int))}{l:List (Int×Int)}(h:GrX w base m ps l K sv nv tv)(hs:Chg (fun i=>i=X) w w')(ht:TyB w X 41):GrX w' base m ps l K sv nv tv:=by
 obtain⟨h1,h2,h3⟩:=h;obtain⟨us,n1,_⟩:=id h2;have hno:∀g t,TyB w g t->t≠41->g≠X:=fun g t hg hn e=>hn (hg.eq (e▸ht));exact⟨BW h1 hs (fun g e=>hno g _ (Aw h1 e).2 (by decide)),h2.chg hs (fun i z=>⟨fun e=>hno i _ (Aw n1 e).2 (by decide) z,fun _ _ _ _ _ hi=>hno i _ hi (by decide) z⟩),BW h3 hs (fun g e=>hno g _ (Aw h3 e).2 (by decide))⟩
theorem Dq.mono{base base':Nat}{N:List (List Int)}(h:Dq w base nv tv N)(hb:base'<=base):Dq w base' nv tv N:=by
 obtain⟨us,h1,h2,h3⟩:=h;refine⟨us,A2 h1 hb,h2,fun i hi=>?_⟩;obtain⟨ao,c,e1,e2,e3,e4⟩:=h3 i hi;exact⟨ao,c,e1,e2,e3,fun a e=>⟨(e4 a e).1,qI hb (e4 a e).2⟩⟩
end
theorem Pw(va vr pv fv:J)(m:Mo)(ps:List (List (Int×Int)))(l:List (Int×Int))(w:M)(hB:0<w.heap.size)(hT:AH w)(hV:TaskV w va vr pv fv m ps l)(hk:Af m ps l≠0) :
  ZZ qA 10 #[H #[va,vr,pv,fv]] w (FQ w m ps l):=by
 unfold FQ;obtain⟨ao,ac,rfl⟩:=hV.mo.1.shape;obtain⟨ro,rc,rfl⟩:=hV.mo.2.shape;obtain⟨po,pc,rfl⟩:=hV.ps.shape;obtain⟨fo,fc,rfl,_⟩:=id hV.fo;obtain⟨W0,hW0⟩:∃W0,W0=(w.alloc (Q #[.slice ao m.vars.length ac,.slice ro m.rules.length rc,.slice po ps.length pc,.slice fo l.length fc] 35)).alloc (Q #[Y W 0 0,.int U 0,Y W 0 0,Y W 0 0,.int U 0] 41):=⟨_,rfl⟩;have hbW:L w.heap.size w W0:=by rw[hW0];exact((qD _ _).alloc (qB _) _).alloc (by simp) _
 have hzW:W0.heap.size=w.heap.size+2:=by rw[hW0];simp
 have hX0:W0.heap[w.heap.size+1]? = V (grB (Y W 0 0) (Y W 0 0) (Y W 0 0) 0 0):=by
  rw[hW0];have:=(MapKept.heap_alloc (w.alloc (Q #[.slice ao m.vars.length ac,.slice ro m.rules.length rc,.slice po ps.length pc,.slice fo l.length fc] 35)) (Q #[Y W 0 0,.int U 0,Y W 0 0,Y W 0 0,.int U 0] 41)).1;rw[World.size_alloc]at this;exact this
 have hsv:=Uz _ _ _ _ m ps l W0 (qE hB hbW.size) (hT.below hbW hB) (hV.below hbW) hk;have HFin:O (∀w1,L W0.heap.size W0 w1->(w1.cell? ⟨w.heap.size+1,0,W⟩=V (Y W 0 0)/\w1.cell? ⟨w.heap.size+1,1,W⟩=V (.int U 0)/\w1.cell? ⟨w.heap.size+1,2,W⟩=V (Y W 0 0)/\w1.cell? ⟨w.heap.size+1,3,W⟩=V (Y W 0 0)/\w1.cell? ⟨w.heap.size+1,4,W⟩=V (.int U 0))/\(∀i,w1.frozen? ⟨w.heap.size+1,i,W⟩=F)/\L w.heap.size w w1):=fun w1 h=>by
  have hb:=(h.block (w.heap.size+1) (by omega)).trans hX0;exact⟨El hb,LM hb,hbW.trans (h.mono hbW.size)⟩
 have HK:O (Af m ps l≠0):=hk;generalize Af m ps l=tc at *;generalize m.vars.length=vn at *;generalize m.rules.length=rn at *;generalize ps.length=pn at *;generalize l.length=fn at *;clear hV hT
 go_enter Tryz.func10,Tryz.ntmps10;go_wp2_with (first|(go_at_call 17;rw[<-hW0];refine hsv.mono ?_;rintro e w1 ⟨rfl,hb1⟩;obtain⟨⟨x0,x1,x2,x3,x4⟩,xf,hbw⟩:=HFin.out w1 hb1;have f0:=xf 0;have f1:=xf 1;have f2:=xf 2;have f3:=xf 3;have f4:=xf 4))
 have hbF:L w.heap.size w (((((w1.setCell ⟨w.heap.size+1,0,W⟩ (Y W 0 0)).setCell ⟨w.heap.size+1,1,W⟩ (.int U 0)).setCell ⟨w.heap.size+1,2,W⟩ (Y W 0 0)).setCell ⟨w.heap.size+1,3,W⟩ (Y W 0 0)).setCell ⟨w.heap.size+1,4,W⟩ (.int U 0)):=hbw.trans ((IV w1 (w.heap.size+1) _ _ _ _ _).below (fun i e=>by omega) (by have:=hbw.size;omega));refine bodyPost_ret (v:=C #[H #[Y W 0 0,.int U 0,Y W 0 0,Y W 0 0,.int U 0],.int U tc]) ?_ rfl (.inr (.inr ⟨HK.out,rfl,hbF⟩));simp[results,Tryz.results10,go_sem,x0,x1,x2,x3,x4]
theorem Pu(W0 w1 w2:M)(n:Nat)(va vr pv fv:J)(m:Mo)(ps:List (List (Int×Int)))(l:List (Int×Int))(ho:Option Addr)(hc:Nat)(so:Option Addr)(sc:Nat)(hk:Af m ps l=0)(hb1:L W0.heap.size W0 w1)(hn:W0.heap.size<=n)(hs:SurvAt w1 (n+2) va vr pv fv (.slice ho (AA l).length hc) n (n+1))(hor:w1.ownsRow W0.heap.size 3 1 (.slice ho (AA l).length hc) (AA l).length (AB (AA l)))(hm:w1.heap[n]? = V (.map #[] 0)/\w1.heap[n+1]? = V (.map #[] 0))(hb2:L w1.heap.size w1 w2)(hsp:SpO w2 w1.heap.size (.slice so (AC m ps l).length sc) (AC m ps l)) :
  ZZ qA 19 #[G (V ⟨w2.heap.size+1,0,W⟩),.slice so (AC m ps l).length sc] ((w2.alloc (.map #[] 0)).alloc (Q #[Y W 0 0,.int U ((AC m ps l).length:Nat),Y W 0 0,Y W 0 0,.int U ((AA l).length:Nat),.map (V w2.heap.size)] 71)) fun e w3=>∃v sv,e=I v/\O (ExW W0 w3 w2.heap.size (w2.heap.size+1) w2.heap.size (n+2) n (n+1) (0*300001) va vr pv fv m ps l ho hc (xpP m ps l 0) (xpN m ps l 0) (xpT m ps l 0) ((AC m ps l).length:Nat) ((AA l).length:Nat) sv (Y W 0 0) (Y W 0 0)):=by
 have hbl:=IH hk;have hv1:SvOk (fun _=>True) W0 w1 (n+2) n (n+1) 0 va vr pv fv m ps l ho hc:=SvOk.made (qD _ _) hb1 hn hs hor hm.1 hm.2;have hv2:=hv1.below hb2;have hl1:=hv2.box.lt;have hl2:n<w2.heap.size:=by omega
 obtain⟨WA,hWA⟩:∃WA,WA=(w2.alloc (.map #[] 0)).alloc (Q #[Y W 0 0,.int U ((AC m ps l).length:Nat),Y W 0 0,Y W 0 0,.int U ((AA l).length:Nat),.map (V w2.heap.size)] 71):=⟨_,rfl⟩;have hbA:L w2.heap.size w2 WA:=by rw[hWA];exact((qD _ _).alloc (qB _) _).alloc (by simp) _
 have hmA:WA.heap[w2.heap.size]? = V (.map #[] 0):=by
  rw[hWA,Below.heap_alloc _ _ _ (by simp)];exact(MapKept.heap_alloc w2 _).1
 have hxA:WA.heap[w2.heap.size+1]? = V (atB (Y W 0 0) (Y W 0 0) (Y W 0 0) ((AC m ps l).length:Nat) ((AA l).length:Nat) w2.heap.size):=by
  rw[hWA];have:=(MapKept.heap_alloc (w2.alloc (.map #[] 0)) (Q #[Y W 0 0,.int U ((AC m ps l).length:Nat),Y W 0 0,Y W 0 0,.int U ((AA l).length:Nat),.map (V w2.heap.size)] 71)).1;rw[World.size_alloc]at this;exact this
 have hX:ExW W0 WA w2.heap.size (w2.heap.size+1) w2.heap.size (n+2) n (n+1) (0*300001) va vr pv fv m ps l ho hc [] (xpN m ps l 0) (xpT m ps l 0) ((AC m ps l).length:Nat) ((AA l).length:Nat) (Y W 0 0) (Y W 0 0) (Y W 0 0):=by
  refine⟨((hv2.re (Pz':=JC (Y W 0 0)) (fun _ _ _ e=>by simp[Value.ownBlock]at e) (fun _ _ e=>by simp[Value.ownBlock]at e)).below hbA).mono (by omega),⟨hxA,by omega,qB _,LiesAt.new hmA,SpO.nil _ _,⟨[],World.ownsRow_nil _ _ _ _,rfl,fun i hi=>by simp[xpN]at hi⟩,World.ownsRow_nil _ _ _ _⟩,?_,?_,?_,?_⟩
  .have:=hv2.bel.size;omega
  .omega
  .omega
  .omega
 have hsv:=(hsp.later hbA (qB _)).v;have hIs:∀j,j<(AC m ps l).length->Cn ((AC m ps l).getD j (0,0)):=fun j hj=>NH hk (Ka hk (by rw[qC,qH hj];exact qT _));have hsep:∀a,so=V a->¬atZ (w2.heap.size+1) w2.heap.size (Y W 0 0) a.block:=fun a e z=>by
  have hlt:a.block<w2.heap.size:=by
   rcases hsp.2 with⟨h0,_⟩|⟨g,cap,cur,h1,_,h3,_⟩
   .rw[e]at h0;simp at h0
   .rw[e]at h1;injection h1 with h1 _ _;injection h1 with h1;subst h1;exact(qG.1 h3).1
  rcases z with z|z|z
  .omega
  .omega
  .simp[Value.ownBlock]at z
 rw[<-hWA];refine(Ma WA w2.heap.size (w2.heap.size+1) w2.heap.size [] _ _ _ _ _ _ _ _ so sc hX.tl hsv hsep hIs (by simp;omega)).mono fun e w3 ⟨h1,sv',h2,h3,h4,h5,h6⟩=>?_;exact⟨_,sv',h1,hX.put h5 h2⟩
theorem Pt(W0 wr:M)(base A lm B bs bl k:Nat)(va vr pv fv:J)(m:Mo)(ps:List (List (Int×Int)))(l:List (Int×Int))(ho:Option Addr)(hc:Nat)(init many:Int)(sv nv tv:J)(hB:0<W0.heap.size)(hT:AH W0)(hV:TaskV W0 va vr pv fv m ps l)(hk:Af m ps l=0)(hX:ExW W0 wr base A lm B bs bl (k*300001) va vr pv fv m ps l ho hc (xpP m ps l k) (xpN m ps l k) (xpT m ps l k) init many sv nv tv)(hlt:k<(xpP m ps l k).length)(hz:(xpP m ps l k).length<=20000)(hsp:∀p∈xpP m ps l k,Bl m l p) :
  ZZ qA 20 #[G (V ⟨A,0,W⟩),G (V ⟨B,0,W⟩),H #[E U (B7 m ps l k).1,.int U (B7 m ps l k).2]] wr fun e w'=>e=I (.int U (if 20000<(xpP m ps l (k+1)).length then 12 else 0))/\∃sv nv tv,O (ExW W0 w' base A lm B bs bl ((k+1)*300001) va vr pv fv m ps l ho hc (xpP m ps l (k+1)) (xpN m ps l (k+1)) (xpT m ps l (k+1)) init many sv nv tv):=by
 obtain⟨h1,d,h2,h3⟩:=hsp _ (J6 hlt);have hgo:=Qf W0 wr base A lm B bs bl (k*300001) va vr pv fv m ps l ho hc (xpP m ps l k) (xpN m ps l k) (xpT m ps l k) init many sv nv tv (B7 m ps l k).1 d hB hT hV hk hX (by omega) h1 h2 hz (by rw[DW];omega) (by rw[Dm];omega);unfold H7 at hgo;rw[<-h3]at hgo;refine hgo.mono fun e w' ⟨g1,sv',nv',tv',g2⟩=>⟨g1,sv',nv',tv',?_⟩;have e1:(k+1)*300001=k*300001+300001:=by omega
 rw[e1];exact g2
theorem Px(va vr pv fv:J)(m:Mo)(ps:List (List (Int×Int)))(l:List (Int×Int))(w:M)(hB:0<w.heap.size)(hT:AH w)(hV:TaskV w va vr pv fv m ps l)(hk:Af m ps l=0) :
  ZZ qA 10 #[H #[va,vr,pv,fv]] w (FQ w m ps l):=by
 unfold FQ;obtain⟨ao,ac,rfl⟩:=hV.mo.1.shape;obtain⟨ro,rc,rfl⟩:=hV.mo.2.shape;obtain⟨po,pc,rfl⟩:=hV.ps.shape;obtain⟨fo,fc,rfl,_⟩:=id hV.fo;obtain⟨W0,hW0⟩:∃W0,W0=(w.alloc (Q #[.slice ao m.vars.length ac,.slice ro m.rules.length rc,.slice po ps.length pc,.slice fo l.length fc] 35)).alloc (Q #[Y W 0 0,.int U 0,Y W 0 0,Y W 0 0,.int U 0] 41):=⟨_,rfl⟩;have hbW:L w.heap.size w W0:=by rw[hW0];exact((qD _ _).alloc (qB _) _).alloc (by simp) _
 have hzW:W0.heap.size=w.heap.size+2:=by rw[hW0];simp
 have hX0:W0.heap[w.heap.size+1]? = V (grB (Y W 0 0) (Y W 0 0) (Y W 0 0) 0 0):=by
  rw[hW0];have:=(MapKept.heap_alloc (w.alloc (Q #[.slice ao m.vars.length ac,.slice ro m.rules.length rc,.slice po ps.length pc,.slice fo l.length fc] 35)) (Q #[Y W 0 0,.int U 0,Y W 0 0,Y W 0 0,.int U 0] 41)).1;rw[World.size_alloc]at this;exact this
 have hB0:0<W0.heap.size:=qE hB hbW.size;have hT0:=hT.below hbW hB;have hV0:=hV.below hbW;have hsv:=U0 _ _ _ _ m ps l W0 hB0 hT0 hV0 hk;have HFin:O (∀w1,L W0.heap.size W0 w1->(w1.cell? ⟨w.heap.size+1,0,W⟩=V (Y W 0 0)/\w1.cell? ⟨w.heap.size+1,1,W⟩=V (.int U 0)/\w1.cell? ⟨w.heap.size+1,2,W⟩=V (Y W 0 0)/\w1.cell? ⟨w.heap.size+1,3,W⟩=V (Y W 0 0)/\w1.cell? ⟨w.heap.size+1,4,W⟩=V (.int U 0))/\(∀i,w1.frozen? ⟨w.heap.size+1,i,W⟩=F)/\TyB w1 (w.heap.size+1) 41/\L w.heap.size w w1):=fun w1 h=>by
  have hb:=(h.block (w.heap.size+1) (by omega)).trans hX0;exact⟨El hb,LM hb,⟨_,_,hb⟩,hbW.trans (h.mono hbW.size)⟩
 have HBe:O (∀(w1:M) (B bs bl:Nat) (ho:Option Addr) (hcp:Nat),L W0.heap.size W0 w1->SurvAt w1 B (.slice ao m.vars.length ac) (.slice ro m.rules.length rc) (.slice po ps.length pc) (.slice fo l.length fc) (.slice ho (AA l).length hcp) bs bl->ZZ qA 18 #[G (V ⟨B,0,W⟩)] w1 fun e w'=>∃so sc,e=I (C #[.slice so (AC m ps l).length sc,.int U 0])/\L w1.heap.size w1 w'/\O (SpO w' w1.heap.size (.slice so (AC m ps l).length sc) (AC m ps l))):=fun w1 B bs bl ho hcp h hs=>Oc B _ _ _ _ m ps l ho hcp bs bl w1 (qE hB0 h.size) (hT0.below h hB0) (hV0.below h) hk hs;have HSt:=(show O _ from fun(w1 w2:M) (n:Nat) (ho:Option Addr) (hc:Nat) (so:Option Addr) (sc:Nat)=>Pu W0 w1 w2 n (.slice ao m.vars.length ac) (.slice ro m.rules.length rc) (.slice po ps.length pc) (.slice fo l.length fc) m ps l ho hc so sc hk);have HRd:=(show O _ from fun(wr:M) (base A lm B bs bl k:Nat) (ho:Option Addr) (hc:Nat) (sv nv tv:J)=>Pt W0 wr base A lm B bs bl k (.slice ao m.vars.length ac) (.slice ro m.rules.length rc) (.slice po ps.length pc) (.slice fo l.length fc) m ps l ho hc ((AC m ps l).length:Nat) ((AA l).length:Nat) sv nv tv hB0 hT0 hV0 hk);have HP0:O ((∀p∈xpP m ps l 0,Bl m l p)/\(xpP m ps l 0).length<=20000):=⟨Nt hk,by
  have h1:=(G4 (AC m ps l) []).2;have h2:=IH hk;have e:xpP m ps l 0=AG [] (AC m ps l):=rfl;rw[e];simp at h1;omega⟩
 have HPn:O (∀k,k<(xpP m ps l k).length->(∀p∈xpP m ps l k,Bl m l p)->∀p∈xpP m ps l (k+1),Bl m l p):=fun k h1 h2=>Ns hk h1 h2;have HK:O (Af m ps l=0):=hk;have hbn:=IH hk;have han:=(CC (Ba hk).2).2.2.2.2;unfold IB at hsv;clear hV hT hV0 hT0 hk;generalize hbl:(AC m ps l).length=bn at *;generalize hal:(AA l).length=an at *;generalize m.vars.length=vn at *;generalize m.rules.length=rn at *;generalize ps.length=pn at *;generalize l.length=fn at *
 have hmm:=@run_makeMap qA;go_enter Tryz.func10,Tryz.ntmps10;go_upto_region 8 with(first|(go_at_call 17;rw[<-hW0];refine hsv.mono ?_;rintro e w1 ⟨n,ho,hcp,rfl,hb1,hn1,_,HS,HO,HM⟩;have hbe:=HBe.out w1 _ _ _ _ _ hb1 HS.out)|(go_at_call 18;refine hbe.mono ?_;rintro e w2 ⟨so,sc,rfl,hb2,HSp⟩;have hst:=HSt.out w1 w2 n ho hcp so sc hb1 hn1 HS.out HO.out HM.out hb2 HSp.out;have x4:=(HS.out.later hb2).c4))
 go_wp2_with (first|(go_at_call 19;refine hst.mono ?_;rintro e w3 ⟨v3,sv3,rfl,HX3⟩))
 generalize hA:w2.heap.size+1=A at *;generalize hlm:w2.heap.size=lm at *;generalize hBn:n+2=B at *;generalize hbs:n+1=bl at *;clear hst hsv hbe HSt HBe HS HO HM HSp x4 hb1 hb2 hmm hlm
 go_loopw [8] (fun i wr=>∃k pk:Nat,i=.int U k/\k<=pk/\pk<=20000/\O ((xpP m ps l k).length=pk/\(∀p∈xpP m ps l k,Bl m l p)/\∀j,j<k->j<(xpP m ps l j).length)/\∃vo vc nv tv,O (ExW W0 wr lm A lm B n bl (k*300001) (Y ao vn ac) (Y ro rn rc) (Y po pn pc) (Y fo fn fc) m ps l ho hcp (xpP m ps l k) (xpN m ps l k) (xpT m ps l k) (bn:Nat) (an:Nat) (Y vo pk vc) nv tv)) (fun i _=>20001-(intOf i).toNat)
 case atStart=>
  obtain⟨vo,vc,e⟩:=HX3.out.tl.sp.shape;refine⟨0,(xpP m ps l 0).length,rfl,qJ _,HP0.out.2,⟨rfl,HP0.out.1,fun j hj=>by omega⟩,vo,vc,Y W 0 0,Y W 0 0,?_⟩;rw[<-e];exact HX3.out
 case round=>
  obtain⟨k,pk,rfl,hkp,hpk,HK2,vo,vc,nv,tv,HX⟩:=hrel;obtain⟨a0,a1,a2,a3,a4,a5⟩:=C0 HX.out.tl.box;by_cases hlt:k<pk
  .have hki:(k:Int)<(pk:Int):=by omega
   have hlt2:k<(xpP m ps l k).length:=by rw[HK2.out.1];exact hlt
   obtain⟨b,off,rfl,_,c0,c1⟩:=HX.out.tl.sp.v.get hlt2;have hrd:=HRd.out wr lm A lm B n bl k ho hcp _ nv tv HX.out hlt2 (by rw[HK2.out.1];exact hpk) HK2.out.2.1;have HKn:O ((∀p∈xpP m ps l (k+1),Bl m l p)/\∀j,j<k+1->j<(xpP m ps l j).length):=⟨HPn.out k hlt2 HK2.out.2.1,fun j hj=>by
    by_cases h:j<k
    .exact HK2.out.2.2 j h
    .obtain rfl:j=k:=by omega
     exact hlt2⟩
   have e1:(xpP m ps l k).getD k (0,0)=B7 m ps l k:=rfl;rw[e1]at c0 c1;clear e1 HX HRd hlt2;generalize B7 m ps l k=s at *;obtain⟨x,y⟩:=s;simp only at c0 c1 hrd
   by_cases hfull:20000<(xpP m ps l (k+1)).length
   .rw[if_pos hfull]at hrd;have HFu:O (Ep m ps l):=⟨k,fun j hj=>HKn.out.2 j (by omega),hfull⟩;clear hfull HKn HK2;go_wp2_with (first|(go_at_call 20;refine hrd.mono ?_;rintro e w4 ⟨rfl,sv4,nv4,tv4,HX4⟩;obtain⟨⟨x0,x1,x2,x3,x4⟩,xf,_,hbw⟩:=HFin.out w4 HX4.out.su.bel;have f0:=xf 0;have f1:=xf 1;have f2:=xf 2;have f3:=xf 3;have f4:=xf 4))
    have hbF:L w.heap.size w (((((w4.setCell ⟨w.heap.size+1,0,W⟩ (Y W 0 0)).setCell ⟨w.heap.size+1,1,W⟩ (.int U 0)).setCell ⟨w.heap.size+1,2,W⟩ (Y W 0 0)).setCell ⟨w.heap.size+1,3,W⟩ (Y W 0 0)).setCell ⟨w.heap.size+1,4,W⟩ (.int U 0)):=hbw.trans ((IV w4 (w.heap.size+1) _ _ _ _ _).below (fun i e=>by omega) (by have:=hbw.size;omega));refine bodyPost_ret (v:=C #[H #[Y W 0 0,.int U 0,Y W 0 0,Y W 0 0,.int U 0],.int U 12]) ?_ rfl (.inr (.inl ⟨HK.out,HFu.out,rfl,hbF⟩));simp[results,Tryz.results10,go_sem,x0,x1,x2,x3,x4]
   .rw[if_neg hfull]at hrd;have HLe:O ((xpP m ps l (k+1)).length<=20000/\pk<=(xpP m ps l (k+1)).length):=⟨by omega,by
     rw[<-HK2.out.1];exact(K6 (AC m ps l) (BA m ps l) k).length_le⟩
    clear hfull HK2;go_wp2_with (first|(go_at_call 20;refine hrd.mono ?_;rintro e w4 ⟨rfl,sv4,nv4,tv4,HX4⟩))
    go_roundw
    case rel=>
     obtain⟨vo4,vc4,e⟩:=HX4.out.tl.sp.shape;refine⟨k+1,(xpP m ps l (k+1)).length,by go_num,by have:=HLe.out.2;omega,HLe.out.1,⟨rfl,HKn.out⟩,vo4,vc4,nv4,tv4,?_⟩;rw[<-e];exact HX4.out
    case measure=>simp[intOf];omega
  .obtain rfl:k=pk:=by omega
   obtain⟨⟨x0,x1,x2,x3,x4⟩,xf,hty,hbw⟩:=HFin.out wr HX.out.su.bel;have f0:=xf 0;have f1:=xf 1;have f2:=xf 2;have f3:=xf 3;have f4:=xf 4;have HDn:O (BI m ps l k):=⟨HK2.out.1,hpk,HK2.out.2.2,HK2.out.2.1⟩;have HG:O (GrX wr w.heap.size m ps l k (Y vo k vc) nv tv):=by
    have hle:w.heap.size<=lm:=by have:=HX.out.lo.1;have:=hbW.size;omega
    exact⟨A2 HX.out.tl.sp hle,HX.out.tl.nx.mono hle,A2 HX.out.tl.st hle⟩
   obtain⟨no,nn,nc,rfl⟩:∃no nn nc,nv=Y no nn nc:=by
    obtain⟨us,h1,_⟩:=HX.out.tl.nx;obtain⟨x,y,e⟩:=A3 h1;exact⟨_,_,_,e⟩
   obtain⟨xo,xn,xc,rfl⟩:∃xo xn xc,tv=Y xo xn xc:=by
    obtain⟨x,y,e⟩:=A3 HX.out.tl.st;exact⟨_,_,_,e⟩
   have HBF:O (∀w8,Chg (fun i=>i=w.heap.size+1) wr w8->L w.heap.size w w8/\GrX w8 w.heap.size m ps l k (Y vo k vc) (Y no nn nc) (Y xo xn xc)):=fun w8 h=>⟨hbw.trans (h.below (fun i e=>by omega) (by have:=hbw.size;omega)),HG.out.chg h hty⟩;clear HX HK2 HRd HG hty;go_wp2_with fail
   obtain⟨r1,r2⟩:=HBF.out _ (IV wr (w.heap.size+1) _ _ _ _ _);refine bodyPost_ret (v:=C #[H #[Y vo k vc,.int U (bn:Nat),Y no nn nc,Y xo xn xc,.int U (an:Nat)],.int U 0]) ?_ rfl (.inl ⟨HK.out,k,HDn.out,_,_,_,rfl,r1,r2⟩);simp[results,Tryz.results10,go_sem,x0,x1,x2,x3,x4]
theorem Pv(va vr pv fv:J)(m:Mo)(ps:List (List (Int×Int)))(l:List (Int×Int))(w:M)(hB:0<w.heap.size)(hT:AH w)(hV:TaskV w va vr pv fv m ps l) :
  ZZ qA 10 #[H #[va,vr,pv,fv]] w (FQ w m ps l):=by
 by_cases hk:Af m ps l=0
 .exact Px va vr pv fv m ps l w hB hT hV hk
 .exact Pw va vr pv fv m ps l w hB hT hV hk
open Go.ChangeShapes Go.WideShapes Go.ChangeAt Go.RowKit Go.Deep
open Terms
theorem U5{ts:List (List (Int×Int))}{i:Nat}(hi:i<ts.length):(ts.take (i+1)).flatten=(ts.take i).flatten++ts.getD i []:=by
 rw[List.take_succ_eq_append_getElem hi,List.flatten_append];simp[qC,hi]
theorem RB(kind:Int)(v:J)(ts:List (List (Int×Int)))(w:M)(hn:ts.length<=10)(hl:∀i,i<=ts.length->(ts.take i).flatten.length<=200)(hne:∀i,i<ts.length->ts.getD i []≠[])(hV:TermsV w v ts) :
  ZZ qA 25 #[E U kind,v] w fun e w'=>∃v',e=I v'/\L w.heap.size w w'/\w'.ownsRow w.heap.size 91 2 v' ((kind,0)::ts.flatten).length (flat ((kind,0)::ts.flatten)):=by
 obtain⟨i0,hi,hz0,hz1,hz2⟩:=info_parts LU;obtain⟨va,vc,rfl,hat⟩:=hV;obtain⟨n,hnn⟩:∃n,n=ts.length:=⟨_,rfl⟩;have HN:O (n=ts.length):=hnn;have HL:=(show O _ from hl);have HNE:=(show O _ from hne);have HA:=(show O _ from hat);rw[<-hnn]at hn⊢;clear hl hne hat hnn;go_enter Tryz.func25,Tryz.ntmps25;go_wp2_with fail
 go_loopw [5,6] (fun out c wr=>∃i:Nat,i<=n/\c=.int U i/\wr.ownsRow w.heap.size 91 2 out ((ts.take i).flatten.length+1) (flat ((kind,0)::(ts.take i).flatten))/\L w.heap.size w wr) (fun _ c _=>n-(intOf c).toNat)
 case atStart=>exact⟨0,qJ _,rfl,World.ownsRow_lit w #[E U kind,.int U 0] 1 (qB _) (by unfold maxLen;omega) rfl,(qD _ _).alloc (qB _) _⟩
 case round=>
  obtain⟨i,hile,rfl,hown,hbel⟩:=hrel;by_cases hlt:i<n
  .have hlt':i<ts.length:=by rw[<-HN.out];exact hlt
   obtain⟨b,off,rfl,hbl,hcs⟩:=HA.out (by intro h;rw[h]at hlt';simp at hlt');obtain⟨u,hu,hou⟩:=hcs i hlt';have hcu:=(hbel.cell (p:=⟨b,off+i,W⟩) hbl).trans hu;obtain⟨ua,uc,hus,_,huat⟩:=hou.below hbel;obtain⟨ub,uoff,rfl,hubl,huat⟩:=huat (HNE.out i hlt');have HS:O ((ts.take (i+1)).flatten=(ts.take i).flatten++ts.getD i []):=U5 hlt';have hl1:=HL.out (i+1) (by omega);rw[HS.out,qF]at hl1;have HC:O (∀j x,(flat (ts.getD i []))[j]? = V x->wr.cell? ((⟨ub,uoff,W⟩:Addr).add j)=V x):=huat.cells;obtain⟨m,hm⟩:∃m,m=(ts.getD i []).length:=⟨_,rfl⟩;have HM:O (m=(ts.getD i []).length):=hm;rw[<-hm]at hus hl1;subst hus;obtain⟨q,hq⟩:∃q,q=(ts.take i).flatten.length:=⟨_,rfl⟩;have HQ:O (q=(ts.take i).flatten.length):=hq;rw[<-hq]at hown hl1;clear hou hu hcs huat hm hq hlt';generalize ts.getD i []=tt at HC HM HS;go_wp2_with (at_builtin;refine wpList_append_own _ rfl (.tmp 16) (.tmp 20) 33 rfl w.heap.size 91 i0 (H #[E U 0,.int U 0]) 2 16 Tryz.underlying33 hi hz0 hz1 hz2 rfl (by decide) _ _ _ rfl hown ⟨ub,uoff,W⟩ m uc (flat tt) rfl ?c0 HC.out (K9 _) ?c3 ?c4 ?c5 ?_)
   case c0=>rw[GW,HM.out]
   case c3=>unfold maxLen;omega
   case c4=>omega
   case c5=>exact hbel.size
   intro v' w4 hown' hgrow _;have hb4:L w.heap.size w w4:=hbel.grown hgrow hbel.size (fun k hk=>(hown.lt k hk).1);have ho4:w4.ownsRow w.heap.size 91 2 v' ((ts.take (i+1)).flatten.length+1) (flat ((kind,0)::(ts.take (i+1)).flatten)):=by
    have e1:(ts.take (i+1)).flatten.length+1=q+1+m:=by rw[HS.out,qF,<-HQ.out,<-HM.out];omega
    have e2:flat ((kind,0)::(ts.take (i+1)).flatten)=flat ((kind,0)::(ts.take i).flatten)++flat tt:=by rw[HS.out,<-Fb];rfl
    rw[e1,e2];exact hown'
   clear hown' hgrow hown;go_wp2;go_roundw
   case rel=>exact⟨i+1,by omega,by go_num,ho4,hb4⟩
   case measure=>simp[intOf];omega
  .have hin:i=n:=by omega
   subst hin;rw[show ts.take i=ts by rw[HN.out,List.take_length]]at hown;clear hlt hile;go_wp2_with fail
   go_ret;exact⟨_,rfl,hbel,hown⟩
theorem Ip(kind:Int)(g:Nat)(lv mv:J)(l m:List (Int×Int))(w:M)(hc:w.cell? ⟨g,0,W⟩=V lv)(hd:w.cell? ⟨g,1,W⟩=V mv)(hl:l.length<=60)(hm:m.length<=60)(hne:l≠[])(hne2:m≠[])(hV:OpsV w lv l)(hM:OpsV w mv m) :
  ZZ qA 25 #[E U kind,Y (V ⟨g,0,W⟩) 2 2] w fun e w'=>∃a c,e=I (.slice a ((kind,0)::(l++m)).length c)/\L w.heap.size w w'/\OpsV w' (.slice a ((kind,0)::(l++m)).length c) ((kind,0)::(l++m)):=by
 have hT:TermsV w (Y (V ⟨g,0,W⟩) 2 2) [l,m]:=⟨_,2,rfl,fun _=>⟨g,0,rfl,World.block_lt_of_cell? w ⟨g,0,W⟩ hc,fun i hi=>by
  have:i=0\/i=1:=by simp at hi;omega
  rcases this with rfl|rfl
  .exact ⟨lv,hc,hV⟩
  .exact ⟨mv,hd,hM⟩⟩⟩
 refine(RB kind _ [l,m] w (by simp) (fun i hi=>?_) (fun i hi=>?_) hT).mono fun e w' ⟨v',he,hb,ho⟩=>?_
 .have:i=0\/i=1\/i=2:=by simp at hi;omega
  rcases this with rfl|rfl|rfl<;>simp<;>omega
 .have:i=0\/i=1:=by simp at hi;omega
  rcases this with rfl|rfl
  .exact hne
  .exact hne2
 .have h2:[l,m].flatten=l++m:=by simp
  rw[h2]at ho;obtain⟨a,c,rfl⟩:=A3 ho;exact⟨a,c,he,hb,Gw ho⟩
