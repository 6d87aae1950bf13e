/- Joined texts. -/
import Derived.Test.YtehfhemidmfffaaGreatDoorLateC
import Derived.Deep.CutBlock
import Derived.Deep.DeepCutAuto
open Go renaming World→O,Value→L,Calls→ZY
open Go.Ending renaming returned→H
open Go.IntKind renaming i64→U
open Go.Obj renaming cells→Q
open Go.RowKit renaming Below→I,Hid→M
open Go.Value renaming slice→Y,bool→E,agg→G,tuple→ZZ,pointer→F,int→C
open _root_.Bool renaming false→J
open _root_.Option renaming none→V,some→W
namespace Go.Proofs.YtehfhemidmfffaaGreatDoor
open _root_.Array renaming getElem?_eq_some_iff→qG,getElem?_modify→qS
open Go.RowKit.Below renaming refl→qD
open _root_.List renaming append_assoc→q9,append_nil→vT,foldl_append→xA,getD_eq_getElem?_getD→qC,getElem?_append_left→qX,getElem?_eq_getElem→qH,getElem_mem→qR,idxOf_append→xQ,length_append→qF,length_cons→qY,length_map→qM,length_singleton→vY,mem_append→qL,mem_singleton→vM,mergeSort_perm→xJ,prefix_refl→yE
open _root_.Nat renaming le_refl→qB,le_trans→qI,lt_of_lt_of_le→qE,pow_le_pow_right→vK,zero_add→qV,zero_le→qJ
open Go.Proofs.Tryz renaming prog→qA
open Go.ChangeShapes Go.WideShapes Go.ChangeAt Go.RowKit Go.Deep Go.Maps
open Terms Tm
open Go.Proofs.Tryz renaming func62→fQ,ntmps62→fR,underlying111→fS,underlying193→fT,underlying3→bI,underlying43→aD,underlying73→fU,underlying76→fV,underlying82→fW
open WalkArith renaming wf_i64→cA
open World renaming block_lt_of_cell?→bW,cell?_of_block→eJ,cell?→br,frozen?→fX,ownsRow→fk,setCell→bu,setRow→fY
open _root_.List renaming cons→bJ,range→aE
set_option maxHeartbeats 6400000
set_option maxRecDepth 20000
theorem Ls:laidOutB qA=true:=by kernel_rfl
theorem Ud:(193:TypeId)<qA.types.size:=of_decide_eq_true (by kernel_rfl)
theorem Gv:Keyed qA 193:=Keyed.of_law (deep_law_laid Ls (m:=3) (by omega) Ud (by kernel_rfl) (by rw[fT]))
theorem Ng:∃d,qA.types.size=d+2:=⟨qA.types.size-2,by have h:2<=qA.types.size:=of_decide_eq_true (by kernel_rfl);omega⟩
theorem Rn:qA.keyType 193=true:=by kernel_rfl
theorem Ky:qA.cellsOf 193=8:=by kernel_rfl
theorem PX:qA.cellsOf 191=6:=by kernel_rfl
theorem PY:qA.cellsOf 4=1:=by kernel_rfl
theorem Kx:qA.cellsOf 3=1:=by kernel_rfl
theorem Rm(y0 y1 y2 y3 y4 y5:Bool){c s:Int}(hc:-9223372036854775808<=c/\c<=9223372036854775807)(hs:-9223372036854775808<=s/\s<=9223372036854775807) :
  ∃kl,keyOf qA 193 (G #[E y0,.bool y1,.bool y2,.bool y3,.bool y4,.bool y5,.int U c,.int U s])=W kl:=by
 obtain⟨d,hd⟩:=Ng;have hwc:(Lit.int .i64 c).wf=true:=cA (by omega);have hws:(Lit.int .i64 s).wf=true:=cA (by omega);unfold keyOf;rw[fT];simp only[Rn,Value.formed,fT,Ky,hd];simp[Program.keyLits,fT,Tryz.underlying191,Tryz.underlying4,bI,Ky,PX,PY,Kx,Value.cells,hwc,hws,aE,aE.loop]
theorem VT{x:List Bool}(h:x.length<=6):(six x).length=6:=by simp[six];omega
theorem VS{z:List Bool}(h:z.length=6):∃y0 y1 y2 y3 y4 y5,z=[y0,y1,y2,y3,y4,y5]:=by
 match z,h with
 |[a,b,c,d,e,f],_=>exact⟨a,b,c,d,e,f,rfl⟩
theorem VC(w:O)(g:Nat)(cs:Array L):w.grownBy (w.setRow g cs) (W g):=by
 refine⟨rfl,rfl,rfl,by simp[fY],fun k _ hk=>?_⟩;simp only[fY,qS];rw[ak (fun e=>hk (by rw[e]))]
theorem Lj:(qA.info? 4).map (·.size)=W 1:=by kernel_rfl
theorem P5(w:O)(g:Nat)(lo:Option Addr)(pn lc:Nat)(x:List Bool)(c s:Int)(t ty:TypeId)(hx:BoolsV w (Y lo pn lc) x)(hl:x.length=pn)(h6:pn<=6)(hg:w.heap[g]? = W (Q #[E J,.bool J,.bool J,.bool J,.bool J,.bool J,.int U c,.int U s] t (0,0))) :
  ∃w' y0 y1 y2 y3 y4 y5,(Builtin.copy_ #[111,111] ty #[Y (W ⟨g,0,V⟩) 6 6,Y lo pn lc]).run qA w=.ok (goInt pn) w'/\six x=[y0,y1,y2,y3,y4,y5]/\w'.heap[g]? = W (Q #[E y0,.bool y1,.bool y2,.bool y3,.bool y4,.bool y5,.int U c,.int U s] t (0,0))/\w.grownBy w' (W g):=by
 obtain⟨y0,y1,y2,y3,y4,y5,hy⟩:=VS (VT (x:=x) (by omega));rcases Nat.eq_zero_or_pos pn with h0|h0
 .subst h0;have hx0:x=[]:=List.length_eq_zero_iff.1 hl;subst hx0;have e:[y0,y1,y2,y3,y4,y5]=[J,J,J,J,J,J]:=by rw[<-hy];rfl
  simp only[bJ.injEq,and_true]at e;obtain⟨rfl,rfl,rfl,rfl,rfl,rfl⟩:=e;exact⟨w,_,_,_,_,_,_,run_copy_none w _ _ _ 4 _ _ _ _ _ _ fS Lj (by simp),hy,hg,⟨rfl,rfl,rfl,qB _,fun _ _ _=>rfl⟩⟩
 .obtain ⟨ao,cap,e1,hx⟩:=hx;injection e1 with e1 e2 e3;subst e1;obtain⟨b,off,rfl,hb,hat⟩:=hx (by intro e;rw[e]at hl;simp at hl;omega);have hrun:=run_copy_row (P:=qA) w 111 111 ty 4 g 0 6 6 ⟨b,off,V⟩ pn lc _ t (x.map Value.bool) fS Lj hg (by rw[qM,hl];exact(Nat.min_eq_left h6).symm)
   (fun j v hv=>by
    rw[List.getElem?_map]at hv;cases hxj:x[j]? with
    |none=>rw[hxj]at hv;simp at hv
    |some u=>
     rw[hxj]at hv;have hj:j<x.length:=(List.getElem?_eq_some_iff.1 hxj).1;have:=hat j hj;rw[add_plain,this];rw[qC,hxj];simpa using hv) (by simp;omega) (fun v hv=>by
    simp only[List.mem_map]at hv;obtain⟨u,_,rfl⟩:=hv;rfl)
  rw[qM,hl]at hrun;refine⟨_,y0,y1,y2,y3,y4,y5,hrun,hy,?_,VC _ _ _⟩;rw[setRow_heap w g _ _ t (0,0) hg];congr 2
  have e6:(six x).map Value.bool=[.bool y0,.bool y1,.bool y2,.bool y3,.bool y4,.bool y5]:=by rw[hy];rfl
  have e7:x.map Value.bool++List.drop pn [Value.bool J,.bool J,.bool J,.bool J,.bool J,.bool J,.int U c,.int U s]=(six x).map Value.bool++[.int U c,.int U s]:=by
   unfold six;rw[List.map_append,List.map_replicate,q9,hl];congr 1
   have:pn=1\/pn=2\/pn=3\/pn=4\/pn=5\/pn=6:=by omega
   rcases this with rfl|rfl|rfl|rfl|rfl|rfl<;>rfl
  simp only[List.take_zero,List.nil_append,qV];rw[e7,e6];rfl
open Go
def BP(S:am)(s:Int×Int):am:=if s∈S then S else S++[s]
def AH(S l:am):am:=l.foldl BP S
theorem Mw(S:am)(s:Int×Int):S <+: BP S s:=by
 unfold BP;split
 .exact yE _
 .exact List.prefix_append _ _
theorem Mv(S:am)(s:Int×Int):s∈BP S s:=by
 unfold BP;split
 .assumption
 .exact List.mem_append_right _ (vM.2 rfl)
theorem Jf{S:am}{s x:Int×Int}:x∈BP S s↔x∈S\/x=s:=by
 unfold BP;split
 .constructor
  .exact Or.inl
  .rintro (h|rfl)<;>assumption
 .rw[qL,vM]
theorem Tz{S:am}(h:S.Nodup)(s:Int×Int):(BP S s).Nodup:=by
 unfold BP;split
 .exact h
 .next hs=>
  refine List.nodup_append.2 ⟨h,by simp,fun a ha b hb=>?_⟩;rw[vM]at hb;subst hb;exact fun e=>hs (e▸ha)
theorem Ty(S:am)(s:Int×Int):S.length<=(BP S s).length/\(BP S s).length<=S.length+1:=by
 unfold BP;split
 .omega
 .rw[qF,vY];omega
theorem Ji(S:am):AH S []=S:=rfl
theorem Jh(S:am)(s:Int×Int)(l:am):AH S (s::l)=AH (BP S s) l:=rfl
theorem T2(S l:am)(s:Int×Int):AH S (l++[s])=BP (AH S l) s:=by
 unfold AH;rw[xA];rfl
theorem Mx(l:am):∀S,S <+: AH S l:=by
 induction l with
 |nil=>exact fun S=>yE _
 |cons s l ih=>exact fun S=>(Mw S s).trans (ih _)
theorem Eo(l:am):∀(S:am) (x:Int×Int),x∈AH S l↔x∈S\/x∈l:=by
 induction l with
 |nil=>intro S x;simp[Ji]
 |cons s l ih=>
  intro S x;rw[Jh,ih,Jf,List.mem_cons,or_assoc]
theorem Jj(l:am):∀S:am,S.Nodup->(AH S l).Nodup:=by
 induction l with
 |nil=>exact fun S h=>h
 |cons s l ih=>exact fun S h=>ih _ (Tz h s)
theorem Hh(l:am):∀S:am,S.length<=(AH S l).length/\(AH S l).length<=S.length+l.length:=by
 induction l with
 |nil=>intro S;rw[Ji];simp
 |cons s l ih=>
  intro S;have h1:=Ty S s;have h2:=ih (BP S s);rw[Jh,qY];omega
theorem Gn{S T:am}(h:S <+: T){s:Int×Int}(hs:s∈S):T.idxOf s=S.idxOf s:=by
 obtain⟨R,rfl⟩:=h;rw[xQ,aj hs]
theorem Mu{S:am}{s:Int×Int}(hs:s∉S):(BP S s).idxOf s=S.length:=by
 unfold BP;rw[ak hs,xQ,ak hs];simp
section
variable(beg:am)(bh:Int×Int -> am)
def exS:Nat->am
 |0=>AH [] beg
 |k+1=>AH (exS k) (bh ((exS k).getD k (0,0)))
theorem LI(k:Nat):exS beg bh k <+: exS beg bh (k+1):=Mx _ _
theorem Dk{k j:Nat}(h:k<=j):exS beg bh k <+: exS beg bh j:=by
 induction h with
 |refl=>exact yE _
 |step _ ih=>exact ih.trans (LI beg bh _)
theorem LH(k:Nat):(exS beg bh k).Nodup:=by
 induction k with
 |zero=>exact Jj _ _ List.nodup_nil
 |succ k ih=>exact Jj _ _ ih
theorem QS{k j p:Nat}(h:k<=j)(hp:p<(exS beg bh k).length):(exS beg bh j).getD p (0,0)=(exS beg bh k).getD p (0,0):=by
 obtain⟨R,hR⟩:=Dk beg bh h;rw[<-hR,qC,qC,qX hp]
end
theorem Ue:(82:TypeId)<qA.types.size:=of_decide_eq_true (by kernel_rfl)
theorem Gw:Keyed qA 82:=Keyed.of_law (deep_law_laid Ls (m:=3) (by omega) Ue (by kernel_rfl) (by rw[fW]))
theorem Ro:qA.keyType 82=true:=by kernel_rfl
theorem K0:qA.cellsOf 82=2:=by kernel_rfl
def Es(p:Int×Int):Value:=G #[C U p.1,.int U p.2]
def Co(p:Int×Int):Prop:=(-9223372036854775808<=p.1/\p.1<=9223372036854775807)/\(-9223372036854775808<=p.2/\p.2<=9223372036854775807)
def F2(p:Int×Int):Lit:=.string (keyBytes [.int U p.1,.int U p.2])
theorem Fq{p:Int×Int}(h:Co p):keyOf qA 82 (Es p)=W (F2 p):=by
 obtain⟨d,hd⟩:=Ng;have hwc:(Lit.int .i64 p.1).wf=true:=cA (by have:=h.1;omega);have hws:(Lit.int .i64 p.2).wf=true:=cA (by have:=h.2;omega);unfold keyOf Es F2;rw[fW];simp only[Ro,Value.formed,fW,K0,hd];simp[Program.keyLits,fW,bI,K0,Kx,Value.cells,hwc,hws,aE]
theorem Vc{p q:Int×Int}(hp:Co p)(hq:Co q)(h:F2 p=F2 q):p=q:=by
 have e:=Gw.inj (Fq hp) (h▸Fq hq);simp only[Es,Value.agg.injEq]at e;simp at e;exact Prod.ext e.1 e.2
def Bu(w:O)(b:Nat)(S:am):Prop:=
 ∃f,MapIs w 82 b S.length f/\∀p,Co p->f (F2 p)=if p∈S then W (.int U (S.idxOf p:Nat))else V
theorem Bu.new{w:O}{b:Nat}(h:w.heap[b]? = W (.map #[] 0)):Bu w b []:=⟨_,MapIs.new _ h,fun p _=>by simp⟩
theorem Bu.kept{w w':O}{b:Nat}{S:am}(h:Bu w b S)(e:w'.heap[b]? = w.heap[b]?):Bu w' b S:=by
 obtain⟨f,h1,h2⟩:=h;exact⟨f,h1.kept e,h2⟩
theorem Bu.look{w:O}{b:Nat}{S:am}(h:Bu w b S){p:Int×Int}(hp:Co p):(Instr.lookup 76 (.map (W b)) (Es p) true).run qA w=.ok (ZZ #[if p∈S then .int U (S.idxOf p:Nat)else .int U 0,.bool (decide (p∈S))]) w:=by
 obtain⟨f,h1,h2⟩:=h;rw[h1.look Gw fV (z:=.int U 0) (De w) (Fq hp),h2 p hp];split<;>simp[*]
theorem Bu.put{w:O}{b:Nat}{S:am}(h:Bu w b S){p:Int×Int}(hp:Co p)(hS:p∉S)(hn:S.length<maxLen):∃w',(Instr.mapUpdate 76 (.map (W b)) (Es p) (.int U (S.length:Nat))).run qA w=.ok () w'/\Bu w' b (BP S p)/\w.grownBy w' (W b):=by
 obtain⟨f,h1,h2⟩:=h;obtain⟨w',hr,hm,hg⟩:=h1.put Gw fV hn (val:=.int U (S.length:Nat)) (Fq hp) (Gw.key (Fq hp));have e:BP S p=S++[p]:=by unfold BP;rw[ak hS]
 refine⟨w',hr,⟨_,by rw[e,qF,vY];exact hm,fun q hq=>?_⟩,hg⟩;by_cases hqp:q=p
 .subst hqp;rw[Gh,aj (Mv S q),Mu hS]
 .rw[Gg (fun e=>hqp (Vc hq hp e)),h2 q hq];by_cases hqS:q∈S
  .rw[aj hqS,aj (Jf.2 (.inl hqS)),Gn (Mw S p) hqS]
  .rw[ak hqS,ak (fun e=>(Jf.1 e).elim hqS hqp)]
def atB(sv nv tv:L)(init many:Int)(lm:Nat):Obj:=Q #[sv,.int U init,nv,tv,.int U many,.map (W lm)] 78 (0,0)
def Dy(w:O)(base:Nat)(nv tv:L)(N:List (List Int)):Prop:=
 ∃us:List L,w.ownsRow base 43 1 nv N.length us/\us.length=N.length/\∀i,i<N.length->∃ao c,us.getD i (Y V 0 0)=.slice ao (N.getD i []).length c/\IntsV w (.slice ao (N.getD i []).length c) (N.getD i [])/\Af w (.slice ao (N.getD i []).length c) 3/\∀a,ao=W a->tv.ownBlock≠W a.block/\base<=a.block
structure AtX(w:O)(base A lm:Nat)(S:am)(N:List (List Int))(T:List Int)(init many:Int)(sv nv tv:L):Prop where
 box:w.heap[A]? = W (atB sv nv tv init many lm)
 bA:base<=A
 bl:base<=lm
 lies:Bu w lm S
 sp:SpO w base sv S
 nx:Dy w base nv tv N
 st:w.ownsRow base 3 1 tv T.length (AB T)
section
variable{w w':O}{base A lm:Nat}{S:am}{N:List (List Int)}{T:List Int}{init many:Int}{sv nv tv:L}
theorem Dy.chg{Z:Nat->Prop}(h:Dy w base nv tv N)(hs:Chg Z w w')(h1:∀i,Z i->nv.ownBlock≠W i/\∀ao:Option Addr,∀a,ao=W a->i=a.block->tv.ownBlock≠W i->¬TyB w i 3):Dy w' base nv tv N:=by
 obtain⟨us,h2,h3,h4⟩:=h;refine⟨us,BX h2 hs (fun g e z=>(h1 g z).1 e),h3,fun i hi=>?_⟩;obtain⟨ao,c,e1,e2,e3,e4⟩:=h4 i hi;have hz:∀a,ao=W a->¬Z a.block:=fun a e z=>(h1 _ z).2 ao a e rfl (e4 a e).1 (by subst e;exact e3.ty);exact⟨ao,c,e1,e2.chg hs hz,e3.chg hs hz,e4⟩
theorem AtX.ty(h:AtX w base A lm S N T init many sv nv tv):TyB w A 78:=⟨_,_,h.box⟩
theorem Bu.isMap{b:Nat}(h:Bu w b S):∃es c,w.heap[b]? = W (.map es c):=by
 obtain⟨f,h1,_⟩:=h;exact h1.isMap
theorem Bu.lt{b:Nat}(h:Bu w b S):b<w.heap.size:=by
 obtain⟨es,c,h⟩:=h.isMap;exact(qG.1 h).1
theorem AtX.lt(h:AtX w base A lm S N T init many sv nv tv):A<w.heap.size:=h.ty.lt
theorem AtX.base_le(h:AtX w base A lm S N T init many sv nv tv):base<=w.heap.size:=by have:=h.lt;have:=h.bA;omega
theorem AtX.chg{Z:Nat->Prop}(h:AtX w base A lm S N T init many sv nv tv)(hs:Chg Z w w')(hz:∀i,Z i->i≠A/\i≠lm/\¬TyB w i 82/\¬TyB w i 43/\¬TyB w i 3):AtX w' base A lm S N T init many sv nv tv:=by
 have zA:¬Z A:=fun z=>(hz _ z).1 rfl;have zl:¬Z lm:=fun z=>(hz _ z).2.1 rfl;obtain⟨us,n1,n2,n3⟩:=id h.nx;refine⟨(hs.block A h.lt zA).trans h.box,h.bA,h.bl,h.lies.kept (hs.block lm h.lies.lt zl),BX h.sp hs (fun g e z=>(hz g z).2.2.1 (A0 h.sp e).2),h.nx.chg hs fun i z=>⟨fun e=>(hz i z).2.2.2.1 (A0 n1 e).2,fun _ _ _ _ _=>(hz i z).2.2.2.2⟩,BX h.st hs (fun g e z=>(hz g z).2.2.2.2 (A0 h.st e).2)⟩
theorem AtX.below(h:AtX w base A lm S N T init many sv nv tv)(hb:I w.heap.size w w'):AtX w' base A lm S N T init many sv nv tv:=h.chg (Chg.of (Z:=fun _=>False) hb) fun _ z=>z.elim
theorem AtX.sk{bs bl':Nat}(h:AtX w base A lm S N T init many sv nv tv)(hs:Sk bs bl' w w')(hm:Cf w bs bl')(h1:lm≠bs)(h2:lm≠bl'):AtX w' base A lm S N T init many sv nv tv:=by
 obtain⟨⟨es,c,e1⟩,⟨es',c',e2⟩⟩:=hm;refine h.chg hs.chg fun i z=>?_;have hno:∀t,¬TyB w i t:=fun t ht=>by
  rcases z with rfl|rfl
  .exact ht.no_map e1
  .exact ht.no_map e2
 refine⟨fun e=>hno _ (e▸h.ty),fun e=>?_,hno _,hno _,hno _⟩;rcases z with rfl|rfl
 .exact h1 e.symm
 .exact h2 e.symm
def atZ(A lm:Nat)(sv:L):Nat->Prop:=fun i=>i=A\/i=lm\/sv.ownBlock=W i
theorem AtX.put{S':am}{sv':L}(h:AtX w base A lm S N T init many sv nv tv)(hs:Chg (atZ A lm sv) w w')(hbx:w'.heap[A]? = W (atB sv' nv tv init many lm))(hl:Bu w' lm S')(hsp:SpO w' base sv' S'):AtX w' base A lm S' N T init many sv' nv tv:=by
 obtain⟨es,c,em⟩:=h.lies.isMap;have hno:∀i t,atZ A lm sv i->TyB w i t->t=78\/t=82:=fun i t z ht=>by
  rcases z with rfl|rfl|e
  .exact .inl (ht.eq h.ty)
  .exact absurd em ht.no_map
  .exact .inr (ht.eq (A0 h.sp e).2)
 have hni:∀i,atZ A lm sv i->¬TyB w i 3:=fun i z ht=>by
  rcases hno i _ z ht with e|e
  .exact absurd e (by decide)
  .exact absurd e (by decide)
 have hnl:∀i,atZ A lm sv i->¬TyB w i 43:=fun i z ht=>by
  rcases hno i _ z ht with e|e
  .exact absurd e (by decide)
  .exact absurd e (by decide)
 obtain⟨us,n1,n2,n3⟩:=id h.nx;exact⟨hbx,h.bA,h.bl,hl,hsp,h.nx.chg hs fun i z=>⟨fun e=>hnl i z (A0 n1 e).2,fun _ _ _ _ _=>hni i z⟩,BX h.st hs (fun g e z=>hni g z (A0 h.st e).2)⟩
theorem Ou(w:O)(hb:w.heap[A]? = W (atB sv nv tv init many lm))(v:L):(w.setCell ⟨A,0,V⟩ v).heap[A]? = W (atB v nv tv init many lm):=by
 unfold atB at *;simp[bu,qS,hb]
theorem Ov(w:O)(hb:w.heap[A]? = W (atB sv nv tv init many lm))(v:L):(w.setCell ⟨A,2,V⟩ v).heap[A]? = W (atB sv v tv init many lm):=by
 unfold atB at *;simp[bu,qS,hb]
theorem Ow(w:O)(hb:w.heap[A]? = W (atB sv nv tv init many lm))(v:L):(w.setCell ⟨A,3,V⟩ v).heap[A]? = W (atB sv nv v init many lm):=by
 unfold atB at *;simp[bu,qS,hb]
theorem C2(hb:w.heap[A]? = W (atB sv nv tv init many lm)):w.cell? ⟨A,0,V⟩=W sv/\w.cell? ⟨A,1,V⟩=W (.int U init)/\w.cell? ⟨A,2,V⟩=W nv/\w.cell? ⟨A,3,V⟩=W tv/\w.cell? ⟨A,4,V⟩=W (.int U many)/\w.cell? ⟨A,5,V⟩=W (.map (W lm)):=by
 unfold atB at hb;refine⟨?_,?_,?_,?_,?_,?_⟩<;>simp[br,hb]
theorem IW(hb:w.heap[A]? = W (atB sv nv tv init many lm))(i:Nat):w.frozen? ⟨A,i,V⟩=false:=by
 unfold atB at hb;simp[fX,hb]
end
theorem T0(S a b:am):AH S (a++b)=AH (AH S a) b:=by
 unfold AH;rw[xA]
theorem Hi{S l:am}{k:Nat}(h:k<l.length):AH S (l.take (k+1))=BP (AH S (l.take k)) (l.getD k (0,0)):=by
 rw[List.take_add_one,qH h];simp only[Option.toList_some];rw[T2];simp[qC,h]
theorem T1{S l:am}{k:Nat}(h:k<l.length):(AH S l).idxOf (l.getD k (0,0))=(BP (AH S (l.take k)) (l.getD k (0,0))).idxOf (l.getD k (0,0)):=by
 rw[<-Hi h];refine Gn ?_ ?_
 .have e:AH S l=AH (AH S (l.take (k+1))) (l.drop (k+1)):=by rw[<-T0,List.take_append_drop]
  rw[e];exact Mx _ _
 .rw[Hi h];exact Mv _ _
theorem Jg{S:am}{p:Int×Int}(h:p∈S):BP S p=S:=by unfold BP;rw[aj h]
theorem Hg{S:am}{p:Int×Int}(h:p∉S):BP S p=S++[p]:=by unfold BP;rw[ak h]
def Cl(S l:am):List Int:=(aE l.length).map fun(j:Nat)=>(((AH S l).idxOf (l.getD j (0,0)):Nat):Int)
theorem Hf(S l:am):(Cl S l).length=l.length:=by simp[Cl]
theorem Mt{S l:am}{j:Nat}(h:j<l.length):(Cl S l).getD j 0=(((AH S l).idxOf (l.getD j (0,0)):Nat):Int):=by simp[Cl,qC,h]
theorem SpV.chg{Z:Nat->Prop}{w w':O}{ao:Option Addr}{n c:Nat}{x:am}(h:SpV w (Y ao n c) x)(hs:Chg Z w w')(hz:∀a,ao=W a->¬Z a.block):SpV w' (Y ao n c) x:=by
 obtain⟨ao',cap,e,h⟩:=h;injection e with e1 e2 e3;subst e1 e2 e3;refine⟨ao,c,rfl,fun hne=>?_⟩;obtain⟨b,off,rfl,hlt,hat⟩:=h hne;exact⟨b,off,rfl,qE hlt hs.size,fun i hi=>⟨hs.cell (hat i hi).1 (hz ⟨b,off,V⟩ rfl),hs.cell (hat i hi).2 (hz ⟨b,off,V⟩ rfl)⟩⟩
theorem SpV.get{w:O}{ao:Option Addr}{n c:Nat}{x:am}(h:SpV w (Y ao n c) x){i:Nat}(hi:i<x.length):∃b off,ao=W ⟨b,off,V⟩/\b<w.heap.size/\w.cell? ⟨b,off+i*2,V⟩=W (.int U (x.getD i (0,0)).1)/\w.cell? ⟨b,off+i*2+1,V⟩=W (.int U (x.getD i (0,0)).2):=by
 obtain⟨ao',cap,e,h⟩:=h;injection e with e1 e2 e3;subst e1;obtain⟨b,off,rfl,hlt,hat⟩:=h (by rintro rfl;simp at hi);exact⟨b,off,rfl,hlt,(hat i hi).1,(hat i hi).2⟩
structure PlB(w wr:O)(base A lm R n:Nat)(SL SS:am)(sv svb svk nv tv:L)(init many:Int)(rf:Nat->L):Prop where
 box:wr.heap[A]? = W (atB svb nv tv init many lm)
 lies:Bu wr lm SL
 sp:SpO wr base svk SS
 row:wr.rowIs R 3 n rf
 chg:Chg (atZ A lm sv) w wr
 own:svk.ownBlock=sv.ownBlock\/∃g,svk.ownBlock=W g/\w.heap.size<=g
 hR:w.heap.size<=R
section
variable{w wr w':O}{base A lm R n:Nat}{SL SS S':am}{sv svb svk sv' nv tv:L}{init many:Int}{rf:Nat -> L}
theorem PlB.tyA(h:PlB w wr base A lm R n SL SS sv svb svk nv tv init many rf):TyB wr A 78:=⟨_,_,h.box⟩
theorem PlB.tyR(h:PlB w wr base A lm R n SL SS sv svb svk nv tv init many rf):TyB wr R 3:=by
 obtain⟨cs,hcs,_⟩:=h.row;exact⟨cs,(0,0),hcs⟩
theorem PlB.below(h:PlB w wr base A lm R n SL SS sv svb svk nv tv init many rf)(hb:I wr.heap.size wr w'):PlB w w' base A lm R n SL SS sv svb svk nv tv init many rf:=
 ⟨(hb.block A h.tyA.lt).trans h.box,h.lies.kept (hb.block lm h.lies.lt),h.sp.later hb (qB _),h.row.of_block (hb.block R h.tyR.lt),h.chg.trans (Chg.of hb),h.own,h.hR⟩
theorem PlB.map(h:PlB w wr base A lm R n SL SS sv svb svk nv tv init many rf)(hg:wr.grownBy w' (W lm))(hl:Bu w' lm S'):PlB w w' base A lm R n S' SS sv svb svk nv tv init many rf:=by
 obtain⟨es,c,em⟩:=h.lies.isMap;have hne:∀i t,TyB wr i t->W i≠W lm:=fun i t ht e=>by
  injection e with e;subst e;exact ht.no_map em
 have hb:∀i t,TyB wr i t->w'.heap[i]? = wr.heap[i]?:=fun i t ht=>hg.block i ht.lt (hne i t ht);refine⟨(hb A _ h.tyA).trans h.box,hl,BX h.sp (Chg.grown hg) (fun g e z=>hne g _ (A0 h.sp e).2 z.symm),h.row.of_block (hb R _ h.tyR),h.chg.trans2 (Chg.grown hg) (fun i _ e=>?_),h.own,h.hR⟩;injection e with e;exact .inr (.inl e.symm)
theorem PlB.app(h:PlB w wr base A lm R n SL SS sv svb svk nv tv init many rf)(hg:wr.grownBy w' svk.ownBlock)(hs:SpO w' base sv' S')(ho:sv'.ownBlock=svk.ownBlock\/∃g,sv'.ownBlock=W g/\w.heap.size<=g):PlB w w' base A lm R n SL S' sv svb sv' nv tv init many rf:=by
 obtain⟨es,c,em⟩:=h.lies.isMap;have hne:∀i t,TyB wr i t->t≠82->W i≠svk.ownBlock:=fun i t ht h2 e=>h2 (ht.eq (A0 h.sp e.symm).2);have hb:∀i t,TyB wr i t->t≠82->w'.heap[i]? = wr.heap[i]?:=fun i t ht h2=>hg.block i ht.lt (hne i t ht h2);refine⟨(hb A _ h.tyA (by decide)).trans h.box,h.lies.kept (hg.block lm h.lies.lt fun e=>(A0 h.sp e.symm).2.no_map em),hs,h.row.of_block (hb R _ h.tyR (by decide)),h.chg.trans2 (Chg.grown hg) (fun i hi e=>?_),?_,h.hR⟩
 .rcases h.own with h1|⟨g,h1,h2⟩
  .exact .inr (.inr (h1▸e))
  .rw[h1]at e;injection e with e;omega
 .rcases ho with h1|h1
  .rw[h1];exact h.own
  .exact .inr h1
theorem PlB.setA(h:PlB w wr base A lm R n SL SS sv svb svk nv tv init many rf):PlB w (wr.setCell ⟨A,0,V⟩ svk) base A lm R n SL SS sv svk svk nv tv init many rf:=by
 obtain⟨es,c,em⟩:=h.lies.isMap;have hne:∀i t,TyB wr i t->t≠78->i≠A:=fun i t ht h2 e=>h2 (ht.eq (e▸h.tyA));refine⟨Ou wr h.box svk,h.lies.kept (RowKit.Below.heap_setCell _ _ _ _ (fun e=>h.tyA.no_map (e▸em))),BX h.sp (Chg.setCell wr _ _) (fun g e=>hne g _ (A0 h.sp e).2 (by decide)),h.row.of_block (RowKit.Below.heap_setCell _ _ _ _ (hne R _ h.tyR (by decide))),h.chg.trans2 (Chg.setCell wr _ _) (fun i _ e=>.inl e),h.own,h.hR⟩
theorem PlB.setR(h:PlB w wr base A lm R n SL SS sv svb svk nv tv init many rf)(k:Nat)(v:L):PlB w (wr.setCell ⟨R,k,V⟩ v) base A lm R n SL SS sv svb svk nv tv init many (fun j=>if j=k then v else rf j):=by
 obtain⟨es,c,em⟩:=h.lies.isMap;have hne:∀i t,TyB wr i t->t≠3->i≠R:=fun i t ht h2 e=>h2 (ht.eq (e▸h.tyR));refine⟨(RowKit.Below.heap_setCell _ _ _ _ (hne A _ h.tyA (by decide))).trans h.box,h.lies.kept (RowKit.Below.heap_setCell _ _ _ _ (fun e=>h.tyR.no_map (e▸em))),BX h.sp (Chg.setCell wr _ _) (fun g e=>hne g _ (A0 h.sp e).2 (by decide)),h.row.set k v,h.chg.trans2 (Chg.setCell wr _ _) (fun i hi e=>?_),h.own,h.hR⟩;have:=h.hR;simp only at e;omega
end
def Kb(w:O)(base A lm:Nat)(S:am)(N:List (List Int))(T:List Int)(init many:Int)(sv nv tv:L)(l:am)(e:Ending)(w':O):Prop:=
 e=H (Y (W ⟨w.heap.size,0,V⟩) l.length l.length)/\∃sv',AtX w' base A lm (AH S l) N T init many sv' nv tv/\IntsV w' (Y (W ⟨w.heap.size,0,V⟩) l.length l.length) (Cl S l)/\Af w' (Y (W ⟨w.heap.size,0,V⟩) l.length l.length) 3/\Chg (atZ A lm sv) w w'/\(sv'.ownBlock=sv.ownBlock\/∃g,sv'.ownBlock=W g/\w.heap.size<=g)
theorem M0 (w:O) (base A lm:Nat) (S:List (Int × Int)) (N:List (List Int)) (T:List Int) (init many:Int) (sv nv tv:L) (l:List (Int × Int)) (so:Option Addr) (sc:Nat) (hX:AtX w base A lm S N T init many sv nv tv) (hl:SpV w (.slice so l.length sc) l) (hsep:∀ a,so=W a->¬ atZ A lm sv a.block) (hI:∀ j,j < l.length->Co (l.getD j (0,0))) (hz:S.length+l.length <= 1000000000) :
    ZY qA 18 #[F (W ⟨A,0,V⟩),.slice so l.length sc] w (Kb w base A lm S N T init many sv nv tv l):=by
  obtain⟨n,hn⟩:∃n,l.length=n:=⟨_,rfl⟩;have HN:M (l.length=n):=hn;have HXt:M (AtX w base A lm S N T init many sv nv tv):=hX;have HI:M (∀j,j<n->Co (l.getD j (0,0))):=fun j hj=>hI j (by omega);have HLs:M (∀wr,Chg (atZ A lm sv) w wr->SpV wr (Y so n sc) l):=fun wr h=>by have:=hl.chg h hsep;rw[hn]at this;exact this
  have HSz:M (∀k,(AH S (l.take k)).length<=S.length+n):=fun k=>by
    have:=(Hh (l.take k) S).2;have h2:(l.take k).length<=l.length:=by rw[List.length_take];omega
    show _<=_;omega
  unfold Kb;rw[hn];have hnz:S.length+n<=1000000000:=by omega
  clear hX hl hsep hI hz hn;have hmk:=run_make_row' (P:=qA) 43 3 (.int U 0) 8 aD BS rfl .i64 .i64 n (by omega) (by omega);have HS0:M (∀W0,W0=w.alloc (Q (madeCells #[C U 0] n) 3)->PlB w W0 base A lm w.heap.size n (AH S (l.take 0)) (AH S (l.take 0)) sv sv sv nv tv init many (fun j=>.int U (if j<0 then(((AH S l).idxOf (l.getD j (0,0)):Nat):Int)else 0))):=fun W0 e=>by
    subst e;have hb:I w.heap.size w (w.alloc (Q (madeCells #[C U 0] n) 3)):=ai;have hx:=HXt.out.below hb;exact⟨hx.box,hx.lies,hx.sp,(World.rowIs_made w (.int U 0) n 3).congr (fun j _=>by simp),Chg.of hb,.inl rfl,qB _⟩
  go_enter Tryz.func18,Tryz.ntmps18;go_wp2_with fail
  go_loopw [15] (fun i wr=>∃k:Nat,k<=n/\i=.int U k/\∃svk,M (PlB w wr base A lm w.heap.size n (AH S (l.take k)) (AH S (l.take k)) sv svk svk nv tv init many (fun j=>.int U (if j<k then(((AH S l).idxOf (l.getD j (0,0)):Nat):Int)else 0)))) (fun i _=>n-(intOf i).toNat)
  case atStart=>exact⟨0,qJ _,rfl,sv,HS0.out _ rfl⟩
  case round=>
    obtain⟨k,hk,rfl,svk,HA⟩:=hrel;by_cases hlt:k<n
    . have hlt2:k<l.length:=by rw[HN.out];exact hlt
      obtain⟨b,off,rfl,hbl,c0,c1⟩:=(HLs.out wr HA.out.chg).get hlt2;have hki:(k:Int)<(n:Int):=by omega
      have hIk:=HI.out k hlt;have HT:=(show M _ from Hi (S:=S) hlt2);have HD:=(show M _ from T1 (S:=S) hlt2);have hSz:=HSz.out k;have HRow:M (∀ix:Nat,(AH S l).idxOf (l.getD k (0,0))=ix->∀j:Nat,(if j=k then Value.int .i64 (ix:Nat)else .int U (if j<k then(((AH S l).idxOf (l.getD j (0,0)):Nat):Int)else 0))=.int U (if j<k+1 then(((AH S l).idxOf (l.getD j (0,0)):Nat):Int)else 0)):=fun ix e j=>by
        by_cases h:j=k
        . subst h
          rw[aj rfl,aj (Nat.lt_succ_self _),e]
        . rw[ak h]
          by_cases h1:j<k
          . rw[aj h1,aj (by omega)]
          . rw[ak h1,ak (by omega)]
      generalize hSk:AH S (l.take k)=Sk at *;generalize hp:l.getD k (0,0)=p at *;obtain⟨x,y⟩:=p;simp only at c0 c1
      obtain⟨vo,vc,rfl⟩:=HA.out.sp.shape;have hal:I wr.heap.size wr (wr.alloc (Q #[C U x,.int U y] 82)):=ai;have HAd:M (∀w2,I wr.heap.size wr w2->PlB w w2 base A lm w.heap.size n Sk Sk sv (.slice vo Sk.length vc) (.slice vo Sk.length vc) nv tv init many (fun j=>.int U (if j<k then(((AH S l).idxOf (l.getD j (0,0)):Nat):Int)else 0))):=fun w2 h=>HA.out.below h;obtain⟨q0,q1,q2,q3,q4,q5⟩:=C2 (HAd.out _ hal).box;have s0:(wr.alloc (Q #[C U x,.int U y] 82)).cell? ⟨wr.heap.size,0,V⟩=W (.int U x):=by simp[go_sem]
      have s1:(wr.alloc (Q #[C U x,.int U y] 82)).cell? ⟨wr.heap.size,1,V⟩=W (.int U y):=by simp[go_sem]
      have hlk:=(HAd.out _ hal.drew).lies.look hIk;unfold Es at hlk;simp only at hlk;by_cases hmem:(x,y)∈Sk
      . rw [aj hmem,decide_eq_true hmem] at hlk
        have HV:M (((AH S l).idxOf (x,y):Nat)=Sk.idxOf (x,y)):=by show _=_;rw[HD.out,Jg hmem]
        have HT2:M (AH S (l.take (k+1))=Sk):=by show _=_;rw[HT.out,Jg hmem]
        generalize Sk.idxOf (x,y)=ix at *;generalize hW1:wr.alloc (Q #[C U x,.int U y] 82)=W1 at *
        go_upto_region 5 with fail
        go_cut [8,9] (fun u8 u9 wx=>u8=.int U (ix:Nat)/\u9=.bool true/\wx=W1.drew)
        case first=>
          go_region_law (fail)
          all_goals go_wp2_with fail
          all_goals go_meet
          all_goals exact⟨rfl,rfl,rfl⟩
        case rest=>
          obtain⟨rfl,rfl,rfl⟩:=hcut;have hA6:=HAd.out _ hal.drew;have f0:=hA6.row.cell hlt;have f1:=hA6.row.frozen k;have HA7:=(show M _ from hA6.setR k (.int U (ix:Nat)));clear hA6 hlk;go_wp2_with fail
          go_roundw
          case rel=>
            refine⟨k+1,by omega,by go_num,.slice vo Sk.length vc,?_⟩;rw[HT2.out];have h8:=HA7.out;exact⟨h8.box,h8.lies,h8.sp,h8.row.congr (fun j _=>HRow.out ix HV.out j),h8.chg,h8.own,h8.hR⟩
          case measure=>simp[intOf];omega
      . rw [ak hmem,decide_eq_false hmem] at hlk
        have HV:M (((AH S l).idxOf (x,y):Nat)=Sk.length):=by show _=_;rw[HD.out,Mu hmem]
        have HT2:M (AH S (l.take (k+1))=Sk++[(x,y)]):=by show _=_;rw[HT.out,Hg hmem]
        obtain⟨w2,hput,hl2,hg2⟩:=(HAd.out _ hal.drew.drew).lies.put hIk hmem (by unfold maxLen;omega);have hA2:=(HAd.out _ hal.drew.drew).map hg2 hl2;rw[Hg hmem]at hA2;have HA2:M (∀w3,I w2.heap.size w2 w3->PlB w w3 base A lm w.heap.size n (Sk++[(x,y)]) Sk sv (.slice vo Sk.length vc) (.slice vo Sk.length vc) nv tv init many (fun j=>.int U (if j<k then(((AH S l).idxOf (l.getD j (0,0)):Nat):Int)else 0))):=fun w3 h=>hA2.below h;have s2:w2.cell? ⟨wr.heap.size,0,V⟩=W (.int U x)/\w2.cell? ⟨wr.heap.size,1,V⟩=W (.int U y):=by
          have hne:W wr.heap.size≠W lm:=by
            have:=(HAd.out wr (qD _ _)).lies.lt;intro e;injection e with e;omega
          have hbk:=hg2.block wr.heap.size (bW _ _ s0) hne;exact⟨(eJ hbk).trans s0,(eJ hbk).trans s1⟩
        obtain⟨s20,s21⟩:=s2;unfold Es at hput;simp only at hput;clear hl2 hg2 hA2;generalize hW1:wr.alloc (Q #[C U x,.int U y] 82)=W1 at *
        go_upto_region 5 with fail
        go_cut [8,9] (fun u8 u9 wx=>u8=.int U 0/\u9=.bool J/\wx=W1.drew)
        case first=>
          go_region_law (fail)
          all_goals go_wp2_with fail
          all_goals go_meet
          all_goals exact⟨rfl,rfl,rfl⟩
        case rest=>
          obtain⟨rfl,rfl,rfl⟩:=hcut;go_upto_region 8 with fail
          go_cut [] (fun wx=>wx=w2)
          case first=>
            go_region_law (fail)
            all_goals go_wp2_with fail
            all_goals go_meet
            all_goals rfl
          case rest=>
            obtain rfl:=hcut;clear hput hlk;obtain⟨i0,hi,hz0,hz1,hz2⟩:=info_parts I2;have hbA:I wc.heap.size wc (wc.drew.alloc (Q #[C U x,.int U y] 82)):=((qD _ _).drew).alloc (qB _) _;have hown9:fk (wc.drew.alloc (Q #[C U x,.int U y] 82)) base 82 2 (.slice vo Sk.length vc) Sk.length (flat Sk):=(HA2.out _ hbA).sp;have hbase9:base<=(wc.drew.alloc (Q #[C U x,.int U y] 82)).heap.size:=qI HXt.out.base_le (HA2.out _ hbA).chg.size;have HApp:M (∀g cap w9,fk w9 base 82 2 (Y (W ⟨g,0,V⟩) (Sk.length+1) cap) (Sk.length+1) (flat Sk++[.int U x,.int U y])->(wc.drew.alloc (Q #[C U x,.int U y] 82)).grownBy w9 (Value.slice vo Sk.length vc).ownBlock->((Value.slice vo Sk.length vc).ownBlock=W g\/g=(wc.drew.alloc (Q #[C U x,.int U y] 82)).heap.size)->PlB w w9 base A lm w.heap.size n (Sk++[(x,y)]) (Sk++[(x,y)]) sv (.slice vo Sk.length vc) (Y (W ⟨g,0,V⟩) (Sk.length+1) cap) nv tv init many (fun j=>.int U (if j<k then(((AH S l).idxOf (l.getD j (0,0)):Nat):Int)else 0))):=fun g cap w9 h1 h2 h3=>by
              refine(HA2.out _ hbA).app h2 ?_ ?_
              . unfold SpO
                rw[Fi,qF];exact h1
              . rcases h3 with h|h
                . exact .inl (by rw[h];rfl)
                . exact .inr ⟨g,rfl,by have:=(HA2.out _ hbA).chg.size;omega⟩
            obtain⟨p0,_,_,_,_,_⟩:=C2 (HA2.out wc (qD _ _)).box;have p0':(wc.drew.alloc (Q #[C U x,.int U y] 82)).cell? ⟨A,0,V⟩=W (.slice vo Sk.length vc):=(C2 (HA2.out _ hbA).box).1;have hnews:∀j u,[Value.int .i64 x,Value.int .i64 y][j]? = W u->(wc.drew.alloc (Q #[C U x,.int U y] 82)).cell? ((⟨wc.heap.size,0,V⟩:Addr).add j)=W u:=DS wc.drew _ _ _;have HSl:M (∀m:Nat,m=Sk.length->m+1<=1000000001):=fun m e=>by show _<=_;omega
            generalize hWA:wc.drew.alloc (Q #[C U x,.int U y] 82)=WA at *;have hsk9:Sk.length<=1000000000:=by omega
            go_upto_region 9 with fail
            go_region_law (first
              |(refine step_append_lies _ (by rfl) (.tmp 48) (.tmp 50) 41 (by rfl) base 82 i0 _ 2 16 Tryz.underlying41 hi hz0 hz1 hz2 (by rfl) (by decide) (.slice vo Sk.length vc) Sk.length (flat Sk) (by rfl) hown9 ⟨wc.heap.size,0,V⟩ 1 1 [.int U x,.int U y] (by rfl) (by rfl) hnews (by intro u hu;simp at hu;rcases hu with rfl|rfl<;>rfl) (by decide) (by unfold maxLen;omega) (by omega) hbase9 _ rfl ?_;intro g9 cap9 w9 hown hgrow hat hlt9;have hA9:=HApp.out g9 cap9 w9 hown hgrow hat;have z0:=(C2 hA9.box).1;have zf:=IW hA9.box 0;have hA10:=hA9.setA;have f0:=hA10.row.cell hlt;have f1:=hA10.row.frozen k;have HA9:=(show M _ from hA10.setR k (.int U (Sk.length:Nat)));clear hA9 hA10 hown hgrow hat))
            all_goals go_wp2_with fail
            all_goals go_roundw
            all_goals first
              | (refine ⟨k+1,by omega,by go_num,Y (W ⟨g9,0,V⟩) (Sk.length+1) cap9,?_⟩
                 rw[HT2.out];have h8:=HA9.out;exact⟨h8.box,h8.lies,h8.sp,h8.row.congr (fun j _=>HRow.out _ HV.out j),h8.chg,h8.own,h8.hR⟩)
              |(simp[intOf];omega)
    . obtain rfl:k=n:=by omega
      have HF:M (PlB w wr base A lm w.heap.size k (AH S l) (AH S l) sv svk svk nv tv init many (fun j=>.int U (if j<k then(((AH S l).idxOf (l.getD j (0,0)):Nat):Int)else 0))):=by
        have:=HA.out;rw[List.take_of_length_le (by rw[HN.out];exact qB _)]at this;exact this
      clear HA;go_wp2_with fail
      go_ret;have h:=HF.out;obtain⟨cs,hcs,_⟩:=id h.row;refine⟨rfl,svk,HXt.out.put h.chg h.box h.lies h.sp,⟨W ⟨w.heap.size,0,V⟩,k,by rw[Hf,HN.out],fun _=>⟨w.heap.size,0,rfl,h.row.lt,fun i hi=>?_⟩⟩,fun a n c e=>?_,h.chg,h.own⟩
      . rw[Hf,HN.out]at hi
        rw[qV,h.row.cell hi,aj hi,Mt (by rw[HN.out];exact hi)]
      . injection e with e _ _
        injection e with e;subst e;exact⟨cs,(0,0),hcs⟩
variable{Pz:Nat -> Prop}
theorem XK(w:O):(zeroValue 195).run qA w=.ok (G #[E J]) w:=by kernel_rfl
theorem Qn{l:am}{x y y':List Bool}{c d d':Int}(hl:y.length=y'.length)(ht:BI l y d=0)(ht':BI l y' d'=0)(e:Er l (tru l y d)=Er l (tru l y' d')):BC l x c y d=BC l x c y' d':=by
 have hf:Bp l x c y d=Bp l x c y' d':=by unfold Bp;rw[hl,ht,ht']
 unfold BC;rw[hf];split
 .exact decide_eq_decide.2 (Qr e)
 .rfl
def KX(Pz:Nat->Prop)(w0 w:O)(B bs bl n:Nat)(va vr pv fv:L)(m:Mo)(ps:List am)(l:am)(ho:Option Addr)(hc:Nat)(b:Bool)(e:Ending)(w':O):Prop:=
 e=H (ZZ #[E b,.int U 0])/\Sk bs bl w w'/\M (SvOk Pz w0 w' B bs bl (n+1) va vr pv fv m ps l ho hc)
def Li8(w:O)(g:Nat)(y0 y1 y2 y3 y4 y5:Bool)(c s:Int):Prop:=w.cell? ⟨g,0,V⟩=W (.bool y0)/\w.cell? ⟨g,1,V⟩=W (.bool y1)/\w.cell? ⟨g,2,V⟩=W (.bool y2)/\w.cell? ⟨g,3,V⟩=W (.bool y3)/\w.cell? ⟨g,4,V⟩=W (.bool y4)/\w.cell? ⟨g,5,V⟩=W (.bool y5)/\w.cell? ⟨g,6,V⟩=W (.int U c)/\w.cell? ⟨g,7,V⟩=W (.int U s)
theorem Li8.of{w:O}{g:Nat}{y0 y1 y2 y3 y4 y5:Bool}{c s:Int}{t:TypeId}(h:w.heap[g]? = W (Q #[E y0,.bool y1,.bool y2,.bool y3,.bool y4,.bool y5,.int U c,.int U s] t (0,0))):Li8 w g y0 y1 y2 y3 y4 y5 c s:=by
 refine⟨?_,?_,?_,?_,?_,?_,?_,?_⟩<;>simp[br,h]
theorem Li8.later{w w':O}{g:Nat}{y0 y1 y2 y3 y4 y5:Bool}{c s:Int}(h:Li8 w g y0 y1 y2 y3 y4 y5 c s)(hg:g<w.heap.size)(hb:I w.heap.size w w'):Li8 w' g y0 y1 y2 y3 y4 y5 c s:=by
 obtain⟨h0,h1,h2,h3,h4,h5,h6,h7⟩:=h;exact⟨(hb.cell (p:=⟨g,0,V⟩) hg).trans h0,(hb.cell (p:=⟨g,1,V⟩) hg).trans h1,(hb.cell (p:=⟨g,2,V⟩) hg).trans h2,(hb.cell (p:=⟨g,3,V⟩) hg).trans h3,(hb.cell (p:=⟨g,4,V⟩) hg).trans h4,(hb.cell (p:=⟨g,5,V⟩) hg).trans h5,(hb.cell (p:=⟨g,6,V⟩) hg).trans h6,(hb.cell (p:=⟨g,7,V⟩) hg).trans h7⟩
theorem Qt(w0 w:O)(B bs bl n:Nat)(va vr pv fv:L)(m:Mo)(ps:List am)(l:am)(ho:Option Addr)(hc:Nat)(x y:List Bool)(c d:Nat)(lo no so lo2 no2 so2:Option Addr)(lc nn nc sc lc2 nn2 nc2 sc2:Nat)
  (hB:0<w0.heap.size) (hT:AF w0) (hV:TaskV w0 va vr pv fv m ps l) (hk:AX m ps l=0) (hS:SvOk Pz w0 w B bs bl n va vr pv fv m ps l ho hc) (hn:n<1000000000000)
  (hx:BoolsV w (.slice lo ps.length lc) x) (hy:BoolsV w (.slice lo2 ps.length lc2) y) (hsg:IntsV w (.slice so2 (2^(AA l).length) sc2) (sgL l y)) (hxl:x.length=ps.length) (hyl:y.length=ps.length) (hcN:c<2^(AA l).length) (hdN:d<2^(AA l).length) :
  ZY qA 62 #[F (W ⟨B,0,V⟩),G #[.slice lo ps.length lc,Y no nn nc,.slice so (2^(AA l).length) sc],.int U (c:Int),G #[.slice lo2 ps.length lc2,Y no2 nn2 nc2,.slice so2 (2^(AA l).length) sc2],.int U (d:Int)] w (KX Pz w0 w B bs bl n va vr pv fv m ps l ho hc (BC l x (c:Int) y (d:Int))):=by
 obtain⟨hp0,hl0⟩:=BU hk;obtain⟨_,hps6⟩:=Ca hp0;obtain⟨_,_,hz,_,h6⟩:=B6 hl0;obtain⟨fo,fc,rfl,_⟩:=id hV.fo;have hN64:2^(AA l).length<=64:=vK (show 0<2 by decide) h6;have htc:∀(z:List Bool) (k:Nat),z.length=ps.length->k<2^(AA l).length->BI l z (k:Int)=0:=fun z k hz1 hk1=>by
  refine EL (by rw[hz1];exact hl0) fun hno=>?_;unfold CB at hno;have:((2^(AA l).length:Nat):Int)=(2:Int)^(AA l).length:=by push_cast;rfl
  rcases hno with hno|hno
  .omega
  .rw[<-this]at hno;omega
 obtain⟨g0,hg0,hgl⟩:=hS.li;obtain⟨sb,soff,rfl,hsb,hsat⟩:∃sb soff,so2=W ⟨sb,soff,V⟩/\sb<w.heap.size/\w.cell? ⟨sb,soff+d,V⟩=W (.int U (Du l y d)):=by
  obtain⟨ao,cap,e1,h1⟩:=hsg;injection e1 with e1 _ _;subst e1;obtain⟨b,off,rfl,hb,hat⟩:=h1 (by intro e;have:=congrArg List.length e;rw[Nb]at this;simp at this);refine⟨b,off,rfl,hb,?_⟩;have:=hat d (by rw[Nb];exact hdN);rw[this,VG hdN]
 obtain⟨sg,hsgd⟩:∃sg,Du l y d=sg:=⟨_,rfl⟩;have hsgb:-9223372036854775808<=sg/\sg<=9223372036854775807:=by
  obtain⟨b0,b1⟩:=Hq l (tru l y (d:Int)) (AA l).length;have e:sg=CH l (tru l y (d:Int)) (AA l).length:=by rw[<-hsgd];rfl
  have:((2^(AA l).length:Nat):Int)=(2:Int)^(AA l).length:=by push_cast;rfl
  rw[<-this]at b1;omega
 rw[hsgd]at hsat;obtain⟨W3,hW3⟩:∃W3,W3=((w.alloc (Q #[.slice lo ps.length lc,Y no nn nc,.slice so (2^(AA l).length) sc] 148)).alloc (Q #[.slice lo2 ps.length lc2,Y no2 nn2 nc2,Y (W ⟨sb,soff,V⟩) (2^(AA l).length) sc2] 148)).alloc (Q #[E J,.bool J,.bool J,.bool J,.bool J,.bool J,.int U (c:Int),.int U sg] 193):=⟨_,rfl⟩;have hb3:I w.heap.size w W3:=by rw[hW3];exact((ai).alloc (by simp) _).alloc (by simp;omega) _
 have hz3:W3.heap.size=w.heap.size+3:=by rw[hW3];simp
 have hg3:W3.heap[w.heap.size+2]? = W (Q #[E J,.bool J,.bool J,.bool J,.bool J,.bool J,.int U (c:Int),.int U sg] 193 (0,0)):=by
  rw[hW3];have:=(MapKept.heap_alloc ((w.alloc (Q #[.slice lo ps.length lc,Y no nn nc,.slice so (2^(AA l).length) sc] 148)).alloc (Q #[.slice lo2 ps.length lc2,Y no2 nn2 nc2,Y (W ⟨sb,soff,V⟩) (2^(AA l).length) sc2] 148)) (Q #[E J,.bool J,.bool J,.bool J,.bool J,.bool J,.int U (c:Int),.int U sg] 193)).1;simpa using this
 obtain⟨w4,y0,y1,y2,y3,y4,y5,hcopy,hsix,hg4,hgr4⟩:=P5 W3.drew (w.heap.size+2) lo ps.length lc x (c:Int) sg 193 3 (hx.below hb3.drew) hxl hps6 hg3;have hb4:I w.heap.size w w4:=⟨hgr4.os.trans hb3.os,hgr4.tape.trans hb3.tape,hgr4.output.trans hb3.output,qI hb3.size hgr4.size,fun i hi=>(hgr4.block i (qE hi hb3.size) (by intro e;injection e with e;omega)).trans (hb3.block i hi)⟩;have hli4:=Li8.of hg4;have hlv:FD x (c:Int) sg=G #[E y0,.bool y1,.bool y2,.bool y3,.bool y4,.bool y5,.int U (c:Int),.int U sg]:=by unfold FD;rw[hsix];rfl
 obtain⟨kl,hkl⟩:=Rm y0 y1 y2 y3 y4 y5 (c:=(c:Int)) (s:=sg) (by omega) hsgb;have hz4:w.heap.size+3<=w4.heap.size:=by have:=hgr4.size;have e:W3.drew.heap.size=W3.heap.size:=rfl;omega
 have hk4:I (w.heap.size+2) W3 w4:=⟨hgr4.os,hgr4.tape,hgr4.output,hgr4.size,fun i hi=>hgr4.block i (by show i<W3.heap.size;omega) (by intro e;injection e with e;omega)⟩;have HBx:M (∀w',I (w.heap.size+2) W3 w'->w'.cell? ⟨w.heap.size,0,V⟩=W (.slice lo ps.length lc)/\w'.cell? ⟨w.heap.size+1,0,V⟩=W (.slice lo2 ps.length lc2)):=fun w' h=>by
  refine⟨(h.cell (p:=⟨w.heap.size,0,V⟩) (by show w.heap.size<_;omega)).trans ?_,(h.cell (p:=⟨w.heap.size+1,0,V⟩) (by show w.heap.size+1<_;omega)).trans ?_⟩<;>(rw[hW3];simp[go_sem])
 have hs2:∀o1 o2,((w.alloc o1).alloc o2).cell? ⟨sb,soff+d,V⟩=W (.int U sg):=fun o1 o2=>(Below.cell (p:=⟨sb,soff+d,V⟩) (((qD w.heap.size w).alloc (qB _) o1).alloc (by simp) o2) hsb).trans hsat;have HLk:M (∀w',w'.heap[bl]? = w.heap[bl]?->(Instr.lookup 73 (.map (W bl)) (G #[E y0,.bool y1,.bool y2,.bool y3,.bool y4,.bool y5,.int U (c:Int),.int U sg]) true).run qA w'=.ok (ZZ #[(g0 kl).getD (G #[E J]),.bool (g0 kl).isSome]) w'):=fun w' h=>(hg0.kept h).look Gv fU (XK _) hkl;have HS6:M (∀w',I w.heap.size w w'->w'.cell? ⟨B,3,V⟩=W (.slice fo l.length fc)/\w'.cell? ⟨B,6,V⟩=W (.map (W bl))):=fun w' h=>⟨(hS.box.later h).c3,(hS.box.later h).c6⟩;have hbl:bl<w.heap.size:=hg0.lt;have hdi:(d:Int)<((2^(AA l).length:Nat):Int):=by omega
 have HLi:M (∀w',I w4.heap.size w4 w'->Li8 w' (w.heap.size+1+1) y0 y1 y2 y3 y4 y5 (c:Int) sg):=fun w' h=>hli4.later (by omega) h;unfold KX;cases hgk:g0 kl with
 |some v=>
  obtain⟨x',c',sg',b,hx'l,hkl',rfl,hall⟩:=hgl kl v hgk;have hinj:=Gv.inj hkl' (hlv▸hkl);obtain⟨rfl,rfl,rfl⟩:=SE (hx'l.trans hxl.symm) hinj;have hbv:BC l x' (c:Int) y (d:Int)=b:=hall y (d:Int) hyl (htc y d hyl hdN) (by rw[<-hsgd];rfl);rw[hbv];have HLk2:M (∀w',w'.heap[bl]? = w.heap[bl]?->(Instr.lookup 73 (.map (W bl)) (G #[E y0,.bool y1,.bool y2,.bool y3,.bool y4,.bool y5,.int U (c:Int),.int U sg']) true).run qA w'=.ok (ZZ #[G #[E b],.bool true]) w'):=fun w' h=>by have:=HLk.out w' h;rw[hgk]at this;exact this
  have HFin:M (∀w',I w.heap.size w w'->Sk bs bl w w'/\SvOk Pz w0 w' B bs bl (n+1) va vr pv (.slice fo l.length fc) m ps l ho hc):=fun w' h=>⟨Sk.of h,(hS.below h).mono (Nat.le_succ _)⟩;generalize ps.length=pn at *;generalize 2^(AA l).length=N at *;generalize l.length=fn at *;clear HLk hS hgl hg0 hall hbv hT hV hx hy hsg htc hli4 hkl' hlv hkl hinj hgr4 hg3 hsix
  go_enter fQ,fR;go_wp2_with fail
  rw[<-hW3];obtain⟨u0,u1⟩:=HBx.out W3 (qD _ _);obtain⟨v0,v1⟩:=HBx.out w4 hk4;clear hW3;go_region_held3 (fun w'=>w'.cell? ⟨w.heap.size,0,V⟩=W (Y lo pn lc))
   (first|exact u0|exact v0)
   (fail)
  have hbl4:w4.heap[bl]? = w.heap[bl]?:=hb4.block bl hbl;obtain⟨_,q6⟩:=HS6.out w4 hb4;obtain⟨i0,i1,i2,i3,i4,i5,i6,i7⟩:=HLi.out w4 (qD _ _);clear u0 u1 v0 v1 hs2 HBx;go_wp2_with fail
  go_cut [13,14] (fun u13 u14 w'=>∃g13,u13=F (W ⟨g13,0,V⟩)/\u14=.bool true/\I w4.heap.size w4 w'/\w'.cell? ⟨g13,0,V⟩=W (.bool b))
  case first=>
   have hal:I w4.heap.size w4 (w4.alloc (Q #[E J] 195)):=ai;have hlA:=HLk2.out w4.drew hbl4;have hlB:=HLk2.out (w4.alloc (Q #[E J] 195)).drew ((hal.block bl (qE hbl hb4.size)).trans hbl4);obtain⟨_,q6'⟩:=HS6.out _ (ae hb4 hal);obtain⟨j0,j1,j2,j3,j4,j5,j6,j7⟩:=HLi.out _ hal;go_region_law (fail)
   all_goals go_wp2_with fail
   all_goals go_meet
   all_goals exact⟨_,rfl,rfl,(ai).drew,by simp[go_sem]⟩
  case rest=>
   obtain⟨g13,rfl,rfl,hb5,d0⟩:=hcut;have hbF:=ae hb4 hb5;go_wp2_with fail
   go_ret2;obtain⟨r1,r2⟩:=HFin.out _ hbF;exact⟨rfl,r1,r2⟩
 |none=>
  have HLk2:M (∀w',w'.heap[bl]? = w.heap[bl]?->(Instr.lookup 73 (.map (W bl)) (G #[E y0,.bool y1,.bool y2,.bool y3,.bool y4,.bool y5,.int U (c:Int),.int U sg]) true).run qA w'=.ok (ZZ #[G #[E J],.bool J]) w'):=fun w' h=>by have:=HLk.out w' h;rw[hgk]at this;exact this
  have hfc:Bp l x (c:Int) y (d:Int)=0:=by
   unfold Bp;rw[ak (by rw[hxl,hyl];simp),ak (by rw[htc x c hxl hcN];simp)];exact htc y d hyl hdN
  have HFo:M (∀w',I w.heap.size w w'->ZY qA 91 #[.slice fo l.length fc,.slice lo ps.length lc,.int U (c:Int),.slice lo2 ps.length lc2,.int U (d:Int)] w' fun e w''=>e=H (ZZ #[E (BC l x (c:Int) y (d:Int)),.int U 0])/\I w'.heap.size w' w''):=fun w' h=>by
   have h0:=hS.bel.trans (h.mono hS.bel.size);have:=SD _ _ _ l x y (c:Int) (d:Int) w' (qE hB h0.size) (hT.below h0 hB) (hV.fo.below h0) (hx.below h) (hy.below h);rw[hfc]at this;exact this
  have hLO:GB ps l kl (G #[E (BC l x (c:Int) y (d:Int))]):=⟨x,(c:Int),sg,_,hxl,hlv▸hkl,rfl,fun y' d' h1 h2 h3=>Qn (h1.trans hyl.symm) h2 (htc y d hyl hdN) (h3.trans (by rw[<-hsgd];rfl))⟩;have HPut:M (∀w',I w.heap.size w w'->∃w'',(Instr.mapUpdate 73 (.map (W bl)) (G #[E y0,.bool y1,.bool y2,.bool y3,.bool y4,.bool y5,.int U (c:Int),.int U sg]) (G #[E (BC l x (c:Int) y (d:Int))])).run qA w'.drew=.ok () w''/\w'.grownBy w'' (W bl)/\Sk bs bl w w''/\SvOk Pz w0 w'' B bs bl (n+1) va vr pv (.slice fo l.length fc) m ps l ho hc):=fun w' h=>by
   have hm1:MapIs w'.drew 193 bl n g0:=hg0.kept (h.block _ hg0.lt);obtain⟨w'',h1,h2,h3⟩:=hm1.put Gv fU (by unfold maxLen;omega) (val:=G #[E (BC l x (c:Int) y (d:Int))]) hkl (Gv.key hkl);have h4:w'.grownBy w'' (W bl):=⟨h3.os,h3.tape,h3.output,h3.size,h3.block⟩;exact⟨w'',h1,h4,(Sk.of h).trans (Sk.grown h4 (.inr rfl)),(hS.below h).putL h4 hgl h2 hLO⟩
  generalize BC l x (c:Int) y (d:Int)=b at *;generalize ps.length=pn at *;generalize 2^(AA l).length=N at *;generalize l.length=fn at *;clear HLk hS hgl hg0 hT hV hx hy hsg htc hli4 hlv hkl hgr4 hg3 hsix hLO hfc
  go_enter fQ,fR;go_wp2_with fail
  rw[<-hW3];obtain⟨u0,u1⟩:=HBx.out W3 (qD _ _);obtain⟨v0,v1⟩:=HBx.out w4 hk4;clear hW3;go_region_held3 (fun w'=>w'.cell? ⟨w.heap.size,0,V⟩=W (Y lo pn lc))
   (first|exact u0|exact v0)
   (fail)
  have hbl4:w4.heap[bl]? = w.heap[bl]?:=hb4.block bl hbl;obtain⟨_,q6⟩:=HS6.out w4 hb4;obtain⟨i0,i1,i2,i3,i4,i5,i6,i7⟩:=HLi.out w4 (qD _ _);clear u0 u1 v0 v1 hs2;go_wp2_with fail
  go_cut [13,14] (fun u13 u14 w'=>∃g13,u13=F (W ⟨g13,0,V⟩)/\u14=.bool J/\I w4.heap.size w4 w')
  case first=>
   have hal:I w4.heap.size w4 (w4.alloc (Q #[E J] 195)):=ai;have hlA:=HLk2.out w4.drew hbl4;have hlB:=HLk2.out (w4.alloc (Q #[E J] 195)).drew ((hal.block bl (qE hbl hb4.size)).trans hbl4);obtain⟨_,q6'⟩:=HS6.out _ (ae hb4 hal);obtain⟨j0,j1,j2,j3,j4,j5,j6,j7⟩:=HLi.out _ hal;go_region_law (fail)
   all_goals go_wp2_with fail
   all_goals go_meet
   all_goals exact⟨_,rfl,rfl,(ai).drew⟩
  case rest=>
   obtain⟨g13,rfl,rfl,hb5⟩:=hcut;have hbF:=ae hb4 hb5;have HSF:M (∀w',I wc.heap.size wc w'->w'.cell? ⟨B,3,V⟩=W (Y fo fn fc)/\w'.cell? ⟨w.heap.size,0,V⟩=W (Y lo pn lc)/\w'.cell? ⟨w.heap.size+1,0,V⟩=W (Y lo2 pn lc2)):=fun w' h=>by
    have h1:=ae hb5 h;obtain⟨e1,e2⟩:=HBx.out w' (hk4.trans (h1.mono (by omega)));exact⟨(HS6.out w' (ae hbF h)).1,e1,e2⟩
   have hfo:=HFo.out _ hbF.drew;have hB0:I wc.heap.size wc wc:=qD _ _;go_wp2_with fail
   go_region_held3 (fun w'=>w'.cell? ⟨B,3,V⟩=W (Y fo fn fc)/\w'.cell? ⟨w.heap.size,0,V⟩=W (Y lo pn lc)/\w'.cell? ⟨w.heap.size+1,0,V⟩=W (Y lo2 pn lc2))
    (first|exact HSF.out _ hb6|exact HSF.out _ hB0.drew|exact HSF.out _ hB0)
    (first
     |(go_at_call 91;refine hfo.mono ?_;rintro e w6 ⟨rfl,hb6'⟩;have hb6:=hB0.drew.trans (hb6'.mono hB0.drew.size)))
   have hbG:=ae hbF hb6;obtain⟨w7,hput,hg7,r1,r2⟩:=HPut.out _ hbG;obtain⟨_,z6⟩:=HS6.out _ hbG;obtain⟨k0,k1,k2,k3,k4,k5,k6,k7⟩:=HLi.out w6 (ae hb5 hb6);have HR:M (Sk bs bl w w7/\SvOk Pz w0 w7 B bs bl (n+1) va vr pv (Y fo fn fc) m ps l ho hc):=⟨r1,r2⟩;clear r1 r2 hg7 HPut;go_wp2_with fail
   go_region_law (fail)
   all_goals go_wp2_with fail
   all_goals go_ret2
   all_goals exact⟨rfl,HR.out.1,HR.out.2⟩
theorem VZ{l:List Int}(h:l.Nodup):Rise (l.mergeSort leB):=by
 have hp:(l.mergeSort leB).Pairwise (fun x y=>leB x y=true):=List.pairwise_mergeSort (le:=leB) (by intro a b c;simp only[leB,decide_eq_true_eq];omega) (by intro a b;simp only[leB,Bool.or_eq_true,decide_eq_true_eq];omega) l;have hn:(l.mergeSort leB).Nodup:=(xJ l leB).nodup_iff.2 h;refine(hp.and hn).imp fun{a b} hab=>?_;have h1:a<=b:=by simpa[leB]using hab.1
 have h2:a≠b:=hab.2;omega
theorem NK:∀{l:List Int} {lo N:Int},Rise l->(∀x∈l,lo<=x/\x<N)->lo<=N->(l.length:Int)<=N-lo
 |[],lo,N,_,_,h=>by simp;omega
 |x::l,lo,N,h1,h2,_=>by
  obtain⟨hx,t⟩:=List.pairwise_cons.1 h1;have h3:=h2 x (by simp);have:=NK (lo:=x+1) (N:=N) t (fun y hy=>⟨by have:=hx y hy;omega,(h2 y (by simp[hy])).2⟩) (by omega);simp only[qY];omega
theorem MX{l:List Int}{N:Nat}(h:l.Nodup)(hi:∀x∈l,0<=x/\x<N):l.length<=N:=by
 have h1:=NK (lo:=0) (N:=N) (VZ h) (fun x hx=>hi x ((xJ l leB).mem_iff.1 hx)) (by omega);rw[List.length_mergeSort]at h1;omega
noncomputable def CW(l:am)(x:List Bool)(c:Int)(y:List Bool)(st:Int):Nat->am
 |0=>[]
 |k+1=>if BC l x c y (k:Int)=true then CW l x c y st k++[(st,(k:Int))]else CW l x c y st k
theorem Iv(l:am)(x:List Bool)(c:Int)(y:List Bool)(st:Int):∀k,(CW l x c y st k).length<=k
 |0=>qB _
 |k+1=>by
  rw[CW];have:=Iv l x c y st k;split
  .rw[qF,vY];omega
  .omega
noncomputable def C4(m:Mo)(ps:List am)(l:am)(code c:Int):Nat->am
 |0=>[]
 |i+1=>C4 m ps l code c i++CW l (AJ m ps code) c (AJ m ps ((AM m code).getD i 0)) ((AM m code).getD i 0) (2^(AA l).length)
noncomputable def Aa(m:Mo)(ps:List am)(l:am)(code c:Int):am:=C4 m ps l code c (AM m code).length
theorem Ib{m:Mo}{ps:List am}{l:am}(h:2^(AA l).length<=64)(code c:Int):∀i,(C4 m ps l code c i).length<=i*64
 |0=>qB _
 |i+1=>by
  rw[C4,qF];have:=Ib (m:=m) (ps:=ps) h code c i;have:=Iv l (AJ m ps code) c (AJ m ps ((AM m code).getD i 0)) ((AM m code).getD i 0) (2^(AA l).length);omega
theorem JN{m:Mo}(hm:mcode m=0){x:Int}(hx:0<=x/\x<AL m.vars m.vars.length){y:Int}(hy:y∈AM m x):0<=y/\y<AL m.vars m.vars.length:=by
 have h1:=((N2 _).2 y).1 hy;unfold Hm at h1;split at h1
 .simp at h1;subst h1;exact hx
 .obtain ⟨j,_,e⟩:=(UF (qB _) y).1 h1;exact Um (Cw hm) e
theorem MW{m:Mo}(hm:mcode m=0){x:Int}(hx:0<=x/\x<AL m.vars m.vars.length):(AM m x).length<=4096:=by
 have h1:(AM m x).Nodup:=by
  have:=(N2 (Hm m x)).1;exact List.Pairwise.imp (fun{a b} h=>by omega) this
 have h2:=(Cw hm).prod (qB m.vars.length);have:=MX (N:=(AL m.vars m.vars.length).toNat) h1 (fun y hy=>by have:=JN hm hx hy;omega);omega
theorem Sk.after{bs bl:Nat}{wb w w':O}(h:Sk bs bl wb w)(hb:I wb.heap.size w w'):Sk bs bl wb w':=
 ⟨hb.os.trans h.os,hb.tape.trans h.tape,hb.output.trans h.output,qI h.size hb.size,fun i hi h1 h2=>(hb.block i hi).trans (h.block i hi h1 h2)⟩
def Bx3(w:O)(b:Nat)(x y z:L):Prop:=(w.cell? ⟨b,0,V⟩=W x/\w.cell? ⟨b,1,V⟩=W y/\w.cell? ⟨b,2,V⟩=W z)/\Af w (Y (W ⟨b,0,V⟩) 1 1) 148
theorem Bx3.new(w:O)(x y z:L):Bx3 (w.alloc (Q #[x,y,z] 148)) w.heap.size x y z:=by
 refine⟨(St3.new w x y z _).2.1,fun a n c e=>?_⟩;injection e with e _ _;injection e with e;subst e;exact⟨_,_,(MapKept.heap_alloc w _).1⟩
theorem Bx3.sk{bs bl:Nat}{w w':O}{b:Nat}{x y z:L}(h:Bx3 w b x y z)(hs:Sk bs bl w w')(hm:Cf w bs bl):Bx3 w' b x y z:=
 ⟨⟨hs.cell hm h.1.1,hs.cell hm h.1.2.1,hs.cell hm h.1.2.2⟩,h.2.sk hs hm⟩
theorem Bx3.grown{w w':O}{b:Nat}{x y z:L}{own:Option Nat}(h:Bx3 w b x y z)(hg:w.grownBy w' own)(ho:∀g,own=W g->∃cs fr,w.heap[g]? = W (Q cs 82 fr)):Bx3 w' b x y z:=by
 obtain⟨cs,fr,h1⟩:=h.2 _ _ _ rfl;have e:∀i v,w.cell? ⟨b,i,V⟩=W v->w'.cell? ⟨b,i,V⟩=W v:=fun i v hv=>by
  rw[eJ (hg.block b (qG.1 h1).1 (fun e2=>by
   obtain⟨cs',fr',h2⟩:=ho _ e2.symm;rw[h1]at h2;injection h2 with h2;injection h2 with _ h3 _;exact absurd h3 (by decide)))]
  exact hv
 exact⟨⟨e _ _ h.1.1,e _ _ h.1.2.1,e _ _ h.1.2.2⟩,h.2.grown hg (by decide) ho⟩
theorem Bx3.below{w w':O}{b:Nat}{x y z:L}(h:Bx3 w b x y z)(hb:I w.heap.size w w'):Bx3 w' b x y z:=by
 obtain⟨cs,fr,h1⟩:=h.2 _ _ _ rfl;have hlt:b<w.heap.size:=(qG.1 h1).1;exact⟨⟨(hb.cell (p:=⟨b,0,V⟩) hlt).trans h.1.1,(hb.cell (p:=⟨b,1,V⟩) hlt).trans h.1.2.1,(hb.cell (p:=⟨b,2,V⟩) hlt).trans h.1.2.2⟩,h.2.below hb⟩
theorem SpO.own{w:O}{base:Nat}{vo:Option Addr}{n cap:Nat}{x:am}(h:SpO w base (Y vo n cap) x)(o:Obj):∀g,(Value.slice vo n cap).ownBlock=W g->base<=g/\∃cs fr,(w.alloc o).heap[g]? = W (Q cs 82 fr):=by
 intro g hg;rcases h.2 with⟨h0,_⟩|⟨g',cap',cur,h1,h2,h3,_⟩
 .rw[h0]at hg;simp[Value.ownBlock]at hg
 .rw[h1]at hg;simp[Value.ownBlock]at hg;subst hg;exact⟨h2,cur,_,(Below.heap_alloc w o g' (qG.1 h3).1).trans h3⟩
variable{Pz:Nat -> Prop}
theorem Sf(w0 w:O)(B bs bl n:Nat)(va vr pv fv:L)(m:Mo)(ps:List am)(l:am)(ho:Option Addr)(hc:Nat)(code:Int)(c:Nat)(hI:-9223372036854775808<=code/\code<=9223372036854775807)(hB:0<w0.heap.size)(hT:AF w0)(hV:TaskV w0 va vr pv fv m ps l)(hk:AX m ps l=0)(hS:SvOk Pz w0 w B bs bl n va vr pv fv m ps l ho hc)(hn:n+300000<1000000000000)(hcr:0<=code/\code<AL m.vars m.vars.length)(hcN:c<2^(AA l).length) :
  ZY qA 35 #[F (W ⟨B,0,V⟩),G #[C U code,.int U (c:Int)]] w fun e w'=>e=H (ZZ #[C U (B7 l (AJ m ps code) (c:Int)),.int U 0])/\Sk bs bl w w'/\M (SvOk Pz w0 w' B bs bl (n+1) va vr pv fv m ps l ho hc):=by
 obtain⟨hp0,hl0⟩:=BU hk;obtain⟨hm0,_⟩:=Ca hp0;have hw:=EM hm0 hcr;obtain⟨fo,fc,rfl,_⟩:=id hV.fo;have htc:BI l (AJ m ps code) (c:Int)=0:=by
  refine EL (by rw[(FN hk hcr).2];exact hl0) fun hno=>?_;unfold CB at hno;have:((2^(AA l).length:Nat):Int)=(2:Int)^(AA l).length:=by push_cast;rfl
  rcases hno with hno|hno
  .omega
  .rw[<-this]at hno;omega
 obtain⟨W1,hW1⟩:∃W1,W1=w.alloc (Q #[C U code,.int U (c:Int)] 82):=⟨_,rfl⟩;have hb1:I w.heap.size w W1:=by rw[hW1];exact ai
 have hs1:W1.cell? ⟨w.heap.size,0,V⟩=W (.int U code)/\W1.cell? ⟨w.heap.size,1,V⟩=W (.int U (c:Int)):=by rw[hW1];constructor<;>simp[go_sem]
 have hS1:=hS.below hb1;have hst:=J4 w0 W1 B bs bl n va vr pv (.slice fo l.length fc) m ps l ho hc code hI hB hT hV hk hS1 (by omega);have hst2:ZY qA 61 #[F (W ⟨B,0,V⟩),.int U code] W1 fun e w'=>∃lo lc no nn nc so sn sc,e=H (ZZ #[G #[.slice lo ps.length lc,Y no nn nc,Y so sn sc],.int U 0])/\M (∀w2,I w'.heap.size w' w2->Sk bs bl w w2/\SvOk Pz w0 w2 B bs bl (n+1) va vr pv (.slice fo l.length fc) m ps l ho hc/\w2.cell? ⟨B,3,V⟩=W (.slice fo l.length fc)/\w2.cell? ⟨w.heap.size,0,V⟩=W (.int U code)/\w2.cell? ⟨w.heap.size,1,V⟩=W (.int U (c:Int))/\ZY qA 63 #[.slice fo l.length fc,.slice lo ps.length lc,.int U (c:Int)] w2 fun e w3=>e=H (ZZ #[C U (B7 l (AJ m ps code) (c:Int)),.int U 0])/\I w2.heap.size w2 w3):=hst.mono fun e w' ⟨h1,h2,h3⟩=>by
  rcases h3 with⟨_,lo,lc,no,nc,so,sc,h4,h5⟩|⟨h4,_⟩
  .refine ⟨lo,lc,no,_,nc,so,_,sc,h4,fun w2 hb2=>?_⟩;have hsk:=(h1.trans (Sk.of hb2));have hS2:=h2.out.below hb2;obtain⟨lo',lc',no',nc',so',sc',e5,hx,_⟩:=h5.out;injection e5 with e5;simp only[Array.mk.injEq,bJ.injEq,and_true]at e5;rw[<-e5.1]at hx;have h0:=hS2.bel;have hme:=SG (.slice fo l.length fc) (.slice lo ps.length lc) l (AJ m ps code) (c:Int) w2 (qE hB h0.size) (hT.below h0 hB) (hV.fo.below h0) (hx.below hb2);rw[htc]at hme;exact⟨(Sk.of hb1).trans hsk,hS2,hS2.box.c3,hsk.cell hS1.two hs1.1,hsk.cell hS1.two hs1.2,hme⟩
  .exact absurd hw h4
 clear hst hS hT hV hk hw hS1 htc hp0 hl0 hm0;have HW1:M (W1=w.alloc (Q #[C U code,.int U (c:Int)] 82)):=hW1;generalize B7 l (AJ m ps code) (c:Int)=mm at *;generalize ps.length=pn at *;generalize l.length=fn at *
 go_enter Tryz.func35,Tryz.ntmps35;go_wp2_with (first|(go_at_call 61;rw[<-hW1];refine hst2.mono ?_;rintro e w2 ⟨lo,lc,no,nn,nc,so,sn,sc,rfl,HR⟩))
 have hb2:∀o,I w2.heap.size w2 (w2.alloc o):=fun o=>(qD _ _).alloc (qB _) o;generalize hw3:w2.alloc (Q #[Y lo pn lc,Y no nn nc,Y so sn sc] 148)=w3 at *;have hb3:I w2.heap.size w2 w3:=by rw[<-hw3];exact hb2 _
 have q0:w3.cell? ⟨w2.heap.size,0,V⟩=W (Y lo pn lc):=by rw[<-hw3];simp[go_sem]
 have hlt3:w2.heap.size<w3.heap.size:=bW _ _ q0;have HSF:M (∀w',I w3.heap.size w3 w'->w'.cell? ⟨B,3,V⟩=W (Y fo fn fc)/\w'.cell? ⟨w2.heap.size,0,V⟩=W (Y lo pn lc)/\w'.cell? ⟨w.heap.size,1,V⟩=W (.int U (c:Int))):=fun w' h=>by
  obtain⟨_,_,q3,_,q1,_⟩:=HR.out w' (ae hb3 h);exact⟨q3,(h.cell (p:=⟨w2.heap.size,0,V⟩) hlt3).trans q0,q1⟩
 have hB0:I w3.heap.size w3 w3:=qD _ _;obtain⟨_,_,_,_,_,hme⟩:=HR.out w3.drew hb3.drew;clear hw3 hb2 q0 hst2 hs1 hW1;go_region_held3 (fun w'=>w'.cell? ⟨B,3,V⟩=W (Y fo fn fc)/\w'.cell? ⟨w2.heap.size,0,V⟩=W (Y lo pn lc)/\w'.cell? ⟨w.heap.size,1,V⟩=W (.int U (c:Int)))
  (first|exact HSF.out _ hb6|exact HSF.out _ hB0.drew|exact HSF.out _ hB0)
  (first|(go_at_call 63;refine hme.mono ?_;rintro e w6 ⟨rfl,hb6'⟩;have hb6:=hB0.drew.trans (hb6'.mono hB0.drew.size)))
 go_wp2_with fail
 go_ret2;obtain⟨r1,r2,_⟩:=HR.out _ (ae hb3 hb6);exact⟨rfl,r1,r2⟩
variable{Pz:Nat -> Prop}
def KS(Pz:Nat->Prop)(w0 w:O)(B bs bl n:Nat)(va vr pv fv:L)(m:Mo)(ps:List am)(l:am)(ho:Option Addr)(hc:Nat)(code c:Int)(e:Ending)(w':O):Prop:=
 Sk bs bl w w'/\M (SvOk Pz w0 w' B bs bl (n+300000) va vr pv fv m ps l ho hc)/\((Av m code=0/\∃so sc,e=H (ZZ #[.slice so (Aa m ps l code c).length sc,.int U 0])/\M (SpO w' w.heap.size (.slice so (Aa m ps l code c).length sc) (Aa m ps l code c)))\/(Av m code≠0/\e=H (ZZ #[Y V 0 0,.int U (Av m code)])))
theorem PC(w0 w:O)(B bs bl n:Nat)(va vr pv fv:L)(m:Mo)(ps:List am)(l:am)(ho:Option Addr)(hc:Nat)(code:Int)(c:Nat)(hI:-9223372036854775808<=code/\code<=9223372036854775807)(hB:0<w0.heap.size)(hT:AF w0)(hV:TaskV w0 va vr pv fv m ps l)(hk:AX m ps l=0)(hS:SvOk Pz w0 w B bs bl n va vr pv fv m ps l ho hc)(hn:n+300000<1000000000000)(hcr:0<=code/\code<AL m.vars m.vars.length)(hcN:c<2^(AA l).length) :
  ZY qA 34 #[F (W ⟨B,0,V⟩),G #[C U code,.int U (c:Int)]] w (KS Pz w0 w B bs bl n va vr pv fv m ps l ho hc code (c:Int)):=by
 obtain⟨hp0,hl0⟩:=BU hk;obtain⟨hm0,_⟩:=Ca hp0;obtain⟨_,_,_,_,h6⟩:=B6 hl0;have hw:=EM hm0 hcr;have hpr:=((Cw hm0).prod (qB m.vars.length)).2;have hN64:2^(AA l).length<=64:=vK (show 0<2 by decide) h6;have hnn:=MW hm0 hcr;obtain⟨W1,hW1⟩:∃W1,W1=w.alloc (Q #[C U code,.int U (c:Int)] 82):=⟨_,rfl⟩;have hb1:I w.heap.size w W1:=by rw[hW1];exact ai
 have hs1:W1.cell? ⟨w.heap.size,0,V⟩=W (.int U code)/\W1.cell? ⟨w.heap.size,1,V⟩=W (.int U (c:Int)):=by rw[hW1];constructor<;>simp[go_sem]
 have hS1:=hS.below hb1;have hst:=J4 w0 W1 B bs bl n va vr pv fv m ps l ho hc code hI hB hT hV hk hS1 (by omega);have hst2:ZY qA 61 #[F (W ⟨B,0,V⟩),.int U code] W1 fun e w'=>∃lo lc no nc so sc,e=H (ZZ #[G #[.slice lo ps.length lc,.slice no (AM m code).length nc,.slice so (2^(AA l).length) sc],.int U 0])/\M (Sk bs bl w w'/\SvOk Pz w0 w' B bs bl (n+1) va vr pv fv m ps l ho hc/\Am Pz w' m ps l code (G #[.slice lo ps.length lc,.slice no (AM m code).length nc,.slice so (2^(AA l).length) sc]))/\M (w'.cell? ⟨w.heap.size,0,V⟩=W (.int U code)/\w'.cell? ⟨w.heap.size,1,V⟩=W (.int U (c:Int))):=hst.mono fun e w' ⟨h1,h2,h3⟩=>by
  rcases h3 with⟨_,lo,lc,no,nc,so,sc,h4,h5⟩|⟨h4,_⟩
  .exact ⟨lo,lc,no,nc,so,sc,h4,⟨(Sk.of hb1).trans h1,h2.out,h5.out⟩,h1.cell hS1.two hs1.1,h1.cell hS1.two hs1.2⟩
  .exact absurd hw h4
 have HSt:M (∀(w':O) (n':Nat) (c':Int),n'<1000000000000->0<=c'/\c'<AL m.vars m.vars.length->SvOk Pz w0 w' B bs bl n' va vr pv fv m ps l ho hc->ZY qA 61 #[F (W ⟨B,0,V⟩),.int U c'] w' fun e w''=>∃lo lc no nn2 nc so sc,e=H (ZZ #[G #[.slice lo ps.length lc,Y no nn2 nc,.slice so (2^(AA l).length) sc],.int U 0])/\M (Sk bs bl w' w''/\SvOk Pz w0 w'' B bs bl (n'+1) va vr pv fv m ps l ho hc/\Am Pz w'' m ps l c' (G #[.slice lo ps.length lc,Y no nn2 nc,.slice so (2^(AA l).length) sc]))):=fun w' n' c' hn' hc' hS'=>(J4 w0 w' B bs bl n' va vr pv fv m ps l ho hc c' (by omega) hB hT hV hk hS' hn').mono fun e w'' ⟨h1,h2,h3⟩=>by
  rcases h3 with⟨_,lo,lc,no,nc,so,sc,h4,h5⟩|⟨h4,_⟩
  .exact ⟨lo,lc,no,_,nc,so,sc,h4,h1,h2.out,h5.out⟩
  .exact absurd (EM hm0 hc') h4
 have HFo:M (∀(w':O) (n' d:Nat) (c':Int) (lo no so lo2 no2 so2:Option Addr) (lc nn nc sc lc2 nn2 nc2 sc2:Nat),n'<1000000000000->d<2^(AA l).length->0<=c'/\c'<AL m.vars m.vars.length->SvOk Pz w0 w' B bs bl n' va vr pv fv m ps l ho hc->Am Pz w' m ps l code (G #[.slice lo ps.length lc,Y no nn nc,.slice so (2^(AA l).length) sc])->Am Pz w' m ps l c' (G #[.slice lo2 ps.length lc2,Y no2 nn2 nc2,.slice so2 (2^(AA l).length) sc2])->ZY qA 62 #[F (W ⟨B,0,V⟩),G #[.slice lo ps.length lc,Y no nn nc,.slice so (2^(AA l).length) sc],.int U (c:Int),G #[.slice lo2 ps.length lc2,Y no2 nn2 nc2,.slice so2 (2^(AA l).length) sc2],.int U (d:Int)] w' fun e w''=>e=H (ZZ #[E (BC l (AJ m ps code) (c:Int) (AJ m ps c') (d:Int)),.int U 0])/\M (Sk bs bl w' w''/\SvOk Pz w0 w'' B bs bl (n'+1) va vr pv fv m ps l ho hc)):=fun w' n' d c' lo no so lo2 no2 so2 lc nn nc sc lc2 nn2 nc2 sc2 hn' hd hc' hS' hA hB'=>by
  obtain⟨_,_,_,_,_,_,e1,hx,_,_,_⟩:=hA;obtain⟨_,_,_,_,_,_,e2,hy,_,hz,_⟩:=hB';simp only[Value.agg.injEq,Array.mk.injEq,bJ.injEq,Value.slice.injEq,and_true,true_and]at e1 e2;obtain⟨⟨rfl,rfl⟩,⟨rfl,rfl,rfl⟩,rfl,rfl⟩:=e1;obtain⟨⟨rfl,rfl⟩,⟨rfl,rfl,rfl⟩,rfl,rfl⟩:=e2;exact(Qt w0 w' B bs bl n' va vr pv fv m ps l ho hc (AJ m ps code) (AJ m ps c') c d _ _ _ _ _ _ _ _ _ _ _ _ _ _ hB hT hV hk hS' hn' hx hy hz (FN hk hcr).2 (FN hk hc').2 hcN hd).mono fun e w'' ⟨h1,h2,h3⟩=>⟨h1,h2,h3.out⟩
 have HCl:M (∀(w':O) (n':Nat),SvOk Pz w0 w' B bs bl n' va vr pv fv m ps l ho hc->ZY qA 32 #[F (W ⟨B,0,V⟩)] w' fun e w''=>e=H (.int U ((2^(AA l).length:Nat):Int))/\w''=w'):=fun w' n' h=>Il B _ _ _ _ ho _ hc bs bl w' h6 h.box;have HNx:M (∀i,i<(AM m code).length->0<=(AM m code).getD i 0/\(AM m code).getD i 0<AL m.vars m.vars.length):=fun i hi=>JN hm0 hcr (by rw[qC,qH hi];exact qR hi);have HBt:M (∀i,C4 m ps l code (c:Int) (i+1)=C4 m ps l code (c:Int) i++CW l (AJ m ps code) (c:Int) (AJ m ps ((AM m code).getD i 0)) ((AM m code).getD i 0) (2^(AA l).length)):=fun _=>rfl;have HB0:M (C4 m ps l code (c:Int) 0=[]):=rfl;have HBl:M (∀i,(C4 m ps l code (c:Int) i).length<=i*64):=Ib hN64 code (c:Int);have HInt:M (∀(w':O) (lo no so:Option Addr) (lc nc sc:Nat),Am Pz w' m ps l code (G #[.slice lo ps.length lc,.slice no (AM m code).length nc,.slice so (2^(AA l).length) sc])->∀i,i<(AM m code).length->∃b off,no=W ⟨b,off,V⟩/\w'.cell? ⟨b,off+i,V⟩=W (.int U ((AM m code).getD i 0))):=fun w' lo no so lc nc sc hA i hi=>by
  obtain⟨_,_,_,_,_,_,e1,_,hx,_,_⟩:=hA;simp only[Value.agg.injEq,Array.mk.injEq,bJ.injEq,Value.slice.injEq,and_true,true_and]at e1;obtain⟨⟨rfl,rfl⟩,⟨rfl,rfl⟩,rfl,rfl⟩:=e1;obtain⟨ao,cap,e2,h1⟩:=hx;injection e2 with e2 _ _;subst e2;obtain⟨b,off,rfl,_,hat⟩:=h1 (by intro e;rw[e]at hi;simp at hi);exact⟨b,off,rfl,hat i hi⟩
 have hw0:w0.heap.size<=w.heap.size:=hS.bel.size;have hBlt:B<w.heap.size:=hS.box.lt;unfold KS Aa;have HW:M (Av m code=0):=hw;generalize(AM m code).length=nn at *;generalize C4 m ps l code (c:Int)=bt at *;generalize m.vars.length=vn at *;generalize hpn:ps.length=pn at *;generalize 2^(AA l).length=N at *
 clear hst hS hS1 hT hV hk hp0 hl0 hm0 h6 hw hpn hs1 hcN;subst hW1;go_enter Tryz.func34,Tryz.ntmps34;go_wp2_with (first|(go_at_call 61;refine hst2.mono ?_;rintro e w2 ⟨lo,lc,no,nc,so,sc,rfl,HR,HC⟩))
 obtain⟨hsk2,hsv2,hso2⟩:=HR.out;obtain⟨hc0,hc1⟩:=HC.out;have hb2:I w2.heap.size w2 (w2.alloc (Q #[Y lo pn lc,Y no nn nc,Y so N sc] 148)):=ai;have hbx:=Bx3.new w2 (Y lo pn lc) (Y no nn nc) (Y so N sc);have hzb:(w2.alloc (Q #[Y lo pn lc,Y no nn nc,Y so N sc] 148)).heap.size=w2.heap.size+1:=by simp
 have hskb:=hsk2.trans (Sk.of (bs:=bs) (bl:=bl) hb2);have hsvb:=hsv2.below hb2;have hsob:=hso2.below hb2;have hsz2:=hsk2.size;have hcb1:(w2.alloc (Q #[Y lo pn lc,Y no nn nc,Y so N sc] 148)).cell? ⟨w.heap.size,1,V⟩=W (.int U (c:Int)):=(hb2.cell (p:=⟨w.heap.size,1,V⟩) (bW _ _ hc1)).trans hc1;generalize w2.alloc (Q #[Y lo pn lc,Y no nn nc,Y so N sc] 148)=Wb at *;have htw:=hsvb.two;have HTw:M (Cf Wb bs bl):=htw;have HSob:M (∀w',Sk bs bl Wb w'->Am Pz w' m ps l code (G #[Y lo pn lc,Y no nn nc,Y so N sc])):=fun w' h=>hsob.sk h htw
 have HBxb:M (∀w',Sk bs bl Wb w'->(w'.cell? ⟨w2.heap.size,0,V⟩=W (Y lo pn lc)/\w'.cell? ⟨w2.heap.size,1,V⟩=W (Y no nn nc)/\w'.cell? ⟨w2.heap.size,2,V⟩=W (Y so N sc))/\w'.cell? ⟨w.heap.size,1,V⟩=W (.int U (c:Int))):=fun w' h=>⟨(hbx.sk h htw).1,h.cell htw hcb1⟩;have HSvb:M (SvOk Pz w0 Wb B bs bl (n+1) va vr pv fv m ps l ho hc):=hsvb;have HSkb:M (Sk bs bl w Wb):=hskb;clear hst2 HR HC hsk2 hsv2 hso2 hc0 hc1 hb2 hbx hskb hsvb hsob hcb1 htw;go_loopw [8,29] (fun u i wr=>∃k:Nat,k<=nn/\i=.int U k/\(∃po pk pc,u=Y po pk pc/\pk<=k*64/\M ((bt k).length=pk/\SpO wr Wb.heap.size (Y po pk pc) (bt k)))/\M (Sk bs bl Wb wr/\SvOk Pz w0 wr B bs bl (n+1+k*65) va vr pv fv m ps l ho hc)) (fun _ i _=>nn-(intOf i).toNat)
 case atStart=>exact⟨0,qJ _,rfl,⟨V,0,0,rfl,qJ _,by rw[HB0.out];rfl,by rw[HB0.out];exact SpO.nil _ _⟩,Sk.refl _ _ _,HSvb.out⟩
 case round=>
  obtain⟨k,hkn,rfl,⟨po,pk,pc,rfl,hpk,HSp⟩,HSS⟩:=hrel;by_cases hlt:k<nn
  .obtain ⟨hskr,hsvr⟩:=HSS.out;obtain⟨nb,noff,rfl,hcell⟩:=HInt.out wr lo no so lc nc sc (HSob.out wr hskr) k hlt;have hin:=HNx.out k hlt;have hst:=HSt.out wr (n+1+k*65) _ (by omega) hin hsvr;have hki:(k:Int)<(nn:Int):=by omega
   have HBk:=(show M _ from HBt.out k);have HSpk:M (∀w',Sk bs bl wr w'->SpO w' Wb.heap.size (Y po pk pc) (bt k)):=fun w' h=>HSp.out.2.sk h hsvr.two;have HSl:M ((bt k).length=pk):=HSp.out.1;have HFk:M (∀(w':O) (n' d:Nat) (lo2 no2 so2:Option Addr) (lc2 nn2 nc2 sc2:Nat),n'<1000000000000->d<N->SvOk Pz w0 w' B bs bl n' va vr pv fv m ps l ho hc->Sk bs bl Wb w'->Am Pz w' m ps l ((AM m code).getD k 0) (G #[Y lo2 pn lc2,Y no2 nn2 nc2,Y so2 N sc2])->ZY qA 62 #[F (W ⟨B,0,V⟩),G #[Y lo pn lc,Y (W ⟨nb,noff,V⟩) nn nc,Y so N sc],.int U (c:Int),G #[Y lo2 pn lc2,Y no2 nn2 nc2,Y so2 N sc2],.int U (d:Int)] w' fun e w''=>e=H (ZZ #[E (BC l (AJ m ps code) (c:Int) (AJ m ps ((AM m code).getD k 0)) (d:Int)),.int U 0])/\M (Sk bs bl w' w''/\SvOk Pz w0 w'' B bs bl (n'+1) va vr pv fv m ps l ho hc)):=fun w' n' d lo2 no2 so2 lc2 nn2 nc2 sc2 h1 h2 h3 h4 h5=>HFo.out w' n' d _ lo _ so lo2 no2 so2 lc nn nc sc lc2 nn2 nc2 sc2 h1 h2 hin h3 (HSob.out w' h4) h5;have HF0:M (CW l (AJ m ps code) (c:Int) (AJ m ps ((AM m code).getD k 0)) ((AM m code).getD k 0) 0=[]):=rfl;have HFS:M (∀d:Nat,CW l (AJ m ps code) (c:Int) (AJ m ps ((AM m code).getD k 0)) ((AM m code).getD k 0) (d+1)=if BC l (AJ m ps code) (c:Int) (AJ m ps ((AM m code).getD k 0)) (d:Int)=true then CW l (AJ m ps code) (c:Int) (AJ m ps ((AM m code).getD k 0)) ((AM m code).getD k 0) d++[((AM m code).getD k 0,(d:Int))]else CW l (AJ m ps code) (c:Int) (AJ m ps ((AM m code).getD k 0)) ((AM m code).getD k 0) d):=fun _=>rfl;have HFl:M (∀d,(CW l (AJ m ps code) (c:Int) (AJ m ps ((AM m code).getD k 0)) ((AM m code).getD k 0) d).length<=d):=Iv _ _ _ _ _;have HStk:M (∀(w' w'':O) (v:L),Am Pz w' m ps l ((AM m code).getD k 0) v->Cf w' bs bl->Sk bs bl w' w''->Am Pz w'' m ps l ((AM m code).getD k 0) v):=fun w' w'' v h1 h2 h3=>h1.sk h3 h2;have HStg:M (∀(w' w'':O) (v:L) (own:Option Nat),Am Pz w' m ps l ((AM m code).getD k 0) v->w'.grownBy w'' own->(∀g,own=W g->∃cs fr,w'.heap[g]? = W (Q cs 82 fr))->Am Pz w'' m ps l ((AM m code).getD k 0) v):=fun w' w'' v own h1 h2 h3=>h1.grown h2 h3;have HStb:M (∀(w':O) (v:L) (o:Obj),Am Pz w' m ps l ((AM m code).getD k 0) v->Am Pz (w'.alloc o) m ps l ((AM m code).getD k 0) v):=fun w' v o h1=>h1.below ((qD _ _).alloc (qB _) o);generalize CW l (AJ m ps code) (c:Int) (AJ m ps ((AM m code).getD k 0)) ((AM m code).getD k 0)=ft at *;generalize hfr:(fun d:Nat=>BC l (AJ m ps code) (c:Int) (AJ m ps ((AM m code).getD k 0)) (d:Int))=fr at *
   have HFr:M (∀d:Nat,BC l (AJ m ps code) (c:Int) (AJ m ps ((AM m code).getD k 0)) (d:Int)=fr d):=fun d=>by rw[<-hfr]
   generalize hstk:(fun(w':O) (v:L)=>Am Pz w' m ps l ((AM m code).getD k 0) v)=SK at *
   have HSK:M (∀(w':O) (v:L),Am Pz w' m ps l ((AM m code).getD k 0) v↔SK w' v):=fun w' v=>by rw[<-hstk]
   clear hfr hstk;have hst':ZY qA 61 #[F (W ⟨B,0,V⟩),.int U ((AM m code).getD k 0)] wr fun e w''=>∃lo lc no nn2 nc so sc,e=H (ZZ #[G #[Y lo pn lc,Y no nn2 nc,Y so N sc],.int U 0])/\M (Sk bs bl wr w''/\SvOk Pz w0 w'' B bs bl (n+1+k*65+1) va vr pv fv m ps l ho hc/\SK w'' (G #[Y lo pn lc,Y no nn2 nc,Y so N sc])):=hst.mono fun e w'' ⟨a1,a2,a3,a4,a5,a6,a7,h1,h2⟩=>⟨a1,a2,a3,a4,a5,a6,a7,h1,h2.out.1,h2.out.2.1,(HSK.out _ _).1 h2.out.2.2⟩;clear hst HInt HSt HNx HBt HB0;generalize(AM m code).getD k 0=cd at *;clear hsvr HSp
   go_wp2_with (first|(go_at_call 61;refine hst'.mono ?_;rintro e w3 ⟨lo2,lc2,no2,nn2,nc2,so2,sc2,rfl,HR3⟩;have hcl:=HCl.out _ _ (HR3.out.2.1.below ((qD w3.heap.size w3).alloc (qB _) (Q #[Y lo2 pn lc2,Y no2 nn2 nc2,Y so2 N sc2] 148))))|(go_at_call 32;refine hcl.mono ?_;rintro e w4 ⟨rfl,hw4⟩))
   have hbA:I w3.heap.size w3 (w3.alloc (Q #[Y lo2 pn lc2,Y no2 nn2 nc2,Y so2 N sc2] 148)):=ai;have HIn:M (SpO (w3.alloc (Q #[Y lo2 pn lc2,Y no2 nn2 nc2,Y so2 N sc2] 148)) Wb.heap.size (Y po pk pc) (bt k)/\Sk bs bl Wb (w3.alloc (Q #[Y lo2 pn lc2,Y no2 nn2 nc2,Y so2 N sc2] 148))/\SvOk Pz w0 (w3.alloc (Q #[Y lo2 pn lc2,Y no2 nn2 nc2,Y so2 N sc2] 148)) B bs bl (n+1+k*65+1) va vr pv fv m ps l ho hc/\SK (w3.alloc (Q #[Y lo2 pn lc2,Y no2 nn2 nc2,Y so2 N sc2] 148)) (G #[Y lo2 pn lc2,Y no2 nn2 nc2,Y so2 N sc2])/\Bx3 (w3.alloc (Q #[Y lo2 pn lc2,Y no2 nn2 nc2,Y so2 N sc2] 148)) w3.heap.size (Y lo2 pn lc2) (Y no2 nn2 nc2) (Y so2 N sc2)):=
    ⟨(HSpk.out w3 HR3.out.1).later hbA (qB _),(hskr.trans HR3.out.1).trans (Sk.of hbA),HR3.out.2.1.below hbA,(HSK.out _ _).1 (HStb.out _ _ _ ((HSK.out _ _).2 HR3.out.2.2)),Bx3.new _ _ _ _⟩
   clear HR3 HSpk hst' hcl hbA HStb;generalize w3.alloc (Q #[Y lo2 pn lc2,Y no2 nn2 nc2,Y so2 N sc2] 148)=Wc at *;have HSKk:M (∀(w' w'':O) (v:L),SK w' v->Cf w' bs bl->Sk bs bl w' w''->SK w'' v):=fun w' w'' v h1 h2 h3=>(HSK.out _ _).1 (HStk.out w' w'' v ((HSK.out _ _).2 h1) h2 h3)
   have HSKg:M (∀(w' w'':O) (v:L) (own:Option Nat),SK w' v->w'.grownBy w'' own->(∀g,own=W g->∃cs fr,w'.heap[g]? = W (Q cs 82 fr))->SK w'' v):=fun w' w'' v own h1 h2 h3=>(HSK.out _ _).1 (HStg.out w' w'' v own ((HSK.out _ _).2 h1) h2 h3);have HSKa:M (∀(w':O) (v:L) (o:Obj),SK w' v->SK (w'.alloc o) v):=fun w' v o h1=>HSKg.out w' (w'.alloc o) v V h1 (World.grownBy_alloc w' o V) (fun g e=>by simp at e);have HFk2:M (∀(w':O) (n' d:Nat),n'<1000000000000->d<N->SvOk Pz w0 w' B bs bl n' va vr pv fv m ps l ho hc->Sk bs bl Wb w'->SK w' (G #[Y lo2 pn lc2,Y no2 nn2 nc2,Y so2 N sc2])->ZY qA 62 #[F (W ⟨B,0,V⟩),G #[Y lo pn lc,Y (W ⟨nb,noff,V⟩) nn nc,Y so N sc],.int U (c:Int),G #[Y lo2 pn lc2,Y no2 nn2 nc2,Y so2 N sc2],.int U (d:Int)] w' fun e w''=>e=H (ZZ #[E (fr d),.int U 0])/\M (Sk bs bl w' w''/\SvOk Pz w0 w'' B bs bl (n'+1) va vr pv fv m ps l ho hc)):=fun w' n' d h1 h2 h3 h4 h5=>by
    have:=HFk.out w' n' d lo2 no2 so2 lc2 nn2 nc2 sc2 h1 h2 h3 h4 ((HSK.out _ _).2 h5);rw[HFr.out]at this;exact this
   have HFS2:M (∀d:Nat,ft (d+1)=if fr d=true then ft d++[(cd,(d:Int))]else ft d):=fun d=>by
    have:=HFS.out d;rw[HFr.out]at this;exact this
   clear HFk HFS HFr HSK HStk HStg HFo;go_loopw [8,44] (fun u i wr2=>∃d:Nat,d<=N/\i=.int U d/\(∃po pk2 pc,u=Y po pk2 pc/\pk2<=pk+d/\M ((bt k++ft d).length=pk2/\SpO wr2 Wb.heap.size (Y po pk2 pc) (bt k++ft d)))/\M (Sk bs bl Wb wr2/\SvOk Pz w0 wr2 B bs bl (n+1+k*65+1+d) va vr pv fv m ps l ho hc/\SK wr2 (G #[Y lo2 pn lc2,Y no2 nn2 nc2,Y so2 N sc2])/\Bx3 wr2 w3.heap.size (Y lo2 pn lc2) (Y no2 nn2 nc2) (Y so2 N sc2))) (fun _ i _=>N-(intOf i).toNat)
   case atStart=>exact⟨0,qJ _,rfl,⟨po,pk,pc,rfl,qB _,by rw[HF0.out,vT];exact HSl.out,by rw[HF0.out,vT];exact HIn.out.1⟩,HIn.out.2⟩
   case round=>
    obtain⟨d,hdN,rfl,⟨po2,pk2,pc2,rfl,hpk2,HSp2⟩,HS2⟩:=hrel;by_cases hd:d<N
    .obtain ⟨hsk2,hsv2,hSK2,hbx2⟩:=HS2.out;have hfo:=HFk2.out _ (n+1+k*65+1+d) d (by omega) hd hsv2 hsk2 hSK2;obtain⟨⟨x0,x1,x2⟩,x3⟩:=HBxb.out _ hsk2;obtain⟨⟨z0,z1,z2⟩,_⟩:=id hbx2;have htw2:=hsv2.two;have HE:=(show M _ from HFS2.out d);have HNx2:M (∀w',Sk bs bl wr w'->SpO w' Wb.heap.size (Y po2 pk2 pc2) (bt k++ft d)/\Sk bs bl Wb w'/\SK w' (G #[Y lo2 pn lc2,Y no2 nn2 nc2,Y so2 N sc2])/\Bx3 w' w3.heap.size (Y lo2 pn lc2) (Y no2 nn2 nc2) (Y so2 N sc2)):=fun w' h=>⟨HSp2.out.2.sk h htw2,hsk2.trans h,HSKk.out _ _ _ hSK2 htw2 h,hbx2.sk h htw2⟩;have HSl2:M ((bt k++ft d).length=pk2):=HSp2.out.1;clear hskr;cases hfd:fr d with
     |false=>
      rw[hfd]at hfo HE;have HE2:M (ft (d+1)=ft d):=by have:=HE.out;rw[ak (by simp)]at this;exact this
      clear HE hsv2 hSK2 hbx2 HSp2 HS2 hfd;go_wp2_with (first|(go_at_call 62;refine hfo.mono ?_;rintro e w5 ⟨rfl,HR5⟩))
      obtain⟨q1,q2,q3,q4⟩:=HNx2.out _ HR5.out.1;have HQ:=(show M (SpO w5 Wb.heap.size (Y po2 pk2 pc2) (bt k++ft d)/\Sk bs bl Wb w5/\SvOk Pz w0 w5 B bs bl (n+1+k*65+1+d+1) va vr pv fv m ps l ho hc/\SK w5 (G #[Y lo2 pn lc2,Y no2 nn2 nc2,Y so2 N sc2])/\Bx3 w5 w3.heap.size (Y lo2 pn lc2) (Y no2 nn2 nc2) (Y so2 N sc2))from⟨q1,q2,HR5.out.2,q3,q4⟩);clear q1 q2 q3 q4 HR5;go_roundw
      case rel=>exact⟨d+1,by omega,by go_num,⟨po2,pk2,pc2,rfl,by omega,by rw[HE2.out];exact HSl2.out,by rw[HE2.out];exact HQ.out.1⟩,HQ.out.2⟩
      case measure=>simp[intOf];omega
     |true=>
      rw[hfd]at hfo HE;have HE2:M (ft (d+1)=ft d++[(cd,(d:Int))]):=by have:=HE.out;rw[aj rfl]at this;exact this
      clear HE hsv2 hSK2 hbx2 HSp2 HS2 hfd;go_wp2_with (first|(go_at_call 62;refine hfo.mono ?_;rintro e w5 ⟨rfl,HR5⟩;obtain⟨q1,q2,q3,q4⟩:=HNx2.out _ HR5.out.1;have HQ:=(show M (SpO w5 Wb.heap.size (Y po2 pk2 pc2) (bt k++ft d)/\Sk bs bl Wb w5/\SvOk Pz w0 w5 B bs bl (n+1+k*65+1+d+1) va vr pv fv m ps l ho hc/\SK w5 (G #[Y lo2 pn lc2,Y no2 nn2 nc2,Y so2 N sc2])/\Bx3 w5 w3.heap.size (Y lo2 pn lc2) (Y no2 nn2 nc2) (Y so2 N sc2))from⟨q1,q2,HR5.out.2,q3,q4⟩);clear q1 q2 q3 q4 HR5;have hsp5:=HQ.out.1;have hsz5:=HQ.out.2.1.size)|(at_builtin;refine M5 cd (d:Int) rfl _ _ rfl Wb.heap.size pk2 pc2 po2 (bt k++ft d) HSl2.out rfl hsp5 rfl (by omega) hsz5 ?_;intro vo6 cap6 w6 ho6 hb6 hg6))
      have hown:=hsp5.own (Q #[C U cd,.int U (d:Int)] 82);have HQ6:M (SpO w6 Wb.heap.size (.slice vo6 (pk2+1) cap6) (bt k++ft d++[(cd,(d:Int))])/\Sk bs bl Wb w6/\SvOk Pz w0 w6 B bs bl (n+1+k*65+1+d+1) va vr pv fv m ps l ho hc/\SK w6 (G #[Y lo2 pn lc2,Y no2 nn2 nc2,Y so2 N sc2])/\Bx3 w6 w3.heap.size (Y lo2 pn lc2) (Y no2 nn2 nc2) (Y so2 N sc2)):=by
       have ha:I w5.heap.size w5 (w5.alloc (Q #[C U cd,.int U (d:Int)] 82)):=ai;refine⟨ho6,HQ.out.2.1.after hb6,(HQ.out.2.2.1.below ha).spots hg6 (fun g e=>?_),HSKg.out _ _ _ _ (HSKa.out _ _ _ HQ.out.2.2.2.1) hg6 (fun g e=>(hown g e).2),(HQ.out.2.2.2.2.below ha).grown hg6 (fun g e=>(hown g e).2)⟩;obtain⟨h1,h2⟩:=hown g e;have:=HSkb.out.size;exact⟨by omega,by omega,h2⟩
      clear hown ho6 hb6 hg6 hsp5 HQ;go_wp2_with fail
      go_roundw
      case rel=>exact⟨d+1,by omega,by go_num,⟨vo6,pk2+1,cap6,rfl,by omega,by rw[HE2.out,<-q9,qF,HSl2.out];rfl,by rw[HE2.out,<-q9];exact HQ6.out.1⟩,HQ6.out.2⟩
      case measure=>simp[intOf];omega
    .obtain rfl:d=N:=by omega
     have HSl2:M ((bt (k+1)).length=pk2/\SpO wr Wb.heap.size (Y po2 pk2 pc2) (bt (k+1))):=by rw[HBk.out];exact HSp2.out
     have HS3:M (Sk bs bl Wb wr/\SvOk Pz w0 wr B bs bl (n+1+(k+1)*65) va vr pv fv m ps l ho hc):=⟨HS2.out.1,HS2.out.2.1.mono (by omega)⟩;clear HSp2 HS2;go_wp2_with fail
     go_roundw
     case rel=>exact⟨k+1,by omega,by go_num,⟨po2,pk2,pc2,rfl,by omega,HSl2.out.1,HSl2.out.2⟩,HS3⟩
     case measure=>simp[intOf];omega
  .obtain rfl:k=nn:=by omega
   have HSl:M ((bt k).length=pk):=HSp.out.1;have HSpp:M (SpO wr Wb.heap.size (Y po pk pc) (bt k)):=HSp.out.2;have hwb:w.heap.size<=Wb.heap.size:=HSkb.out.size;clear HSp;go_wp2_with fail
   go_ret2;exact⟨HSkb.out.trans HSS.out.1,HSS.out.2.mono (by omega),.inl ⟨HW.out,po,pc,by rw[HSl.out];rfl,by rw[HSl.out];exact Az HSpp.out hwb⟩⟩
section
variable{w w1 w2:O}{base A lm:Nat}{S:am}{N:List (List Int)}{T:List Int}{init many:Int}{sv nv tv nv' tv':L}
theorem AtX.appN{us:List L}{r:List Int}{ao:Option Addr}{c:Nat}(h:AtX w1 base A lm S N T init many sv nv tv)(hus:w1.ownsRow base 43 1 nv N.length us/\us.length=N.length/\∀i,i<N.length->∃ao c,us.getD i (Y V 0 0)=.slice ao (N.getD i []).length c/\IntsV w1 (.slice ao (N.getD i []).length c) (N.getD i [])/\Af w1 (.slice ao (N.getD i []).length c) 3/\∀a,ao=W a->tv.ownBlock≠W a.block/\base<=a.block)
    (hr:IntsV w1 (.slice ao r.length c) r) (hty:Af w1 (.slice ao r.length c) 3) (hap:∀a,ao=W a->tv.ownBlock≠W a.block/\base<=a.block) (hg:w1.grownBy w2 nv.ownBlock) (ho:w2.ownsRow base 43 1 nv' (N.length+1) (us++[.slice ao r.length c])):AtX (w2.setCell ⟨A,2,V⟩ nv') base A lm S (N++[r]) T init many sv nv' tv:=by
  obtain⟨n1,n2,n3⟩:=hus;obtain⟨es,cl,em⟩:=h.lies.isMap;have hc:Chg (fun i=>i=A\/nv.ownBlock=W i) w1 (w2.setCell ⟨A,2,V⟩ nv'):=((Chg.grown hg).weaken (fun i _ e=>.inr e)).trans2 (Chg.setCell w2 _ _) (fun i _ e=>.inl e);have hno:∀i t,(i=A\/nv.ownBlock=W i)->TyB w1 i t->t=78\/t=43:=fun i t z ht=>by
    rcases z with rfl|e
    . exact .inl (ht.eq h.ty)
    . exact .inr (ht.eq (A0 n1 e).2)
  have hni:∀i,(i=A\/nv.ownBlock=W i)->¬TyB w1 i 3:=fun i z ht=>by
    rcases hno i _ z ht with e|e
    . exact absurd e (by decide)
    . exact absurd e (by decide)
  have hns:∀i,(i=A\/nv.ownBlock=W i)->¬TyB w1 i 82:=fun i z ht=>by
    rcases hno i _ z ht with e|e
    . exact absurd e (by decide)
    . exact absurd e (by decide)
  have hnm:∀i,(i=A\/nv.ownBlock=W i)->i≠lm:=fun i z e=>by
    subst e;rcases z with rfl|e
    . exact h.ty.no_map em
    . exact(A0 n1 e).2.no_map em
  have hbx:w2.heap[A]? = W (atB sv nv tv init many lm):=(hg.block A h.lt fun e=>by have:=h.ty.eq (A0 n1 e.symm).2;exact absurd this (by decide)).trans h.box;have hA2:TyB w2 A 78:=⟨_,_,hbx⟩;refine⟨Ov w2 hbx nv',h.bA,h.bl,h.lies.kept (hc.block lm h.lies.lt (fun z=>hnm _ z rfl)),BX h.sp hc (fun g e z=>hns g z (A0 h.sp e).2),⟨us++[.slice ao r.length c],?_,by simp[n2],fun i hi=>?_⟩,BX h.st hc (fun g e z=>hni g z (A0 h.st e).2)⟩
  . rw[qF,vY]
    exact BX ho (Chg.setCell w2 _ _) (fun g e z=>by
      have h1:=(A0 ho e).2;have z':g=A:=z;subst z';exact absurd (h1.eq hA2) (by decide))
  . have hget:∀(α:Type) (x y:List α) (d:α) (j:Nat),(x++y).getD j d=if j<x.length then x.getD j d else y.getD (j-x.length) d:=fun α x y d j=>by
      by_cases hj:j<x.length
      . rw[aj hj];simp[qC,qX hj]
      . rw[ak hj];simp[qC,List.getElem?_append_right (Nat.le_of_not_lt hj)]
    by_cases hlt:i<N.length
    . obtain⟨ao',c',e1,e2,e3,e4⟩:=n3 i hlt
      have hz:∀a,ao'=W a->¬(a.block=A\/nv.ownBlock=W a.block):=fun a e z=>hni _ z (by subst e;exact e3.ty);rw[hget,hget,n2,aj hlt,aj hlt];exact⟨ao',c',e1,e2.chg hc hz,e3.chg hc hz,e4⟩
    . have hi2:i=N.length:=by simp at hi;omega
      have hz:∀a,ao=W a->¬(a.block=A\/nv.ownBlock=W a.block):=fun a e z=>hni _ z (by subst e;exact hty.ty);rw[hget,hget,n2,ak hlt,ak hlt,hi2,Nat.sub_self];exact⟨ao,c,rfl,hr.chg hc hz,hty.chg hc hz,hap⟩
theorem AtX.appT{x:Int}(h:AtX w1 base A lm S N T init many sv nv tv)(hg:w1.grownBy w2 tv.ownBlock)(ho:w2.ownsRow base 3 1 tv' (T.length+1) (AB T++[.int U x]))(hown:tv'.ownBlock=tv.ownBlock\/∃g,tv'.ownBlock=W g/\w1.heap.size<=g):AtX (w2.setCell ⟨A,3,V⟩ tv') base A lm S N (T++[x]) init many sv nv tv':=by
 obtain⟨us,n1,n2,n3⟩:=id h.nx;obtain⟨es,cl,em⟩:=h.lies.isMap;have hc:Chg (fun i=>i=A\/tv.ownBlock=W i) w1 (w2.setCell ⟨A,3,V⟩ tv'):=((Chg.grown hg).weaken (fun i _ e=>.inr e)).trans2 (Chg.setCell w2 _ _) (fun i _ e=>.inl e);have hno:∀i t,(i=A\/tv.ownBlock=W i)->TyB w1 i t->t=78\/t=3:=fun i t z ht=>by
  rcases z with rfl|e
  .exact .inl (ht.eq h.ty)
  .exact .inr (ht.eq (A0 h.st e).2)
 have hnl:∀i,(i=A\/tv.ownBlock=W i)->¬TyB w1 i 43:=fun i z ht=>by
  rcases hno i _ z ht with e|e
  .exact absurd e (by decide)
  .exact absurd e (by decide)
 have hns:∀i,(i=A\/tv.ownBlock=W i)->¬TyB w1 i 82:=fun i z ht=>by
  rcases hno i _ z ht with e|e
  .exact absurd e (by decide)
  .exact absurd e (by decide)
 have hnm:∀i,(i=A\/tv.ownBlock=W i)->i≠lm:=fun i z e=>by
  subst e;rcases z with rfl|e
  .exact h.ty.no_map em
  .exact (A0 h.st e).2.no_map em
 have hbx:w2.heap[A]? = W (atB sv nv tv init many lm):=(hg.block A h.lt fun e=>by have:=h.ty.eq (A0 h.st e.symm).2;exact absurd this (by decide)).trans h.box;have hA2:TyB w2 A 78:=⟨_,_,hbx⟩;refine⟨Ow w2 hbx tv',h.bA,h.bl,h.lies.kept (hc.block lm h.lies.lt (fun z=>hnm _ z rfl)),BX h.sp hc (fun g e z=>hns g z (A0 h.sp e).2),⟨us,BX n1 hc (fun g e z=>hnl g z (A0 n1 e).2),n2,fun i hi=>?_⟩,?_⟩
 .obtain ⟨ao',c',e1,e2,e3,e4⟩:=n3 i hi;have hz:∀a,ao'=W a->¬(a.block=A\/tv.ownBlock=W a.block):=fun a e z=>by
   rcases z with z|z
   .subst e;have:=e3.ty;rw[z]at this;exact absurd (this.eq h.ty) (by decide)
   .exact (e4 a e).1 z
  refine⟨ao',c',e1,e2.chg hc hz,e3.chg hc hz,fun a e=>⟨fun e5=>?_,(e4 a e).2⟩⟩;rcases hown with h1|⟨g,h1,h2⟩
  .rw[h1]at e5;exact(e4 a e).1 e5
  .rw[h1]at e5;injection e5 with e5;subst e;have:=e3.ty.lt;omega
 .have e:AB (T++[x])=AB T++[.int U x]:=by simp[AB]
  rw[e,qF,vY];exact BX ho (Chg.setCell w2 _ _) (fun g e z=>by
   have h1:=(A0 ho e).2;have z':g=A:=z;subst z';exact absurd (h1.eq hA2) (by decide))
end
section
variable{Pz Pz':Nat -> Prop}{w0 w w':O}{B bs bl n:Nat}{va vr pv fv:L}{m:Mo}{ps:List am}{l:am}{ho:Option Addr}{hc:Nat}
theorem SvOk.chg2{Z:Nat->Prop}(h:SvOk Pz w0 w B bs bl n va vr pv fv m ps l ho hc)(hs:Chg Z w w')(hz:∀i,Z i->w0.heap.size<=i/\i≠B/\i≠bs/\i≠bl/\¬TyB w i 4/\(TyB w i 3->¬Pz i))(hp:∀b,b<w.heap.size->Pz b->Pz' b)(hup:∀b,w'.heap.size<=b->Pz' b):SvOk Pz' w0 w' B bs bl n va vr pv fv m ps l ho hc:=by
 have k:=h.chg hs hz;obtain⟨f,h1,h2⟩:=h.st;have zs:¬Z bs:=fun z=>(hz _ z).2.2.1 rfl;refine⟨k.box,k.bel,k.lo1,k.lo2,k.ne,k.ah,k.aty,hup,fun a e=>hp _ (by have:=h.aty;rw[e]at this;exact this.ty.lt) (h.aP a e),⟨f,h1.chg hs zs,fun kl v hv=>?_⟩,k.li⟩;obtain⟨code,e1,e2,e3⟩:=h2 kl v hv;obtain⟨lo,lc,no,nc,so,sc,g1,g2,g3,g4,g5,g6,g7,g8,g9⟩:=e3.chg hs fun i z=>(hz i z).2.2.2.2;obtain⟨lo',lc',no',nc',so',sc',g1',_,_,_,_,g6',g7',_,_⟩:=e3;rw[g1]at g1';simp only[Value.agg.injEq,Array.mk.injEq,bJ.injEq,Value.slice.injEq,and_true,true_and]at g1';obtain⟨⟨rfl,rfl⟩,⟨rfl,rfl⟩,rfl,rfl⟩:=g1';exact⟨code,e1,e2,lo,lc,no,nc,so,sc,g1,g2,g3,g4,g5,g6,g7,fun a e=>by subst e;exact hp _ g6'.ty.lt (g8 a rfl),fun a e=>by subst e;exact hp _ g7'.ty.lt (g9 a rfl)⟩
end
def JU(tv:L):Nat->Prop:=fun b=>tv.ownBlock≠W b
structure ExW(w0 w:O)(base A lm B bs bl n:Nat)(va vr pv fv:L)(m:Mo)(ps:List am)(l:am)(ho:Option Addr)(hc:Nat)(S:am)(N:List (List Int))(T:List Int)(init many:Int)(sv nv tv:L):Prop where
 su:SvOk (JU tv) w0 w B bs bl n va vr pv fv m ps l ho hc
 tl:AtX w base A lm S N T init many sv nv tv
 lo:w0.heap.size<=base/\B<base/\bs<base/\bl<base
section
variable{w0 w w' w1 w2:O}{base A lm B bs bl n n':Nat}{va vr pv fv:L}{m:Mo}{ps:List am}{l:am}{ho:Option Addr}{hc:Nat}{S S':am}{N:List (List Int)}{T:List Int}{init many:Int}{sv sv' nv tv nv' tv':L}
theorem ExW.below(h:ExW w0 w base A lm B bs bl n va vr pv fv m ps l ho hc S N T init many sv nv tv)(hb:I w.heap.size w w'):ExW w0 w' base A lm B bs bl n va vr pv fv m ps l ho hc S N T init many sv nv tv:=⟨h.su.below hb,h.tl.below hb,h.lo⟩
theorem ExW.call(h:ExW w0 w base A lm B bs bl n va vr pv fv m ps l ho hc S N T init many sv nv tv)(hs:Sk bs bl w w')(hv:SvOk (JU tv) w0 w' B bs bl n' va vr pv fv m ps l ho hc):ExW w0 w' base A lm B bs bl n' va vr pv fv m ps l ho hc S N T init many sv nv tv:=
 ⟨hv,h.tl.sk hs h.su.two (by have:=h.tl.bl;have:=h.lo;omega) (by have:=h.tl.bl;have:=h.lo;omega),h.lo⟩
theorem ExW.far(h:ExW w0 w base A lm B bs bl n va vr pv fv m ps l ho hc S N T init many sv nv tv){i:Nat}(hi:base<=i):w0.heap.size<=i/\i≠B/\i≠bs/\i≠bl:=by
 have:=h.lo;omega
theorem ExW.put(h:ExW w0 w base A lm B bs bl n va vr pv fv m ps l ho hc S N T init many sv nv tv)(hs:Chg (atZ A lm sv) w w')(hX:AtX w' base A lm S' N T init many sv' nv tv):ExW w0 w' base A lm B bs bl n va vr pv fv m ps l ho hc S' N T init many sv' nv tv:=by
 refine⟨h.su.chg hs fun i z=>?_,hX,h.lo⟩;obtain⟨es,c,em⟩:=h.tl.lies.isMap;rcases z with rfl|rfl|e
 .obtain ⟨a,b,c,d⟩:=h.far h.tl.bA;exact⟨a,b,c,d,fun ht=>absurd (ht.eq h.tl.ty) (by decide),fun ht=>absurd (ht.eq h.tl.ty) (by decide)⟩
 .obtain ⟨a,b,c,d⟩:=h.far h.tl.bl;exact⟨a,b,c,d,fun ht=>absurd em ht.no_map,fun ht=>absurd em ht.no_map⟩
 .obtain ⟨o1,o2⟩:=A0 h.tl.sp e;obtain⟨a,b,c,d⟩:=h.far o1;exact⟨a,b,c,d,fun ht=>absurd (ht.eq o2) (by decide),fun ht=>absurd (ht.eq o2) (by decide)⟩
theorem ExW.appN{us:List L}{r:List Int}{ao:Option Addr}{c:Nat}(h:ExW w0 w1 base A lm B bs bl n va vr pv fv m ps l ho hc S N T init many sv nv tv)(hus:w1.ownsRow base 43 1 nv N.length us/\us.length=N.length/\∀i,i<N.length->∃ao c,us.getD i (Y V 0 0)=.slice ao (N.getD i []).length c/\IntsV w1 (.slice ao (N.getD i []).length c) (N.getD i [])/\Af w1 (.slice ao (N.getD i []).length c) 3/\∀a,ao=W a->tv.ownBlock≠W a.block/\base<=a.block)
  (hr:IntsV w1 (.slice ao r.length c) r) (hty:Af w1 (.slice ao r.length c) 3) (hap:∀a,ao=W a->tv.ownBlock≠W a.block/\base<=a.block) (hg:w1.grownBy w2 nv.ownBlock) (ho':w2.ownsRow base 43 1 nv' (N.length+1) (us++[.slice ao r.length c])):ExW w0 (w2.setCell ⟨A,2,V⟩ nv') base A lm B bs bl n va vr pv fv m ps l ho hc S (N++[r]) T init many sv nv' tv:=by
 have hch:Chg (fun i=>i=A\/nv.ownBlock=W i) w1 (w2.setCell ⟨A,2,V⟩ nv'):=((Chg.grown hg).weaken (fun i _ e=>.inr e)).trans2 (Chg.setCell w2 _ _) (fun i _ e=>.inl e);refine⟨h.su.chg hch fun i z=>?_,h.tl.appN hus hr hty hap hg ho',h.lo⟩;rcases z with rfl|e
 .obtain ⟨a,b,c,d⟩:=h.far h.tl.bA;exact⟨a,b,c,d,fun ht=>absurd (ht.eq h.tl.ty) (by decide),fun ht=>absurd (ht.eq h.tl.ty) (by decide)⟩
 .obtain ⟨o1,o2⟩:=A0 hus.1 e;obtain⟨a,b,c,d⟩:=h.far o1;exact⟨a,b,c,d,fun ht=>absurd (ht.eq o2) (by decide),fun ht=>absurd (ht.eq o2) (by decide)⟩
theorem ExW.appT{x:Int}(h:ExW w0 w1 base A lm B bs bl n va vr pv fv m ps l ho hc S N T init many sv nv tv)(hg:w1.grownBy w2 tv.ownBlock)(ho':w2.ownsRow base 3 1 tv' (T.length+1) (AB T++[.int U x]))(hown:tv'.ownBlock=tv.ownBlock\/∃g,tv'.ownBlock=W g/\w1.heap.size<=g):ExW w0 (w2.setCell ⟨A,3,V⟩ tv') base A lm B bs bl n va vr pv fv m ps l ho hc S N (T++[x]) init many sv nv tv':=by
 have hch:Chg (fun i=>i=A\/tv.ownBlock=W i) w1 (w2.setCell ⟨A,3,V⟩ tv'):=((Chg.grown hg).weaken (fun i _ e=>.inr e)).trans2 (Chg.setCell w2 _ _) (fun i _ e=>.inl e);have hX:=h.tl.appT hg ho' hown;refine⟨h.su.chg2 hch (fun i z=>?_) (fun b hb hp=>?_) (fun b hb e=>?_),hX,h.lo⟩
 .rcases z with rfl|e
  .obtain ⟨a,b,c,d⟩:=h.far h.tl.bA;exact⟨a,b,c,d,fun ht=>absurd (ht.eq h.tl.ty) (by decide),fun ht=>absurd (ht.eq h.tl.ty) (by decide)⟩
  .obtain ⟨o1,o2⟩:=A0 h.tl.st e;obtain⟨a,b,c,d⟩:=h.far o1;exact⟨a,b,c,d,fun ht=>absurd (ht.eq o2) (by decide),fun _ hp=>hp e⟩
 .intro e;rcases hown with h1|⟨g,h1,h2⟩
  .rw[h1]at e;exact hp e
  .rw[h1]at e;injection e with e;omega
 .have:=(A0 hX.st e).2.lt;omega
end
theorem RT:(qA.info? 43).map (fun i=>(i.zero,i.size,i.bytes))=W (W (Y V 0 0),1,24):=by kernel_rfl
theorem KO{l:am}{x:List Bool}{c:Int}{y:List Bool}{st:Int}{p:Int×Int}:∀k,p∈CW l x c y st k->p.1=st/\∃d:Nat,d<k/\p.2=(d:Int)/\BC l x c y (d:Int)=true
 |0,h=>by simp[CW]at h
 |k+1,h=>by
  rw[CW]at h;split at h
  .next hf=>
   rw[qL,vM]at h;rcases h with h|rfl
   .obtain ⟨h1,d,h2,h3⟩:=KO k h;exact⟨h1,d,by omega,h3⟩
   .exact ⟨rfl,k,by omega,rfl,hf⟩
  .obtain ⟨h1,d,h2,h3⟩:=KO k h;exact⟨h1,d,by omega,h3⟩
theorem OG{m:Mo}{ps:List am}{l:am}{code c:Int}{p:Int×Int}:∀i,i<=(AM m code).length->p∈C4 m ps l code c i->p.1∈AM m code/\∃d:Nat,d<2^(AA l).length/\p.2=(d:Int)/\BC l (AJ m ps code) c (AJ m ps p.1) (d:Int)=true
 |0,_,h=>by simp[C4]at h
 |i+1,hi,h=>by
  rw[C4,qL]at h;rcases h with h|h
  .exact OG i (by omega) h
  .obtain ⟨h1,d,h2,h3,h4⟩:=KO _ h;refine⟨?_,d,h2,h3,by rw[h1];exact h4⟩;rw[h1,qC,qH (by omega)];exact qR _
theorem Kk{m:Mo}{ps:List am}{l:am}{code c:Int}(hm:mcode m=0)(hcr:0<=code/\code<AL m.vars m.vars.length){p:Int×Int}(h:p∈Aa m ps l code c):(0<=p.1/\p.1<AL m.vars m.vars.length)/\∃d:Nat,d<2^(AA l).length/\p.2=(d:Int):=by
 obtain⟨h1,d,h2,h3,_⟩:=OG _ (qB _) h;exact⟨JN hm hcr h1,d,h2,h3⟩
theorem GM{m:Mo}{ps:List am}{l:am}{code c:Int}(hm:mcode m=0)(hcr:0<=code/\code<AL m.vars m.vars.length)(h6:(AA l).length<=6):(Aa m ps l code c).length<=262144:=by
 have h1:=Ib (m:=m) (ps:=ps) (l:=l) (vK (show 0<2 by decide) h6) code c (AM m code).length;have h2:=MW hm hcr;unfold Aa;omega
theorem Nj{m:Mo}{ps:List am}{l:am}(hk:AX m ps l=0){p:Int×Int}(h:(0<=p.1/\p.1<AL m.vars m.vars.length)/\∃d:Nat,d<2^(AA l).length/\p.2=(d:Int)):Co p:=by
 obtain⟨hp0,hl0⟩:=BU hk;obtain⟨hm0,_⟩:=Ca hp0;obtain⟨_,_,_,_,h6⟩:=B6 hl0;have hpr:=((Cw hm0).prod (qB m.vars.length)).2;have hN64:2^(AA l).length<=64:=vK (show 0<2 by decide) h6;obtain⟨h1,d,h2,h3⟩:=h;unfold Co;omega
def IJ(w0:O)(base A lm B bs bl n:Nat)(va vr pv fv:L)(m:Mo)(ps:List am)(l:am)(ho:Option Addr)(hc:Nat)(S:am)(N:List (List Int))(T:List Int)(init many:Int)(code:Int)(c:Nat)(e:Ending)(w':O):Prop:=
 e=H (.int U (if 20000<(AH S (Aa m ps l code (c:Int))).length then 12 else 0))/\∃sv nv tv,M (ExW w0 w' base A lm B bs bl (n+300001) va vr pv fv m ps l ho hc (AH S (Aa m ps l code (c:Int))) (N++[Cl S (Aa m ps l code (c:Int))]) (T++[B7 l (AJ m ps code) (c:Int)]) init many sv nv tv)
theorem RA(w0 w:O)(base A lm B bs bl n:Nat)(va vr pv fv:L)(m:Mo)(ps:List am)(l:am)(ho:Option Addr)(hc:Nat)(S:am)(N:List (List Int))(T:List Int)(init many:Int)(sv nv tv:L)(code:Int)(c:Nat)(hB:0<w0.heap.size)(hT:AF w0)(hV:TaskV w0 va vr pv fv m ps l)(hk:AX m ps l=0)(hX:ExW w0 w base A lm B bs bl n va vr pv fv m ps l ho hc S N T init many sv nv tv)(hn:n+600000<1000000000000)(hcr:0<=code/\code<AL m.vars m.vars.length)(hcN:c<2^(AA l).length)(hzS:S.length<=20000)(hzN:N.length<=20000)(hzT:T.length<=20000) :
  ZY qA 19 #[F (W ⟨A,0,V⟩),F (W ⟨B,0,V⟩),G #[C U code,.int U (c:Int)]] w (IJ w0 base A lm B bs bl n va vr pv fv m ps l ho hc S N T init many code c):=by
 obtain⟨hp0,hl0⟩:=BU hk;obtain⟨hm0,_⟩:=Ca hp0;obtain⟨_,_,_,_,h6⟩:=B6 hl0;have hpr:=((Cw hm0).prod (qB m.vars.length)).2;have hI:-9223372036854775808<=code/\code<=9223372036854775807:=by omega
 have hbl:=GM (ps:=ps) (c:=(c:Int)) hm0 hcr h6;have hIs:∀j,j<(Aa m ps l code (c:Int)).length->Co ((Aa m ps l code (c:Int)).getD j (0,0)):=fun j hj=>Nj hk (Kk hm0 hcr (c:=(c:Int)) (ps:=ps) (by rw[qC,qH hj];exact qR _));have hw0:=EM hm0 hcr;obtain⟨W1,hW1⟩:∃W1,W1=w.alloc (Q #[C U code,.int U (c:Int)] 82):=⟨_,rfl⟩;have hb1:I w.heap.size w W1:=by rw[hW1];exact ai
 have hs1:W1.cell? ⟨w.heap.size,0,V⟩=W (.int U code)/\W1.cell? ⟨w.heap.size,1,V⟩=W (.int U (c:Int)):=by rw[hW1];constructor<;>simp[go_sem]
 have hX1:=hX.below hb1;have hbe:ZY qA 34 #[F (W ⟨B,0,V⟩),G #[C U code,.int U (c:Int)]] W1 fun e w2=>∃so sc,e=H (ZZ #[.slice so (Aa m ps l code (c:Int)).length sc,.int U 0])/\(w2.cell? ⟨w.heap.size,0,V⟩=W (.int U code)/\w2.cell? ⟨w.heap.size,1,V⟩=W (.int U (c:Int)))/\M (ExW w0 w2 base A lm B bs bl (n+300000) va vr pv fv m ps l ho hc S N T init many sv nv tv/\SpO w2 W1.heap.size (.slice so (Aa m ps l code (c:Int)).length sc) (Aa m ps l code (c:Int))):=
  (PC w0 W1 B bs bl n va vr pv fv m ps l ho hc code c hI hB hT hV hk hX1.su (by omega) hcr hcN).mono fun e w2 ⟨h1,h2,h3⟩=>by
   rcases h3 with⟨_,so,sc,h4,h5⟩|⟨h4,_⟩
   .exact ⟨so,sc,h4,⟨h1.cell hX1.su.two hs1.1,h1.cell hX1.su.two hs1.2⟩,hX1.call h1 h2.out,h5.out⟩
   .exact absurd hw0 h4
 have HMe:M (∀w2,ExW w0 w2 base A lm B bs bl (n+300000) va vr pv fv m ps l ho hc S N T init many sv nv tv->ZY qA 35 #[F (W ⟨B,0,V⟩),G #[C U code,.int U (c:Int)]] w2 fun e w3=>e=H (ZZ #[C U (B7 l (AJ m ps code) (c:Int)),.int U 0])/\M (ExW w0 w3 base A lm B bs bl (n+300001) va vr pv fv m ps l ho hc S N T init many sv nv tv/\∀so sc,SpO w2 W1.heap.size (.slice so (Aa m ps l code (c:Int)).length sc) (Aa m ps l code (c:Int))->SpO w3 W1.heap.size (.slice so (Aa m ps l code (c:Int)).length sc) (Aa m ps l code (c:Int)))):=fun w2 hx=>
  (Sf w0 w2 B bs bl (n+300000) va vr pv fv m ps l ho hc code c hI hB hT hV hk hx.su (by omega) hcr hcN).mono fun e w3 ⟨h1,h2,h3⟩=>⟨h1,hx.call h2 h3.out,fun so sc h=>h.sk h2 hx.su.two⟩
 have HPl:M (∀w3 so sc,ExW w0 w3 base A lm B bs bl (n+300001) va vr pv fv m ps l ho hc S N T init many sv nv tv->SpO w3 W1.heap.size (.slice so (Aa m ps l code (c:Int)).length sc) (Aa m ps l code (c:Int))->ZY qA 18 #[F (W ⟨A,0,V⟩),.slice so (Aa m ps l code (c:Int)).length sc] w3.drew fun e w4=>e=H (Y (W ⟨w3.heap.size,0,V⟩) (Aa m ps l code (c:Int)).length (Aa m ps l code (c:Int)).length)/\∃us sv',w4.cell? ⟨A,2,V⟩=W nv/\(w4.alloc (Q #[Y (W ⟨w3.heap.size,0,V⟩) (Aa m ps l code (c:Int)).length (Aa m ps l code (c:Int)).length] 43)).cell? ⟨A,2,V⟩=W nv/\(w4.alloc (Q #[Y (W ⟨w3.heap.size,0,V⟩) (Aa m ps l code (c:Int)).length (Aa m ps l code (c:Int)).length] 43)).ownsRow base 43 1 nv N.length us/\base<=(w4.alloc (Q #[Y (W ⟨w3.heap.size,0,V⟩) (Aa m ps l code (c:Int)).length (Aa m ps l code (c:Int)).length] 43)).heap.size/\M (∀g cap w9,fk w9 base 43 1 (Y (W ⟨g,0,V⟩) (N.length+1) cap) (N.length+1) (us++[Y (W ⟨w3.heap.size,0,V⟩) (Aa m ps l code (c:Int)).length (Aa m ps l code (c:Int)).length])->(w4.alloc (Q #[Y (W ⟨w3.heap.size,0,V⟩) (Aa m ps l code (c:Int)).length (Aa m ps l code (c:Int)).length] 43)).grownBy w9 nv.ownBlock->(w9.cell? ⟨A,2,V⟩=W nv/\w9.frozen? ⟨A,2,V⟩=J)/\ExW w0 (w9.setCell ⟨A,2,V⟩ (Y (W ⟨g,0,V⟩) (N.length+1) cap)) base A lm B bs bl (n+300001) va vr pv fv m ps l ho hc (AH S (Aa m ps l code (c:Int))) (N++[Cl S (Aa m ps l code (c:Int))]) T init many sv' (Y (W ⟨g,0,V⟩) (N.length+1) cap) tv)):=fun w3 so sc hx hsp=>by
  have hbd:I w3.heap.size w3 w3.drew:=(qD _ _).drew;have hx3:=hx.below hbd;have hsp3:=hsp.later hbd (qB _);have hsep:∀a,so=W a->¬atZ A lm sv a.block:=fun a e z=>by
   have hge:=Mn hsp a _ _ (by rw[e]);rcases z with z|z|z
   .have:=hX1.tl.lt;omega
   .have:=hX1.tl.lies.lt;omega
   .have:=(A0 hX1.tl.sp z).2.lt;omega
  refine(M0 w3.drew base A lm S N T init many sv nv tv _ so sc hx3.tl hsp3.v hsep hIs (by omega)).mono fun e w4 ⟨h1,sv',h2,h3,h4,h5,h6⟩=>?_;have hx4:=hx3.put h5 h2;have hba:I w4.heap.size w4 (w4.alloc (Q #[Y (W ⟨w3.heap.size,0,V⟩) (Aa m ps l code (c:Int)).length (Aa m ps l code (c:Int)).length] 43)):=ai;have hx5:=hx4.below hba;obtain⟨us,hus⟩:=id hx5.tl.nx;have hbs3:base<=w3.heap.size:=hx.tl.base_le;refine⟨h1,us,sv',(C2 hx4.tl.box).2.2.1,(C2 hx5.tl.box).2.2.1,hus.1,hx5.tl.base_le,fun g cap w9 g1 g2=>⟨?_,?_⟩⟩
  .have hbx:w9.heap[A]? = W (atB sv' nv tv init many lm):=(g2.block A hx5.tl.lt fun e=>by have:=hx5.tl.ty.eq (A0 hus.1 e.symm).2;exact absurd this (by decide)).trans hx5.tl.box;exact⟨(C2 hbx).2.2.1,IW hbx 2⟩
  .have e:(Aa m ps l code (c:Int)).length=(Cl S (Aa m ps l code (c:Int))).length:=(Hf _ _).symm;have hr5:=h3.below hba;have ht5:=h4.below hba;have hr6:IntsV (w4.alloc (Q #[Y (W ⟨w3.heap.size,0,V⟩) (Aa m ps l code (c:Int)).length (Aa m ps l code (c:Int)).length] 43)) (Y (W ⟨w3.heap.size,0,V⟩) (Cl S (Aa m ps l code (c:Int))).length (Aa m ps l code (c:Int)).length) (Cl S (Aa m ps l code (c:Int))):=by rw[<-e];exact hr5
   have ht6:Af (w4.alloc (Q #[Y (W ⟨w3.heap.size,0,V⟩) (Aa m ps l code (c:Int)).length (Aa m ps l code (c:Int)).length] 43)) (Y (W ⟨w3.heap.size,0,V⟩) (Cl S (Aa m ps l code (c:Int))).length (Aa m ps l code (c:Int)).length) 3:=by rw[<-e];exact ht5
   refine hx5.appN hus hr6 ht6 (fun a ea=>?_) g2 (by rw[<-e];exact g1);injection ea with ea;subst ea;refine⟨fun e2=>?_,hbs3⟩;have:=(A0 hx.tl.st e2).2.lt;simp only at this;omega
 clear hX hX1 hT hV hk hp0 hl0 hm0 hIs hw0;unfold IJ;generalize Aa m ps l code (c:Int)=beh at *;generalize B7 l (AJ m ps code) (c:Int)=mt at *;have HPn:M (∀w' sv nv tv N T n,ExW w0 w' base A lm B bs bl n va vr pv fv m ps l ho hc (AH S beh) N T init many sv nv tv->∃vo vc,sv=.slice vo (AH S beh).length vc):=fun w' sv nv tv N T n h=>h.tl.sp.shape
 have hpn:(AH S beh).length<=300000:=by have:=(Hh beh S).2;omega
 generalize AH S beh=PS at *;generalize Cl S beh=PI at *;generalize hbn:beh.length=bn at *;have HTs:M (∀w' sv nv n S N,ExW w0 w' base A lm B bs bl n va vr pv fv m ps l ho hc S N T init many sv nv tv->∃xo xc,tv=.slice xo T.length xc):=fun w' sv nv n S N h=>Au h.tl.st
 have HNs:M (∀w',ExW w0 w' base A lm B bs bl (n+300000) va vr pv fv m ps l ho hc S N T init many sv nv tv->∃xo xc,nv=.slice xo N.length xc):=fun w' h=>by
  obtain⟨us,h1,_⟩:=h.tl.nx;exact Au h1
 obtain⟨i0,hi,hz0,hz1,hz2⟩:=info_parts RT;obtain⟨j0,hj,jz0,jz1,jz2⟩:=info_parts BS;go_enter Tryz.func19,Tryz.ntmps19;go_upto_region 7 with(first|(go_at_call 34;rw[<-hW1];refine hbe.mono ?_;rintro e w2 ⟨so,sc,rfl,⟨b0,b1⟩,HX2⟩;have hme:=HMe.out w2 HX2.out.1)|(go_at_call 35;refine hme.mono ?_;rintro e w3 ⟨rfl,HX3⟩))
 have hpl:=HPl.out w3 so sc HX3.out.1 (HX3.out.2 so sc HX2.out.2);have a2:w3.cell? ⟨A,2,V⟩=W nv:=(C2 HX3.out.1.tl.box).2.2.1;obtain⟨no,nc,rfl⟩:=HNs.out w2 HX2.out.1;clear hbe hme HMe HPl HX2 HX3 HNs hs1 b0 b1;go_cut [] (fun wx=>∃sv' nv',M (ExW w0 wx base A lm B bs bl (n+300001) va vr pv fv m ps l ho hc PS (N++[PI]) T init many sv' nv' tv))
 case first=>
  go_region_law (first
   |(refine step_append_lies _ (by rfl) (.tmp 33) (.tmp 37) 42 (by rfl) base 43 i0 _ 1 24 Tryz.underlying42 hi hz0 hz1 hz2 (by rfl) (by decide) (.slice no N.length nc) N.length us (by rfl) hown4 ⟨w4.heap.size,0,V⟩ 1 1 [Y (W ⟨w3.heap.size,0,V⟩) bn bn] (by rfl) (by rfl) (cell_one_new _ _ _) (by intro u hu;simp at hu;subst hu;rfl) (by decide) (by unfold maxLen;omega) (by omega) hba4 _ rfl ?_;intro g9 cap9 w9 hown hgrow hat hlt9;obtain⟨⟨z0,zf⟩,hx9⟩:=HN4.out g9 cap9 w9 hown hgrow;have HX9:=(show M _ from hx9);clear hx9 hown hgrow hat)
   |(go_simp;go_at_call 18;refine hpl.mono ?_;rintro e w4 ⟨rfl,us,sv4,y0,y1,hown4,hba4,HN4⟩))
  all_goals go_wp2_with fail
  all_goals go_meet
  all_goals exact⟨_,_,HX9⟩
 case rest=>
  obtain⟨sv5,nv5,HX5⟩:=hcut;obtain⟨xo,xc,rfl⟩:=HTs.out wc sv5 nv5 _ PS _ HX5.out;obtain⟨vo5,vc5,rfl⟩:=HPn.out wc _ _ _ _ _ _ HX5.out;have hba:I wc.heap.size wc (wc.alloc (Q #[C U mt] 3)):=ai;have hx6:=HX5.out.below hba;have hown6:fk (wc.alloc (Q #[C U mt] 3)) base 3 1 (.slice xo T.length xc) T.length (AB T):=hx6.tl.st;have hbs6:=hx6.tl.base_le;have a3:wc.cell? ⟨A,3,V⟩=W (.slice xo T.length xc):=(C2 HX5.out.tl.box).2.2.2.1;have HT6:M (∀g cap w9,fk w9 base 3 1 (Y (W ⟨g,0,V⟩) (T.length+1) cap) (T.length+1) (AB T++[.int U mt])->(wc.alloc (Q #[C U mt] 3)).grownBy w9 (Value.slice xo T.length xc).ownBlock->((Value.slice xo T.length xc).ownBlock=W g\/g=(wc.alloc (Q #[C U mt] 3)).heap.size)->(w9.cell? ⟨A,3,V⟩=W (.slice xo T.length xc)/\w9.frozen? ⟨A,3,V⟩=J)/\(w9.setCell ⟨A,3,V⟩ (Y (W ⟨g,0,V⟩) (T.length+1) cap)).cell? ⟨A,0,V⟩=W (.slice vo5 PS.length vc5)/\M (ExW w0 (w9.setCell ⟨A,3,V⟩ (Y (W ⟨g,0,V⟩) (T.length+1) cap)) base A lm B bs bl (n+300001) va vr pv fv m ps l ho hc PS (N++[PI]) (T++[mt]) init many (.slice vo5 PS.length vc5) nv5 (Y (W ⟨g,0,V⟩) (T.length+1) cap))):=fun g cap w9 h1 h2 h3=>by
   have hbx:w9.heap[A]? = W (atB (.slice vo5 PS.length vc5) nv5 (.slice xo T.length xc) init many lm):=(h2.block A hx6.tl.lt fun e=>by have:=hx6.tl.ty.eq (A0 hx6.tl.st e.symm).2;exact absurd this (by decide)).trans hx6.tl.box;have hxx:=hx6.appT h2 h1 (by
    rcases h3 with h|h
    .exact .inl (by rw[h];rfl)
    .exact .inr ⟨g,rfl,by omega⟩)
   exact⟨⟨(C2 hbx).2.2.2.1,IW hbx 3⟩,(C2 hxx.tl.box).1,hxx⟩
  clear hx6 HX5 HTs HPn;by_cases hfull:20000<PS.length
  .have hfi:(20000:Int)<(PS.length:Int):=by omega
   go_wp2_with (first|(at_builtin;refine wpList_append_lies _ rfl (.tmp 47) (.tmp 49) 43 rfl base 3 j0 _ 1 8 aD hj jz0 jz1 jz2 rfl (by decide) (.slice xo T.length xc) T.length (AB T) rfl hown6 ⟨wc.heap.size,0,V⟩ 1 1 [.int U mt] rfl rfl (cell_one_new _ _ _) (by intro u hu;simp at hu;subst hu;rfl) (by decide) (by unfold maxLen;omega) (by omega) hbs6 _ rfl ?_;intro g9 cap9 w9 hown hgrow hat hlt9;obtain⟨⟨z0,zf⟩,z1,HX9⟩:=HT6.out g9 cap9 w9 hown hgrow hat;clear hown hgrow hat))
   go_ret;exact⟨by first|rfl|simp[hfull],_,_,_,HX9⟩
  .have hfi:¬(20000:Int)<(PS.length:Int):=by omega
   go_wp2_with (first|(at_builtin;refine wpList_append_lies _ rfl (.tmp 47) (.tmp 49) 43 rfl base 3 j0 _ 1 8 aD hj jz0 jz1 jz2 rfl (by decide) (.slice xo T.length xc) T.length (AB T) rfl hown6 ⟨wc.heap.size,0,V⟩ 1 1 [.int U mt] rfl rfl (cell_one_new _ _ _) (by intro u hu;simp at hu;subst hu;rfl) (by decide) (by unfold maxLen;omega) (by omega) hbs6 _ rfl ?_;intro g9 cap9 w9 hown hgrow hat hlt9;obtain⟨⟨z0,zf⟩,z1,HX9⟩:=HT6.out g9 cap9 w9 hown hgrow hat;clear hown hgrow hat))
   go_ret;exact⟨by first|rfl|simp[hfull],_,_,_,HX9⟩
variable{Pz:Nat -> Prop}
theorem SvOk.made{w0 w w':O}{n:Nat}{va vr pv fv:L}{m:Mo}{ps:List am}{l:am}{ho:Option Addr}{hc:Nat}(hb:I w0.heap.size w0 w)(hb2:I w.heap.size w w')(hn:w.heap.size<=n)(hs:SurvAt w' (n+2) va vr pv fv (.slice ho (AA l).length hc) n (n+1))
  (ho':w'.ownsRow w.heap.size 3 1 (.slice ho (AA l).length hc) (AA l).length (AB (AA l))) (h1:w'.heap[n]? = W (.map #[] 0)) (h2:w'.heap[n+1]? = W (.map #[] 0)):SvOk (fun _=>True) w0 w' (n+2) n (n+1) 0 va vr pv fv m ps l ho hc:=by
 have:=hb.size;exact⟨hs,ae hb hb2,by omega,by omega,by omega,D8 ho',Af.owns ho',fun _ _=>trivial,fun _ _=>trivial,⟨_,MapIs.new _ h1,fun kl v h=>by simp at h⟩,⟨_,MapIs.new _ h2,fun kl v h=>by simp at h⟩⟩
def Bl(m:Mo)(l:am)(p:Int×Int):Prop:=(0<=p.1/\p.1<AL m.vars m.vars.length)/\∃d:Nat,d<2^(AA l).length/\p.2=(d:Int)
noncomputable def BB(m:Mo)(ps:List am)(l:am)(p:Int×Int):am:=Aa m ps l p.1 p.2
noncomputable def xpP(m:Mo)(ps:List am)(l:am)(k:Nat):am:=exS (AC m ps l) (BB m ps l) k
noncomputable def Br(m:Mo)(ps:List am)(l:am)(k:Nat):Int×Int:=(xpP m ps l k).getD k (0,0)
noncomputable def xpN(m:Mo)(ps:List am)(l:am):Nat->List (List Int)
 |0=>[]
 |k+1=>xpN m ps l k++[Cl (xpP m ps l k) (BB m ps l (Br m ps l k))]
noncomputable def xpT(m:Mo)(ps:List am)(l:am):Nat->List Int
 |0=>[]
 |k+1=>xpT m ps l k++[B7 l (AJ m ps (Br m ps l k).1) (Br m ps l k).2]
section
variable{m:Mo}{ps:List am}{l:am}
theorem IH(k:Nat):xpP m ps l (k+1)=AH (xpP m ps l k) (BB m ps l (Br m ps l k)):=rfl
theorem C1:∀k,(xpN m ps l k).length=k
 |0=>rfl
 |k+1=>by rw[xpN,qF,C1 k];rfl
theorem DB:∀k,(xpT m ps l k).length=k
 |0=>rfl
 |k+1=>by rw[xpT,qF,DB k];rfl
theorem IF{p:Int×Int}:∀k,p∈CD m ps l k->p.1=CC m/\∃d:Nat,d<k/\p.2=(d:Int)/\tru l (AJ m ps (CC m)) (d:Int) 0≠true
 |0,h=>by simp[CD]at h
 |k+1,h=>by
  rw[CD]at h;split at h
  .obtain ⟨h1,d,h2,h3⟩:=IF k h;exact⟨h1,d,by omega,h3⟩
  .next hf=>
   rw[qL,vM]at h;rcases h with h|rfl
   .obtain ⟨h1,d,h2,h3⟩:=IF k h;exact⟨h1,d,by omega,h3⟩
   .exact ⟨rfl,k,by omega,rfl,hf⟩
theorem Kj(hk:AX m ps l=0){p:Int×Int}(h:p∈AC m ps l):Bl m l p:=by
 obtain⟨h1,d,h2,h3,_⟩:=IF _ h;exact⟨by rw[h1];exact J7 hk,d,h2,h3⟩
theorem XH(hk:AX m ps l=0){s p:Int×Int}(hs:Bl m l s)(h:p∈BB m ps l s):Bl m l p:=Kk (Ca (BU hk).1).1 hs.1 h
theorem OP(hk:AX m ps l=0):∀p∈xpP m ps l 0,Bl m l p:=fun p hp=>by
 rcases(Eo _ _ _).1 hp with h|h
 .exact absurd h List.not_mem_nil
 .exact Kj hk h
theorem KP{k:Nat}(h:k<(xpP m ps l k).length):Br m ps l k∈xpP m ps l k:=by
 unfold Br;rw[qC,qH h];exact qR _
theorem OO(hk:AX m ps l=0){k:Nat}(hl:k<(xpP m ps l k).length)(h:∀p∈xpP m ps l k,Bl m l p):∀p∈xpP m ps l (k+1),Bl m l p:=fun p hp=>by
 rw[IH]at hp;rcases(Eo _ _ _).1 hp with h1|h1
 .exact h p h1
 .exact XH hk (h _ (KP hl)) h1
end
def At(m:Mo)(ps:List am)(l:am)(K:Nat):Prop:=(xpP m ps l K).length=K/\K<=20000/\(∀j,j<K->j<(xpP m ps l j).length)/\∀p∈xpP m ps l K,Bl m l p
def DU(m:Mo)(ps:List am)(l:am):Prop:=∃k,(∀j,j<=k->j<(xpP m ps l j).length)/\20000<(xpP m ps l (k+1)).length
def GrX(w:O)(base:Nat)(m:Mo)(ps:List am)(l:am)(K:Nat)(sv nv tv:L):Prop:=SpO w base sv (xpP m ps l K)/\Dy w base nv tv (xpN m ps l K)/\w.ownsRow base 3 1 tv (xpT m ps l K).length (AB (xpT m ps l K))
def FV(w:O)(m:Mo)(ps:List am)(l:am)(e:Ending)(w':O):Prop:=
 (AX m ps l=0/\∃K,At m ps l K/\∃sv nv tv,e=H (ZZ #[G #[sv,.int U ((AC m ps l).length:Nat),nv,tv,.int U ((AA l).length:Nat)],.int U 0])/\I w.heap.size w w'/\M (GrX w' w.heap.size m ps l K sv nv tv))\/
 (AX m ps l=0/\DU m ps l/\e=H (ZZ #[G #[Y V 0 0,.int U 0,Y V 0 0,Y V 0 0,.int U 0],.int U 12])/\I w.heap.size w w')\/
 (AX m ps l≠0/\e=H (ZZ #[G #[Y V 0 0,.int U 0,Y V 0 0,Y V 0 0,.int U 0],.int U (AX m ps l)])/\I w.heap.size w w')
theorem QT{m:Mo}{ps:List am}{l:am}{K:Nat}(h:At m ps l K):¬DU m ps l:=by
 rintro⟨k,h1,h2⟩;obtain⟨d1,d2,_,_⟩:=h;by_cases hk:k+1<=K
 .have:=(Dk (AC m ps l) (BB m ps l) hk).length_le;unfold xpP at h2 d1;omega
 .have:=h1 K (by omega);omega
def grB(sv nv tv:L)(init many:Int):Obj:=Q #[sv,.int U init,nv,tv,.int U many] 45 (0,0)
section
variable{w w':O}{X:Nat}{sv nv tv:L}{init many:Int}
theorem Dn(hb:w.heap[X]? = W (grB sv nv tv init many)):w.cell? ⟨X,0,V⟩=W sv/\w.cell? ⟨X,1,V⟩=W (.int U init)/\w.cell? ⟨X,2,V⟩=W nv/\w.cell? ⟨X,3,V⟩=W tv/\w.cell? ⟨X,4,V⟩=W (.int U many):=by
 unfold grB at hb;refine⟨?_,?_,?_,?_,?_⟩<;>simp[br,hb]
theorem Le(hb:w.heap[X]? = W (grB sv nv tv init many))(i:Nat):w.frozen? ⟨X,i,V⟩=false:=by
 unfold grB at hb;simp[fX,hb]
theorem Ik(w:O)(X:Nat)(a b c d e:L):Chg (fun i=>i=X) w (((((w.setCell ⟨X,0,V⟩ a).setCell ⟨X,1,V⟩ b).setCell ⟨X,2,V⟩ c).setCell ⟨X,3,V⟩ d).setCell ⟨X,4,V⟩ e):=
 (((((Chg.setCell w ⟨X,0,V⟩ a).trans (Chg.setCell _ ⟨X,1,V⟩ b)).trans (Chg.setCell _ ⟨X,2,V⟩ c)).trans (Chg.setCell _ ⟨X,3,V⟩ d)).trans (Chg.setCell _ ⟨X,4,V⟩ e))
theorem GrX.chg{base K:Nat}{m:Mo}{ps:List am}{l:am}(h:GrX w base m ps l K sv nv tv)(hs:Chg (fun i=>i=X) w w')(ht:TyB w X 45):GrX w' base m ps l K sv nv tv:=by
 obtain⟨h1,h2,h3⟩:=h;obtain⟨us,n1,_⟩:=id h2;have hno:∀g t,TyB w g t->t≠45->g≠X:=fun g t hg hn e=>hn (hg.eq (e▸ht));exact⟨BX h1 hs (fun g e=>hno g _ (A0 h1 e).2 (by decide)),h2.chg hs (fun i z=>⟨fun e=>hno i _ (A0 n1 e).2 (by decide) z,fun _ _ _ _ _ hi=>hno i _ hi (by decide) z⟩),BX h3 hs (fun g e=>hno g _ (A0 h3 e).2 (by decide))⟩
theorem Dy.mono{base base':Nat}{N:List (List Int)}(h:Dy w base nv tv N)(hb:base'<=base):Dy w base' nv tv N:=by
 obtain⟨us,h1,h2,h3⟩:=h;refine⟨us,Az h1 hb,h2,fun i hi=>?_⟩;obtain⟨ao,c,e1,e2,e3,e4⟩:=h3 i hi;exact⟨ao,c,e1,e2,e3,fun a e=>⟨(e4 a e).1,qI hb (e4 a e).2⟩⟩
end
