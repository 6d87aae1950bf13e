import Derived.Test.YtehfhemidmfffaaGreatDoorEnds
import Derived.ProofKit
import Derived.BigQuiet
import Derived.Laws.AppendOwnNone
open Go renaming World→Z,Value→Y
open Go.IntKind renaming i64→V
open _root_.Option renaming none→X,some→W
namespace Go.Proofs.YtehfhemidmfffaaGreatDoor
open _root_.Array renaming getElem?_eq_some_iff→qG
open _root_.Nat renaming lt_of_lt_of_le→qE
open Go.ChangeShapes Go.WideShapes Go.ChangeAt Go.RowKit Go.Deep
open Terms
open Go.Addr renaming mk→U
set_option maxHeartbeats 6400000
set_option maxRecDepth 20000
def BR(w:Z)(b off:Nat)(l:List (Int×Int)):Prop:=∀i,i<l.length->w.cell? ⟨b,off+i*2,X⟩=W (.int V (l.getD i (0,0)).1)/\w.cell? ⟨b,off+i*2+1,X⟩=W (.int V (l.getD i (0,0)).2)
theorem BR.below{B b off:Nat}{l:List (Int×Int)}{w w':Z}(h:BR w b off l)(hb:Below B w w')(hB:b<B):BR w' b off l:=fun i hi=>⟨(hb.cell (p:=(U b _ X)) hB).trans (h i hi).1,(hb.cell (p:=(U b _ X)) hB).trans (h i hi).2⟩
def OpsV(w:Z)(v:Y)(l:List (Int×Int)):Prop:=∃ao cap,v=.slice ao l.length cap/\(l.length<=cap/\(ao=X->cap=0/\l=[]))/\(l≠[]->∃b off,ao=W (U b off X)/\b<w.heap.size/\BR w b off l)
theorem OpsV.below{w w':Z}{v:Y}{l:List (Int×Int)}(h:OpsV w v l)(hb:Below w.heap.size w w'):OpsV w' v l:=by
 obtain⟨ao,cap,rfl,h0,h⟩:=h;refine⟨ao,cap,rfl,h0,fun hne=>?_⟩;obtain⟨b,off,rfl,hlt,hat⟩:=h hne;exact⟨b,off,rfl,qE hlt hb.size,hat.below hb hlt⟩
theorem OpsV.kinds{w:Z}{v:Y}{l:List (Int×Int)}(h:OpsV w v l):DW w v (l.map Prod.fst):=by
 obtain⟨ao,cap,rfl,h0,h⟩:=h;refine⟨ao,cap,by simp,fun hne=>?_⟩;obtain⟨b,off,rfl,hlt,hat⟩:=h (by intro h;subst h;simp at hne);refine⟨b,off,rfl,hlt,fun i hi=>?_⟩;rw[List.length_map]at hi;rw[(hat i hi).1];simp[List.getD_eq_getElem?_getD,hi]
def flat(l:List (Int×Int)):List Value:=l.flatMap fun p=>[.int V p.1,.int V p.2]
theorem LR(l:List (Int×Int)):(flat l).length=l.length*2:=by
 induction l with
 |nil=>rfl
 |cons p l ih=>
  have:flat (p::l)=[.int V p.1,.int V p.2]++flat l:=rfl;rw[this];simp[ih];omega
theorem Fj(l:List (Int×Int)):∀i,i<l.length->(flat l)[i*2]? = W (.int V (l.getD i (0,0)).1)/\(flat l)[i*2+1]? = W (.int V (l.getD i (0,0)).2):=by
 induction l with
 |nil=>intro i hi;simp at hi
 |cons p l ih=>
  intro i hi;have e:flat (p::l)=.int V p.1:: .int V p.2::flat l:=rfl;rw[e];cases i with
  |zero=>simp
  |succ i=>
   have:=ih i (by simpa using hi);rw[show(i+1)*2=i*2+1+1 by omega];simpa using this
theorem LS(l:List (Int×Int)):∀u∈flat l,u.oneCell'=true:=by
 intro u hu;simp only[flat,List.mem_flatMap]at hu;obtain⟨p,_,hp⟩:=hu;simp at hp;rcases hp with rfl|rfl<;>rfl
theorem BR.cells{w:Z}{b off:Nat}{l:List (Int×Int)}(h:BR w b off l):∀j u,(flat l)[j]? = W u->w.cell? ((⟨b,off,X⟩:Addr).add j)=W u:=by
 intro j u hj;have hlt:j<l.length*2:=by rw[<-LR];exact(List.getElem?_eq_some_iff.1 hj).1
 rw[Go.WideShapes.add_plain];have hi:j / 2<l.length:=by omega
 obtain⟨f0,f1⟩:=Fj l (j / 2) hi;obtain⟨c0,c1⟩:=h (j / 2) hi;by_cases hp:j % 2=0
 .rw[show j / 2*2=j by omega]at f0 c0;rw[hj]at f0;rw[c0,f0]
 .rw[show j / 2*2+1=j by omega]at f1;rw[show off+j / 2*2+1=off+j by omega]at c1;rw[hj]at f1;rw[c1,f1]
theorem DS(w:Z)(x y:Y)(t:TypeId):∀j u,[x,y][j]? = W u->(w.alloc (.cells #[x,y] t)).cell? ((⟨w.heap.size,0,X⟩:Addr).add j)=W u:=by
 intro j u hj;match j,hj with
 |0,hj=>simp at hj;subst hj;simp[Addr.add,go_sem]
 |1,hj=>simp at hj;subst hj;simp[Addr.add,go_sem]
theorem G7{w:Z}{base:Nat}{v:Y}{l:List (Int×Int)}(h:w.ownsRow base 100 2 v l.length (flat l)):OpsV w v l:=by
 rcases h.2 with⟨rfl,h0⟩|⟨g,cap,cur,rfl,hb,hg,hnc,hcm,hcs,htake⟩
 .have:l=[]:=by simpa using h0
  subst this;exact⟨X,0,rfl,⟨by simp,fun _=>⟨rfl,rfl⟩⟩,fun h=>absurd rfl h⟩
 .refine ⟨_,cap,rfl,⟨hnc,fun h=>by simp at h⟩,fun _=>⟨g,0,rfl,?_,fun i hi=>?_⟩⟩
  .exact (qG.1 hg).1
  .obtain ⟨f0,f1⟩:=Fj l i hi;rw[h.cellAt _ (by omega),h.cellAt _ (by omega)];simpa using⟨f0,f1⟩
theorem Ll:(Tryz.prog.info? 100).map (fun i=>(i.zero,i.size,i.bytes))=W (W (.agg #[.int V 0,.int V 0]),2,16):=by kernel_rfl
def IntsAt(w:Z)(b off:Nat)(l:List Int):Prop:=∀i,i<l.length->w.cell? ⟨b,off+i,X⟩=W (.int V (l.getD i 0))
def IntsV(w:Z)(v:Y)(l:List Int):Prop:=∃ao cap,v=.slice ao l.length cap/\(l≠[]->∃b off,ao=W (U b off X)/\b<w.heap.size/\IntsAt w b off l)
theorem IntsV.below{w w':Z}{v:Y}{l:List Int}(h:IntsV w v l)(hb:Below w.heap.size w w'):IntsV w' v l:=by
 obtain⟨ao,cap,rfl,h⟩:=h;refine⟨ao,cap,rfl,fun hne=>?_⟩;obtain⟨b,off,rfl,hlt,hat⟩:=h hne;exact⟨b,off,rfl,qE hlt hb.size,fun i hi=>(hb.cell (p:=(U b _ X)) hlt).trans (hat i hi)⟩
theorem En{w:Z}{base base':Nat}{e e':TypeId}{s s' n n':Nat}{v v':Y}{xs xs':List Y}(he:e≠e')(h:w.ownsRow base e s v n xs)(h':w.ownsRow base' e' s' v' n' xs'):v.ownBlock=X\/v.ownBlock≠v'.ownBlock:=by
 rcases h.2 with⟨rfl,_⟩|⟨g,cap,cur,rfl,_,hg,_⟩
 .exact .inl rfl
 .refine .inr fun hx=>?_;rcases h'.2 with⟨rfl,_⟩|⟨g',cap',cur',rfl,_,hg',_⟩
  .simp[Value.ownBlock]at hx
  .simp[Value.ownBlock]at hx;subst hx;rw[hg]at hg';simp at hg';exact he hg'.2
theorem Ap{w w':Z}{base B:Nat}{e:TypeId}{s n:Nat}{v:Y}{xs:List Y}(h:w.ownsRow base e s v n xs)(hb:Below B w w')(hB:w.heap.size<=B):w'.ownsRow base e s v n xs:=by
 obtain⟨h1,h2⟩:=h;refine⟨h1,?_⟩;rcases h2 with h2|⟨g,cap,cur,hv,hg,hh,r⟩
 .exact .inl h2
 .have hlt:=(qG.1 hh).1;exact .inr ⟨g,cap,cur,hv,hg,(hb.block g (by omega)).trans hh,r⟩
theorem Az{w:Z}{base base':Nat}{e:TypeId}{s n:Nat}{v:Y}{xs:List Y}(h:w.ownsRow base e s v n xs)(hb:base'<=base):w.ownsRow base' e s v n xs:=by
 obtain⟨h1,h2⟩:=h;refine⟨h1,?_⟩;rcases h2 with h2|⟨g,cap,cur,hv,hg,r⟩
 .exact .inl h2
 .exact .inr ⟨g,cap,cur,hv,by omega,r⟩
theorem Au{w:Z}{base:Nat}{e:TypeId}{s n:Nat}{v:Y}{xs:List Y}(h:w.ownsRow base e s v n xs):∃ao cap,v=.slice ao n cap:=by
 rcases h.2 with⟨rfl,rfl⟩|⟨g,cap,cur,rfl,_⟩
 .exact ⟨_,_,rfl⟩
 .exact ⟨_,_,rfl⟩
theorem Fe{ks:List Int}(h:AU ks=0):ks.length<=60/\cnt ks 1=.ok ks.length:=by
 unfold AU at h;split at h
 .simp at h
 .refine ⟨by omega,?_⟩;cases hc:cnt ks 1 with
  |no x=>rw[hc]at h;have:=K2 _ _ _ hc;simp only at h;omega
  |ok m=>
   rw[hc]at h;simp only at h;split at h
   .simp at h
   .have:=(DK _ _ _ hc).2;congr 1
    omega
def TermsV(w:Z)(v:Y)(ts:List (List (Int×Int))):Prop:=∃ao cap,v=.slice ao ts.length cap/\(ts≠[]->∃b off,ao=W (U b off X)/\b<w.heap.size/\∀i,i<ts.length->∃u,w.cell? ⟨b,off+i,X⟩=W u/\OpsV w u (ts.getD i []))
theorem TermsV.below{w w':Z}{v:Y}{ts:List (List (Int×Int))}(h:TermsV w v ts)(hb:Below w.heap.size w w'):TermsV w' v ts:=by
 obtain⟨ao,cap,rfl,h⟩:=h;refine⟨ao,cap,rfl,fun hne=>?_⟩;obtain⟨b,off,rfl,hlt,hat⟩:=h hne;refine⟨b,off,rfl,qE hlt hb.size,fun i hi=>?_⟩;obtain⟨u,h1,h2⟩:=hat i hi;exact⟨u,(hb.cell (p:=(U b _ X)) hlt).trans h1,h2.below hb⟩
theorem Fi(l m:List (Int×Int)):flat (l++m)=flat l++flat m:=by simp[flat]
abbrev am:=List (Int × Int)
theorem ae {a b c : Go.World} (h : Go.RowKit.Below a.heap.size a b) (k : Go.RowKit.Below b.heap.size b c) : Go.RowKit.Below a.heap.size a c := h.trans (k.mono h.size)
theorem ai {a : Go.World} {o : Go.Obj} : Go.RowKit.Below a.heap.size a (a.alloc o) := (Go.RowKit.Below.refl _ _).alloc (_root_.Nat.le_refl _) _
theorem aj.{u} {c : Prop} {h : Decidable c} (hc : c) {α : Sort u} {t e : α} : ite c t e = t := if_pos hc
theorem ak.{u} {c : Prop} {h : Decidable c} (hc : ¬c) {α : Sort u} {t e : α} : ite c t e = e := if_neg hc
