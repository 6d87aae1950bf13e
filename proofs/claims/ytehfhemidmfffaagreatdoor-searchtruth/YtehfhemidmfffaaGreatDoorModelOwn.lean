import Derived.Test.YtehfhemidmfffaaGreatDoorModelMem
import Derived.Deep.AppendLies
open Go renaming World→Y,Value→Z
open Go.IntKind renaming i64→X
open _root_.Option renaming none→W,some→V
namespace Go.Proofs.YtehfhemidmfffaaGreatDoor
open _root_.Array renaming getElem?_eq_some_iff→qG
open _root_.List renaming getD_eq_getElem?_getD→qC,getElem?_append_left→qX
open _root_.Nat renaming le_refl→qB,zero_add→qV
open Go.Proofs.Tryz renaming prog→qA
open Go.ChangeShapes Go.WideShapes Go.ChangeAt Go.RowKit Go.Deep
open Terms Tm
set_option maxHeartbeats 6400000
set_option maxRecDepth 20000
def A8(w:Y)(base:Nat)(v:Z)(l:List St):Prop:=
 ∃us:List Z,w.ownsRow base 98 2 v l.length us/\∀j,j<l.length->us.getD (j*2) .nilIface=.int X (l.getD j st0).var/\w.ownsRow base 100 2 (us.getD (j*2+1) .nilIface) (l.getD j st0).val.length (flat (l.getD j st0).val)
theorem A8.nil(w:Y)(base:Nat):A8 w base (.slice W 0 0) []:=⟨[],World.ownsRow_nil _ _ _ _,fun j hj=>by simp at hj⟩
theorem A8.later{w w':Y}{base B:Nat}{v:Z}{l:List St}(h:A8 w base v l)(hb:Below B w w')(hB:w.heap.size<=B):A8 w' base v l:=by
 obtain⟨us,h1,h2⟩:=h;exact⟨us,Ap h1 hb hB,fun j hj=>⟨(h2 j hj).1,Ap (h2 j hj).2 hb hB⟩⟩
theorem A8.mono{w:Y}{base base':Nat}{v:Z}{l:List St}(h:A8 w base v l)(hb:base'<=base):A8 w base' v l:=by
 obtain⟨us,h1,h2⟩:=h;exact⟨us,Az h1 hb,fun j hj=>⟨(h2 j hj).1,Az (h2 j hj).2 hb⟩⟩
theorem A8.kept{w w':Y}{base:Nat}{v:Z}{l:List St}{row:Option Nat}(h:A8 w base v l)(hg:w.grownBy w' row)(h1:∀(e s n:Nat) (u:Z) (xs:List Z),e=98\/e=100->w.ownsRow base e s u n xs->u.ownBlock=W\/u.ownBlock≠row):A8 w' base v l:=by
 obtain⟨us,h2,h3⟩:=h;exact⟨us,h2.kept hg (h1 _ _ _ _ _ (.inl rfl) h2),fun j hj=>⟨(h3 j hj).1,(h3 j hj).2.kept hg (h1 _ _ _ _ _ (.inr rfl) (h3 j hj).2)⟩⟩
theorem Do{w:Y}{base:Nat}{e:TypeId}{s n:Nat}{v:Z}{xs:List Z}(h:w.ownsRow base e s v n xs){b o:Nat}(hb:b<base)(u:Z):(w.setCell ⟨b,o,W⟩ u).ownsRow base e s v n xs:=by
 obtain⟨h1,h2⟩:=h;refine⟨h1,?_⟩;rcases h2 with h2|⟨g,cap,cur,hv,hg,hh,r⟩
 .exact .inl h2
 .exact .inr ⟨g,cap,cur,hv,hg,(Below.heap_setCell w ⟨b,o,W⟩ u g (by simp only;omega)).trans hh,r⟩
theorem A8.setCell{w:Y}{base:Nat}{v:Z}{l:List St}(h:A8 w base v l){b o:Nat}(hb:b<base)(u:Z):A8 (w.setCell ⟨b,o,W⟩ u) base v l:=by
 obtain⟨us,h1,h2⟩:=h;exact⟨us,Do h1 hb u,fun j hj=>⟨(h2 j hj).1,Do (h2 j hj).2 hb u⟩⟩
theorem Gk{us vs:List Z}{i:Nat}(h:i<us.length)(d:Z):(us++vs).getD i d=us.getD i d:=by
 simp[qC,qX h]
theorem Gl{us vs:List Z}(i:Nat)(d:Z):(us++vs).getD (us.length+i) d=vs.getD i d:=by
 rw[qC,qC,List.getElem?_append_right (by omega),show us.length+i-us.length=i by omega]
theorem Vi{l m:List St}{i:Nat}(h:i<l.length):(l++m).getD i st0=l.getD i st0:=by
 simp[qC,qX h]
theorem Vj(l:List St)(x:St):(l++[x]).getD l.length st0=x:=by
 simp[qC]
theorem A8.snoc{w wa w':Y}{base:Nat}{v v' u:Z}{l:List St}{x:St}{us:List Z}
  (hus:w.ownsRow base 98 2 v l.length us) (hts:∀j,j<l.length->us.getD (j*2) .nilIface=.int X (l.getD j st0).var/\w.ownsRow base 100 2 (us.getD (j*2+1) .nilIface) (l.getD j st0).val.length (flat (l.getD j st0).val))
  (hu:w.ownsRow base 100 2 u x.val.length (flat x.val)) (ha:∃o,wa=w.alloc o) (hg:wa.grownBy w' v.ownBlock) (ho:w'.ownsRow base 98 2 v' (l.length+1) (us++[.int X x.var,u])):A8 w' base v' (l++[x]):=by
 obtain⟨o,rfl⟩:=ha;have hl:us.length=l.length*2:=by simpa using hus.1
 refine⟨us++[.int X x.var,u],by simpa using ho,fun j hj=>?_⟩;by_cases hlt:j<l.length
 .rw[Gk (by omega),Gk (by omega),Vi hlt];obtain⟨h0,h1⟩:=hts j hlt;have h1:=h1.alloc o;exact⟨h0,h1.kept hg (En (by decide) h1 (hus.alloc o))⟩
 .have hj':j=l.length:=by simp at hj;omega
  subst hj';rw[Vj,show l.length*2=us.length+0 by omega,Gl,show us.length+0+1=us.length+1 by omega,Gl];have h1:=hu.alloc o;exact⟨rfl,h1.kept hg (En (by decide) h1 (hus.alloc o))⟩
theorem A8.setsV{w:Y}{base:Nat}{v:Z}{l:List St}(h:A8 w base v l):SetsV w v l:=by
 obtain⟨us,h1,h2⟩:=h;have hl:us.length=l.length*2:=by simpa using h1.1
 rcases h1.2 with⟨rfl,h0⟩|⟨g,cap,cur,rfl,hbg,hg,hnc,_⟩
 .exact ⟨W,0,by rw[h0],⟨by omega,fun _=>⟨rfl,h0⟩⟩,fun h=>by omega⟩
 .refine ⟨_,cap,rfl,⟨hnc,fun h=>by simp at h⟩,fun _=>⟨g,0,rfl,(qG.1 hg).1,fun i hi=>?_⟩⟩;obtain⟨h3,h4⟩:=h2 i hi;rw[qV];refine⟨?_,us.getD (i*2+1) .nilIface,?_,G7 h4⟩
  .rw[h1.cellAt _ (by omega),<-h3];simp[qC,show i*2<us.length by omega]
  .rw[h1.cellAt _ (by omega)];simp[qC,show i*2+1<us.length by omega]
def Ce(w:Y)(base:Nat)(v:Z)(l:List Ru):Prop:=
 ∃us:List Z,w.ownsRow base 96 2 v l.length us/\∀j,j<l.length->w.ownsRow base 100 2 (us.getD (j*2) .nilIface) (l.getD j ru0).guard.length (flat (l.getD j ru0).guard)/\A8 w base (us.getD (j*2+1) .nilIface) (l.getD j ru0).sets
theorem Ce.nil(w:Y)(base:Nat):Ce w base (.slice W 0 0) []:=⟨[],World.ownsRow_nil _ _ _ _,fun j hj=>by simp at hj⟩
theorem Ce.setCell{w:Y}{base:Nat}{v:Z}{l:List Ru}(h:Ce w base v l){b o:Nat}(hb:b<base)(u:Z):Ce (w.setCell ⟨b,o,W⟩ u) base v l:=by
 obtain⟨us,h1,h2⟩:=h;exact⟨us,Do h1 hb u,fun j hj=>⟨Do (h2 j hj).1 hb u,(h2 j hj).2.setCell hb u⟩⟩
theorem NN{l m:List Ru}{i:Nat}(h:i<l.length):(l++m).getD i ru0=l.getD i ru0:=by
 simp[qC,qX h]
theorem NO(l:List Ru)(x:Ru):(l++[x]).getD l.length ru0=x:=by
 simp[qC]
theorem Ce.snoc{w wa w':Y}{base:Nat}{v v' gu su:Z}{l:List Ru}{x:Ru}{us:List Z}
  (hus:w.ownsRow base 96 2 v l.length us) (hts:∀j,j<l.length->w.ownsRow base 100 2 (us.getD (j*2) .nilIface) (l.getD j ru0).guard.length (flat (l.getD j ru0).guard)/\A8 w base (us.getD (j*2+1) .nilIface) (l.getD j ru0).sets)
  (hgu:w.ownsRow base 100 2 gu x.guard.length (flat x.guard)) (hsu:A8 w base su x.sets) (ha:∃o,wa=w.alloc o) (hg:wa.grownBy w' v.ownBlock) (ho:w'.ownsRow base 96 2 v' (l.length+1) (us++[gu,su])):Ce w' base v' (l++[x]):=by
 obtain⟨o,rfl⟩:=ha;have hl:us.length=l.length*2:=by simpa using hus.1
 have hk:∀(e s n:Nat) (u:Z) (xs:List Z),e=98\/e=100->(w.alloc o).ownsRow base e s u n xs->u.ownBlock=W\/u.ownBlock≠v.ownBlock:=fun e s n u xs he h=>En (by rcases he with rfl|rfl<;>decide) h (hus.alloc o);have hal:∀{u:Z} {m:List St},A8 w base u m->A8 (w.alloc o) base u m:=fun h=>h.later ((Below.refl w.heap.size w).alloc (qB _) o) (qB _);refine⟨us++[gu,su],by simpa using ho,fun j hj=>?_⟩;by_cases hlt:j<l.length
 .rw[Gk (by omega),Gk (by omega),NN hlt];obtain⟨h0,h1⟩:=hts j hlt;have h0:=h0.alloc o;exact⟨h0.kept hg (En (by decide) h0 (hus.alloc o)),(hal h1).kept hg hk⟩
 .have hj':j=l.length:=by simp at hj;omega
  subst hj';rw[NO,show l.length*2=us.length+0 by omega,Gl,show us.length+0+1=us.length+1 by omega,Gl];have h1:=hgu.alloc o;exact⟨h1.kept hg (En (by decide) h1 (hus.alloc o)),(hal hsu).kept hg hk⟩
theorem Ce.rulesV{w:Y}{base:Nat}{v:Z}{l:List Ru}(h:Ce w base v l):RulesV w v l:=by
 obtain⟨us,h1,h2⟩:=h;have hl:us.length=l.length*2:=by simpa using h1.1
 rcases h1.2 with⟨rfl,h0⟩|⟨g,cap,cur,rfl,hbg,hg,hnc,_⟩
 .exact ⟨W,0,by rw[h0],⟨by omega,fun _=>⟨rfl,h0⟩⟩,fun h=>by omega⟩
 .refine ⟨_,cap,rfl,⟨hnc,fun h=>by simp at h⟩,fun _=>⟨g,0,rfl,(qG.1 hg).1,fun i hi=>?_⟩⟩;obtain⟨h3,h4⟩:=h2 i hi;rw[qV];refine⟨⟨us.getD (i*2) .nilIface,?_,G7 h3⟩,us.getD (i*2+1) .nilIface,?_,h4.setsV⟩
  .rw[h1.cellAt _ (by omega)];simp[qC,show i*2<us.length by omega]
  .rw[h1.cellAt _ (by omega)];simp[qC,show i*2+1<us.length by omega]
def Cb(l:List Vr):List Value:=l.flatMap fun p=>[.string p.name,.int X p.lo,.int X p.hi,.int X p.ini]
theorem Wp(l:List Vr):∀i,i<l.length->(Cb l)[i*4]? = V (.string (l.getD i vr0).name)/\(Cb l)[i*4+1]? = V (.int X (l.getD i vr0).lo)/\(Cb l)[i*4+2]? = V (.int X (l.getD i vr0).hi)/\(Cb l)[i*4+3]? = V (.int X (l.getD i vr0).ini):=by
 induction l with
 |nil=>intro i hi;simp at hi
 |cons p l ih=>
  intro i hi;have e:Cb (p::l)=.string p.name:: .int X p.lo:: .int X p.hi:: .int X p.ini::Cb l:=rfl;rw[e];cases i with
  |zero=>simp
  |succ i=>
   have:=ih i (by simpa using hi);rw[show(i+1)*4=i*4+1+1+1+1 by omega];simpa using this
theorem Wl{w:Y}{base:Nat}{v:Z}{l:List Vr}(h:w.ownsRow base 90 4 v l.length (Cb l)):VarsV w v l:=by
 rcases h.2 with⟨rfl,h0⟩|⟨g,cap,cur,rfl,hb,hg,hnc,hcm,hcs,htake⟩
 .exact ⟨W,0,by rw[h0],⟨by omega,fun _=>⟨rfl,h0⟩⟩,fun h=>by omega⟩
 .refine ⟨_,cap,rfl,⟨hnc,fun h=>by simp at h⟩,fun _=>⟨g,0,rfl,(qG.1 hg).1,fun i hi=>?_⟩⟩;obtain⟨f0,f1,f2,f3⟩:=Wp l i hi;refine⟨?_,?_,?_,?_⟩;all_goals rw[qV,h.cellAt _ (by omega)]
  .exact f0
  .exact f1
  .exact f2
  .exact f3
theorem RW:(qA.info? 90).map (fun i=>(i.zero,i.size,i.bytes))=V (V (.agg #[.string ByteArray.empty,.int X 0,.int X 0,.int X 0]),4,40):=by kernel_rfl
theorem RV:(qA.info? 98).map (fun i=>(i.zero,i.size,i.bytes))=V (V (.agg #[.int X 0,.slice W 0 0]),2,32):=by kernel_rfl
theorem RU:(qA.info? 96).map (fun i=>(i.zero,i.size,i.bytes))=V (V (.agg #[.slice W 0 0,.slice W 0 0]),2,48):=by kernel_rfl
