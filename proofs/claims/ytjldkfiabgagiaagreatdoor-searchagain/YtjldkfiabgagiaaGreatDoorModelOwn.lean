import Derived.Test.YtjldkfiabgagiaaGreatDoorModelMem
import Derived.Deep.AppendLies
namespace Go.Proofs.YtjldkfiabgagiaaGreatDoor
open _root_.Array renaming getElem?_eq_some_iff→qG
open _root_.List renaming getD_eq_getElem?_getD→qC,getElem?_append_left→qW
open _root_.Nat renaming le_refl→qB,zero_add→qU
open Go.Proofs.Tryz renaming prog→qA
open Go.ChangeShapes Go.WideShapes Go.ChangeAt Go.RowKit Go.Deep
open Terms Tm
set_option maxHeartbeats 6400000
set_option maxRecDepth 20000
def A5(w:World)(base:Nat)(v:Value)(l:List St):Prop:=
 ∃us:List Value,w.ownsRow base 89 2 v l.length us/\∀j,j<l.length->us.getD (j*2) .nilIface=.int .i64 (l.getD j st0).var/\w.ownsRow base 91 2 (us.getD (j*2+1) .nilIface) (l.getD j st0).val.length (flat (l.getD j st0).val)
theorem A5.nil(w:World)(base:Nat):A5 w base (.slice none 0 0) []:=⟨[],World.ownsRow_nil _ _ _ _,fun j hj=>by simp at hj⟩
theorem A5.later{w w':World}{base B:Nat}{v:Value}{l:List St}(h:A5 w base v l)(hb:Below B w w')(hB:w.heap.size<=B):A5 w' base v l:=by
 obtain⟨us,h1,h2⟩:=h;exact⟨us,Aq h1 hb hB,fun j hj=>⟨(h2 j hj).1,Aq (h2 j hj).2 hb hB⟩⟩
theorem A5.mono{w:World}{base base':Nat}{v:Value}{l:List St}(h:A5 w base v l)(hb:base'<=base):A5 w base' v l:=by
 obtain⟨us,h1,h2⟩:=h;exact⟨us,A1 h1 hb,fun j hj=>⟨(h2 j hj).1,A1 (h2 j hj).2 hb⟩⟩
theorem A5.kept{w w':World}{base:Nat}{v:Value}{l:List St}{row:Option Nat}(h:A5 w base v l)(hg:w.grownBy w' row)(h1:∀(e s n:Nat) (u:Value) (xs:List Value),e=89\/e=91->w.ownsRow base e s u n xs->u.ownBlock=none\/u.ownBlock≠row):A5 w' base v l:=by
 obtain⟨us,h2,h3⟩:=h;exact⟨us,h2.kept hg (h1 _ _ _ _ _ (.inl rfl) h2),fun j hj=>⟨(h3 j hj).1,(h3 j hj).2.kept hg (h1 _ _ _ _ _ (.inr rfl) (h3 j hj).2)⟩⟩
theorem Dc{w:World}{base:Nat}{e:TypeId}{s n:Nat}{v:Value}{xs:List Value}(h:w.ownsRow base e s v n xs){b o:Nat}(hb:b<base)(u:Value):(w.setCell ⟨b,o,none⟩ u).ownsRow base e s v n xs:=by
 obtain⟨h1,h2⟩:=h;refine⟨h1,?_⟩;rcases h2 with h2|⟨g,cap,cur,hv,hg,hh,r⟩
 .exact .inl h2
 .exact .inr ⟨g,cap,cur,hv,hg,(Below.heap_setCell w ⟨b,o,none⟩ u g (by simp only;omega)).trans hh,r⟩
theorem A5.setCell{w:World}{base:Nat}{v:Value}{l:List St}(h:A5 w base v l){b o:Nat}(hb:b<base)(u:Value):A5 (w.setCell ⟨b,o,none⟩ u) base v l:=by
 obtain⟨us,h1,h2⟩:=h;exact⟨us,Dc h1 hb u,fun j hj=>⟨(h2 j hj).1,Dc (h2 j hj).2 hb u⟩⟩
theorem Ge{us vs:List Value}{i:Nat}(h:i<us.length)(d:Value):(us++vs).getD i d=us.getD i d:=by
 simp[qC,qW h]
theorem Gf{us vs:List Value}(i:Nat)(d:Value):(us++vs).getD (us.length+i) d=vs.getD i d:=by
 rw[qC,qC,List.getElem?_append_right (by omega),show us.length+i-us.length=i by omega]
theorem Ux{l m:List St}{i:Nat}(h:i<l.length):(l++m).getD i st0=l.getD i st0:=by
 simp[qC,qW h]
theorem Uy(l:List St)(x:St):(l++[x]).getD l.length st0=x:=by
 simp[qC]
theorem A5.snoc{w wa w':World}{base:Nat}{v v' u:Value}{l:List St}{x:St}{us:List Value}
  (hus:w.ownsRow base 89 2 v l.length us) (hts:∀j,j<l.length->us.getD (j*2) .nilIface=.int .i64 (l.getD j st0).var/\w.ownsRow base 91 2 (us.getD (j*2+1) .nilIface) (l.getD j st0).val.length (flat (l.getD j st0).val))
  (hu:w.ownsRow base 91 2 u x.val.length (flat x.val)) (ha:∃o,wa=w.alloc o) (hg:wa.grownBy w' v.ownBlock) (ho:w'.ownsRow base 89 2 v' (l.length+1) (us++[.int .i64 x.var,u])):A5 w' base v' (l++[x]):=by
 obtain⟨o,rfl⟩:=ha;have hl:us.length=l.length*2:=by simpa using hus.1
 refine⟨us++[.int .i64 x.var,u],by simpa using ho,fun j hj=>?_⟩;by_cases hlt:j<l.length
 .rw[Ge (by omega),Ge (by omega),Ux hlt];obtain⟨h0,h1⟩:=hts j hlt;have h1:=h1.alloc o;exact⟨h0,h1.kept hg (EY (by decide) h1 (hus.alloc o))⟩
 .have hj':j=l.length:=by simp at hj;omega
  subst hj';rw[Uy,show l.length*2=us.length+0 by omega,Gf,show us.length+0+1=us.length+1 by omega,Gf];have h1:=hu.alloc o;exact⟨rfl,h1.kept hg (EY (by decide) h1 (hus.alloc o))⟩
theorem A5.setsV{w:World}{base:Nat}{v:Value}{l:List St}(h:A5 w base v l):SetsV w v l:=by
 obtain⟨us,h1,h2⟩:=h;have hl:us.length=l.length*2:=by simpa using h1.1
 rcases h1.2 with⟨rfl,h0⟩|⟨g,cap,cur,rfl,hbg,hg,hnc,_⟩
 .exact ⟨none,0,by rw[h0],⟨by omega,fun _=>⟨rfl,h0⟩⟩,fun h=>by omega⟩
 .refine ⟨_,cap,rfl,⟨hnc,fun h=>by simp at h⟩,fun _=>⟨g,0,rfl,(qG.1 hg).1,fun i hi=>?_⟩⟩;obtain⟨h3,h4⟩:=h2 i hi;rw[qU];refine⟨?_,us.getD (i*2+1) .nilIface,?_,Gx h4⟩
  .rw[h1.cellAt _ (by omega),<-h3];simp[qC,show i*2<us.length by omega]
  .rw[h1.cellAt _ (by omega)];simp[qC,show i*2+1<us.length by omega]
def Cb(w:World)(base:Nat)(v:Value)(l:List Ru):Prop:=
 ∃us:List Value,w.ownsRow base 87 2 v l.length us/\∀j,j<l.length->w.ownsRow base 91 2 (us.getD (j*2) .nilIface) (l.getD j ru0).guard.length (flat (l.getD j ru0).guard)/\A5 w base (us.getD (j*2+1) .nilIface) (l.getD j ru0).sets
theorem Cb.nil(w:World)(base:Nat):Cb w base (.slice none 0 0) []:=⟨[],World.ownsRow_nil _ _ _ _,fun j hj=>by simp at hj⟩
theorem Cb.setCell{w:World}{base:Nat}{v:Value}{l:List Ru}(h:Cb w base v l){b o:Nat}(hb:b<base)(u:Value):Cb (w.setCell ⟨b,o,none⟩ u) base v l:=by
 obtain⟨us,h1,h2⟩:=h;exact⟨us,Dc h1 hb u,fun j hj=>⟨Dc (h2 j hj).1 hb u,(h2 j hj).2.setCell hb u⟩⟩
theorem Ms{l m:List Ru}{i:Nat}(h:i<l.length):(l++m).getD i ru0=l.getD i ru0:=by
 simp[qC,qW h]
theorem Mt(l:List Ru)(x:Ru):(l++[x]).getD l.length ru0=x:=by
 simp[qC]
theorem Cb.snoc{w wa w':World}{base:Nat}{v v' gu su:Value}{l:List Ru}{x:Ru}{us:List Value}
  (hus:w.ownsRow base 87 2 v l.length us) (hts:∀j,j<l.length->w.ownsRow base 91 2 (us.getD (j*2) .nilIface) (l.getD j ru0).guard.length (flat (l.getD j ru0).guard)/\A5 w base (us.getD (j*2+1) .nilIface) (l.getD j ru0).sets)
  (hgu:w.ownsRow base 91 2 gu x.guard.length (flat x.guard)) (hsu:A5 w base su x.sets) (ha:∃o,wa=w.alloc o) (hg:wa.grownBy w' v.ownBlock) (ho:w'.ownsRow base 87 2 v' (l.length+1) (us++[gu,su])):Cb w' base v' (l++[x]):=by
 obtain⟨o,rfl⟩:=ha;have hl:us.length=l.length*2:=by simpa using hus.1
 have hk:∀(e s n:Nat) (u:Value) (xs:List Value),e=89\/e=91->(w.alloc o).ownsRow base e s u n xs->u.ownBlock=none\/u.ownBlock≠v.ownBlock:=fun e s n u xs he h=>EY (by rcases he with rfl|rfl<;>decide) h (hus.alloc o);have hal:∀{u:Value} {m:List St},A5 w base u m->A5 (w.alloc o) base u m:=fun h=>h.later ((Below.refl w.heap.size w).alloc (qB _) o) (qB _);refine⟨us++[gu,su],by simpa using ho,fun j hj=>?_⟩;by_cases hlt:j<l.length
 .rw[Ge (by omega),Ge (by omega),Ms hlt];obtain⟨h0,h1⟩:=hts j hlt;have h0:=h0.alloc o;exact⟨h0.kept hg (EY (by decide) h0 (hus.alloc o)),(hal h1).kept hg hk⟩
 .have hj':j=l.length:=by simp at hj;omega
  subst hj';rw[Mt,show l.length*2=us.length+0 by omega,Gf,show us.length+0+1=us.length+1 by omega,Gf];have h1:=hgu.alloc o;exact⟨h1.kept hg (EY (by decide) h1 (hus.alloc o)),(hal hsu).kept hg hk⟩
theorem Cb.rulesV{w:World}{base:Nat}{v:Value}{l:List Ru}(h:Cb w base v l):RulesV w v l:=by
 obtain⟨us,h1,h2⟩:=h;have hl:us.length=l.length*2:=by simpa using h1.1
 rcases h1.2 with⟨rfl,h0⟩|⟨g,cap,cur,rfl,hbg,hg,hnc,_⟩
 .exact ⟨none,0,by rw[h0],⟨by omega,fun _=>⟨rfl,h0⟩⟩,fun h=>by omega⟩
 .refine ⟨_,cap,rfl,⟨hnc,fun h=>by simp at h⟩,fun _=>⟨g,0,rfl,(qG.1 hg).1,fun i hi=>?_⟩⟩;obtain⟨h3,h4⟩:=h2 i hi;rw[qU];refine⟨⟨us.getD (i*2) .nilIface,?_,Gx h3⟩,us.getD (i*2+1) .nilIface,?_,h4.setsV⟩
  .rw[h1.cellAt _ (by omega)];simp[qC,show i*2<us.length by omega]
  .rw[h1.cellAt _ (by omega)];simp[qC,show i*2+1<us.length by omega]
def CY(l:List Vr):List Value:=l.flatMap fun p=>[.string p.name,.int .i64 p.lo,.int .i64 p.hi,.int .i64 p.ini]
theorem Vm(l:List Vr):∀i,i<l.length->(CY l)[i*4]? = some (.string (l.getD i vr0).name)/\(CY l)[i*4+1]? = some (.int .i64 (l.getD i vr0).lo)/\(CY l)[i*4+2]? = some (.int .i64 (l.getD i vr0).hi)/\(CY l)[i*4+3]? = some (.int .i64 (l.getD i vr0).ini):=by
 induction l with
 |nil=>intro i hi;simp at hi
 |cons p l ih=>
  intro i hi;have e:CY (p::l)=.string p.name:: .int .i64 p.lo:: .int .i64 p.hi:: .int .i64 p.ini::CY l:=rfl;rw[e];cases i with
  |zero=>simp
  |succ i=>
   have:=ih i (by simpa using hi);rw[show(i+1)*4=i*4+1+1+1+1 by omega];simpa using this
theorem Vl{w:World}{base:Nat}{v:Value}{l:List Vr}(h:w.ownsRow base 81 4 v l.length (CY l)):VarsV w v l:=by
 rcases h.2 with⟨rfl,h0⟩|⟨g,cap,cur,rfl,hb,hg,hnc,hcm,hcs,htake⟩
 .exact ⟨none,0,by rw[h0],⟨by omega,fun _=>⟨rfl,h0⟩⟩,fun h=>by omega⟩
 .refine ⟨_,cap,rfl,⟨hnc,fun h=>by simp at h⟩,fun _=>⟨g,0,rfl,(qG.1 hg).1,fun i hi=>?_⟩⟩;obtain⟨f0,f1,f2,f3⟩:=Vm l i hi;refine⟨?_,?_,?_,?_⟩;all_goals rw[qU,h.cellAt _ (by omega)]
  .exact f0
  .exact f1
  .exact f2
  .exact f3
theorem Qz:(qA.info? 81).map (fun i=>(i.zero,i.size,i.bytes))=some (some (.agg #[.string ByteArray.empty,.int .i64 0,.int .i64 0,.int .i64 0]),4,40):=by kernel_rfl
theorem Qy:(qA.info? 89).map (fun i=>(i.zero,i.size,i.bytes))=some (some (.agg #[.int .i64 0,.slice none 0 0]),2,32):=by kernel_rfl
theorem Qx:(qA.info? 87).map (fun i=>(i.zero,i.size,i.bytes))=some (some (.agg #[.slice none 0 0,.slice none 0 0]),2,48):=by kernel_rfl
