import Derived.Test.YtehfhemidmfffaaGreatDoorGrown3
import Derived.Test.YtehfhemidmfffaaGreatDoorModels
namespace Go.Proofs.YtehfhemidmfffaaGreatDoor
open _root_.List renaming append_nil→vT,cons_append→vU,nil_append→v7
open Go.ChangeShapes Go.WideShapes Go.ChangeAt Go.RowKit Go.Deep
open Terms Tm
open _root_.List renaming cons→bJ
open _root_.Prod renaming mk→bK
set_option maxHeartbeats 6400000
set_option maxRecDepth 20000
theorem Tb(T:Tm):∀(T':Tm) (r r':am),T.Wf->T'.Wf->T.ops++r=T'.ops++r'->T=T'/\r=r':=by
 induction T with
 |leaf k v=>
  intro T' r r' h h' he;cases T' with
  |leaf k' v'=>
   simp only[Tm.ops,vU,v7,bJ.injEq,bK.injEq]at he;obtain⟨⟨rfl,rfl⟩,rfl⟩:=he;exact⟨rfl,rfl⟩
  |un k' v' a=>
   simp only[Tm.ops,vU,v7,bJ.injEq,bK.injEq]at he;have h1:=h.2;have h2:=h'.2.1;rw[he.1.1]at h1;omega
  |bi k' v' a b=>
   simp only[Tm.ops,vU,v7,bJ.injEq,bK.injEq]at he;have h1:=h.2;have h2:=h'.2.1;rw[he.1.1]at h1;omega
 |un k v a ih=>
  intro T' r r' h h' he;cases T' with
  |leaf k' v'=>
   simp only[Tm.ops,vU,v7,bJ.injEq,bK.injEq]at he;have h1:=h.2.1;have h2:=h'.2;rw[he.1.1]at h1;omega
  |un k' v' a'=>
   simp only[Tm.ops,vU,bJ.injEq,bK.injEq]at he;obtain⟨⟨rfl,rfl⟩,he⟩:=he;obtain⟨rfl,rfl⟩:=ih _ _ _ h.2.2 h'.2.2 he;exact⟨rfl,rfl⟩
  |bi k' v' a' b'=>
   simp only[Tm.ops,vU,bJ.injEq,bK.injEq]at he;have h1:=h.2.1;have h2:=h'.2.1;rw[he.1.1]at h1;omega
 |bi k v a b iha ihb=>
  intro T' r r' h h' he;cases T' with
  |leaf k' v'=>
   simp only[Tm.ops,vU,v7,bJ.injEq,bK.injEq]at he;have h1:=h.2.1;have h2:=h'.2;rw[he.1.1]at h1;omega
  |un k' v' a'=>
   simp only[Tm.ops,vU,bJ.injEq,bK.injEq]at he;have h1:=h.2.1;have h2:=h'.2.1;rw[he.1.1]at h1;omega
  |bi k' v' a' b'=>
   simp only[Tm.ops,vU,bJ.injEq,bK.injEq,List.append_assoc]at he;obtain⟨⟨rfl,rfl⟩,he⟩:=he;obtain⟨rfl,he2⟩:=iha _ _ _ h.2.2.1 h'.2.2.1 he;obtain⟨rfl,rfl⟩:=ihb _ _ _ h.2.2.2 h'.2.2.2 he2;exact⟨rfl,rfl⟩
theorem WO{T:Tm}(h:T.Wf)(h60:T.size<=60):C0 T.ops=T:=by
 obtain⟨h1,h2⟩:=KA T.ops (KB h h60);exact(Tb (C0 T.ops) T [] [] h1 h (by rw[vT,vT,h2])).1
theorem Gt{vars:Int}{T:Tm}(h0:0<=vars)(h6:vars<=6)(hg:T.Good vars)(h60:T.size<=60)(ht:T.typed=true)(tr:Bool):kcode vars T.ops tr=if mkT T.kind=tr then 0 else 5:=by
 unfold kcode;rw[WO hg.wf h60,XG h0 h6 hg h60,aj ht,aj rfl]
theorem NumT.treeV{vars:Int}{d:Nat}{t:am}(h:NumT vars d t):∃T:Tm,T.ops=t/\T.Good vars/\T.typed=true/\mkT T.kind=false:=by
 induction h with
 |var d v h0 h1=>exact⟨.leaf 2 v,rfl,.inr (.inl ⟨rfl,h0,by omega⟩),rfl,rfl⟩
 |num d v h0 h1=>exact⟨.leaf 1 v,rfl,.inl ⟨rfl,by omega,by omega⟩,rfl,rfl⟩
 |bin d k a b h3 h5 _ _ iha ihb=>
  obtain⟨A,a1,a2,a3,a4⟩:=iha;obtain⟨B,b1,b2,b3,b4⟩:=ihb;have hk:k=3\/k=4\/k=5:=by omega
  refine⟨.bi k 0 A B,by simp[Tm.ops,a1,b1],⟨h3,by omega,rfl,a2,b2⟩,?_,?_⟩
  .have ht:Tm.tkT k=false:=by rcases hk with rfl|rfl|rfl<;>rfl
   simp[Tm.typed,a3,b3,a4,b4,ht]
  .rcases hk with rfl|rfl|rfl<;>rfl
theorem TruT.treeV{vars:Int}{d:Nat}{t:am}(h:TruT vars d t):∃T:Tm,T.ops=t/\T.Good vars/\T.typed=true/\mkT T.kind=true:=by
 induction h with
 |lit d k h1 h2=>
  have hk:k=11\/k=12:=by omega
  exact⟨.leaf k 0,rfl,.inr (.inr ⟨hk,rfl⟩),rfl,by rcases hk with rfl|rfl<;>rfl⟩
 |cmp d k a b h6 h7 ha hb=>
  obtain⟨A,a1,a2,a3,a4⟩:=ha.treeV;obtain⟨B,b1,b2,b3,b4⟩:=hb.treeV;have hk:k=6\/k=7:=by omega
  refine⟨.bi k 0 A B,by simp[Tm.ops,a1,b1],⟨by omega,by omega,rfl,a2,b2⟩,?_,?_⟩
  .have ht:Tm.tkT k=false:=by rcases hk with rfl|rfl<;>rfl
   simp[Tm.typed,a3,b3,a4,b4,ht]
  .rcases hk with rfl|rfl<;>rfl
 |not d a _ iha=>
  obtain⟨A,a1,a2,a3,a4⟩:=iha;refine⟨.un 10 0 A,by simp[Tm.ops,a1],⟨rfl,rfl,a2⟩,?_,rfl⟩;have ht:Tm.tkT 10=true:=rfl;simp[Tm.typed,a3,a4,ht]
 |bin d k a b h8 h9 _ _ iha ihb=>
  obtain⟨A,a1,a2,a3,a4⟩:=iha;obtain⟨B,b1,b2,b3,b4⟩:=ihb;have hk:k=8\/k=9:=by omega
  refine⟨.bi k 0 A B,by simp[Tm.ops,a1,b1],⟨by omega,by omega,rfl,a2,b2⟩,?_,?_⟩
  .have ht:Tm.tkT k=true:=by rcases hk with rfl|rfl<;>rfl
   simp[Tm.typed,a3,b3,a4,b4,ht]
  .rcases hk with rfl|rfl<;>rfl
theorem NumT.kcode{vars:Int}{d:Nat}{t:am}(h:NumT vars d t)(h0:0<=vars)(h6:vars<=6)(hl:t.length<=60):kcode vars t false=0:=by
 obtain⟨T,rfl,h2,h3,h4⟩:=h.treeV;rw[ops_length]at hl;rw[Gt h0 h6 h2 hl h3,aj h4]
theorem TruT.kcode{vars:Int}{d:Nat}{t:am}(h:TruT vars d t)(h0:0<=vars)(h6:vars<=6)(hl:t.length<=60):kcode vars t true=0:=by
 obtain⟨T,rfl,h2,h3,h4⟩:=h.treeV;rw[ops_length]at hl;rw[Gt h0 h6 h2 hl h3,aj h4]
theorem Wk{vars v:Int}(h0:0<=v)(h1:v<=vars-1)(h6:vars<=6):kcode vars [(2,v)] false=0:=by
 have:=Gt (T:=.leaf 2 v) (vars:=vars) (by omega) h6 (.inr (.inl ⟨rfl,h0,h1⟩)) (by simp[Tm.size]) rfl false;simpa[Tm.ops,Tm.kind,mkT]using this
