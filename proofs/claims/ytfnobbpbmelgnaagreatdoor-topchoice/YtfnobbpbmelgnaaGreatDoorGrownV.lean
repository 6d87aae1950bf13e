import Derived.Test.YtfnobbpbmelgnaaGreatDoorGrown
import Derived.Test.YtfnobbpbmelgnaaGreatDoorModels
namespace Go.Proofs.YtfnobbpbmelgnaaGreatDoor
open Go.ChangeShapes Go.WideShapes Go.ChangeAt Go.RowKit Go.Deep
open Terms Tm
set_option maxHeartbeats 6400000
set_option maxRecDepth 20000
theorem ops_inj (T:Tm):∀ (T':Tm) (r r':List (Int × Int)),T.Wf->T'.Wf->T.ops++r=T'.ops++r'->T=T'/\r=r':=by
 induction T with
 | leaf k v=>
  intro T' r r' h h' he
  cases T' with
  | leaf k' v'=>
   simp only [Tm.ops,List.cons_append,List.nil_append,List.cons.injEq,Prod.mk.injEq] at he;obtain ⟨⟨rfl,rfl⟩,rfl⟩:=he;exact ⟨rfl,rfl⟩
  | un k' v' a=>
   simp only [Tm.ops,List.cons_append,List.nil_append,List.cons.injEq,Prod.mk.injEq] at he;have h1:=h.2;have h2:=h'.2.1
   rw [he.1.1] at h1;omega
  | bi k' v' a b=>
   simp only [Tm.ops,List.cons_append,List.nil_append,List.cons.injEq,Prod.mk.injEq] at he;have h1:=h.2;have h2:=h'.2.1
   rw [he.1.1] at h1;omega
 | un k v a ih=>
  intro T' r r' h h' he
  cases T' with
  | leaf k' v'=>
   simp only [Tm.ops,List.cons_append,List.nil_append,List.cons.injEq,Prod.mk.injEq] at he;have h1:=h.2.1;have h2:=h'.2
   rw [he.1.1] at h1;omega
  | un k' v' a'=>
   simp only [Tm.ops,List.cons_append,List.cons.injEq,Prod.mk.injEq] at he;obtain ⟨⟨rfl,rfl⟩,he⟩:=he;obtain ⟨rfl,rfl⟩:=ih _ _ _ h.2.2 h'.2.2 he;exact ⟨rfl,rfl⟩
  | bi k' v' a' b'=>
   simp only [Tm.ops,List.cons_append,List.cons.injEq,Prod.mk.injEq] at he;have h1:=h.2.1;have h2:=h'.2.1
   rw [he.1.1] at h1;omega
 | bi k v a b iha ihb=>
  intro T' r r' h h' he
  cases T' with
  | leaf k' v'=>
   simp only [Tm.ops,List.cons_append,List.nil_append,List.cons.injEq,Prod.mk.injEq] at he;have h1:=h.2.1;have h2:=h'.2
   rw [he.1.1] at h1;omega
  | un k' v' a'=>
   simp only [Tm.ops,List.cons_append,List.cons.injEq,Prod.mk.injEq] at he;have h1:=h.2.1;have h2:=h'.2.1
   rw [he.1.1] at h1;omega
  | bi k' v' a' b'=>
   simp only [Tm.ops,List.cons_append,List.cons.injEq,Prod.mk.injEq,List.append_assoc] at he;obtain ⟨⟨rfl,rfl⟩,he⟩:=he;obtain ⟨rfl,he2⟩:=iha _ _ _ h.2.2.1 h'.2.2.1 he;obtain ⟨rfl,rfl⟩:=ihb _ _ _ h.2.2.2 h'.2.2.2 he2;exact ⟨rfl,rfl⟩
theorem treeOf_ops {T:Tm} (h:T.Wf) (h60:T.size <= 60):treeOf T.ops=T:=by
 obtain ⟨h1,h2⟩:=treeOf_spec T.ops (tree_code h h60);exact (ops_inj (treeOf T.ops) T [] [] h1 h (by rw [List.append_nil,List.append_nil,h2])).1
theorem kcode_tree {vars:Int} {T:Tm} (h0:0 <= vars) (h6:vars <= 6) (hg:T.Good vars) (h60:T.size <= 60) (ht:T.typed=true) (tr:Bool):kcode vars T.ops tr=if mkT T.kind=tr then 0 else 5:=by
 unfold kcode;rw [treeOf_ops hg.wf h60,xcode_good h0 h6 hg h60,if_pos ht,if_pos rfl]
