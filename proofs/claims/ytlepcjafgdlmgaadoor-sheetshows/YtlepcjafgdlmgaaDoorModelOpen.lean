import Derived.Test.YtlepcjafgdlmgaaDoorModelMem
import Derived.Test.YtlepcjafgdlmgaaDoorRow
import Derived.Lib.SmallJoins
namespace Go.Proofs.YtlepcjafgdlmgaaDoor
open Go.ChangeShapes Go.WideShapes Go.ChangeAt Go.RowKit Go.Deep Go.Joins
open Terms Tm
set_option maxHeartbeats 6400000
set_option maxRecDepth 20000
instance:Inhabited St:=⟨st0⟩
instance:Inhabited Ru:=⟨ru0⟩
instance:Inhabited Vr:=⟨vr0⟩
theorem cellsOps:Tryd.prog.cellsOf 27=1:=by kernel_rfl
theorem cellsSet:Tryd.prog.cellsOf 64=2:=by kernel_rfl
theorem bytesSet:Tryd.prog.bytesOf 64=32:=by kernel_rfl
theorem cellsSets:Tryd.prog.cellsOf 59=1:=by kernel_rfl
theorem cellsRule:Tryd.prog.cellsOf 61=2:=by kernel_rfl
theorem bytesRule:Tryd.prog.bytesOf 61=48:=by kernel_rfl
theorem cellsVar:Tryd.prog.cellsOf 57=4:=by kernel_rfl
theorem bytesVar:Tryd.prog.bytesOf 57=40:=by kernel_rfl
theorem cellsStr:Tryd.prog.cellsOf 9=1:=by kernel_rfl
theorem cellsModel:Tryd.prog.cellsOf 25=2:=by kernel_rfl
section
variable {H : Type} {enc : TypeId × Value -> H} {W : World}
def LightD (t:TypeId) (d:DataW H):Prop:=∀ n∈d.weights Tryd.prog t,n <= reachBytes
theorem mem_weightsAll {P:Program} {e:TypeId} {x:DataW H} {n:Nat} (hn:n∈x.weights P e):∀ {l:List (DataW H)},x∈l->n∈DataW.weightsAll P e l
 | y:: l,hx=>by
  simp only [DataW.weightsAll,List.mem_append]
  rcases List.mem_cons.1 hx with rfl | hx
  ·exact .inl hn
  ·exact .inr (mem_weightsAll hn hx)
theorem LightD.slice {t e:TypeId} {elems spare:List (DataW H)} (hu:Tryd.prog.underlying t=some (.slice e)) (h:LightD t (.slice elems spare)):(elems.length+spare.length)*Tryd.prog.bytesOf e <= reachBytes/\∀ x∈elems,LightD e x:=by
 refine ⟨h _ (by simp [DataW.weights,hu]),fun x hx n hn=>h n ?_⟩
 simp only [DataW.weights,hu,List.mem_cons,List.mem_append];exact .inr (.inl (mem_weightsAll hn hx))
theorem LightD.agg2 {t:TypeId} {f0 f1:Field} {x0 x1:DataW H} (hu:Tryd.prog.underlying t=some (.struct #[f0,f1])) (h:LightD t (.agg [x0,x1])):LightD f0.type x0/\LightD f1.type x1:=by
 refine ⟨fun n hn=>h n ?_,fun n hn=>h n ?_⟩
 ·simp [DataW.weights,hu,DataW.weightsEach,hn]
 ·simp [DataW.weights,hu,DataW.weightsEach,hn]
theorem open_ops_c {fuel:Nat} {v:Value} {d:DataW H} {p:List MemPlace} (hf:DataW.trod enc Tryd.prog W 0 (fun _=>true) true fuel 27 [v]=some (d,p)) (hw:LightD 27 d):∃ l,OpsV W v l/\l.length*16 <= 140737488355328:=by
 rcases open_slice_pairs Tryd.underlying27 Tryd.underlying77 cellsOp rfl rfl cellsInt cellsInt hf with ⟨hcs,hx⟩ | ⟨a,len,cap,m,n,V0,V1,D0,D1,P0,P1,hcs,_,hl,hm,hmm,hx,hcell⟩
 ·simp at hcs
  subst hcs;exact ⟨[],⟨none,0,rfl,⟨by simp,fun _=>⟨rfl,rfl⟩⟩,fun h=>absurd rfl h⟩,by simp⟩
 ·simp at hcs
  subst hcs;simp at hmm
  subst hmm;rw [(Prod.mk.inj hx).1] at hw;have hs:=(hw.slice Tryd.underlying27).1;rw [bytesOp] at hs;simp only [List.length_map,List.length_range,reachBytes] at hs;refine ⟨(List.range len).map fun i=>(intOf (V0 i),intOf (V1 i)),⟨some a,m,by simp,⟨by simp;omega,fun h=>by simp at h⟩,fun hne=>?_⟩,by simp;omega⟩
  have hpos:0 < len:=by
   rcases Nat.eq_zero_or_pos len with h0 | h0
   ·subst h0;simp at hne
   ·exact h0
  obtain ⟨b,off,spot⟩:=a;have hspot:spot=none:=by simpa [Addr.add] using World.cell?_spot (hcell 0 (by omega)).1
  subst hspot;refine ⟨b,off,rfl,?_,fun i hi=>?_⟩
  ·have:=World.block_lt_of_cell? W _ (hcell 0 (by omega)).1
   simpa [Addr.add] using this
  ·simp only [List.length_map,List.length_range] at hi
   obtain ⟨c0,c1,t0,t1⟩:=hcell i (by omega)
   rw [add_plain] at c0 c1;obtain ⟨x0,e0,_,_⟩:=DataW.trod_int Tryd.underlying3 t0;obtain ⟨x1,e1,_,_⟩:=DataW.trod_int Tryd.underlying3 t1;simp at e0 e1
   rw [e0] at c0;rw [e1] at c1;rw [show off+(i*2+1)=off+i*2+1 by omega] at c1
   rw [c0,c1];simp [List.getD_eq_getElem?_getD,hi,e0,e1,intOf]
theorem getD_range {α:Type} (f:Nat->α) (d:α) {n i:Nat} (hi:i < n):((List.range n).map f).getD i d=f i:=by simp [List.getD_eq_getElem?_getD,hi]
theorem slV_of_pairs {α:Type} [Inhabited α] {a:Addr} {len cap:Nat} {V0 V1:Nat->Value} {R:Value->Value->α->Prop} (d:α) (hl:len <= cap)
  (hcell:∀ i,i < len->W.cell? (a.add (i*2))=some (V0 i)/\W.cell? (a.add (i*2+1))=some (V1 i)/\∃ x,R (V0 i) (V1 i) x) :
  ∃ l:List α,l.length=len/\(∀ i,i < len->R (V0 i) (V1 i) (l.getD i d))/\SlV W (.slice (some a) len cap) l.length fun b off i=>∃ u0 u1,W.cell? ⟨b,off+i*2,none⟩=some u0/\W.cell? ⟨b,off+i*2+1,none⟩=some u1/\R u0 u1 (l.getD i d):=by
 obtain ⟨f,hf⟩:=choose_lt (fun i hi=>(hcell i hi).2.2)
 refine ⟨(List.range len).map f,by simp,fun i hi=>by rw [getD_range f d hi];exact hf i hi,some a,cap,by simp,⟨by simpa using hl,fun h=>by simp at h⟩,fun hpos=>?_⟩
 simp only [List.length_map,List.length_range] at hpos ⊢;obtain ⟨b,off,spot⟩:=a;have hspot:spot=none:=by simpa [Addr.add] using World.cell?_spot (hcell 0 hpos).1
 subst hspot;refine ⟨b,off,rfl,?_,fun i hi=>?_⟩
 ·have:=World.block_lt_of_cell? W _ (hcell 0 hpos).1
  simpa [Addr.add] using this
 ·obtain ⟨c0,c1,_⟩:=hcell i hi
  rw [add_plain] at c0 c1;exact ⟨V0 i,V1 i,c0,by rw [<- c1];rfl,by rw [getD_range f d hi];exact hf i hi⟩
theorem open_sets_c {fuel:Nat} {v:Value} {d:DataW H} {p:List MemPlace} (hf:DataW.trod enc Tryd.prog W 0 (fun _=>true) true fuel 59 [v]=some (d,p)) (hw:LightD 59 d) :
    ∃ l,SetsV W v l/\l.length*32 <= 140737488355328/\∀ j,j < l.length->StSz (l.getD j st0):=by
  rcases open_slice_pairs Tryd.underlying59 Tryd.underlying64 cellsSet rfl rfl cellsInt cellsOps hf with ⟨hcs,hx⟩ | ⟨a,len,cap,m,n,V0,V1,D0,D1,P0,P1,hcs,_,hl,hm,hmm,hx,hcell⟩
  · simp at hcs
    subst hcs;exact ⟨[],⟨none,0,rfl,⟨by simp,fun _=>⟨rfl,rfl⟩⟩,fun h=>by simp at h⟩,by simp,fun j hj=>by simp at hj⟩
  · simp at hcs
    subst hcs;simp at hmm
    subst hmm;rw [(Prod.mk.inj hx).1] at hw;obtain ⟨hs,hel⟩:=hw.slice Tryd.underlying59;rw [bytesSet] at hs;simp only [List.length_map,List.length_range,reachBytes] at hs
    obtain ⟨l,hlen,hR,hS⟩:=slV_of_pairs (W:=W) (α:=St) (a:=a) (len:=len) (cap:=m) (V0:=V0) (V1:=V1) (R:=fun u0 u1 s=>u0=.int .i64 s.var/\OpsV W u1 s.val/\StSz s) st0 hl (fun i hi=>by
      obtain ⟨c0,c1,t0,t1⟩:=hcell i (by omega)
      have hwi:=hel (.agg [D0 i,D1 i]) (by simp only [List.mem_map,List.mem_range];exact ⟨i,hi,rfl⟩)
      obtain ⟨_,w1⟩:=hwi.agg2 Tryd.underlying64;obtain ⟨x0,e0,_,_⟩:=DataW.trod_int Tryd.underlying3 t0;simp at e0
      obtain ⟨l,h1,h2⟩:=open_ops_c t1 w1
      exact ⟨c0,c1,⟨x0,l⟩,e0,h1,h2⟩)
    refine ⟨l,?_,by omega,fun j hj=>(hR j (by omega)).2.2⟩
    rw [<- hlen] at hS ⊢;exact SlV.imp hS (Nat.le_refl _) fun b off i _ _ ⟨u0,u1,c0,c1,e0,h1,_⟩=>⟨by rw [c0,e0],u1,c1,h1⟩
theorem open_rules_c {fuel:Nat} {v:Value} {d:DataW H} {p:List MemPlace} (hf:DataW.trod enc Tryd.prog W 0 (fun _=>true) true fuel 23 [v]=some (d,p)) (hw:LightD 23 d) :
    ∃ l,RulesV W v l/\l.length*48 <= 140737488355328/\∀ j,j < l.length->RuSz (l.getD j ru0):=by
  rcases open_slice_pairs Tryd.underlying23 Tryd.underlying61 cellsRule rfl rfl cellsOps cellsSets hf with ⟨hcs,hx⟩ | ⟨a,len,cap,m,n,V0,V1,D0,D1,P0,P1,hcs,_,hl,hm,hmm,hx,hcell⟩
  · simp at hcs
    subst hcs;exact ⟨[],⟨none,0,rfl,⟨by simp,fun _=>⟨rfl,rfl⟩⟩,fun h=>by simp at h⟩,by simp,fun j hj=>by simp at hj⟩
  · simp at hcs
    subst hcs;simp at hmm
    subst hmm;rw [(Prod.mk.inj hx).1] at hw;obtain ⟨hs,hel⟩:=hw.slice Tryd.underlying23;rw [bytesRule] at hs;simp only [List.length_map,List.length_range,reachBytes] at hs
    obtain ⟨l,hlen,hR,hS⟩:=slV_of_pairs (W:=W) (α:=Ru) (a:=a) (len:=len) (cap:=m) (V0:=V0) (V1:=V1) (R:=fun u0 u1 r=>OpsV W u0 r.guard/\SetsV W u1 r.sets/\RuSz r) ru0 hl (fun i hi=>by
      obtain ⟨c0,c1,t0,t1⟩:=hcell i (by omega)
      have hwi:=hel (.agg [D0 i,D1 i]) (by simp only [List.mem_map,List.mem_range];exact ⟨i,hi,rfl⟩)
      obtain ⟨w0,w1⟩:=hwi.agg2 Tryd.underlying61;obtain ⟨l,h1,h2⟩:=open_ops_c t0 w0;obtain ⟨s,h3,h4⟩:=open_sets_c t1 w1
      exact ⟨c0,c1,⟨l,s⟩,h1,h3,h2,h4⟩)
    refine ⟨l,?_,by omega,fun j hj=>(hR j (by omega)).2.2⟩
    rw [<- hlen] at hS ⊢;exact SlV.imp hS (Nat.le_refl _) fun b off i _ _ ⟨u0,u1,c0,c1,e0,h1,_⟩=>⟨⟨u0,c0,e0⟩,u1,c1,h1⟩
theorem open_vars_c {fuel:Nat} {v:Value} {d:DataW H} {p:List MemPlace} (hf:DataW.trod enc Tryd.prog W 0 (fun _=>true) true fuel 22 [v]=some (d,p)) (hw:LightD 22 d) :
    ∃ l,VarsV W v l/\l.length*40 <= 140737488355328:=by
  rcases open_slice Tryd.underlying22 hf with ⟨hcs,hx⟩ | ⟨a,len,cap,m,n,D,Pl,hcs,_,hl,hm,hmm,hx,hcell⟩
  · simp at hcs
    subst hcs;exact ⟨[],⟨none,0,rfl,⟨by simp,fun _=>⟨rfl,rfl⟩⟩,fun h=>by simp at h⟩,by simp⟩
  · simp at hcs
    subst hcs;simp at hmm
    subst hmm;rw [(Prod.mk.inj hx).1] at hw;obtain ⟨hs,hel⟩:=hw.slice Tryd.underlying22;rw [bytesVar] at hs;simp only [List.length_map,List.length_range,reachBytes] at hs
    have hall:∀ i,i < len->∃ x:Vr,W.cell? (a.add (i*4))=some (.string x.name)/\W.cell? (a.add (i*4+1))=some (.int .i64 x.lo)/\W.cell? (a.add (i*4+2))=some (.int .i64 x.hi)/\W.cell? (a.add (i*4+3))=some (.int .i64 x.ini):=fun i hi=>by
      obtain ⟨cs',h1,h2⟩:=hcell i (by omega)
      rw [cellsVar] at h1;obtain ⟨_,hlen,hc⟩:=World.cells?_some h1
      obtain ⟨y0,y1,y2,y3,k,_,_,g0,g1,g2,g3⟩:=trod_struct4 Tryd.underlying57 h2
      match cs',hlen with
      | [v0,v1,v2,v3],_=>
        simp [cellsStr,cellsInt] at g0 g1 g2 g3
        obtain ⟨s,e0,_,_⟩:=DataW.trod_string Tryd.underlying9 g0;obtain ⟨x1,e1,_,_⟩:=DataW.trod_int Tryd.underlying3 g1;obtain ⟨x2,e2,_,_⟩:=DataW.trod_int Tryd.underlying3 g2;obtain ⟨x3,e3,_,_⟩:=DataW.trod_int Tryd.underlying3 g3;simp at e0 e1 e2 e3
        subst e0 e1 e2 e3;have c0:=hc 0 (by omega)
        have c1:=hc 1 (by omega)
        have c2:=hc 2 (by omega)
        have c3:=hc 3 (by omega)
        rw [add_add] at c0 c1 c2 c3;exact ⟨⟨s,x1,x2,x3⟩,by simpa using c0,by simpa using c1,by simpa using c2,by simpa using c3⟩
    obtain ⟨f,hff⟩:=choose_lt hall;refine ⟨(List.range len).map f,⟨some a,m,by simp,⟨by simpa using hl,fun h=>by simp at h⟩,fun hpos=>?_⟩,by simp;omega⟩
    simp only [List.length_map,List.length_range] at hpos ⊢;obtain ⟨b,off,spot⟩:=a;have hspot:spot=none:=by simpa [Addr.add] using World.cell?_spot (hff 0 hpos).1
    subst hspot;refine ⟨b,off,rfl,?_,fun i hi=>?_⟩
    · have:=World.block_lt_of_cell? W _ (hff 0 hpos).1
      simpa [Addr.add] using this
    · obtain ⟨c0,c1,c2,c3⟩:=hff i hi
      rw [add_plain] at c0 c1 c2 c3;rw [getD_range f vr0 hi];exact ⟨c0,c1,c2,c3⟩
end
