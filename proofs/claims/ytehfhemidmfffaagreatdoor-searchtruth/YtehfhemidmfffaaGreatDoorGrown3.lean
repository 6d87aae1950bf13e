import Derived.Test.YtehfhemidmfffaaGreatDoorGrown2
namespace Go.Proofs.YtehfhemidmfffaaGreatDoor
open _root_.List renaming length_map→qM,length_range→vB
open Go.Proofs.Tryz renaming prog→qA
open Go.ChangeShapes Go.WideShapes Go.ChangeAt Go.RowKit Go.Deep
open Terms
open Go.Proofs.Tryz renaming underlying26→bG,underlying3→bI
open IntKind renaming bits→bC,max→bD,min→bE,signed→bF
set_option maxHeartbeats 6400000
set_option maxRecDepth 20000
theorem Kz:qA.cellsOf 132=2:=by kernel_rfl
theorem Kt:qA.bytesOf 132=16:=by kernel_rfl
theorem TX{H:Type}{enc:TypeId×Value->H}{W:World}{base:Nat}{v:Value}{d:DataW H}{p:List MemPlace}{ts:List TypeId}{ds:List (DataW H)}{j:Nat}
  (hv:Value.okWide qA W .any base 26 v) (h:DataW.Trod enc qA W 0 (fun _=>true) true 26 v d p)
  (hsz:(DataW.weightsEach qA ts ds).all (·<=reachBytes)=true) (ht:ts[j]? = some 26) (hd:ds[j]? = some d):∃rs,Raws W W.heap.size v rs:=by
 obtain⟨a0,len,cap,rfl⟩:=okWide_slice bG hv;obtain⟨fuel,hf⟩:=h;rcases open_slice_pairs bG Tryz.underlying132 Kz rfl rfl Dj Dj hf with⟨hcs,hx⟩|⟨a,len',cap',m,n,V0,V1,D0,D1,P0,P1,hcs,_,hl,hm,hmm,hx,hcell⟩
 .simp[Value.cells]at hcs;obtain⟨rfl,rfl,rfl⟩:=hcs;exact⟨[],⟨⟨none,0,rfl,fun h=>absurd rfl h⟩,by simp,fun i hi=>by simp at hi⟩⟩
 .simp[Value.cells]at hcs;obtain⟨rfl,rfl,rfl⟩:=hcs;simp at hmm;subst hmm;have hd2:ds[j]? = some (.slice ((List.range len).map fun i=>.agg [D0 i,D1 i]) ((List.range (m-len)).map fun j=>.agg [D0 (len+j),D1 (len+j)])):=by rw[hd,(Prod.mk.inj hx).1]
  have hs:=sized_slice hsz ht hd2 bG;rw[Kt]at hs;simp only[qM,vB,reachBytes]at hs;have hget:∀i,i<len->(((List.range len).map fun i=>(intOf (V0 i),intOf (V1 i))).getD i (0,0))=(intOf (V0 i),intOf (V1 i)):=fun i hi=>by simp[List.getD_eq_getElem?_getD,hi]
  have each:∀i,i<len->∃x0 x1,W.cell? (a.add (i*2))=some (.int .i64 x0)/\W.cell? (a.add (i*2+1))=some (.int .i64 x1)/\V0 i=.int .i64 x0/\V1 i=.int .i64 x1/\I64 x0/\I64 x1:=by
   intro i hi;obtain⟨c0,c1,t0,t1⟩:=hcell i (by omega);obtain⟨x0,e0,_,w0⟩:=DataW.trod_int bI t0;obtain⟨x1,e1,_,w1⟩:=DataW.trod_int bI t1;simp at e0 e1;refine⟨x0,x1,by rw[c0,e0],by rw[c1,e1],e0,e1,?_,?_⟩
   .simpa[I64,Lit.wf,bE,bD,bF,bC]using w0
   .simpa[I64,Lit.wf,bE,bD,bF,bC]using w1
  refine⟨(List.range len).map fun i=>(intOf (V0 i),intOf (V1 i)),⟨⟨some a,m,by simp,fun hne=>?_⟩,by simp;omega,fun i hi=>?_⟩⟩
  .have hpos:0<len:=by
    rcases Nat.eq_zero_or_pos len with h0|h0
    .subst h0;simp at hne
    .exact h0
   obtain⟨b,off,spot⟩:=a;have hspot:spot=none:=by simpa[Addr.add]using World.cell?_spot (hcell 0 (by omega)).1
   subst hspot;refine⟨b,off,rfl,?_,fun i hi=>?_⟩
   .have:=World.block_lt_of_cell? W _ (hcell 0 (by omega)).1;simpa[Addr.add]using this
   .simp only[qM,vB]at hi;obtain⟨x0,x1,c0,c1,e0,e1,_,_⟩:=each i hi;rw[add_plain]at c0 c1;rw[show off+(i*2+1)=off+i*2+1 by omega]at c1;rw[hget i hi,e0,e1];exact⟨c0,c1⟩
  .simp only[qM,vB]at hi;obtain⟨x0,x1,_,_,e0,e1,h0,h1⟩:=each i hi;rw[hget i hi,e0,e1];exact⟨h0,h1⟩
