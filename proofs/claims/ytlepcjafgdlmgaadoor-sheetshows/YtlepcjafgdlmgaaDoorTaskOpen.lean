import Derived.Test.YtlepcjafgdlmgaaDoorModelOpen
namespace Go.Proofs.YtlepcjafgdlmgaaDoor
open Go.ChangeShapes Go.WideShapes Go.ChangeAt Go.RowKit Go.Deep Go.Joins
open Terms Tm
set_option maxHeartbeats 6400000
set_option maxRecDepth 20000
theorem cellsTask:Tryd.prog.cellsOf 29=4:=by kernel_rfl
theorem cellsTerms:Tryd.prog.cellsOf 26=1:=by kernel_rfl
theorem cellsVars':Tryd.prog.cellsOf 22=1:=by kernel_rfl
theorem cellsRules':Tryd.prog.cellsOf 23=1:=by kernel_rfl
section
variable {H : Type} {enc : TypeId × Value -> H} {W : World}
theorem LightD.agg3 {t:TypeId} {f0 f1 f2:Field} {x0 x1 x2:DataW H} (hu:Tryd.prog.underlying t=some (.struct #[f0,f1,f2])) (h:LightD t (.agg [x0,x1,x2])):LightD f0.type x0/\LightD f1.type x1/\LightD f2.type x2:=by
 refine ⟨fun n hn=>h n ?_,fun n hn=>h n ?_,fun n hn=>h n ?_⟩
 ·simp [DataW.weights,hu,DataW.weightsEach,hn]
 ·simp [DataW.weights,hu,DataW.weightsEach,hn]
 ·simp [DataW.weights,hu,DataW.weightsEach,hn]
theorem open_terms_c {fuel:Nat} {v:Value} {d:DataW H} {p:List MemPlace} (hf:DataW.trod enc Tryd.prog W 0 (fun _=>true) true fuel 26 [v]=some (d,p)) (hw:LightD 26 d):∃ l,TermsV W v l/\l.length*24 <= 140737488355328/\∀ i,i < l.length->(l.getD i []).length*16 <= 140737488355328:=by
 rcases open_slice1 Tryd.underlying26 cellsOps hf with ⟨hcs,hx⟩ | ⟨a,len,cap,m,n,V,D,Pl,hcs,_,hl,hm,hmm,hx,hcell⟩
 ·simp at hcs
  subst hcs;exact ⟨[],⟨none,0,rfl,fun h=>absurd rfl h⟩,by simp,fun i hi=>by simp at hi⟩
 ·simp at hcs
  subst hcs;simp at hmm
  subst hmm;rw [(Prod.mk.inj hx).1] at hw;obtain ⟨hs,hel⟩:=hw.slice Tryd.underlying26;rw [show Tryd.prog.bytesOf 27=24 by kernel_rfl] at hs
  simp only [List.length_map,List.length_range,reachBytes] at hs
  obtain ⟨f,hff⟩:=choose_lt (n:=len) (p:=fun i (l:List (Int × Int))=>OpsV W (V i) l/\l.length*16 <= 140737488355328) (fun i hi=>by
   obtain ⟨c0,t0⟩:=hcell i (by omega)
   exact open_ops_c t0 (hel (D i) (by simp only [List.mem_map,List.mem_range];exact ⟨i,hi,rfl⟩)))
  refine ⟨(List.range len).map f,⟨some a,m,by simp,fun hne=>?_⟩,by simp;omega,fun i hi=>?_⟩
  ·have hpos:0 < len:=by
    rcases Nat.eq_zero_or_pos len with h0 | h0
    ·subst h0;simp at hne
    ·exact h0
   obtain ⟨b,off,spot⟩:=a;have hspot:spot=none:=by simpa [Addr.add] using World.cell?_spot (hcell 0 (by omega)).1
   subst hspot;refine ⟨b,off,rfl,?_,fun i hi=>?_⟩
   ·have:=World.block_lt_of_cell? W _ (hcell 0 (by omega)).1
    simpa [Addr.add] using this
   ·simp only [List.length_map,List.length_range] at hi
    have c0:=(hcell i (by omega)).1
    rw [add_plain] at c0;rw [getD_range f [] hi];exact ⟨V i,c0,(hff i hi).1⟩
  ·simp only [List.length_map,List.length_range] at hi
   rw [getD_range f [] hi];exact (hff i hi).2
theorem open_task {base:Nat} {v:Value} {d:DataW H} {p:List MemPlace} {ts:List TypeId} {ds:List (DataW H)} {j:Nat}
  (hv:Value.okWide Tryd.prog W .any base 29 v) (h:DataW.Trod enc Tryd.prog W 0 (fun _=>true) true 29 v d p)
  (hsz:(DataW.weightsEach Tryd.prog ts ds).all (· <= reachBytes)=true) (ht:ts[j]? = some 29) (hd:ds[j]? = some d):∃ va vr pv fv m ps l,v=.agg #[va,vr,pv,fv]/\ModelV W va vr m/\MoSz m/\(TermsV W pv ps/\ps.length*24 <= 140737488355328/\∀ i,i < ps.length->(ps.getD i []).length*16 <= 140737488355328)/\OpsV W fv l/\l.length*16 <= 140737488355328:=by
 obtain ⟨cs,rfl,hs⟩:=okWide_struct Tryd.underlying29 hv;obtain ⟨c0,c1,c2,c3,rfl⟩:=array4 (hs.trans cellsTask);obtain ⟨fuel,hf⟩:=h;obtain ⟨y0,y1,y2,n,hx,_,h0,h1,h2⟩:=trod_struct3 Tryd.underlying29 hf
 have hw:LightD 29 (.agg [y0.1,y1.1,y2.1]):=fun n hn=>by
  have:=List.all_eq_true.1 hsz _ (DataW.weights_mem_each ht (by rw [hd,(Prod.mk.inj hx).1]) n hn)
  simpa using this
 obtain ⟨w0,w1,w2⟩:=hw.agg3 Tryd.underlying29;have g0:DataW.trod enc Tryd.prog W 0 (fun _=>true) true n 25 [c0,c1]=some y0:=by simpa [Value.cells,cellsModel] using h0
 have g1:DataW.trod enc Tryd.prog W 0 (fun _=>true) true n 26 [c2]=some y1:=by simpa [Value.cells,cellsTerms] using h1
 have g2:DataW.trod enc Tryd.prog W 0 (fun _=>true) true n 27 [c3]=some y2:=by simpa [Value.cells,cellsOps] using h2
 obtain ⟨z0,z1,k,hz,_,k0,k1⟩:=trod_struct2 Tryd.underlying25 g0;have w0':LightD 25 (.agg [z0.1,z1.1]):=by rw [(Prod.mk.inj hz).1] at *;exact w0
 obtain ⟨u0,u1⟩:=w0'.agg2 Tryd.underlying25;obtain ⟨l,q2,q3⟩:=open_vars_c (fuel:=k) (v:=c0) (d:=z0.1) (p:=z0.2) (by simpa [cellsVars'] using k0) u0
 obtain ⟨r,q4,q5⟩:=open_rules_c (fuel:=k) (v:=c1) (d:=z1.1) (p:=z1.2) (by simpa [cellsRules'] using k1) u1
 obtain ⟨ps,t1⟩:=open_terms_c g1 w1;obtain ⟨fl,o1,o2⟩:=open_ops_c g2 w2;exact ⟨c0,c1,c2,c3,⟨l,r⟩,ps,fl,rfl,⟨q2,q4⟩,⟨q3,q5⟩,t1,o1,o2⟩
end
