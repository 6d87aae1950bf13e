import Derived.Test.YtfnobbpbmelgnaaGreatDoorKeepModel
import Derived.Test.YtfnobbpbmelgnaaGreatDoorLightOpen
namespace Go.Proofs.YtfnobbpbmelgnaaGreatDoor
open Go.ChangeShapes Go.WideShapes Go.ChangeAt Go.RowKit Go.Deep Go.Joins
open Terms Tm
set_option maxHeartbeats 6400000
set_option maxRecDepth 20000
instance:Inhabited Pl:=⟨pl0⟩
theorem cellsRaws:Tryz.prog.cellsOf 26=1:=by kernel_rfl
theorem cellsBool:Tryz.prog.cellsOf 4=1:=by kernel_rfl
theorem cellsPlan:Tryz.prog.cellsOf 76=4:=by kernel_rfl
theorem cellsPlans:Tryz.prog.cellsOf 23=1:=by kernel_rfl
theorem cellsArr2:Tryz.prog.cellsOf 22=2:=by kernel_rfl
theorem cellsDesign:Tryz.prog.cellsOf 25=7:=by kernel_rfl
theorem trod_two {H:Type} {enc:TypeId × Value->H} {W:World} {t e:TypeId} {fuel:Nat} {c0 c1:Value} {x:DataW H × List MemPlace} (ht:Tryz.prog.underlying t=some (.array 2 e)) (hce:Tryz.prog.cellsOf e=1)
  (h:DataW.trod enc Tryz.prog W 0 (fun _=>true) true fuel t [c0,c1]=some x) :
  ∃ y0 y1 n,x=(.agg [y0.1,y1.1],y0.2++y1.2)/\DataW.trod enc Tryz.prog W 0 (fun _=>true) true n e [c0]=some y0/\DataW.trod enc Tryz.prog W 0 (fun _=>true) true n e [c1]=some y1:=by
 cases fuel with
 | zero=>simp [DataW.trod] at h
 | succ n=>
  unfold DataW.trod at h;rw [ht] at h;have r2:List.range 2=[0,1]:=rfl;simp [r2,hce] at h
  obtain ⟨_,h⟩:=h
  cases h0:DataW.trod enc Tryz.prog W 0 (fun _=>true) true n e [c0] with
  | none=>simp [h0] at h
  | some y0=>
   cases h1:DataW.trod enc Tryz.prog W 0 (fun _=>true) true n e [c1] with
   | none=>simp [h0,h1] at h
   | some y1=>
    simp [h0,h1] at h
    exact ⟨y0,y1,n,h.symm,h0,h1⟩
section
variable {H : Type} {enc : TypeId × Value -> H} {W : World}
theorem LightD.fields {t:TypeId} {fs:Array Field} {xs:List (DataW H)} (hu:Tryz.prog.underlying t=some (.struct fs)) (h:LightD t (.agg xs)):∀ n∈DataW.weightsEach Tryz.prog (fs.toList.map (·.type)) xs,n <= reachBytes:=fun n hn=>h n (by simpa [DataW.weights,hu] using hn)
theorem open_raws_c {fuel:Nat} {v:Value} {d:DataW H} {p:List MemPlace} (hf:DataW.trod enc Tryz.prog W 0 (fun _=>true) true fuel 26 [v]=some (d,p)) (hw:LightD 26 d):∃ rs,Raws W W.heap.size v rs:=by
 rcases open_slice_pairs Tryz.underlying26 Tryz.underlying106 cellsRaw rfl rfl cellsInt cellsInt hf with ⟨hcs,hx⟩ | ⟨a,len,cap',m,n,V0,V1,D0,D1,P0,P1,hcs,_,hl,hm,hmm,hx,hcell⟩
 ·simp at hcs
  subst hcs;exact ⟨[],⟨⟨none,0,rfl,fun h=>absurd rfl h⟩,by simp,fun i hi=>by simp at hi⟩⟩
 ·simp at hcs
  subst hcs;simp at hmm
  subst hmm;rw [(Prod.mk.inj hx).1] at hw;have hs:=(hw.slice Tryz.underlying26).1;rw [bytesRaw] at hs;simp only [List.length_map,List.length_range,reachBytes] at hs;have hget:∀ i,i < len->(((List.range len).map fun i=>(intOf (V0 i),intOf (V1 i))).getD i (0,0))=(intOf (V0 i),intOf (V1 i)):=fun i hi=>by simp [List.getD_eq_getElem?_getD,hi]
  have each:∀ i,i < len->∃ x0 x1,W.cell? (a.add (i*2))=some (.int .i64 x0)/\W.cell? (a.add (i*2+1))=some (.int .i64 x1)/\V0 i=.int .i64 x0/\V1 i=.int .i64 x1/\I64 x0/\I64 x1:=by
   intro i hi;obtain ⟨c0,c1,t0,t1⟩:=hcell i (by omega)
   obtain ⟨x0,e0,_,w0⟩:=DataW.trod_int Tryz.underlying3 t0;obtain ⟨x1,e1,_,w1⟩:=DataW.trod_int Tryz.underlying3 t1;simp at e0 e1
   exact ⟨x0,x1,by rw [c0,e0],by rw [c1,e1],e0,e1,bounds_i64 w0,bounds_i64 w1⟩
  refine ⟨(List.range len).map fun i=>(intOf (V0 i),intOf (V1 i)),⟨⟨some a,m,by simp,fun hne=>?_⟩,by simp;omega,fun i hi=>?_⟩⟩
  ·have hpos:0 < len:=by
    rcases Nat.eq_zero_or_pos len with h0 | h0
    ·subst h0;simp at hne
    ·exact h0
   obtain ⟨b,off,spot⟩:=a;have hspot:spot=none:=by simpa [Addr.add] using World.cell?_spot (hcell 0 (by omega)).1
   subst hspot;refine ⟨b,off,rfl,?_,fun i hi=>?_⟩
   ·have:=World.block_lt_of_cell? W _ (hcell 0 (by omega)).1
    simpa [Addr.add] using this
   ·simp only [List.length_map,List.length_range] at hi
    obtain ⟨x0,x1,c0,c1,e0,e1,_,_⟩:=each i hi;rw [add_plain] at c0 c1;rw [show off+(i*2+1)=off+i*2+1 by omega] at c1
    rw [hget i hi,e0,e1];exact ⟨c0,c1⟩
  ·simp only [List.length_map,List.length_range] at hi
   obtain ⟨x0,x1,_,_,e0,e1,h0,h1⟩:=each i hi;rw [hget i hi,e0,e1];exact ⟨h0,h1⟩
theorem open_plans_c {fuel:Nat} {v:Value} {d:DataW H} {p:List MemPlace} (hf:DataW.trod enc Tryz.prog W 0 (fun _=>true) true fuel 23 [v]=some (d,p)) (hw:LightD 23 d):∃ l,PlansV W v l:=by
 rcases open_slice Tryz.underlying23 hf with ⟨hcs,hx⟩ | ⟨a,len,cap,m,n,D,Pq,hcs,_,hl,hm,hmm,hx,hcell⟩
 ·simp at hcs
  subst hcs;exact ⟨[],none,0,rfl,⟨by simp,fun _=>⟨rfl,rfl⟩⟩,fun h=>by simp at h⟩
 ·simp at hcs
  subst hcs;simp at hmm
  subst hmm;rw [(Prod.mk.inj hx).1] at hw;obtain ⟨_,hel⟩:=hw.slice Tryz.underlying23
  have hall:∀ i,i < len->∃ x:Pl,(∃ u,W.cell? (a.add (i*4))=some u/\Raws W W.heap.size u x.gr)/\W.cell? (a.add (i*4+1))=some (.int .i64 x.var)/\I64 x.var/\(∃ u,W.cell? (a.add (i*4+2))=some u/\Raws W W.heap.size u x.vr)/\W.cell? (a.add (i*4+3))=some (.bool x.both):=fun i hi=>by
   obtain ⟨cs',h1,h2⟩:=hcell i (by omega)
   rw [cellsPlan] at h1;obtain ⟨_,hlen,hc⟩:=World.cells?_some h1
   have hwi:=hel (D i) (by simp only [List.mem_map,List.mem_range];exact ⟨i,hi,rfl⟩)
   obtain ⟨y0,y1,y2,y3,k,hy,_,g0,g1,g2,g3⟩:=trod_struct4 Tryz.underlying76 h2;have hy1:D i=.agg [y0.1,y1.1,y2.1,y3.1]:=(Prod.mk.inj hy).1;rw [hy1] at hwi;have hwf:=hwi.fields Tryz.underlying76;simp [DataW.weightsEach] at hwf
   match cs',hlen with
   | [v0,v1,v2,v3],_=>
    simp [cellsRaws,cellsInt,cellsBool] at g0 g1 g2 g3
    obtain ⟨r0,k0⟩:=open_raws_c (d:=y0.1) (p:=y0.2) g0 (fun n hn=>hwf n (.inl hn))
    obtain ⟨x1,e1,_,w1⟩:=DataW.trod_int Tryz.underlying3 g1;obtain ⟨r2,k2⟩:=open_raws_c (d:=y2.1) (p:=y2.2) g2 (fun n hn=>hwf n (.inr (.inr (.inl hn))))
    obtain ⟨x3,e3,_⟩:=DataW.trod_bool Tryz.underlying4 g3;simp at e1 e3
    subst e1 e3;have c0:=hc 0 (by omega)
    have c1:=hc 1 (by omega)
    have c2:=hc 2 (by omega)
    have c3:=hc 3 (by omega)
    rw [add_add] at c0 c1 c2 c3;exact ⟨⟨r0,x1,r2,x3⟩,⟨v0,by simpa using c0,k0⟩,by simpa using c1,bounds_i64 w1,⟨v2,by simpa using c2,k2⟩,by simpa using c3⟩
  obtain ⟨f,hff⟩:=choose_lt hall;refine ⟨(List.range len).map f,some a,m,by simp,⟨by simpa using hl,fun h=>by simp at h⟩,fun hpos=>?_⟩
  simp only [List.length_map,List.length_range] at hpos ⊢;obtain ⟨b,off,spot⟩:=a
  have hspot:spot=none:=by
   obtain ⟨u,hu,_⟩:=(hff 0 hpos).1;simpa [Addr.add] using World.cell?_spot hu
  subst hspot;refine ⟨b,off,rfl,?_,fun i hi=>?_⟩
  ·obtain ⟨u,hu,_⟩:=(hff 0 hpos).1
   have:=World.block_lt_of_cell? W _ hu;simpa [Addr.add] using this
  ·obtain ⟨⟨u0,c0,k0⟩,c1,b1,⟨u2,c2,k2⟩,c3⟩:=hff i hi
   rw [add_plain] at c0 c1 c2 c3;rw [getD_range f pl0 hi];exact ⟨⟨u0,c0,k0⟩,c1,b1,⟨u2,c2,k2⟩,c3⟩
theorem open_two {fuel:Nat} {c0 c1:Value} {x:DataW H × List MemPlace} (h:DataW.trod enc Tryz.prog W 0 (fun _=>true) true fuel 22 [c0,c1]=some x):∃ a b,c0=.int .i64 a/\c1=.int .i64 b/\I64 a/\I64 b:=by
 obtain ⟨y0,y1,n,_,t0,t1⟩:=trod_two Tryz.underlying22 cellsInt h;obtain ⟨x0,e0,_,w0⟩:=DataW.trod_int Tryz.underlying3 t0;obtain ⟨x1,e1,_,w1⟩:=DataW.trod_int Tryz.underlying3 t1;simp at e0 e1
 exact ⟨x0,x1,e0,e1,bounds_i64 w0,bounds_i64 w1⟩
def DesignV (w:World) (v:Value) (vars:List Vr):Prop:=∃ sp0 sp1 lw0 lw1 iv0 iv1 pv ps,v=.agg #[.int .i64 sp0,.int .i64 sp1,.int .i64 lw0,.int .i64 lw1,.int .i64 iv0,.int .i64 iv1,pv]/\(I64 sp0/\I64 sp1/\I64 lw0/\I64 lw1/\I64 iv0/\I64 iv1)/\PlansV w pv ps/\vars=gvars sp0 sp1 lw0 lw1 iv0 iv1
theorem open_design {base:Nat} {v:Value} {d:DataW H} {p:List MemPlace} {ts:List TypeId} {ds:List (DataW H)} {j:Nat}
  (hv:Value.okWide Tryz.prog W .any base 25 v) (h:DataW.Trod enc Tryz.prog W 0 (fun _=>true) true 25 v d p)
  (hsz:(DataW.weightsEach Tryz.prog ts ds).all (· <= reachBytes)=true) (ht:ts[j]? = some 25) (hd:ds[j]? = some d):∃ vars,DesignV W v vars:=by
 have hw:LightD 25 d:=fun n hn=>by
  have:=List.all_eq_true.1 hsz _ (DataW.weights_mem_each ht hd n hn);simpa using this
 obtain ⟨cs,rfl,hcs⟩:=okWide_struct Tryz.underlying25 hv;rw [cellsDesign] at hcs
 obtain ⟨c0,c1,c2,c3,c4,c5,c6,rfl⟩:∃ c0 c1 c2 c3 c4 c5 c6,cs=#[c0,c1,c2,c3,c4,c5,c6]:=by
  match cs,hcs with
  | ⟨[a,b,c,d,e,f,g]⟩,_=>exact ⟨a,b,c,d,e,f,g,rfl⟩
 obtain ⟨fuel,hf⟩:=h;obtain ⟨y0,y1,y2,y3,k,hy,_,g0,g1,g2,g3⟩:=trod_struct4 Tryz.underlying25 hf;have hy1:d=.agg [y0.1,y1.1,y2.1,y3.1]:=(Prod.mk.inj hy).1;rw [hy1] at hw;have hwf:=hw.fields Tryz.underlying25;simp [DataW.weightsEach] at hwf
 simp [Value.cells,cellsArr2,cellsPlans] at g0 g1 g2 g3
 obtain ⟨a0,a1,rfl,rfl,i0,i1⟩:=open_two g0;obtain ⟨b0,b1,rfl,rfl,i2,i3⟩:=open_two g1;obtain ⟨d0,d1,rfl,rfl,i4,i5⟩:=open_two g2;obtain ⟨l,hl⟩:=open_plans_c (d:=y3.1) (p:=y3.2) g3 (fun n hn=>hwf n (by simp [hn]))
 exact ⟨_,a0,a1,b0,b1,d0,d1,c6,l,rfl,⟨i0,i1,i2,i3,i4,i5⟩,hl,rfl⟩
end
