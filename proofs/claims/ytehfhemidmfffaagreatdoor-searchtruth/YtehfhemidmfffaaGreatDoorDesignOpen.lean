import Derived.Test.YtehfhemidmfffaaGreatDoorKeepModel
import Derived.Test.YtehfhemidmfffaaGreatDoorLightOpen
open Go renaming Value→X
open Go.IntKind renaming i64→Y
open _root_.Option renaming some→Z
namespace Go.Proofs.YtehfhemidmfffaaGreatDoor
open _root_.List renaming length_map→qM,length_range→vB
open Go.Proofs.Tryz renaming prog→qA
open Go.ChangeShapes Go.WideShapes Go.ChangeAt Go.RowKit Go.Deep Go.Joins
open Terms Tm
open Go.Proofs.Tryz renaming underlying23→bT,underlying25→bU,underlying26→bG,underlying3→bI,underlying92→bV
open World renaming block_lt_of_cell?→bW,cell?_spot→bZ
set_option maxHeartbeats 6400000
set_option maxRecDepth 20000
instance:Inhabited Pl:=⟨pl0⟩
theorem Pe:qA.cellsOf 26=1:=by kernel_rfl
theorem PZ:qA.cellsOf 4=1:=by kernel_rfl
theorem Pc:qA.cellsOf 92=4:=by kernel_rfl
theorem Pd:qA.cellsOf 23=1:=by kernel_rfl
theorem PW:qA.cellsOf 22=2:=by kernel_rfl
theorem Pa:qA.cellsOf 25=7:=by kernel_rfl
theorem WR{H:Type}{enc:TypeId×X->H}{W:World}{t e:TypeId}{fuel:Nat}{c0 c1:X}{x:DataW H×List MemPlace}(ht:qA.underlying t=Z (.array 2 e))(hce:qA.cellsOf e=1)
  (h:DataW.trod enc qA W 0 (fun _=>true) true fuel t [c0,c1]=Z x) :
  ∃y0 y1 n,x=(.agg [y0.1,y1.1],y0.2++y1.2)/\DataW.trod enc qA W 0 (fun _=>true) true n e [c0]=Z y0/\DataW.trod enc qA W 0 (fun _=>true) true n e [c1]=Z y1:=by
 cases fuel with
 |zero=>simp[DataW.trod]at h
 |succ n=>
  unfold DataW.trod at h;rw[ht]at h;have r2:List.range 2=[0,1]:=rfl;simp[r2,hce]at h;obtain⟨_,h⟩:=h;cases h0:DataW.trod enc qA W 0 (fun _=>true) true n e [c0]with
  |none=>simp[h0]at h
  |some y0=>
   cases h1:DataW.trod enc qA W 0 (fun _=>true) true n e [c1]with
   |none=>simp[h0,h1]at h
   |some y1=>
    simp[h0,h1]at h;exact⟨y0,y1,n,h.symm,h0,h1⟩
section
variable{H:Type}{enc:TypeId×X -> H}{W:World}
theorem LightD.fields{t:TypeId}{fs:Array Field}{xs:List (DataW H)}(hu:qA.underlying t=Z (.struct fs))(h:LightD t (.agg xs)):∀n∈DataW.weightsEach qA (fs.toList.map (·.type)) xs,n<=reachBytes:=fun n hn=>h n (by simpa[DataW.weights,hu]using hn)
theorem Mg{fuel:Nat}{v:X}{d:DataW H}{p:List MemPlace}(hf:DataW.trod enc qA W 0 (fun _=>true) true fuel 26 [v]=Z (d,p))(hw:LightD 26 d):∃rs,Raws W W.heap.size v rs:=by
 rcases open_slice_pairs bG Tryz.underlying132 Kz rfl rfl Dj Dj hf with⟨hcs,hx⟩|⟨a,len,cap',m,n,V0,V1,D0,D1,P0,P1,hcs,_,hl,hm,hmm,hx,hcell⟩
 .simp at hcs;subst hcs;exact⟨[],⟨⟨none,0,rfl,fun h=>absurd rfl h⟩,by simp,fun i hi=>by simp at hi⟩⟩
 .simp at hcs;subst hcs;simp at hmm;subst hmm;rw[(Prod.mk.inj hx).1]at hw;have hs:=(hw.slice bG).1;rw[Kt]at hs;simp only[qM,vB,reachBytes]at hs;have hget:∀i,i<len->(((List.range len).map fun i=>(intOf (V0 i),intOf (V1 i))).getD i (0,0))=(intOf (V0 i),intOf (V1 i)):=fun i hi=>by simp[List.getD_eq_getElem?_getD,hi]
  have each:∀i,i<len->∃x0 x1,W.cell? (a.add (i*2))=Z (.int Y x0)/\W.cell? (a.add (i*2+1))=Z (.int Y x1)/\V0 i=.int Y x0/\V1 i=.int Y x1/\I64 x0/\I64 x1:=by
   intro i hi;obtain⟨c0,c1,t0,t1⟩:=hcell i (by omega);obtain⟨x0,e0,_,w0⟩:=DataW.trod_int bI t0;obtain⟨x1,e1,_,w1⟩:=DataW.trod_int bI t1;simp at e0 e1;exact⟨x0,x1,by rw[c0,e0],by rw[c1,e1],e0,e1,bounds_i64 w0,bounds_i64 w1⟩
  refine⟨(List.range len).map fun i=>(intOf (V0 i),intOf (V1 i)),⟨⟨Z a,m,by simp,fun hne=>?_⟩,by simp;omega,fun i hi=>?_⟩⟩
  .have hpos:0<len:=by
    rcases Nat.eq_zero_or_pos len with h0|h0
    .subst h0;simp at hne
    .exact h0
   obtain⟨b,off,spot⟩:=a;have hspot:spot=none:=by simpa[Addr.add]using bZ (hcell 0 (by omega)).1
   subst hspot;refine⟨b,off,rfl,?_,fun i hi=>?_⟩
   .have:=bW W _ (hcell 0 (by omega)).1;simpa[Addr.add]using this
   .simp only[qM,vB]at hi;obtain⟨x0,x1,c0,c1,e0,e1,_,_⟩:=each i hi;rw[add_plain]at c0 c1;rw[show off+(i*2+1)=off+i*2+1 by omega]at c1;rw[hget i hi,e0,e1];exact⟨c0,c1⟩
  .simp only[qM,vB]at hi;obtain⟨x0,x1,_,_,e0,e1,h0,h1⟩:=each i hi;rw[hget i hi,e0,e1];exact⟨h0,h1⟩
theorem TW{fuel:Nat}{v:X}{d:DataW H}{p:List MemPlace}(hf:DataW.trod enc qA W 0 (fun _=>true) true fuel 23 [v]=Z (d,p))(hw:LightD 23 d):∃l,PlansV W v l:=by
 rcases open_slice bT hf with⟨hcs,hx⟩|⟨a,len,cap,m,n,D,Pq,hcs,_,hl,hm,hmm,hx,hcell⟩
 .simp at hcs;subst hcs;exact⟨[],none,0,rfl,⟨by simp,fun _=>⟨rfl,rfl⟩⟩,fun h=>by simp at h⟩
 .simp at hcs;subst hcs;simp at hmm;subst hmm;rw[(Prod.mk.inj hx).1]at hw;obtain⟨_,hel⟩:=hw.slice bT;have hall:∀i,i<len->∃x:Pl,(∃u,W.cell? (a.add (i*4))=Z u/\Raws W W.heap.size u x.gr)/\W.cell? (a.add (i*4+1))=Z (.int Y x.var)/\I64 x.var/\(∃u,W.cell? (a.add (i*4+2))=Z u/\Raws W W.heap.size u x.vr)/\W.cell? (a.add (i*4+3))=Z (.bool x.both):=fun i hi=>by
   obtain⟨cs',h1,h2⟩:=hcell i (by omega);rw[Pc]at h1;obtain⟨_,hlen,hc⟩:=World.cells?_some h1;have hwi:=hel (D i) (by simp only[List.mem_map,List.mem_range];exact⟨i,hi,rfl⟩);obtain⟨y0,y1,y2,y3,k,hy,_,g0,g1,g2,g3⟩:=trod_struct4 bV h2;have hy1:D i=.agg [y0.1,y1.1,y2.1,y3.1]:=(Prod.mk.inj hy).1;rw[hy1]at hwi;have hwf:=hwi.fields bV;simp[DataW.weightsEach]at hwf;match cs',hlen with
   |[v0,v1,v2,v3],_=>
    simp[Pe,Dj,PZ]at g0 g1 g2 g3;obtain⟨r0,k0⟩:=Mg (d:=y0.1) (p:=y0.2) g0 (fun n hn=>hwf n (.inl hn));obtain⟨x1,e1,_,w1⟩:=DataW.trod_int bI g1;obtain⟨r2,k2⟩:=Mg (d:=y2.1) (p:=y2.2) g2 (fun n hn=>hwf n (.inr (.inr (.inl hn))));obtain⟨x3,e3,_⟩:=DataW.trod_bool Tryz.underlying4 g3;simp at e1 e3;subst e1 e3;have c0:=hc 0 (by omega);have c1:=hc 1 (by omega);have c2:=hc 2 (by omega);have c3:=hc 3 (by omega);rw[add_add]at c0 c1 c2 c3;exact⟨⟨r0,x1,r2,x3⟩,⟨v0,by simpa using c0,k0⟩,by simpa using c1,bounds_i64 w1,⟨v2,by simpa using c2,k2⟩,by simpa using c3⟩
  obtain⟨f,hff⟩:=choose_lt hall;refine⟨(List.range len).map f,Z a,m,by simp,⟨by simpa using hl,fun h=>by simp at h⟩,fun hpos=>?_⟩;simp only[qM,vB]at hpos⊢;obtain⟨b,off,spot⟩:=a;have hspot:spot=none:=by
   obtain⟨u,hu,_⟩:=(hff 0 hpos).1;simpa[Addr.add]using bZ hu
  subst hspot;refine⟨b,off,rfl,?_,fun i hi=>?_⟩
  .obtain ⟨u,hu,_⟩:=(hff 0 hpos).1;have:=bW W _ hu;simpa[Addr.add]using this
  .obtain ⟨⟨u0,c0,k0⟩,c1,b1,⟨u2,c2,k2⟩,c3⟩:=hff i hi;rw[add_plain]at c0 c1 c2 c3;rw[Q5 f pl0 hi];exact⟨⟨u0,c0,k0⟩,c1,b1,⟨u2,c2,k2⟩,c3⟩
theorem JW{fuel:Nat}{c0 c1:X}{x:DataW H×List MemPlace}(h:DataW.trod enc qA W 0 (fun _=>true) true fuel 22 [c0,c1]=Z x):∃a b,c0=.int Y a/\c1=.int Y b/\I64 a/\I64 b:=by
 obtain⟨y0,y1,n,_,t0,t1⟩:=WR Tryz.underlying22 Dj h;obtain⟨x0,e0,_,w0⟩:=DataW.trod_int bI t0;obtain⟨x1,e1,_,w1⟩:=DataW.trod_int bI t1;simp at e0 e1;exact⟨x0,x1,e0,e1,bounds_i64 w0,bounds_i64 w1⟩
def KU(w:World)(v:X)(vars:List Vr):Prop:=∃sp0 sp1 lw0 lw1 iv0 iv1 pv ps,v=.agg #[.int Y sp0,.int Y sp1,.int Y lw0,.int Y lw1,.int Y iv0,.int Y iv1,pv]/\(I64 sp0/\I64 sp1/\I64 lw0/\I64 lw1/\I64 iv0/\I64 iv1)/\PlansV w pv ps/\vars=E9 sp0 sp1 lw0 lw1 iv0 iv1
theorem TU{base:Nat}{v:X}{d:DataW H}{p:List MemPlace}{ts:List TypeId}{ds:List (DataW H)}{j:Nat}
  (hv:Value.okWide qA W .any base 25 v) (h:DataW.Trod enc qA W 0 (fun _=>true) true 25 v d p)
  (hsz:(DataW.weightsEach qA ts ds).all (·<=reachBytes)=true) (ht:ts[j]? = Z 25) (hd:ds[j]? = Z d):∃vars,KU W v vars:=by
 have hw:LightD 25 d:=fun n hn=>by
  have:=List.all_eq_true.1 hsz _ (DataW.weights_mem_each ht hd n hn);simpa using this
 obtain⟨cs,rfl,hcs⟩:=okWide_struct bU hv;rw[Pa]at hcs;obtain⟨c0,c1,c2,c3,c4,c5,c6,rfl⟩:∃c0 c1 c2 c3 c4 c5 c6,cs=#[c0,c1,c2,c3,c4,c5,c6]:=by
  match cs,hcs with
  |⟨[a,b,c,d,e,f,g]⟩,_=>exact⟨a,b,c,d,e,f,g,rfl⟩
 obtain⟨fuel,hf⟩:=h;obtain⟨y0,y1,y2,y3,k,hy,_,g0,g1,g2,g3⟩:=trod_struct4 bU hf;have hy1:d=.agg [y0.1,y1.1,y2.1,y3.1]:=(Prod.mk.inj hy).1;rw[hy1]at hw;have hwf:=hw.fields bU;simp[DataW.weightsEach]at hwf;simp[Value.cells,PW,Pd]at g0 g1 g2 g3;obtain⟨a0,a1,rfl,rfl,i0,i1⟩:=JW g0;obtain⟨b0,b1,rfl,rfl,i2,i3⟩:=JW g1;obtain⟨d0,d1,rfl,rfl,i4,i5⟩:=JW g2;obtain⟨l,hl⟩:=TW (d:=y3.1) (p:=y3.2) g3 (fun n hn=>hwf n (by simp[hn]));exact⟨_,a0,a1,b0,b1,d0,d1,c6,l,rfl,⟨i0,i1,i2,i3,i4,i5⟩,hl,rfl⟩
end
