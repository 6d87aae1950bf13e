import Derived.Test.YtlepcjafgdlmgaaDoorEnds
import Derived.ProofKit
import Derived.Deep.QuietTactic
import Derived.BigQuiet
import Derived.Laws.AppendOwnNone
namespace Go.Proofs.YtlepcjafgdlmgaaDoor
open Go.ChangeShapes Go.WideShapes Go.ChangeAt Go.RowKit Go.Deep
open Terms
set_option maxHeartbeats 6400000
set_option maxRecDepth 20000
def OpsAt (w:World) (b off:Nat) (l:List (Int × Int)):Prop:=∀ i,i < l.length->w.cell? ⟨b,off+i*2,none⟩=some (.int .i64 (l.getD i (0,0)).1)/\w.cell? ⟨b,off+i*2+1,none⟩=some (.int .i64 (l.getD i (0,0)).2)
theorem OpsAt.below {B b off:Nat} {l:List (Int × Int)} {w w':World} (h:OpsAt w b off l) (hb:Below B w w') (hB:b < B):OpsAt w' b off l:=fun i hi=>⟨(hb.cell (p:=⟨b,_,none⟩) hB).trans (h i hi).1,(hb.cell (p:=⟨b,_,none⟩) hB).trans (h i hi).2⟩
def OpsV (w:World) (v:Value) (l:List (Int × Int)):Prop:=∃ ao cap,v=.slice ao l.length cap/\(l.length <= cap/\(ao=none->cap=0/\l=[]))/\(l≠[]->∃ b off,ao=some ⟨b,off,none⟩/\b < w.heap.size/\OpsAt w b off l)
theorem OpsV.below {w w':World} {v:Value} {l:List (Int × Int)} (h:OpsV w v l) (hb:Below w.heap.size w w'):OpsV w' v l:=by
 obtain ⟨ao,cap,rfl,h0,h⟩:=h;refine ⟨ao,cap,rfl,h0,fun hne=>?_⟩
 obtain ⟨b,off,rfl,hlt,hat⟩:=h hne;exact ⟨b,off,rfl,Nat.lt_of_lt_of_le hlt hb.size,hat.below hb hlt⟩
theorem OpsV.kinds {w:World} {v:Value} {l:List (Int × Int)} (h:OpsV w v l):Kinds w v (l.map Prod.fst):=by
 obtain ⟨ao,cap,rfl,h0,h⟩:=h;refine ⟨ao,cap,by simp,fun hne=>?_⟩
 obtain ⟨b,off,rfl,hlt,hat⟩:=h (by intro h;subst h;simp at hne)
 refine ⟨b,off,rfl,hlt,fun i hi=>?_⟩
 rw [List.length_map] at hi;rw [(hat i hi).1];simp [List.getD_eq_getElem?_getD,hi]
def flat (l:List (Int × Int)):List Value:=l.flatMap fun p=>[.int .i64 p.1,.int .i64 p.2]
theorem flat_length (l:List (Int × Int)):(flat l).length=l.length*2:=by
 induction l with
 | nil=>rfl
 | cons p l ih=>
  have:flat (p:: l)=[.int .i64 p.1,.int .i64 p.2]++flat l:=rfl;rw [this];simp [ih];omega
theorem flat_get (l:List (Int × Int)):∀ i,i < l.length->(flat l)[i*2]? = some (.int .i64 (l.getD i (0,0)).1)/\(flat l)[i*2+1]? = some (.int .i64 (l.getD i (0,0)).2):=by
 induction l with
 | nil=>intro i hi;simp at hi
 | cons p l ih=>
  intro i hi;have e:flat (p:: l)=.int .i64 p.1:: .int .i64 p.2:: flat l:=rfl;rw [e]
  cases i with
  | zero=>simp
  | succ i=>
   have:=ih i (by simpa using hi)
   rw [show (i+1)*2=i*2+1+1 by omega]
   simpa using this
theorem flat_one (l:List (Int × Int)):∀ u∈flat l,u.oneCell'=true:=by
 intro u hu;simp only [flat,List.mem_flatMap] at hu;obtain ⟨p,_,hp⟩:=hu;simp at hp
 rcases hp with rfl | rfl <;> rfl
theorem OpsAt.cells {w:World} {b off:Nat} {l:List (Int × Int)} (h:OpsAt w b off l):∀ j u,(flat l)[j]? = some u->w.cell? ((⟨b,off,none⟩:Addr).add j)=some u:=by
 intro j u hj;have hlt:j < l.length*2:=by rw [<- flat_length];exact (List.getElem?_eq_some_iff.1 hj).1
 rw [Go.WideShapes.add_plain];have hi:j / 2 < l.length:=by omega
 obtain ⟨f0,f1⟩:=flat_get l (j / 2) hi;obtain ⟨c0,c1⟩:=h (j / 2) hi
 by_cases hp:j % 2=0
 ·rw [show j / 2*2=j by omega] at f0 c0
  rw [hj] at f0;rw [c0,f0]
 ·rw [show j / 2*2+1=j by omega] at f1
  rw [show off+j / 2*2+1=off+j by omega] at c1
  rw [hj] at f1;rw [c1,f1]
theorem two_new (w:World) (x y:Value) (t:TypeId):∀ j u,[x,y][j]? = some u->(w.alloc (.cells #[x,y] t)).cell? ((⟨w.heap.size,0,none⟩:Addr).add j)=some u:=by
 intro j u hj
 match j,hj with
 | 0,hj=>simp at hj;subst hj;simp [Addr.add,go_sem]
 | 1,hj=>simp at hj;subst hj;simp [Addr.add,go_sem]
theorem opsV_of_owns {w:World} {base:Nat} {v:Value} {l:List (Int × Int)} (h:w.ownsRow base 77 2 v l.length (flat l)):OpsV w v l:=by
 rcases h.2 with ⟨rfl,h0⟩ | ⟨g,cap,cur,rfl,hb,hg,hnc,hcm,hcs,htake⟩
 ·have:l=[]:=by simpa using h0
  subst this;exact ⟨none,0,rfl,⟨by simp,fun _=>⟨rfl,rfl⟩⟩,fun h=>absurd rfl h⟩
 ·refine ⟨_,cap,rfl,⟨hnc,fun h=>by simp at h⟩,fun _=>⟨g,0,rfl,?_,fun i hi=>?_⟩⟩
  ·exact (Array.getElem?_eq_some_iff.1 hg).1
  ·obtain ⟨f0,f1⟩:=flat_get l i hi
   rw [h.cellAt _ (by omega),h.cellAt _ (by omega)]
   simpa using ⟨f0,f1⟩
theorem infoOp:(Tryd.prog.info? 77).map (fun i=>(i.zero,i.size,i.bytes))=some (some (.agg #[.int .i64 0,.int .i64 0]),2,16):=by kernel_rfl
def IntsAt (w:World) (b off:Nat) (l:List Int):Prop:=∀ i,i < l.length->w.cell? ⟨b,off+i,none⟩=some (.int .i64 (l.getD i 0))
def IntsV (w:World) (v:Value) (l:List Int):Prop:=∃ ao cap,v=.slice ao l.length cap/\(l≠[]->∃ b off,ao=some ⟨b,off,none⟩/\b < w.heap.size/\IntsAt w b off l)
theorem owns_apart {w:World} {base base':Nat} {e e':TypeId} {s s' n n':Nat} {v v':Value} {xs xs':List Value} (he:e≠e') (h:w.ownsRow base e s v n xs) (h':w.ownsRow base' e' s' v' n' xs'):v.ownBlock=none\/v.ownBlock≠v'.ownBlock:=by
 rcases h.2 with ⟨rfl,_⟩ | ⟨g,cap,cur,rfl,_,hg,_⟩
 ·exact .inl rfl
 ·refine .inr fun hx=>?_
  rcases h'.2 with ⟨rfl,_⟩ | ⟨g',cap',cur',rfl,_,hg',_⟩
  ·simp [Value.ownBlock] at hx
  ·simp [Value.ownBlock] at hx
   subst hx;rw [hg] at hg';simp at hg'
   exact he hg'.2
theorem owns_later {w w':World} {base B:Nat} {e:TypeId} {s n:Nat} {v:Value} {xs:List Value} (h:w.ownsRow base e s v n xs) (hb:Below B w w') (hB:w.heap.size <= B):w'.ownsRow base e s v n xs:=by
 obtain ⟨h1,h2⟩:=h;refine ⟨h1,?_⟩
 rcases h2 with h2 | ⟨g,cap,cur,hv,hg,hh,r⟩
 ·exact .inl h2
 ·have hlt:=(Array.getElem?_eq_some_iff.1 hh).1
  exact .inr ⟨g,cap,cur,hv,hg,(hb.block g (by omega)).trans hh,r⟩
theorem owns_mono {w:World} {base base':Nat} {e:TypeId} {s n:Nat} {v:Value} {xs:List Value} (h:w.ownsRow base e s v n xs) (hb:base' <= base):w.ownsRow base' e s v n xs:=by
 obtain ⟨h1,h2⟩:=h;refine ⟨h1,?_⟩
 rcases h2 with h2 | ⟨g,cap,cur,hv,hg,r⟩
 ·exact .inl h2
 ·exact .inr ⟨g,cap,cur,hv,by omega,r⟩
theorem owns_slice {w:World} {base:Nat} {e:TypeId} {s n:Nat} {v:Value} {xs:List Value} (h:w.ownsRow base e s v n xs):∃ ao cap,v=.slice ao n cap:=by
 rcases h.2 with ⟨rfl,rfl⟩ | ⟨g,cap,cur,rfl,_⟩
 ·exact ⟨_,_,rfl⟩
 ·exact ⟨_,_,rfl⟩
theorem code_zero {ks:List Int} (h:endsCode ks=0):ks.length <= 60/\cnt ks 1=.ok ks.length:=by
 unfold endsCode at h
 split at h
 ·simp at h
 ·refine ⟨by omega,?_⟩
  cases hc:cnt ks 1 with
  | no x=>rw [hc] at h;have:=cnt_err _ _ _ hc;simp only at h;omega
  | ok m=>
   rw [hc] at h;simp only at h
   split at h
   ·simp at h
   ·have:=(cnt_le _ _ _ hc).2
    congr 1
    omega
def endsL (ks:List Int):List Int:=if endsCode ks=0 then (List.range ks.length).map fun q=>(endAt ks q:Int) else []
def TermsV (w:World) (v:Value) (ts:List (List (Int × Int))):Prop:=∃ ao cap,v=.slice ao ts.length cap/\(ts≠[]->∃ b off,ao=some ⟨b,off,none⟩/\b < w.heap.size/\∀ i,i < ts.length->∃ u,w.cell? ⟨b,off+i,none⟩=some u/\OpsV w u (ts.getD i []))
theorem TermsV.below {w w':World} {v:Value} {ts:List (List (Int × Int))} (h:TermsV w v ts) (hb:Below w.heap.size w w'):TermsV w' v ts:=by
 obtain ⟨ao,cap,rfl,h⟩:=h;refine ⟨ao,cap,rfl,fun hne=>?_⟩
 obtain ⟨b,off,rfl,hlt,hat⟩:=h hne;refine ⟨b,off,rfl,Nat.lt_of_lt_of_le hlt hb.size,fun i hi=>?_⟩
 obtain ⟨u,h1,h2⟩:=hat i hi;exact ⟨u,(hb.cell (p:=⟨b,_,none⟩) hlt).trans h1,h2.below hb⟩
theorem flat_append (l m:List (Int × Int)):flat (l++m)=flat l++flat m:=by simp [flat]
