import Derived.Test.YtlepcjafgdlmgaaDoorModelMem
import Derived.Test.YtlepcjafgdlmgaaDoorOpsOf
import Derived.Deep.AppendLies
namespace Go.Proofs.YtlepcjafgdlmgaaDoor
open Go.ChangeShapes Go.WideShapes Go.ChangeAt Go.RowKit Go.Deep
open Terms Tm
set_option maxHeartbeats 6400000
set_option maxRecDepth 20000
def SetsOwn (w:World) (base:Nat) (v:Value) (l:List St):Prop:=
 ∃ us:List Value,w.ownsRow base 64 2 v l.length us/\∀ j,j < l.length->us.getD (j*2) .nilIface=.int .i64 (l.getD j st0).var/\w.ownsRow base 77 2 (us.getD (j*2+1) .nilIface) (l.getD j st0).val.length (flat (l.getD j st0).val)
theorem SetsOwn.nil (w:World) (base:Nat):SetsOwn w base (.slice none 0 0) []:=⟨[],World.ownsRow_nil _ _ _ _,fun j hj=>by simp at hj⟩
theorem SetsOwn.later {w w':World} {base B:Nat} {v:Value} {l:List St} (h:SetsOwn w base v l) (hb:Below B w w') (hB:w.heap.size <= B):SetsOwn w' base v l:=by
 obtain ⟨us,h1,h2⟩:=h;exact ⟨us,owns_later h1 hb hB,fun j hj=>⟨(h2 j hj).1,owns_later (h2 j hj).2 hb hB⟩⟩
theorem SetsOwn.mono {w:World} {base base':Nat} {v:Value} {l:List St} (h:SetsOwn w base v l) (hb:base' <= base):SetsOwn w base' v l:=by
 obtain ⟨us,h1,h2⟩:=h;exact ⟨us,owns_mono h1 hb,fun j hj=>⟨(h2 j hj).1,owns_mono (h2 j hj).2 hb⟩⟩
theorem SetsOwn.kept {w w':World} {base:Nat} {v:Value} {l:List St} {row:Option Nat} (h:SetsOwn w base v l) (hg:w.grownBy w' row) (h1:∀ (e s n:Nat) (u:Value) (xs:List Value),e=64\/e=77->w.ownsRow base e s u n xs->u.ownBlock=none\/u.ownBlock≠row):SetsOwn w' base v l:=by
 obtain ⟨us,h2,h3⟩:=h;exact ⟨us,h2.kept hg (h1 _ _ _ _ _ (.inl rfl) h2),fun j hj=>⟨(h3 j hj).1,(h3 j hj).2.kept hg (h1 _ _ _ _ _ (.inr rfl) (h3 j hj).2)⟩⟩
theorem owns_setCell {w:World} {base:Nat} {e:TypeId} {s n:Nat} {v:Value} {xs:List Value} (h:w.ownsRow base e s v n xs) {b o:Nat} (hb:b < base) (u:Value):(w.setCell ⟨b,o,none⟩ u).ownsRow base e s v n xs:=by
 obtain ⟨h1,h2⟩:=h;refine ⟨h1,?_⟩
 rcases h2 with h2 | ⟨g,cap,cur,hv,hg,hh,r⟩
 ·exact .inl h2
 ·exact .inr ⟨g,cap,cur,hv,hg,(Below.heap_setCell w ⟨b,o,none⟩ u g (by simp only;omega)).trans hh,r⟩
theorem SetsOwn.setCell {w:World} {base:Nat} {v:Value} {l:List St} (h:SetsOwn w base v l) {b o:Nat} (hb:b < base) (u:Value):SetsOwn (w.setCell ⟨b,o,none⟩ u) base v l:=by
 obtain ⟨us,h1,h2⟩:=h;exact ⟨us,owns_setCell h1 hb u,fun j hj=>⟨(h2 j hj).1,owns_setCell (h2 j hj).2 hb u⟩⟩
theorem getD_app_left {us vs:List Value} {i:Nat} (h:i < us.length) (d:Value):(us++vs).getD i d=us.getD i d:=by
 simp [List.getD_eq_getElem?_getD,List.getElem?_append_left h]
theorem getD_app_right {us vs:List Value} (i:Nat) (d:Value):(us++vs).getD (us.length+i) d=vs.getD i d:=by
 rw [List.getD_eq_getElem?_getD,List.getD_eq_getElem?_getD,List.getElem?_append_right (by omega),show us.length+i - us.length=i by omega]
theorem stD_app_left {l m:List St} {i:Nat} (h:i < l.length):(l++m).getD i st0=l.getD i st0:=by
 simp [List.getD_eq_getElem?_getD,List.getElem?_append_left h]
theorem stD_app_right (l:List St) (x:St):(l++[x]).getD l.length st0=x:=by
 simp [List.getD_eq_getElem?_getD]
theorem SetsOwn.snoc {w wa w':World} {base:Nat} {v v' u:Value} {l:List St} {x:St} {us:List Value}
  (hus:w.ownsRow base 64 2 v l.length us) (hts:∀ j,j < l.length->us.getD (j*2) .nilIface=.int .i64 (l.getD j st0).var/\w.ownsRow base 77 2 (us.getD (j*2+1) .nilIface) (l.getD j st0).val.length (flat (l.getD j st0).val))
  (hu:w.ownsRow base 77 2 u x.val.length (flat x.val)) (ha:∃ o,wa=w.alloc o) (hg:wa.grownBy w' v.ownBlock) (ho:w'.ownsRow base 64 2 v' (l.length+1) (us++[.int .i64 x.var,u])):SetsOwn w' base v' (l++[x]):=by
 obtain ⟨o,rfl⟩:=ha;have hl:us.length=l.length*2:=by simpa using hus.1
 refine ⟨us++[.int .i64 x.var,u],by simpa using ho,fun j hj=>?_⟩
 by_cases hlt:j < l.length
 ·rw [getD_app_left (by omega),getD_app_left (by omega),stD_app_left hlt]
  obtain ⟨h0,h1⟩:=hts j hlt;have h1:=h1.alloc o;exact ⟨h0,h1.kept hg (owns_apart (by decide) h1 (hus.alloc o))⟩
 ·have hj':j=l.length:=by simp at hj;omega
  subst hj';rw [stD_app_right,show l.length*2=us.length+0 by omega,getD_app_right,show us.length+0+1=us.length+1 by omega,getD_app_right]
  have h1:=hu.alloc o;exact ⟨rfl,h1.kept hg (owns_apart (by decide) h1 (hus.alloc o))⟩
theorem SetsOwn.setsV {w:World} {base:Nat} {v:Value} {l:List St} (h:SetsOwn w base v l):SetsV w v l:=by
 obtain ⟨us,h1,h2⟩:=h;have hl:us.length=l.length*2:=by simpa using h1.1
 rcases h1.2 with ⟨rfl,h0⟩ | ⟨g,cap,cur,rfl,hbg,hg,hnc,_⟩
 ·exact ⟨none,0,by rw [h0],⟨by omega,fun _=>⟨rfl,h0⟩⟩,fun h=>by omega⟩
 ·refine ⟨_,cap,rfl,⟨hnc,fun h=>by simp at h⟩,fun _=>⟨g,0,rfl,(Array.getElem?_eq_some_iff.1 hg).1,fun i hi=>?_⟩⟩
  obtain ⟨h3,h4⟩:=h2 i hi;rw [Nat.zero_add];refine ⟨?_,us.getD (i*2+1) .nilIface,?_,opsV_of_owns h4⟩
  ·rw [h1.cellAt _ (by omega),<- h3]
   simp [List.getD_eq_getElem?_getD,show i*2 < us.length by omega]
  ·rw [h1.cellAt _ (by omega)]
   simp [List.getD_eq_getElem?_getD,show i*2+1 < us.length by omega]
def RulesOwn (w:World) (base:Nat) (v:Value) (l:List Ru):Prop:=
 ∃ us:List Value,w.ownsRow base 61 2 v l.length us/\∀ j,j < l.length->w.ownsRow base 77 2 (us.getD (j*2) .nilIface) (l.getD j ru0).guard.length (flat (l.getD j ru0).guard)/\SetsOwn w base (us.getD (j*2+1) .nilIface) (l.getD j ru0).sets
theorem RulesOwn.nil (w:World) (base:Nat):RulesOwn w base (.slice none 0 0) []:=⟨[],World.ownsRow_nil _ _ _ _,fun j hj=>by simp at hj⟩
theorem RulesOwn.later {w w':World} {base B:Nat} {v:Value} {l:List Ru} (h:RulesOwn w base v l) (hb:Below B w w') (hB:w.heap.size <= B):RulesOwn w' base v l:=by
 obtain ⟨us,h1,h2⟩:=h;exact ⟨us,owns_later h1 hb hB,fun j hj=>⟨owns_later (h2 j hj).1 hb hB,(h2 j hj).2.later hb hB⟩⟩
theorem RulesOwn.setCell {w:World} {base:Nat} {v:Value} {l:List Ru} (h:RulesOwn w base v l) {b o:Nat} (hb:b < base) (u:Value):RulesOwn (w.setCell ⟨b,o,none⟩ u) base v l:=by
 obtain ⟨us,h1,h2⟩:=h;exact ⟨us,owns_setCell h1 hb u,fun j hj=>⟨owns_setCell (h2 j hj).1 hb u,(h2 j hj).2.setCell hb u⟩⟩
theorem ruD_app_left {l m:List Ru} {i:Nat} (h:i < l.length):(l++m).getD i ru0=l.getD i ru0:=by
 simp [List.getD_eq_getElem?_getD,List.getElem?_append_left h]
theorem ruD_app_right (l:List Ru) (x:Ru):(l++[x]).getD l.length ru0=x:=by
 simp [List.getD_eq_getElem?_getD]
theorem RulesOwn.snoc {w wa w':World} {base:Nat} {v v' gu su:Value} {l:List Ru} {x:Ru} {us:List Value}
  (hus:w.ownsRow base 61 2 v l.length us) (hts:∀ j,j < l.length->w.ownsRow base 77 2 (us.getD (j*2) .nilIface) (l.getD j ru0).guard.length (flat (l.getD j ru0).guard)/\SetsOwn w base (us.getD (j*2+1) .nilIface) (l.getD j ru0).sets)
  (hgu:w.ownsRow base 77 2 gu x.guard.length (flat x.guard)) (hsu:SetsOwn w base su x.sets) (ha:∃ o,wa=w.alloc o) (hg:wa.grownBy w' v.ownBlock) (ho:w'.ownsRow base 61 2 v' (l.length+1) (us++[gu,su])):RulesOwn w' base v' (l++[x]):=by
 obtain ⟨o,rfl⟩:=ha;have hl:us.length=l.length*2:=by simpa using hus.1
 have hk:∀ (e s n:Nat) (u:Value) (xs:List Value),e=64\/e=77->(w.alloc o).ownsRow base e s u n xs->u.ownBlock=none\/u.ownBlock≠v.ownBlock:=fun e s n u xs he h=>owns_apart (by rcases he with rfl | rfl <;> decide) h (hus.alloc o)
 have hal:∀ {u:Value} {m:List St},SetsOwn w base u m->SetsOwn (w.alloc o) base u m:=fun h=>h.later ((Below.refl w.heap.size w).alloc (Nat.le_refl _) o) (Nat.le_refl _)
 refine ⟨us++[gu,su],by simpa using ho,fun j hj=>?_⟩
 by_cases hlt:j < l.length
 ·rw [getD_app_left (by omega),getD_app_left (by omega),ruD_app_left hlt]
  obtain ⟨h0,h1⟩:=hts j hlt;have h0:=h0.alloc o;exact ⟨h0.kept hg (owns_apart (by decide) h0 (hus.alloc o)),(hal h1).kept hg hk⟩
 ·have hj':j=l.length:=by simp at hj;omega
  subst hj';rw [ruD_app_right,show l.length*2=us.length+0 by omega,getD_app_right,show us.length+0+1=us.length+1 by omega,getD_app_right]
  have h1:=hgu.alloc o;exact ⟨h1.kept hg (owns_apart (by decide) h1 (hus.alloc o)),(hal hsu).kept hg hk⟩
theorem RulesOwn.rulesV {w:World} {base:Nat} {v:Value} {l:List Ru} (h:RulesOwn w base v l):RulesV w v l:=by
 obtain ⟨us,h1,h2⟩:=h;have hl:us.length=l.length*2:=by simpa using h1.1
 rcases h1.2 with ⟨rfl,h0⟩ | ⟨g,cap,cur,rfl,hbg,hg,hnc,_⟩
 ·exact ⟨none,0,by rw [h0],⟨by omega,fun _=>⟨rfl,h0⟩⟩,fun h=>by omega⟩
 ·refine ⟨_,cap,rfl,⟨hnc,fun h=>by simp at h⟩,fun _=>⟨g,0,rfl,(Array.getElem?_eq_some_iff.1 hg).1,fun i hi=>?_⟩⟩
  obtain ⟨h3,h4⟩:=h2 i hi;rw [Nat.zero_add];refine ⟨⟨us.getD (i*2) .nilIface,?_,opsV_of_owns h3⟩,us.getD (i*2+1) .nilIface,?_,h4.setsV⟩
  ·rw [h1.cellAt _ (by omega)]
   simp [List.getD_eq_getElem?_getD,show i*2 < us.length by omega]
  ·rw [h1.cellAt _ (by omega)]
   simp [List.getD_eq_getElem?_getD,show i*2+1 < us.length by omega]
def vflat (l:List Vr):List Value:=l.flatMap fun p=>[.string p.name,.int .i64 p.lo,.int .i64 p.hi,.int .i64 p.ini]
theorem vflat_length (l:List Vr):(vflat l).length=l.length*4:=by
 induction l with
 | nil=>rfl
 | cons p l ih=>
  have:vflat (p:: l)=[.string p.name,.int .i64 p.lo,.int .i64 p.hi,.int .i64 p.ini]++vflat l:=rfl;rw [this];simp [ih];omega
theorem vflat_get (l:List Vr):∀ i,i < l.length->(vflat l)[i*4]? = some (.string (l.getD i vr0).name)/\(vflat l)[i*4+1]? = some (.int .i64 (l.getD i vr0).lo)/\(vflat l)[i*4+2]? = some (.int .i64 (l.getD i vr0).hi)/\(vflat l)[i*4+3]? = some (.int .i64 (l.getD i vr0).ini):=by
 induction l with
 | nil=>intro i hi;simp at hi
 | cons p l ih=>
  intro i hi;have e:vflat (p:: l)=.string p.name:: .int .i64 p.lo:: .int .i64 p.hi:: .int .i64 p.ini:: vflat l:=rfl;rw [e]
  cases i with
  | zero=>simp
  | succ i=>
   have:=ih i (by simpa using hi)
   rw [show (i+1)*4=i*4+1+1+1+1 by omega]
   simpa using this
theorem vflat_one (l:List Vr):∀ u∈vflat l,u.oneCell'=true:=by
 intro u hu;simp only [vflat,List.mem_flatMap] at hu;obtain ⟨p,_,hp⟩:=hu;simp at hp
 rcases hp with rfl | rfl | rfl | rfl <;> rfl
theorem vflat_cells {w:World} {b off:Nat} {l:List Vr} (h:∀ i,i < l.length->VarAt w b (off+i*4) (l.getD i vr0)):∀ j u,(vflat l)[j]? = some u->w.cell? ((⟨b,off,none⟩:Addr).add j)=some u:=by
 intro j u hj;have hlt:j < l.length*4:=by rw [<- vflat_length];exact (List.getElem?_eq_some_iff.1 hj).1
 rw [Go.WideShapes.add_plain];have hi:j / 4 < l.length:=by omega
 obtain ⟨f0,f1,f2,f3⟩:=vflat_get l (j / 4) hi;obtain ⟨c0,c1,c2,c3⟩:=h (j / 4) hi;have hp:j % 4=0\/j % 4=1\/j % 4=2\/j % 4=3:=by omega
 rcases hp with hp | hp | hp | hp
 ·rw [show j / 4*4=j by omega] at f0 c0
  rw [hj] at f0;rw [c0,f0]
 ·rw [show j / 4*4+1=j by omega] at f1
  rw [show off+j / 4*4+1=off+j by omega] at c1
  rw [hj] at f1;rw [c1,f1]
 ·rw [show j / 4*4+2=j by omega] at f2
  rw [show off+j / 4*4+2=off+j by omega] at c2
  rw [hj] at f2;rw [c2,f2]
 ·rw [show j / 4*4+3=j by omega] at f3
  rw [show off+j / 4*4+3=off+j by omega] at c3
  rw [hj] at f3;rw [c3,f3]
theorem varsV_of_owns {w:World} {base:Nat} {v:Value} {l:List Vr} (h:w.ownsRow base 57 4 v l.length (vflat l)):VarsV w v l:=by
 rcases h.2 with ⟨rfl,h0⟩ | ⟨g,cap,cur,rfl,hb,hg,hnc,hcm,hcs,htake⟩
 ·exact ⟨none,0,by rw [h0],⟨by omega,fun _=>⟨rfl,h0⟩⟩,fun h=>by omega⟩
 ·refine ⟨_,cap,rfl,⟨hnc,fun h=>by simp at h⟩,fun _=>⟨g,0,rfl,(Array.getElem?_eq_some_iff.1 hg).1,fun i hi=>?_⟩⟩
  obtain ⟨f0,f1,f2,f3⟩:=vflat_get l i hi;refine ⟨?_,?_,?_,?_⟩
  all_goals rw [Nat.zero_add,h.cellAt _ (by omega)]
  ·exact f0
  ·exact f1
  ·exact f2
  ·exact f3
theorem infoVar:(Tryd.prog.info? 57).map (fun i=>(i.zero,i.size,i.bytes))=some (some (.agg #[.string ByteArray.empty,.int .i64 0,.int .i64 0,.int .i64 0]),4,40):=by kernel_rfl
theorem infoSet:(Tryd.prog.info? 64).map (fun i=>(i.zero,i.size,i.bytes))=some (some (.agg #[.int .i64 0,.slice none 0 0]),2,32):=by kernel_rfl
theorem infoRule:(Tryd.prog.info? 61).map (fun i=>(i.zero,i.size,i.bytes))=some (some (.agg #[.slice none 0 0,.slice none 0 0]),2,48):=by kernel_rfl
theorem wpList_copy {w:World} {ops:Array Oper} {rest:List Oper} {o:Oper} {a:Act} {Q:Exit->Act->World->Prop} (hgd:o.guard=none) (s x:Operand) (t:TypeId)
  (ho:o.op=.call { callee:=.builtin .append,args:=#[s,x],argTypes:=#[t,t]})
  (base:Nat) (e:TypeId) (i:TypeInfo) (z:Value) (size bytes:Nat) (ht:Tryd.prog.underlying t=some (.slice e)) (hi:Tryd.prog.info? e=some i) (hz:i.zero=some z)
  (hsize:i.size=size) (hby:i.bytes=bytes) (hzs:z.cells.size=size) (hsz:0 < size) (hs:a.eval s=.slice none 0 0)
  (ao:Option Addr) (m c:Nat) (news:List Value) (hx:a.eval x=.slice ao m c) (hno:ao=none->c=0/\m=0) (hl:news.length=m*size) (hnews:∀ ad,ao=some ad->∀ j u,news[j]? = some u->w.cell? (ad.add j)=some u) (h1:∀ u∈news,u.oneCell'=true)
  (h63:m <= maxLen) (hbytes:m*bytes <= 140737488355328) (hbase:base <= w.heap.size)
  (h:∀ v' w',w'.ownsRow base e size v' m news->w.grownBy w' none->wpList Tryd.prog ops Q rest (a.put o.dst v') w'):wpList Tryd.prog ops Q (o:: rest) a w:=by
 cases ao with
 | none=>
  obtain ⟨rfl,rfl⟩:=hno rfl;have:news=[]:=List.length_eq_zero_iff.1 (by simpa using hl)
  subst this;exact wpList_append_own_none hgd s x t ho base e i size ht hi _ _ _ hs (World.ownsRow_nil _ _ _ _) hx (h _ _ (World.ownsRow_nil _ _ _ _) (World.grownBy.refl _ _))
 | some ad=>
  exact wpList_append_own w hgd s x t ho base e i z size bytes ht hi hz hsize hby hzs hsz _ _ _ hs (World.ownsRow_nil _ _ _ _) ad m c news hx hl (hnews ad rfl) h1 (by omega) (by simpa using hbytes) hbase (fun v' w' h2 h3 _=>h v' w' (by simpa using h2) h3)
