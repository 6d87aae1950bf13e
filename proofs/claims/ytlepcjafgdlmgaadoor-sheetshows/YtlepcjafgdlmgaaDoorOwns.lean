import Derived.Test.YtlepcjafgdlmgaaDoorMem
namespace Go.Proofs.YtlepcjafgdlmgaaDoor
open Go.ChangeShapes Go.WideShapes Go.ChangeAt Go.RowKit Go.Deep
open Terms
set_option maxHeartbeats 6400000
set_option maxRecDepth 20000
def TermsOwn (w:World) (base:Nat) (v:Value) (ts:List (List (Int × Int))):Prop:=
 ∃ us:List Value,w.ownsRow base 27 1 v ts.length us/\∀ j,j < ts.length->w.ownsRow base 77 2 (us.getD j .nilIface) (ts.getD j []).length (flat (ts.getD j []))
theorem TermsOwn.nil (w:World) (base:Nat):TermsOwn w base (.slice none 0 0) []:=⟨[],World.ownsRow_nil _ _ _ _,fun j hj=>by simp at hj⟩
theorem TermsOwn.later {w w':World} {base B:Nat} {v:Value} {ts:List (List (Int × Int))} (h:TermsOwn w base v ts) (hb:Below B w w') (hB:w.heap.size <= B):TermsOwn w' base v ts:=by
 obtain ⟨us,h1,h2⟩:=h;exact ⟨us,owns_later h1 hb hB,fun j hj=>owns_later (h2 j hj) hb hB⟩
theorem TermsOwn.snoc {w wa w':World} {base:Nat} {v v' u:Value} {ts:List (List (Int × Int))} {t:List (Int × Int)} {us:List Value}
  (hus:w.ownsRow base 27 1 v ts.length us) (hts:∀ j,j < ts.length->w.ownsRow base 77 2 (us.getD j .nilIface) (ts.getD j []).length (flat (ts.getD j [])))
  (hu:w.ownsRow base 77 2 u t.length (flat t)) (ha:∃ o,wa=w.alloc o) (hg:wa.grownBy w' v.ownBlock) (ho:w'.ownsRow base 27 1 v' (ts.length+1) (us++[u])):TermsOwn w' base v' (ts++[t]):=by
 obtain ⟨o,rfl⟩:=ha;have hl:us.length=ts.length:=by simpa using hus.1
 refine ⟨us++[u],by simpa using ho,fun j hj=>?_⟩
 by_cases hlt:j < ts.length
 ·have h1:=(hts j hlt).alloc o
  have:=h1.kept hg (owns_apart (by decide) h1 (hus.alloc o))
  simpa [List.getD_eq_getElem?_getD,List.getElem?_append_left (show j < us.length by omega),List.getElem?_append_left hlt] using this
 ·have hj':j=ts.length:=by simp at hj;omega
  subst hj';have h1:=hu.alloc o;have:=h1.kept hg (owns_apart (by decide) h1 (hus.alloc o))
  simpa [List.getD_eq_getElem?_getD,<- hl] using this
def splitTo (l:List (Int × Int)) (i:Nat):List (List (Int × Int)):=(List.range i).map fun j=>seg l (pos (l.map Prod.fst) j) (pos (l.map Prod.fst) (j+1))
def splitL (l:List (Int × Int)):List (List (Int × Int)):=if endsCode (l.map Prod.fst)=0 then splitTo l (pn ((l.map Prod.fst).getD 0 0)) else []
theorem splitTo_len (l:List (Int × Int)) (i:Nat):(splitTo l i).length=i:=by simp [splitTo]
theorem splitTo_snoc (l:List (Int × Int)) (i:Nat):splitTo l (i+1)=splitTo l i++[seg l (pos (l.map Prod.fst) i) (pos (l.map Prod.fst) (i+1))]:=by simp [splitTo,List.range_succ]
theorem infoOps:(Tryd.prog.info? 27).map (fun i=>(i.zero,i.size,i.bytes))=some (some (.slice none 0 0),1,24):=by kernel_rfl
theorem TermsOwn.termsV {w:World} {base:Nat} {v:Value} {ts:List (List (Int × Int))} (h:TermsOwn w base v ts):TermsV w v ts:=by
 obtain ⟨us,h1,h2⟩:=h;have hl:us.length=ts.length:=by simpa using h1.1
 rcases h1.2 with ⟨rfl,h0⟩ | ⟨g,cap,cur,rfl,hbg,hg,_⟩
 ·exact ⟨none,0,by rw [h0],fun h=>absurd (List.length_eq_zero_iff.1 h0) h⟩
 ·refine ⟨_,cap,rfl,fun _=>⟨g,0,rfl,(Array.getElem?_eq_some_iff.1 hg).1,fun i hi=>⟨us.getD i .nilIface,?_,opsV_of_owns (h2 i hi)⟩⟩⟩
  rw [Nat.zero_add,h1.cellAt i (by omega)]
  simp [List.getD_eq_getElem?_getD,show i < us.length by omega]
