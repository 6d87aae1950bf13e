import Derived.Test.YtlepcjafgdlmgaaDoorMem
import Derived.Test.YtlepcjafgdlmgaaDoorRefPolish
namespace Go.Proofs.YtlepcjafgdlmgaaDoor
open Go.ChangeShapes Go.WideShapes Go.ChangeAt Go.RowKit Go.Deep
open Terms
set_option maxHeartbeats 6400000
set_option maxRecDepth 20000
theorem endsOf_v (v:Value) (ks:List Int) (w:World) (hK:Kinds w v ks) :
  Calls Tryd.prog 43 #[v] w fun e w'=>∃ v',e=.returned (.tuple #[v',.int .i64 (endsCode ks)])/\Below w.heap.size w w'/\IntsV w' v' (endsL ks):=by
 refine (endsOf_any v ks w hK).mono fun e w' ⟨hb,h1,h2⟩=>?_
 by_cases hc:endsCode ks=0
 ·obtain ⟨v',rfl,hown⟩:=h2 hc
  refine ⟨_,by rw [hc],hb,?_⟩
  unfold endsL;rw [if_pos hc]
  rcases hown.2 with ⟨rfl,h0⟩ | ⟨g,cap,cur,rfl,hbg,hg,_⟩
  ·rw [h0];exact ⟨none,0,rfl,fun h=>absurd rfl h⟩
  ·refine ⟨_,cap,by rw [List.length_map,List.length_range],fun _=>⟨g,0,rfl,(Array.getElem?_eq_some_iff.1 hg).1,fun i hi=>?_⟩⟩
   rw [List.length_map,List.length_range] at hi;rw [Nat.zero_add,hown.cellAt i (by omega)]
   simp [List.getD_eq_getElem?_getD,hi]
 ·refine ⟨_,h1 hc,hb,?_⟩
  unfold endsL;rw [if_neg hc];exact ⟨none,0,rfl,fun h=>absurd rfl h⟩
