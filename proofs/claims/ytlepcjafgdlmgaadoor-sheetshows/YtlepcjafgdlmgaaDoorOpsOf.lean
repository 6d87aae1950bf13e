import Derived.Test.YtlepcjafgdlmgaaDoorMem
namespace Go.Proofs.YtlepcjafgdlmgaaDoor
open Go.ChangeShapes Go.WideShapes Go.ChangeAt Go.RowKit Go.Deep
open Terms
set_option maxHeartbeats 6400000
set_option maxRecDepth 20000
theorem ops_any (v:Value) (l:List (Int × Int)) (w:World) (hl:l.length*16 <= 140737488355328) (hV:OpsV w v l) :
  Calls Tryd.prog 10 #[v] w fun e w'=>∃ v',e=.returned v'/\Below w.heap.size w w'/\w'.ownsRow w.heap.size 77 2 v' l.length (flat l):=by
 obtain ⟨ao,cap,rfl,h0,h⟩:=hV;obtain ⟨i0,hi,hz0,hz1,hz2⟩:=info_parts infoOp
 cases ao with
 | none=>
  obtain ⟨rfl,rfl⟩:=h0.2 rfl;simp only [List.length_nil]
  go_enter Tryd.func10,Tryd.ntmps10
  go_wp2_with (at_builtin;refine wpList_append_own_none rfl _ _ 27 rfl w.heap.size 77 i0 2 Tryd.underlying27 hi _ _ _ rfl (World.ownsRow_nil _ _ _ _) rfl ?_)
  go_ret
  exact ⟨_,rfl,Below.refl _ _,World.ownsRow_nil _ _ _ _⟩
 | some a=>
  have hcells:∀ j u,(flat l)[j]? = some u->w.cell? (a.add j)=some u:=by
   by_cases hne:l=[]
   ·subst hne;intro j u hj;simp [flat] at hj
   ·obtain ⟨b,off,e,_,hat⟩:=h hne
    obtain rfl:=Option.some.inj e;exact hat.cells
  clear h h0
  go_enter Tryd.func10,Tryd.ntmps10
  go_wp2_with (at_builtin;refine wpList_append_own _ rfl _ _ 27 rfl w.heap.size 77 i0 (.agg #[.int .i64 0,.int .i64 0]) 2 16 Tryd.underlying27 hi hz0 hz1 hz2 rfl (by decide) _ _ _ rfl (World.ownsRow_nil _ _ _ _) a l.length cap (flat l) rfl (flat_length l) hcells (flat_one l) ?c3 ?c4 ?c5 ?_)
  case c3=>unfold maxLen;omega
  case c4=>omega
  case c5=>exact Nat.le_refl _
  intro v' w4 hown' hgrow _;have hb:Below w.heap.size w w4:=(Below.refl _ _).grown hgrow (Nat.le_refl _) (fun q hq=>by simp [Value.ownBlock] at hq)
  clear hgrow hcells
  go_wp2
  go_ret
  exact ⟨_,rfl,hb,hown'⟩
