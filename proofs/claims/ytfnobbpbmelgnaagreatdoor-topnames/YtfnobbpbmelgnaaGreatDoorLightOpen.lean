import Derived.Test.YtfnobbpbmelgnaaGreatDoorRow
import Derived.Lib.SmallJoins
namespace Go.Proofs.YtfnobbpbmelgnaaGreatDoor
open Go.ChangeShapes Go.WideShapes Go.ChangeAt Go.RowKit Go.Deep Go.Joins
set_option maxHeartbeats 6400000
set_option maxRecDepth 20000
section
variable {H : Type} {enc : TypeId × Value -> H} {W : World}
def LightD (t:TypeId) (d:DataW H):Prop:=∀ n∈d.weights Tryz.prog t,n <= reachBytes
theorem mem_weightsAll {P:Program} {e:TypeId} {x:DataW H} {n:Nat} (hn:n∈x.weights P e):∀ {l:List (DataW H)},x∈l->n∈DataW.weightsAll P e l
 | y:: l,hx=>by
  simp only [DataW.weightsAll,List.mem_append]
  rcases List.mem_cons.1 hx with rfl | hx
  ·exact .inl hn
  ·exact .inr (mem_weightsAll hn hx)
theorem LightD.slice {t e:TypeId} {elems spare:List (DataW H)} (hu:Tryz.prog.underlying t=some (.slice e)) (h:LightD t (.slice elems spare)):(elems.length+spare.length)*Tryz.prog.bytesOf e <= reachBytes/\∀ x∈elems,LightD e x:=by
 refine ⟨h _ (by simp [DataW.weights,hu]),fun x hx n hn=>h n ?_⟩
 simp only [DataW.weights,hu,List.mem_cons,List.mem_append];exact .inr (.inl (mem_weightsAll hn hx))
theorem getD_range {α:Type} (f:Nat->α) (d:α) {n i:Nat} (hi:i < n):((List.range n).map f).getD i d=f i:=by simp [List.getD_eq_getElem?_getD,hi]
end
