import Derived.Test.YtehfhemidmfffaaGreatDoorRow
import Derived.Lib.SmallJoins
namespace Go.Proofs.YtehfhemidmfffaaGreatDoor
open _root_.List renaming mem_append→qL,mem_cons→qW
open Go.Proofs.Tryz renaming prog→qA
open Go.ChangeShapes Go.WideShapes Go.ChangeAt Go.RowKit Go.Deep Go.Joins
set_option maxHeartbeats 6400000
set_option maxRecDepth 20000
section
variable{H:Type}{enc:TypeId×Value -> H}{W:World}
def LightD(t:TypeId)(d:DataW H):Prop:=∀n∈d.weights qA t,n<=reachBytes
theorem MH{P:Program}{e:TypeId}{x:DataW H}{n:Nat}(hn:n∈x.weights P e):∀{l:List (DataW H)},x∈l->n∈DataW.weightsAll P e l
 |y::l,hx=>by
  simp only[DataW.weightsAll,qL];rcases qW.1 hx with rfl|hx
  .exact .inl hn
  .exact .inr (MH hn hx)
theorem LightD.slice{t e:TypeId}{elems spare:List (DataW H)}(hu:qA.underlying t=some (.slice e))(h:LightD t (.slice elems spare)):(elems.length+spare.length)*qA.bytesOf e<=reachBytes/\∀x∈elems,LightD e x:=by
 refine⟨h _ (by simp[DataW.weights,hu]),fun x hx n hn=>h n ?_⟩;simp only[DataW.weights,hu,qW,qL];exact .inr (.inl (MH hn hx))
theorem Q5{α:Type}(f:Nat->α)(d:α){n i:Nat}(hi:i<n):((List.range n).map f).getD i d=f i:=by simp[List.getD_eq_getElem?_getD,hi]
end
