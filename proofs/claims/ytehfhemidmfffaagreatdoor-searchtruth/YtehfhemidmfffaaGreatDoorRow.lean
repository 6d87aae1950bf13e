import Derived.Test.YtehfhemidmfffaaGreatDoorMem
import Derived.OpenShut
import Derived.Deep.DeepHandedRow
import Derived.Deep.SlicePairs
import Derived.Lib.LaidTab
namespace Go.Proofs.YtehfhemidmfffaaGreatDoor
open Go.Proofs.Tryz renaming prog→qA
open Go.ChangeShapes Go.WideShapes Go.ChangeAt Go.RowKit Go.Deep
open Terms
set_option maxHeartbeats 6400000
set_option maxRecDepth 20000
theorem own:ownKnob qA.godebug=none:=by kernel_rfl
theorem Rw:laidOutB qA=true:=by kernel_rfl
theorem La : Tryz.prog.globalNamed "foretell/polish.partCounts" = some 0 := by kernel_rfl
theorem Q2:(qA.globals[0]?).map (·.type)=some 261:=by kernel_rfl
theorem Pf:qA.cellsOf 261=19:=by kernel_rfl
theorem Dj:qA.cellsOf 3=1:=by kernel_rfl
abbrev laidTab : List (String × DataW Unit) := [("foretell/polish.partCounts", Rows.laid_foretell_polish_partCounts)]
theorem Vx{W:World}(h:laidMetH qA laidTab W):AF W:=fun j hj=>by
 have ht : Lib.TabIs Tryz.prog W "foretell/polish.partCounts" .i64 tab := Lib.tabIs_of_head (rest := []) La Q2 Tryz.underlying261 Tryz.underlying3 Dj Pf h; exact ht.cell La j (by simpa [tab] using hj)
theorem Vz{W:World}(h:AF W):0<W.heap.size:=World.block_lt_of_cell? W ⟨0,0,none⟩ (h 0 (by omega))
theorem WQ{H:Type}{enc:TypeId×Value->H}{W W':World}(hb:Below W.heap.size W W'):∀(ts:List TypeId) (vs:List Value) (ds:List (DataW H)) (ps:List MemPlace),
  (∀t∈ts,qA.readableRec t=true/\t<qA.types.size)->(∀x∈ps,x.block<W.heap.size)->DataW.TrodAll enc qA W 0 (fun _=>true) true ts vs ds ps->
  DataW.TrodAll enc qA W' 0 (fun b=>decide (b<W.heap.size)) true ts vs ds ps:=by
 intro ts;induction ts with
 |nil=>
  intro vs ds ps _ _ h;obtain⟨rfl,rfl,rfl⟩:=trodAll_nil h;exact trodAll_mk0
 |cons t ts ih=>
  intro vs ds ps hr hlt h;obtain⟨v0,vs0,d0,ds0,p0,q0,rfl,rfl,rfl,h0,r0⟩:=trodAll_cons h;exact trodAll_cons_mk (Below.trod Rw (hr t (by simp)).1 (hr t (by simp)).2 h0 hb (fun x hx=>hlt x (by simp[hx]))) (ih _ _ _ (fun t ht=>hr t (by simp[ht])) (fun x hx=>hlt x (by simp[hx])) r0)
theorem Rz{H:Type}{enc:TypeId×Value->H}{f:Func}{s:ChangeSpec}{W W':World}{args:Array Value}{ds gs:List (DataW H)}{before:List MemPlace}
  (hread:∀t∈f.params.toList,qA.readableRec t=true/\t<qA.types.size) (hv0:s.vars=[]) (hrt:f.resultTypes=#[4])
  (hW:DataW.Whole enc qA f.params.toList s.vars false W args.toList ds gs before)
  (h1:(s.fn H (ds++gs)).results=[.lit (.bool true)]) (h2:(s.fn H (ds++gs)).args=ds) (h3:(s.fn H (ds++gs)).vars=[])
  (hb:Below W.heap.size W W'):s.post enc qA f false true false false W args (.bool true) W':=by
 have hW':=hW;obtain⟨p,q,hA,hV,rfl,hfz,hnd⟩:=hW;rw[hv0]at hV;obtain⟨rfl,rfl⟩:=trodVars_none hV;have hlt:∀x∈p,x.block<W.heap.size:=fun x hx=>by simpa using hW'.lt x (by simp[hx])
 refine⟨ds,[],p++[],[],p,[],hW',?_,?_,?_,hb.frame _,fun h=>by cases h⟩
 .rw[h1,hrt];exact trodAll_cons_mk (shut_bool Tryz.underlying4 _) trodAll_mk0
 .rw[h2];exact WQ hb _ _ _ _ hread hlt hA
 .rw[hv0,h3];rfl
