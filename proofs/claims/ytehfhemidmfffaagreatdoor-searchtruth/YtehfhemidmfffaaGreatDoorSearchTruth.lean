/-
  Proved: foretelltop.SearchTruth answers true at every design, raw formula and list of raw moves (when a search is done it tells the truth, whatever it came through), given that the table polish.partCounts reads as its initialiser lays it, which the card ties to the program's text. No other condition.
-/
import Derived.Test.YtehfhemidmfffaaGreatDoorCards
import Derived.Test.YtehfhemidmfffaaGreatDoorTie
import Derived.Test.YtehfhemidmfffaaGreatDoorTopE
open Go.IntKind renaming i64→Z
open Go.Value renaming slice→Y
open _root_.Bool renaming false→X
open _root_.Option renaming none→V
namespace Go.Proofs.YtehfhemidmfffaaGreatDoor
open _root_.List renaming mem_cons→qW,not_mem_nil→yD
open Go.Proofs.Tryz renaming prog→qA
open Go.ChangeShapes Go.WideShapes Go.ChangeAt Go.RowKit Go.Deep
open Terms Tm
open Go.Proofs.Tryz renaming checked→jl,f6→jm,func6→jn,params6→jo
set_option maxRecDepth 20000
theorem U3(H:Type)(enc:TypeId×Value->H)(W:World)(base:Nat)(args:Array Value)(ds gs:List (DataW H))(before:List MemPlace)
  (hval:∀(j:Nat) t v,jm.params[j]? = some t->args[j]? = some v->Value.okWide qA W .any base t v)
  (hW:DataW.Whole enc qA jm.params.toList Rows.searchTruthSpec.vars X W args.toList ds gs before)
  (hsz0:(DataW.weightsEach qA (jm.params.toList++(OpenSpec.ofChange Rows.searchTruthSpec).bare.plain.varTypes qA) (ds++gs)).all (·<=reachBytes)=true)
  (hL:laidMetH qA Rows.searchTruthRow.laid W) :
  Calls qA 6 args W fun e W'=>∃v,e=.returned v/\Rows.searchTruthSpec.post enc qA jm X true X X W args v W':=by
 have hW':=hW;obtain⟨p,q,hA0,hV,rfl,hfz,hnd⟩:=hW;have hA:DataW.TrodAll enc qA W 0 (fun _=>true) true jm.params.toList args.toList ds p:=hA0;rw[jo]at hA hval;obtain⟨v0,vs0,d0,ds0,p0,q0,hargs,rfl,rfl,h0,r0⟩:=trodAll_cons hA;obtain⟨v1,vs1,d1,ds1,p1,q1,rfl,rfl,rfl,h1,r1⟩:=trodAll_cons r0;obtain⟨v2,vs2,d2,ds2,p2,q2,rfl,rfl,rfl,h2,r2⟩:=trodAll_cons r1;obtain⟨rfl,rfl,rfl⟩:=trodAll_nil r2;obtain rfl:args=#[v0,v1,v2]:=by cases args;simp_all
 obtain⟨rfl,rfl⟩:=trodVars_none hV;have hsz:(DataW.weightsEach qA [25,26,27] [d0,d1,d2]).all (·<=reachBytes)=true:=hsz0;obtain⟨vars,hD⟩:=TU (hval 0 25 v0 rfl rfl) h0 hsz (j:=0) rfl rfl;obtain⟨c0,c1,c2,c3,c4,c5,c6,a,b,rules,rfl,hG,hmd⟩:=P7 hD;obtain⟨x1,hx1⟩:=TX (hval 1 26 v1 rfl rfl) h1 hsz (j:=1) rfl rfl;obtain⟨x2,hx2⟩:=TV (hval 2 27 v2 rfl rfl) h2 hsz (j:=2) rfl rfl;have hT:=Vx hL;refine(U9 c0 c1 c2 c3 c4 c5 c6 a b v1 x1 v2 x2 W (Vz hT) hT hG hx1 hx2 (fun w' h=>(hmd w' h).mono fun _ _ ⟨va,vr,g1,g2,g3⟩=>⟨va,vr,g1,g2,g3.gm⟩)).mono fun e W' ⟨he,hb⟩=>⟨_,he,?_⟩;refine Rz (fun t ht=>?_) rfl (by kernel_rfl) hW' rfl rfl rfl hb;rw[jo]at ht;simp only[qW,yD,or_false]at ht;rcases ht with rfl|rfl|rfl
 .exact ⟨by kernel_rfl,of_decide_eq_true (by kernel_rfl)⟩
 .exact ⟨by kernel_rfl,of_decide_eq_true (by kernel_rfl)⟩
 .exact ⟨by kernel_rfl,of_decide_eq_true (by kernel_rfl)⟩
noncomputable def Jv(os:Os):World:=
 { World.holding qA os ⟨#[],#[],[]⟩with heap:=(World.holding qA os ⟨#[],#[],[]⟩).heap.modify 0 fun
   | .cells _ t frozen=>.cells #[.int Z 0,.int Z 0,.int Z 0,.int Z 2,.int Z 2,.int Z 2,.int Z 2,.int Z 2,.int Z 2,.int Z 2,.int Z 1,.int Z 0,.int Z 0,.int Z 0,.int Z 1,.int Z 2,.int Z 2,.int Z 1,.int Z 1] t frozen
   |o=>o}
theorem U5(os:Os):laidMet qA Rows.searchTruthRow.laid ((Jv os).forCall (fun _ _=>0) ⟨#[],#[.agg #[.int Z 0,.int Z 0,.int Z 0,.int Z 0,.int Z 0,.int Z 0,Y V 0 0],Y V 0 0,Y V 0 0],[]⟩).memory:=
 laidMet_of_run' 8 (by kernel_rfl) (by kernel_rfl)
theorem U7(os:Os){H:Type}(enc:TypeId×Value->H):∃places,DataW.whole enc qA ((Jv os).forCall (fun _ _=>0) ⟨#[],#[.agg #[.int Z 0,.int Z 0,.int Z 0,.int Z 0,.int Z 0,.int Z 0,Y V 0 0],Y V 0 0,Y V 0 0],[]⟩).memory jm.params.toList Rows.searchTruthSpec.vars X #[Value.agg #[.int Z 0,.int Z 0,.int Z 0,.int Z 0,.int Z 0,.int Z 0,Y V 0 0],Y V 0 0,Y V 0 0].toList 8=some ([.agg [.agg [.lit (.int Z 0),.lit (.int Z 0)],.agg [.lit (.int Z 0),.lit (.int Z 0)],.agg [.lit (.int Z 0),.lit (.int Z 0)],.nil],.nil,.nil],[],places):=
 ⟨[],by kernel_rfl⟩
set_option maxRecDepth 100000 in
theorem U4(os:Os)(started:os.Started)(H:Type)(enc:TypeId×Value->H)(F:Stop.Interp) :
  ReturnsInHanded {} jl os 6 .any ((OpenSpec.ofChange Rows.searchTruthSpec).preRow enc qA jm Rows.searchTruthRow.domain X Rows.searchTruthRow.laid) (((OpenSpec.ofChange Rows.searchTruthSpec).at F).post enc qA jm X true X X):=by
 obtain⟨places,hx⟩:=U7 os enc;refine returnsInHanded_of_row (C:=jl) (s:=OpenSpec.ofChange Rows.searchTruthSpec) own started (by kernel_rfl) jn
  (witness_row_at (enc:=enc) (C:=jl) X (Jv os) #[.agg #[.int Z 0,.int Z 0,.int Z 0,.int Z 0,.int Z 0,.int Z 0,Y V 0 0],Y V 0 0,Y V 0 0] rfl (by kernel_rfl) (by kernel_rfl) (by kernel_rfl)
   (OpenSpec.preRow_of_cond 8 hx (by kernel_rfl) (fun k hk=>by cases hk) (by kernel_rfl) (U5 os))) ?_
 intro W base args ds gs before hval hW _ _ hsz hL _ _;exact U3 H enc W base args ds gs before hval hW hsz hL
theorem U8:Rows.SearchTruthSaid:=
 OpenClaim.holds_of_cond 6 jm rfl rfl rfl rfl rfl rfl rfl ⟨rfl,rfl,rfl,rfl,rfl⟩ rfl rfl rfl rfl rfl (by kernel_rfl) jn (by kernel_rfl)
  (of_decide_eq_true (by kernel_rfl)) (by unfold Func.isWrapper;first|(rw[aj (by decide +kernel)];kernel_rfl)|(rw[ak (by decide +kernel)];exact⟨rfl,rfl⟩))
  (fun os started H enc _ F=>by rw[OpenClaim.pre_eq_preRow];exact U4 os started H enc F)
theorem U6 (f : FuncId) (fn : Func) (hf : Tryz.pinned.checked.prog.funcNamed "foretell/foretelltop.SearchTruth" = some f) (hfn : Tryz.pinned.checked.prog.funcs[f]? = some fn) :
  true=Tryz.pinned.checked.prog.looks []/\∀(j:Nat) t,fn.params[j]? = some t->Tryz.pinned.checked.prog.wantsStandIn t=false:=by
 obtain rfl : f = 6 := Option.some.inj ((show Tryz.prog.funcNamed "foretell/foretelltop.SearchTruth" = some 6 by kernel_rfl).symm.trans hf) |>.symm
 obtain rfl:fn=jm:=(Option.some.inj (jn.symm.trans hfn)).symm;refine⟨by kernel_rfl,fun j t ht=>?_⟩;rw[jo]at ht;have ht':=Array.mem_of_getElem? ht;simp only[List.mem_toArray,qW,yD,or_false]at ht';rcases ht' with rfl|rfl|rfl
 .exact (show qA.wantsStandIn 25=X by kernel_rfl)
 .exact (show qA.wantsStandIn 26=X by kernel_rfl)
 .exact (show qA.wantsStandIn 27=X by kernel_rfl)
theorem searchTruth_card:Rows.SearchTruthCardSaid:=
 Claim7.holds_tied_plain_at .later [] _ _ _ _ U8 (fun _ h=>by cases h) (by kernel_rfl) (fun _ h=>by cases h) searchTruth_row_tie rfl ⟨rfl,rfl⟩ (by kernel_rfl) rfl U6 (by kernel_rfl)
#print axioms searchTruth_card
