/-
  Proved: foretelltop.SearchEnough answers true at every design, raw formula and list of raw crashes (a search is done behind as much work as there are spots, and as crashes have lost), given that the table polish.partCounts reads as its initialiser lays it, which the card ties to the program's text. No other condition.
-/
import Derived.Test.YtehfhemidmfffaaGreatDoorCards
import Derived.Test.YtehfhemidmfffaaGreatDoorTie
import Derived.Test.YtehfhemidmfffaaGreatDoorTopD
open Go.IntKind renaming i64→Z
open Go.Value renaming slice→Y
open _root_.Bool renaming false→X
open _root_.Option renaming none→V
namespace Go.Proofs.YtehfhemidmfffaaGreatDoor
open _root_.List renaming mem_cons→qU,not_mem_nil→jU
open Go.Proofs.Tryz renaming prog→qA
open Go.ChangeShapes Go.WideShapes Go.ChangeAt Go.RowKit Go.Deep
open Terms Tm
set_option maxRecDepth 20000
theorem UI(H:Type)(enc:TypeId×Value->H)(W:World)(base:Nat)(args:Array Value)(ds gs:List (DataW H))(before:List MemPlace)
  (hval:∀(j:Nat) t v,Tryz.f5.params[j]? = some t->args[j]? = some v->Value.okWide qA W .any base t v)
  (hW:DataW.Whole enc qA Tryz.f5.params.toList Rows.searchEnoughSpec.vars X W args.toList ds gs before)
  (hsz0:(DataW.weightsEach qA (Tryz.f5.params.toList++(OpenSpec.ofChange Rows.searchEnoughSpec).bare.plain.varTypes qA) (ds++gs)).all (·<=reachBytes)=true)
  (hL:laidMetH qA Rows.searchEnoughRow.laid W) :
  Calls qA 5 args W fun e W'=>∃v,e=.returned v/\Rows.searchEnoughSpec.post enc qA Tryz.f5 X true X X W args v W':=by
 have hW':=hW;obtain⟨p,q,hA0,hV,rfl,hfz,hnd⟩:=hW;have hA:DataW.TrodAll enc qA W 0 (fun _=>true) true Tryz.f5.params.toList args.toList ds p:=hA0;rw[Tryz.params5]at hA hval;obtain⟨v0,vs0,d0,ds0,p0,q0,hargs,rfl,rfl,h0,r0⟩:=trodAll_cons hA;obtain⟨v1,vs1,d1,ds1,p1,q1,rfl,rfl,rfl,h1,r1⟩:=trodAll_cons r0;obtain⟨v2,vs2,d2,ds2,p2,q2,rfl,rfl,rfl,h2,r2⟩:=trodAll_cons r1;obtain⟨rfl,rfl,rfl⟩:=trodAll_nil r2;obtain rfl:args=#[v0,v1,v2]:=by cases args;simp_all
 obtain⟨rfl,rfl⟩:=trodVars_none hV;have hsz:(DataW.weightsEach qA [25,26,43] [d0,d1,d2]).all (·<=reachBytes)=true:=hsz0;obtain⟨vars,hD⟩:=Sh (hval 0 25 v0 rfl rfl) h0 hsz (j:=0) rfl rfl;obtain⟨c0,c1,c2,c3,c4,c5,c6,a,b,rules,rfl,hG,hmd⟩:=PN hD;obtain⟨x1,hx1⟩:=Sn (hval 1 26 v1 rfl rfl) h1 hsz (j:=1) rfl rfl;obtain⟨x2,hx2⟩:=Si (hval 2 43 v2 rfl rfl) h2 hsz (j:=2) rfl rfl;have hT:=U5 hL;refine(UO c0 c1 c2 c3 c4 c5 c6 a b v1 x1 v2 x2 W (U7 hT) hT hG hx1 hx2 (fun w' h=>(hmd w' h).mono fun _ _ ⟨va,vr,g1,g2,g3⟩=>⟨va,vr,g1,g2,g3.gm⟩)).mono fun e W' ⟨he,hb⟩=>⟨_,he,?_⟩;refine RM (fun t ht=>?_) rfl (by kernel_rfl) hW' rfl rfl rfl hb;rw[Tryz.params5]at ht;simp only[qU,jU,or_false]at ht;rcases ht with rfl|rfl|rfl
 .exact ⟨by kernel_rfl,of_decide_eq_true (by kernel_rfl)⟩
 .exact ⟨by kernel_rfl,of_decide_eq_true (by kernel_rfl)⟩
 .exact ⟨by kernel_rfl,of_decide_eq_true (by kernel_rfl)⟩
noncomputable def JY(os:Os):World:=
 { World.holding qA os ⟨#[],#[],[]⟩with heap:=(World.holding qA os ⟨#[],#[],[]⟩).heap.modify 0 fun
   | .cells _ t frozen=>.cells #[.int Z 0,.int Z 0,.int Z 0,.int Z 2,.int Z 2,.int Z 2,.int Z 2,.int Z 2,.int Z 2,.int Z 2,.int Z 1,.int Z 0,.int Z 0,.int Z 0,.int Z 1,.int Z 2,.int Z 2,.int Z 1,.int Z 1] t frozen
   |o=>o}
theorem UK(os:Os):laidMet qA Rows.searchEnoughRow.laid ((JY os).forCall (fun _ _=>0) ⟨#[],#[.agg #[.int Z 0,.int Z 0,.int Z 0,.int Z 0,.int Z 0,.int Z 0,Y V 0 0],Y V 0 0,Y V 0 0],[]⟩).memory:=
 laidMet_of_run' 8 (by kernel_rfl) (by kernel_rfl)
theorem UM(os:Os){H:Type}(enc:TypeId×Value->H):∃places,DataW.whole enc qA ((JY os).forCall (fun _ _=>0) ⟨#[],#[.agg #[.int Z 0,.int Z 0,.int Z 0,.int Z 0,.int Z 0,.int Z 0,Y V 0 0],Y V 0 0,Y V 0 0],[]⟩).memory Tryz.f5.params.toList Rows.searchEnoughSpec.vars X #[Value.agg #[.int Z 0,.int Z 0,.int Z 0,.int Z 0,.int Z 0,.int Z 0,Y V 0 0],Y V 0 0,Y V 0 0].toList 8=some ([.agg [.agg [.lit (.int Z 0),.lit (.int Z 0)],.agg [.lit (.int Z 0),.lit (.int Z 0)],.agg [.lit (.int Z 0),.lit (.int Z 0)],.nil],.nil,.nil],[],places):=
 ⟨[],by kernel_rfl⟩
set_option maxRecDepth 100000 in
theorem UJ(os:Os)(started:os.Started)(H:Type)(enc:TypeId×Value->H)(F:Stop.Interp) :
  ReturnsInHanded {} Tryz.checked os 5 .any ((OpenSpec.ofChange Rows.searchEnoughSpec).preRow enc qA Tryz.f5 Rows.searchEnoughRow.domain X Rows.searchEnoughRow.laid) (((OpenSpec.ofChange Rows.searchEnoughSpec).at F).post enc qA Tryz.f5 X true X X):=by
 obtain⟨places,hx⟩:=UM os enc;refine returnsInHanded_of_row (C:=Tryz.checked) (s:=OpenSpec.ofChange Rows.searchEnoughSpec) own started (by kernel_rfl) Tryz.func5
  (witness_row_at (enc:=enc) (C:=Tryz.checked) X (JY os) #[.agg #[.int Z 0,.int Z 0,.int Z 0,.int Z 0,.int Z 0,.int Z 0,Y V 0 0],Y V 0 0,Y V 0 0] rfl (by kernel_rfl) (by kernel_rfl) (by kernel_rfl)
   (OpenSpec.preRow_of_cond 8 hx (by kernel_rfl) (fun k hk=>by cases hk) (by kernel_rfl) (UK os))) ?_
 intro W base args ds gs before hval hW _ _ hsz hL _ _;exact UI H enc W base args ds gs before hval hW hsz hL
theorem UN:Rows.SearchEnoughSaid:=
 OpenClaim.holds_of_cond 5 Tryz.f5 rfl rfl rfl rfl rfl rfl rfl ⟨rfl,rfl,rfl,rfl,rfl⟩ rfl rfl rfl rfl rfl (by kernel_rfl) Tryz.func5 (by kernel_rfl)
  (of_decide_eq_true (by kernel_rfl)) (by unfold Func.isWrapper;first|(rw[if_pos (by decide +kernel)];kernel_rfl)|(rw[if_neg (by decide +kernel)];exact⟨rfl,rfl⟩))
  (fun os started H enc _ F=>by rw[OpenClaim.pre_eq_preRow];exact UJ os started H enc F)
theorem UL (f : FuncId) (fn : Func) (hf : Tryz.pinned.checked.prog.funcNamed "foretell/foretelltop.SearchEnough" = some f) (hfn : Tryz.pinned.checked.prog.funcs[f]? = some fn) :
  true=Tryz.pinned.checked.prog.looks []/\∀(j:Nat) t,fn.params[j]? = some t->Tryz.pinned.checked.prog.wantsStandIn t=false:=by
 obtain rfl : f = 5 := Option.some.inj ((show Tryz.prog.funcNamed "foretell/foretelltop.SearchEnough" = some 5 by kernel_rfl).symm.trans hf) |>.symm
 obtain rfl:fn=Tryz.f5:=(Option.some.inj (Tryz.func5.symm.trans hfn)).symm;refine⟨by kernel_rfl,fun j t ht=>?_⟩;rw[Tryz.params5]at ht;have ht':=Array.mem_of_getElem? ht;simp only[List.mem_toArray,qU,jU,or_false]at ht';rcases ht' with rfl|rfl|rfl
 .exact (show qA.wantsStandIn 25=X by kernel_rfl)
 .exact (show qA.wantsStandIn 26=X by kernel_rfl)
 .exact (show qA.wantsStandIn 43=X by kernel_rfl)
theorem searchEnough_card:Rows.SearchEnoughCardSaid:=
 Claim7.holds_tied_plain_at .later [] _ _ _ _ UN (fun _ h=>by cases h) (by kernel_rfl) (fun _ h=>by cases h) searchEnough_row_tie rfl ⟨rfl,rfl⟩ (by kernel_rfl) rfl UL (by kernel_rfl)
#print axioms searchEnough_card
