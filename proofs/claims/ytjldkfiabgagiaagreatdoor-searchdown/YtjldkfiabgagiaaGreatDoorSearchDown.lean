/-
  Proved: foretelltop.SearchDown answers true at every design, raw formula and list of raw moves (a search that is down does nothing; one that is up needs no start), given that the table polish.partCounts reads as its initialiser lays it, which the card ties to the program's text. No other condition.
-/
import Derived.Test.YtjldkfiabgagiaaGreatDoorCards
import Derived.Test.YtjldkfiabgagiaaGreatDoorTie
import Derived.Test.YtjldkfiabgagiaaGreatDoorTopE
open Go.IntKind renaming i64→Z
open Go.Value renaming slice→Y
open _root_.Bool renaming false→X
open _root_.Option renaming none→V
namespace Go.Proofs.YtjldkfiabgagiaaGreatDoor
open _root_.List renaming mem_cons→qW,not_mem_nil→jZ
open Go.Proofs.Tryz renaming prog→qA
open Go.ChangeShapes Go.WideShapes Go.ChangeAt Go.RowKit Go.Deep
open Terms Tm
set_option maxRecDepth 20000
theorem WR(H:Type)(enc:TypeId×Value->H)(W:World)(base:Nat)(args:Array Value)(ds gs:List (DataW H))(before:List MemPlace)
  (hval:∀(j:Nat) t v,Tryz.f7.params[j]? = some t->args[j]? = some v->Value.okWide qA W .any base t v)
  (hW:DataW.Whole enc qA Tryz.f7.params.toList Rows.searchDownSpec.vars X W args.toList ds gs before)
  (hsz0:(DataW.weightsEach qA (Tryz.f7.params.toList++(OpenSpec.ofChange Rows.searchDownSpec).bare.plain.varTypes qA) (ds++gs)).all (·<=reachBytes)=true)
  (hL:laidMetH qA Rows.searchDownRow.laid W) :
  Calls qA 7 args W fun e W'=>∃v,e=.returned v/\Rows.searchDownSpec.post enc qA Tryz.f7 X true X X W args v W':=by
 have hW':=hW;obtain⟨p,q,hA0,hV,rfl,hfz,hnd⟩:=hW;have hA:DataW.TrodAll enc qA W 0 (fun _=>true) true Tryz.f7.params.toList args.toList ds p:=hA0;rw[Tryz.params7]at hA hval;obtain⟨v0,vs0,d0,ds0,p0,q0,hargs,rfl,rfl,h0,r0⟩:=trodAll_cons hA;obtain⟨v1,vs1,d1,ds1,p1,q1,rfl,rfl,rfl,h1,r1⟩:=trodAll_cons r0;obtain⟨v2,vs2,d2,ds2,p2,q2,rfl,rfl,rfl,h2,r2⟩:=trodAll_cons r1;obtain⟨v3,vs3,d3,ds3,p3,q3,rfl,rfl,rfl,h3,r3⟩:=trodAll_cons r2;obtain⟨rfl,rfl,rfl⟩:=trodAll_nil r3;obtain rfl:args=#[v0,v1,v2,v3]:=by cases args;simp_all
 obtain⟨rfl,rfl⟩:=trodVars_none hV;have hsz:(DataW.weightsEach qA [25,26,27,3] [d0,d1,d2,d3]).all (·<=reachBytes)=true:=hsz0;obtain⟨vars,hD⟩:=Sn (hval 0 25 v0 rfl rfl) h0 hsz (j:=0) rfl rfl;obtain⟨c0,c1,c2,c3,c4,c5,c6,a,b,rules,rfl,hG,hmd⟩:=PV hD;obtain⟨x1,hx1⟩:=Sq (hval 1 26 v1 rfl rfl) h1 hsz (j:=1) rfl rfl;obtain⟨x2,hx2⟩:=So (hval 2 27 v2 rfl rfl) h2 hsz (j:=2) rfl rfl;obtain⟨n3,rfl,rfl,rfl,wf3⟩:=open_int Tryz.underlying3 (hval 3 3 v3 rfl rfl) h3;have hT:=U2 hL;refine(WX c0 c1 c2 c3 c4 c5 c6 a b v1 x1 v2 x2 n3 W (U4 hT) hT hG hx1 hx2 (bounds_i64 wf3) (fun w' h=>(hmd w' h).mono fun _ _ ⟨va,vr,g1,g2,g3⟩=>⟨va,vr,g1,g2,g3.gm⟩)).mono fun e W' ⟨he,hb⟩=>⟨_,he,?_⟩;refine RP (fun t ht=>?_) rfl (by kernel_rfl) hW' rfl rfl rfl hb;rw[Tryz.params7]at ht;simp only[qW,jZ,or_false]at ht;rcases ht with rfl|rfl|rfl|rfl
 .exact ⟨by kernel_rfl,of_decide_eq_true (by kernel_rfl)⟩
 .exact ⟨by kernel_rfl,of_decide_eq_true (by kernel_rfl)⟩
 .exact ⟨by kernel_rfl,of_decide_eq_true (by kernel_rfl)⟩
 .exact ⟨by kernel_rfl,of_decide_eq_true (by kernel_rfl)⟩
noncomputable def WE(os:Os):World:=
 { World.holding qA os ⟨#[],#[],[]⟩with heap:=(World.holding qA os ⟨#[],#[],[]⟩).heap.modify 0 fun
   | .cells _ t frozen=>.cells #[.int Z 0,.int Z 0,.int Z 0,.int Z 2,.int Z 2,.int Z 2,.int Z 2,.int Z 2,.int Z 2,.int Z 2,.int Z 1,.int Z 0,.int Z 0,.int Z 0,.int Z 1,.int Z 2,.int Z 2,.int Z 1,.int Z 1] t frozen
   |o=>o}
theorem WT(os:Os):laidMet qA Rows.searchDownRow.laid ((WE os).forCall (fun _ _=>0) ⟨#[],#[.agg #[.int Z 0,.int Z 0,.int Z 0,.int Z 0,.int Z 0,.int Z 0,Y V 0 0],Y V 0 0,Y V 0 0,.int Z 0],[]⟩).memory:=
 laidMet_of_run' 8 (by kernel_rfl) (by kernel_rfl)
theorem WV(os:Os){H:Type}(enc:TypeId×Value->H):∃places,DataW.whole enc qA ((WE os).forCall (fun _ _=>0) ⟨#[],#[.agg #[.int Z 0,.int Z 0,.int Z 0,.int Z 0,.int Z 0,.int Z 0,Y V 0 0],Y V 0 0,Y V 0 0,.int Z 0],[]⟩).memory Tryz.f7.params.toList Rows.searchDownSpec.vars X #[Value.agg #[.int Z 0,.int Z 0,.int Z 0,.int Z 0,.int Z 0,.int Z 0,Y V 0 0],Y V 0 0,Y V 0 0,.int Z 0].toList 8=some ([.agg [.agg [.lit (.int Z 0),.lit (.int Z 0)],.agg [.lit (.int Z 0),.lit (.int Z 0)],.agg [.lit (.int Z 0),.lit (.int Z 0)],.nil],.nil,.nil,.lit (.int Z 0)],[],places):=
 ⟨[],by kernel_rfl⟩
set_option maxRecDepth 100000 in
theorem WS(os:Os)(started:os.Started)(H:Type)(enc:TypeId×Value->H)(F:Stop.Interp) :
  ReturnsInHanded {} Tryz.checked os 7 .any ((OpenSpec.ofChange Rows.searchDownSpec).preRow enc qA Tryz.f7 Rows.searchDownRow.domain X Rows.searchDownRow.laid) (((OpenSpec.ofChange Rows.searchDownSpec).at F).post enc qA Tryz.f7 X true X X):=by
 obtain⟨places,hx⟩:=WV os enc;refine returnsInHanded_of_row (C:=Tryz.checked) (s:=OpenSpec.ofChange Rows.searchDownSpec) own started (by kernel_rfl) Tryz.func7
  (witness_row_at (enc:=enc) (C:=Tryz.checked) X (WE os) #[.agg #[.int Z 0,.int Z 0,.int Z 0,.int Z 0,.int Z 0,.int Z 0,Y V 0 0],Y V 0 0,Y V 0 0,.int Z 0] rfl (by kernel_rfl) (by kernel_rfl) (by kernel_rfl)
   (OpenSpec.preRow_of_cond 8 hx (by kernel_rfl) (fun k hk=>by cases hk) (by kernel_rfl) (WT os))) ?_
 intro W base args ds gs before hval hW _ _ hsz hL _ _;exact WR H enc W base args ds gs before hval hW hsz hL
theorem WW:Rows.SearchDownSaid:=
 OpenClaim.holds_of_cond 7 Tryz.f7 rfl rfl rfl rfl rfl rfl rfl ⟨rfl,rfl,rfl,rfl,rfl⟩ rfl rfl rfl rfl rfl (by kernel_rfl) Tryz.func7 (by kernel_rfl)
  (of_decide_eq_true (by kernel_rfl)) (by unfold Func.isWrapper;first|(rw[if_pos (by decide +kernel)];kernel_rfl)|(rw[if_neg (by decide +kernel)];exact⟨rfl,rfl⟩))
  (fun os started H enc _ F=>by rw[OpenClaim.pre_eq_preRow];exact WS os started H enc F)
theorem WU (f : FuncId) (fn : Func) (hf : Tryz.pinned.checked.prog.funcNamed "foretell/foretelltop.SearchDown" = some f) (hfn : Tryz.pinned.checked.prog.funcs[f]? = some fn) :
  true=Tryz.pinned.checked.prog.looks []/\∀(j:Nat) t,fn.params[j]? = some t->Tryz.pinned.checked.prog.wantsStandIn t=false:=by
 obtain rfl : f = 7 := Option.some.inj ((show Tryz.prog.funcNamed "foretell/foretelltop.SearchDown" = some 7 by kernel_rfl).symm.trans hf) |>.symm
 obtain rfl:fn=Tryz.f7:=(Option.some.inj (Tryz.func7.symm.trans hfn)).symm;refine⟨by kernel_rfl,fun j t ht=>?_⟩;rw[Tryz.params7]at ht;have ht':=Array.mem_of_getElem? ht;simp only[List.mem_toArray,qW,jZ,or_false]at ht';rcases ht' with rfl|rfl|rfl|rfl
 .exact (show qA.wantsStandIn 25=X by kernel_rfl)
 .exact (show qA.wantsStandIn 26=X by kernel_rfl)
 .exact (show qA.wantsStandIn 27=X by kernel_rfl)
 .exact (show qA.wantsStandIn 3=X by kernel_rfl)
theorem searchDown_card:Rows.SearchDownCardSaid:=
 Claim7.holds_tied_plain_at .later [] _ _ _ _ WW (fun _ h=>by cases h) (by kernel_rfl) (fun _ h=>by cases h) searchDown_row_tie rfl ⟨rfl,rfl⟩ (by kernel_rfl) rfl WU (by kernel_rfl)
#print axioms searchDown_card
