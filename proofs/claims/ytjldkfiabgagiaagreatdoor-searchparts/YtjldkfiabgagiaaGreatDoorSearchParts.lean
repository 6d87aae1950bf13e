/-
  Proved: foretelltop.SearchParts answers true at every design, raw formula and list of raw moves (work may be done in parts), given that the table polish.partCounts reads as its initialiser lays it, which the card ties to the program's text. No other condition.
-/
import Derived.Test.YtjldkfiabgagiaaGreatDoorCards
import Derived.Test.YtjldkfiabgagiaaGreatDoorTie
import Derived.Test.YtjldkfiabgagiaaGreatDoorTopD
open Go.IntKind renaming i64→Z
open Go.Value renaming slice→X
open _root_.Bool renaming false→Y
open _root_.Option renaming none→V
namespace Go.Proofs.YtjldkfiabgagiaaGreatDoor
open _root_.List renaming mem_cons→qW,not_mem_nil→jZ
open Go.Proofs.Tryz renaming prog→qA
open Go.ChangeShapes Go.WideShapes Go.ChangeAt Go.RowKit Go.Deep
open Terms Tm
set_option maxRecDepth 20000
theorem WZ(H:Type)(enc:TypeId×Value->H)(W:World)(base:Nat)(args:Array Value)(ds gs:List (DataW H))(before:List MemPlace)
  (hval:∀(j:Nat) t v,Tryz.f8.params[j]? = some t->args[j]? = some v->Value.okWide qA W .any base t v)
  (hW:DataW.Whole enc qA Tryz.f8.params.toList Rows.searchPartsSpec.vars Y W args.toList ds gs before)
  (hsz0:(DataW.weightsEach qA (Tryz.f8.params.toList++(OpenSpec.ofChange Rows.searchPartsSpec).bare.plain.varTypes qA) (ds++gs)).all (·<=reachBytes)=true)
  (hL:laidMetH qA Rows.searchPartsRow.laid W) :
  Calls qA 8 args W fun e W'=>∃v,e=.returned v/\Rows.searchPartsSpec.post enc qA Tryz.f8 Y true Y Y W args v W':=by
 have hW':=hW;obtain⟨p,q,hA0,hV,rfl,hfz,hnd⟩:=hW;have hA:DataW.TrodAll enc qA W 0 (fun _=>true) true Tryz.f8.params.toList args.toList ds p:=hA0;rw[Tryz.params8]at hA hval;obtain⟨v0,vs0,d0,ds0,p0,q0,hargs,rfl,rfl,h0,r0⟩:=trodAll_cons hA;obtain⟨v1,vs1,d1,ds1,p1,q1,rfl,rfl,rfl,h1,r1⟩:=trodAll_cons r0;obtain⟨v2,vs2,d2,ds2,p2,q2,rfl,rfl,rfl,h2,r2⟩:=trodAll_cons r1;obtain⟨v3,vs3,d3,ds3,p3,q3,rfl,rfl,rfl,h3,r3⟩:=trodAll_cons r2;obtain⟨v4,vs4,d4,ds4,p4,q4,rfl,rfl,rfl,h4,r4⟩:=trodAll_cons r3;obtain⟨rfl,rfl,rfl⟩:=trodAll_nil r4;obtain rfl:args=#[v0,v1,v2,v3,v4]:=by cases args;simp_all
 obtain⟨rfl,rfl⟩:=trodVars_none hV;have hsz:(DataW.weightsEach qA [25,26,27,3,3] [d0,d1,d2,d3,d4]).all (·<=reachBytes)=true:=hsz0;obtain⟨vars,hD⟩:=Sn (hval 0 25 v0 rfl rfl) h0 hsz (j:=0) rfl rfl;obtain⟨c0,c1,c2,c3,c4,c5,c6,a,b,rules,rfl,hG,hmd⟩:=PV hD;obtain⟨x1,hx1⟩:=Sq (hval 1 26 v1 rfl rfl) h1 hsz (j:=1) rfl rfl;obtain⟨x2,hx2⟩:=So (hval 2 27 v2 rfl rfl) h2 hsz (j:=2) rfl rfl;obtain⟨n3,rfl,rfl,rfl,wf3⟩:=open_int Tryz.underlying3 (hval 3 3 v3 rfl rfl) h3;obtain⟨n4,rfl,rfl,rfl,wf4⟩:=open_int Tryz.underlying3 (hval 4 3 v4 rfl rfl) h4;have hT:=U2 hL;refine(Wi c0 c1 c2 c3 c4 c5 c6 a b v1 x1 v2 x2 n3 n4 W (U4 hT) hT hG hx1 hx2 (bounds_i64 wf3) (bounds_i64 wf4) (fun w' h=>(hmd w' h).mono fun _ _ ⟨va,vr,g1,g2,g3⟩=>⟨va,vr,g1,g2,g3.gm⟩)).mono fun e W' ⟨he,hb⟩=>⟨_,he,?_⟩;refine RP (fun t ht=>?_) rfl (by kernel_rfl) hW' rfl rfl rfl hb;rw[Tryz.params8]at ht;simp only[qW,jZ,or_false]at ht;rcases ht with rfl|rfl|rfl|rfl|rfl
 .exact ⟨by kernel_rfl,of_decide_eq_true (by kernel_rfl)⟩
 .exact ⟨by kernel_rfl,of_decide_eq_true (by kernel_rfl)⟩
 .exact ⟨by kernel_rfl,of_decide_eq_true (by kernel_rfl)⟩
 .exact ⟨by kernel_rfl,of_decide_eq_true (by kernel_rfl)⟩
 .exact ⟨by kernel_rfl,of_decide_eq_true (by kernel_rfl)⟩
noncomputable def WG(os:Os):World:=
 { World.holding qA os ⟨#[],#[],[]⟩with heap:=(World.holding qA os ⟨#[],#[],[]⟩).heap.modify 0 fun
   | .cells _ t frozen=>.cells #[.int Z 0,.int Z 0,.int Z 0,.int Z 2,.int Z 2,.int Z 2,.int Z 2,.int Z 2,.int Z 2,.int Z 2,.int Z 1,.int Z 0,.int Z 0,.int Z 0,.int Z 1,.int Z 2,.int Z 2,.int Z 1,.int Z 1] t frozen
   |o=>o}
theorem Wd(os:Os):laidMet qA Rows.searchPartsRow.laid ((WG os).forCall (fun _ _=>0) ⟨#[],#[.agg #[.int Z 0,.int Z 0,.int Z 0,.int Z 0,.int Z 0,.int Z 0,X V 0 0],X V 0 0,X V 0 0,.int Z 0,.int Z 0],[]⟩).memory:=
 laidMet_of_run' 8 (by kernel_rfl) (by kernel_rfl)
theorem Wg(os:Os){H:Type}(enc:TypeId×Value->H):∃places,DataW.whole enc qA ((WG os).forCall (fun _ _=>0) ⟨#[],#[.agg #[.int Z 0,.int Z 0,.int Z 0,.int Z 0,.int Z 0,.int Z 0,X V 0 0],X V 0 0,X V 0 0,.int Z 0,.int Z 0],[]⟩).memory Tryz.f8.params.toList Rows.searchPartsSpec.vars Y #[Value.agg #[.int Z 0,.int Z 0,.int Z 0,.int Z 0,.int Z 0,.int Z 0,X V 0 0],X V 0 0,X V 0 0,.int Z 0,.int Z 0].toList 8=some ([.agg [.agg [.lit (.int Z 0),.lit (.int Z 0)],.agg [.lit (.int Z 0),.lit (.int Z 0)],.agg [.lit (.int Z 0),.lit (.int Z 0)],.nil],.nil,.nil,.lit (.int Z 0),.lit (.int Z 0)],[],places):=
 ⟨[],by kernel_rfl⟩
set_option maxRecDepth 100000 in
theorem Wa(os:Os)(started:os.Started)(H:Type)(enc:TypeId×Value->H)(F:Stop.Interp) :
  ReturnsInHanded {} Tryz.checked os 8 .any ((OpenSpec.ofChange Rows.searchPartsSpec).preRow enc qA Tryz.f8 Rows.searchPartsRow.domain Y Rows.searchPartsRow.laid) (((OpenSpec.ofChange Rows.searchPartsSpec).at F).post enc qA Tryz.f8 Y true Y Y):=by
 obtain⟨places,hx⟩:=Wg os enc;refine returnsInHanded_of_row (C:=Tryz.checked) (s:=OpenSpec.ofChange Rows.searchPartsSpec) own started (by kernel_rfl) Tryz.func8
  (witness_row_at (enc:=enc) (C:=Tryz.checked) Y (WG os) #[.agg #[.int Z 0,.int Z 0,.int Z 0,.int Z 0,.int Z 0,.int Z 0,X V 0 0],X V 0 0,X V 0 0,.int Z 0,.int Z 0] rfl (by kernel_rfl) (by kernel_rfl) (by kernel_rfl)
   (OpenSpec.preRow_of_cond 8 hx (by kernel_rfl) (fun k hk=>by cases hk) (by kernel_rfl) (Wd os))) ?_
 intro W base args ds gs before hval hW _ _ hsz hL _ _;exact WZ H enc W base args ds gs before hval hW hsz hL
theorem Wh:Rows.SearchPartsSaid:=
 OpenClaim.holds_of_cond 8 Tryz.f8 rfl rfl rfl rfl rfl rfl rfl ⟨rfl,rfl,rfl,rfl,rfl⟩ rfl rfl rfl rfl rfl (by kernel_rfl) Tryz.func8 (by kernel_rfl)
  (of_decide_eq_true (by kernel_rfl)) (by unfold Func.isWrapper;first|(rw[if_pos (by decide +kernel)];kernel_rfl)|(rw[if_neg (by decide +kernel)];exact⟨rfl,rfl⟩))
  (fun os started H enc _ F=>by rw[OpenClaim.pre_eq_preRow];exact Wa os started H enc F)
theorem We (f : FuncId) (fn : Func) (hf : Tryz.pinned.checked.prog.funcNamed "foretell/foretelltop.SearchParts" = some f) (hfn : Tryz.pinned.checked.prog.funcs[f]? = some fn) :
  true=Tryz.pinned.checked.prog.looks []/\∀(j:Nat) t,fn.params[j]? = some t->Tryz.pinned.checked.prog.wantsStandIn t=false:=by
 obtain rfl : f = 8 := Option.some.inj ((show Tryz.prog.funcNamed "foretell/foretelltop.SearchParts" = some 8 by kernel_rfl).symm.trans hf) |>.symm
 obtain rfl:fn=Tryz.f8:=(Option.some.inj (Tryz.func8.symm.trans hfn)).symm;refine⟨by kernel_rfl,fun j t ht=>?_⟩;rw[Tryz.params8]at ht;have ht':=Array.mem_of_getElem? ht;simp only[List.mem_toArray,qW,jZ,or_false]at ht';rcases ht' with rfl|rfl|rfl|rfl|rfl
 .exact (show qA.wantsStandIn 25=Y by kernel_rfl)
 .exact (show qA.wantsStandIn 26=Y by kernel_rfl)
 .exact (show qA.wantsStandIn 27=Y by kernel_rfl)
 .exact (show qA.wantsStandIn 3=Y by kernel_rfl)
 .exact (show qA.wantsStandIn 3=Y by kernel_rfl)
theorem searchParts_card:Rows.SearchPartsCardSaid:=
 Claim7.holds_tied_plain_at .later [] _ _ _ _ Wh (fun _ h=>by cases h) (by kernel_rfl) (fun _ h=>by cases h) searchParts_row_tie rfl ⟨rfl,rfl⟩ (by kernel_rfl) rfl We (by kernel_rfl)
#print axioms searchParts_card
