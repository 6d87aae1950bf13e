/-
  Proved: foretelltop.SearchAgain answers true at every design, raw formula and list of raw moves (what is gone through again is what crashes have lost, never more), given that the table polish.partCounts reads as its initialiser lays it, which the card ties to the program's text. No other condition.
-/
import Derived.Test.YtjldkfiabgagiaaGreatDoorCards
import Derived.Test.YtjldkfiabgagiaaGreatDoorTie
import Derived.Test.YtjldkfiabgagiaaGreatDoorTopD
namespace Go.Proofs.YtjldkfiabgagiaaGreatDoor
open _root_.List renaming mem_cons→qV,not_mem_nil→zX
open Go.Proofs.Tryz renaming prog→qA
open Go.ChangeShapes Go.WideShapes Go.ChangeAt Go.RowKit Go.Deep
open Terms Tm
set_option maxRecDepth 20000
theorem WX(H:Type)(enc:TypeId×Value->H)(W:World)(base:Nat)(args:Array Value)(ds gs:List (DataW H))(before:List MemPlace)
  (hval:∀(j:Nat) t v,Tryz.f6.params[j]? = some t->args[j]? = some v->Value.okWide qA W .any base t v)
  (hW:DataW.Whole enc qA Tryz.f6.params.toList Rows.searchAgainSpec.vars false W args.toList ds gs before)
  (hsz0:(DataW.weightsEach qA (Tryz.f6.params.toList++(OpenSpec.ofChange Rows.searchAgainSpec).bare.plain.varTypes qA) (ds++gs)).all (·<=reachBytes)=true)
  (hL:laidMetH qA Rows.searchAgainRow.laid W) :
  Calls qA 6 args W fun e W'=>∃v,e=.returned v/\Rows.searchAgainSpec.post enc qA Tryz.f6 false true false false W args v W':=by
 have hW':=hW;obtain⟨p,q,hA0,hV,rfl,hfz,hnd⟩:=hW;have hA:DataW.TrodAll enc qA W 0 (fun _=>true) true Tryz.f6.params.toList args.toList ds p:=hA0;rw[Tryz.params6]at hA hval;obtain⟨v0,vs0,d0,ds0,p0,q0,hargs,rfl,rfl,h0,r0⟩:=trodAll_cons hA;obtain⟨v1,vs1,d1,ds1,p1,q1,rfl,rfl,rfl,h1,r1⟩:=trodAll_cons r0;obtain⟨v2,vs2,d2,ds2,p2,q2,rfl,rfl,rfl,h2,r2⟩:=trodAll_cons r1;obtain⟨rfl,rfl,rfl⟩:=trodAll_nil r2;obtain rfl:args=#[v0,v1,v2]:=by cases args;simp_all
 obtain⟨rfl,rfl⟩:=trodVars_none hV;have hsz:(DataW.weightsEach qA [25,26,27] [d0,d1,d2]).all (·<=reachBytes)=true:=hsz0;obtain⟨vars,hD⟩:=Sw (hval 0 25 v0 rfl rfl) h0 hsz (j:=0) rfl rfl;obtain⟨c0,c1,c2,c3,c4,c5,c6,a,b,rules,rfl,hG,hmd⟩:=PU hD;obtain⟨x1,hx1⟩:=Sz (hval 1 26 v1 rfl rfl) h1 hsz (j:=1) rfl rfl;obtain⟨x2,hx2⟩:=Sx (hval 2 27 v2 rfl rfl) h2 hsz (j:=2) rfl rfl;have hT:=VA hL;refine(Wh c0 c1 c2 c3 c4 c5 c6 a b v1 x1 v2 x2 W (VC hT) hT hG hx1 hx2 (fun w' h=>(hmd w' h).mono fun _ _ ⟨va,vr,g1,g2,g3⟩=>⟨va,vr,g1,g2,g3.gm⟩)).mono fun e W' ⟨he,hb⟩=>⟨_,he,?_⟩;refine RQ (fun t ht=>?_) rfl (by kernel_rfl) hW' rfl rfl rfl hb;rw[Tryz.params6]at ht;simp only[qV,zX,or_false]at ht;rcases ht with rfl|rfl|rfl
 .exact ⟨by kernel_rfl,of_decide_eq_true (by kernel_rfl)⟩
 .exact ⟨by kernel_rfl,of_decide_eq_true (by kernel_rfl)⟩
 .exact ⟨by kernel_rfl,of_decide_eq_true (by kernel_rfl)⟩
noncomputable def WP(os:Os):World:=
 { World.holding qA os ⟨#[],#[],[]⟩with heap:=(World.holding qA os ⟨#[],#[],[]⟩).heap.modify 0 fun
   | .cells _ t frozen=>.cells #[.int .i64 0,.int .i64 0,.int .i64 0,.int .i64 2,.int .i64 2,.int .i64 2,.int .i64 2,.int .i64 2,.int .i64 2,.int .i64 2,.int .i64 1,.int .i64 0,.int .i64 0,.int .i64 0,.int .i64 1,.int .i64 2,.int .i64 2,.int .i64 1,.int .i64 1] t frozen
   |o=>o}
theorem Wa(os:Os):laidMet qA Rows.searchAgainRow.laid ((WP os).forCall (fun _ _=>0) ⟨#[],#[.agg #[.int .i64 0,.int .i64 0,.int .i64 0,.int .i64 0,.int .i64 0,.int .i64 0,.slice none 0 0],.slice none 0 0,.slice none 0 0],[]⟩).memory:=
 laidMet_of_run' 8 (by kernel_rfl) (by kernel_rfl)
theorem We(os:Os){H:Type}(enc:TypeId×Value->H):∃places,DataW.whole enc qA ((WP os).forCall (fun _ _=>0) ⟨#[],#[.agg #[.int .i64 0,.int .i64 0,.int .i64 0,.int .i64 0,.int .i64 0,.int .i64 0,.slice none 0 0],.slice none 0 0,.slice none 0 0],[]⟩).memory Tryz.f6.params.toList Rows.searchAgainSpec.vars false #[Value.agg #[.int .i64 0,.int .i64 0,.int .i64 0,.int .i64 0,.int .i64 0,.int .i64 0,.slice none 0 0],.slice none 0 0,.slice none 0 0].toList 8=some ([.agg [.agg [.lit (.int .i64 0),.lit (.int .i64 0)],.agg [.lit (.int .i64 0),.lit (.int .i64 0)],.agg [.lit (.int .i64 0),.lit (.int .i64 0)],.nil],.nil,.nil],[],places):=
 ⟨[],by kernel_rfl⟩
set_option maxRecDepth 100000 in
theorem WZ(os:Os)(started:os.Started)(H:Type)(enc:TypeId×Value->H)(F:Stop.Interp) :
  ReturnsInHanded {} Tryz.checked os 6 .any ((OpenSpec.ofChange Rows.searchAgainSpec).preRow enc qA Tryz.f6 Rows.searchAgainRow.domain false Rows.searchAgainRow.laid) (((OpenSpec.ofChange Rows.searchAgainSpec).at F).post enc qA Tryz.f6 false true false false):=by
 obtain⟨places,hx⟩:=We os enc;refine returnsInHanded_of_row (C:=Tryz.checked) (s:=OpenSpec.ofChange Rows.searchAgainSpec) own started (by kernel_rfl) Tryz.func6
  (witness_row_at (enc:=enc) (C:=Tryz.checked) false (WP os) #[.agg #[.int .i64 0,.int .i64 0,.int .i64 0,.int .i64 0,.int .i64 0,.int .i64 0,.slice none 0 0],.slice none 0 0,.slice none 0 0] rfl (by kernel_rfl) (by kernel_rfl) (by kernel_rfl)
   (OpenSpec.preRow_of_cond 8 hx (by kernel_rfl) (fun k hk=>by cases hk) (by kernel_rfl) (Wa os))) ?_
 intro W base args ds gs before hval hW _ _ hsz hL _ _;exact WX H enc W base args ds gs before hval hW hsz hL
theorem Wg:Rows.SearchAgainSaid:=
 OpenClaim.holds_of_cond 6 Tryz.f6 rfl rfl rfl rfl rfl rfl rfl ⟨rfl,rfl,rfl,rfl,rfl⟩ rfl rfl rfl rfl rfl (by kernel_rfl) Tryz.func6 (by kernel_rfl)
  (of_decide_eq_true (by kernel_rfl)) (by unfold Func.isWrapper;first|(rw[if_pos (by decide +kernel)];kernel_rfl)|(rw[if_neg (by decide +kernel)];exact⟨rfl,rfl⟩))
  (fun os started H enc _ F=>by rw[OpenClaim.pre_eq_preRow];exact WZ os started H enc F)
theorem Wd (f : FuncId) (fn : Func) (hf : Tryz.pinned.checked.prog.funcNamed "foretell/foretelltop.SearchAgain" = some f) (hfn : Tryz.pinned.checked.prog.funcs[f]? = some fn) :
  true=Tryz.pinned.checked.prog.looks []/\∀(j:Nat) t,fn.params[j]? = some t->Tryz.pinned.checked.prog.wantsStandIn t=false:=by
 obtain rfl : f = 6 := Option.some.inj ((show Tryz.prog.funcNamed "foretell/foretelltop.SearchAgain" = some 6 by kernel_rfl).symm.trans hf) |>.symm
 obtain rfl:fn=Tryz.f6:=(Option.some.inj (Tryz.func6.symm.trans hfn)).symm;refine⟨by kernel_rfl,fun j t ht=>?_⟩;rw[Tryz.params6]at ht;have ht':=Array.mem_of_getElem? ht;simp only[List.mem_toArray,qV,zX,or_false]at ht';rcases ht' with rfl|rfl|rfl
 .exact (show qA.wantsStandIn 25=false by kernel_rfl)
 .exact (show qA.wantsStandIn 26=false by kernel_rfl)
 .exact (show qA.wantsStandIn 27=false by kernel_rfl)
theorem searchAgain_card:Rows.SearchAgainCardSaid:=
 Claim7.holds_tied_plain_at .later [] _ _ _ _ Wg (fun _ h=>by cases h) (by kernel_rfl) (fun _ h=>by cases h) searchAgain_row_tie rfl ⟨rfl,rfl⟩ (by kernel_rfl) rfl Wd (by kernel_rfl)
#print axioms searchAgain_card
