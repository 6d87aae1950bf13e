/-
  Proved: foretelllaw.SheetShows answers true at every task (sheet.Show answers what the document's P10.2 says, and changes none of it), given that the five tables that the rows list (deBruijn32tab, deBruijn64tab, uint64pow10, partCounts, kindWords) read as their initialisers lay them, which the card ties to the program's text. No other condition.
-/
import Derived.Test.YtlepcjafgdlmgaaDoorCards
import Derived.Test.YtlepcjafgdlmgaaDoorTie
import Derived.Test.YtlepcjafgdlmgaaDoorRowS
import Derived.Test.YtlepcjafgdlmgaaDoorLateB
namespace Go.Proofs.YtlepcjafgdlmgaaDoor
open Go.ChangeShapes Go.WideShapes Go.ChangeAt Go.RowKit Go.Deep
open Terms Tm
set_option maxRecDepth 20000
theorem sheetShows_contract (H:Type) (enc:TypeId × Value->H) (W:World) (base:Nat) (args:Array Value) (ds gs:List (DataW H)) (before:List MemPlace)
  (hval:∀ (j:Nat) t v,Tryd.f3.params[j]? = some t->args[j]? = some v->Value.okWide Tryd.prog W .any base t v)
  (hW:DataW.Whole enc Tryd.prog Tryd.f3.params.toList Rows.sheetShowsSpec.vars false W args.toList ds gs before)
  (hsz0:(DataW.weightsEach Tryd.prog (Tryd.f3.params.toList++(OpenSpec.ofChange Rows.sheetShowsSpec).bare.plain.varTypes Tryd.prog) (ds++gs)).all (· <= reachBytes)=true)
  (hL:laidMetH Tryd.prog Rows.sheetShowsRow.laid W) :
  Calls Tryd.prog 3 args W fun e W'=>∃ v,e=.returned v/\Rows.sheetShowsSpec.post enc Tryd.prog Tryd.f3 false true false false W args v W':=by
 have hW':=hW;obtain ⟨p,q,hA0,hV,rfl,hfz,hnd⟩:=hW;have hA:DataW.TrodAll enc Tryd.prog W 0 (fun _=>true) true Tryd.f3.params.toList args.toList ds p:=hA0
 rw [Tryd.params3] at hA hval;obtain ⟨v0,vs0,d0,ds0,p0,q0,hargs,rfl,rfl,h0,r0⟩:=trodAll_cons hA;obtain ⟨rfl,rfl,rfl⟩:=trodAll_nil r0;obtain rfl:args=#[v0]:=by cases args;simp_all
 obtain ⟨rfl,rfl⟩:=trodVars_none hV;have hsz:(DataW.weightsEach Tryd.prog [29] [d0]).all (· <= reachBytes)=true:=hsz0;obtain ⟨va,vr,pv,fv,m,ps,l,rfl,hm,hmz,⟨hp,hp1,hp2⟩,hf,hfz⟩:=open_task (hval 0 29 v0 rfl rfl) h0 hsz (j:=0) rfl rfl;have hT:=tabAt hL
 refine (sheetShows_walk va vr pv fv m ps l W (tab_size hT) hT ⟨hmz,hp1,hp2,hfz⟩ ⟨hm,hp,hf⟩).mono fun e W' ⟨he,hb⟩=>⟨_,he,?_⟩
 refine law_post (fun t ht=>?_) rfl (by kernel_rfl) hW' rfl rfl rfl hb
 rw [Tryd.params3] at ht;obtain rfl:t=29:=by simpa using ht
 exact ⟨by kernel_rfl,of_decide_eq_true (by kernel_rfl)⟩
noncomputable def sheetShowsPut (h:Array Obj) (b:Nat) (cs:Array Value):Array Obj:=h.modify b fun
 | .cells _ t frozen=>.cells cs t frozen
 | o=>o
noncomputable def sheetShowsWorld (os:Os):World:=
 { World.holding Tryd.prog os ⟨#[],#[],[]⟩ with heap:=sheetShowsPut (sheetShowsPut (sheetShowsPut (sheetShowsPut (sheetShowsPut ((World.holding Tryd.prog os ⟨#[],#[],[]⟩).heap) 4 #[.int .u8 0,.int .u8 1,.int .u8 28,.int .u8 2,.int .u8 29,.int .u8 14,.int .u8 24,.int .u8 3,.int .u8 30,.int .u8 22,.int .u8 20,.int .u8 15,.int .u8 25,.int .u8 17,.int .u8 4,.int .u8 8,.int .u8 31,.int .u8 27,.int .u8 13,.int .u8 23,.int .u8 21,.int .u8 19,.int .u8 16,.int .u8 7,.int .u8 26,.int .u8 12,.int .u8 18,.int .u8 6,.int .u8 11,.int .u8 5,.int .u8 10,.int .u8 9]) 5 #[.int .u8 0,.int .u8 1,.int .u8 56,.int .u8 2,.int .u8 57,.int .u8 49,.int .u8 28,.int .u8 3,.int .u8 61,.int .u8 58,.int .u8 42,.int .u8 50,.int .u8 38,.int .u8 29,.int .u8 17,.int .u8 4,.int .u8 62,.int .u8 47,.int .u8 59,.int .u8 36,.int .u8 45,.int .u8 43,.int .u8 51,.int .u8 22,.int .u8 53,.int .u8 39,.int .u8 33,.int .u8 30,.int .u8 24,.int .u8 18,.int .u8 12,.int .u8 5,.int .u8 63,.int .u8 55,.int .u8 48,.int .u8 27,.int .u8 60,.int .u8 41,.int .u8 37,.int .u8 16,.int .u8 46,.int .u8 35,.int .u8 44,.int .u8 21,.int .u8 52,.int .u8 32,.int .u8 23,.int .u8 11,.int .u8 54,.int .u8 26,.int .u8 40,.int .u8 15,.int .u8 34,.int .u8 20,.int .u8 31,.int .u8 10,.int .u8 25,.int .u8 14,.int .u8 19,.int .u8 9,.int .u8 13,.int .u8 8,.int .u8 7,.int .u8 6]) 2 #[.int .u64 1,.int .u64 10,.int .u64 100,.int .u64 1000,.int .u64 10000,.int .u64 100000,.int .u64 1000000,.int .u64 10000000,.int .u64 100000000,.int .u64 1000000000,.int .u64 10000000000,.int .u64 100000000000,.int .u64 1000000000000,.int .u64 10000000000000,.int .u64 100000000000000,.int .u64 1000000000000000,.int .u64 10000000000000000,.int .u64 100000000000000000,.int .u64 1000000000000000000,.int .u64 10000000000000000000]) 3 #[.int .i64 0,.int .i64 0,.int .i64 0,.int .i64 2,.int .i64 2,.int .i64 2,.int .i64 2,.int .i64 2,.int .i64 2,.int .i64 2,.int .i64 1,.int .i64 0,.int .i64 0,.int .i64 0,.int .i64 1,.int .i64 2,.int .i64 2,.int .i64 1,.int .i64 1]) 0 #[.string ⟨#[]⟩,.string ⟨#[]⟩,.string ⟨#[]⟩,.string ⟨#[43]⟩,.string ⟨#[45]⟩,.string ⟨#[42]⟩,.string ⟨#[61]⟩,.string ⟨#[60]⟩,.string ⟨#[38]⟩,.string ⟨#[124]⟩,.string ⟨#[33]⟩,.string ⟨#[121,101,115]⟩,.string ⟨#[110,111]⟩,.string ⟨#[]⟩,.string ⟨#[88]⟩,.string ⟨#[85]⟩,.string ⟨#[82]⟩,.string ⟨#[70]⟩,.string ⟨#[71]⟩]}
theorem sheetShows_met (os:Os):laidMet Tryd.prog Rows.sheetShowsRow.laid ((sheetShowsWorld os).forCall (fun _ _=>0) ⟨#[],#[.agg #[.slice none 0 0,.slice none 0 0,.slice none 0 0,.slice none 0 0]],[]⟩).memory:=
 laidMet_of_run' 8 (by kernel_rfl) (by kernel_rfl)
theorem sheetShows_reads (os:Os) {H:Type} (enc:TypeId × Value->H):∃ places,DataW.whole enc Tryd.prog ((sheetShowsWorld os).forCall (fun _ _=>0) ⟨#[],#[.agg #[.slice none 0 0,.slice none 0 0,.slice none 0 0,.slice none 0 0]],[]⟩).memory Tryd.f3.params.toList Rows.sheetShowsSpec.vars false #[Value.agg #[.slice none 0 0,.slice none 0 0,.slice none 0 0,.slice none 0 0]].toList 8=some ([.agg [.agg [.nil,.nil],.nil,.nil]],[],places):=
 ⟨[],by kernel_rfl⟩
set_option maxRecDepth 100000 in
theorem sheetShows_lifted (os:Os) (started:os.Started) (H:Type) (enc:TypeId × Value->H) (F:Stop.Interp) :
  ReturnsInHanded {} Tryd.checked os 3 .any ((OpenSpec.ofChange Rows.sheetShowsSpec).preRow enc Tryd.prog Tryd.f3 Rows.sheetShowsRow.domain false Rows.sheetShowsRow.laid) (((OpenSpec.ofChange Rows.sheetShowsSpec).at F).post enc Tryd.prog Tryd.f3 false true false false):=by
 obtain ⟨places,hx⟩:=sheetShows_reads os enc
 refine returnsInHanded_of_row (C:=Tryd.checked) (s:=OpenSpec.ofChange Rows.sheetShowsSpec) own started (by kernel_rfl) Tryd.func3
  (witness_row_at (enc:=enc) (C:=Tryd.checked) false (sheetShowsWorld os) #[.agg #[.slice none 0 0,.slice none 0 0,.slice none 0 0,.slice none 0 0]] rfl (by kernel_rfl) (by kernel_rfl) (by kernel_rfl)
   (OpenSpec.preRow_of_cond 8 hx (by kernel_rfl) (fun k hk=>by cases hk) (by kernel_rfl) (sheetShows_met os))) ?_
 intro W base args ds gs before hval hW _ _ hsz hL _ _;exact sheetShows_contract H enc W base args ds gs before hval hW hsz hL
theorem sheetShows_said:Rows.SheetShowsSaid:=
 OpenClaim.holds_of_cond 3 Tryd.f3 rfl rfl rfl rfl rfl rfl rfl ⟨rfl,rfl,rfl,rfl,rfl⟩ rfl rfl rfl rfl rfl (by kernel_rfl) Tryd.func3 (by kernel_rfl)
  (of_decide_eq_true (by kernel_rfl)) (by unfold Func.isWrapper;first | (rw [if_pos (by decide +kernel)];kernel_rfl) | (rw [if_neg (by decide +kernel)];exact ⟨rfl,rfl⟩))
  (fun os started H enc _ F=>by rw [OpenClaim.pre_eq_preRow];exact sheetShows_lifted os started H enc F)
theorem sheetShows_plain (f : FuncId) (fn : Func) (hf : Tryd.pinned.checked.prog.funcNamed "foretell/foretelllaw.SheetShows" = some f) (hfn : Tryd.pinned.checked.prog.funcs[f]? = some fn) :
  true=Tryd.pinned.checked.prog.looks []/\∀ (j:Nat) t,fn.params[j]? = some t->Tryd.pinned.checked.prog.wantsStandIn t=false:=by
 obtain rfl : f = 3 := Option.some.inj ((show Tryd.prog.funcNamed "foretell/foretelllaw.SheetShows" = some 3 by kernel_rfl).symm.trans hf) |>.symm
 obtain rfl:fn=Tryd.f3:=(Option.some.inj (Tryd.func3.symm.trans hfn)).symm;refine ⟨by kernel_rfl,fun j t ht=>?_⟩
 rw [Tryd.params3] at ht;have ht':=Array.mem_of_getElem? ht;simp only [List.mem_toArray,List.mem_cons,List.not_mem_nil,or_false] at ht';subst ht';exact (show Tryd.prog.wantsStandIn 29=false by kernel_rfl)
theorem sheetShows_card:Rows.SheetShowsCardSaid:=
 Claim7.holds_tied_plain_at .later [] _ _ _ _ sheetShows_said (fun _ h=>by cases h) (by kernel_rfl) (fun _ h=>by cases h) sheetShows_row_tie rfl ⟨rfl,rfl⟩ (by kernel_rfl) rfl sheetShows_plain (by kernel_rfl)
#print axioms sheetShows_card
