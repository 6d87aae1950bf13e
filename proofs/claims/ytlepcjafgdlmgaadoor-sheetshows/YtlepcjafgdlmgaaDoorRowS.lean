import Derived.Test.YtlepcjafgdlmgaaDoorRow
import Derived.ChangeArms
namespace Go.Proofs.YtlepcjafgdlmgaaDoor
open Go.ChangeShapes Go.WideShapes Go.ChangeAt Go.RowKit Go.Deep
open Terms
set_option maxHeartbeats 6400000
set_option maxRecDepth 20000
theorem laid_at {P:Program} {W:World}:∀ {laid:List (String × DataW Unit)} {ps:List MemPlace},DataW.LaidVars P W laid ps->∀ {n:String} {d:DataW Unit},(n,d)∈laid->
  ∃ g t cs fuel p,P.globalNamed n=some g/\(P.globals[g]?).map (·.type)=some t/\W.var? P n=some cs/\DataW.trod (fun _=>()) P W 0 (fun _=>true) false fuel t cs.toList=some (d,p)
 | [],_,_,n,d,hm=>by cases hm
 | (n',d'):: r,ps,h,n,d,hm=>by
  obtain ⟨g,t,cs,fuel,p,q,h1,h2,h3,h4,h5,_⟩:=h
  rcases List.mem_cons.1 hm with e | hm
  ·injection e with e1 e2
   subst e1 e2;exact ⟨g,t,cs,fuel,p,h1,h2,h3,h4⟩
  ·exact laid_at h5 hm
theorem tabIs_mem {P:Program} {W:World} {name:String} {k:IntKind} {zs:List Int} {laid:List (String × DataW Unit)} {g:Nat} {t e:TypeId} {n:Nat}
  (hg:P.globalNamed name=some g) (hty:(P.globals[g]?).map (·.type)=some t) (ht:P.underlying t=some (.array n e)) (he:P.underlying e=some (.int k)) (hce:P.cellsOf e=1) (hct:P.cellsOf t=n)
  (h:laidMet P laid W) (hm:(name,(Lib.tabData k zs:DataW Unit))∈laid):Lib.TabIs P W name k zs:=by
 obtain ⟨ps,h,_⟩:=h;obtain ⟨g',t',cs,fuel,p,hg',ht',hvar,hd⟩:=laid_at h hm;obtain rfl:=Option.some.inj (hg.symm.trans hg');obtain rfl:=Option.some.inj (hty.symm.trans ht');unfold Lib.TabIs;rw [hvar,<- Lib.cells_of_tab ht he hce hct hd]
def strData {H:Type} (zs:List (List UInt8)):DataW H:=.agg (zs.map fun z=>.lit (.string z))
theorem cells_of_strs {H:Type} {enc:TypeId × Value->H} {P:Program} {w:World} {base:Nat} {sp:Nat->Bool} {held:Bool} {fuel:Nat} {t e:TypeId} {n:Nat} {cs:List Value} {zs:List (List UInt8)} {p:List MemPlace}
  (ht:P.underlying t=some (.array n e)) (he:P.underlying e=some .string) (hce:P.cellsOf e=1) (hct:P.cellsOf t=n)
  (h:DataW.trod enc P w base sp held fuel t cs=some (strData zs,p)):cs=zs.map fun z=>Value.string ⟨z.toArray⟩:=by
 cases fuel with
 | zero=>simp [DataW.trod] at h
 | succ fuel=>
  simp only [DataW.trod,ht,hce,hct,Nat.mul_one] at h
  split at h
  ·rename_i hl
   obtain ⟨xs,hm,hx⟩:=Option.map_eq_some_iff.1 h
   have hxs:xs.map (·.1)=zs.map fun z=>(DataW.lit (.string z):DataW H):=by
    have:=congrArg Prod.fst hx;simpa [strData] using this
   have hxl:xs.length=n:=by simpa using Lib.mapM_length hm
   have hzl:zs.length=n:=by
    have:=congrArg List.length hxs;simp at this
    omega
   apply List.ext_getElem?
   intro i
   by_cases hi:i < n
   ·obtain ⟨b,hb,hf⟩:=Lib.mapM_at hm i i (by simp [hi])
    obtain ⟨z,hc,rfl,_⟩:=DataW.trod_string he hf
    have h1:cs[i]? = some (.string z):=by
     have:=congrArg (·[0]?) hc;simpa [List.getElem?_take,List.getElem?_drop] using this
    have h2:(xs.map (·.1))[i]? = some (DataW.lit (.string z.data.toList):DataW H):=by simp [hb]
    rw [hxs] at h2;simp only [List.getElem?_map,Option.map_eq_some_iff,DataW.lit.injEq,Lit.string.injEq] at h2
    obtain ⟨z',hz',e9⟩:=h2;simp [h1,hz',e9]
   ·rw [List.getElem?_eq_none (by omega),List.getElem?_eq_none (by simp;omega)]
  ·cases h
theorem gTabP : Tryd.prog.globalNamed "foretell/polish.partCounts" = some 3 := by kernel_rfl
theorem gTabPT:(Tryd.prog.globals[3]?).map (·.type)=some 130:=by kernel_rfl
theorem gTabK : Tryd.prog.globalNamed "foretell/sheet.kindWords" = some 0 := by kernel_rfl
theorem gTabKT:(Tryd.prog.globals[0]?).map (·.type)=some 99:=by kernel_rfl
theorem gTabTT:(Tryd.prog.globals[2]?).map (·.type)=some 123:=by kernel_rfl
theorem cellsTab19:Tryd.prog.cellsOf 130=19:=by kernel_rfl
theorem cellsTabS:Tryd.prog.cellsOf 99=19:=by kernel_rfl
theorem cellsTab20:Tryd.prog.cellsOf 123=20:=by kernel_rfl
theorem cellsU64:Tryd.prog.cellsOf 112=1:=by kernel_rfl
theorem cellsStrS:Tryd.prog.cellsOf 9=1:=by kernel_rfl
abbrev laidFive : List (String × DataW Unit) := [("math/bits.deBruijn32tab", Rows.laid_math_bits_deBruijn32tab), ("math/bits.deBruijn64tab", Rows.laid_math_bits_deBruijn64tab), ("internal/strconv.uint64pow10", Rows.laid_internal_strconv_uint64pow10), ("foretell/polish.partCounts", Rows.laid_foretell_polish_partCounts), ("foretell/sheet.kindWords", Rows.laid_foretell_sheet_kindWords)]
theorem pow10_is:(Rows.laid_internal_strconv_uint64pow10:DataW Unit)=Lib.tabData .u64 Lib.pow10Tab:=by kernel_rfl
theorem parts_is:(Rows.laid_foretell_polish_partCounts:DataW Unit)=Lib.tabData .i64 tab:=by kernel_rfl
theorem words_is:(Rows.laid_foretell_sheet_kindWords:DataW Unit)=strData kindW:=by kernel_rfl
theorem tabAt {W:World} (h:laidMetH Tryd.prog laidFive W):TabAt W:=by
 have h0 : laidMet Tryd.prog laidFive W := h; have hp : Lib.TabIs Tryd.prog W "foretell/polish.partCounts" .i64 tab := tabIs_mem gTabP gTabPT Tryd.underlying130 Tryd.underlying3 cellsInt cellsTab19 h0 (by rw [<- parts_is]; simp [laidFive])
 have ht : Lib.TabIs Tryd.prog W "internal/strconv.uint64pow10" .u64 Lib.pow10Tab := tabIs_mem gPow gTabTT Tryd.underlying123 Tryd.underlying112 cellsU64 cellsTab20 h0 (by rw [<- pow10_is]; simp [laidFive])
 refine ⟨fun j hj=>hp.cell gTabP j (by simpa [tab] using hj),fun j hj=>?_,ht⟩
 obtain ⟨ps, h1, _⟩ := h0; obtain ⟨g', t', cs, fuel, p, hg', ht', hvar, hd⟩ := laid_at h1 (n := "foretell/sheet.kindWords") (d := Rows.laid_foretell_sheet_kindWords) (by simp [laidFive])
 obtain rfl:=Option.some.inj (gTabK.symm.trans hg');obtain rfl:=Option.some.inj (gTabKT.symm.trans ht');rw [words_is] at hd;have hcs:=cells_of_strs Tryd.underlying99 Tryd.underlying9 cellsStrS cellsTabS hd;have h9:=World.var?_cell gTabK hvar j
 rw [h9,<- Array.getElem?_toList,hcs]
 simp [List.getD_eq_getElem?_getD,show j < kindW.length by simpa [kindW] using hj]
