import Derived.Test.YtlepcjafgdlmgaaDoorTaskOpen
import Derived.Test.YtlepcjafgdlmgaaDoorModelsOf
import Derived.Test.YtlepcjafgdlmgaaDoorSameModel
import Derived.Test.YtlepcjafgdlmgaaDoorSameTermsAll
import Derived.Test.YtlepcjafgdlmgaaDoorMProps
import Derived.Test.YtlepcjafgdlmgaaDoorLogicRead
import Derived.Test.YtlepcjafgdlmgaaDoorRefLook
namespace Go.Proofs.YtlepcjafgdlmgaaDoor
open Go.ChangeShapes Go.WideShapes Go.ChangeAt Go.RowKit Go.Deep
open Terms Tm
set_option maxHeartbeats 6400000
set_option maxRecDepth 20000
noncomputable def tkcode (m:Mo) (ps:List (List (Int × Int))) (l:List (Int × Int)):Int:=if pcode m ps≠0 then pcode m ps else lcode ps.length l
structure TaskV (w:World) (va vr pv fv:Value) (m:Mo) (ps:List (List (Int × Int))) (l:List (Int × Int)):Prop where
 mo:ModelV w va vr m
 ps:TermsV w pv ps
 fo:OpsV w fv l
theorem TaskV.below {w w':World} {va vr pv fv:Value} {m:Mo} {ps:List (List (Int × Int))} {l:List (Int × Int)} (h:TaskV w va vr pv fv m ps l) (hb:Below w.heap.size w w'):TaskV w' va vr pv fv m ps l:=⟨h.mo.below hb,h.ps.below hb,h.fo.below hb⟩
theorem pcheck_any (va vr pv fv:Value) (m:Mo) (ps:List (List (Int × Int))) (l:List (Int × Int)) (w:World) (hB:0 < w.heap.size) (hT:TabAt w) (hV:TaskV w va vr pv fv m ps l) :
  Calls Tryd.prog 11 #[.agg #[va,vr,pv,fv]] w fun e w'=>e=.returned (.int .i64 (tkcode m ps l))/\Below w.heap.size w w':=by
 have hA:∀ o,Below w.heap.size w (w.alloc o):=fun o=>(Below.refl _ _).alloc (Nat.le_refl _) o
 have HP:Hid (∀ w1,Below w.heap.size w w1->Calls Tryd.prog 22 #[.agg #[va,vr],pv] w1 fun e w'=>e=.returned (.int .i64 (pcode m ps))/\Below w1.heap.size w1 w'):=fun w1 h=>mprops_any va vr pv m ps w1 (Nat.lt_of_lt_of_le hB h.size) (hT.below h hB) (hV.mo.below h) (hV.ps.below h)
 have HL:Hid (∀ w1,Below w.heap.size w w1->Calls Tryd.prog 23 #[fv,.int .i64 (ps.length:Int)] w1 fun e w'=>e=.returned (.int .i64 (lcode ps.length l))/\Below w1.heap.size w1 w'):=fun w1 h=>lcheck_any fv l ps.length w1 (Nat.lt_of_lt_of_le hB h.size) (hT.below h hB) (hV.fo.below h)
 unfold tkcode;obtain ⟨ao,ac,rfl⟩:=hV.mo.1.shape;obtain ⟨ro,rc,rfl⟩:=hV.mo.2.shape;obtain ⟨po,pc,rfl⟩:=hV.ps.shape;obtain ⟨fo,fc,rfl,_⟩:=id hV.fo;generalize pcode m ps=x at *;generalize lcode ps.length l=y at *;generalize m.vars.length=vn at *;generalize m.rules.length=rn at *;generalize ps.length=pn at *;generalize l.length=fn at *;clear hV hT
 have hp:=HP.out _ (hA (.cells #[.slice ao vn ac,.slice ro rn rc,.slice po pn pc,.slice fo fn fc] 29))
 have HB:Hid (∀ w1,Below (w.heap.size+1) (w.alloc (.cells #[.slice ao vn ac,.slice ro rn rc,.slice po pn pc,.slice fo fn fc] 29)) w1->w1.cell? ⟨w.heap.size,2,none⟩=some (.slice po pn pc)/\w1.cell? ⟨w.heap.size,3,none⟩=some (.slice fo fn fc)):=fun w1 h=>⟨(h.cell (p:=⟨w.heap.size,2,none⟩) (Nat.lt_succ_self _)).trans (by simp [go_sem]),(h.cell (p:=⟨w.heap.size,3,none⟩) (Nat.lt_succ_self _)).trans (by simp [go_sem])⟩
 by_cases hx:x=0
 ·subst hx
  rw [if_neg (by simp)]
  go_enter Tryd.func11,Tryd.ntmps11
  go_wp2_with (first | (go_at_call 22;refine hp.mono ?_;rintro e w1 ⟨rfl,hb1⟩;have hbw:=(hA _).trans (hb1.mono (hA _).size);have hq:=HB.out w1 (by simpa using hb1);have k0:=hq.1;have k1:=hq.2;have hl:=HL.out w1 hbw) | (go_at_call 23;refine hl.mono ?_;rintro e w2 ⟨rfl,hb2⟩))
  go_ret
  exact ⟨rfl,hbw.trans (hb2.mono hbw.size)⟩
 ·rw [if_pos hx]
  go_enter Tryd.func11,Tryd.ntmps11
  go_wp2_with (go_at_call 22;refine hp.mono ?_;rintro e w1 ⟨rfl,hb1⟩;have hbw:=(hA _).trans (hb1.mono (hA _).size))
  go_ret
  exact ⟨rfl,hbw⟩
theorem taskFault_any (va vr pv fv:Value) (m:Mo) (ps:List (List (Int × Int))) (l:List (Int × Int)) (w:World) (hp1:ps.length*24 <= 140737488355328) (hV:TaskV w va vr pv fv m ps l) :
  Calls Tryd.prog 16 #[.agg #[va,vr,pv,fv]] w fun e w'=>e=.returned (.int .i64 (tkcode m ps l))/\Below w.heap.size w w':=by
 have hA:∀ o,Below w.heap.size w (w.alloc o):=fun o=>(Below.refl _ _).alloc (Nat.le_refl _) o
 have HP:Hid (∀ w1,Below w.heap.size w w1->Calls Tryd.prog 29 #[.agg #[va,vr],pv] w1 fun e w'=>e=.returned (.int .i64 (pcode m ps))/\Below w1.heap.size w1 w'):=fun w1 h=>rprops_any va vr pv m ps w1 hp1 (hV.mo.below h) (hV.ps.below h)
 have HL:Hid (∀ w1,Below w.heap.size w w1->Calls Tryd.prog 30 #[fv,.int .i64 (ps.length:Int)] w1 fun e w'=>e=.returned (.int .i64 (lcode ps.length l))/\Below w1.heap.size w1 w'):=fun w1 h=>fault_any fv l ps.length w1 (hV.fo.below h)
 unfold tkcode;obtain ⟨ao,ac,rfl⟩:=hV.mo.1.shape;obtain ⟨ro,rc,rfl⟩:=hV.mo.2.shape;obtain ⟨po,pc,rfl⟩:=hV.ps.shape;obtain ⟨fo,fc,rfl,_⟩:=id hV.fo;generalize pcode m ps=x at *;generalize lcode ps.length l=y at *;generalize m.vars.length=vn at *;generalize m.rules.length=rn at *;generalize ps.length=pn at *;generalize l.length=fn at *;clear hV
 have hp:=HP.out _ (hA (.cells #[.slice ao vn ac,.slice ro rn rc,.slice po pn pc,.slice fo fn fc] 29))
 have HB:Hid (∀ w1,Below (w.heap.size+1) (w.alloc (.cells #[.slice ao vn ac,.slice ro rn rc,.slice po pn pc,.slice fo fn fc] 29)) w1->w1.cell? ⟨w.heap.size,2,none⟩=some (.slice po pn pc)/\w1.cell? ⟨w.heap.size,3,none⟩=some (.slice fo fn fc)):=fun w1 h=>⟨(h.cell (p:=⟨w.heap.size,2,none⟩) (Nat.lt_succ_self _)).trans (by simp [go_sem]),(h.cell (p:=⟨w.heap.size,3,none⟩) (Nat.lt_succ_self _)).trans (by simp [go_sem])⟩
 by_cases hx:x=0
 ·subst hx
  rw [if_neg (by simp)]
  go_enter Tryd.func16,Tryd.ntmps16
  go_wp2_with (first | (go_at_call 29;refine hp.mono ?_;rintro e w1 ⟨rfl,hb1⟩;have hbw:=(hA _).trans (hb1.mono (hA _).size);have hq:=HB.out w1 (by simpa using hb1);have k0:=hq.1;have k1:=hq.2;have hl:=HL.out w1 hbw) | (go_at_call 30;refine hl.mono ?_;rintro e w2 ⟨rfl,hb2⟩))
  go_ret
  exact ⟨rfl,hbw.trans (hb2.mono hbw.size)⟩
 ·rw [if_pos hx]
  go_enter Tryd.func16,Tryd.ntmps16
  go_wp2_with (go_at_call 29;refine hp.mono ?_;rintro e w1 ⟨rfl,hb1⟩;have hbw:=(hA _).trans (hb1.mono (hA _).size))
  go_ret
  exact ⟨rfl,hbw⟩
