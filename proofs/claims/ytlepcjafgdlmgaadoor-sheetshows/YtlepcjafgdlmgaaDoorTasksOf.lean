import Derived.Test.YtlepcjafgdlmgaaDoorPCheck
import Derived.Test.YtlepcjafgdlmgaaDoorModelsOwn
namespace Go.Proofs.YtlepcjafgdlmgaaDoor
open Go.ChangeShapes Go.WideShapes Go.ChangeAt Go.RowKit Go.Deep
open Terms Tm
set_option maxHeartbeats 6400000
set_option maxRecDepth 20000
theorem TermsOwn.low {w:World} {base:Nat} {v:Value} {ts:List (List (Int × Int))} (h:TermsOwn w base v ts) {b o:Nat} (hb:b < base) (u:Value):TermsOwn (w.setCell ⟨b,o,none⟩ u) base v ts:=by
 obtain ⟨us,h1,h2⟩:=h;exact ⟨us,owns_setCell h1 hb u,fun j hj=>owns_setCell (h2 j hj) hb u⟩
structure TkSz (m:Mo) (ps:List (List (Int × Int))) (l:List (Int × Int)):Prop where
 mo:MoSz m
 p1:ps.length*24 <= 140737488355328
 p2:∀ i,i < ps.length->(ps.getD i []).length*16 <= 140737488355328
 fo:l.length*16 <= 140737488355328
theorem tasks_any (va vr pv fv:Value) (m:Mo) (ps:List (List (Int × Int))) (l:List (Int × Int)) (w:World) (hZ:TkSz m ps l) (hV:TaskV w va vr pv fv m ps l) :
  Calls Tryd.prog 4 #[.agg #[va,vr,pv,fv]] w fun e w'=>∃ ao vn ac ro rn rc po pn pc fo fn fc,e=.returned (.agg #[.slice ao vn ac,.slice ro rn rc,.slice po pn pc,.slice fo fn fc])/\Below w.heap.size w w'/\Hid (TaskV w' (.slice ao vn ac) (.slice ro rn rc) (.slice po pn pc) (.slice fo fn fc) m ps l):=by
 obtain ⟨ao,ac,rfl⟩:=hV.mo.1.shape;obtain ⟨ro,rc,rfl⟩:=hV.mo.2.shape;obtain ⟨po,pc,rfl⟩:=hV.ps.shape;obtain ⟨fo,fc,rfl,_⟩:=id hV.fo
 obtain ⟨W0,hW0⟩:∃ W0,W0=((w.alloc (.cells #[.slice ao m.vars.length ac,.slice ro m.rules.length rc,.slice po ps.length pc,.slice fo l.length fc] 29)).alloc (.cells #[.slice none 0 0,.slice none 0 0,.slice none 0 0,.slice none 0 0] 29)):=⟨_,rfl⟩
 have hA:Below w.heap.size w W0:=by rw [hW0];exact ((Below.refl _ _).alloc (Nat.le_refl _) _).alloc (by simp) _
 have hz:W0.heap.size=w.heap.size+1+1:=by rw [hW0];simp
 have HSt:Hid (∀ w1,Below W0.heap.size W0 w1->(w1.cell? ⟨w.heap.size,0,none⟩=some (.slice ao m.vars.length ac)/\w1.cell? ⟨w.heap.size,1,none⟩=some (.slice ro m.rules.length rc)/\w1.cell? ⟨w.heap.size,2,none⟩=some (.slice po ps.length pc)/\w1.cell? ⟨w.heap.size,3,none⟩=some (.slice fo l.length fc))/\∀ i,i < 4->w1.cell? ⟨w.heap.size+1,i,none⟩=some (.slice none 0 0)/\w1.frozen? ⟨w.heap.size+1,i,none⟩=false):=fun w1 hb=>by
  refine ⟨⟨(hb.cell (p:=⟨w.heap.size,0,none⟩) (by show w.heap.size < _;omega)).trans ?_,(hb.cell (p:=⟨w.heap.size,1,none⟩) (by show w.heap.size < _;omega)).trans ?_,(hb.cell (p:=⟨w.heap.size,2,none⟩) (by show w.heap.size < _;omega)).trans ?_,(hb.cell (p:=⟨w.heap.size,3,none⟩) (by show w.heap.size < _;omega)).trans ?_⟩,fun i hi=>⟨(hb.cell (p:=⟨w.heap.size+1,i,none⟩) (by show w.heap.size+1 < _;omega)).trans ?_,(hb.frozen (p:=⟨w.heap.size+1,i,none⟩) (by show w.heap.size+1 < _;omega)).trans ?_⟩⟩
  ·rw [hW0];simp [go_sem]
  ·rw [hW0];simp [go_sem]
  ·rw [hW0];simp [go_sem]
  ·rw [hW0];simp [go_sem]
  ·have:i=0\/i=1\/i=2\/i=3:=by omega
   rcases this with rfl | rfl | rfl | rfl <;> (rw [hW0];simp [go_sem])
  ·have:i=0\/i=1\/i=2\/i=3:=by omega
   rcases this with rfl | rfl | rfl | rfl <;> (rw [hW0];simp [go_sem])
 have HM:Hid (∀ w1,Below W0.heap.size W0 w1->Calls Tryd.prog 8 #[.agg #[.slice ao m.vars.length ac,.slice ro m.rules.length rc]] w1 fun e w'=>∃ ao vn ac ro rn rc,e=.returned (.agg #[.slice ao vn ac,.slice ro rn rc])/\Below w1.heap.size w1 w'/\Hid (ModelOwn w' W0.heap.size (.slice ao vn ac) (.slice ro rn rc) m)):=fun w1 hb=>by
  refine (models_own _ _ m w1 hZ.mo (hV.mo.below (hA.trans (hb.mono hA.size)))).mono fun e w' ⟨va',vr',h1,h2,h3⟩=>?_
  obtain ⟨a1,c1,rfl⟩:=h3.modelV.1.shape;obtain ⟨a2,c2,rfl⟩:=h3.modelV.2.shape;exact ⟨a1,_,c1,a2,_,c2,h1,h2,h3.down (by have:=hb.size;omega)⟩
 have HP:Hid (∀ w1,Below W0.heap.size W0 w1->Calls Tryd.prog 9 #[.slice po ps.length pc] w1 fun e w'=>∃ po pn pc,e=.returned (.slice po pn pc)/\Below w1.heap.size w1 w'/\Hid (TermsOwn w' w1.heap.size (.slice po pn pc) ps)):=fun w1 hb=>by
  refine (terms_any _ ps w1 hZ.p1 hZ.p2 (hV.ps.below (hA.trans (hb.mono hA.size)))).mono fun e w' ⟨v',h1,h2,h3⟩=>?_
  obtain ⟨a1,c1,rfl⟩:=h3.termsV.shape;exact ⟨a1,_,c1,h1,h2,h3⟩
 have HF:Hid (∀ w1,Below W0.heap.size W0 w1->Calls Tryd.prog 10 #[.slice fo l.length fc] w1 fun e w'=>∃ fo fc,e=.returned (.slice fo l.length fc)/\Below w1.heap.size w1 w'/\Hid (w'.ownsRow w1.heap.size 77 2 (.slice fo l.length fc) l.length (flat l))):=fun w1 hb=>by
  refine (ops_any _ l w1 hZ.fo (hV.fo.below (hA.trans (hb.mono hA.size)))).mono fun e w' ⟨v',h1,h2,h3⟩=>?_
  obtain ⟨a1,c1,rfl⟩:=owns_slice h3;exact ⟨a1,c1,h1,h2,h3⟩
 have hB0:Below W0.heap.size W0 W0:=Below.refl _ _;have HW0:=(show Hid _ from hW0)
 have HLl:Hid (∀ (W:World) (b:Nat) (v:Value),W.ownsRow b 77 2 v l.length (flat l)->OpsV W v l):=fun W b v h=>opsV_of_owns h
 generalize m.vars.length=vn at *;generalize m.rules.length=rn at *;generalize ps.length=pn at *;generalize l.length=fn at *;clear hV hZ
 go_enter Tryd.func4,Tryd.ntmps4
 go_wp2_with fail
 rw [<- hW0];clear hW0
 go_region_held3 (fun w'=>w'.cell? ⟨w.heap.size,0,none⟩=some (.slice ao vn ac)/\w'.cell? ⟨w.heap.size,1,none⟩=some (.slice ro rn rc)/\w'.cell? ⟨w.heap.size,2,none⟩=some (.slice po pn pc)/\w'.cell? ⟨w.heap.size,3,none⟩=some (.slice fo fn fc))
  (first | exact (HSt.out _ (by first | exact hB0 | exact hB0.drew | exact hb03 | exact hb02 | exact hb01)).1 | (obtain ⟨⟨y0,y1,y2,y3⟩,_⟩:=HSt.out _ hb03;exact ⟨by simp [go_sem,y0],by simp [go_sem,y1],by simp [go_sem,y2],by simp [go_sem,y3]⟩))
  (first | (go_at_call 8;refine (HM.out _ hB0.drew).mono ?_;rintro e w1 ⟨a1,n1,c1,a2,n2,c2,rfl,hb1,HO1⟩;have hb01:=hB0.drew.trans (hb1.mono hB0.drew.size)) | (go_at_call 9;refine (HP.out _ hb01).mono ?_;rintro e w2 ⟨a3,n3,c3,rfl,hb2,HO2⟩;have hb02:=hb01.trans (hb2.mono hb01.size)) | (go_at_call 10;refine (HF.out _ hb02).mono ?_;rintro e w3 ⟨a4,c4,rfl,hb3,HO3⟩;have hb03:=hb02.trans (hb3.mono hb02.size);have g0:=(HSt.out _ hb03).2 0 (by omega);have g1:=(HSt.out _ hb03).2 1 (by omega);have g2:=(HSt.out _ hb03).2 2 (by omega);have g3:=(HSt.out _ hb03).2 3 (by omega);have k0:=g0.1;have k1:=g1.1;have k2:=g2.1;have k3:=g3.1;have f0:=g0.2;have f1:=g1.2;have f2:=g2.2;have f3:=g3.2))
 have hs1:=hb01.size;have hs2:=hb02.size;have hbw:=hA.trans (hb03.mono hA.size);have hb13:=hb2.trans (hb3.mono hb2.size)
 have HV3:Hid (TaskV ((((w3.setCell ⟨w.heap.size+1,0,none⟩ (.slice a1 n1 c1)).setCell ⟨w.heap.size+1,1,none⟩ (.slice a2 n2 c2)).setCell ⟨w.heap.size+1,2,none⟩ (.slice a3 n3 c3)).setCell ⟨w.heap.size+1,3,none⟩ (.slice a4 fn c4)) (.slice a1 n1 c1) (.slice a2 n2 c2) (.slice a3 n3 c3) (.slice a4 fn c4) m ps l):=by
  refine ⟨((((HO1.out.later hb13).low (by omega) _).low (by omega) _).low (by omega) _ |>.low (by omega) _).modelV,((((HO2.out.later hb3 (Nat.le_refl _)).low (by omega) _).low (by omega) _).low (by omega) _ |>.low (by omega) _).termsV,HLl.out _ w2.heap.size _ (owns_setCell (owns_setCell (owns_setCell (owns_setCell HO3.out (by omega) _) (by omega) _) (by omega) _) (by omega) _)⟩
 have HBf:Hid (Below w.heap.size w ((((w3.setCell ⟨w.heap.size+1,0,none⟩ (.slice a1 n1 c1)).setCell ⟨w.heap.size+1,1,none⟩ (.slice a2 n2 c2)).setCell ⟨w.heap.size+1,2,none⟩ (.slice a3 n3 c3)).setCell ⟨w.heap.size+1,3,none⟩ (.slice a4 fn c4))):=(((hbw.setCell (p:=⟨w.heap.size+1,0,none⟩) (by simp) _).setCell (p:=⟨w.heap.size+1,1,none⟩) (by simp) _).setCell (p:=⟨w.heap.size+1,2,none⟩) (by simp) _).setCell (p:=⟨w.heap.size+1,3,none⟩) (by simp) _
 go_wp2_with fail
 refine bodyPost_ret (v:=.agg #[.slice a1 n1 c1,.slice a2 n2 c2,.slice a3 n3 c3,.slice a4 fn c4]) ?_ rfl ⟨_,_,_,_,_,_,_,_,_,_,_,_,rfl,HBf.out,HV3⟩
 simp [results,Tryd.results4,go_sem,k0,k1,k2,k3]
theorem sameTask_b (va vr pv fv va' vr' pv' fv':Value) (m:Mo) (ps:List (List (Int × Int))) (l:List (Int × Int)) (w:World) (hZ:TkSz m ps l) (hV:TaskV w va vr pv fv m ps l) (hV':TaskV w va' vr' pv' fv' m ps l) :
  Calls Tryd.prog 7 #[.agg #[va,vr,pv,fv],.agg #[va',vr',pv',fv']] w fun e w'=>e=.returned (.bool true)/\Below w.heap.size w w':=by
 obtain ⟨ao,ac,rfl⟩:=hV.mo.1.shape;obtain ⟨ro,rc,rfl⟩:=hV.mo.2.shape;obtain ⟨po,pc,rfl⟩:=hV.ps.shape;obtain ⟨fo,fc,rfl,_⟩:=id hV.fo;obtain ⟨ao',ac',rfl⟩:=hV'.mo.1.shape;obtain ⟨ro',rc',rfl⟩:=hV'.mo.2.shape;obtain ⟨po',pc',rfl⟩:=hV'.ps.shape;obtain ⟨fo',fc',rfl,_⟩:=id hV'.fo
 obtain ⟨W0,hW0⟩:∃ W0,W0=((w.alloc (.cells #[.slice ao m.vars.length ac,.slice ro m.rules.length rc,.slice po ps.length pc,.slice fo l.length fc] 29)).alloc (.cells #[.slice ao' m.vars.length ac',.slice ro' m.rules.length rc',.slice po' ps.length pc',.slice fo' l.length fc'] 29)):=⟨_,rfl⟩
 have hA:Below w.heap.size w W0:=by rw [hW0];exact ((Below.refl _ _).alloc (Nat.le_refl _) _).alloc (by simp) _
 have hz:W0.heap.size=w.heap.size+1+1:=by rw [hW0];simp
 have HSt:Hid (∀ w1,Below W0.heap.size W0 w1->(w1.cell? ⟨w.heap.size,2,none⟩=some (.slice po ps.length pc)/\w1.cell? ⟨w.heap.size,3,none⟩=some (.slice fo l.length fc))/\w1.cell? ⟨w.heap.size+1,2,none⟩=some (.slice po' ps.length pc')/\w1.cell? ⟨w.heap.size+1,3,none⟩=some (.slice fo' l.length fc')):=fun w1 hb=>by
  refine ⟨⟨(hb.cell (p:=⟨w.heap.size,2,none⟩) (by show w.heap.size < _;omega)).trans ?_,(hb.cell (p:=⟨w.heap.size,3,none⟩) (by show w.heap.size < _;omega)).trans ?_⟩,(hb.cell (p:=⟨w.heap.size+1,2,none⟩) (by show w.heap.size+1 < _;omega)).trans ?_,(hb.cell (p:=⟨w.heap.size+1,3,none⟩) (by show w.heap.size+1 < _;omega)).trans ?_⟩ <;> (rw [hW0];simp [go_sem])
 have hp1:=hZ.p1;have hl1:=hZ.fo;have hM:Calls Tryd.prog 19 #[.agg #[.slice ao m.vars.length ac,.slice ro m.rules.length rc],.agg #[.slice ao' m.vars.length ac',.slice ro' m.rules.length rc']] W0 fun e w'=>e=.returned (.bool true)/\Below W0.heap.size W0 w':=sameModel_b _ _ _ _ m W0 hZ.mo (hV.mo.below hA) (hV'.mo.below hA)
 have HP:Hid (∀ w1,Below W0.heap.size W0 w1->Calls Tryd.prog 20 #[.slice po ps.length pc,.slice po' ps.length pc'] w1 fun e w'=>e=.returned (.bool true)/\Below w1.heap.size w1 w'):=fun w1 hb=>(sameTerms_all _ _ ps w1 (by omega) (fun i hi=>by have:=hZ.p2 i hi;omega) (hV.ps.below (hA.trans (hb.mono hA.size))) (hV'.ps.below (hA.trans (hb.mono hA.size)))).mono fun _ _ ⟨he,_,hw⟩=>⟨he,hw ▸ below_drewN (Below.refl _ _) _⟩
 have HF:Hid (∀ w1,Below W0.heap.size W0 w1->Calls Tryd.prog 21 #[.slice fo l.length fc,.slice fo' l.length fc'] w1 fun e w'=>e=.returned (.bool true)/\Below w1.heap.size w1 w'):=fun w1 hb=>(sameOps_true _ _ l w1 (by omega) (hV.fo.below (hA.trans (hb.mono hA.size))) (hV'.fo.below (hA.trans (hb.mono hA.size)))).mono fun _ _ ⟨he,_,hw⟩=>⟨he,hw ▸ below_drewN (Below.refl _ _) _⟩
 rw [hW0] at hM
 have HBi:Hid (∀ w1,Below ((w.alloc (.cells #[.slice ao m.vars.length ac,.slice ro m.rules.length rc,.slice po ps.length pc,.slice fo l.length fc] 29)).alloc (.cells #[.slice ao' m.vars.length ac',.slice ro' m.rules.length rc',.slice po' ps.length pc',.slice fo' l.length fc'] 29)).heap.size ((w.alloc (.cells #[.slice ao m.vars.length ac,.slice ro m.rules.length rc,.slice po ps.length pc,.slice fo l.length fc] 29)).alloc (.cells #[.slice ao' m.vars.length ac',.slice ro' m.rules.length rc',.slice po' ps.length pc',.slice fo' l.length fc'] 29)) w1->Below W0.heap.size W0 w1):=fun w1 h=>by rw [hW0];exact h
 generalize m.vars.length=vn at *;generalize m.rules.length=rn at *;generalize ps.length=pn at *;generalize l.length=fn at *;clear hV hV' hZ hp1 hl1 hW0 hz
 go_enter Tryd.func7,Tryd.ntmps7
 go_wp2_with (first | (go_at_call 19;refine hM.mono ?_;rintro e w1 ⟨rfl,hb1⟩;have hb01:=HBi.out w1 hb1;have q1:=HSt.out w1 hb01;obtain ⟨⟨k0,k1⟩,k2,k3⟩:=q1;have hpp:=HP.out w1 hb01) | (go_at_call 20;refine hpp.mono ?_;rintro e w2 ⟨rfl,hb2⟩;have hb02:=hb01.trans (hb2.mono hb01.size);have q2:=HSt.out w2 hb02;obtain ⟨⟨g0,g1⟩,g2,g3⟩:=q2;have hff:=HF.out w2 hb02) | (go_at_call 21;refine hff.mono ?_;rintro e w3 ⟨rfl,hb3⟩;have hb03:=hb02.trans (hb3.mono hb02.size)))
 go_ret
 exact ⟨rfl,hA.trans (hb03.mono hA.size)⟩
