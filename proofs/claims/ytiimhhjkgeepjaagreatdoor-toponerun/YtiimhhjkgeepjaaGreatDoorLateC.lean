/- Joined texts. -/
import Derived.Test.YtiimhhjkgeepjaaGreatDoorLateB
import Derived.Shelf.Sort.Plain
import Derived.Shelf.Slices.Reverse
import Derived.Shelf.Slices.CompactI
import Derived.Shelf.Slices.SearchI
import Derived.Shelf.Slices.In.SortNone
import Derived.Sort.OwnSortedInts
import Derived.Lib.RowBridge
import Derived.Laws.CopyRow
import Derived.Laws.IdiomCopy
import Derived.DeepKeys4
namespace Go.Proofs.YtiimhhjkgeepjaaGreatDoor
open Go.ChangeShapes Go.WideShapes Go.ChangeAt Go.RowKit Go.Deep
open Terms Tm
set_option maxHeartbeats 6400000
set_option maxRecDepth 20000
noncomputable def zC2 (m:Mo) (ps:List (List (Int × Int))) (code:Int):Int:=if zCQ m ps=0 then zAr m code else zCQ m ps
noncomputable def zAG (m:Mo) (ps:List (List (Int × Int))) (code:Int):List Bool:=if zC2 m ps code=0 then ps.map (fun p=>zCB p (zA0 m.vars code)) else []
def zAe (w:World) (v:Value) (t:TypeId):Prop:=∀ a n c,v=.slice (some a) n c->∃ cs fr,w.heap[a.block]? = some (.cells cs t fr)
theorem zAe.nil (w:World) (t:TypeId):zAe w (.slice none 0 0) t:=fun a n c e=>by simp at e
theorem zBJ {m:Mo} {ps:List (List (Int × Int))} (h:zCQ m ps=0):mcode m=0/\ps.length <= 6:=by
 unfold zCQ at h
 split at h
 ·rename_i h1
  split at h
  ·simp at h
  ·exact ⟨h1,by omega⟩
 ·rename_i h1;exact absurd h h1
theorem zEP {m:Mo} (code:Int) (h:mcode m=0):zAr ⟨m.vars,[]⟩ code=zAr m code:=by
 unfold zAr;rw [if_pos h,if_pos (zIM h)]
theorem zIR (va vr pv:Value) (m:Mo) (ps:List (List (Int × Int))) (code:Int) (w:World) (hB:0 < w.heap.size) (hT:zAJ w) (hV:zAa w va vr m) (hP:zBP w pv ps) :
  Calls Tryz.prog 40 #[.agg #[va,vr],pv,.int .i64 code] w fun e w'=>∃ v,e=.returned (.tuple #[v,.int .i64 (zC2 m ps code)])/\Below w.heap.size w w'/\zAQ w' v (zAG m ps code)/\zAe w' v 4:=by
 have hA:∀ o,Below w.heap.size w (w.alloc o):=fun o=>(Below.refl _ _).alloc (Nat.le_refl _) o
 have hpr:=fun o=>zHu va vr pv m ps (w.alloc o) (Nat.lt_of_lt_of_le hB (hA o).size) (hT.below (hA o) hB) (hV.below (hA o)) (hP.below (hA o))
 obtain ⟨ao,cap,rfl⟩:=hV.1.shape;obtain ⟨ro,rc,rfl⟩:=hV.2.shape;obtain ⟨po,pc,rfl,hPa⟩:=hP;have hba:=fun w=>zHb ao ro m.vars.length cap m.rules.length rc w
 by_cases hp:zCQ m ps=0
 ·obtain ⟨hm,hp6⟩:=zBJ hp
  rw [hp] at hpr;have hVb:∀ w',Below w.heap.size w w'->zAa w' (.slice ao m.vars.length cap) (.slice none 0 0) ⟨m.vars,[]⟩:=fun w' hb=>⟨hV.1.below hb,⟨none,0,rfl,⟨by simp,fun _=>⟨rfl,rfl⟩⟩,fun h=>by simp at h⟩⟩
  by_cases hw:zAr m code=0
  ·have hlc:zC2 m ps code=0:=by unfold zC2;rw [if_pos hp,hw]
   have hll:zAG m ps code=ps.map (fun p=>zCB p (zA0 m.vars code)):=by unfold zAG;rw [if_pos hlc]
   rw [hlc,hll];have hvl:=fun w' (hb:Below w.heap.size w w')=>zHD _ _ ⟨m.vars,[]⟩ code w' (Nat.lt_of_lt_of_le hB hb.size) (hT.below hb hB) (hVb w' hb) (by rw [zEP _ hm];exact hw)
   have hvl2:∀ w',Below w.heap.size w w'->Calls Tryz.prog 43 #[.agg #[.slice ao m.vars.length cap,.slice none 0 0],.int .i64 code] w' fun e w2=>∃ B,e=.returned (.tuple #[.slice (some ⟨B,0,none⟩) (zA0 m.vars code).length (zA0 m.vars code).length,.int .i64 0])/\w'.heap.size <= B/\Below w'.heap.size w' w2/\w2.rowIs B 3 (zA0 m.vars code).length (fun j=>.int .i64 ((zA0 m.vars code).getD j 0)):=hvl
   generalize zA0 m.vars code=env at hvl2 ⊢;have HHo:Hid (∀ w' (_:Below w.heap.size w w') v ev l,zAR w' v l->zAD w' ev env->Calls Tryz.prog 66 #[v,ev] w' fun e w2=>e=.returned (.bool (zCB l env))/\Below w'.heap.size w' w2):=fun w' hb v ev l h1 h2=>zH9 v ev l env w' (Nat.lt_of_lt_of_le hB hb.size) (hT.below hb hB) h1 h2
   have HP:Hid (ps≠[]->∃ b off,po=some ⟨b,off,none⟩/\b < w.heap.size/\∀ i,i < ps.length->∃ u,w.cell? ⟨b,off+i,none⟩=some u/\zAR w u (ps.getD i [])):=hPa
   have HML:Hid ((ps.map (fun p=>zCB p env)).length=ps.length/\∀ i,i < ps.length->(ps.map (fun p=>zCB p env)).getD i false=zCB (ps.getD i []) env):=⟨by simp,fun i hi=>by simp [List.getD_eq_getElem?_getD,hi]⟩
   generalize ps.map (fun p=>zCB p env)=lt at HML ⊢
   obtain ⟨pn,hpn⟩:∃ pn,pn=ps.length:=⟨_,rfl⟩
   have HPN:Hid (pn=ps.length):=hpn;rw [<- hpn] at hpr hp6 HP HML ⊢;generalize m.vars.length=n at *;generalize m.rules.length=rn at *;have hmk:=run_make_row' (P:=Tryz.prog) 104 4 (.bool false) 1 Tryz.underlying104 zFf rfl .i64 .i64 pn (by omega) (by omega)
   clear hV hT hVb hlc hll hPa hvl hpn hw hm hp
   go_enter Tryz.func40,Tryz.ntmps40
   go_wp2_with (first | (go_at_call 36;refine (hpr _).mono ?_;rintro e w1 ⟨rfl,hb1⟩;have hbw1:=(hA _).trans (hb1.mono (hA _).size);have k10:w1.cell? ⟨w.heap.size,0,none⟩=some (.slice ao n cap):=(hb1.cell (p:=⟨w.heap.size,0,none⟩) (by simp)).trans (by simp [go_sem]);have k11:w1.cell? ⟨w.heap.size,1,none⟩=some (.slice ro rn rc):=(hb1.cell (p:=⟨w.heap.size,1,none⟩) (by simp)).trans (by simp [go_sem])) | (go_at_call 44;refine (hba _).mono ?_;rintro e w2 ⟨rfl,hb2⟩;have hbw2:=hbw1.trans (hb2.mono hbw1.size)) | (go_at_call 43;refine (hvl2 _ hbw2).mono ?_;rintro e w3 ⟨B,rfl,hBl,hb3,hr3⟩))
   have hbw3:=hbw2.trans (hb3.mono hbw2.size);have hrow0:=World.rowIs_made w3 (.bool false) pn 4
   have HI3:Hid (∀ w',Below w3.heap.size w3 w'->zAD w' (.slice (some ⟨B,0,none⟩) env.length env.length) env):=fun w' hb=>by
    have h1:=zDn hr3
    have e1:(List.range env.length).map (fun j=>env.getD j 0)=env:=by
     apply List.ext_getElem?
     intro i
     by_cases hi:i < env.length
     ·simp [hi,List.getD_eq_getElem?_getD]
     ·simp [hi]
    rw [e1] at h1;exact h1.below hb
   have HB3:Hid (Below w.heap.size w w3):=hbw3;clear hpr hvl2 hba hmk hb1 hbw1 k10 k11 hb2 hbw2 hb3 hr3 hbw3 hBl
   go_loopw [35] (fun i wr=>∃ k:Nat,k <= pn/\i=.int .i64 k/\Hid (wr.rowIs w3.heap.size 4 pn (fun j=>if j < k then .bool (lt.getD j false) else .bool false))/\Hid (Below w3.heap.size w3 wr)) (fun i _=>pn - (intOf i).toNat)
   case atStart=>exact ⟨0,Nat.zero_le _,rfl,hrow0.congr (fun i hi=>by rw [if_neg (by omega)]),(Below.refl _ _).alloc (Nat.le_refl _) _⟩
   case round=>
    obtain ⟨k,hk,rfl,HRow,HBel⟩:=hrel;have hbel:=HBel.out;have hbw:=HB3.out.trans (hbel.mono HB3.out.size)
    by_cases hlt:k < pn
    ·obtain ⟨b,off,rfl,hblt,hat⟩:=HP.out (by intro h;have:=HPN.out;subst h;simp at this;omega)
     obtain ⟨u,hu,hou⟩:=hat k hlt;have c0:=(hbel.cell (p:=⟨b,off+k,none⟩) (Nat.lt_of_lt_of_le hblt HB3.out.size)).trans ((HB3.out.cell (p:=⟨b,off+k,none⟩) hblt).trans hu);obtain ⟨uo,uc,rfl⟩:=hou.shape;have hho:=HHo.out wr hbw _ _ _ (hou.below hbw) (HI3.out wr hbel);have HLk:=(show Hid _ from HML.out.2 k hlt)
     generalize zCB (ps.getD k []) env=tv at hho HLk;generalize (ps.getD k []).length=ul at *;have HWr:Hid (∀ w4,Below wr.heap.size wr w4->w4.rowIs w3.heap.size 4 pn (fun j=>if j < k then .bool (lt.getD j false) else .bool false)/\Below w3.heap.size w3 w4):=fun w4 hb=>⟨zAp HRow.out hb,hbel.trans (hb.mono hbel.size)⟩
     clear hat hu hou hbel hbw HHo HI3 HP HML
     go_wp2_with (go_at_call 66;refine hho.mono ?_;rintro e w4 ⟨rfl,hb4⟩;obtain ⟨hr4,hb34⟩:=HWr.out w4 hb4;have hf:=hr4.frozen k;have hc:w4.cell? ⟨w3.heap.size,k,none⟩=some (.bool false):=(by rw [hr4.cell hlt,if_neg (by omega)]);have HR4:Hid (w4.rowIs w3.heap.size 4 pn (fun j=>if j < k then .bool (lt.getD j false) else .bool false)):=hr4;clear hr4)
     refine ⟨⟨k+1,hlt,by first | rfl | simp,(HR4.out.set k (.bool tv)).congr fun i hi=>?_,hb34.setCell (Nat.le_refl _) _⟩,by simp [intOf];omega⟩
     by_cases hik:i=k
     ·subst hik;rw [if_pos rfl,if_pos (by omega),HLk.out]
     ·rw [if_neg hik]
      by_cases hlk:i < k
      ·rw [if_pos hlk,if_pos (by omega)]
      ·rw [if_neg hlk,if_neg (by omega)]
    ·have hkn:k=pn:=by omega
     subst hkn;have hrow:=HRow.out.congr (g:=fun j=>.bool (lt.getD j false)) (fun i hi=>by rw [if_pos hi])
     rw [<- HML.out.1] at hrow;have hbo:=zF7 hrow;rw [HML.out.1] at hbo;have HBO:=(show Hid _ from hbo)
     have HTy:Hid (zAe wr (.slice (some ⟨w3.heap.size,0,none⟩) k k) 4):=by
      intro a n c e
      injection e with e _ _
      injection e with e
      subst e;obtain ⟨cs,hcs,_⟩:=HRow.out;exact ⟨cs,(0,0),hcs⟩
     clear hrow hbo
     go_wp2_with fail
     go_ret2
     exact ⟨_,rfl,hbw,HBO.out,HTy.out⟩
  ·have hlc:zC2 m ps code=zAr m code:=by unfold zC2;rw [if_pos hp]
   have hll:zAG m ps code=[]:=by unfold zAG;rw [if_neg (by rw [hlc];exact hw)]
   rw [hlc,hll];have hvl:=fun w' (hb:Below w.heap.size w w')=>zHG _ _ ⟨m.vars,[]⟩ code w' (Nat.lt_of_lt_of_le hB hb.size) (hT.below hb hB) (hVb w' hb)
   rw [zEP _ hm] at hvl;generalize zAr m code=c at *;generalize zGs ⟨m.vars,[]⟩ code=vs at *;generalize m.vars.length=n at *;generalize m.rules.length=rn at *;generalize ps.length=pn at *;clear hV hT hVb hlc hll hPa
   go_enter Tryz.func40,Tryz.ntmps40
   go_wp2_with (first | (go_at_call 36;refine (hpr _).mono ?_;rintro e w1 ⟨rfl,hb1⟩;have hbw1:=(hA _).trans (hb1.mono (hA _).size);have k10:w1.cell? ⟨w.heap.size,0,none⟩=some (.slice ao n cap):=(hb1.cell (p:=⟨w.heap.size,0,none⟩) (by simp)).trans (by simp [go_sem]);have k11:w1.cell? ⟨w.heap.size,1,none⟩=some (.slice ro rn rc):=(hb1.cell (p:=⟨w.heap.size,1,none⟩) (by simp)).trans (by simp [go_sem])) | (go_at_call 44;refine (hba _).mono ?_;rintro e w2 ⟨rfl,hb2⟩;have hbw2:=hbw1.trans (hb2.mono hbw1.size)) | (go_at_call 43;refine (hvl _ hbw2).mono ?_;rintro e w3 ⟨v,rfl,hb3,_⟩))
   go_ret2
   exact ⟨_,rfl,hbw2.trans (hb3.mono hbw2.size),⟨none,0,rfl,fun h=>absurd rfl h⟩,zAe.nil _ _⟩
 ·have hlc:zC2 m ps code=zCQ m ps:=by unfold zC2;rw [if_neg hp]
  have hll:zAG m ps code=[]:=by unfold zAG;rw [if_neg (by rw [hlc];exact hp)]
  rw [hlc,hll];generalize zCQ m ps=c at *;generalize m.vars.length=n at *;generalize m.rules.length=rn at *;generalize ps.length=pn at *;clear hV hT hlc hll hPa
  go_enter Tryz.func40,Tryz.ntmps40
  go_wp2_with (go_at_call 36;refine (hpr _).mono ?_;rintro e w1 ⟨rfl,hb1⟩)
  go_ret2
  exact ⟨_,rfl,(hA _).trans (hb1.mono (hA _).size),⟨none,0,rfl,fun h=>absurd rfl h⟩,zAe.nil _ _⟩
theorem zFn (va vr pv:Value) (m:Mo) (ps:List (List (Int × Int))) (code:Int) (w:World) (hB:0 < w.heap.size) (hT:zAJ w) (hV:zAa w va vr m) (hP:zBP w pv ps) :
  Calls Tryz.prog 40 #[.agg #[va,vr],pv,.int .i64 code] w fun e w'=>∃ v,e=.returned (.tuple #[v,.int .i64 (zC2 m ps code)])/\Below w.heap.size w w'/\zAQ w' v (zAG m ps code):=
 (zIR va vr pv m ps code w hB hT hV hP).mono fun _ _ ⟨v,h1,h2,h3,_⟩=>⟨v,h1,h2,h3⟩
def zB9 (m:Mo):Int:=zBF m.vars (zA7 m.vars) m.vars.length
noncomputable def zB8 (m:Mo) (ps:List (List (Int × Int))) (l:List (Int × Int)):Nat->List (Int × Int)
 | 0=>[]
 | k+1=>if tru l (zAG m ps (zB9 m)) (k:Int) 0=true then zB8 m ps l k else zB8 m ps l k++[(zB9 m,(k:Int))]
noncomputable def zAX (m:Mo) (ps:List (List (Int × Int))) (l:List (Int × Int)):List (Int × Int):=zB8 m ps l (2 ^ (zAA l).length)
theorem zGS (m:Mo) (ps:List (List (Int × Int))) (l:List (Int × Int)):∀ k,(zB8 m ps l k).length <= k
 | 0=>Nat.le_refl _
 | k+1=>by
  rw [zB8];have:=zGS m ps l k
  split
  ·omega
  ·rw [List.length_append,List.length_singleton];omega
theorem zHg {m:Mo} {ps:List (List (Int × Int))} {l:List (Int × Int)} (h:zAK m ps l=0):(zAX m ps l).length <= 64:=by
 have h6:=(zAv (zA3 h).2).2.2.2.2;have:=zGS m ps l (2 ^ (zAA l).length);have h2:2 ^ (zAA l).length <= 2 ^ 6:=Nat.pow_le_pow_right (by decide) h6
 unfold zAX;omega
theorem zEE {m:Mo} {ps:List (List (Int × Int))} {l:List (Int × Int)} (h:zAK m ps l=0) {c:Int} (hc:0 <= c/\c < zAC m.vars m.vars.length):zC2 m ps c=0/\(zAG m ps c).length=ps.length:=by
 obtain ⟨hp,_⟩:=zA3 h;obtain ⟨hm,_⟩:=zBJ hp;have h1:zC2 m ps c=0:=by unfold zC2;rw [if_pos hp,zBk hm hc]
 refine ⟨h1,?_⟩
 unfold zAG;rw [if_pos h1,List.length_map]
theorem zFP {m:Mo} {ps:List (List (Int × Int))} {l:List (Int × Int)} (h:zAK m ps l=0):0 <= zB9 m/\zB9 m < zAC m.vars m.vars.length:=by
 obtain ⟨hp,_⟩:=zA3 h;obtain ⟨hm,_⟩:=zBJ hp;exact zD4 (zAt hm) (Nat.le_refl _) (fun i hi=>zHV (zAt hm) i hi)
theorem zFI {m:Mo} {ps:List (List (Int × Int))} {l:List (Int × Int)} (h:zAK m ps l=0) {c:Int} (hc:0 <= c/\c < zAC m.vars m.vars.length) {k:Nat} (hk:k < 2 ^ (zAA l).length) :
  zBE l (zAG m ps c) (k:Int)=0/\zEW l (zAG m ps c) (k:Int)=(List.range l.length).map (tru l (zAG m ps c) (k:Int)):=by
 have h1:=(zEE h hc).2
 have h2:zBE l (zAG m ps c) (k:Int)=0:=by
  refine zC5 (by rw [h1];exact (zA3 h).2) fun hn=>?_
  unfold zBW at hn;have:((2 ^ (zAA l).length:Nat):Int)=(2:Int) ^ (zAA l).length:=by push_cast;rfl
  rcases hn with hn | hn
  ·omega
  ·rw [<- this] at hn;omega
 exact ⟨h2,by unfold zEW;rw [if_pos h2]⟩
theorem zJo {m:Mo} {ps:List (List (Int × Int))} {l:List (Int × Int)} (h:zAK m ps l=0):0 < l.length:=by
 obtain ⟨_,_,hz,_,_⟩:=zAv (zA3 h).2;have:=(zCq hz).1
 rcases Nat.eq_zero_or_pos l.length with h0 | h0
 ·rw [List.length_eq_zero_iff.1 h0] at this
  simp at this
 ·exact h0
theorem zPc (B:Nat) (va vr pv fv:Value) (m:Mo) (ps:List (List (Int × Int))) (l:List (Int × Int)) (ho:Option Addr) (hcp bs bl:Nat) (w:World) (hB:0 < w.heap.size) (hT:zAJ w) (hV:TaskV w va vr pv fv m ps l) (hc:zAK m ps l=0)
  (hS:SurvAt w B va vr pv fv (.slice ho (zAA l).length hcp) bs bl) :
  Calls Tryz.prog 52 #[.pointer (some ⟨B,0,none⟩)] w fun e w'=>∃ so sc,e=.returned (.tuple #[.slice so (zAX m ps l).length sc,.int .i64 0])/\Below w.heap.size w w'/\Hid (SpO w' w.heap.size (.slice so (zAX m ps l).length sc) (zAX m ps l)):=by
 obtain ⟨hp0,hl0⟩:=zA3 hc;obtain ⟨hm0,_⟩:=zBJ hp0;have h6:=(zAv hl0).2.2.2.2;have hne:=zJo hc;have hnei:(0:Int) < (l.length:Int):=by omega
 obtain ⟨ao,ac,rfl⟩:=hV.mo.1.shape;obtain ⟨ro,rc,rfl⟩:=hV.mo.2.shape;obtain ⟨po,pc,rfl⟩:=hV.ps.shape;obtain ⟨fo,fc,rfl,_⟩:=id hV.fo
 have hfi:Calls Tryz.prog 6 #[.agg #[.slice ao m.vars.length ac,.slice ro m.rules.length rc]] w fun e w'=>e=.returned (.tuple #[.int .i64 (zB9 m),.int .i64 0])/\Below w.heap.size w w':=by
  have:=zEN _ _ m w hB hT hV.mo;rw [if_pos hm0,hm0] at this;exact this
 have HLe:Hid (∀ w1,Below w.heap.size w w1->Calls Tryz.prog 40 #[.agg #[.slice ao m.vars.length ac,.slice ro m.rules.length rc],.slice po ps.length pc,.int .i64 (zB9 m)] w1 fun e w'=>∃ lo lc,e=.returned (.tuple #[.slice lo ps.length lc,.int .i64 0])/\Below w1.heap.size w1 w'/\Hid (zAQ w' (.slice lo ps.length lc) (zAG m ps (zB9 m)))):=fun w1 h=>by
  refine (zFn _ _ _ m ps (zB9 m) w1 (Nat.lt_of_lt_of_le hB h.size) (hT.below h hB) (hV.mo.below h) (hV.ps.below h)).mono fun e w' ⟨v,h1,h2,h3⟩=>?_
  obtain ⟨t1,t2⟩:=zEE hc (zFP hc);obtain ⟨lo,lc,rfl,hx⟩:=h3;rw [t2] at h1;exact ⟨lo,lc,by rw [h1,t1],h2,⟨lo,lc,by rw [t2],hx⟩⟩
 have HTr:Hid (∀ (k:Nat) (lv:Value) (w1:World),k < 2 ^ (zAA l).length->Below w.heap.size w w1->zAQ w1 lv (zAG m ps (zB9 m))->Calls Tryz.prog 78 #[.slice fo l.length fc,lv,.int .i64 (k:Int)] w1 fun e w'=>∃ b off c,e=.returned (.tuple #[.slice (some ⟨b,off,none⟩) l.length c,.int .i64 0])/\Below w1.heap.size w1 w'/\w'.cell? ⟨b,off,none⟩=some (.bool (tru l (zAG m ps (zB9 m)) (k:Int) 0))):=fun k lv w1 hk h hl=>by
  refine (zHF _ lv l (zAG m ps (zB9 m)) (k:Int) w1 (Nat.lt_of_lt_of_le hB h.size) (hT.below h hB) (hV.fo.below h) hl).mono fun e w' ⟨v,h1,h2,h3⟩=>?_
  obtain ⟨t1,t2⟩:=zFI hc (zFP hc) hk;rw [t2] at h3;have hn:=zJo hc;obtain ⟨lo,lc,rfl,hx⟩:=h3;obtain ⟨b,off,rfl,_,hat⟩:=hx (by intro h0;have:=congrArg List.length h0;rw [List.length_map,List.length_range,List.length_nil] at this;omega)
  have c0:=hat 0 (by simpa using hn)
  refine ⟨b,off,lc,by rw [h1,t1];simp,h2,?_⟩
  rw [Nat.add_zero] at c0;rw [c0];simp [List.getD_eq_getElem?_getD,hn]
 have HS:Hid (∀ w1,Below w.heap.size w w1->SurvAt w1 B (.slice ao m.vars.length ac) (.slice ro m.rules.length rc) (.slice po ps.length pc) (.slice fo l.length fc) (.slice ho (zAA l).length hcp) bs bl):=fun w1 h=>hS.later h
 have hcl:=fun w1 (h:Below w.heap.size w w1)=>zFQ B _ _ _ _ ho _ hcp bs bl w1 h6 (hS.later h)
 have HCl:Hid (∀ w1,Below w.heap.size w w1->Calls Tryz.prog 77 #[.pointer (some ⟨B,0,none⟩)] w1 fun e w'=>e=.returned (.int .i64 ((2 ^ (zAA l).length:Nat):Int))/\w'=w1):=hcl
 obtain ⟨_,s0,s1,s2,s3,s4,s5,s6⟩:=id hS;have hq64:2 ^ (zAA l).length <= 64:=Nat.pow_le_pow_right (show 0 < 2 by decide) h6
 have HNil:Hid (zB8 m ps l 0=[]):=rfl;have HSt:Hid (∀ k,zB8 m ps l (k+1)=if tru l (zAG m ps (zB9 m)) (k:Int) 0=true then zB8 m ps l k else zB8 m ps l k++[(zB9 m,(k:Int))]):=fun k=>rfl
 have HLen:Hid (∀ k,(zB8 m ps l k).length <= k):=zGS m ps l
 unfold zAX;generalize zB8 m ps l=bg at *;generalize zAG m ps (zB9 m)=lt at *;generalize zB9 m=first at *;generalize m.vars.length=vn at *;generalize m.rules.length=rn at *;generalize ps.length=pn at *;generalize (zAA l).length=an at *;generalize 2 ^ an=N at *
 have HTru:Hid (∀ k:Nat,tru l lt (k:Int) 0=true\/tru l lt (k:Int) 0=false):=fun k=>by cases tru l lt (k:Int) 0 <;> simp
 generalize hfn:l.length=fn at *;clear hV hT hc hl0 hp0 hm0 hS hcl h6 hfn
 go_enter Tryz.func52,Tryz.ntmps52
 go_wp2_with (first | (go_at_call 6;refine hfi.mono ?_;rintro e w1 ⟨rfl,hb1⟩;obtain ⟨_,p0,p1,p2,p3,p4,p5,p6⟩:=HS.out w1 hb1;have hle:=HLe.out _ hb1.drew))
 have HSB:Hid (∀ w2,Below w1.heap.size w1 w2->w2.cell? ⟨B,0,none⟩=some (.slice ao vn ac)/\w2.cell? ⟨B,1,none⟩=some (.slice ro rn rc)/\w2.cell? ⟨B,2,none⟩=some (.slice po pn pc)):=fun w2 h=>by
  obtain ⟨_,q0,q1,q2,_,_,_,_⟩:=HS.out w2 (hb1.trans (h.mono hb1.size));exact ⟨q0,q1,q2⟩
 have hB0:Below w1.heap.size w1 w1:=Below.refl _ _;have hBw:=hB0.drew
 go_region_held3 (fun w'=>w'.cell? ⟨B,0,none⟩=some (.slice ao vn ac)/\w'.cell? ⟨B,1,none⟩=some (.slice ro rn rc)/\w'.cell? ⟨B,2,none⟩=some (.slice po pn pc))
  (first | exact HSB.out _ hb12 | exact HSB.out _ hBw | exact HSB.out _ hB0)
  (first
   | (go_at_call 40;refine hle.mono ?_;rintro e w2 ⟨lo,lc,rfl,hb2,HLv⟩;have hb12:=hBw.trans (hb2.mono hBw.size)))
 have hw2:=hb1.trans (hb12.mono hb1.size);have hcl:=HCl.out w2 hw2;clear hle hfi HLe HSB p0 p1 p2 p3 p4 p5 p6 s0 s1 s2 s3 s4 s5 s6;have HLet:Hid (∀ w3,Below w2.heap.size w2 w3->zAQ w3 (.slice lo pn lc) lt):=fun w3 h=>HLv.out.below h
 go_wp2_with (first | (go_at_call 77;refine hcl.mono ?_;rintro e w3 ⟨rfl,rfl⟩))
 go_loopw [7,43] (fun u i wr=>∃ k:Nat,k <= N/\i=.int .i64 k/\(∃ so sn sc,u=.slice so sn sc/\sn <= k/\Hid ((bg k).length=sn/\SpO wr w3.heap.size (.slice so sn sc) (bg k)))/\Below w3.heap.size w3 wr) (fun _ i _=>N - (intOf i).toNat)
 case atStart=>exact ⟨0,Nat.zero_le _,rfl,⟨none,0,0,rfl,Nat.le_refl _,by rw [HNil.out];rfl,by rw [HNil.out];exact SpO.nil _ _⟩,Below.refl _ _⟩
 case round=>
  obtain ⟨k,hk,rfl,⟨so,sn,sc,rfl,hsn,HSp⟩,hbr3⟩:=hrel;have hbr:=hw2.trans (hbr3.mono hw2.size);have HBo:=(show Hid _ from HLet.out wr hbr3)
  obtain ⟨_,p0,p1,p2,p3,p4,p5,p6⟩:=HS.out wr hbr
  by_cases hkN:k < N
  ·have htr:=HTr.out k _ wr hkN hbr HBo.out
   have hst:=HSt.out k;have HSk:Hid (∀ w4,Below wr.heap.size wr w4->SpO w4 w3.heap.size (.slice so sn sc) (bg k)):=fun w4 h=>HSp.out.2.later h (Nat.le_refl _)
   have HSl:Hid ((bg k).length=sn):=HSp.out.1
   rcases HTru.out k with ht | ht
   ·rw [ht] at htr hst
    rw [if_pos rfl] at hst;have HE:Hid (bg (k+1)=bg k):=hst;clear hst ht HBo HSp
    go_wp2_with (first | (go_at_call 78;refine htr.mono ?_;rintro e w4 ⟨b,off,c,rfl,hb4,d0⟩;have hbw4:=hbr3.trans (hb4.mono hbr3.size)))
    go_roundw
    case rel=>exact ⟨k+1,by omega,by go_num,⟨so,sn,sc,rfl,by omega,by rw [HE.out];exact HSl.out,by rw [HE.out];exact HSk.out _ hb4⟩,hbw4⟩
    case measure=>simp [intOf];omega
   ·rw [ht] at htr hst
    rw [if_neg (by simp)] at hst
    have HE:Hid (bg (k+1)=bg k++[(first,(k:Int))]):=hst;have hsz:w.heap.size <= wr.heap.size:=hbr.size;clear hst ht HBo HSp
    go_wp2_with (first | (go_at_call 78;refine htr.mono ?_;rintro e w4 ⟨b,off,c,rfl,hb4,d0⟩;have hbw4:=hbr3.trans (hb4.mono hbr3.size);have hsp:=HSk.out _ hb4;have hs4:=hbw4.size) | (at_builtin;refine zLy first (k:Int) rfl _ _ rfl w3.heap.size sn sc so (bg k) HSl.out rfl hsp rfl (by omega) hs4 ?_;intro vo5 cap5 w5 ho5 hb5 hg5;have HO5:Hid (SpO w5 w3.heap.size (.slice vo5 (sn+1) cap5) (bg k++[(first,(k:Int))])):=ho5;have hbw5:=hbw4.trans hb5;clear ho5 hg5 hsp))
    go_roundw
    case rel=>exact ⟨k+1,by omega,by go_num,⟨vo5,sn+1,cap5,rfl,by omega,by rw [HE.out,List.length_append,HSl.out];rfl,by rw [HE.out];exact HO5.out⟩,hbw5⟩
    case measure=>simp [intOf];omega
  ·obtain rfl:k=N:=by omega
   have HSl:Hid ((bg k).length=sn):=HSp.out.1;have HSk:Hid (SpO wr w.heap.size (.slice so sn sc) (bg k)):=zAw HSp.out.2 hw2.size;clear HSp HBo
   go_wp2_with fail
   go_ret2
   refine ⟨so,sc,by rw [HSl.out];rfl,hbr,by rw [HSl.out];exact HSk.out⟩
end Go.Proofs.YtiimhhjkgeepjaaGreatDoor
namespace Go.Proofs.YtiimhhjkgeepjaaGreatDoor
open Go.Shelf
set_option maxHeartbeats 6400000
set_option maxRecDepth 20000
def zLa:Go.Shelf.Ren:=⟨fun | 189=>46 | 125=>73 | 257=>72 | 128=>111 | 129=>112 | 294=>102 | 295=>103 | 296=>104 | 297=>105 | 298=>106 | 299=>107 | 216=>108 | 300=>109 | 301=>110 | 328=>149 | 329=>150 | 330=>151 | 331=>152 | 332=>153 | 215=>154 | 343=>163 | n=>n,fun | 28=>37 | 3=>3 | 46=>160 | 0=>0 | 51=>198 | 53=>200 | 4=>4 | 183=>191 | 182=>190 | 131=>114 | 5=>5 | 9=>9 | 218=>217 | 222=>221 | 228=>239 | 229=>240 | n=>n,fun | n=>n⟩
theorem zRt:Go.Proofs.Lays.n189 Tryz.prog zLa:={
 mixed:=by kernel_rfl
 f125:=Tryz.func73.trans (congrArg some (by kernel_rfl))
 f128:=Tryz.func111.trans (congrArg some (by kernel_rfl))
 f129:=Tryz.func112.trans (congrArg some (by kernel_rfl))
 f189:=Tryz.func46.trans (congrArg some (by kernel_rfl))
 f215:=Tryz.func154.trans (congrArg some (by kernel_rfl))
 f216:=Tryz.func108.trans (congrArg some (by kernel_rfl))
 f257:=Tryz.func72.trans (congrArg some (by kernel_rfl))
 f294:=Tryz.func102.trans (congrArg some (by kernel_rfl))
 f295:=Tryz.func103.trans (congrArg some (by kernel_rfl))
 f296:=Tryz.func104.trans (congrArg some (by kernel_rfl))
 f297:=Tryz.func105.trans (congrArg some (by kernel_rfl))
 f298:=Tryz.func106.trans (congrArg some (by kernel_rfl))
 f299:=Tryz.func107.trans (congrArg some (by kernel_rfl))
 f300:=Tryz.func109.trans (congrArg some (by kernel_rfl))
 f301:=Tryz.func110.trans (congrArg some (by kernel_rfl))
 f328:=Tryz.func149.trans (congrArg some (by kernel_rfl))
 f329:=Tryz.func150.trans (congrArg some (by kernel_rfl))
 f330:=Tryz.func151.trans (congrArg some (by kernel_rfl))
 f331:=Tryz.func152.trans (congrArg some (by kernel_rfl))
 f332:=Tryz.func153.trans (congrArg some (by kernel_rfl))
 f343:=Tryz.func163.trans (congrArg some (by kernel_rfl))
 t0:=Tryz.underlying0
 a0:=Tryz.isAgg0
 z0:=Tryz.sizeOf0
 v0:=Tryz.zeroValue0
 t3:=Tryz.underlying3
 a3:=Tryz.isAgg3
 z3:=Tryz.sizeOf3
 v3:=Tryz.zeroValue3
 t4:=Tryz.underlying4
 a4:=Tryz.isAgg4
 z4:=Tryz.sizeOf4
 v4:=Tryz.zeroValue4
 t5:=Tryz.underlying5
 a5:=Tryz.isAgg5
 z5:=Tryz.sizeOf5
 v5:=Tryz.zeroValue5
 t9:=Tryz.underlying9
 a9:=Tryz.isAgg9
 z9:=Tryz.sizeOf9
 v9:=Tryz.zeroValue9
 t28:=Tryz.underlying37
 a28:=Tryz.isAgg37
 z28:=Tryz.sizeOf37
 v28:=Tryz.zeroValue37
 t46:=Tryz.underlying160
 a46:=Tryz.isAgg160
 z46:=Tryz.sizeOf160
 v46:=Tryz.zeroValue160
 t51:=Tryz.underlying198
 a51:=Tryz.isAgg198
 z51:=Tryz.sizeOf198
 v51:=Tryz.zeroValue198
 t53:=Tryz.underlying200
 a53:=Tryz.isAgg200
 z53:=Tryz.sizeOf200
 v53:=Tryz.zeroValue200
 t131:=Tryz.underlying114
 a131:=Tryz.isAgg114
 z131:=Tryz.sizeOf114
 v131:=Tryz.zeroValue114
 t182:=Tryz.underlying190
 a182:=Tryz.isAgg190
 z182:=Tryz.sizeOf190
 v182:=Tryz.zeroValue190
 t183:=Tryz.underlying191
 a183:=Tryz.isAgg191
 z183:=Tryz.sizeOf191
 v183:=Tryz.zeroValue191
 t218:=Tryz.underlying217
 a218:=Tryz.isAgg217
 z218:=Tryz.sizeOf217
 v218:=Tryz.zeroValue217
 t222:=Tryz.underlying221
 a222:=Tryz.isAgg221
 z222:=Tryz.sizeOf221
 v222:=Tryz.zeroValue221
 t228:=Tryz.underlying239
 a228:=Tryz.isAgg239
 z228:=Tryz.sizeOf239
 v228:=Tryz.zeroValue239
 t229:=Tryz.underlying240
 a229:=Tryz.isAgg240
 z229:=Tryz.sizeOf240
 v229:=Tryz.zeroValue240}
open Go.Sort Go.RowKit in
theorem slices_Sort_int (blk off cap:Nat) (zs:List Int) (w:World) (hH:Holds (Value.int .i64) w blk off zs.toArray) (hblk:blk < w.heap.size) (hsz:zs.length < 4611686018427387904) :
  Calls Tryz.prog 46 #[.slice (some ⟨blk,off,none⟩) zs.length cap] w fun e w'=>
   e=.returned (.tuple #[])/\∃ n os,w'=grow (putRow (Value.int .i64) (Sort.ahead w n) blk off (zs.mergeSort fun x y=>decide (x <= y)).toArray) os:=Any.slices_Sort_int zRt blk off cap zs w hH hblk hsz
def zJh:Go.Shelf.Ren:=⟨fun | 20=>47 | n=>n,fun | 22=>37 | 3=>3 | 4=>4 | 0=>0 | n=>n,fun | n=>n⟩
theorem zO3:Go.Proofs.Lays2.n20 Tryz.prog zJh:={
 mixed:=by kernel_rfl
 f20:=Tryz.func47.trans (congrArg some (by kernel_rfl))
 t0:=Tryz.underlying0
 a0:=Tryz.isAgg0
 z0:=Tryz.sizeOf0
 v0:=Tryz.zeroValue0
 t3:=Tryz.underlying3
 a3:=Tryz.isAgg3
 z3:=Tryz.sizeOf3
 v3:=Tryz.zeroValue3
 t4:=Tryz.underlying4
 a4:=Tryz.isAgg4
 z4:=Tryz.sizeOf4
 v4:=Tryz.zeroValue4
 t22:=Tryz.underlying37
 a22:=Tryz.isAgg37
 z22:=Tryz.sizeOf37
 v22:=Tryz.zeroValue37
 i3:=by kernel_rfl}
open Go.RowKit Go.Lib Go.Sort in
theorem slices_Compact_int (blk off cap:Nat) (zs:List Int) (w:World) (hH:Holds (Value.int .i64) w blk off zs.toArray) (hsz:zs.length <= 9223372036854775807) (hcap:zs.length <= cap) :
  Calls Tryz.prog 47 #[.slice (some ⟨blk,off,none⟩) zs.length cap] w fun e w'=>e=.returned (.slice (some ⟨blk,off,none⟩) (Lib.compact zs).length cap)/\∃ q,w'=putRow (Value.int .i64) (Sort.ahead w q) blk off (Lib.compact zs++List.replicate (zs.length - (Lib.compact zs).length) 0).toArray:=Any.slices_Compact_int zO3 blk off cap zs w hH hsz hcap
end Go.Proofs.YtiimhhjkgeepjaaGreatDoor
namespace Go.Proofs.YtiimhhjkgeepjaaGreatDoor
open Go.RowKit Go.Sort
set_option maxHeartbeats 6400000
set_option maxRecDepth 20000
def leB (x y:Int):Bool:=decide (x <= y)
theorem zKd (g cap base:Nat) (zs:List Int) (w:World) (hz:zs.length <= 100000) (ho:w.ownsRow base 3 1 (.slice (some ⟨g,0,none⟩) zs.length cap) zs.length (zAL zs)) :
  Calls Tryz.prog 46 #[.slice (some ⟨g,0,none⟩) zs.length cap] w fun e w'=>e=.returned (.tuple #[])/\w.grownBy w' (some g)/\w'.ownsRow base 3 1 (.slice (some ⟨g,0,none⟩) zs.length cap) zs.length (zAL (zs.mergeSort leB)):=by
 have ho':w.ownsRow base 3 1 (.slice (some ⟨g,0,none⟩) zs.length cap) zs.length (zs.map (Value.int .i64)):=ho;obtain ⟨g',cap',hv,hbg,hlt,hn,hm,hl,hH⟩:=Lib.holds_of_ownsRow ho' (by simp)
 injection hv with h1 h2 h3
 injection h1 with h1
 injection h1 with h1
 subst h1 h3
 rcases ho.2 with ⟨e0,_⟩ | ⟨g2,cap2,cur,e0,hb,hg,hnc,hcm,hcs,ht⟩
 ·cases e0
 ·injection e0 with e1 _ e3
  injection e1 with e1
  injection e1 with e1
  subst e1 e3;refine (slices_Sort_int g 0 cap zs w hH hlt (by omega)).mono fun e w' ⟨he,n,os,hw⟩=>⟨he,?_,?_⟩
  ·rw [hw];exact grownBy_sortedI _
  ·rw [hw];exact ownsRow_sortedI (ts:=zs.mergeSort leB) (by simp) hbg hg hnc hcm hcs
theorem zG7 (g cap base:Nat) (zs:List Int) (w:World) (hz:zs.length <= 100000) (ho:w.ownsRow base 3 1 (.slice (some ⟨g,0,none⟩) zs.length cap) zs.length (zAL zs)) :
  Calls Tryz.prog 47 #[.slice (some ⟨g,0,none⟩) zs.length cap] w fun e w'=>e=.returned (.slice (some ⟨g,0,none⟩) (Lib.compact zs).length cap)/\w.grownBy w' (some g)/\w'.ownsRow base 3 1 (.slice (some ⟨g,0,none⟩) (Lib.compact zs).length cap) (Lib.compact zs).length (zAL (Lib.compact zs)):=by
 have ho':w.ownsRow base 3 1 (.slice (some ⟨g,0,none⟩) zs.length cap) zs.length (zs.map (Value.int .i64)):=ho;obtain ⟨g',cap',hv,hbg,hlt,hn,hm,hl,hH⟩:=Lib.holds_of_ownsRow ho' (by simp)
 injection hv with h1 h2 h3
 injection h1 with h1
 injection h1 with h1
 subst h1 h3;have hcl:=Lib.compact_length_le zs;refine (slices_Compact_int g 0 cap zs w hH (by omega) hn).mono fun e w' ⟨he,q,hw⟩=>⟨he,?_,?_⟩
 ·rw [hw]
  refine ⟨rfl,rfl,rfl,by simp [putRow,mapBlock,Sort.ahead],fun k _ hne=>?_⟩
  have:g≠k:=fun e=>hne (by rw [e])
  simp [putRow,mapBlock,Sort.ahead,Array.getElem?_modify,this]
 ·rw [hw]
  have h:=Lib.ownsRow_putRow (q:=q) (k:=(Lib.compact zs).length) (ys:=Lib.compact zs++List.replicate (zs.length - (Lib.compact zs).length) 0) ho' (by simp;omega) hcl
  rw [List.take_left] at h;exact h
abbrev Rise (l:List Int):Prop:=l.Pairwise (· < ·)
theorem zJ9 {d:Array Int} {n:Nat} (hs:∀ i j,i <= j->j < n->d[i]! <= d[j]!):∀ m,m <= n->Rise (Lib.compactUpTo d m)/\∀ x,x∈Lib.compactUpTo d m↔∃ j,j < m/\d[j]! = x:=by
 intro m
 induction m with
 | zero=>intro _;exact ⟨by simp [Lib.compactUpTo],fun x=>by simp [Lib.compactUpTo]⟩
 | succ m ih=>
  intro hm;obtain ⟨h1,h2⟩:=ih (by omega)
  rw [Lib.compactUpTo_succ]
  by_cases hk:Lib.keeps d m=true
  ·rw [if_pos hk]
   refine ⟨List.pairwise_append.2 ⟨h1,by simp,fun x hx y hy=>?_⟩,fun x=>?_⟩
   ·simp at hy
    subst hy;obtain ⟨j,hj,rfl⟩:=(h2 x).1 hx;have h3:=hs j m (by omega) (by omega)
    have h4:=hs j (m - 1) (by omega) (by omega)
    have h5:=hs (m - 1) m (by omega) (by omega)
    have h6:d[m]!≠d[m - 1]!:=by
     have:m≠0:=by omega
     simpa [Lib.keeps,this] using hk
    omega
   ·simp only [List.mem_append,List.mem_singleton,h2]
    constructor
    ·rintro (⟨j,hj,e⟩ | e)
     ·exact ⟨j,by omega,e⟩
     ·exact ⟨m,by omega,e.symm⟩
    ·rintro ⟨j,hj,e⟩
     by_cases hjm:j=m
     ·subst hjm;exact .inr e.symm
     ·exact .inl ⟨j,by omega,e⟩
  ·rw [if_neg hk,List.append_nil]
   refine ⟨h1,fun x=>?_⟩
   rw [h2]
   constructor
   ·rintro ⟨j,hj,e⟩;exact ⟨j,by omega,e⟩
   ·rintro ⟨j,hj,e⟩
    by_cases hjm:j=m
    ·subst hjm
     have h7:j≠0/\d[j]! = d[j - 1]!:=by simpa [Lib.keeps] using hk
     exact ⟨j - 1,by omega,by rw [<- h7.2];exact e⟩
    ·exact ⟨j,by omega,e⟩
def upL (l:List Int):List Int:=Lib.compact (l.mergeSort leB)
theorem zDq (l:List Int):Rise (upL l)/\∀ x,x∈upL l↔x∈l:=by
 have hp:(l.mergeSort leB).Pairwise (fun x y=>leB x y=true):=List.pairwise_mergeSort (le:=leB) (by intro a b c;simp only [leB,decide_eq_true_eq];omega) (by intro a b;simp only [leB,Bool.or_eq_true,decide_eq_true_eq];omega) l
 have hs:∀ i j,i <= j->j < (l.mergeSort leB).length->(l.mergeSort leB).toArray[i]! <= (l.mergeSort leB).toArray[j]!:=fun i j hij hj=>by
  rw [getElem!_pos _ i (by simpa using (by omega:i < (l.mergeSort leB).length)),getElem!_pos _ j (by simpa using hj)]
  rcases Nat.lt_or_eq_of_le hij with h | h
  ·have:=List.pairwise_iff_getElem.1 hp i j (by omega) hj h
   simpa [leB] using this
  ·subst h;exact Int.le_refl _
 obtain ⟨h1,h2⟩:=zJ9 hs (l.mergeSort leB).length (Nat.le_refl _);refine ⟨h1,fun x=>?_⟩
 show x∈Lib.compactUpTo _ _↔_
 rw [h2,<- (List.mergeSort_perm l leB).mem_iff,List.mem_iff_getElem]
 constructor
 ·rintro ⟨j,hj,e⟩
  exact ⟨j,hj,by rw [<- e,getElem!_pos _ j (by simpa using hj)];rfl⟩
 ·rintro ⟨j,hj,e⟩
  exact ⟨j,hj,by rw [getElem!_pos _ j (by simpa using hj)];exact e⟩
end Go.Proofs.YtiimhhjkgeepjaaGreatDoor
namespace Go.Proofs.YtiimhhjkgeepjaaGreatDoor
open Terms Tm
set_option maxHeartbeats 6400000
set_option maxRecDepth 20000
noncomputable def zA5 (vars:List Vr) (env:List Int) (rules:List Ru) (k:Nat):List Int:=(rules.take k).filterMap (zBA vars env)
theorem zNK {vars:List Vr} {env:List Int} {rules:List Ru} {k:Nat} (hk:k < rules.length) {x:Int} (h:zBA vars env (rules.getD k ru0)=some x):zA5 vars env rules (k+1)=zA5 vars env rules k++[x]:=by
 unfold zA5;rw [List.take_succ_eq_append_getElem hk,List.filterMap_append,show rules[k]=rules.getD k ru0 by simp [List.getD_eq_getElem?_getD,hk]]
 generalize rules.getD k ru0=r at h;simp [h]
theorem zND {vars:List Vr} {env:List Int} {rules:List Ru} {k:Nat} (hk:k < rules.length) (h:zBA vars env (rules.getD k ru0)=none):zA5 vars env rules (k+1)=zA5 vars env rules k:=by
 unfold zA5;rw [List.take_succ_eq_append_getElem hk,List.filterMap_append,show rules[k]=rules.getD k ru0 by simp [List.getD_eq_getElem?_getD,hk]]
 generalize rules.getD k ru0=r at h;simp [h]
theorem zEX (vars:List Vr) (env:List Int) (rules:List Ru) (k:Nat):(zA5 vars env rules k).length <= k:=by
 unfold zA5;exact Nat.le_trans (List.length_filterMap_le _ _) (by simp;omega)
noncomputable def zEH (m:Mo) (code:Int):List Int:=if zA5 m.vars (zA0 m.vars code) m.rules m.rules.length=[] then [code] else zA5 m.vars (zA0 m.vars code) m.rules m.rules.length
noncomputable def zAB (m:Mo) (code:Int):List Int:=upL (zEH m code)
noncomputable def zCl (m:Mo) (code:Int):List Int:=if zAr m code=0 then zAB m code else []
theorem zI7 {vars:List Vr} {env:List Int} {rules:List Ru} {k:Nat} (hk:k <= rules.length) (x:Int):x∈zA5 vars env rules k↔∃ j,j < k/\zBA vars env (rules.getD j ru0)=some x:=by
 unfold zA5;rw [List.mem_filterMap]
 constructor
 ·rintro ⟨r,hr,e⟩
  obtain ⟨j,hj,rfl⟩:=List.mem_iff_getElem.1 hr;rw [List.length_take] at hj;refine ⟨j,by omega,?_⟩
  rw [List.getElem_take] at e;rw [show rules.getD j ru0=rules[j]'(by omega) by simp [List.getD_eq_getElem?_getD,show j < rules.length by omega]]
  exact e
 ·rintro ⟨j,hj,e⟩
  refine ⟨rules.getD j ru0,?_,e⟩
  rw [List.mem_iff_getElem];exact ⟨j,by rw [List.length_take];omega,by rw [List.getElem_take];simp [List.getD_eq_getElem?_getD,show j < rules.length by omega]⟩
theorem zGI {vars:List Vr} {env:List Int} {r:Ru} {x:Int} (hv:zBZ vars) (h:zBA vars env r=some x):0 <= x/\x < zAC vars vars.length:=by
 unfold zBA at h
 split at h
 ·rename_i hc
  injection h with h
  subst h;exact zD4 hv (Nat.le_refl _) hc.2.2
 ·cases h
theorem zMb (l:List Int):(upL l).length <= l.length:=Nat.le_trans (Lib.compact_length_le _) (by simp)
theorem zLe (m:Mo) (code:Int):(zCl m code).length <= 1+m.rules.length:=by
 unfold zCl zAB
 split
 ·refine Nat.le_trans (zMb _) ?_
  unfold zEH
  split
  ·simp
  ·exact Nat.le_trans (zEX _ _ _ _) (by omega)
 ·simp
end Go.Proofs.YtiimhhjkgeepjaaGreatDoor
namespace Go.Proofs.YtiimhhjkgeepjaaGreatDoor
open Go.ChangeShapes Go.WideShapes Go.ChangeAt Go.RowKit Go.Deep
open Terms Tm
set_option maxHeartbeats 6400000
set_option maxRecDepth 20000
def zIi (base:Nat) (w:World) (v:Value) (l:List Int):Prop:=w.ownsRow base 3 1 v l.length (zAL l)/\v≠.slice none 0 0
theorem zIi.form {base:Nat} {w:World} {v:Value} {l:List Int} (h:zIi base w v l):∃ g cap,v=.slice (some ⟨g,0,none⟩) l.length cap/\base <= g/\g < w.heap.size:=by
 rcases h.1.2 with ⟨e0,_⟩ | ⟨g,cap,cur,rfl,hb,hg,_⟩
 ·exact absurd e0 h.2
 ·exact ⟨g,cap,rfl,hb,(Array.getElem?_eq_some_iff.1 hg).1⟩
theorem zMw (va vr:Value) (m:Mo) (code:Int) (w:World) (hB:0 < w.heap.size) (hT:zAJ w) (hV:zAa w va vr m) (hm:mcode m=0) :
    Calls Tryz.prog 25 #[.agg #[va,vr],.int .i64 code] w fun e w'=>∃ v,e=.returned (.tuple #[v,.int .i64 (zAr m code)])/\Below w.heap.size w w'/\zAD w' v (zCl m code)/\w'.ownsRow w.heap.size 3 1 v (zCl m code).length (zAL (zCl m code)):=by
  have hA:∀ o,Below w.heap.size w (w.alloc o):=fun o=>(Below.refl _ _).alloc (Nat.le_refl _) o
  have hVb:∀ w',Below w.heap.size w w'->∀ ao cap,va=.slice ao m.vars.length cap->zAa w' (.slice ao m.vars.length cap) (.slice none 0 0) ⟨m.vars,[]⟩:=fun w' hb ao cap e=>⟨e ▸ hV.1.below hb,⟨none,0,rfl,⟨by simp,fun _=>⟨rfl,rfl⟩⟩,fun h=>by simp at h⟩⟩
  obtain ⟨ao,cap,rfl⟩:=hV.1.shape;obtain ⟨ro,rc,hro⟩:=hV.2.shape;have hba:=fun w=>zHb ao ro m.vars.length cap m.rules.length rc w
  by_cases hw:zAr m code=0
  · have hvl:∀ w',Below w.heap.size w w'->Calls Tryz.prog 43 #[.agg #[.slice ao m.vars.length cap,.slice none 0 0],.int .i64 code] w' fun e w2=>∃ B,e=.returned (.tuple #[.slice (some ⟨B,0,none⟩) (zA0 m.vars code).length (zA0 m.vars code).length,.int .i64 0])/\w'.heap.size <= B/\Below w'.heap.size w' w2/\w2.rowIs B 3 (zA0 m.vars code).length (fun j=>.int .i64 ((zA0 m.vars code).getD j 0)):=fun w' hb=>
      zHD _ _ ⟨m.vars,[]⟩ code w' (Nat.lt_of_lt_of_le hB hb.size) (hT.below hb hB) (hVb w' hb ao cap rfl) (by rw [zEP _ hm];exact hw)
    obtain ⟨hr12,hrs⟩:=zHM hm
    have HDo:Hid (∀ w' (_:Below w.heap.size w w') B k gv sv,k < m.rules.length->w'.rowIs B 3 (zA0 m.vars code).length (fun j=>.int .i64 ((zA0 m.vars code).getD j 0))->zAR w' gv (m.rules.getD k ru0).guard->zCk w' sv (m.rules.getD k ru0).sets->Calls Tryz.prog 45 #[.agg #[.slice ao m.vars.length cap,vr],.slice (some ⟨B,0,none⟩) (zA0 m.vars code).length (zA0 m.vars code).length,.agg #[gv,sv]] w' fun e w2=>e=.returned (.tuple #[.int .i64 (zNW (zBA m.vars (zA0 m.vars code) (m.rules.getD k ru0))),.int .i64 (zM1 (zBA m.vars (zA0 m.vars code) (m.rules.getD k ru0)))])/\Below w'.heap.size w' w2):=fun w' hb B k gv sv hk hrow hg hs=>
      zMW _ vr gv sv B m (zA0 m.vars code) (m.rules.getD k ru0) w' (Nat.lt_of_lt_of_le hB hb.size) (hT.below hb hB) (hV.below hb) hm (hrs k hk) (zEd _ _) hrow hg hs
    have HR:Hid (zC4 w vr m.rules):=hV.2;have HNL:Hid (zCl m code=upL (if zA5 m.vars (zA0 m.vars code) m.rules m.rules.length=[] then [code] else zA5 m.vars (zA0 m.vars code) m.rules m.rules.length)):=by show _=_;unfold zCl zAB zEH;rw [if_pos hw]
    rw [hw];generalize zCl m code=res at *;generalize zA0 m.vars code=env at *;subst hro;obtain ⟨rn,hrn⟩:∃ rn,rn=m.rules.length:=⟨_,rfl⟩
    have HRN:Hid (rn=m.rules.length):=hrn;rw [<- hrn] at hba HDo HR HNL hr12 ⊢;obtain ⟨i0,hi,hz0,hz1,hz2⟩:=info_parts zA8;clear hV hT hVb hw hm hrs hrn;generalize m.vars.length=n at *
    go_enter Tryz.func25,Tryz.ntmps25
    go_wp2_with (first | (go_at_call 44;refine (hba _).mono ?_;rintro e w1 ⟨rfl,hb1⟩;have hbw1:=(hA _).trans (hb1.mono (hA _).size);have k10:w1.cell? ⟨w.heap.size,0,none⟩=some (.slice ao n cap):=(hb1.cell (p:=⟨w.heap.size,0,none⟩) (by simp)).trans (by simp [go_sem]);have k11:w1.cell? ⟨w.heap.size,1,none⟩=some (.slice ro rn rc):=(hb1.cell (p:=⟨w.heap.size,1,none⟩) (by simp)).trans (by simp [go_sem]);have hs1:w.heap.size < w1.heap.size:=(by have:=hb1.size;simp at this;omega)) | (go_at_call 43;refine (hvl _ hbw1).mono ?_;rintro e w2 ⟨B,rfl,hBl,hb2,hr2⟩;have k20:=(hb2.cell (p:=⟨w.heap.size,0,none⟩) hs1).trans k10;have k21:=(hb2.cell (p:=⟨w.heap.size,1,none⟩) hs1).trans k11;have hs2:=Nat.lt_of_lt_of_le hs1 hb2.size;have kA1:∀ o,(w2.alloc o).cell? ⟨w.heap.size,1,none⟩=some (.slice ro rn rc):=fun o=>(((Below.refl w2.heap.size w2).alloc (Nat.le_refl _) o).cell (p:=⟨w.heap.size,1,none⟩) hs2).trans k21))
    have hbw2:=hbw1.trans (hb2.mono hbw1.size);have hA2:∀ o,Below w2.heap.size w2 (w2.alloc o):=fun o=>(Below.refl _ _).alloc (Nat.le_refl _) o
    have HRow:Hid (w2.rowIs B 3 env.length (fun j=>.int .i64 (env.getD j 0))):=hr2
    have HB2:Hid (Below w.heap.size w w2):=hbw2;have HK2:Hid (∀ w',Below w2.heap.size w2 w'->w'.cell? ⟨w.heap.size,0,none⟩=some (.slice ao n cap)/\w'.cell? ⟨w.heap.size,1,none⟩=some (.slice ro rn rc)):=fun w' hb=>⟨(hb.cell (p:=⟨w.heap.size,0,none⟩) hs2).trans k20,(hb.cell (p:=⟨w.heap.size,1,none⟩) hs2).trans k21⟩
    have HO0:Hid (zIi w2.heap.size (w2.alloc (.cells #[] 3)) (.slice (some ⟨w2.heap.size,0,none⟩) 0 0) (zA5 m.vars env m.rules 0)):=⟨World.ownsRow_lit w2 #[] 0 (Nat.le_refl _) (by decide) rfl,by simp⟩
    clear hvl hba hb1 hbw1 k10 k11 hs1 hb2 hr2 k20 k21 kA1 hbw2
    go_loopw [8,27] (fun nx i wr=>∃ k:Nat,k <= rn/\i=.int .i64 k/\Hid (zIi w2.heap.size wr nx (zA5 m.vars env m.rules k))/\Hid (Below w2.heap.size w2 wr)) (fun _ i _=>rn - (intOf i).toNat)
    case atStart=>exact ⟨0,Nat.zero_le _,rfl,HO0.out,hA2 _⟩
    case round=>
      obtain ⟨k,hk,rfl,HOwn,HBel⟩:=hrel;have hbel:=HBel.out;have hbw:=HB2.out.trans (hbel.mono HB2.out.size);obtain ⟨kr0,kr1⟩:=HK2.out wr hbel;obtain ⟨g,gc,rfl,hg,hgl⟩:=HOwn.out.form;have hown:=HOwn.out.1
      by_cases hlt:k < rn
      · obtain ⟨b,off,rfl,hblt,hat⟩:=HR.out.at (i:=k) (by rw [<- HRN.out];exact hlt)
        obtain ⟨⟨u,c0,hou⟩,u',c1,hsu⟩:=hat.below hbw hblt;obtain ⟨uo,uc,rfl⟩:=hou.shape;obtain ⟨so,sc,rfl⟩:=hsu.shape;have hAr:∀ o,Below wr.heap.size wr (wr.alloc o):=fun o=>(Below.refl _ _).alloc (Nat.le_refl _) o
        have hkA0:∀ o,(wr.alloc o).cell? ⟨w.heap.size,0,none⟩=some (.slice ao n cap):=fun o=>(HK2.out _ (hbel.trans ((hAr o).mono hbel.size))).1
        have hkA1:∀ o,(wr.alloc o).cell? ⟨w.heap.size,1,none⟩=some (.slice (some ⟨b,off,none⟩) rn rc):=fun o=>(HK2.out _ (hbel.trans ((hAr o).mono hbel.size))).2
        have hdo:=fun o=>HDo.out (wr.alloc o) (hbw.trans ((hAr o).mono hbw.size)) B k _ _ hlt (zAp (zAp HRow.out hbel) (hAr o)) (hou.below (hAr o)) (hsu.below (hAr o))
        have HRl:Hid ((zA5 m.vars env m.rules k).length <= k):=zEX _ _ _ _;have hk':k < m.rules.length:=by rw [<- HRN.out];exact hlt
        generalize (m.rules.getD k ru0).guard.length=gl at *;generalize (m.rules.getD k ru0).sets.length=sl at *;obtain ⟨L,hL⟩:∃ L,L=(zA5 m.vars env m.rules k).length:=⟨_,rfl⟩
        have HL:Hid (L=(zA5 m.vars env m.rules k).length):=hL;rw [<- hL] at hown HRl ⊢
        cases hres:zBA m.vars env (m.rules.getD k ru0) with
        | none=>
          rw [hres] at hdo;simp only [zNW,zM1] at hdo;have HN:Hid (zA5 m.vars env m.rules (k+1)=zA5 m.vars env m.rules k):=zND hk' hres
          have HW4:Hid (∀ o w4,Below (wr.alloc o).heap.size (wr.alloc o) w4->Below w2.heap.size w2 w4/\zIi w2.heap.size w4 (.slice (some ⟨g,0,none⟩) L gc) (zA5 m.vars env m.rules k)):=fun o w4 hb=>⟨(hbel.alloc hbel.size o).trans (hb.mono (hbel.alloc hbel.size o).size),by
            refine ⟨?_,by simp⟩
            rw [<- HL.out]
            exact zAW (zAW hown (hAr o) (Nat.le_refl _)) hb (Nat.le_refl _)⟩
          clear hat hou hsu HDo HR hres hk' hown hL
          go_wp2_with (go_at_call 45;refine (hdo _).mono ?_;rintro e w4 ⟨rfl,hb4⟩;obtain ⟨hb24,ho4⟩:=HW4.out _ w4 hb4)
          exact ⟨⟨k+1,hlt,by first | rfl | simp,by rw [HN.out];exact ho4,hb24⟩,by simp [intOf];omega⟩
        | some x=>
          rw [hres] at hdo;simp only [zNW,zM1] at hdo;have HN:Hid (zA5 m.vars env m.rules (k+1)=zA5 m.vars env m.rules k++[x]):=zNK hk' hres;have h63:L+1 <= maxLen:=by have:=HRl.out;unfold maxLen;omega
          have hkb:(L+1)*8 <= 140737488355328:=by have:=HRl.out;omega
          clear hat hou hsu HDo HR hres hk' hL
          go_wp2_with (first | (go_at_call 45;refine (hdo _).mono ?_;rintro e w4 ⟨rfl,hb4⟩;have hb24:=(hbel.alloc hbel.size _).trans (hb4.mono (hbel.alloc hbel.size _).size);have hown4:=fun o=>(zAW (zAW hown (hAr _) (Nat.le_refl _)) hb4 (Nat.le_refl _)).alloc o;have hbase:∀ o,w2.heap.size <= (w4.alloc o).heap.size:=(fun o=>by have:=hb24.size;simp;omega)) | (at_builtin;refine wpList_append_lies _ rfl (.tmp 40) (.tmp 42) 37 rfl w2.heap.size 3 i0 (.int .i64 0) 1 8 Tryz.underlying37 hi hz0 hz1 hz2 rfl (by decide) (.slice (some ⟨g,0,none⟩) L gc) L _ rfl (hown4 _) ⟨w4.heap.size,0,none⟩ 1 1 [.int .i64 x] rfl rfl (cell_one_new _ _ _) (by intro u hu;simp at hu;subst hu;rfl) (by decide) h63 hkb (hbase _) _ rfl ?_;intro g5 cp5 w5 hown5 hgrow5 hat5 hgl5))
          have hb25:Below w2.heap.size w2 w5:=(hb24.alloc hb24.size _).grown hgrow5 (hbase _) (fun z hz=>by have hgz:g=z:=(by simpa [Value.ownBlock] using hz);rw [<- hgz];exact hg)
          have ho5:zIi w2.heap.size w5 (.slice (some ⟨g5,0,none⟩) (L+1) cp5) (zA5 m.vars env m.rules (k+1)):=by
            refine ⟨?_,by simp⟩
            rw [HN.out,List.length_append,<- HL.out];rw [show zAL (zA5 m.vars env m.rules k++[x])=zAL (zA5 m.vars env m.rules k)++[.int .i64 x] by simp [zAL]]
            exact hown5
          exact ⟨⟨k+1,hlt,by first | rfl | simp,ho5,hb25⟩,by simp [intOf];omega⟩
      · have hkn:k=rn:=by omega
        subst hkn;have HRl:Hid ((zA5 m.vars env m.rules k).length <= k):=zEX _ _ _ _;generalize zA5 m.vars env m.rules k=raw at *;clear HDo HR HOwn kr0 kr1 hlt hk
        by_cases hraw:raw=[]
        · have HRes:Hid (res=upL [code]):=by show _=_;rw [HNL.out,if_pos hraw]
          subst hraw;have hown0:wr.ownsRow w2.heap.size 3 1 (.slice (some ⟨g,0,none⟩) 0 gc) 0 []:=hown;have hown4:=fun o=>hown0.alloc o
          have hbase:∀ o,w2.heap.size <= (wr.alloc o).heap.size:=fun o=>by have:=hbel.size;simp;omega
          have hAr:∀ o,Below wr.heap.size wr (wr.alloc o):=fun o=>(Below.refl _ _).alloc (Nat.le_refl _) o
          clear hown HNL HRl;simp only [List.length_nil];have hso:=fun (w5:World) g5 cp5 (ho:w5.ownsRow w2.heap.size 3 1 (.slice (some ⟨g5,0,none⟩) 1 cp5) 1 (zAL [code]))=>zKd g5 cp5 w2.heap.size [code] w5 (by simp) ho
          have hms:[code].mergeSort leB=[code]:=List.mergeSort_singleton _;have HUp:Hid (Lib.compact [code]=upL [code]):=by show _=Lib.compact _;rw [hms]
          rw [hms] at hso;simp only [List.length_cons,List.length_nil,Nat.zero_add] at hso;have hco:=fun (w5:World) g5 cp5 (ho:w5.ownsRow w2.heap.size 3 1 (.slice (some ⟨g5,0,none⟩) 1 cp5) 1 (zAL [code]))=>zG7 g5 cp5 w2.heap.size [code] w5 (by simp) ho
          simp only [List.length_cons,List.length_nil,Nat.zero_add] at hco;rw [HUp.out] at hco
          go_wp2_with (first | (at_builtin;refine wpList_append_lies _ rfl (.tmp 48) (.tmp 50) 37 rfl w2.heap.size 3 i0 (.int .i64 0) 1 8 Tryz.underlying37 hi hz0 hz1 hz2 rfl (by decide) (.slice (some ⟨g,0,none⟩) 0 gc) 0 _ rfl (hown4 _) ⟨wr.heap.size,0,none⟩ 1 1 [.int .i64 code] rfl rfl (cell_one_new _ _ _) (by intro u hu;simp at hu;subst hu;rfl) (by decide) (by decide) (by decide) (hbase _) _ rfl ?_;intro g5 cp5 w5 hown5 hgrow5 hat5 hgl5;have hg5:w2.heap.size <= g5:=(by rcases hat5 with h5 | h5;(have hgz:g=g5:=(by simpa [Value.ownBlock] using h5));(rw [<- hgz];exact hg);(rw [h5];exact hbase _))) | (go_at_call 46;refine (hso _ _ _ hown5).mono ?_;rintro e w6 ⟨rfl,hgr6,ho6⟩) | (go_at_call 47;refine (hco _ _ _ ho6).mono ?_;rintro e w7 ⟨rfl,hgr7,ho7⟩))
          have hb5:Below w2.heap.size w2 w5:=(hbel.alloc hbel.size _).grown hgrow5 (hbase _) (fun z hz=>by have hgz:g=z:=(by simpa [Value.ownBlock] using hz);rw [<- hgz];exact hg)
          have hb7:Below w2.heap.size w2 w7:=(hb5.grown hgr6 hb5.size (fun z hz=>by rw [<- Option.some.inj hz];exact hg5)).grown hgr7 (Nat.le_trans hb5.size hgr6.size) (fun z hz=>by rw [<- Option.some.inj hz];exact hg5)
          have hI7:zAD w7 (.slice (some ⟨g5,0,none⟩) (upL [code]).length cp5) (upL [code]):=zBH ho7
          go_ret2
          exact ⟨_,rfl,HB2.out.trans (hb7.mono HB2.out.size),by rw [HRes.out];exact ⟨hI7,zAw ho7 HB2.out.size⟩⟩
        · have HRes:Hid (res=upL raw):=by show _=_;rw [HNL.out,if_neg hraw]
          have hpos:0 < raw.length:=List.length_pos_iff.2 hraw;have hso:=zKd g gc w2.heap.size raw wr (by have:=HRl.out;omega) hown
          obtain ⟨L,hL⟩:∃ L,L=raw.length:=⟨_,rfl⟩
          have HL:Hid (L=raw.length):=hL;have HLs:Hid ((raw.mergeSort leB).length=L):=by show _=_;rw [List.length_mergeSort,hL]
          have hL12:L <= 12:=by have:=HRl.out;omega
          rw [<- hL] at hso hpos ⊢;clear hown HNL HRl hraw hL
          have HCo:Hid (∀ w5:World,w5.ownsRow w2.heap.size 3 1 (.slice (some ⟨g,0,none⟩) L gc) L (zAL (raw.mergeSort leB))->Calls Tryz.prog 47 #[.slice (some ⟨g,0,none⟩) L gc] w5 fun e w'=>e=.returned (.slice (some ⟨g,0,none⟩) (upL raw).length gc)/\w5.grownBy w' (some g)/\w'.ownsRow w2.heap.size 3 1 (.slice (some ⟨g,0,none⟩) (upL raw).length gc) (upL raw).length (zAL (upL raw))):=fun w5 ho=>by
            rw [<- HLs.out] at ho ⊢;exact zG7 g gc w2.heap.size (raw.mergeSort leB) w5 (by rw [HLs.out];omega) ho
          go_wp2_with (first | (go_at_call 46;refine hso.mono ?_;rintro e w6 ⟨rfl,hgr6,ho6⟩;have hco:=HCo.out w6 ho6) | (go_at_call 47;refine hco.mono ?_;rintro e w7 ⟨rfl,hgr7,ho7⟩))
          have hb7:Below w2.heap.size w2 w7:=(hbel.grown hgr6 hbel.size (fun z hz=>by rw [<- Option.some.inj hz];exact hg)).grown hgr7 (Nat.le_trans hbel.size hgr6.size) (fun z hz=>by rw [<- Option.some.inj hz];exact hg)
          have hI7:zAD w7 (.slice (some ⟨g,0,none⟩) (upL raw).length gc) (upL raw):=zBH ho7
          go_ret2
          exact ⟨_,rfl,HB2.out.trans (hb7.mono HB2.out.size),by rw [HRes.out];exact ⟨hI7,zAw ho7 HB2.out.size⟩⟩
  · have hvl:=fun w' (hb:Below w.heap.size w w')=>zHG _ _ ⟨m.vars,[]⟩ code w' (Nat.lt_of_lt_of_le hB hb.size) (hT.below hb hB) (hVb w' hb ao cap rfl)
    rw [zEP _ hm] at hvl;have hnl:zCl m code=[]:=by unfold zCl;rw [if_neg hw]
    rw [hnl];subst hro;generalize zAr m code=c at *;generalize zGs ⟨m.vars,[]⟩ code=vs at *;generalize m.vars.length=n at *;generalize m.rules.length=rn at *;clear hV hT hVb hnl hm
    go_enter Tryz.func25,Tryz.ntmps25
    go_wp2_with (first | (go_at_call 44;refine (hba _).mono ?_;rintro e w2 ⟨rfl,hb2⟩;have hbw2:=(hA _).trans (hb2.mono (hA _).size)) | (go_at_call 43;refine (hvl _ hbw2).mono ?_;rintro e w3 ⟨v,rfl,hb3,_⟩))
    go_ret2
    exact ⟨_,rfl,hbw2.trans (hb3.mono hbw2.size),⟨none,0,rfl,fun h=>absurd rfl h⟩,World.ownsRow_nil _ _ _ _⟩
theorem zHk (va vr:Value) (m:Mo) (code:Int) (w:World) (hB:0 < w.heap.size) (hT:zAJ w) (hV:zAa w va vr m) (hm:mcode m=0) :
  Calls Tryz.prog 11 #[.agg #[va,vr],.int .i64 code] w fun e w'=>∃ v,e=.returned (.tuple #[v,.int .i64 (zAr m code)])/\Below w.heap.size w w'/\w'.ownsRow w.heap.size 3 1 v (zCl m code).length (zAL (zCl m code)):=by
 have hA:∀ o,Below w.heap.size w (w.alloc o):=fun o=>(Below.refl _ _).alloc (Nat.le_refl _) o
 have hch:=fun o=>zBU va vr m (w.alloc o) (Nat.lt_of_lt_of_le hB (hA o).size) (hT.below (hA o) hB) (hV.below (hA o))
 have hne:=fun w' (hb:Below w.heap.size w w')=>zMw va vr m code w' (Nat.lt_of_lt_of_le hB hb.size) (hT.below hb hB) (hV.below hb) hm
 rw [hm] at hch;obtain ⟨ao,cap,rfl⟩:=hV.1.shape;obtain ⟨ro,rc,rfl⟩:=hV.2.shape;generalize zAr m code=c at *;generalize zCl m code=res at *;generalize m.vars.length=n at *;generalize m.rules.length=rn at *;clear hV hT hm
 go_enter Tryz.func11,Tryz.ntmps11
 go_wp2_with (first | (go_at_call 16;refine (hch _).mono ?_;rintro e w1 ⟨rfl,hb1⟩;have hbw1:=(hA _).trans (hb1.mono (hA _).size);have k10:w1.cell? ⟨w.heap.size,0,none⟩=some (.slice ao n cap):=(hb1.cell (p:=⟨w.heap.size,0,none⟩) (by simp)).trans (by simp [go_sem]);have k11:w1.cell? ⟨w.heap.size,1,none⟩=some (.slice ro rn rc):=(hb1.cell (p:=⟨w.heap.size,1,none⟩) (by simp)).trans (by simp [go_sem])) | (go_at_call 25;refine (hne _ hbw1).mono ?_;rintro e w2 ⟨v,rfl,hb2,hI2,ho2⟩))
 go_ret2
 exact ⟨_,rfl,hbw1.trans (hb2.mono hbw1.size),zAw ho2 hbw1.size⟩
end Go.Proofs.YtiimhhjkgeepjaaGreatDoor
namespace Go.Proofs.YtiimhhjkgeepjaaGreatDoor
open Go.ChangeShapes Go.WideShapes Go.ChangeAt Go.RowKit Go.Deep Go.Maps
open Terms Tm
set_option maxHeartbeats 6400000
set_option maxRecDepth 20000
variable {Pz : Nat -> Prop}
noncomputable def zFl (l:List (Int × Int)) (lt:List Bool) (c:Nat):Int:=zFo l (tru l lt (c:Int))
noncomputable def sgL (l:List (Int × Int)) (lt:List Bool):List Int:=(List.range (2 ^ (zAA l).length)).map fun (c:Nat)=>zFl l lt c
theorem zL3 (l:List (Int × Int)) (lt:List Bool):(sgL l lt).length=2 ^ (zAA l).length:=by simp [sgL]
theorem zSh {l:List (Int × Int)} {lt:List Bool} {c:Nat} (h:c < 2 ^ (zAA l).length):(sgL l lt).getD c 0=zFl l lt c:=by simp [sgL,List.getD_eq_getElem?_getD,h]
theorem zAQ.sk {bs bl:Nat} {w w':World} {v:Value} {x:List Bool} (h:zAQ w v x) (hs:Sk bs bl w w') (hm:zBz w bs bl):zAQ w' v x:=by
 obtain ⟨ao,cap,rfl,h⟩:=h;refine ⟨ao,cap,rfl,fun hne=>?_⟩
 obtain ⟨b,off,rfl,hlt,hat⟩:=h hne;exact ⟨b,off,rfl,Nat.lt_of_lt_of_le hlt hs.size,fun i hi=>hs.cell hm (hat i hi)⟩
theorem zAD.sk {bs bl:Nat} {w w':World} {v:Value} {x:List Int} (h:zAD w v x) (hs:Sk bs bl w w') (hm:zBz w bs bl):zAD w' v x:=by
 obtain ⟨ao,cap,rfl,h⟩:=h;refine ⟨ao,cap,rfl,fun hne=>?_⟩
 obtain ⟨b,off,rfl,hlt,hat⟩:=h hne;exact ⟨b,off,rfl,Nat.lt_of_lt_of_le hlt hs.size,fun i hi=>hs.cell hm (hat i hi)⟩
theorem SurvAt.sk {bs bl:Nat} {w w':World} {B:Nat} {va vr pv fv av:Value} (h:SurvAt w B va vr pv fv av bs bl) (hs:Sk bs bl w w') (hm:zBz w bs bl):SurvAt w' B va vr pv fv av bs bl:=
 ⟨Nat.lt_of_lt_of_le h.lt hs.size,hs.cell hm h.c0,hs.cell hm h.c1,hs.cell hm h.c2,hs.cell hm h.c3,hs.cell hm h.c4,hs.cell hm h.c5,hs.cell hm h.c6⟩
theorem SpO.sk {bs bl:Nat} {w w':World} {base:Nat} {v:Value} {x:List (Int × Int)} (h:SpO w base v x) (hs:Sk bs bl w w') (hm:zBz w bs bl):SpO w' base v x:=by
 refine ⟨h.1,?_⟩
 rcases h.2 with h0 | ⟨g,cap,cur,h1,h2,h3,h4⟩
 ·exact .inl h0
 ·refine .inr ⟨g,cap,cur,h1,h2,?_,h4⟩
  obtain ⟨⟨es,c,e1⟩,⟨es',c',e2⟩⟩:=hm;rw [hs.block g (Array.getElem?_eq_some_iff.1 h3).1 (fun e=>by subst e;rw [e1] at h3;simp at h3) (fun e=>by subst e;rw [e2] at h3;simp at h3)]
  exact h3
theorem zAe.sk {bs bl:Nat} {w w':World} {v:Value} {t:TypeId} (h:zAe w v t) (hs:Sk bs bl w w') (hm:zBz w bs bl):zAe w' v t:=by
 intro a n c e;obtain ⟨cs,fr,h1⟩:=h a n c e;obtain ⟨⟨es,cl,e1⟩,⟨es',cl',e2⟩⟩:=hm;refine ⟨cs,fr,?_⟩
 rw [hs.block a.block (Array.getElem?_eq_some_iff.1 h1).1 (fun e=>by rw [e,e1] at h1;simp at h1) (fun e=>by rw [e,e2] at h1;simp at h1)]
 exact h1
theorem zAe.below {w w':World} {v:Value} {t:TypeId} (h:zAe w v t) (hb:Below w.heap.size w w'):zAe w' v t:=by
 intro a n c e;obtain ⟨cs,fr,h1⟩:=h a n c e;exact ⟨cs,fr,(hb.block _ (Array.getElem?_eq_some_iff.1 h1).1).trans h1⟩
theorem zAe.setCell {w:World} {v:Value} {t:TypeId} (h:zAe w v t) (b i:Nat) (u:Value):zAe (w.setCell ⟨b,i,none⟩ u) v t:=by
 intro a n c e;obtain ⟨cs,fr,h1⟩:=h a n c e
 by_cases hp:a.block=b
 ·refine ⟨cs.setIfInBounds i u,fr,?_⟩
  simp [World.setCell,Array.getElem?_modify,<- hp,h1]
 ·exact ⟨cs,fr,(RowKit.Below.heap_setCell _ _ _ _ hp).trans h1⟩
theorem zAe.grown {w w':World} {v:Value} {t t':TypeId} {own:Option Nat} (h:zAe w v t) (hg:w.grownBy w' own) (ht:t≠t') (ho:∀ g,own=some g->∃ cs fr,w.heap[g]? = some (.cells cs t' fr)):zAe w' v t:=by
 intro a n c e;obtain ⟨cs,fr,h1⟩:=h a n c e;refine ⟨cs,fr,(hg.block _ (Array.getElem?_eq_some_iff.1 h1).1 (fun e2=>?_)).trans h1⟩
 obtain ⟨cs',fr',h2⟩:=ho _ e2.symm;rw [h1] at h2
 injection h2 with h2
 injection h2 with _ h3 _
 exact ht h3
theorem zAe.owns {w:World} {base n:Nat} {v:Value} {t:TypeId} {s:Nat} {xs:List Value} (h:w.ownsRow base t s v n xs):zAe w v t:=by
 intro a k c e
 rcases h.2 with ⟨h0,_⟩ | ⟨g,cap,cur,h1,_,h3,_⟩
 ·rw [h0] at e;simp at e
 ·rw [h1] at e
  injection e with e _ _
  injection e with e
  subst e;exact ⟨cur,_,h3⟩
theorem zAQ.grown {w w':World} {v:Value} {x:List Bool} {own:Option Nat} (h:zAQ w v x) (hty:zAe w v 4) (hg:w.grownBy w' own) (ho:∀ g,own=some g->∃ cs fr,w.heap[g]? = some (.cells cs 133 fr)):zAQ w' v x:=by
 obtain ⟨ao,cap,rfl,h⟩:=h;refine ⟨ao,cap,rfl,fun hne=>?_⟩
 obtain ⟨b,off,rfl,hlt,hat⟩:=h hne;refine ⟨b,off,rfl,Nat.lt_of_lt_of_le hlt hg.size,fun i hi=>?_⟩
 obtain ⟨cs,fr,h1⟩:=hty _ _ _ rfl
 rw [World.cell?_of_block (hg.block b hlt (fun e2=>by
  obtain ⟨cs',fr',h2⟩:=ho _ e2.symm;rw [h1] at h2
  injection h2 with h2
  injection h2 with _ h3 _
  exact absurd h3 (by decide)))]
 exact hat i hi
theorem zAD.grown {w w':World} {v:Value} {x:List Int} {own:Option Nat} (h:zAD w v x) (hty:zAe w v 3) (hg:w.grownBy w' own) (ho:∀ g,own=some g->∃ cs fr,w.heap[g]? = some (.cells cs 133 fr)):zAD w' v x:=by
 obtain ⟨ao,cap,rfl,h⟩:=h;refine ⟨ao,cap,rfl,fun hne=>?_⟩
 obtain ⟨b,off,rfl,hlt,hat⟩:=h hne;refine ⟨b,off,rfl,Nat.lt_of_lt_of_le hlt hg.size,fun i hi=>?_⟩
 obtain ⟨cs,fr,h1⟩:=hty _ _ _ rfl
 rw [World.cell?_of_block (hg.block b hlt (fun e2=>by
  obtain ⟨cs',fr',h2⟩:=ho _ e2.symm;rw [h1] at h2
  injection h2 with h2
  injection h2 with _ h3 _
  exact absurd h3 (by decide)))]
 exact hat i hi
def zAy (Pz:Nat->Prop) (w:World) (m:Mo) (ps:List (List (Int × Int))) (l:List (Int × Int)) (code:Int) (v:Value):Prop:=
 ∃ lo lc no nc so sc,v=.agg #[.slice lo ps.length lc,.slice no (zAB m code).length nc,.slice so (2 ^ (zAA l).length) sc]/\zAQ w (.slice lo ps.length lc) (zAG m ps code)/\zAD w (.slice no (zAB m code).length nc) (zAB m code)/\zAD w (.slice so (2 ^ (zAA l).length) sc) (sgL l (zAG m ps code))/\zAe w (.slice lo ps.length lc) 4/\zAe w (.slice no (zAB m code).length nc) 3/\zAe w (.slice so (2 ^ (zAA l).length) sc) 3/\(∀ a,no=some a->Pz a.block)/\(∀ a,so=some a->Pz a.block)
theorem zAy.sk {bs bl:Nat} {w w':World} {m:Mo} {ps:List (List (Int × Int))} {l:List (Int × Int)} {code:Int} {v:Value} (h:zAy Pz w m ps l code v) (hs:Sk bs bl w w') (hm:zBz w bs bl):zAy Pz w' m ps l code v:=by
 obtain ⟨lo,lc,no,nc,so,sc,h1,h2,h3,h4,h5,h6,h7,h8⟩:=h;exact ⟨lo,lc,no,nc,so,sc,h1,h2.sk hs hm,h3.sk hs hm,h4.sk hs hm,h5.sk hs hm,h6.sk hs hm,h7.sk hs hm,h8⟩
theorem zAy.below {w w':World} {m:Mo} {ps:List (List (Int × Int))} {l:List (Int × Int)} {code:Int} {v:Value} (h:zAy Pz w m ps l code v) (hb:Below w.heap.size w w'):zAy Pz w' m ps l code v:=by
 obtain ⟨lo,lc,no,nc,so,sc,h1,h2,h3,h4,h5,h6,h7,h8⟩:=h;exact ⟨lo,lc,no,nc,so,sc,h1,h2.below hb,h3.below hb,h4.below hb,h5.below hb,h6.below hb,h7.below hb,h8⟩
theorem zAy.grown {w w':World} {m:Mo} {ps:List (List (Int × Int))} {l:List (Int × Int)} {code:Int} {v:Value} {own:Option Nat} (h:zAy Pz w m ps l code v) (hg:w.grownBy w' own) (ho:∀ g,own=some g->∃ cs fr,w.heap[g]? = some (.cells cs 133 fr)):zAy Pz w' m ps l code v:=by
 obtain ⟨lo,lc,no,nc,so,sc,h1,h2,h3,h4,h5,h6,h7,h8⟩:=h;exact ⟨lo,lc,no,nc,so,sc,h1,h2.grown h5 hg ho,h3.grown h6 hg ho,h4.grown h7 hg ho,h5.grown hg (by decide) ho,h6.grown hg (by decide) ho,h7.grown hg (by decide) ho,h8⟩
def six (x:List Bool):List Bool:=x++List.replicate (6 - x.length) false
def zGx (x:List Bool) (c sg:Int):Value:=.agg ((six x).map Value.bool++[Value.int .i64 c,Value.int .i64 sg]).toArray
theorem zOJ {x y:List Bool} {c d s t:Int} (hl:x.length=y.length) (h:zGx x c s=zGx y d t):x=y/\c=d/\s=t:=by
 unfold zGx at h
 injection h with h
 have h1:=congrArg Array.toList h;have hs:((six x).map Value.bool).length=((six y).map Value.bool).length:=by simp [six,hl]
 obtain ⟨h2,h3⟩:=List.append_inj h1 hs
 have h4:six x=six y:=by
  have:=List.map_inj_right (f:=Value.bool) (fun a b hab=>by injection hab) |>.1 h2
  exact this
 unfold six at h4;have h5:=(List.append_inj h4 hl).1;simp at h3
 exact ⟨h5,h3.1,h3.2⟩
def zH6 (ps:List (List (Int × Int))) (l:List (Int × Int)) (kl:Lit) (v:Value):Prop:=
 ∃ (x:List Bool) (c sg:Int) (b:Bool),x.length=ps.length/\keyOf Tryz.prog 231 (zGx x c sg)=some kl/\v=.agg #[.bool b]/\∀ (y:List Bool) (d:Int),y.length=ps.length->zBE l y d=0->zFo l (tru l y d)=sg->zBM l x c y d=b
structure SvOk (Pz:Nat->Prop) (w0 w:World) (B bs bl n:Nat) (va vr pv fv:Value) (m:Mo) (ps:List (List (Int × Int))) (l:List (Int × Int)) (ho:Option Addr) (hc:Nat):Prop where
 box:SurvAt w B va vr pv fv (.slice ho (zAA l).length hc) bs bl
 bel:Below w0.heap.size w0 w
 lo1:w0.heap.size <= bs
 lo2:w0.heap.size <= bl
 ne:bs≠bl
 ah:zAD w (.slice ho (zAA l).length hc) (zAA l)
 aty:zAe w (.slice ho (zAA l).length hc) 3
 up:∀ b,w.heap.size <= b->Pz b
 aP:∀ a,ho=some a->Pz a.block
 st:∃ f,zAg w 3 bs n f/\∀ kl v,f kl=some v->∃ code,kl=.int .i64 code/\(0 <= code/\code < zAC m.vars m.vars.length)/\zAy Pz w m ps l code v
 li:∃ f,zAg w 231 bl n f/\∀ kl v,f kl=some v->zH6 ps l kl v
section
variable {w0 w w' : World} {B bs bl n : Nat} {va vr pv fv : Value} {m : Mo} {ps : List (List (Int × Int))} {l : List (Int × Int)} {ho : Option Addr} {hc : Nat}
theorem SvOk.two (h:SvOk Pz w0 w B bs bl n va vr pv fv m ps l ho hc):zBz w bs bl:=by
 obtain ⟨f,h1,_⟩:=h.st;obtain ⟨g,h2,_⟩:=h.li;exact ⟨h1.isMap,h2.isMap⟩
theorem SvOk.below (h:SvOk Pz w0 w B bs bl n va vr pv fv m ps l ho hc) (hb:Below w.heap.size w w'):SvOk Pz w0 w' B bs bl n va vr pv fv m ps l ho hc:=by
 obtain ⟨f,h1,h2⟩:=h.st;obtain ⟨g,h3,h4⟩:=h.li;refine ⟨h.box.later hb,h.bel.trans (hb.mono h.bel.size),h.lo1,h.lo2,h.ne,h.ah.below hb,h.aty.below hb,fun b hb2=>h.up b (Nat.le_trans hb.size hb2),h.aP,⟨f,h1.kept (hb.block _ h1.lt),fun kl v hv=>?_⟩,⟨g,h3.kept (hb.block _ h3.lt),h4⟩⟩
 obtain ⟨code,e1,e2,e3⟩:=h2 kl v hv;exact ⟨code,e1,e2,e3.below hb⟩
theorem zAg.mono {w:World} {kt:TypeId} {b n n':Nat} {f:Lit->Option Value} (h:zAg w kt b n f) (hn:n <= n'):zAg w kt b n' f:=by
 obtain ⟨D,h1,h2⟩:=h;exact ⟨D,h1.mono hn,h2⟩
theorem SvOk.mono {n':Nat} (h:SvOk Pz w0 w B bs bl n va vr pv fv m ps l ho hc) (hn:n <= n'):SvOk Pz w0 w B bs bl n' va vr pv fv m ps l ho hc:=by
 obtain ⟨f,h1,h2⟩:=h.st;obtain ⟨g,h3,h4⟩:=h.li;exact ⟨h.box,h.bel,h.lo1,h.lo2,h.ne,h.ah,h.aty,h.up,h.aP,⟨f,h1.mono hn,h2⟩,⟨g,h3.mono hn,h4⟩⟩
theorem SvOk.putL (h:SvOk Pz w0 w B bs bl n va vr pv fv m ps l ho hc) {f:Lit->Option Value} {kl:Lit} {v:Value} (hg:w.grownBy w' (some bl)) (h2:∀ kl v,f kl=some v->zH6 ps l kl v)
  (hm:zAg w' 231 bl (n+1) (zEm f kl v)) (hv:zH6 ps l kl v):SvOk Pz w0 w' B bs bl (n+1) va vr pv fv m ps l ho hc:=by
 have hs:Sk bs bl w w':=Sk.grown hg (.inr rfl);have ht:=h.two;obtain ⟨g,h3,h4⟩:=h.st
 refine ⟨h.box.sk hs ht,h.bel.trans (hs.below h.lo1 h.lo2 h.bel.size),h.lo1,h.lo2,h.ne,h.ah.sk hs ht,h.aty.sk hs ht,fun b hb2=>h.up b (Nat.le_trans hs.size hb2),h.aP,⟨g,(h3.kept (hg.block _ h3.lt (by intro e;injection e with e;exact h.ne e))).mono (Nat.le_succ _),fun k u hu=>?_⟩,⟨_,hm,fun k u hu=>?_⟩⟩
 ·obtain ⟨c,e1,e2,e3⟩:=h4 k u hu
  exact ⟨c,e1,e2,e3.sk hs ht⟩
 ·by_cases hk:k=kl
  ·subst hk
   rw [zEA] at hu
   cases hu
   exact hv
  ·rw [zDl hk] at hu
   exact h2 k u hu
theorem SvOk.spots {own:Option Nat} (h:SvOk Pz w0 w B bs bl n va vr pv fv m ps l ho hc) (hg:w.grownBy w' own) (hown:∀ g,own=some g->B < g/\w0.heap.size <= g/\∃ cs fr,w.heap[g]? = some (.cells cs 133 fr)):SvOk Pz w0 w' B bs bl n va vr pv fv m ps l ho hc:=by
 have hty:∀ g,own=some g->∃ cs fr,w.heap[g]? = some (.cells cs 133 fr):=fun g e=>(hown g e).2.2
 have hbx:∀ i v,w.cell? ⟨B,i,none⟩=some v->w'.cell? ⟨B,i,none⟩=some v:=fun i v hv=>by
  rw [World.cell?_of_block (hg.block B h.box.lt (fun e=>by have:=(hown B e.symm).1;omega))]
  exact hv
 obtain ⟨f,h1,h2⟩:=h.st;obtain ⟨q,h3,h4⟩:=h.li
 have hms:∀ b es c,w.heap[b]? = some (.map es c)->b < w.heap.size->w'.heap[b]? = w.heap[b]?:=fun b es c e hlt=>hg.block b hlt (fun e2=>by
  obtain ⟨cs,fr,e3⟩:=hty b e2.symm;rw [e] at e3
  simp at e3)
 obtain ⟨es1,c1,m1⟩:=h1.isMap;obtain ⟨es2,c2,m2⟩:=h3.isMap
 refine ⟨⟨Nat.lt_of_lt_of_le h.box.lt hg.size,hbx _ _ h.box.c0,hbx _ _ h.box.c1,hbx _ _ h.box.c2,hbx _ _ h.box.c3,hbx _ _ h.box.c4,hbx _ _ h.box.c5,hbx _ _ h.box.c6⟩,?_,h.lo1,h.lo2,h.ne,h.ah.grown h.aty hg hty,h.aty.grown hg (by decide) hty,fun b hb2=>h.up b (Nat.le_trans hg.size hb2),h.aP,⟨f,h1.kept (hms bs _ _ m1 h1.lt),fun kl v hv=>?_⟩,⟨q,h3.kept (hms bl _ _ m2 h3.lt),h4⟩⟩
 ·refine h.bel.trans ⟨hg.os,hg.tape,hg.output,hg.size,fun i hi=>hg.block i (Nat.lt_of_lt_of_le hi h.bel.size) (fun e=>by have:=(hown i e.symm).2.1;omega)⟩
 ·obtain ⟨code,e1,e2,e3⟩:=h2 kl v hv
  exact ⟨code,e1,e2,e3.grown hg hty⟩
end
end Go.Proofs.YtiimhhjkgeepjaaGreatDoor
namespace Go.Proofs.YtiimhhjkgeepjaaGreatDoor
open Go.ChangeShapes Go.WideShapes Go.ChangeAt Go.RowKit Go.Deep Go.Maps
open Terms Tm
set_option maxHeartbeats 6400000
set_option maxRecDepth 20000
structure Chg (Z:Nat->Prop) (w w':World):Prop where
 os:w'.os=w.os
 tape:w'.tape=w.tape
 output:w'.output=w.output
 size:w.heap.size <= w'.heap.size
 block:∀ i,i < w.heap.size->¬ Z i->w'.heap[i]? = w.heap[i]?
theorem Chg.trans {Z:Nat->Prop} {a b c:World} (h:Chg Z a b) (k:Chg Z b c):Chg Z a c:=
 ⟨k.os.trans h.os,k.tape.trans h.tape,k.output.trans h.output,Nat.le_trans h.size k.size,fun i hi hz=>(k.block i (Nat.lt_of_lt_of_le hi h.size) hz).trans (h.block i hi hz)⟩
theorem Chg.trans2 {Z Z':Nat->Prop} {a b c:World} (h:Chg Z a b) (k:Chg Z' b c) (hz:∀ i,i < a.heap.size->Z' i->Z i):Chg Z a c:=
 ⟨k.os.trans h.os,k.tape.trans h.tape,k.output.trans h.output,Nat.le_trans h.size k.size,fun i hi hn=>(k.block i (Nat.lt_of_lt_of_le hi h.size) (fun h2=>hn (hz i hi h2))).trans (h.block i hi hn)⟩
theorem Chg.weaken {Z Z':Nat->Prop} {a b:World} (h:Chg Z a b) (hz:∀ i,i < a.heap.size->Z i->Z' i):Chg Z' a b:=
 ⟨h.os,h.tape,h.output,h.size,fun i hi hn=>h.block i hi (fun h2=>hn (hz i hi h2))⟩
theorem Chg.of {Z:Nat->Prop} {w w':World} (h:Below w.heap.size w w'):Chg Z w w':=⟨h.os,h.tape,h.output,h.size,fun i hi _=>h.block i hi⟩
theorem Chg.grown {w w':World} {own:Option Nat} (h:w.grownBy w' own):Chg (fun i=>own=some i) w w':=
 ⟨h.os,h.tape,h.output,h.size,fun i hi hz=>h.block i hi (fun e=>hz e.symm)⟩
theorem Chg.setCell (w:World) (p:Addr) (v:Value):Chg (fun i=>i=p.block) w (w.setCell p v):=
 ⟨rfl,rfl,rfl,by simp,fun i _ hz=>RowKit.Below.heap_setCell _ _ _ _ hz⟩
theorem Chg.below {Z:Nat->Prop} {base:Nat} {w w':World} (h:Chg Z w w') (hz:∀ i,Z i->base <= i) (hb:base <= w.heap.size):Below base w w':=
 ⟨h.os,h.tape,h.output,h.size,fun i hi=>h.block i (by omega) (fun h2=>by have:=hz i h2;omega)⟩
theorem Chg.cell {Z:Nat->Prop} {w w':World} (h:Chg Z w w') {p:Addr} {v:Value} (hp:w.cell? p=some v) (hz:¬ Z p.block):w'.cell? p=some v:=by
 rw [World.cell?_of_block (h.block p.block (World.block_lt_of_cell? w p hp) hz)]
 exact hp
theorem Sk.chg {bs bl:Nat} {w w':World} (h:Sk bs bl w w'):Chg (fun i=>i=bs\/i=bl) w w':=
 ⟨h.os,h.tape,h.output,h.size,fun i hi hz=>h.block i hi (fun e=>hz (.inl e)) (fun e=>hz (.inr e))⟩
def TyB (w:World) (i:Nat) (t:TypeId):Prop:=∃ cs fr,w.heap[i]? = some (.cells cs t fr)
theorem TyB.lt {w:World} {i:Nat} {t:TypeId} (h:TyB w i t):i < w.heap.size:=by
 obtain ⟨cs,fr,h⟩:=h;exact (Array.getElem?_eq_some_iff.1 h).1
theorem TyB.eq {w:World} {i:Nat} {t t':TypeId} (h:TyB w i t) (h':TyB w i t'):t=t':=by
 obtain ⟨cs,fr,h⟩:=h;obtain ⟨cs',fr',h'⟩:=h';rw [h] at h'
 injection h' with h'
 injection h' with _ h' _
theorem TyB.no_map {w:World} {i:Nat} {t:TypeId} (h:TyB w i t) {es:Array MapEntry} {c:Nat}:w.heap[i]?≠some (.map es c):=by
 obtain ⟨cs,fr,h⟩:=h;rw [h]
 simp
theorem zAe.ty {w:World} {t:TypeId} {a:Addr} {n c:Nat} (h:zAe w (.slice (some a) n c) t):TyB w a.block t:=h a n c rfl
theorem zAD.chg {Z:Nat->Prop} {w w':World} {ao:Option Addr} {n c:Nat} {x:List Int} (h:zAD w (.slice ao n c) x) (hs:Chg Z w w') (hz:∀ a,ao=some a->¬ Z a.block):zAD w' (.slice ao n c) x:=by
 obtain ⟨ao',cap,e,h⟩:=h
 injection e with e1 e2 e3
 subst e1 e2 e3;refine ⟨ao,c,rfl,fun hne=>?_⟩
 obtain ⟨b,off,rfl,hlt,hat⟩:=h hne;exact ⟨b,off,rfl,Nat.lt_of_lt_of_le hlt hs.size,fun i hi=>hs.cell (hat i hi) (hz ⟨b,off,none⟩ rfl)⟩
theorem zAQ.chg {Z:Nat->Prop} {w w':World} {ao:Option Addr} {n c:Nat} {x:List Bool} (h:zAQ w (.slice ao n c) x) (hs:Chg Z w w') (hz:∀ a,ao=some a->¬ Z a.block):zAQ w' (.slice ao n c) x:=by
 obtain ⟨ao',cap,e,h⟩:=h
 injection e with e1 e2 e3
 subst e1 e2 e3;refine ⟨ao,c,rfl,fun hne=>?_⟩
 obtain ⟨b,off,rfl,hlt,hat⟩:=h hne;exact ⟨b,off,rfl,Nat.lt_of_lt_of_le hlt hs.size,fun i hi=>hs.cell (hat i hi) (hz ⟨b,off,none⟩ rfl)⟩
theorem zAe.chg {Z:Nat->Prop} {w w':World} {ao:Option Addr} {n c:Nat} {t:TypeId} (h:zAe w (.slice ao n c) t) (hs:Chg Z w w') (hz:∀ a,ao=some a->¬ Z a.block):zAe w' (.slice ao n c) t:=by
 intro a k c' e
 injection e with e1 e2 e3
 subst e1 e2 e3;obtain ⟨cs,fr,h1⟩:=h a n c rfl;exact ⟨cs,fr,(hs.block _ (Array.getElem?_eq_some_iff.1 h1).1 (hz a rfl)).trans h1⟩
theorem zBV {Z:Nat->Prop} {w w':World} {base:Nat} {e:TypeId} {s n:Nat} {v:Value} {xs:List Value} (h:w.ownsRow base e s v n xs) (hs:Chg Z w w') (hz:∀ g,v.ownBlock=some g->¬ Z g):w'.ownsRow base e s v n xs:=by
 refine ⟨h.1,?_⟩
 rcases h.2 with h0 | ⟨g,cap,cur,h1,h2,h3,h4⟩
 ·exact .inl h0
 ·refine .inr ⟨g,cap,cur,h1,h2,?_,h4⟩
  rw [hs.block g (Array.getElem?_eq_some_iff.1 h3).1 (hz g (by rw [h1];simp [Value.ownBlock]))]
  exact h3
theorem zAd {w:World} {base:Nat} {e:TypeId} {s n:Nat} {v:Value} {xs:List Value} (h:w.ownsRow base e s v n xs) {g:Nat} (hg:v.ownBlock=some g):base <= g/\TyB w g e:=by
 rcases h.2 with ⟨h0,_⟩ | ⟨g',cap',cur,h1,h2,h3,_⟩
 ·rw [h0] at hg;simp [Value.ownBlock] at hg
 ·rw [h1] at hg
  simp [Value.ownBlock] at hg
  subst hg;exact ⟨h2,cur,_,h3⟩
theorem zAg.chg {Z:Nat->Prop} {w w':World} {kt:TypeId} {b n:Nat} {f:Lit->Option Value} (h:zAg w kt b n f) (hs:Chg Z w w') (hz:¬ Z b):zAg w' kt b n f:=h.kept (hs.block b h.lt hz)
section
variable {Pz : Nat -> Prop} {w0 w w' : World} {B bs bl n : Nat} {va vr pv fv : Value} {m : Mo} {ps : List (List (Int × Int))} {l : List (Int × Int)} {ho : Option Addr} {hc : Nat}
theorem zAy.chg {Z:Nat->Prop} {code:Int} {v:Value} (h:zAy Pz w m ps l code v) (hs:Chg Z w w') (hz:∀ i,Z i->¬ TyB w i 4/\(TyB w i 3->¬ Pz i)):zAy Pz w' m ps l code v:=by
 obtain ⟨lo,lc,no,nc,so,sc,h1,h2,h3,h4,h5,h6,h7,h8,h9⟩:=h;have z1:∀ a,lo=some a->¬ Z a.block:=fun a e z=>by subst e;exact (hz _ z).1 h5.ty
 have z2:∀ a,no=some a->¬ Z a.block:=fun a e z=>by subst e;exact (hz _ z).2 h6.ty (h8 a rfl)
 have z3:∀ a,so=some a->¬ Z a.block:=fun a e z=>by subst e;exact (hz _ z).2 h7.ty (h9 a rfl)
 exact ⟨lo,lc,no,nc,so,sc,h1,h2.chg hs z1,h3.chg hs z2,h4.chg hs z3,h5.chg hs z1,h6.chg hs z2,h7.chg hs z3,h8,h9⟩
theorem SvOk.chg {Z:Nat->Prop} (h:SvOk Pz w0 w B bs bl n va vr pv fv m ps l ho hc) (hs:Chg Z w w') (hz:∀ i,Z i->w0.heap.size <= i/\i≠B/\i≠bs/\i≠bl/\¬ TyB w i 4/\(TyB w i 3->¬ Pz i)):SvOk Pz w0 w' B bs bl n va vr pv fv m ps l ho hc:=by
 have zB:¬ Z B:=fun z=>(hz _ z).2.1 rfl
 have zs:¬ Z bs:=fun z=>(hz _ z).2.2.1 rfl
 have zl:¬ Z bl:=fun z=>(hz _ z).2.2.2.1 rfl
 have za:∀ a,ho=some a->¬ Z a.block:=fun a e z=>(hz _ z).2.2.2.2.2 (by have:=h.aty;rw [e] at this;exact this.ty) (h.aP a e)
 obtain ⟨f,h1,h2⟩:=h.st;obtain ⟨q,h3,h4⟩:=h.li
 refine ⟨⟨Nat.lt_of_lt_of_le h.box.lt hs.size,hs.cell h.box.c0 zB,hs.cell h.box.c1 zB,hs.cell h.box.c2 zB,hs.cell h.box.c3 zB,hs.cell h.box.c4 zB,hs.cell h.box.c5 zB,hs.cell h.box.c6 zB⟩,h.bel.trans (hs.below (fun i z=>(hz i z).1) h.bel.size),h.lo1,h.lo2,h.ne,h.ah.chg hs za,h.aty.chg hs za,fun b hb=>h.up b (Nat.le_trans hs.size hb),h.aP,⟨f,h1.chg hs zs,fun kl v hv=>?_⟩,⟨q,h3.chg hs zl,h4⟩⟩
 obtain ⟨code,e1,e2,e3⟩:=h2 kl v hv;exact ⟨code,e1,e2,e3.chg hs fun i z=>(hz i z).2.2.2.2⟩
theorem zAy.re {Pz':Nat->Prop} {code:Int} {v:Value} (h:zAy Pz w m ps l code v) (hp:∀ b,b < w.heap.size->Pz b->Pz' b):zAy Pz' w m ps l code v:=by
 obtain ⟨lo,lc,no,nc,so,sc,h1,h2,h3,h4,h5,h6,h7,h8,h9⟩:=h;exact ⟨lo,lc,no,nc,so,sc,h1,h2,h3,h4,h5,h6,h7,fun a e=>by subst e;exact hp _ h6.ty.lt (h8 a rfl),fun a e=>by subst e;exact hp _ h7.ty.lt (h9 a rfl)⟩
theorem SvOk.re {Pz':Nat->Prop} (h:SvOk Pz w0 w B bs bl n va vr pv fv m ps l ho hc) (hp:∀ b,b < w.heap.size->Pz b->Pz' b) (hup:∀ b,w.heap.size <= b->Pz' b):SvOk Pz' w0 w B bs bl n va vr pv fv m ps l ho hc:=by
 obtain ⟨f,h1,h2⟩:=h.st;refine ⟨h.box,h.bel,h.lo1,h.lo2,h.ne,h.ah,h.aty,hup,fun a e=>hp _ (by have:=h.aty;rw [e] at this;exact this.ty.lt) (h.aP a e),⟨f,h1,fun kl v hv=>?_⟩,h.li⟩
 obtain ⟨code,e1,e2,e3⟩:=h2 kl v hv;exact ⟨code,e1,e2,e3.re hp⟩
end
end Go.Proofs.YtiimhhjkgeepjaaGreatDoor
namespace Go.Proofs.YtiimhhjkgeepjaaGreatDoor
open Go.ChangeShapes Go.WideShapes Go.ChangeAt Go.RowKit Go.Deep
open Terms Tm
set_option maxHeartbeats 6400000
set_option maxRecDepth 20000
theorem zNQ (B:Nat) (va vr pv fv lv:Value) (l:List (Int × Int)) (lt:List Bool) (c:Nat) (ho:Option Addr) (hcp bs bl:Nat) (w:World) (hB:0 < w.heap.size) (hT:zAJ w) (hF:zAR w fv l) (hL:zAQ w lv lt)
  (hz:zAE (l.map Prod.fst)=0) (h6:(zAA l).length <= 6) (htc:zBE l lt (c:Int)=0) (hS:SurvAt w B va vr pv fv (.slice ho (zAA l).length hcp) bs bl) (hA:zAD w (.slice ho (zAA l).length hcp) (zAA l)) :
  Calls Tryz.prog 157 #[.pointer (some ⟨B,0,none⟩),lv,.int .i64 (c:Int)] w fun e w'=>e=.returned (.tuple #[.int .i64 (zFl l lt c),.int .i64 0])/\Below w.heap.size w w':=by
 obtain ⟨hne,h60⟩:=zCq hz;rw [List.length_map] at h60
 have hl0:0 < l.length:=by
  rcases Nat.eq_zero_or_pos l.length with h0 | h0
  ·rw [List.length_eq_zero_iff.1 h0] at hne
   simp at hne
  ·exact h0
 have htr:Calls Tryz.prog 78 #[fv,lv,.int .i64 (c:Int)] w fun e w'=>∃ b off cp,e=.returned (.tuple #[.slice (some ⟨b,off,none⟩) l.length cp,.int .i64 0])/\Below w.heap.size w w'/\b < w'.heap.size/\Hid (∀ j,j < l.length->w'.cell? ⟨b,off+j,none⟩=some (.bool (tru l lt (c:Int) j))):=by
  refine (zHF fv lv l lt (c:Int) w hB hT hF hL).mono fun e w' ⟨v,h1,h2,h3⟩=>?_
  have t2:zEW l lt (c:Int)=(List.range l.length).map (tru l lt (c:Int)):=by unfold zEW;rw [if_pos htc]
  rw [t2] at h3;obtain ⟨lo,lc,rfl,hx⟩:=h3;obtain ⟨b,off,rfl,hb,hat⟩:=hx (by intro h0;have:=congrArg List.length h0;rw [List.length_map,List.length_range,List.length_nil] at this;omega)
  refine ⟨b,off,lc,by rw [h1,htc];simp,h2,hb,fun j hj=>?_⟩
  have c0:=hat j (by simpa using hj)
  rw [c0];simp [List.getD_eq_getElem?_getD,hj]
 obtain ⟨fo,fc,rfl,_,hfv⟩:=id hF;obtain ⟨fb,foff,rfl,hfb,hfat⟩:=hfv (by intro h0;rw [h0] at hl0;simp at hl0)
 obtain ⟨lo,lc,rfl,_⟩:=id hL
 have HP:Hid (∀ k,k < (zAA l).length->∃ p:Nat,(∃ ab aoff,ho=some ⟨ab,aoff,none⟩/\ab < w.heap.size/\w.cell? ⟨ab,aoff+k,none⟩=some (.int .i64 (p:Int)))/\p < l.length/\zEU l p < l.length/\w.cell? ⟨fb,foff+p*2,none⟩=some (.int .i64 (l.getD p (0,0)).1)/\((zAA l).getD k 0).toNat=p):=fun k hk=>by
  obtain ⟨p,h1,h2,h3,_⟩:=zCV l l.length k hk;obtain ⟨ao2,c2,e1,hah⟩:=hA
  injection e1 with e2 e3 e4
  subst e2;obtain ⟨ab,aoff,rfl,hab,haat⟩:=hah (by intro h0;rw [h0] at hk;simp at hk)
  have h1':(zAA l).getD k 0=(p:Int):=h1;refine ⟨p,⟨ab,aoff,rfl,hab,by rw [haat k hk,h1']⟩,h2,?_,(hfat p h2).1,by rw [h1'];rfl⟩
  unfold zEU
  split
  ·refine (zDZ hz h2).1 ?_
   have hk':14 <= (l.getD p (0,0)).1/\(l.getD p (0,0)).1 <= 18:=by simpa [zAP] using h3
   unfold pn
   split
   ·omega
   ·split <;> omega
  ·exact h2
 have HSt:Hid (∀ k,zBw l (tru l lt (c:Int)) (k+1)=zBw l (tru l lt (c:Int)) k+if tru l lt (c:Int) (zEU l ((zAA l).getD k 0).toNat)=true then 2 ^ k else 0):=fun _=>rfl
 have HSb:Hid (∀ k,0 <= zBw l (tru l lt (c:Int)) k/\zBw l (tru l lt (c:Int)) k < 2 ^ k):=zDM _ _
 have HS0:Hid (zBw l (tru l lt (c:Int)) 0=0):=rfl;unfold zFl zFo;generalize zBw l (tru l lt (c:Int))=sg at *;generalize hth:tru l lt (c:Int)=th at *;obtain ⟨_,s0,s1,s2,s3,s4,s5,s6⟩:=id hS
 have HS:Hid (∀ w1,Below w.heap.size w w1->w1.cell? ⟨B,3,none⟩=some (.slice (some ⟨fb,foff,none⟩) l.length fc)/\w1.cell? ⟨B,4,none⟩=some (.slice ho (zAA l).length hcp)):=fun w1 h=>⟨(hS.later h).c3,(hS.later h).c4⟩
 have HFb:Hid (fb < w.heap.size):=hfb;generalize (zAA l).length=an at *;generalize lt.length=ltn at *;generalize hnn:l.length=n at *;clear hT hF hL hz htc hA hfv hfat hnn hth hS hne hfb
 go_enter Tryz.func157,Tryz.ntmps157
 go_wp2_with (first | (go_at_call 78;refine htr.mono ?_;rintro e w1 ⟨b,off,cp,rfl,hb1,hblt,HTb⟩;obtain ⟨q3,q4⟩:=HS.out w1 hb1))
 clear htr
 go_loopw [10,33] (fun x i wr=>∃ k:Nat,k <= an/\i=.int .i64 (k:Int)/\x=.int .i64 (sg k)/\wr=w1) (fun _ i _=>an - (intOf i).toNat)
 case atStart=>exact ⟨0,Nat.zero_le _,rfl,by rw [HS0.out],rfl⟩
 case round=>
  obtain ⟨k,hk,rfl,rfl,rfl⟩:=hrel
  by_cases hlt:k < an
  ·obtain ⟨p,⟨ab,aoff,rfl,hab,hca⟩,hpn,hpa,hpc,hpi⟩:=HP.out k hlt
   have HSk:=(show Hid _ from HSt.out k)
   rw [hpi] at HSk;have d0:=(hb1.cell (p:=⟨ab,aoff+k,none⟩) hab).trans hca;have d1:=(hb1.cell (p:=⟨fb,foff+p*2,none⟩) HFb.out).trans hpc;have d2:=HTb.out (zEU l p) hpa;obtain ⟨hm0,hm1⟩:=HSb.out k;have hk6:k < 6:=by omega
   have hps:=zJE (k:=k) (by omega)
   have h2k:(0:Int) < 2 ^ k:=Int.pow_pos (by decide)
   have HOr:Hid (bits BinOp.or IntKind.i64 (sg k) (2 ^ k)=sg k+2 ^ k):=zPT hk6 hm0 hm1;have hpi2:(p:Int) < (n:Int):=by omega
   unfold zEU at d2 hpa HSk;clear HP HSt HSb hca hpc hpi
   by_cases h14:(l.getD p (0,0)).1=14
   ·rw [if_pos h14] at d2 hpa HSk
    rw [h14] at d1;have hpa2:(p:Int)+1 < (n:Int):=by omega
    clear h14;generalize th (p+1)=tv at *
    cases tv with
    | true=>
     have HS2:Hid (sg (k+1)=sg k+2 ^ k):=by show _=_;rw [HSk.out];simp
     clear HSk
     go_wp2_with fail
     exact ⟨⟨k+1,hlt,by first | rfl | simp,by rw [HS2.out,<- HOr.out],by trivial⟩,by simp [intOf];omega⟩
    | false=>
     have HS2:Hid (sg (k+1)=sg k):=by show _=_;rw [HSk.out];simp
     clear HSk
     go_wp2_with fail
     exact ⟨⟨k+1,hlt,by first | rfl | simp,by rw [HS2.out],by trivial⟩,by simp [intOf];omega⟩
   ·rw [if_neg h14] at d2 hpa HSk
    generalize (l.getD p (0,0)).1=kx at *;generalize th p=tv at *
    cases tv with
    | true=>
     have HS2:Hid (sg (k+1)=sg k+2 ^ k):=by show _=_;rw [HSk.out];simp
     clear HSk
     go_wp2_with fail
     exact ⟨⟨k+1,hlt,by first | rfl | simp,by rw [HS2.out,<- HOr.out],by trivial⟩,by simp [intOf];omega⟩
    | false=>
     have HS2:Hid (sg (k+1)=sg k):=by show _=_;rw [HSk.out];simp
     clear HSk
     go_wp2_with fail
     exact ⟨⟨k+1,hlt,by first | rfl | simp,by rw [HS2.out],by trivial⟩,by simp [intOf];omega⟩
  ·obtain rfl:k=an:=by omega
   go_wp2_with fail
   go_ret2
   exact ⟨rfl,hb1⟩
end Go.Proofs.YtiimhhjkgeepjaaGreatDoor
namespace Go.Proofs.YtiimhhjkgeepjaaGreatDoor
open Go.ChangeShapes Go.WideShapes Go.ChangeAt Go.RowKit Go.Deep Go.Maps
open Terms Tm
set_option maxHeartbeats 6400000
set_option maxRecDepth 20000
variable {Pz : Nat -> Prop}
theorem zFe:Keyed Tryz.prog 3:=int_keyed Tryz.underlying3
theorem zGL (w:World):(zeroValue 203).run Tryz.prog w=.ok (.agg #[.slice none 0 0,.slice none 0 0,.slice none 0 0]) w:=by kernel_rfl
theorem zM0 {x:Int} (h:-9223372036854775808 <= x/\x <= 9223372036854775807):keyOf Tryz.prog 3 (.int .i64 x)=some (.int .i64 x):=keyOf_int_mk Tryz.underlying3 (WalkArith.wf_i64 (by omega))
theorem zME {w:World} {base n:Nat} {v:Value} {t:TypeId} {s:Nat} {xs:List Value} (h:w.ownsRow base t s v n xs):∀ (a:Addr) (k c:Nat),v=.slice (some a) k c->base <= a.block:=by
 intro a k c e
 rcases h.2 with ⟨h0,_⟩ | ⟨g,cap,cur,h1,h2,_⟩
 ·rw [h0] at e;simp at e
 ·rw [h1] at e
  injection e with e _ _
  injection e with e
  subst e;exact h2
def St3 (w:World) (b:Nat) (x y z:Value):Prop:=b < w.heap.size/\(w.cell? ⟨b,0,none⟩=some x/\w.cell? ⟨b,1,none⟩=some y/\w.cell? ⟨b,2,none⟩=some z)/\w.frozen? ⟨b,0,none⟩=false/\w.frozen? ⟨b,1,none⟩=false/\w.frozen? ⟨b,2,none⟩=false
theorem St3.new (w:World) (x y z:Value) (t:TypeId):St3 (w.alloc (.cells #[x,y,z] t)) w.heap.size x y z:=by
 refine ⟨by simp,⟨?_,?_,?_⟩,?_,?_,?_⟩ <;> simp [go_sem]
theorem St3.later {w w':World} {b:Nat} {x y z:Value} (h:St3 w b x y z) (hb:Below w.heap.size w w'):St3 w' b x y z:=
 ⟨Nat.lt_of_lt_of_le h.1 hb.size,⟨(hb.cell (p:=⟨b,0,none⟩) h.1).trans h.2.1.1,(hb.cell (p:=⟨b,1,none⟩) h.1).trans h.2.1.2.1,(hb.cell (p:=⟨b,2,none⟩) h.1).trans h.2.1.2.2⟩,(hb.frozen (p:=⟨b,0,none⟩) h.1).trans h.2.2.1,(hb.frozen (p:=⟨b,1,none⟩) h.1).trans h.2.2.2.1,(hb.frozen (p:=⟨b,2,none⟩) h.1).trans h.2.2.2.2⟩
def zEh (Pz:Nat->Prop) (w0 w:World) (B bs bl n:Nat) (va vr pv fv:Value) (m:Mo) (ps:List (List (Int × Int))) (l:List (Int × Int)) (ho:Option Addr) (hc:Nat) (code:Int) (e:Ending) (w':World):Prop:=
 Sk bs bl w w'/\Hid (SvOk Pz w0 w' B bs bl (n+1) va vr pv fv m ps l ho hc)/\((zAr m code=0/\∃ lo lc no nc so sc,e=.returned (.tuple #[.agg #[.slice lo ps.length lc,.slice no (zAB m code).length nc,.slice so (2 ^ (zAA l).length) sc],.int .i64 0])/\Hid (zAy Pz w' m ps l code (.agg #[.slice lo ps.length lc,.slice no (zAB m code).length nc,.slice so (2 ^ (zAA l).length) sc])))\/(zAr m code≠0/\e=.returned (.tuple #[.agg #[.slice none 0 0,.slice none 0 0,.slice none 0 0],.int .i64 (zAr m code)])))
theorem zJi (w0 w:World) (B bs bl n:Nat) (va vr pv fv:Value) (m:Mo) (ps:List (List (Int × Int))) (l:List (Int × Int)) (ho:Option Addr) (hc:Nat) (code:Int) (hI:-9223372036854775808 <= code/\code <= 9223372036854775807) (hm0:mcode m=0) (hS:SvOk Pz w0 w B bs bl n va vr pv fv m ps l ho hc)
  (f:Lit->Option Value) (hf:zAg w 3 bs n f) (hfs:∀ kl v,f kl=some v->∃ code,kl=.int .i64 code/\(0 <= code/\code < zAC m.vars m.vars.length)/\zAy Pz w m ps l code v) (v:Value) (hv:f (.int .i64 code)=some v) :
  Calls Tryz.prog 115 #[.pointer (some ⟨B,0,none⟩),.int .i64 code] w (zEh Pz w0 w B bs bl n va vr pv fv m ps l ho hc code):=by
 obtain ⟨c',e1,hcr,hst⟩:=hfs _ _ hv
 injection e1 with _ e1
 subst e1;have hw0:=zBk hm0 hcr;obtain ⟨lo,lc,no,nc,so,sc,rfl,_⟩:=id hst;obtain ⟨W1,hW1⟩:∃ W1,W1=w.alloc (.cells #[.slice none 0 0,.slice none 0 0,.slice none 0 0] 203):=⟨_,rfl⟩
 have hb1:Below w.heap.size w W1:=by rw [hW1];exact (Below.refl _ _).alloc (Nat.le_refl _) _
 have h4:St3 W1 w.heap.size (.slice none 0 0) (.slice none 0 0) (.slice none 0 0):=by rw [hW1];exact St3.new _ _ _ _ _
 have hlk:(Instr.lookup 123 (.map (some bs)) (.int .i64 code) true).run Tryz.prog W1=.ok (.tuple #[.agg #[.slice lo ps.length lc,.slice no (zAB m code).length nc,.slice so (2 ^ (zAA l).length) sc],.bool true]) W1:=by
  have:=(hf.kept (hb1.block _ hf.lt)).look zFe Tryz.underlying123 (zGL _) (zM0 hI);rw [hv] at this;exact this
 have c5:=(hS.box.later hb1).c5;have HFin:Hid (∀ w',Below w.heap.size w w'->Sk bs bl w w'/\SvOk Pz w0 w' B bs bl (n+1) va vr pv fv m ps l ho hc/\zAy Pz w' m ps l code (.agg #[.slice lo ps.length lc,.slice no (zAB m code).length nc,.slice so (2 ^ (zAA l).length) sc])):=fun w' h=>⟨Sk.of h,(hS.below h).mono (Nat.le_succ _),hst.below h⟩
 have HW:Hid (zAr m code=0):=hw0;unfold zEh;generalize ps.length=pn at *;generalize (zAB m code).length=nn at *;generalize 2 ^ (zAA l).length=N at *;obtain ⟨hl4,⟨k0,k1,k2⟩,g0,g1,g2⟩:=id h4;have HH4:Hid (St3 W1 w.heap.size (.slice none 0 0) (.slice none 0 0) (.slice none 0 0)):=h4;clear hS hf hfs hv hst hw0 h4;subst hW1
 go_enter Tryz.func115,Tryz.ntmps115
 go_wp2_with fail
 have hb:Below w.heap.size w ((w.alloc (.cells #[.slice lo pn lc,.slice no nn nc,.slice so N sc] 203)).alloc (.cells #[.slice lo pn lc,.slice no nn nc,.slice so N sc] 203)):=((Below.refl _ _).alloc (Nat.le_refl _) _).alloc (by simp) _
 obtain ⟨r1,r2,r3⟩:=HFin.out _ hb;refine bodyPost_ret (v:=.tuple #[.agg #[.slice lo pn lc,.slice no nn nc,.slice so N sc],.int .i64 0]) ?_ rfl ⟨r1,r2,.inl ⟨HW.out,lo,lc,no,nc,so,sc,rfl,r3⟩⟩
 simp [results,Tryz.results115,go_sem]
theorem zAQ.setBox {w:World} {v:Value} {l:List Bool} {p:Addr} {a:Option Addr} {n c:Nat} (h:zAQ w v l) (hc:w.cell? p=some (.slice a n c)) (u:Value):zAQ (w.setCell p u) v l:=by
 obtain ⟨ao,cap,rfl,h⟩:=h;refine ⟨ao,cap,rfl,fun hne=>?_⟩
 obtain ⟨b,off,rfl,hlt,hat⟩:=h hne;refine ⟨b,off,rfl,by simpa using hlt,fun i hi=>?_⟩
 have h1:=hat i hi
 have hne2:(⟨b,off+i,none⟩:Addr)≠p:=by
  intro e;rw [e,hc] at h1;simp at h1
 rw [World.cell?_setCell_other _ _ _ _ hne2.symm]
 exact h1
theorem zAD.setBox {w:World} {v:Value} {l:List Int} {p:Addr} {a:Option Addr} {n c:Nat} (h:zAD w v l) (hc:w.cell? p=some (.slice a n c)) (u:Value):zAD (w.setCell p u) v l:=by
 obtain ⟨ao,cap,rfl,h⟩:=h;refine ⟨ao,cap,rfl,fun hne=>?_⟩
 obtain ⟨b,off,rfl,hlt,hat⟩:=h hne;refine ⟨b,off,rfl,by simpa using hlt,fun i hi=>?_⟩
 have h1:=hat i hi
 have hne2:(⟨b,off+i,none⟩:Addr)≠p:=by
  intro e;rw [e,hc] at h1;simp at h1
 rw [World.cell?_setCell_other _ _ _ _ hne2.symm]
 exact h1
theorem Sk.setNew {bs bl:Nat} {w w':World} (h:Sk bs bl w w') {p:Addr} (hp:w.heap.size <= p.block) (v:Value):Sk bs bl w (w'.setCell p v):=
 ⟨h.os,h.tape,h.output,by simpa using h.size,fun i hi h1 h2=>(RowKit.Below.heap_setCell _ _ _ _ (by omega)).trans (h.block i hi h1 h2)⟩
theorem SvOk.putN {w0 w w':World} {B bs bl n:Nat} {va vr pv fv:Value} {m:Mo} {ps:List (List (Int × Int))} {l:List (Int × Int)} {ho:Option Addr} {hc:Nat} (h:SvOk Pz w0 w B bs bl n va vr pv fv m ps l ho hc) {f:Lit->Option Value} {code:Int} {v:Value} (hs:Sk bs bl w w') (hbl:w'.heap[bl]? = w.heap[bl]?) (h2:∀ kl v,f kl=some v->∃ code,kl=.int .i64 code/\(0 <= code/\code < zAC m.vars m.vars.length)/\zAy Pz w m ps l code v)
  (hm:zAg w' 3 bs (n+1) (zEm f (.int .i64 code) v)) (hc':0 <= code/\code < zAC m.vars m.vars.length) (hv:zAy Pz w' m ps l code v):SvOk Pz w0 w' B bs bl (n+1) va vr pv fv m ps l ho hc:=by
 have ht:=h.two;obtain ⟨g,h3,h4⟩:=h.li;refine ⟨h.box.sk hs ht,h.bel.trans (hs.below h.lo1 h.lo2 h.bel.size),h.lo1,h.lo2,h.ne,h.ah.sk hs ht,h.aty.sk hs ht,fun b hb2=>h.up b (Nat.le_trans hs.size hb2),h.aP,⟨_,hm,fun kl u hu=>?_⟩,⟨g,(h3.kept hbl).mono (Nat.le_succ _),h4⟩⟩
 by_cases hk:kl=.int .i64 code
 ·subst hk
  rw [zEA] at hu
  cases hu
  exact ⟨code,rfl,hc',hv⟩
 ·rw [zDl hk] at hu
  obtain ⟨c,e1,e2,e3⟩:=h2 kl u hu;exact ⟨c,e1,e2,e3.sk hs ht⟩
theorem zLU (w0 w:World) (B bs bl n:Nat) (va vr pv fv:Value) (m:Mo) (ps:List (List (Int × Int))) (l:List (Int × Int)) (ho:Option Addr) (hc:Nat) (code:Int) (hI:-9223372036854775808 <= code/\code <= 9223372036854775807) (hB:0 < w0.heap.size) (hT:zAJ w0) (hV:TaskV w0 va vr pv fv m ps l) (hk:zAK m ps l=0) (hS:SvOk Pz w0 w B bs bl n va vr pv fv m ps l ho hc)
  (f:Lit->Option Value) (hf:zAg w 3 bs n f) (hv:f (.int .i64 code)=none) (hw:zAr m code≠0) :
  Calls Tryz.prog 115 #[.pointer (some ⟨B,0,none⟩),.int .i64 code] w (zEh Pz w0 w B bs bl n va vr pv fv m ps l ho hc code):=by
 obtain ⟨hp0,_⟩:=zA3 hk;obtain ⟨ao,ac,rfl⟩:=hV.mo.1.shape;obtain ⟨ro,rc,rfl⟩:=hV.mo.2.shape;obtain ⟨po,pc,rfl⟩:=hV.ps.shape;obtain ⟨W1,hW1⟩:∃ W1,W1=w.alloc (.cells #[.slice none 0 0,.slice none 0 0,.slice none 0 0] 203):=⟨_,rfl⟩
 have hb1:Below w.heap.size w W1:=by rw [hW1];exact (Below.refl _ _).alloc (Nat.le_refl _) _
 have hlk:(Instr.lookup 123 (.map (some bs)) (.int .i64 code) true).run Tryz.prog W1=.ok (.tuple #[.agg #[.slice none 0 0,.slice none 0 0,.slice none 0 0],.bool false]) W1:=by
  have:=(hf.kept (hb1.block _ hf.lt)).look zFe Tryz.underlying123 (zGL _) (zM0 hI);rw [hv] at this;exact this
 have c5:=(hS.box.later hb1).c5;have hb2:Below w.heap.size w (W1.alloc (.cells #[.slice none 0 0,.slice none 0 0,.slice none 0 0] 203)):=hb1.alloc hb1.size _
 have HLe:Hid (∀ w1,Below w.heap.size w w1->Calls Tryz.prog 40 #[.agg #[.slice ao m.vars.length ac,.slice ro m.rules.length rc],.slice po ps.length pc,.int .i64 code] w1 fun e w'=>∃ lo ln lc,e=.returned (.tuple #[.slice lo ln lc,.int .i64 (zAr m code)])/\Below w1.heap.size w1 w'):=fun w1 h=>by
  have h0:=hS.bel.trans (h.mono hS.bel.size);refine (zFn _ _ _ m ps code w1 (Nat.lt_of_lt_of_le hB h0.size) (hT.below h0 hB) (hV.mo.below h0) (hV.ps.below h0)).mono fun e w' ⟨v,h1,h2,h3⟩=>?_
  have e1:zC2 m ps code=zAr m code:=by unfold zC2;rw [if_pos hp0]
  obtain ⟨lo,lc,rfl,_⟩:=h3;exact ⟨lo,_,lc,by rw [h1,e1],h2⟩
 have HSB:Hid (∀ w1,Below w.heap.size w w1->w1.cell? ⟨B,0,none⟩=some (.slice ao m.vars.length ac)/\w1.cell? ⟨B,1,none⟩=some (.slice ro m.rules.length rc)/\w1.cell? ⟨B,2,none⟩=some (.slice po ps.length pc)):=fun w1 h=>⟨(hS.box.later h).c0,(hS.box.later h).c1,(hS.box.later h).c2⟩
 have HFin:Hid (∀ w',Below w.heap.size w w'->Sk bs bl w w'/\SvOk Pz w0 w' B bs bl (n+1) (.slice ao m.vars.length ac) (.slice ro m.rules.length rc) (.slice po ps.length pc) fv m ps l ho hc):=fun w' h=>⟨Sk.of h,(hS.below h).mono (Nat.le_succ _)⟩
 have H4:Hid (∀ w',Below (w.heap.size+1) W1 w'->w'.cell? ⟨w.heap.size,0,none⟩=some (.slice none 0 0)/\w'.cell? ⟨w.heap.size,1,none⟩=some (.slice none 0 0)/\w'.cell? ⟨w.heap.size,2,none⟩=some (.slice none 0 0)/\w'.frozen? ⟨w.heap.size,0,none⟩=false/\w'.frozen? ⟨w.heap.size,1,none⟩=false/\w'.frozen? ⟨w.heap.size,2,none⟩=false):=fun w' h=>by
  have h3:St3 W1 w.heap.size (.slice none 0 0) (.slice none 0 0) (.slice none 0 0):=by rw [hW1];exact St3.new _ _ _ _ _
  obtain ⟨_,⟨a,b,c⟩,d,e,f⟩:=h3;have hlt:w.heap.size < w.heap.size+1:=Nat.lt_succ_self _
  exact ⟨(h.cell (p:=⟨w.heap.size,0,none⟩) hlt).trans a,(h.cell (p:=⟨w.heap.size,1,none⟩) hlt).trans b,(h.cell (p:=⟨w.heap.size,2,none⟩) hlt).trans c,(h.frozen (p:=⟨w.heap.size,0,none⟩) hlt).trans d,(h.frozen (p:=⟨w.heap.size,1,none⟩) hlt).trans e,(h.frozen (p:=⟨w.heap.size,2,none⟩) hlt).trans f⟩
 have hz1:W1.heap.size=w.heap.size+1:=by rw [hW1];simp
 unfold zEh;generalize zAr m code=wc at *;generalize m.vars.length=vn at *;generalize m.rules.length=rn at *;generalize ps.length=pn at *;clear hS hf hv hT hV hk hp0;obtain ⟨W2,hW2⟩:∃ W2,W2=W1.alloc (.cells #[.slice none 0 0,.slice none 0 0,.slice none 0 0] 203):=⟨_,rfl⟩
 have hk2:Below (w.heap.size+1) W1 W2:=by rw [hW2];exact (Below.refl _ _).alloc (by omega) _
 have hbw2:Below w.heap.size w W2:=by rw [hW2];exact hb2
 have hz2:w.heap.size+1 <= W2.heap.size:=by rw [hW2];simp [hz1]
 rw [hW1] at hW2;subst hW1
 go_enter Tryz.func115,Tryz.ntmps115
 go_wp2_with fail
 rw [<- hW2];clear hW2 hlk c5;have hle:=HLe.out _ hbw2.drew;have hB0:Below W2.heap.size W2 W2:=Below.refl _ _;have hBw:=hB0.drew
 go_region_held3 (fun w'=>w'.cell? ⟨B,0,none⟩=some (.slice ao vn ac)/\w'.cell? ⟨B,1,none⟩=some (.slice ro rn rc)/\w'.cell? ⟨B,2,none⟩=some (.slice po pn pc))
  (first | exact HSB.out _ hb12 | exact HSB.out _ hbw2.drew | exact HSB.out _ hbw2)
  (first
   | (go_at_call 40;refine hle.mono ?_;rintro e w3 ⟨lo,ln,lc,rfl,hb3⟩;have hb12:=hbw2.drew.trans (hb3.mono hbw2.drew.size);have hk3:=hk2.drew.trans (hb3.mono hz2)))
 obtain ⟨q0,q1,q2,q3,q4,q5⟩:=H4.out _ hk3
 go_wp2_with fail
 have hbF:=((hb12.setCell (p:=⟨w.heap.size,0,none⟩) (Nat.le_refl _) (.slice none 0 0)).setCell (p:=⟨w.heap.size,1,none⟩) (Nat.le_refl _) (.slice none 0 0)).setCell (p:=⟨w.heap.size,2,none⟩) (Nat.le_refl _) (.slice none 0 0);obtain ⟨r1,r2⟩:=HFin.out _ hbF
 refine bodyPost_ret (v:=.tuple #[.agg #[.slice none 0 0,.slice none 0 0,.slice none 0 0],.int .i64 wc]) ?_ rfl ⟨r1,r2,.inr ⟨hw,rfl⟩⟩
 simp [results,Tryz.results115,go_sem,q0,q1,q2]
structure SgAt (w4 wr:World) (N k:Nat) (sg:Nat->Int) (lv nv:Value):Prop where
 bel:Below w4.heap.size w4 wr
 row:wr.rowIs w4.heap.size 3 N (fun j=>.int .i64 (if j < k then sg j else 0))
 box:St3 wr (w4.heap.size+1) lv nv (.slice (some ⟨w4.heap.size,0,none⟩) N N)
theorem SgAt.start (w4:World) (N:Nat) (sg:Nat->Int) (lv nv:Value):SgAt w4 ((w4.alloc (.cells (madeCells #[.int .i64 0] N) 3)).alloc (.cells #[lv,nv,.slice (some ⟨w4.heap.size,0,none⟩) N N] 203)) N 0 sg lv nv:=by
 refine ⟨((Below.refl _ _).alloc (Nat.le_refl _) _).alloc (by simp) _,?_,?_⟩
 ·exact ((World.rowIs_made w4 (.int .i64 0) N 3).alloc _).congr (fun j _=>by simp)
 ·have:=St3.new (w4.alloc (.cells (madeCells #[.int .i64 0] N) 3)) lv nv (.slice (some ⟨w4.heap.size,0,none⟩) N N) 203
  rw [World.size_alloc] at this;exact this
theorem SgAt.later {w4 wr w':World} {N k:Nat} {sg:Nat->Int} {lv nv:Value} (h:SgAt w4 wr N k sg lv nv) (hb:Below wr.heap.size wr w'):SgAt w4 w' N k sg lv nv:=
 ⟨h.bel.trans (hb.mono h.bel.size),h.row.of_block (hb.block _ h.row.lt),h.box.later hb⟩
theorem SgAt.put {w4 wr:World} {N k:Nat} {sg:Nat->Int} {lv nv:Value} (h:SgAt w4 wr N k sg lv nv):SgAt w4 (wr.setCell ⟨w4.heap.size,k,none⟩ (.int .i64 (sg k))) N (k+1) sg lv nv:=by
 refine ⟨h.bel.setCell (p:=⟨w4.heap.size,k,none⟩) (Nat.le_refl _) _,(h.row.set k _).congr (fun j hj=>?_),?_⟩
 ·by_cases e:j=k
  ·subst e
   rw [if_pos rfl,if_pos (Nat.lt_succ_self _)]
  ·rw [if_neg e]
   by_cases h1:j < k
   ·rw [if_pos h1,if_pos (by omega)]
   ·rw [if_neg h1,if_neg (by omega)]
 ·obtain ⟨h0,⟨a,b,c⟩,d,e,f⟩:=h.box
  refine ⟨by simpa using h0,⟨?_,?_,?_⟩,?_,?_,?_⟩ <;> simp [go_sem,a,b,c,d,e,f]
theorem SgAt.done {w4 wr:World} {N:Nat} {sg:Nat->Int} {lv nv:Value} (h:SgAt w4 wr N N sg lv nv):zAD wr (.slice (some ⟨w4.heap.size,0,none⟩) N N) ((List.range N).map sg):=by
 refine ⟨some ⟨w4.heap.size,0,none⟩,N,by simp,fun _=>⟨w4.heap.size,0,rfl,h.row.lt,fun i hi=>?_⟩⟩
 have hi':i < N:=by simpa using hi
 rw [Nat.zero_add,h.row.cell hi',if_pos hi'];simp [List.getD_eq_getElem?_getD,hi']
theorem zLp (w0 w:World) (B bs bl n:Nat) (va vr pv fv:Value) (m:Mo) (ps:List (List (Int × Int))) (l:List (Int × Int)) (ho:Option Addr) (hc:Nat) (code:Int) (hI:-9223372036854775808 <= code/\code <= 9223372036854775807) (hB:0 < w0.heap.size) (hT:zAJ w0) (hV:TaskV w0 va vr pv fv m ps l) (hk:zAK m ps l=0) (hS:SvOk Pz w0 w B bs bl n va vr pv fv m ps l ho hc) (hn:n < 1000000000000)
  (f:Lit->Option Value) (hf:zAg w 3 bs n f) (hfs:∀ kl v,f kl=some v->∃ code,kl=.int .i64 code/\(0 <= code/\code < zAC m.vars m.vars.length)/\zAy Pz w m ps l code v) (hv:f (.int .i64 code)=none) (hcr:0 <= code/\code < zAC m.vars m.vars.length) :
  Calls Tryz.prog 115 #[.pointer (some ⟨B,0,none⟩),.int .i64 code] w (zEh Pz w0 w B bs bl n va vr pv fv m ps l ho hc code):=by
 obtain ⟨hp0,hl0⟩:=zA3 hk;obtain ⟨hm0,_⟩:=zBJ hp0;obtain ⟨_,_,hz,_,h6⟩:=zAv hl0;have hw:=zBk hm0 hcr;obtain ⟨ao,ac,rfl⟩:=hV.mo.1.shape;obtain ⟨ro,rc,rfl⟩:=hV.mo.2.shape;obtain ⟨po,pc,rfl⟩:=hV.ps.shape;obtain ⟨fo,fc,rfl,_⟩:=id hV.fo
 obtain ⟨W1,hW1⟩:∃ W1,W1=w.alloc (.cells #[.slice none 0 0,.slice none 0 0,.slice none 0 0] 203):=⟨_,rfl⟩
 have hb1:Below w.heap.size w W1:=by rw [hW1];exact (Below.refl _ _).alloc (Nat.le_refl _) _
 have hlk:(Instr.lookup 123 (.map (some bs)) (.int .i64 code) true).run Tryz.prog W1=.ok (.tuple #[.agg #[.slice none 0 0,.slice none 0 0,.slice none 0 0],.bool false]) W1:=by
  have:=(hf.kept (hb1.block _ hf.lt)).look zFe Tryz.underlying123 (zGL _) (zM0 hI);rw [hv] at this;exact this
 have c5:=(hS.box.later hb1).c5;have hb2:Below w.heap.size w (W1.alloc (.cells #[.slice none 0 0,.slice none 0 0,.slice none 0 0] 203)):=hb1.alloc hb1.size _
 have HLe:Hid (∀ w1,Below w.heap.size w w1->Calls Tryz.prog 40 #[.agg #[.slice ao m.vars.length ac,.slice ro m.rules.length rc],.slice po ps.length pc,.int .i64 code] w1 fun e w'=>∃ lo lc,e=.returned (.tuple #[.slice lo ps.length lc,.int .i64 0])/\Below w1.heap.size w1 w'/\Hid (zAQ w' (.slice lo ps.length lc) (zAG m ps code)/\zAe w' (.slice lo ps.length lc) 4)):=fun w1 h=>by
  have h0:=hS.bel.trans (h.mono hS.bel.size);refine (zIR _ _ _ m ps code w1 (Nat.lt_of_lt_of_le hB h0.size) (hT.below h0 hB) (hV.mo.below h0) (hV.ps.below h0)).mono fun e w' ⟨v,h1,h2,h3,h4⟩=>?_
  obtain ⟨t1,t2⟩:=zEE hk hcr;obtain ⟨lo,lc,rfl,hx⟩:=h3;rw [t2] at h1 h4;exact ⟨lo,lc,by rw [h1,t1],h2,⟨lo,lc,by rw [t2],hx⟩,h4⟩
 have HNe:Hid (∀ w1,Below w.heap.size w w1->Calls Tryz.prog 11 #[.agg #[.slice ao m.vars.length ac,.slice ro m.rules.length rc],.int .i64 code] w1 fun e w'=>∃ no nc,e=.returned (.tuple #[.slice no (zAB m code).length nc,.int .i64 0])/\Below w1.heap.size w1 w'/\Hid (zAD w' (.slice no (zAB m code).length nc) (zAB m code)/\zAe w' (.slice no (zAB m code).length nc) 3/\∀ a,no=some a->Pz a.block)):=fun w1 h=>by
  have h0:=hS.bel.trans (h.mono hS.bel.size);refine (zHk _ _ m code w1 (Nat.lt_of_lt_of_le hB h0.size) (hT.below h0 hB) (hV.mo.below h0) hm0).mono fun e w' ⟨v,h1,h2,h3'⟩=>?_
  have h4:=zAe.owns h3';have h5:=zME h3';have h3:=zBH h3';have e1:zCl m code=zAB m code:=by unfold zCl;rw [if_pos hw]
  rw [e1] at h3;obtain ⟨no,nc,rfl,hx⟩:=h3;exact ⟨no,nc,by rw [h1,hw],h2,⟨no,nc,rfl,hx⟩,h4,fun a e=>hS.up _ (Nat.le_trans h.size (h5 a _ _ (by rw [e])))⟩
 have HSg:Hid (∀ (w1:World) (c:Nat) (lv:Value),Below w.heap.size w w1->c < 2 ^ (zAA l).length->zAQ w1 lv (zAG m ps code)->Calls Tryz.prog 157 #[.pointer (some ⟨B,0,none⟩),lv,.int .i64 (c:Int)] w1 fun e w'=>e=.returned (.tuple #[.int .i64 (zFl l (zAG m ps code) c),.int .i64 0])/\Below w1.heap.size w1 w'):=fun w1 c lv h hcN hlv=>by
  have h0:=hS.bel.trans (h.mono hS.bel.size);exact zNQ B _ _ _ _ lv l (zAG m ps code) c ho hc bs bl w1 (Nat.lt_of_lt_of_le hB h0.size) (hT.below h0 hB) (hV.fo.below h0) hlv hz h6 (zFI hk hcr hcN).1 (hS.box.later h) (hS.ah.below h)
 have HCl:Hid (∀ w1,Below w.heap.size w w1->Calls Tryz.prog 77 #[.pointer (some ⟨B,0,none⟩)] w1 fun e w'=>e=.returned (.int .i64 ((2 ^ (zAA l).length:Nat):Int))/\w'=w1):=fun w1 h=>zFQ B _ _ _ _ ho _ hc bs bl w1 h6 (hS.box.later h)
 have HSB:Hid (∀ w1,Below w.heap.size w w1->w1.cell? ⟨B,0,none⟩=some (.slice ao m.vars.length ac)/\w1.cell? ⟨B,1,none⟩=some (.slice ro m.rules.length rc)/\w1.cell? ⟨B,2,none⟩=some (.slice po ps.length pc)/\w1.cell? ⟨B,5,none⟩=some (.map (some bs))):=fun w1 h=>⟨(hS.box.later h).c0,(hS.box.later h).c1,(hS.box.later h).c2,(hS.box.later h).c5⟩
 have HPut:Hid (∀ w1,Below w.heap.size w w1->∀ v,∃ w',(Instr.mapUpdate 123 (.map (some bs)) (.int .i64 code) v).run Tryz.prog w1.drew=.ok () w'/\zAg w' 3 bs (n+1) (zEm f (.int .i64 code) v)/\w1.grownBy w' (some bs)):=fun w1 h v=>by
  have hm1:zAg w1.drew 3 bs n f:=hf.kept (h.block _ hf.lt);obtain ⟨w',h1,h2,h3⟩:=hm1.put zFe Tryz.underlying123 (by unfold maxLen;omega) (val:=v) (zM0 hI) (by simp [WideAt.IsKeyLit])
  exact ⟨w',h1,h2,⟨h3.os,h3.tape,h3.output,h3.size,h3.block⟩⟩
 have HTwo:Hid (∀ w1,Below w.heap.size w w1->zBz w1 bs bl):=fun w1 h=>(hS.below h).two
 have H4:Hid (∀ w',Below (w.heap.size+1) W1 w'->St3 w' w.heap.size (.slice none 0 0) (.slice none 0 0) (.slice none 0 0)):=fun w' h=>by
  have h3:St3 W1 w.heap.size (.slice none 0 0) (.slice none 0 0) (.slice none 0 0):=by rw [hW1];exact St3.new _ _ _ _ _
  obtain ⟨g0,⟨a,b,c⟩,d,e,f⟩:=h3;have hlt:w.heap.size < w.heap.size+1:=Nat.lt_succ_self _
  exact ⟨Nat.lt_of_lt_of_le g0 h.size,⟨(h.cell (p:=⟨w.heap.size,0,none⟩) hlt).trans a,(h.cell (p:=⟨w.heap.size,1,none⟩) hlt).trans b,(h.cell (p:=⟨w.heap.size,2,none⟩) hlt).trans c⟩,(h.frozen (p:=⟨w.heap.size,0,none⟩) hlt).trans d,(h.frozen (p:=⟨w.heap.size,1,none⟩) hlt).trans e,(h.frozen (p:=⟨w.heap.size,2,none⟩) hlt).trans f⟩
 have HPN:Hid (∀ w' v,Sk bs bl w w'->w'.heap[bl]? = w.heap[bl]?->zAg w' 3 bs (n+1) (zEm f (.int .i64 code) v)->zAy Pz w' m ps l code v->SvOk Pz w0 w' B bs bl (n+1) (.slice ao m.vars.length ac) (.slice ro m.rules.length rc) (.slice po ps.length pc) (.slice fo l.length fc) m ps l ho hc):=fun w' v h1 h2 h3 h4=>hS.putN h1 h2 hfs h3 hcr h4
 have hbs:bs < w.heap.size:=hf.lt;have hbl:bl < w.heap.size:=by obtain ⟨g,h1,_⟩:=hS.li;exact h1.lt
 have hne:=hS.ne;have hz1:W1.heap.size=w.heap.size+1:=by rw [hW1];simp
 have hN64:2 ^ (zAA l).length <= 64:=Nat.pow_le_pow_right (show 0 < 2 by decide) h6
 have HStI:Hid (∀ (w':World) (lo no so:Option Addr) (lc nc sc:Nat),zAQ w' (.slice lo ps.length lc) (zAG m ps code)->zAD w' (.slice no (zAB m code).length nc) (zAB m code)->zAD w' (.slice so (2 ^ (zAA l).length) sc) ((List.range (2 ^ (zAA l).length)).map (zFl l (zAG m ps code)))->zAe w' (.slice lo ps.length lc) 4->zAe w' (.slice no (zAB m code).length nc) 3->zAe w' (.slice so (2 ^ (zAA l).length) sc) 3->(∀ a,no=some a->Pz a.block)->(∀ a,so=some a->Pz a.block)->zAy Pz w' m ps l code (.agg #[.slice lo ps.length lc,.slice no (zAB m code).length nc,.slice so (2 ^ (zAA l).length) sc])):=fun w' lo no so lc nc sc h1 h2 h3 h4 h5 h6 h7 h8=>⟨lo,lc,no,nc,so,sc,rfl,h1,h2,h3,h4,h5,h6,h7,h8⟩
 have HUp:Hid (∀ b,w.heap.size <= b->Pz b):=hS.up
 unfold zEh;have HW:Hid (zAr m code=0):=hw;generalize zFl l (zAG m ps code)=sg at *;generalize hlt:zAG m ps code=lt at *;generalize hnx:zAB m code=nx at *;generalize nx.length=nn at *;generalize m.vars.length=vn at *;generalize m.rules.length=rn at *;generalize ps.length=pn at *;generalize l.length=fn at *;generalize 2 ^ (zAA l).length=N at *
 clear hS hf hfs hv hT hV hk hp0 hl0 hz h6 hlt hnx hw hm0;obtain ⟨W2,hW2⟩:∃ W2,W2=W1.alloc (.cells #[.slice none 0 0,.slice none 0 0,.slice none 0 0] 203):=⟨_,rfl⟩
 have hk2:Below (w.heap.size+1) W1 W2:=by rw [hW2];exact (Below.refl _ _).alloc (by omega) _
 have hbw2:Below w.heap.size w W2:=by rw [hW2];exact hb2
 have hz2:w.heap.size+1 <= W2.heap.size:=by rw [hW2];simp [hz1]
 rw [hW1] at hW2;subst hW1
 go_enter Tryz.func115,Tryz.ntmps115
 go_wp2_with fail
 rw [<- hW2];clear hW2 hlk c5;have hle:=HLe.out _ hbw2.drew;have HSC:Hid (∀ w1,Below w.heap.size w w1->w1.cell? ⟨B,0,none⟩=some (.slice ao vn ac)/\w1.cell? ⟨B,1,none⟩=some (.slice ro rn rc)/\w1.cell? ⟨B,2,none⟩=some (.slice po pn pc)):=fun w1 h=>by obtain ⟨y0,y1,y2,_⟩:=HSB.out _ h;exact ⟨y0,y1,y2⟩
 have hmk:=run_make_row' (P:=Tryz.prog) 37 3 (.int .i64 0) 8 Tryz.underlying37 zA8 rfl .i64 .i64 N (by omega) (by omega)
 go_region_held3 (fun w'=>w'.cell? ⟨B,0,none⟩=some (.slice ao vn ac)/\w'.cell? ⟨B,1,none⟩=some (.slice ro rn rc)/\w'.cell? ⟨B,2,none⟩=some (.slice po pn pc))
  (first | exact HSC.out _ hb12 | exact HSC.out _ hbw2.drew | exact HSC.out _ hbw2)
  (first
   | (go_at_call 40;refine hle.mono ?_;rintro e w3 ⟨lo,lc,rfl,hb3,HLv⟩;have hb12:=hbw2.drew.trans (hb3.mono hbw2.drew.size);have hk3:=hk2.drew.trans (hb3.mono hz2)))
 obtain ⟨z0,z1,z2,_⟩:=HSB.out _ hb12;have hnx:=HNe.out w3 hb12
 go_wp2_with (first | (go_at_call 11;refine hnx.mono ?_;rintro e w4 ⟨no,nc,rfl,hb4,HNv⟩;have hb14:=hb12.trans (hb4.mono hb12.size);have hk4:=hk3.trans (hb4.mono (Nat.le_trans hz2 hb3.size));have hcl:=HCl.out w4 hb14) | (go_at_call 77;refine hcl.mono ?_;rintro e w5 ⟨rfl,rfl⟩))
 clear hmk hle hnx hcl;have HS0:Hid (SgAt w5 ((w5.alloc (.cells (madeCells #[.int .i64 0] N) 3)).alloc (.cells #[.slice lo pn lc,.slice no nn nc,.slice (some ⟨w5.heap.size,0,none⟩) N N] 203)) N 0 sg (.slice lo pn lc) (.slice no nn nc)):=SgAt.start _ _ _ _ _;have HLt:Hid (∀ w',Below w5.heap.size w5 w'->zAQ w' (.slice lo pn lc) lt):=fun w' h=>(HLv.out.1.below hb4).below h
 generalize (w5.alloc (.cells (madeCells #[.int .i64 0] N) 3)).alloc (.cells #[.slice lo pn lc,.slice no nn nc,.slice (some ⟨w5.heap.size,0,none⟩) N N] 203)=W5 at *;obtain ⟨_,⟨x0,x1,x2⟩,_,_,_⟩:=HS0.out.box
 go_wp2_with fail
 go_loopw [12,66,9] (fun _ i _ wr=>∃ k:Nat,k <= N/\i=.int .i64 k/\Hid (SgAt w5 wr N k sg (.slice lo pn lc) (.slice no nn nc))) (fun _ i _ _=>N - (intOf i).toNat)
 case atStart=>exact ⟨0,Nat.zero_le _,rfl,HS0⟩
 case round=>
  obtain ⟨k,hk,rfl,HA⟩:=hrel;have hA:=HA.out;obtain ⟨_,⟨e0,e1,e2⟩,_,_,_⟩:=id hA.box;have hbr:=hb14.trans (hA.bel.mono hb14.size)
  by_cases hkN:k < N
  ·have hsg:=HSg.out wr.drew k _ hbr.drew hkN (HLt.out _ hA.bel.drew)
   have HAd:Hid (∀ w',Below wr.heap.size wr w'->SgAt w5 w' N k sg (.slice lo pn lc) (.slice no nn nc)):=fun w' h=>hA.later h
   have HEB:Hid (∀ w',Below wr.heap.size wr w'->w'.cell? ⟨w5.heap.size+1,2,none⟩=some (.slice (some ⟨w5.heap.size,0,none⟩) N N)):=fun w' h=>(hA.later h).box.2.1.2.2
   have hB0:Below wr.heap.size wr wr:=Below.refl _ _;have hki:(k:Int) < (N:Int):=by omega
   clear hA HA
   go_wp2_with fail
   go_region_held3 (fun w'=>w'.cell? ⟨w5.heap.size+1,2,none⟩=some (.slice (some ⟨w5.heap.size,0,none⟩) N N))
    (first | exact HEB.out _ hb6 | exact HEB.out _ hB0.drew | exact HEB.out _ hB0 | simp [go_sem,HEB.out _ hb6])
    (first
     | (go_at_call 157;refine hsg.mono ?_;rintro e w6 ⟨rfl,hb6'⟩;have hb6:=hB0.drew.trans (hb6'.mono hB0.drew.size);have hA6:=HAd.out _ hb6;have f0:=hA6.row.cell hkN;have f1:=hA6.row.frozen k;have HA7:=(show Hid _ from hA6.put);clear hA6))
   go_wp2_with fail
   go_roundw
   case rel=>exact ⟨k+1,by omega,by go_num,HA7⟩
   case measure=>simp [intOf];omega
  ·obtain rfl:k=N:=by omega
   obtain ⟨w7,hput,hm7,hg7⟩:=HPut.out wr hbr (.agg #[.slice lo pn lc,.slice no nn nc,.slice (some ⟨w5.heap.size,0,none⟩) k k]);obtain ⟨_,_,_,z5⟩:=HSB.out wr hbr;have htw:=HTwo.out wr hbr;have hsk:Sk bs bl wr w7:=Sk.grown hg7 (.inl rfl);have hkr:=hk4.trans (hA.bel.mono (by have:=hb4.size;have:=hb3.size;simp at *;omega))
   have hst4:=H4.out _ hkr
   have HFin:Hid (∀ w8,w8=((w7.setCell ⟨w.heap.size,0,none⟩ (.slice lo pn lc)).setCell ⟨w.heap.size,1,none⟩ (.slice no nn nc)).setCell ⟨w.heap.size,2,none⟩ (.slice (some ⟨w5.heap.size,0,none⟩) k k)->Sk bs bl w w8/\SvOk Pz w0 w8 B bs bl (n+1) (.slice ao vn ac) (.slice ro rn rc) (.slice po pn pc) (.slice fo fn fc) m ps l ho hc/\zAy Pz w8 m ps l code (.agg #[.slice lo pn lc,.slice no nn nc,.slice (some ⟨w5.heap.size,0,none⟩) k k])):=fun w8 e8=>by
    obtain ⟨_,⟨y0,y1,y2⟩,_,_,_⟩:=id hst4;have y0':=hsk.cell htw y0;have y1':=hsk.cell htw y1;have y2':=hsk.cell htw y2;have y1a:(w7.setCell ⟨w.heap.size,0,none⟩ (.slice lo pn lc)).cell? ⟨w.heap.size,1,none⟩=some (.slice none 0 0):=by simp [go_sem,y1']
    have y2a:((w7.setCell ⟨w.heap.size,0,none⟩ (.slice lo pn lc)).setCell ⟨w.heap.size,1,none⟩ (.slice no nn nc)).cell? ⟨w.heap.size,2,none⟩=some (.slice none 0 0):=by simp [go_sem,y2']
    have s1:Sk bs bl w w8:=by
     rw [e8];exact ((((Sk.of hbr).trans hsk).setNew (p:=⟨w.heap.size,0,none⟩) (Nat.le_refl _) _).setNew (p:=⟨w.heap.size,1,none⟩) (Nat.le_refl _) _).setNew (p:=⟨w.heap.size,2,none⟩) (Nat.le_refl _) _
    have hbk:∀ i,i < w.heap.size->w8.heap[i]? = w7.heap[i]?:=fun i hi=>by
     rw [e8,RowKit.Below.heap_setCell _ _ _ _ (show i≠w.heap.size by omega),RowKit.Below.heap_setCell _ _ _ _ (show i≠w.heap.size by omega),RowKit.Below.heap_setCell _ _ _ _ (show i≠w.heap.size by omega)]
    have hso:zAy Pz w8 m ps l code (.agg #[.slice lo pn lc,.slice no nn nc,.slice (some ⟨w5.heap.size,0,none⟩) k k]):=by
     rw [e8];refine HStI.out _ lo no (some ⟨w5.heap.size,0,none⟩) lc nc k ?_ ?_ ?_ ?_ ?_ ?_ ?_ ?_
     ·exact ((((HLt.out wr hA.bel).sk hsk htw).setBox y0' _).setBox y1a _).setBox y2a _
     ·exact (((((HNv.out.1.below hA.bel)).sk hsk htw).setBox y0' _).setBox y1a _).setBox y2a _
     ·exact (((hA.done.sk hsk htw).setBox y0' _).setBox y1a _).setBox y2a _
     ·exact ((((((HLv.out.2.below hb4).below hA.bel).sk hsk htw).setCell _ _ _).setCell _ _ _).setCell _ _ _)
     ·exact (((((HNv.out.2.1.below hA.bel).sk hsk htw).setCell _ _ _).setCell _ _ _).setCell _ _ _)
     ·refine (((zAe.sk (fun a n c e=>?_) hsk htw).setCell _ _ _).setCell _ _ _).setCell _ _ _
      injection e with e _ _
      injection e with e
      subst e;obtain ⟨cs,hcs,_⟩:=hA.row;exact ⟨cs,(0,0),hcs⟩
     ·exact HNv.out.2.2
     ·intro a e
      injection e with e
      subst e;exact HUp.out _ hb14.size
    refine ⟨s1,HPN.out w8 _ s1 ?_ (hm7.kept (hbk bs hbs)) hso,hso⟩
    rw [hbk bl hbl,hg7.block bl (Nat.lt_of_lt_of_le hbl hbr.size) (by intro e;injection e with e;exact hne e.symm),hbr.block bl hbl]
   obtain ⟨_,⟨y0,y1,y2⟩,y3,y4,y5⟩:=id hst4;have v0:=hsk.cell htw y0;have v1:=hsk.cell htw y1;have v2:=hsk.cell htw y2;have u0:=hsk.cell htw e0;have u1:=hsk.cell htw e1;have u2:=hsk.cell htw e2;have z7:=hsk.cell htw z5
   have g0:w7.frozen? ⟨w.heap.size,0,none⟩=false:=(World.frozen?_of_block (hg7.block w.heap.size hst4.1 (by intro e;injection e with e;omega))).trans y3
   have g1:w7.frozen? ⟨w.heap.size,1,none⟩=false:=(World.frozen?_of_block (hg7.block w.heap.size hst4.1 (by intro e;injection e with e;omega))).trans y4
   have g2:w7.frozen? ⟨w.heap.size,2,none⟩=false:=(World.frozen?_of_block (hg7.block w.heap.size hst4.1 (by intro e;injection e with e;omega))).trans y5
   clear HA hA hst4 hsk htw hm7 hg7 hkr HSg HLe HNe HCl HSB HPut HTwo H4 HPN HLt HNv HStI HS0
   go_wp2_with fail
   go_region_held3 (fun w'=>w'.cell? ⟨B,5,none⟩=some (.map (some bs))/\w'.cell? ⟨w5.heap.size+1,0,none⟩=some (.slice lo pn lc)/\w'.cell? ⟨w5.heap.size+1,1,none⟩=some (.slice no nn nc)/\w'.cell? ⟨w5.heap.size+1,2,none⟩=some (.slice (some ⟨w5.heap.size,0,none⟩) k k))
    (first | exact ⟨z5,e0,e1,e2⟩ | exact ⟨z7,u0,u1,u2⟩)
    (fail)
   go_wp2_with fail
   obtain ⟨r1,r2,r3⟩:=HFin.out _ rfl;refine bodyPost_ret (v:=.tuple #[.agg #[.slice lo pn lc,.slice no nn nc,.slice (some ⟨w5.heap.size,0,none⟩) k k],.int .i64 0]) ?_ rfl ⟨r1,r2,.inl ⟨HW.out,lo,lc,no,nc,some ⟨w5.heap.size,0,none⟩,k,rfl,r3⟩⟩
   simp [results,Tryz.results115,go_sem,v0,v1,v2]
theorem zE8 (w0 w:World) (B bs bl n:Nat) (va vr pv fv:Value) (m:Mo) (ps:List (List (Int × Int))) (l:List (Int × Int)) (ho:Option Addr) (hc:Nat) (code:Int) (hI:-9223372036854775808 <= code/\code <= 9223372036854775807) (hB:0 < w0.heap.size) (hT:zAJ w0) (hV:TaskV w0 va vr pv fv m ps l) (hk:zAK m ps l=0) (hS:SvOk Pz w0 w B bs bl n va vr pv fv m ps l ho hc) (hn:n < 1000000000000) :
  Calls Tryz.prog 115 #[.pointer (some ⟨B,0,none⟩),.int .i64 code] w (zEh Pz w0 w B bs bl n va vr pv fv m ps l ho hc code):=by
 obtain ⟨f,hf,hfs⟩:=hS.st;have hm0:=(zBJ (zA3 hk).1).1
 cases hv:f (.int .i64 code) with
 | some v=>exact zJi w0 w B bs bl n va vr pv fv m ps l ho hc code hI hm0 hS f hf hfs v hv
 | none=>
  by_cases hcr:0 <= code/\code < zAC m.vars m.vars.length
  ·exact zLp w0 w B bs bl n va vr pv fv m ps l ho hc code hI hB hT hV hk hS hn f hf hfs hv hcr
  ·exact zLU w0 w B bs bl n va vr pv fv m ps l ho hc code hI hB hT hV hk hS f hf hv (by rw [zKl hm0 hcr];decide)
end Go.Proofs.YtiimhhjkgeepjaaGreatDoor
namespace Go.Proofs.YtiimhhjkgeepjaaGreatDoor
open Go.ChangeShapes Go.WideShapes Go.ChangeAt Go.RowKit Go.Deep Go.Maps
open Terms Tm
set_option maxHeartbeats 6400000
set_option maxRecDepth 20000
theorem zJz:laidOutB Tryz.prog=true:=by kernel_rfl
theorem zSC:(231:TypeId) < Tryz.prog.types.size:=of_decide_eq_true (by kernel_rfl)
theorem zEx:Keyed Tryz.prog 231:=Keyed.of_law (deep_law_laid zJz (m:=3) (by omega) zSC (by kernel_rfl) (by rw [Tryz.underlying231]))
theorem zMG:∃ d,Tryz.prog.types.size=d+2:=⟨Tryz.prog.types.size - 2,by have h:2 <= Tryz.prog.types.size:=of_decide_eq_true (by kernel_rfl);omega⟩
theorem zLo:Tryz.prog.keyType 231=true:=by kernel_rfl
theorem zJP:Tryz.prog.cellsOf 231=8:=by kernel_rfl
theorem zOx:Tryz.prog.cellsOf 229=6:=by kernel_rfl
theorem zS9:Tryz.prog.cellsOf 4=1:=by kernel_rfl
theorem zOa:Tryz.prog.cellsOf 3=1:=by kernel_rfl
theorem zRd (y0 y1 y2 y3 y4 y5:Bool) {c s:Int} (hc:-9223372036854775808 <= c/\c <= 9223372036854775807) (hs:-9223372036854775808 <= s/\s <= 9223372036854775807) :
  ∃ kl,keyOf Tryz.prog 231 (.agg #[.bool y0,.bool y1,.bool y2,.bool y3,.bool y4,.bool y5,.int .i64 c,.int .i64 s])=some kl:=by
 obtain ⟨d,hd⟩:=zMG;have hwc:(Lit.int .i64 c).wf=true:=WalkArith.wf_i64 (by omega)
 have hws:(Lit.int .i64 s).wf=true:=WalkArith.wf_i64 (by omega)
 unfold keyOf;rw [Tryz.underlying231];simp only [zLo,Value.formed,Tryz.underlying231,zJP,hd];simp [Program.keyLits,Tryz.underlying231,Tryz.underlying229,Tryz.underlying4,Tryz.underlying3,zJP,zOx,zS9,zOa,Value.cells,hwc,hws,List.range,List.range.loop]
theorem zR7 {x:List Bool} (h:x.length <= 6):(six x).length=6:=by simp [six];omega
theorem zOp {z:List Bool} (h:z.length=6):∃ y0 y1 y2 y3 y4 y5,z=[y0,y1,y2,y3,y4,y5]:=by
 match z,h with
 | [a,b,c,d,e,f],_=>exact ⟨a,b,c,d,e,f,rfl⟩
theorem zKX (w:World) (g:Nat) (cs:Array Value):w.grownBy (w.setRow g cs) (some g):=by
 refine ⟨rfl,rfl,rfl,by simp [World.setRow],fun k _ hk=>?_⟩
 simp only [World.setRow,Array.getElem?_modify]
 rw [if_neg (fun e=>hk (by rw [e]))]
theorem zGd:(Tryz.prog.info? 4).map (·.size)=some 1:=by kernel_rfl
theorem zOB (w:World) (g:Nat) (lo:Option Addr) (pn lc:Nat) (x:List Bool) (c s:Int) (t ty:TypeId) (hx:zAQ w (.slice lo pn lc) x) (hl:x.length=pn) (h6:pn <= 6) (hg:w.heap[g]? = some (.cells #[.bool false,.bool false,.bool false,.bool false,.bool false,.bool false,.int .i64 c,.int .i64 s] t (0,0))) :
  ∃ w' y0 y1 y2 y3 y4 y5,(Builtin.copy_ #[104,104] ty #[.slice (some ⟨g,0,none⟩) 6 6,.slice lo pn lc]).run Tryz.prog w=.ok (goInt pn) w'/\six x=[y0,y1,y2,y3,y4,y5]/\w'.heap[g]? = some (.cells #[.bool y0,.bool y1,.bool y2,.bool y3,.bool y4,.bool y5,.int .i64 c,.int .i64 s] t (0,0))/\w.grownBy w' (some g):=by
 obtain ⟨y0,y1,y2,y3,y4,y5,hy⟩:=zOp (zR7 (x:=x) (by omega))
 rcases Nat.eq_zero_or_pos pn with h0 | h0
 ·subst h0
  have hx0:x=[]:=List.length_eq_zero_iff.1 hl;subst hx0;have e:[y0,y1,y2,y3,y4,y5]=[false,false,false,false,false,false]:=by rw [<- hy];rfl
  simp only [List.cons.injEq,and_true] at e;obtain ⟨rfl,rfl,rfl,rfl,rfl,rfl⟩:=e;exact ⟨w,_,_,_,_,_,_,run_copy_none w _ _ _ 4 _ _ _ _ _ _ Tryz.underlying104 zGd (by simp),hy,hg,⟨rfl,rfl,rfl,Nat.le_refl _,fun _ _ _=>rfl⟩⟩
 ·obtain ⟨ao,cap,e1,hx⟩:=hx
  injection e1 with e1 e2 e3
  subst e1;obtain ⟨b,off,rfl,hb,hat⟩:=hx (by intro e;rw [e] at hl;simp at hl;omega)
  have hrun:=run_copy_row (P:=Tryz.prog) w 104 104 ty 4 g 0 6 6 ⟨b,off,none⟩ pn lc _ t (x.map Value.bool) Tryz.underlying104 zGd hg (by rw [List.length_map,hl];exact (Nat.min_eq_left h6).symm)
   (fun j v hv=>by
    rw [List.getElem?_map] at hv
    cases hxj:x[j]? with
    | none=>rw [hxj] at hv;simp at hv
    | some u=>
     rw [hxj] at hv;have hj:j < x.length:=(List.getElem?_eq_some_iff.1 hxj).1
     have:=hat j hj;rw [add_plain,this];rw [List.getD_eq_getElem?_getD,hxj]
     simpa using hv) (by simp;omega) (fun v hv=>by
    simp only [List.mem_map] at hv;obtain ⟨u,_,rfl⟩:=hv
    rfl)
  rw [List.length_map,hl] at hrun;refine ⟨_,y0,y1,y2,y3,y4,y5,hrun,hy,?_,zKX _ _ _⟩
  rw [setRow_heap w g _ _ t (0,0) hg]
  congr 2
  have e6:(six x).map Value.bool=[.bool y0,.bool y1,.bool y2,.bool y3,.bool y4,.bool y5]:=by rw [hy];rfl
  have e7:x.map Value.bool++List.drop pn [Value.bool false,.bool false,.bool false,.bool false,.bool false,.bool false,.int .i64 c,.int .i64 s]=(six x).map Value.bool++[.int .i64 c,.int .i64 s]:=by
   unfold six;rw [List.map_append,List.map_replicate,List.append_assoc,hl]
   congr 1
   have:pn=1\/pn=2\/pn=3\/pn=4\/pn=5\/pn=6:=by omega
   rcases this with rfl | rfl | rfl | rfl | rfl | rfl <;> rfl
  simp only [List.take_zero,List.nil_append,Nat.zero_add];rw [e7,e6];rfl
end Go.Proofs.YtiimhhjkgeepjaaGreatDoor
namespace Go.Proofs.YtiimhhjkgeepjaaGreatDoor
open Go
set_option maxHeartbeats 6400000
set_option maxRecDepth 20000
def zBO (S:List (Int × Int)) (s:Int × Int):List (Int × Int):=if s∈S then S else S++[s]
def zAb (S l:List (Int × Int)):List (Int × Int):=l.foldl zBO S
theorem zJR (S:List (Int × Int)) (s:Int × Int):S <+: zBO S s:=by
 unfold zBO
 split
 ·exact List.prefix_refl _
 ·exact List.prefix_append _ _
theorem zI9 (S:List (Int × Int)) (s:Int × Int):s∈zBO S s:=by
 unfold zBO
 split
 ·assumption
 ·exact List.mem_append_right _ (List.mem_singleton.2 rfl)
theorem zGc {S:List (Int × Int)} {s x:Int × Int}:x∈zBO S s↔x∈S\/x=s:=by
 unfold zBO
 split
 ·constructor
  ·exact Or.inl
  ·rintro (h | rfl) <;> assumption
 ·rw [List.mem_append,List.mem_singleton]
theorem zLF {S:List (Int × Int)} (h:S.Nodup) (s:Int × Int):(zBO S s).Nodup:=by
 unfold zBO
 split
 ·exact h
 ·next hs=>
  refine List.nodup_append.2 ⟨h,by simp,fun a ha b hb=>?_⟩
  rw [List.mem_singleton] at hb;subst hb;exact fun e=>hs (e ▸ ha)
theorem zKg (S:List (Int × Int)) (s:Int × Int):S.length <= (zBO S s).length/\(zBO S s).length <= S.length+1:=by
 unfold zBO
 split
 ·omega
 ·rw [List.length_append,List.length_singleton]
  omega
theorem zKN (S:List (Int × Int)):zAb S []=S:=rfl
theorem zJK (S:List (Int × Int)) (s:Int × Int) (l:List (Int × Int)):zAb S (s:: l)=zAb (zBO S s) l:=rfl
theorem zO0 (S l:List (Int × Int)) (s:Int × Int):zAb S (l++[s])=zBO (zAb S l) s:=by
 unfold zAb;rw [List.foldl_append];rfl
theorem zJ6 (l:List (Int × Int)):∀ S,S <+: zAb S l:=by
 induction l with
 | nil=>exact fun S=>List.prefix_refl _
 | cons s l ih=>exact fun S=>(zJR S s).trans (ih _)
theorem zDU (l:List (Int × Int)):∀ (S:List (Int × Int)) (x:Int × Int),x∈zAb S l↔x∈S\/x∈l:=by
 induction l with
 | nil=>intro S x;simp [zKN]
 | cons s l ih=>
  intro S x;rw [zJK,ih,zGc,List.mem_cons,or_assoc]
theorem zFv (l:List (Int × Int)):∀ S:List (Int × Int),S.Nodup->(zAb S l).Nodup:=by
 induction l with
 | nil=>exact fun S h=>h
 | cons s l ih=>exact fun S h=>ih _ (zLF h s)
theorem zD3 (l:List (Int × Int)):∀ S:List (Int × Int),S.length <= (zAb S l).length/\(zAb S l).length <= S.length+l.length:=by
 induction l with
 | nil=>intro S;rw [zKN];simp
 | cons s l ih=>
  intro S;have h1:=zKg S s;have h2:=ih (zBO S s);rw [zJK,List.length_cons];omega
theorem zG0 {S T:List (Int × Int)} (h:S <+: T) {s:Int × Int} (hs:s∈S):T.idxOf s=S.idxOf s:=by
 obtain ⟨R,rfl⟩:=h;rw [List.idxOf_append,if_pos hs]
theorem zJM {S:List (Int × Int)} {s:Int × Int} (hs:s∉S):(zBO S s).idxOf s=S.length:=by
 unfold zBO;rw [if_neg hs,List.idxOf_append,if_neg hs]
 simp
section
variable (beg : List (Int × Int)) (bh : Int × Int -> List (Int × Int))
def exS:Nat->List (Int × Int)
 | 0=>zAb [] beg
 | k+1=>zAb (exS k) (bh ((exS k).getD k (0,0)))
theorem zL6 (k:Nat):exS beg bh k <+: exS beg bh (k+1):=zJ6 _ _
theorem zGR {k j:Nat} (h:k <= j):exS beg bh k <+: exS beg bh j:=by
 induction h with
 | refl=>exact List.prefix_refl _
 | step _ ih=>exact ih.trans (zL6 beg bh _)
theorem zPF (k:Nat):(exS beg bh k).Nodup:=by
 induction k with
 | zero=>exact zFv _ _ List.nodup_nil
 | succ k ih=>exact zFv _ _ ih
theorem zOH {k j p:Nat} (h:k <= j) (hp:p < (exS beg bh k).length):(exS beg bh j).getD p (0,0)=(exS beg bh k).getD p (0,0):=by
 obtain ⟨R,hR⟩:=zGR beg bh h;rw [<- hR,List.getD_eq_getElem?_getD,List.getD_eq_getElem?_getD,List.getElem?_append_left hp]
end
end Go.Proofs.YtiimhhjkgeepjaaGreatDoor
namespace Go.Proofs.YtiimhhjkgeepjaaGreatDoor
open Go.ChangeShapes Go.WideShapes Go.ChangeAt Go.RowKit Go.Deep Go.Maps
open Terms Tm
set_option maxHeartbeats 6400000
set_option maxRecDepth 20000
theorem zRe:(133:TypeId) < Tryz.prog.types.size:=of_decide_eq_true (by kernel_rfl)
theorem zEr:Keyed Tryz.prog 133:=Keyed.of_law (deep_law_laid zJz (m:=3) (by omega) zRe (by kernel_rfl) (by rw [Tryz.underlying133]))
theorem zLq:Tryz.prog.keyType 133=true:=by kernel_rfl
theorem zIH:Tryz.prog.cellsOf 133=2:=by kernel_rfl
def zFw (p:Int × Int):Value:=.agg #[.int .i64 p.1,.int .i64 p.2]
def zEG (p:Int × Int):Prop:=(-9223372036854775808 <= p.1/\p.1 <= 9223372036854775807)/\(-9223372036854775808 <= p.2/\p.2 <= 9223372036854775807)
def zH7 (p:Int × Int):Lit:=.string (keyBytes [.int .i64 p.1,.int .i64 p.2])
theorem zFE {p:Int × Int} (h:zEG p):keyOf Tryz.prog 133 (zFw p)=some (zH7 p):=by
 obtain ⟨d,hd⟩:=zMG;have hwc:(Lit.int .i64 p.1).wf=true:=WalkArith.wf_i64 (by have:=h.1;omega)
 have hws:(Lit.int .i64 p.2).wf=true:=WalkArith.wf_i64 (by have:=h.2;omega)
 unfold keyOf zFw zH7;rw [Tryz.underlying133];simp only [zLq,Value.formed,Tryz.underlying133,zIH,hd];simp [Program.keyLits,Tryz.underlying133,Tryz.underlying3,zIH,zOa,Value.cells,hwc,hws,List.range]
theorem zPY {p q:Int × Int} (hp:zEG p) (hq:zEG q) (h:zH7 p=zH7 q):p=q:=by
 have e:=zEr.inj (zFE hp) (h ▸ zFE hq);simp only [zFw,Value.agg.injEq] at e;simp at e
 exact Prod.ext e.1 e.2
def zBb (w:World) (b:Nat) (S:List (Int × Int)):Prop:=
 ∃ f,zAg w 133 b S.length f/\∀ p,zEG p->f (zH7 p)=if p∈S then some (.int .i64 (S.idxOf p:Nat)) else none
theorem zBb.new {w:World} {b:Nat} (h:w.heap[b]? = some (.map #[] 0)):zBb w b []:=⟨_,zAg.new _ h,fun p _=>by simp⟩
theorem zBb.kept {w w':World} {b:Nat} {S:List (Int × Int)} (h:zBb w b S) (e:w'.heap[b]? = w.heap[b]?):zBb w' b S:=by
 obtain ⟨f,h1,h2⟩:=h;exact ⟨f,h1.kept e,h2⟩
theorem zBb.look {w:World} {b:Nat} {S:List (Int × Int)} (h:zBb w b S) {p:Int × Int} (hp:zEG p):(Instr.lookup 127 (.map (some b)) (zFw p) true).run Tryz.prog w=.ok (.tuple #[if p∈S then .int .i64 (S.idxOf p:Nat) else .int .i64 0,.bool (decide (p∈S))]) w:=by
 obtain ⟨f,h1,h2⟩:=h;rw [h1.look zEr Tryz.underlying127 (z:=.int .i64 0) (zDV w) (zFE hp),h2 p hp]
 split <;> simp [*]
theorem zBb.put {w:World} {b:Nat} {S:List (Int × Int)} (h:zBb w b S) {p:Int × Int} (hp:zEG p) (hS:p∉S) (hn:S.length < maxLen):∃ w',(Instr.mapUpdate 127 (.map (some b)) (zFw p) (.int .i64 (S.length:Nat))).run Tryz.prog w=.ok () w'/\zBb w' b (zBO S p)/\w.grownBy w' (some b):=by
 obtain ⟨f,h1,h2⟩:=h;obtain ⟨w',hr,hm,hg⟩:=h1.put zEr Tryz.underlying127 hn (val:=.int .i64 (S.length:Nat)) (zFE hp) (zEr.key (zFE hp));have e:zBO S p=S++[p]:=by unfold zBO;rw [if_neg hS]
 refine ⟨w',hr,⟨_,by rw [e,List.length_append,List.length_singleton];exact hm,fun q hq=>?_⟩,hg⟩
 by_cases hqp:q=p
 ·subst hqp
  rw [zEA,if_pos (zI9 S q),zJM hS]
 ·rw [zDl (fun e=>hqp (zPY hq hp e)),h2 q hq]
  by_cases hqS:q∈S
  ·rw [if_pos hqS,if_pos (zGc.2 (.inl hqS)),zG0 (zJR S p) hqS]
  ·rw [if_neg hqS,if_neg (fun e=>(zGc.1 e).elim hqS hqp)]
def atB (sv nv tv:Value) (init many:Int) (lm:Nat):Obj:=.cells #[sv,.int .i64 init,nv,tv,.int .i64 many,.map (some lm)] 129 (0,0)
def zGK (w:World) (base:Nat) (nv tv:Value) (N:List (List Int)):Prop:=
 ∃ us:List Value,w.ownsRow base 37 1 nv N.length us/\us.length=N.length/\∀ i,i < N.length->∃ ao c,us.getD i (.slice none 0 0)=.slice ao (N.getD i []).length c/\zAD w (.slice ao (N.getD i []).length c) (N.getD i [])/\zAe w (.slice ao (N.getD i []).length c) 3/\∀ a,ao=some a->tv.ownBlock≠some a.block/\base <= a.block
structure AtX (w:World) (base A lm:Nat) (S:List (Int × Int)) (N:List (List Int)) (T:List Int) (init many:Int) (sv nv tv:Value):Prop where
 box:w.heap[A]? = some (atB sv nv tv init many lm)
 bA:base <= A
 bl:base <= lm
 lies:zBb w lm S
 sp:SpO w base sv S
 nx:zGK w base nv tv N
 st:w.ownsRow base 3 1 tv T.length (zAL T)
section
variable {w w' : World} {base A lm : Nat} {S : List (Int × Int)} {N : List (List Int)} {T : List Int} {init many : Int} {sv nv tv : Value}
theorem zGK.chg {Z:Nat->Prop} (h:zGK w base nv tv N) (hs:Chg Z w w') (h1:∀ i,Z i->nv.ownBlock≠some i/\∀ ao:Option Addr,∀ a,ao=some a->i=a.block->tv.ownBlock≠some i->¬ TyB w i 3):zGK w' base nv tv N:=by
 obtain ⟨us,h2,h3,h4⟩:=h;refine ⟨us,zBV h2 hs (fun g e z=>(h1 g z).1 e),h3,fun i hi=>?_⟩
 obtain ⟨ao,c,e1,e2,e3,e4⟩:=h4 i hi;have hz:∀ a,ao=some a->¬ Z a.block:=fun a e z=>(h1 _ z).2 ao a e rfl (e4 a e).1 (by subst e;exact e3.ty)
 exact ⟨ao,c,e1,e2.chg hs hz,e3.chg hs hz,e4⟩
theorem AtX.ty (h:AtX w base A lm S N T init many sv nv tv):TyB w A 129:=⟨_,_,h.box⟩
theorem zBb.isMap {b:Nat} (h:zBb w b S):∃ es c,w.heap[b]? = some (.map es c):=by
 obtain ⟨f,h1,_⟩:=h;exact h1.isMap
theorem zBb.lt {b:Nat} (h:zBb w b S):b < w.heap.size:=by
 obtain ⟨es,c,h⟩:=h.isMap;exact (Array.getElem?_eq_some_iff.1 h).1
theorem AtX.lt (h:AtX w base A lm S N T init many sv nv tv):A < w.heap.size:=h.ty.lt
theorem AtX.base_le (h:AtX w base A lm S N T init many sv nv tv):base <= w.heap.size:=by have:=h.lt;have:=h.bA;omega
theorem AtX.chg {Z:Nat->Prop} (h:AtX w base A lm S N T init many sv nv tv) (hs:Chg Z w w') (hz:∀ i,Z i->i≠A/\i≠lm/\¬ TyB w i 133/\¬ TyB w i 37/\¬ TyB w i 3):AtX w' base A lm S N T init many sv nv tv:=by
 have zA:¬ Z A:=fun z=>(hz _ z).1 rfl
 have zl:¬ Z lm:=fun z=>(hz _ z).2.1 rfl
 obtain ⟨us,n1,n2,n3⟩:=id h.nx;refine ⟨(hs.block A h.lt zA).trans h.box,h.bA,h.bl,h.lies.kept (hs.block lm h.lies.lt zl),zBV h.sp hs (fun g e z=>(hz g z).2.2.1 (zAd h.sp e).2),h.nx.chg hs fun i z=>⟨fun e=>(hz i z).2.2.2.1 (zAd n1 e).2,fun _ _ _ _ _=>(hz i z).2.2.2.2⟩,zBV h.st hs (fun g e z=>(hz g z).2.2.2.2 (zAd h.st e).2)⟩
theorem AtX.below (h:AtX w base A lm S N T init many sv nv tv) (hb:Below w.heap.size w w'):AtX w' base A lm S N T init many sv nv tv:=h.chg (Chg.of (Z:=fun _=>False) hb) fun _ z=>z.elim
theorem AtX.sk {bs bl':Nat} (h:AtX w base A lm S N T init many sv nv tv) (hs:Sk bs bl' w w') (hm:zBz w bs bl') (h1:lm≠bs) (h2:lm≠bl'):AtX w' base A lm S N T init many sv nv tv:=by
 obtain ⟨⟨es,c,e1⟩,⟨es',c',e2⟩⟩:=hm;refine h.chg hs.chg fun i z=>?_
 have hno:∀ t,¬ TyB w i t:=fun t ht=>by
  rcases z with rfl | rfl
  ·exact ht.no_map e1
  ·exact ht.no_map e2
 refine ⟨fun e=>hno _ (e ▸ h.ty),fun e=>?_,hno _,hno _,hno _⟩
 rcases z with rfl | rfl
 ·exact h1 e.symm
 ·exact h2 e.symm
def atZ (A lm:Nat) (sv:Value):Nat->Prop:=fun i=>i=A\/i=lm\/sv.ownBlock=some i
theorem AtX.put {S':List (Int × Int)} {sv':Value} (h:AtX w base A lm S N T init many sv nv tv) (hs:Chg (atZ A lm sv) w w') (hbx:w'.heap[A]? = some (atB sv' nv tv init many lm)) (hl:zBb w' lm S') (hsp:SpO w' base sv' S'):AtX w' base A lm S' N T init many sv' nv tv:=by
 obtain ⟨es,c,em⟩:=h.lies.isMap
 have hno:∀ i t,atZ A lm sv i->TyB w i t->t=129\/t=133:=fun i t z ht=>by
  rcases z with rfl | rfl | e
  ·exact .inl (ht.eq h.ty)
  ·exact absurd em ht.no_map
  ·exact .inr (ht.eq (zAd h.sp e).2)
 have hni:∀ i,atZ A lm sv i->¬ TyB w i 3:=fun i z ht=>by
  rcases hno i _ z ht with e | e
  ·exact absurd e (by decide)
  ·exact absurd e (by decide)
 have hnl:∀ i,atZ A lm sv i->¬ TyB w i 37:=fun i z ht=>by
  rcases hno i _ z ht with e | e
  ·exact absurd e (by decide)
  ·exact absurd e (by decide)
 obtain ⟨us,n1,n2,n3⟩:=id h.nx;exact ⟨hbx,h.bA,h.bl,hl,hsp,h.nx.chg hs fun i z=>⟨fun e=>hnl i z (zAd n1 e).2,fun _ _ _ _ _=>hni i z⟩,zBV h.st hs (fun g e z=>hni g z (zAd h.st e).2)⟩
theorem zQT (w:World) (hb:w.heap[A]? = some (atB sv nv tv init many lm)) (v:Value):(w.setCell ⟨A,0,none⟩ v).heap[A]? = some (atB v nv tv init many lm):=by
 unfold atB at *;simp [World.setCell,Array.getElem?_modify,hb]
theorem zP2 (w:World) (hb:w.heap[A]? = some (atB sv nv tv init many lm)) (v:Value):(w.setCell ⟨A,2,none⟩ v).heap[A]? = some (atB sv v tv init many lm):=by
 unfold atB at *;simp [World.setCell,Array.getElem?_modify,hb]
theorem zQe (w:World) (hb:w.heap[A]? = some (atB sv nv tv init many lm)) (v:Value):(w.setCell ⟨A,3,none⟩ v).heap[A]? = some (atB sv nv v init many lm):=by
 unfold atB at *;simp [World.setCell,Array.getElem?_modify,hb]
theorem zBl (hb:w.heap[A]? = some (atB sv nv tv init many lm)):w.cell? ⟨A,0,none⟩=some sv/\w.cell? ⟨A,1,none⟩=some (.int .i64 init)/\w.cell? ⟨A,2,none⟩=some nv/\w.cell? ⟨A,3,none⟩=some tv/\w.cell? ⟨A,4,none⟩=some (.int .i64 many)/\w.cell? ⟨A,5,none⟩=some (.map (some lm)):=by
 unfold atB at hb;refine ⟨?_,?_,?_,?_,?_,?_⟩ <;> simp [World.cell?,hb]
theorem zHj (hb:w.heap[A]? = some (atB sv nv tv init many lm)) (i:Nat):w.frozen? ⟨A,i,none⟩=false:=by
 unfold atB at hb;simp [World.frozen?,hb]
end
theorem zQp (S a b:List (Int × Int)):zAb S (a++b)=zAb (zAb S a) b:=by
 unfold zAb;rw [List.foldl_append]
theorem zGj {S l:List (Int × Int)} {k:Nat} (h:k < l.length):zAb S (l.take (k+1))=zBO (zAb S (l.take k)) (l.getD k (0,0)):=by
 rw [List.take_add_one,List.getElem?_eq_getElem h]
 simp only [Option.toList_some];rw [zO0];simp [List.getD_eq_getElem?_getD,h]
theorem zPr {S l:List (Int × Int)} {k:Nat} (h:k < l.length):(zAb S l).idxOf (l.getD k (0,0))=(zBO (zAb S (l.take k)) (l.getD k (0,0))).idxOf (l.getD k (0,0)):=by
 rw [<- zGj h];refine zG0 ?_ ?_
 ·have e:zAb S l=zAb (zAb S (l.take (k+1))) (l.drop (k+1)):=by rw [<- zQp,List.take_append_drop]
  rw [e];exact zJ6 _ _
 ·rw [zGj h]
  exact zI9 _ _
theorem zKj {S:List (Int × Int)} {p:Int × Int} (h:p∈S):zBO S p=S:=by unfold zBO;rw [if_pos h]
theorem zI2 {S:List (Int × Int)} {p:Int × Int} (h:p∉S):zBO S p=S++[p]:=by unfold zBO;rw [if_neg h]
def zDj (S l:List (Int × Int)):List Int:=(List.range l.length).map fun (j:Nat)=>(((zAb S l).idxOf (l.getD j (0,0)):Nat):Int)
theorem zFZ (S l:List (Int × Int)):(zDj S l).length=l.length:=by simp [zDj]
theorem zL8 {S l:List (Int × Int)} {j:Nat} (h:j < l.length):(zDj S l).getD j 0=(((zAb S l).idxOf (l.getD j (0,0)):Nat):Int):=by simp [zDj,List.getD_eq_getElem?_getD,h]
theorem SpV.chg {Z:Nat->Prop} {w w':World} {ao:Option Addr} {n c:Nat} {x:List (Int × Int)} (h:SpV w (.slice ao n c) x) (hs:Chg Z w w') (hz:∀ a,ao=some a->¬ Z a.block):SpV w' (.slice ao n c) x:=by
 obtain ⟨ao',cap,e,h⟩:=h
 injection e with e1 e2 e3
 subst e1 e2 e3;refine ⟨ao,c,rfl,fun hne=>?_⟩
 obtain ⟨b,off,rfl,hlt,hat⟩:=h hne;exact ⟨b,off,rfl,Nat.lt_of_lt_of_le hlt hs.size,fun i hi=>⟨hs.cell (hat i hi).1 (hz ⟨b,off,none⟩ rfl),hs.cell (hat i hi).2 (hz ⟨b,off,none⟩ rfl)⟩⟩
theorem SpV.get {w:World} {ao:Option Addr} {n c:Nat} {x:List (Int × Int)} (h:SpV w (.slice ao n c) x) {i:Nat} (hi:i < x.length):∃ b off,ao=some ⟨b,off,none⟩/\b < w.heap.size/\w.cell? ⟨b,off+i*2,none⟩=some (.int .i64 (x.getD i (0,0)).1)/\w.cell? ⟨b,off+i*2+1,none⟩=some (.int .i64 (x.getD i (0,0)).2):=by
 obtain ⟨ao',cap,e,h⟩:=h
 injection e with e1 e2 e3
 subst e1;obtain ⟨b,off,rfl,hlt,hat⟩:=h (by rintro rfl;simp at hi)
 exact ⟨b,off,rfl,hlt,(hat i hi).1,(hat i hi).2⟩
structure PlB (w wr:World) (base A lm R n:Nat) (SL SS:List (Int × Int)) (sv svb svk nv tv:Value) (init many:Int) (rf:Nat->Value):Prop where
 box:wr.heap[A]? = some (atB svb nv tv init many lm)
 lies:zBb wr lm SL
 sp:SpO wr base svk SS
 row:wr.rowIs R 3 n rf
 chg:Chg (atZ A lm sv) w wr
 own:svk.ownBlock=sv.ownBlock\/∃ g,svk.ownBlock=some g/\w.heap.size <= g
 hR:w.heap.size <= R
section
variable {w wr w' : World} {base A lm R n : Nat} {SL SS S' : List (Int × Int)} {sv svb svk sv' nv tv : Value} {init many : Int} {rf : Nat -> Value}
theorem PlB.tyA (h:PlB w wr base A lm R n SL SS sv svb svk nv tv init many rf):TyB wr A 129:=⟨_,_,h.box⟩
theorem PlB.tyR (h:PlB w wr base A lm R n SL SS sv svb svk nv tv init many rf):TyB wr R 3:=by
 obtain ⟨cs,hcs,_⟩:=h.row;exact ⟨cs,(0,0),hcs⟩
theorem PlB.below (h:PlB w wr base A lm R n SL SS sv svb svk nv tv init many rf) (hb:Below wr.heap.size wr w'):PlB w w' base A lm R n SL SS sv svb svk nv tv init many rf:=
 ⟨(hb.block A h.tyA.lt).trans h.box,h.lies.kept (hb.block lm h.lies.lt),h.sp.later hb (Nat.le_refl _),h.row.of_block (hb.block R h.tyR.lt),h.chg.trans (Chg.of hb),h.own,h.hR⟩
theorem PlB.map (h:PlB w wr base A lm R n SL SS sv svb svk nv tv init many rf) (hg:wr.grownBy w' (some lm)) (hl:zBb w' lm S'):PlB w w' base A lm R n S' SS sv svb svk nv tv init many rf:=by
 obtain ⟨es,c,em⟩:=h.lies.isMap
 have hne:∀ i t,TyB wr i t->some i≠some lm:=fun i t ht e=>by
  injection e with e
  subst e;exact ht.no_map em
 have hb:∀ i t,TyB wr i t->w'.heap[i]? = wr.heap[i]?:=fun i t ht=>hg.block i ht.lt (hne i t ht)
 refine ⟨(hb A _ h.tyA).trans h.box,hl,zBV h.sp (Chg.grown hg) (fun g e z=>hne g _ (zAd h.sp e).2 z.symm),h.row.of_block (hb R _ h.tyR),h.chg.trans2 (Chg.grown hg) (fun i _ e=>?_),h.own,h.hR⟩
 injection e with e
 exact .inr (.inl e.symm)
theorem PlB.app (h:PlB w wr base A lm R n SL SS sv svb svk nv tv init many rf) (hg:wr.grownBy w' svk.ownBlock) (hs:SpO w' base sv' S') (ho:sv'.ownBlock=svk.ownBlock\/∃ g,sv'.ownBlock=some g/\w.heap.size <= g):PlB w w' base A lm R n SL S' sv svb sv' nv tv init many rf:=by
 obtain ⟨es,c,em⟩:=h.lies.isMap;have hne:∀ i t,TyB wr i t->t≠133->some i≠svk.ownBlock:=fun i t ht h2 e=>h2 (ht.eq (zAd h.sp e.symm).2)
 have hb:∀ i t,TyB wr i t->t≠133->w'.heap[i]? = wr.heap[i]?:=fun i t ht h2=>hg.block i ht.lt (hne i t ht h2)
 refine ⟨(hb A _ h.tyA (by decide)).trans h.box,h.lies.kept (hg.block lm h.lies.lt fun e=>(zAd h.sp e.symm).2.no_map em),hs,h.row.of_block (hb R _ h.tyR (by decide)),h.chg.trans2 (Chg.grown hg) (fun i hi e=>?_),?_,h.hR⟩
 ·rcases h.own with h1 | ⟨g,h1,h2⟩
  ·exact .inr (.inr (h1 ▸ e))
  ·rw [h1] at e
   injection e with e
   omega
 ·rcases ho with h1 | h1
  ·rw [h1];exact h.own
  ·exact .inr h1
theorem PlB.setA (h:PlB w wr base A lm R n SL SS sv svb svk nv tv init many rf):PlB w (wr.setCell ⟨A,0,none⟩ svk) base A lm R n SL SS sv svk svk nv tv init many rf:=by
 obtain ⟨es,c,em⟩:=h.lies.isMap;have hne:∀ i t,TyB wr i t->t≠129->i≠A:=fun i t ht h2 e=>h2 (ht.eq (e ▸ h.tyA))
 refine ⟨zQT wr h.box svk,h.lies.kept (RowKit.Below.heap_setCell _ _ _ _ (fun e=>h.tyA.no_map (e ▸ em))),zBV h.sp (Chg.setCell wr _ _) (fun g e=>hne g _ (zAd h.sp e).2 (by decide)),h.row.of_block (RowKit.Below.heap_setCell _ _ _ _ (hne R _ h.tyR (by decide))),h.chg.trans2 (Chg.setCell wr _ _) (fun i _ e=>.inl e),h.own,h.hR⟩
theorem PlB.setR (h:PlB w wr base A lm R n SL SS sv svb svk nv tv init many rf) (k:Nat) (v:Value):PlB w (wr.setCell ⟨R,k,none⟩ v) base A lm R n SL SS sv svb svk nv tv init many (fun j=>if j=k then v else rf j):=by
 obtain ⟨es,c,em⟩:=h.lies.isMap;have hne:∀ i t,TyB wr i t->t≠3->i≠R:=fun i t ht h2 e=>h2 (ht.eq (e ▸ h.tyR))
 refine ⟨(RowKit.Below.heap_setCell _ _ _ _ (hne A _ h.tyA (by decide))).trans h.box,h.lies.kept (RowKit.Below.heap_setCell _ _ _ _ (fun e=>h.tyR.no_map (e ▸ em))),zBV h.sp (Chg.setCell wr _ _) (fun g e=>hne g _ (zAd h.sp e).2 (by decide)),h.row.set k v,h.chg.trans2 (Chg.setCell wr _ _) (fun i hi e=>?_),h.own,h.hR⟩
 have:=h.hR;simp only at e
 omega
end
