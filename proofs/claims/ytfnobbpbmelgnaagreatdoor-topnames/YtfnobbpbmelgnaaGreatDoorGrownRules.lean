import Derived.Test.YtfnobbpbmelgnaaGreatDoorGrownModel
namespace Go.Proofs.YtfnobbpbmelgnaaGreatDoor
open Go.ChangeShapes Go.WideShapes Go.ChangeAt Go.RowKit Go.Deep
open Terms Tm
set_option maxHeartbeats 6400000
set_option maxRecDepth 20000
theorem grule_one {g t:List (Int × Int)} {v:Int} (hg:TruT 2 3 g) (hgl:g.length <= 26) (h0:0 <= v) (h1:v < 2) (ht:NumT 2 2 t) (htl:t.length <= 7):rcode 2 ⟨g,[⟨v,t⟩]⟩=0:=by
 unfold rcode;rw [if_neg (by simp),if_pos (hg.kcode (by decide) (by decide) (by omega))]
 refine firstOf_none fun j hj=>?_
 have hj0:j=0:=by simp at hj;omega
 subst hj0
 show (if v < 0\/2 <= v then (2:Int) else if metVar [⟨v,t⟩] 0 v=true then 7 else kcode 2 t false)=0
 rw [if_neg (by omega),if_neg (by simp [metVar]),ht.kcode (by decide) (by decide) (by omega)]
theorem grule_two {g t:List (Int × Int)} {v:Int} (hg:TruT 2 3 g) (hgl:g.length <= 26) (h0:0 <= v) (h1:v < 2) (ht:NumT 2 2 t) (htl:t.length <= 7):rcode 2 ⟨g,[⟨v,t⟩,⟨1 - v,[(2,v)]⟩]⟩=0:=by
 unfold rcode;rw [if_neg (by simp),if_pos (hg.kcode (by decide) (by decide) (by omega))]
 refine firstOf_none fun j hj=>?_
 have hj0:j=0\/j=1:=by simp at hj;omega
 rcases hj0 with rfl | rfl
 ·show (if v < 0\/2 <= v then (2:Int) else if metVar [⟨v,t⟩,⟨1 - v,[(2,v)]⟩] 0 v=true then 7 else kcode 2 t false)=0
  rw [if_neg (by omega),if_neg (by simp [metVar]),ht.kcode (by decide) (by decide) (by omega)]
 ·show (if 1 - v < 0\/2 <= 1 - v then (2:Int) else if metVar [⟨v,t⟩,⟨1 - v,[(2,v)]⟩] 1 (1 - v)=true then 7 else kcode 2 [(2,v)] false)=0
  rw [if_neg (by omega),if_neg (by simp [metVar];omega),var_kcode h0 (by omega) (by decide)]
def GRule (w2 wr:World) (gv vS:Value) (l:List St):Prop:=
 wr.cell? ⟨w2.heap.size,0,none⟩=some gv/\wr.cell? ⟨w2.heap.size,1,none⟩=some vS/\wr.frozen? ⟨w2.heap.size,1,none⟩=false/\SetsOwn wr (w2.heap.size+1) vS l/\Below w2.heap.size w2 wr/\w2.heap.size < wr.heap.size
theorem GRule.new (w2:World) (gv:Value) (t:TypeId):GRule w2 (w2.alloc (.cells #[gv,.slice none 0 0] t)) gv (.slice none 0 0) []:=
 ⟨by simp [go_sem],by simp [go_sem],by simp [go_sem],SetsOwn.nil _ _,(Below.refl _ _).alloc (Nat.le_refl _) _,by simp⟩
theorem GRule.at3 {w2 wr W3:World} {gv vS:Value} {l:List St} (h:GRule w2 wr gv vS l) (hb:Below wr.heap.size wr W3) :
  W3.cell? ⟨w2.heap.size,0,none⟩=some gv/\W3.cell? ⟨w2.heap.size,1,none⟩=some vS/\W3.frozen? ⟨w2.heap.size,1,none⟩=false/\w2.heap.size < W3.heap.size:=by
 obtain ⟨h0,h1,h2,_,_,h5⟩:=h;exact ⟨(hb.cell (p:=⟨w2.heap.size,0,none⟩) h5).trans h0,(hb.cell (p:=⟨w2.heap.size,1,none⟩) h5).trans h1,(hb.frozen (p:=⟨w2.heap.size,1,none⟩) h5).trans h2,Nat.lt_of_lt_of_le h5 hb.size⟩
theorem GRule.at4 {w2 wr W3 w4:World} {o3:Obj} {gv vS:Value} {l:List St} {us:List Value} {n:Nat} (h:GRule w2 wr gv vS l) (hus:wr.ownsRow (w2.heap.size+1) 73 2 vS n us) (hb:Below wr.heap.size wr W3) (hg4:(W3.alloc o3).grownBy w4 vS.ownBlock) :
  w4.cell? ⟨w2.heap.size,0,none⟩=some gv/\w4.cell? ⟨w2.heap.size,1,none⟩=some vS/\w4.frozen? ⟨w2.heap.size,1,none⟩=false/\w2.heap.size < w4.heap.size:=by
 obtain ⟨h0,h1,h2,h3⟩:=h.at3 hb;have hA:Below W3.heap.size W3 (W3.alloc o3):=(Below.refl _ _).alloc (Nat.le_refl _) o3;have hne:some w2.heap.size≠vS.ownBlock:=fun he=>by have:=(hus.lt _ he.symm).1;omega
 have hlt:w2.heap.size < (W3.alloc o3).heap.size:=Nat.lt_of_lt_of_le h3 hA.size
 exact ⟨(hg4.cell_far ⟨w2.heap.size,0,none⟩ hlt hne).trans ((hA.cell (p:=⟨w2.heap.size,0,none⟩) h3).trans h0),(hg4.cell_far ⟨w2.heap.size,1,none⟩ hlt hne).trans ((hA.cell (p:=⟨w2.heap.size,1,none⟩) h3).trans h1),(hg4.frozen_far ⟨w2.heap.size,1,none⟩ hlt hne).trans ((hA.frozen (p:=⟨w2.heap.size,1,none⟩) h3).trans h2),Nat.lt_of_lt_of_le hlt hg4.size⟩
theorem GRule.step {w2 wr W3 w4:World} {o3:Obj} {gv vS v3:Value} {l:List St} {x:St} {us:List Value} {v':Value} (h:GRule w2 wr gv vS l) (hus:wr.ownsRow (w2.heap.size+1) 73 2 vS l.length us)
  (hts:∀ j,j < l.length->us.getD (j*2) .nilIface=.int .i64 (l.getD j st0).var/\wr.ownsRow (w2.heap.size+1) 50 2 (us.getD (j*2+1) .nilIface) (l.getD j st0).val.length (flat (l.getD j st0).val))
  (hb:Below wr.heap.size wr W3) (ho3:W3.ownsRow (w2.heap.size+1) 50 2 v3 x.val.length (flat x.val)) (hg4:(W3.alloc o3).grownBy w4 vS.ownBlock)
  (ho4:w4.ownsRow (w2.heap.size+1) 73 2 v' (l.length+1) (us++[.int .i64 x.var,v3])):GRule w2 (w4.setCell ⟨w2.heap.size,1,none⟩ v') gv v' (l++[x]):=by
 obtain ⟨f0,f1,f2,hs4⟩:=h.at4 hus hb hg4;have hsz:w2.heap.size < wr.heap.size:=h.2.2.2.2.2;have hsb:=hb.size;have hso:SetsOwn w4 (w2.heap.size+1) v' (l++[x]):=SetsOwn.snoc (owns_later hus hb (Nat.le_refl _)) (fun j hj=>⟨(hts j hj).1,owns_later (hts j hj).2 hb (Nat.le_refl _)⟩) ho3 ⟨o3,rfl⟩ hg4 ho4
 have hb4:Below w2.heap.size w2 w4:=((h.2.2.2.2.1.trans (hb.mono (by omega))).alloc (by omega) o3).grown hg4 (by simp;omega) (fun q hq=>by have:=(hus.lt q hq).1;omega)
 refine ⟨?_,?_,?_,hso.setCell (Nat.lt_succ_self _) _,hb4.setCell (by simp) _,by simpa using hs4⟩
 ·rw [World.cell?_setCell_other _ _ _ _ (by simp)];exact f0
 ·exact World.cell?_setCell_same _ _ _ f1
 ·rw [World.frozen?_setCell];exact f2
def MRc (B2:Nat) (w5 wr:World) (vV vR:Value) (l:List Ru):Prop:=
 wr.cell? ⟨B2,0,none⟩=some vV/\wr.cell? ⟨B2,1,none⟩=some vR/\wr.frozen? ⟨B2,1,none⟩=false/\RulesOwn wr w5.heap.size vR l/\w5.grownBy wr (some B2)/\B2 < w5.heap.size
theorem MRc.at4 {B2:Nat} {w5 wo wr w4:World} {o3:Obj} {vV vR:Value} {l:List Ru} {us:List Value} {n:Nat} (h:MRc B2 w5 wo vV vR l) (hus:wo.ownsRow w5.heap.size 57 2 vR n us) (hb:Below wo.heap.size wo wr) (hg4:(wr.alloc o3).grownBy w4 vR.ownBlock) :
  w4.cell? ⟨B2,0,none⟩=some vV/\w4.cell? ⟨B2,1,none⟩=some vR/\w4.frozen? ⟨B2,1,none⟩=false:=by
 obtain ⟨h0,h1,h2,_,h4,h5⟩:=h;have h6:B2 < wo.heap.size:=Nat.lt_of_lt_of_le h5 h4.size;have h7:B2 < wr.heap.size:=Nat.lt_of_lt_of_le h6 hb.size;have hA:Below wr.heap.size wr (wr.alloc o3):=(Below.refl _ _).alloc (Nat.le_refl _) o3;have hne:some B2≠vR.ownBlock:=fun he=>by have:=(hus.lt _ he.symm).1;omega
 have hlt:B2 < (wr.alloc o3).heap.size:=Nat.lt_of_lt_of_le h7 hA.size
 exact ⟨(hg4.cell_far ⟨B2,0,none⟩ hlt hne).trans ((hA.cell (p:=⟨B2,0,none⟩) h7).trans ((hb.cell (p:=⟨B2,0,none⟩) h6).trans h0)),(hg4.cell_far ⟨B2,1,none⟩ hlt hne).trans ((hA.cell (p:=⟨B2,1,none⟩) h7).trans ((hb.cell (p:=⟨B2,1,none⟩) h6).trans h1)),(hg4.frozen_far ⟨B2,1,none⟩ hlt hne).trans ((hA.frozen (p:=⟨B2,1,none⟩) h7).trans ((hb.frozen (p:=⟨B2,1,none⟩) h6).trans h2))⟩
theorem MRc.step {B2:Nat} {w5 wo wr w4:World} {o3:Obj} {vV vR gv vS v':Value} {l:List Ru} {x:Ru} {us:List Value} (h:MRc B2 w5 wo vV vR l) (hus:wo.ownsRow w5.heap.size 57 2 vR l.length us)
  (hts:∀ j,j < l.length->wo.ownsRow w5.heap.size 50 2 (us.getD (j*2) .nilIface) (l.getD j ru0).guard.length (flat (l.getD j ru0).guard)/\SetsOwn wo w5.heap.size (us.getD (j*2+1) .nilIface) (l.getD j ru0).sets)
  (hb:Below wo.heap.size wo wr) (hgu:wr.ownsRow w5.heap.size 50 2 gv x.guard.length (flat x.guard)) (hsu:SetsOwn wr w5.heap.size vS x.sets) (hg4:(wr.alloc o3).grownBy w4 vR.ownBlock)
  (ho4:w4.ownsRow w5.heap.size 57 2 v' (l.length+1) (us++[gv,vS])):MRc B2 w5 (w4.setCell ⟨B2,1,none⟩ v') vV v' (l++[x]):=by
 obtain ⟨f0,f1,f2⟩:=h.at4 hus hb hg4;obtain ⟨_,_,_,_,h4,h5⟩:=h;have hro:RulesOwn w4 w5.heap.size v' (l++[x]):=RulesOwn.snoc (owns_later hus hb (Nat.le_refl _)) (fun j hj=>⟨owns_later (hts j hj).1 hb (Nat.le_refl _),(hts j hj).2.later hb (Nat.le_refl _)⟩) hgu hsu ⟨o3,rfl⟩ hg4 ho4
 have hbg:w5.grownBy wr (some B2):=⟨hb.os.trans h4.os,hb.tape.trans h4.tape,hb.output.trans h4.output,Nat.le_trans h4.size hb.size,fun i hi hne=>(hb.block i (Nat.lt_of_lt_of_le hi h4.size)).trans (h4.block i hi hne)⟩
 refine ⟨?_,?_,?_,hro.setCell h5 _,grown_setCell (grown_then hbg hg4 (fun j hj=>(hus.lt j hj).1)) _,h5⟩
 ·rw [World.cell?_setCell_other _ _ _ _ (by simp)];exact f0
 ·exact World.cell?_setCell_same _ _ _ f1
 ·rw [World.frozen?_setCell];exact f2
theorem plan_facts {wr w2:World} {t:TypeId} {x0 x1 x2 x3:Value} (hb:Below (wr.alloc (.cells #[x0,x1,x2,x3] t)).heap.size (wr.alloc (.cells #[x0,x1,x2,x3] t)) w2) :
  wr.heap.size < w2.heap.size/\Below wr.heap.size wr w2/\w2.cell? ⟨wr.heap.size,1,none⟩=some x1/\w2.cell? ⟨wr.heap.size,2,none⟩=some x2/\w2.cell? ⟨wr.heap.size,3,none⟩=some x3:=by
 have hs:=hb.size;simp at hs
 refine ⟨by omega,((Below.refl wr.heap.size wr).alloc (Nat.le_refl _) _).trans (hb.mono (by simp)),?_,?_,?_⟩
 ·rw [hb.cell (p:=⟨wr.heap.size,1,none⟩) (by simp)];simp [go_sem]
 ·rw [hb.cell (p:=⟨wr.heap.size,2,none⟩) (by simp)];simp [go_sem]
 ·rw [hb.cell (p:=⟨wr.heap.size,3,none⟩) (by simp)];simp [go_sem]
theorem Raws.mv {w w':World} {v:Value} {rs:List (Int × Int)} (h:Raws w w.heap.size v rs) (hb:Below w.heap.size w w'):Raws w' w'.heap.size v rs:=by
 obtain ⟨⟨ao,cap,hv,h1⟩,h2,h3⟩:=h.below hb;refine ⟨⟨ao,cap,hv,fun hne=>?_⟩,h2,h3⟩
 obtain ⟨b,off,ha,hlt,hat⟩:=h1 hne;exact ⟨b,off,ha,Nat.lt_of_lt_of_le hlt hb.size,hat⟩
def GModel (w:World) (va vr:Value) (vars:List Vr):Prop:=∃ rules,ModelV w va vr ⟨vars,rules⟩/\rules.length <= 5/\∀ j,j < rules.length->rcode 2 (rules.getD j ru0)=0
def GModelR (w:World) (va vr:Value) (vars:List Vr) (rules:List Ru):Prop:=ModelV w va vr ⟨vars,rules⟩/\rules.length <= 5/\∀ j,j < rules.length->rcode 2 (rules.getD j ru0)=0
theorem GModelR.gm {w:World} {va vr:Value} {vars:List Vr} {rules:List Ru} (h:GModelR w va vr vars rules):GModel w va vr vars:=⟨rules,h⟩
structure Pl where
 gr:List (Int × Int)
 var:Int
 vr:List (Int × Int)
 both:Bool
def pl0:Pl:=⟨[],0,[],false⟩
def gplF (p:Pl):Ru:=⟨gruF p.gr 2 3 0,if p.both=true then [⟨pk p.var 2,gnuF p.vr 2 2 0⟩,⟨1 - pk p.var 2,[(2,pk p.var 2)]⟩] else [⟨pk p.var 2,gnuF p.vr 2 2 0⟩]⟩
theorem take_map {ps:List Pl} {k:Nat} (hk:k < ps.length) {rules:List Ru} {x:Ru} (h:rules=(ps.take k).map gplF) (hx:x=gplF (ps.getD k pl0)):rules++[x]=(ps.take (k+1)).map gplF:=by
 rw [h,hx,List.take_succ_eq_append_getElem hk,List.map_append,List.getD_eq_getElem?_getD,List.getElem?_eq_getElem hk]
 rfl
theorem below_undrew {a b:World} (h:Below a.drew.heap.size a.drew b):Below a.heap.size a b:=⟨h.os,h.tape,h.output,h.size,h.block⟩
theorem rc_snoc {rules:List Ru} {x:Ru} (h:∀ j,j < rules.length->rcode 2 (rules.getD j ru0)=0) (hx:rcode 2 x=0):∀ j,j < (rules++[x]).length->rcode 2 ((rules++[x]).getD j ru0)=0:=by
 intro j hj
 by_cases hlt:j < rules.length
 ·rw [ruD_app_left hlt];exact h j hlt
 ·have hj':j=rules.length:=by simp at hj;omega
  subst hj';rw [ruD_app_right];exact hx
theorem own_one (w:World) (base:Nat) (v:Int) (hb:base <= w.heap.size):(w.alloc (.cells #[.int .i64 2,.int .i64 v] 50)).ownsRow base 50 2 (.slice (some ⟨w.heap.size,0,none⟩) 1 1) 1 (flat [(2,v)]):=
 ⟨rfl,.inr ⟨w.heap.size,1,#[.int .i64 2,.int .i64 v],rfl,hb,heap_alloc_new w _,by omega,by unfold maxLen;omega,rfl,rfl⟩⟩
def MRo (B2:Nat) (w5 wr:World) (vV vR:Value) (ps:List Pl) (k:Nat):Prop:=∃ rules:List Ru,rules.length=k/\(∀ j,j < rules.length->rcode 2 (rules.getD j ru0)=0)/\MRc B2 w5 wr vV vR rules/\Hid (rules=(ps.take k).map gplF)
theorem two_new2 (w:World) (o:Obj) (x y:Value) (t:TypeId):∀ j u,[x,y][j]? = some u->((w.alloc o).alloc (.cells #[x,y] t)).cell? ((⟨w.heap.size+1,0,none⟩:Addr).add j)=some u:=by
 have h:=two_new (w.alloc o) x y t
 rwa [show (w.alloc o).heap.size=w.heap.size+1 by simp] at h
