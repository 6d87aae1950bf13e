import Derived.Test.YtlepcjafgdlmgaaDoorModelOwn
import Derived.Deep.RegionHeld3
import Derived.Deep.RegionLaw
import Derived.Deep.DrawnRows
namespace Go.Proofs.YtlepcjafgdlmgaaDoor
open Go.ChangeShapes Go.WideShapes Go.ChangeAt Go.RowKit Go.Deep
open Terms Tm
set_option maxHeartbeats 6400000
set_option maxRecDepth 20000
attribute [local go_sem ↓] Go.wp_at_zero Go.wp_at_succ
theorem take_snocS (l:List St) {q:Nat} (h:q < l.length):l.take (q+1)=l.take q++[l.getD q st0]:=by
 rw [List.take_succ_eq_append_getElem h,List.getD_eq_getElem?_getD,List.getElem?_eq_getElem h];rfl
theorem take_snocR (l:List Ru) {q:Nat} (h:q < l.length):l.take (q+1)=l.take q++[l.getD q ru0]:=by
 rw [List.take_succ_eq_append_getElem h,List.getD_eq_getElem?_getD,List.getElem?_eq_getElem h];rfl
def RuleCur (w2 wr:World) (gv vS:Value) (l:List St):Prop:=
 wr.cell? ⟨w2.heap.size,0,none⟩=some gv/\wr.cell? ⟨w2.heap.size,1,none⟩=some vS/\wr.frozen? ⟨w2.heap.size,1,none⟩=false/\SetsOwn wr (w2.heap.size+1) vS l/\Below w2.heap.size w2 wr/\w2.heap.size < wr.heap.size
def RulesCur (w1 wr:World) (va vR:Value) (l:List Ru):Prop:=
 wr.cell? ⟨w1.heap.size,0,none⟩=some va/\wr.cell? ⟨w1.heap.size,1,none⟩=some vR/\wr.frozen? ⟨w1.heap.size,1,none⟩=false/\RulesOwn wr (w1.heap.size+1) vR l/\Below w1.heap.size w1 wr/\w1.heap.size < wr.heap.size
theorem RuleCur.at3 {w2 wr W3:World} {o:Obj} {gv vS:Value} {l:List St} (h:RuleCur w2 wr gv vS l) (hb3:Below ((wr.alloc o).drew).heap.size (wr.alloc o).drew W3) :
  W3.cell? ⟨w2.heap.size,0,none⟩=some gv/\W3.cell? ⟨w2.heap.size,1,none⟩=some vS/\W3.frozen? ⟨w2.heap.size,1,none⟩=false/\w2.heap.size < W3.heap.size/\Below wr.heap.size wr W3:=by
 obtain ⟨h0,h1,h2,_,_,h5⟩:=h;have hb:Below wr.heap.size wr W3:=((Below.refl wr.heap.size wr).alloc (Nat.le_refl _) o).drew.trans (hb3.mono (by simp))
 exact ⟨(hb.cell (p:=⟨w2.heap.size,0,none⟩) h5).trans h0,(hb.cell (p:=⟨w2.heap.size,1,none⟩) h5).trans h1,(hb.frozen (p:=⟨w2.heap.size,1,none⟩) h5).trans h2,Nat.lt_of_lt_of_le h5 hb.size,hb⟩
theorem RuleCur.at4 {w2 wr W3 w4:World} {o o3:Obj} {gv vS:Value} {l:List St} {us:List Value} (h:RuleCur w2 wr gv vS l) (hus:wr.ownsRow (w2.heap.size+1) 64 2 vS l.length us) (hb3:Below ((wr.alloc o).drew).heap.size (wr.alloc o).drew W3) (hg4:(W3.alloc o3).grownBy w4 vS.ownBlock) :
  w4.cell? ⟨w2.heap.size,0,none⟩=some gv/\w4.cell? ⟨w2.heap.size,1,none⟩=some vS/\w4.frozen? ⟨w2.heap.size,1,none⟩=false:=by
 obtain ⟨h0,h1,h2,h3,_⟩:=h.at3 hb3;have hA:Below W3.heap.size W3 (W3.alloc o3):=(Below.refl _ _).alloc (Nat.le_refl _) o3;have hne:some w2.heap.size≠vS.ownBlock:=fun he=>by have:=(hus.lt _ he.symm).1;omega
 have hlt:w2.heap.size < (W3.alloc o3).heap.size:=Nat.lt_of_lt_of_le h3 hA.size
 exact ⟨(hg4.cell_far ⟨w2.heap.size,0,none⟩ hlt hne).trans ((hA.cell (p:=⟨w2.heap.size,0,none⟩) h3).trans h0),(hg4.cell_far ⟨w2.heap.size,1,none⟩ hlt hne).trans ((hA.cell (p:=⟨w2.heap.size,1,none⟩) h3).trans h1),(hg4.frozen_far ⟨w2.heap.size,1,none⟩ hlt hne).trans ((hA.frozen (p:=⟨w2.heap.size,1,none⟩) h3).trans h2)⟩
theorem RuleCur.step {w2 wr W3 w4:World} {o o3:Obj} {gv vS v3:Value} {l:List St} {x:St} {us:List Value} {v':Value} (h:RuleCur w2 wr gv vS l) (hus:wr.ownsRow (w2.heap.size+1) 64 2 vS l.length us)
  (hts:∀ j,j < l.length->us.getD (j*2) .nilIface=.int .i64 (l.getD j st0).var/\wr.ownsRow (w2.heap.size+1) 77 2 (us.getD (j*2+1) .nilIface) (l.getD j st0).val.length (flat (l.getD j st0).val))
  (hb3:Below ((wr.alloc o).drew).heap.size (wr.alloc o).drew W3) (ho3:W3.ownsRow ((wr.alloc o).drew).heap.size 77 2 v3 x.val.length (flat x.val)) (hg4:(W3.alloc o3).grownBy w4 vS.ownBlock)
  (ho4:w4.ownsRow (w2.heap.size+1) 64 2 v' (l.length+1) (us++[.int .i64 x.var,v3])):RuleCur w2 (w4.setCell ⟨w2.heap.size,1,none⟩ v') gv v' (l++[x]):=by
 obtain ⟨f0,f1,f2⟩:=h.at4 hus hb3 hg4;obtain ⟨_,_,_,h3,hb⟩:=h.at3 hb3;have hA:Below W3.heap.size W3 (W3.alloc o3):=(Below.refl _ _).alloc (Nat.le_refl _) o3;have hsz:w2.heap.size < wr.heap.size:=h.2.2.2.2.2
 have hso:SetsOwn w4 (w2.heap.size+1) v' (l++[x]):=SetsOwn.snoc (owns_later hus hb (Nat.le_refl _)) (fun j hj=>⟨(hts j hj).1,owns_later (hts j hj).2 hb (Nat.le_refl _)⟩) (owns_mono ho3 (by simp;omega)) ⟨o3,rfl⟩ hg4 ho4
 have hb4:Below w2.heap.size w2 w4:=((h.2.2.2.2.1.trans (hb.mono (by omega))).alloc (by omega) o3).grown hg4 (by simp;omega) (fun q hq=>by have:=(hus.lt q hq).1;omega)
 have hs4:w2.heap.size < w4.heap.size:=World.block_lt_of_cell? w4 ⟨w2.heap.size,1,none⟩ f1;refine ⟨?_,?_,?_,hso.setCell (Nat.lt_succ_self _) _,hb4.setCell (by simp) _,by simpa using hs4⟩
 ·rw [World.cell?_setCell_other _ _ _ _ (by simp)];exact f0
 ·exact World.cell?_setCell_same _ _ _ f1
 ·rw [World.frozen?_setCell];exact f2
theorem RulesCur.at4 {w1 wo wr w4:World} {o3:Obj} {va vR:Value} {l:List Ru} {us:List Value} (h:RulesCur w1 wo va vR l) (hus:wo.ownsRow (w1.heap.size+1) 61 2 vR l.length us) (hb:Below wo.heap.size wo wr) (hg4:(wr.alloc o3).grownBy w4 vR.ownBlock) :
  w4.cell? ⟨w1.heap.size,0,none⟩=some va/\w4.cell? ⟨w1.heap.size,1,none⟩=some vR/\w4.frozen? ⟨w1.heap.size,1,none⟩=false:=by
 obtain ⟨h0,h1,h2,_,_,h5⟩:=h;have h6:w1.heap.size < wr.heap.size:=Nat.lt_of_lt_of_le h5 hb.size;have hA:Below wr.heap.size wr (wr.alloc o3):=(Below.refl _ _).alloc (Nat.le_refl _) o3;have hne:some w1.heap.size≠vR.ownBlock:=fun he=>by have:=(hus.lt _ he.symm).1;omega
 have hlt:w1.heap.size < (wr.alloc o3).heap.size:=Nat.lt_of_lt_of_le h6 hA.size
 exact ⟨(hg4.cell_far ⟨w1.heap.size,0,none⟩ hlt hne).trans ((hA.cell (p:=⟨w1.heap.size,0,none⟩) h6).trans ((hb.cell (p:=⟨w1.heap.size,0,none⟩) h5).trans h0)),(hg4.cell_far ⟨w1.heap.size,1,none⟩ hlt hne).trans ((hA.cell (p:=⟨w1.heap.size,1,none⟩) h6).trans ((hb.cell (p:=⟨w1.heap.size,1,none⟩) h5).trans h1)),(hg4.frozen_far ⟨w1.heap.size,1,none⟩ hlt hne).trans ((hA.frozen (p:=⟨w1.heap.size,1,none⟩) h6).trans ((hb.frozen (p:=⟨w1.heap.size,1,none⟩) h5).trans h2))⟩
theorem RulesCur.step {w1 wo wr w4:World} {o3:Obj} {va vR gv vS v':Value} {l:List Ru} {x:Ru} {us:List Value} (h:RulesCur w1 wo va vR l) (hus:wo.ownsRow (w1.heap.size+1) 61 2 vR l.length us)
  (hts:∀ j,j < l.length->wo.ownsRow (w1.heap.size+1) 77 2 (us.getD (j*2) .nilIface) (l.getD j ru0).guard.length (flat (l.getD j ru0).guard)/\SetsOwn wo (w1.heap.size+1) (us.getD (j*2+1) .nilIface) (l.getD j ru0).sets)
  (hb:Below wo.heap.size wo wr) (hgu:wr.ownsRow (w1.heap.size+1) 77 2 gv x.guard.length (flat x.guard)) (hsu:SetsOwn wr (w1.heap.size+1) vS x.sets) (hg4:(wr.alloc o3).grownBy w4 vR.ownBlock)
  (ho4:w4.ownsRow (w1.heap.size+1) 61 2 v' (l.length+1) (us++[gv,vS])):RulesCur w1 (w4.setCell ⟨w1.heap.size,1,none⟩ v') va v' (l++[x]):=by
 obtain ⟨f0,f1,f2⟩:=h.at4 hus hb hg4;have hsz:w1.heap.size < wo.heap.size:=h.2.2.2.2.2;have hsz2:=hb.size;have hro:RulesOwn w4 (w1.heap.size+1) v' (l++[x]):=RulesOwn.snoc (owns_later hus hb (Nat.le_refl _)) (fun j hj=>⟨owns_later (hts j hj).1 hb (Nat.le_refl _),(hts j hj).2.later hb (Nat.le_refl _)⟩) hgu hsu ⟨o3,rfl⟩ hg4 ho4
 have hb4:Below w1.heap.size w1 w4:=((h.2.2.2.2.1.trans (hb.mono (by omega))).alloc (by omega) o3).grown hg4 (by simp;omega) (fun q hq=>by have:=(hus.lt q hq).1;omega)
 have hs4:w1.heap.size < w4.heap.size:=World.block_lt_of_cell? w4 ⟨w1.heap.size,1,none⟩ f1;refine ⟨?_,?_,?_,hro.setCell (Nat.lt_succ_self _) _,hb4.setCell (by simp) _,by simpa using hs4⟩
 ·rw [World.cell?_setCell_other _ _ _ _ (by simp)];exact f0
 ·exact World.cell?_setCell_same _ _ _ f1
 ·rw [World.frozen?_setCell];exact f2
theorem sb_facts {w2 wr W3:World} {t:TypeId} {x0 x1 vS:Value} {us:List Value} {q:Nat} (hus:wr.ownsRow (w2.heap.size+1) 64 2 vS q us) (hlt2:w2.heap.size < wr.heap.size) (hb3:Below ((wr.alloc (.cells #[x0,x1] t)).drew).heap.size (wr.alloc (.cells #[x0,x1] t)).drew W3) :
  (W3.cell? ⟨wr.heap.size,0,none⟩=some x0/\W3.cell? ⟨wr.heap.size,1,none⟩=some x1)/\(∀ o,(W3.alloc o).cell? ⟨wr.heap.size,0,none⟩=some x0/\(W3.alloc o).cell? ⟨wr.heap.size,1,none⟩=some x1)/\
  (∀ {o:Obj} {w4:World},(W3.alloc o).grownBy w4 vS.ownBlock->w4.cell? ⟨wr.heap.size,0,none⟩=some x0/\w4.cell? ⟨wr.heap.size,1,none⟩=some x1)/\(∀ o,(W3.alloc o).ownsRow (w2.heap.size+1) 64 2 vS q us)/\(∀ o,w2.heap.size+1 <= (W3.alloc o).heap.size):=by
 have hsz:wr.heap.size < W3.heap.size:=by have:=hb3.size;simp at this;omega
 have hb:Below wr.heap.size wr W3:=((Below.refl wr.heap.size wr).alloc (Nat.le_refl _) _).drew.trans (hb3.mono (by simp))
 have hA:∀ o,Below W3.heap.size W3 (W3.alloc o):=fun o=>(Below.refl _ _).alloc (Nat.le_refl _) o
 have k0:W3.cell? ⟨wr.heap.size,0,none⟩=some x0:=(hb3.cell (p:=⟨wr.heap.size,0,none⟩) (by simp)).trans (by simp [go_sem])
 have k1:W3.cell? ⟨wr.heap.size,1,none⟩=some x1:=(hb3.cell (p:=⟨wr.heap.size,1,none⟩) (by simp)).trans (by simp [go_sem])
 have hne:some wr.heap.size≠vS.ownBlock:=fun he=>by have:=(hus.lt _ he.symm).2;omega
 have ka:∀ o,(W3.alloc o).cell? ⟨wr.heap.size,0,none⟩=some x0/\(W3.alloc o).cell? ⟨wr.heap.size,1,none⟩=some x1:=fun o=>⟨((hA o).cell (p:=⟨wr.heap.size,0,none⟩) hsz).trans k0,((hA o).cell (p:=⟨wr.heap.size,1,none⟩) hsz).trans k1⟩
 exact ⟨⟨k0,k1⟩,ka,fun {o w4} hg=>⟨(hg.cell_far ⟨wr.heap.size,0,none⟩ (by simp;omega) hne).trans (ka o).1,(hg.cell_far ⟨wr.heap.size,1,none⟩ (by simp;omega) hne).trans (ka o).2⟩,
  fun o=>(owns_later hus hb (Nat.le_refl _)).alloc o,fun o=>by simp;omega⟩
