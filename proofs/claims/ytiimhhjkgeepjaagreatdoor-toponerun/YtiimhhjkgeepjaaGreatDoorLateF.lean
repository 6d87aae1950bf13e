/- Joined texts. -/
import Derived.Test.YtiimhhjkgeepjaaGreatDoorLateE
import Derived.Test.YtiimhhjkgeepjaaGreatDoorAnyOps
namespace Go.Proofs.YtiimhhjkgeepjaaGreatDoor
open Go.ChangeShapes Go.WideShapes Go.ChangeAt Go.RowKit Go.Deep Go.Shelf
open Terms
set_option maxHeartbeats 6400000
set_option maxRecDepth 20000
theorem zEJ {w w':World} {base g cap k:Nat} {e:TypeId} {s n:Nat} {xs:List Value} (h:w.ownsRow base e s (.slice (some ⟨g,0,none⟩) n cap) k xs) (hh:w'.heap[g]? = w.heap[g]?):w'.ownsRow base e s (.slice (some ⟨g,0,none⟩) n cap) k xs:=by
 obtain ⟨h1,h2⟩:=h;refine ⟨h1,?_⟩
 rcases h2 with ⟨h2,_⟩ | ⟨g',cap',cur,hv,hg,hc,r⟩
 ·simp at h2
 ·have hgg:g=g':=by simp at hv;exact hv.1
  subst hgg;exact .inr ⟨g,cap',cur,hv,hg,hh.trans hc,r⟩
theorem Six.block {w w':World} {b:Nat} {x0 x1 x2 x3 x4 x5:Value} (h:Six w b x0 x1 x2 x3 x4 x5) (hh:w'.heap[b]? = w.heap[b]?) (hs:w.heap.size <= w'.heap.size):Six w' b x0 x1 x2 x3 x4 x5:=
 ⟨(World.cell?_of_block (w:=w) hh).trans h.k0,(World.frozen?_of_block (w:=w) hh).trans h.f0,(World.cell?_of_block (w:=w) hh).trans h.k1,(World.frozen?_of_block (w:=w) hh).trans h.f1,(World.cell?_of_block (w:=w) hh).trans h.k2,(World.frozen?_of_block (w:=w) hh).trans h.f2,(World.cell?_of_block (w:=w) hh).trans h.k3,(World.frozen?_of_block (w:=w) hh).trans h.f3,(World.cell?_of_block (w:=w) hh).trans h.k4,(World.frozen?_of_block (w:=w) hh).trans h.f4,(World.cell?_of_block (w:=w) hh).trans h.k5,(World.frozen?_of_block (w:=w) hh).trans h.f5,Nat.lt_of_lt_of_le h.hl hs⟩
theorem zJF {w:World} {b b' t t' n n':Nat} {f f':Nat->Value} (h:w.rowIs b t n f) (h':w.rowIs b' t' n' f') (ht:t≠t'):b≠b':=by
 rintro rfl
 obtain ⟨c,h1,_⟩:=h;obtain ⟨c',h2,_⟩:=h';rw [h1] at h2;simp at h2
 exact ht h2.2
theorem zJ8 {w w':World} {b t n:Nat} {f:Nat->Value} {row:Option Nat} (h:w.rowIs b t n f) (hg:w.grownBy w' row) (hrow:∀ r,row=some r->∃ o:Obj,w.heap[r]? = some o/\o.isCells=false):w'.rowIs b t n f:=by
 obtain ⟨c,h1,h2⟩:=id h;exact h.of_block (grownBy_keeps_cells hg hrow h1 rfl)
theorem Six.chain {w:World} {b:Nat} {x0 x1 x2 x3 x4 x5:Value} (h:Six w b x0 x1 x2 x3 x4 x5) (u0 u1 u2 u3 u4 u5:Value):(((((((w.setCell ⟨b,0,none⟩ u0).setCell ⟨b,1,none⟩ u1).setCell ⟨b,2,none⟩ u2).setCell ⟨b,3,none⟩ u3).setCell ⟨b,4,none⟩ u4).setCell ⟨b,5,none⟩ u5)).cell? ⟨b,0,none⟩=some u0/\(((((((w.setCell ⟨b,0,none⟩ u0).setCell ⟨b,1,none⟩ u1).setCell ⟨b,2,none⟩ u2).setCell ⟨b,3,none⟩ u3).setCell ⟨b,4,none⟩ u4).setCell ⟨b,5,none⟩ u5)).cell? ⟨b,1,none⟩=some u1/\(((((((w.setCell ⟨b,0,none⟩ u0).setCell ⟨b,1,none⟩ u1).setCell ⟨b,2,none⟩ u2).setCell ⟨b,3,none⟩ u3).setCell ⟨b,4,none⟩ u4).setCell ⟨b,5,none⟩ u5)).cell? ⟨b,2,none⟩=some u2/\(((((((w.setCell ⟨b,0,none⟩ u0).setCell ⟨b,1,none⟩ u1).setCell ⟨b,2,none⟩ u2).setCell ⟨b,3,none⟩ u3).setCell ⟨b,4,none⟩ u4).setCell ⟨b,5,none⟩ u5)).cell? ⟨b,3,none⟩=some u3/\(((((((w.setCell ⟨b,0,none⟩ u0).setCell ⟨b,1,none⟩ u1).setCell ⟨b,2,none⟩ u2).setCell ⟨b,3,none⟩ u3).setCell ⟨b,4,none⟩ u4).setCell ⟨b,5,none⟩ u5)).cell? ⟨b,4,none⟩=some u4/\(((((((w.setCell ⟨b,0,none⟩ u0).setCell ⟨b,1,none⟩ u1).setCell ⟨b,2,none⟩ u2).setCell ⟨b,3,none⟩ u3).setCell ⟨b,4,none⟩ u4).setCell ⟨b,5,none⟩ u5)).cell? ⟨b,5,none⟩=some u5:=by
 obtain ⟨q0,q1,q2,q3,q4,q5⟩:=h.read u0 u1 u2 u3 u4 u5;have ho:∀ (X:World) (i j:Nat) (u:Value),i≠j->(X.setCell ⟨b,i,none⟩ u).cell? ⟨b,j,none⟩=X.cell? ⟨b,j,none⟩:=fun X i j u hij=>World.cell?_setCell_other _ _ _ _ (by intro e;injection e with _ e2;exact hij e2)
 refine ⟨?_,?_,?_,?_,?_,q5⟩
 ·rw [ho _ 5 0 _ (by decide),ho _ 4 0 _ (by decide),ho _ 3 0 _ (by decide),ho _ 2 0 _ (by decide),ho _ 1 0 _ (by decide)];exact q0
 ·rw [ho _ 5 1 _ (by decide),ho _ 4 1 _ (by decide),ho _ 3 1 _ (by decide),ho _ 2 1 _ (by decide)];exact q1
 ·rw [ho _ 5 2 _ (by decide),ho _ 4 2 _ (by decide),ho _ 3 2 _ (by decide)];exact q2
 ·rw [ho _ 5 3 _ (by decide),ho _ 4 3 _ (by decide)];exact q3
 ·rw [ho _ 5 4 _ (by decide)];exact q4
theorem zHE (w:World) (b z:Nat) (hz:z≠b) (u0 u1 u2 u3 u4 u5:Value):(((((((w.setCell ⟨b,0,none⟩ u0).setCell ⟨b,1,none⟩ u1).setCell ⟨b,2,none⟩ u2).setCell ⟨b,3,none⟩ u3).setCell ⟨b,4,none⟩ u4).setCell ⟨b,5,none⟩ u5)).heap[z]? = w.heap[z]?:=by
 rw [Below.heap_setCell _ _ _ z hz,Below.heap_setCell _ _ _ z hz,Below.heap_setCell _ _ _ z hz,Below.heap_setCell _ _ _ z hz,Below.heap_setCell _ _ _ z hz,Below.heap_setCell _ _ _ z hz]
theorem zJB (w:World) (b z q:Nat) (hz:z≠b) (u0 u1 u2 u3 u4 u5:Value):(((((((w.setCell ⟨b,0,none⟩ u0).setCell ⟨b,1,none⟩ u1).setCell ⟨b,2,none⟩ u2).setCell ⟨b,3,none⟩ u3).setCell ⟨b,4,none⟩ u4).setCell ⟨b,5,none⟩ u5)).cell? ⟨z,q,none⟩=w.cell? ⟨z,q,none⟩:=by
 have h:=zHE w b z hz u0 u1 u2 u3 u4 u5;simp only [World.cell?,h]
structure FiJ (w w3:World) (b off n cap B:Nat) (aao:Option Addr) (an ac m sn:Nat) (ls:List (List Bool)) (t:Tm) (TB CB ccap RB W0s:Nat) (k:Nat) (W:World):Prop where
 below:Below w3.heap.size w3 W
 tab:Six W TB (.slice (some ⟨b,off,none⟩) n cap) (.slice (some ⟨B,0,none⟩) n n) (.slice aao an ac) (.slice (some ⟨CB,0,none⟩) m ccap) (.int .i64 (sn:Int)) (.slice (some ⟨RB,0,none⟩) n n)
 lets:∃ us,W.ownsRow w3.heap.size 104 1 (.slice (some ⟨CB,0,none⟩) m ccap) us.length us/\zBX w us ls
 rows:∃ f,W.rowIs RB 104 n f/\∀ q,n - k <= q->q < n->∃ rb,f q=.slice (some ⟨rb,0,none⟩) m m/\W.rowIs rb 4 m (fun j=>.bool ((t.sub q).hb (sig ls sn) j))
 size:W0s <= W.heap.size
theorem FiJ.later {w w3:World} {b off n cap B:Nat} {aao:Option Addr} {an ac m sn:Nat} {ls:List (List Bool)} {t:Tm} {TB CB ccap RB W0s:Nat} {k:Nat} {W W':World} (h:FiJ w w3 b off n cap B aao an ac m sn ls t TB CB ccap RB W0s k W) (hb:Below W.heap.size W W'):FiJ w w3 b off n cap B aao an ac m sn ls t TB CB ccap RB W0s k W':=by
 obtain ⟨us,h1,h2⟩:=h.lets;obtain ⟨f,h3,h4⟩:=h.rows;refine ⟨h.below.trans (hb.mono h.below.size),h.tab.below hb h.tab.hl,⟨us,zAW h1 hb (Nat.le_refl _),h2⟩,⟨f,zAp h3 hb,fun q a b=>?_⟩,Nat.le_trans h.size hb.size⟩
 obtain ⟨rb,e1,e2⟩:=h4 q a b;exact ⟨rb,e1,zAp e2 hb⟩
theorem FiJ.kept {w w3:World} {b off n cap B:Nat} {aao:Option Addr} {an ac m sn:Nat} {ls:List (List Bool)} {t:Tm} {TB CB ccap RB W0s:Nat} {k base:Nat} {W W':World} {row:Option Nat} (h:FiJ w w3 b off n cap B aao an ac m sn ls t TB CB ccap RB W0s k W) (hg:W.grownBy W' row) (hr:∀ r,row=some r->base <= r/\∃ o:Obj,W.heap[r]? = some o/\o.isCells=false) (h3:w3.heap.size <= base) (hT:TB < base) (hC:CB < base) (hbW:base <= W.heap.size):FiJ w w3 b off n cap B aao an ac m sn ls t TB CB ccap RB W0s k W':=by
 have hb:Below base W W':=(Below.refl _ _).grown hg hbW (fun z e=>(hr z e).1)
 obtain ⟨us,h1,h2⟩:=h.lets;obtain ⟨f,h4,h5⟩:=h.rows;refine ⟨h.below.trans (hb.mono h3),h.tab.below hb hT,⟨us,zEJ h1 (hb.block CB hC),h2⟩,⟨f,zJ8 h4 hg (fun r e=>(hr r e).2),fun q a b=>?_⟩,Nat.le_trans h.size hb.size⟩
 obtain ⟨rb,e1,e2⟩:=h5 q a b;exact ⟨rb,e1,zJ8 e2 hg (fun r e=>(hr r e).2)⟩
theorem FiJ.put {w w3:World} {b off n cap B:Nat} {aao:Option Addr} {an ac m sn:Nat} {ls:List (List Bool)} {t:Tm} {TB CB ccap RB W0s:Nat} {k rb:Nat} {W:World} (h:FiJ w w3 b off n cap B aao an ac m sn ls t TB CB ccap RB W0s k W) (hk:k < n) (hTR:TB≠RB) (hCR:CB≠RB) (hR3:w3.heap.size <= RB) (hrow:W.rowIs rb 4 m (fun j=>.bool ((t.sub (n - 1 - k)).hb (sig ls sn) j))):FiJ w w3 b off n cap B aao an ac m sn ls t TB CB ccap RB W0s (k+1) (W.setCell ⟨RB,n - 1 - k,none⟩ (.slice (some ⟨rb,0,none⟩) m m)):=by
 have hb:∀ z,z≠RB->(W.setCell ⟨RB,n - 1 - k,none⟩ (.slice (some ⟨rb,0,none⟩) m m)).heap[z]? = W.heap[z]?:=fun z hz=>Below.heap_setCell W _ _ z hz
 have hsz:(W.setCell ⟨RB,n - 1 - k,none⟩ (.slice (some ⟨rb,0,none⟩) m m)).heap.size=W.heap.size:=by simp
 obtain ⟨us,h1,h2⟩:=h.lets;obtain ⟨f,h4,h5⟩:=h.rows;refine ⟨h.below.setCell hR3 _,h.tab.block (hb TB hTR) (by omega),⟨us,zEJ h1 (hb CB hCR),h2⟩,⟨_,h4.set (n - 1 - k) _,fun q a b=>?_⟩,by rw [hsz];exact h.size⟩
 by_cases hq:q=n - 1 - k
 ·subst hq
  exact ⟨rb,if_pos rfl,hrow.of_block (hb rb (zJF hrow h4 (by decide)))⟩
 ·obtain ⟨r,e1,e2⟩:=h5 q (by omega) b
  exact ⟨r,(if_neg hq).trans e1,e2.of_block (hb r (zJF e2 h4 (by decide)))⟩
theorem FiJ.start {w w3:World} {b off n cap B:Nat} {aao:Option Addr} {an ac m sn:Nat} {ls:List (List Bool)} {t:Tm} {TB CB ccap RB W0s:Nat} {Y:World} (hY:Below w3.heap.size w3 Y) (h6:Six Y TB (.slice none 0 0) (.slice none 0 0) (.slice none 0 0) (.slice none 0 0) (.int .i64 0) (.slice none 0 0)) (hlets:∃ us,Y.ownsRow w3.heap.size 104 1 (.slice (some ⟨CB,0,none⟩) m ccap) us.length us/\zBX w us ls) (hrow:Y.rowIs RB 104 n (fun _=>.slice none 0 0)) (h3:w3.heap.size <= TB) (hTR:TB≠RB) (hTC:TB≠CB) (hz:W0s <= Y.heap.size):FiJ w w3 b off n cap B aao an ac m sn ls t TB CB ccap RB W0s 0 (((((((Y.setCell ⟨TB,0,none⟩ (.slice (some ⟨b,off,none⟩) n cap)).setCell ⟨TB,1,none⟩ (.slice (some ⟨B,0,none⟩) n n)).setCell ⟨TB,2,none⟩ (.slice aao an ac)).setCell ⟨TB,3,none⟩ (.slice (some ⟨CB,0,none⟩) m ccap)).setCell ⟨TB,4,none⟩ (.int .i64 (sn:Int))).setCell ⟨TB,5,none⟩ (.slice (some ⟨RB,0,none⟩) n n))):=by
 have hb:∀ z,z≠TB->(((((((Y.setCell ⟨TB,0,none⟩ (.slice (some ⟨b,off,none⟩) n cap)).setCell ⟨TB,1,none⟩ (.slice (some ⟨B,0,none⟩) n n)).setCell ⟨TB,2,none⟩ (.slice aao an ac)).setCell ⟨TB,3,none⟩ (.slice (some ⟨CB,0,none⟩) m ccap)).setCell ⟨TB,4,none⟩ (.int .i64 (sn:Int))).setCell ⟨TB,5,none⟩ (.slice (some ⟨RB,0,none⟩) n n))).heap[z]? = Y.heap[z]?:=fun z hz=>by
  rw [Below.heap_setCell _ _ _ z hz,Below.heap_setCell _ _ _ z hz,Below.heap_setCell _ _ _ z hz,Below.heap_setCell _ _ _ z hz,Below.heap_setCell _ _ _ z hz,Below.heap_setCell _ _ _ z hz]
 have hf:∀ q,(((((((Y.setCell ⟨TB,0,none⟩ (.slice (some ⟨b,off,none⟩) n cap)).setCell ⟨TB,1,none⟩ (.slice (some ⟨B,0,none⟩) n n)).setCell ⟨TB,2,none⟩ (.slice aao an ac)).setCell ⟨TB,3,none⟩ (.slice (some ⟨CB,0,none⟩) m ccap)).setCell ⟨TB,4,none⟩ (.int .i64 (sn:Int))).setCell ⟨TB,5,none⟩ (.slice (some ⟨RB,0,none⟩) n n))).frozen? ⟨TB,q,none⟩=Y.frozen? ⟨TB,q,none⟩:=fun q=>by simp only [World.frozen?_setCell]
 have hsz:(((((((Y.setCell ⟨TB,0,none⟩ (.slice (some ⟨b,off,none⟩) n cap)).setCell ⟨TB,1,none⟩ (.slice (some ⟨B,0,none⟩) n n)).setCell ⟨TB,2,none⟩ (.slice aao an ac)).setCell ⟨TB,3,none⟩ (.slice (some ⟨CB,0,none⟩) m ccap)).setCell ⟨TB,4,none⟩ (.int .i64 (sn:Int))).setCell ⟨TB,5,none⟩ (.slice (some ⟨RB,0,none⟩) n n))).heap.size=Y.heap.size:=by simp
 obtain ⟨us,h1,h2⟩:=hlets;obtain ⟨q0,q1,q2,q3,q4,q5⟩:=h6.read (.slice (some ⟨b,off,none⟩) n cap) (.slice (some ⟨B,0,none⟩) n n) (.slice aao an ac) (.slice (some ⟨CB,0,none⟩) m ccap) (.int .i64 (sn:Int)) (.slice (some ⟨RB,0,none⟩) n n)
 have ho:∀ (X:World) (i j:Nat) (u:Value),i≠j->(X.setCell ⟨TB,i,none⟩ u).cell? ⟨TB,j,none⟩=X.cell? ⟨TB,j,none⟩:=fun X i j u hij=>World.cell?_setCell_other _ _ _ _ (by intro e;injection e with _ e2;exact hij e2)
 refine ⟨(((((hY.setCell h3 _).setCell h3 _).setCell h3 _).setCell h3 _).setCell h3 _).setCell h3 _,⟨?_,(hf 0).trans h6.f0,?_,(hf 1).trans h6.f1,?_,(hf 2).trans h6.f2,?_,(hf 3).trans h6.f3,?_,(hf 4).trans h6.f4,q5,(hf 5).trans h6.f5,by rw [hsz];exact h6.hl⟩,⟨us,zEJ h1 (hb CB (Ne.symm hTC)),h2⟩,⟨_,hrow.of_block (hb RB (Ne.symm hTR)),fun q a b=>by omega⟩,by rw [hsz];exact hz⟩
 ·rw [ho _ 5 0 _ (by decide),ho _ 4 0 _ (by decide),ho _ 3 0 _ (by decide),ho _ 2 0 _ (by decide),ho _ 1 0 _ (by decide)];exact q0
 ·rw [ho _ 5 1 _ (by decide),ho _ 4 1 _ (by decide),ho _ 3 1 _ (by decide),ho _ 2 1 _ (by decide)];exact q1
 ·rw [ho _ 5 2 _ (by decide),ho _ 4 2 _ (by decide),ho _ 3 2 _ (by decide)];exact q2
 ·rw [ho _ 5 3 _ (by decide),ho _ 4 3 _ (by decide)];exact q3
 ·rw [ho _ 5 4 _ (by decide)];exact q4
attribute [local go_sem] Oper.semAt_some
def zRP (p0 p6 p12:Value) (r:Nat->Value):Act:={ tmps:=#[p0,r 1,r 2,r 3,r 4,r 5,p6,r 7,r 8,r 9,r 10,r 11,p12,r 13,r 14,r 15,r 16,r 17,r 18,r 19,r 20,r 21,r 22,r 23,r 24,r 25,r 26,r 27,r 28,r 29,r 30,r 31,r 32,r 33,r 34,r 35,r 36,r 37,r 38,r 39,r 40,r 41,r 42,r 43,r 44,r 45,r 46,r 47,r 48,r 49,r 50,r 51,r 52,r 53,r 54,r 55,r 56,r 57,r 58,r 59,r 60,r 61,r 62,r 63,r 64,r 65,r 66,r 67,r 68,r 69,r 70,r 71,r 72,r 73,r 74,r 75,r 76,r 77,r 78,r 79,r 80],defers:=[]}
def zRH (w w3:World) (b off n cap B:Nat) (aao:Option Addr) (an ac m sn:Nat) (ls:List (List Bool)) (t:Tm) (a':Act) (Z:World):Prop:=
 ∃ TB CB ccap RB,(TB≠RB/\CB≠RB/\w3.heap.size <= TB/\w3.heap.size <= RB/\TB < Z.heap.size/\CB < Z.heap.size/\RB < Z.heap.size)/\FiJ w w3 b off n cap B aao an ac m sn ls t TB CB ccap RB 0 0 Z/\∃ r,a'=zRP (.slice (some ⟨b,off,none⟩) n cap) (.pointer (some ⟨w.heap.size+1,0,none⟩)) (.pointer (some ⟨TB,0,none⟩)) r
def zRN (p12 p13 p14:Value) (r:Nat->Value):Act:={ tmps:=#[r 0,r 1,r 2,r 3,r 4,r 5,r 6,r 7,r 8,r 9,r 10,r 11,p12,p13,p14,r 15,r 16,r 17,r 18,r 19,r 20,r 21,r 22,r 23,r 24,r 25,r 26,r 27,r 28,r 29,r 30,r 31,r 32,r 33,r 34,r 35,r 36,r 37,r 38,r 39,r 40,r 41,r 42,r 43,r 44,r 45,r 46,r 47,r 48,r 49,r 50,r 51,r 52,r 53,r 54,r 55,r 56,r 57,r 58,r 59,r 60,r 61,r 62,r 63,r 64,r 65,r 66,r 67,r 68,r 69,r 70,r 71,r 72,r 73,r 74,r 75,r 76,r 77,r 78,r 79,r 80],defers:=[]}
def zTO (l:List (Int × Int)) (n TB base:Nat) (k:Nat) (a':Act) (W:World):Prop:=∃ Bx,base <= Bx/\W.cell? ⟨Bx,0,none⟩=some (.int .i64 (l.getD (n - 1 - k) (0,0)).1)/\W.cell? ⟨Bx,1,none⟩=some (.int .i64 (l.getD (n - 1 - k) (0,0)).2)/\∃ r,a'=zRN (.pointer (some ⟨TB,0,none⟩)) (.int .i64 ((n - 1 - k:Nat):Int)) (.pointer (some ⟨Bx,0,none⟩)) r
def zIv (W:World) (n m RB:Nat) (aao:Option Addr) (an ac:Nat) (l:List (Int × Int)) (t:Tm) (σ:Nat->Nat->Bool):Prop:=zAD W (.slice aao an ac) (zAA l)/\RB < W.heap.size/\∀ q,q < n->∃ rb,W.cell? ⟨RB,q,none⟩=some (.slice (some ⟨rb,0,none⟩) m m)/\rb < W.heap.size/\∀ j,j < m->W.cell? ⟨rb,j,none⟩=some (.bool ((t.sub q).hb σ j))
def zHd (w:World) (b off n cap m sn:Nat) (l:List (Int × Int)) (t:Tm) (σ:Nat->Nat->Bool) (e:Ending) (w':World):Prop:=∃ B aao ac CB ccap RB,e=.returned (.tuple #[.agg #[.slice (some ⟨b,off,none⟩) n cap,.slice (some ⟨B,0,none⟩) n n,.slice aao (zAA l).length ac,.slice (some ⟨CB,0,none⟩) m ccap,.int .i64 (sn:Int),.slice (some ⟨RB,0,none⟩) n n],.int .i64 0])/\Below w.heap.size w w'/\zIv w' n m RB aao (zAA l).length ac l t σ
def fiQ (J:Act->World->Prop):Exit->Act->World->Prop
 | .normal,a,w=>J a w
 | _,_,_=>False
theorem zIg {p:Nat->Prop} {a:Nat} (h:p a):∀ i∈[a],p i:=fun i hi=>by
 have:i=a:=by simpa using hi
 rw [this];exact h
theorem zDB {P:Program} {md:Region.Mode} {ops:Array Oper} {Q:Exit->Act->World->Prop} {S:World->Prop} {i:Nat} {oi:Oper} {v:Value} {fuel:Nat} {listed:Array Bool} {a:Act} {w:World} (d:Option Tmp) (hi:ops[i]? = some oi) (hd:oi.dst=d)
  (hs:Region.noSelect ops=true) (hf:Region.free md ops listed i=true) (hr:(Region.ready md ops listed).contains i=true)
  (hQ:∀ c a w,Q (.panic c) (a.put oi.dst v) w->Q (.panic c) a w) (hy:YieldsIf P ops S oi v a) (hS:S w)
  (h:wpAnyH P md ops Q S fuel (listed.setIfInBounds i true) (a.put d v) w):wpAnyH P md ops Q S (fuel+1) listed a w:=wpAnyH_take hi hs hf hr hQ hy hS (hd ▸ h)
theorem zQq {ops:Array Oper} {Q:Exit->Act->World->Prop} {i:Nat} {K:Act->World->Prop} {a:Act} {w:World} {o:Oper} {f:FuncId} {args:Array Value} {m:Nat} {u v:Nat->Bool} (d:Option Tmp) (hi:ops[i]? = some o) (hd:o.dst=d) (hw:Region.wanted o (yielded ops a.tmps)=true) (hr:(execOp a.eval o).run Tryz.prog w=.ok (.enter f args) w) (h:Calls Tryz.prog f args w (zIz w m u v)) (hR:∀ g caps w',Below w.heap.size w w'->zNs w' (.func (.func g) #[] caps) m u v->K (a.put d (.func (.func g) #[] caps)) w'):wpOp Tryz.prog ops Q i K a w:=
 zGQ hi hw hr h fun _ w' hx=>Exists.elim hx fun g hx=>Exists.elim hx fun caps hx=>⟨_,hx.1,hd ▸ hR g caps w' hx.2.1 hx.2.2⟩
theorem zP1 {P:Program} {ops:Array Oper} {Q:Exit->Act->World->Prop} {i:Nat} {K:Act->World->Prop} {a:Act} {w:World} {o:Oper} {f:FuncId} {args:Array Value} (d:Option Tmp) (v:Value) (R:World->Prop) (hi:ops[i]? = some o) (hd:o.dst=d) (hw:Region.wanted o (yielded ops a.tmps)=true) (hr:(execOp a.eval o).run P w=.ok (.enter f args) w) (h:Calls P f args w fun e w'=>e=.returned v/\R w') (hR:∀ w',R w'->K (a.put d v) w'):wpOp P ops Q i K a w:=
 zGQ hi hw hr h fun _ w' hx=>⟨v,hx.1,hd ▸ hR w' hx.2⟩
theorem zOl {P:Program} {ops:Array Oper} {Q:Exit->Act->World->Prop} {i:Nat} {K:Act->World->Prop} {a:Act} {w:World} {o:Oper} (w':World) (hi:ops[i]? = some o) (hd:o.dst=none) (hw:Region.wanted o (yielded ops a.tmps)=true) (hr:(execOp a.eval o).run P w=.ok .skip w') (h:K a w'):wpOp P ops Q i K a w:=
 zJN hi hw hr (by rw [hd];exact h)
def fwD:List Nat:=[42,43,44,45,46,47,48,49,50,51,52,53,54,55,56,57,12]
def fwP (base:Nat) (w0:World) (ls:List (List Bool)) (m n:Nat) (s0 s1:Value) (cs:List Value):Nat->Value->World->Prop
 | 7,v,w=>∃ g,v=.slice (some ⟨g,0,none⟩) 2 2/\w.cell? ⟨g,0,none⟩=some s0/\w.cell? ⟨g,1,none⟩=some s1
 | 8,v,w=>∃ CB ccap,v=.slice (some ⟨CB,0,none⟩) m ccap/\∃ us,w.ownsRow base 104 1 (.slice (some ⟨CB,0,none⟩) m ccap) us.length us/\zBX w0 us ls
 | 14,v,w=>∃ RB,v=.slice (some ⟨RB,0,none⟩) n n/\w.rowIs RB 104 n (fun _=>.slice none 0 0)
 | 15,_,_=>True
 | 16,v,w=>∃ TB,v=.pointer (some ⟨TB,0,none⟩)/\Six w TB (.slice none 0 0) (.slice none 0 0) (.slice none 0 0) (.slice none 0 0) (.int .i64 0) (.slice none 0 0)
 | i,v,_=>v=cs.getD i undef
def fwN (i:Nat):Bool:=[8,14,16].contains i
def fwR (t0 t1 t2 t4:Value) (i:Nat) (q:Nat->Value) (v:Value):Prop:=i=15->v=.agg #[t0,t1,t2,q 50,t4,q 56]
theorem zMX {base:Nat} {w0:World} {ls:List (List Bool)} {m n:Nat} {s0 s1:Value} {cs:List Value} {i:Nat} {v:Value} {w w':World} (hi:i < 17) (h:fwP base w0 ls m n s0 s1 cs i v w) (hb:Below w.heap.size w w'):fwP base w0 ls m n s0 s1 cs i v w':=by
 have hcs:i=0\/i=1\/i=2\/i=3\/i=4\/i=5\/i=6\/i=7\/i=8\/i=9\/i=10\/i=11\/i=12\/i=13\/i=14\/i=15\/i=16:=by omega
 rcases hcs with rfl | rfl | rfl | rfl | rfl | rfl | rfl | rfl | rfl | rfl | rfl | rfl | rfl | rfl | rfl | rfl | rfl
 case inr.inr.inr.inr.inr.inr.inr.inl=>
  obtain ⟨g,e,c0,c1⟩:=h;exact ⟨g,e,(hb.cell (World.block_lt_of_cell? w _ c0)).trans c0,(hb.cell (World.block_lt_of_cell? w _ c1)).trans c1⟩
 case inr.inr.inr.inr.inr.inr.inr.inr.inl=>
  obtain ⟨CB,ccap,e,us,o1,o2⟩:=h;exact ⟨CB,ccap,e,us,zAW o1 hb (Nat.le_refl _),o2⟩
 case inr.inr.inr.inr.inr.inr.inr.inr.inr.inr.inr.inr.inr.inr.inl=>
  obtain ⟨RB,e,hr⟩:=h;exact ⟨RB,e,zAp hr hb⟩
 case inr.inr.inr.inr.inr.inr.inr.inr.inr.inr.inr.inr.inr.inr.inr.inr=>
  obtain ⟨TB,e,hs⟩:=h;exact ⟨TB,e,hs.below hb hs.hl⟩
 all_goals exact h
set_option maxRecDepth 100000 in
theorem zRf (b off cap n:Nat) (so lo:Option Addr) (sn sc ln lc:Nat) (l:List (Int × Int)) (ss ll:List (List Bool)) (props:Int) (t:Tm) (w:World) (hB:0 < w.heap.size) (hT:zAJ w) (hln:n=l.length) (hbl:b < w.heap.size) (hat:zA4 w b off l) (hcap:n <= cap) (hsn:sn=ss.length) (hlln:ln=ll.length) (hS:zAS w (.slice so sn sc) ss) (hL:zAS w (.slice lo ln lc) ll) (hc:zAV props l=0) (hd:zCM props ss ll=0) (hwf:t.Wf) (hto:t.ops=l) :
  Calls Tryz.prog 67 #[.slice (some ⟨b,off,none⟩) n cap,.agg #[.slice so sn sc,.slice lo ln lc],.int .i64 props] w (zHd w b off n cap (sn+ln) sn l t (sig (ss++ll) sn)):=by
 have hV:zAR w (.slice (some ⟨b,off,none⟩) n cap) l:=by
  subst hln;exact ⟨_,cap,rfl,⟨hcap,fun h=>by simp at h⟩,fun _=>⟨b,off,rfl,hbl,hat⟩⟩
 obtain ⟨⟨hp0,hp6⟩,h12,h1,hl12,hlet⟩:=zFA hd;have hA:Below w.heap.size w ((w.alloc (.cells #[.slice so sn sc,.slice lo ln lc] 83)).alloc (.cells #[.slice none 0 0,.slice none 0 0,.slice none 0 0,.slice none 0 0,.int .i64 0,.slice none 0 0] 152)):=((Below.refl _ _).alloc (Nat.le_refl _) _).alloc (by simp) _
 have hah:Calls Tryz.prog 76 #[.slice (some ⟨b,off,none⟩) n cap,.int .i64 props] ((w.alloc (.cells #[.slice so sn sc,.slice lo ln lc] 83)).alloc (.cells #[.slice none 0 0,.slice none 0 0,.slice none 0 0,.slice none 0 0,.int .i64 0,.slice none 0 0] 152)) fun e w'=>∃ aao ac,e=.returned (.tuple #[.slice aao (zAA l).length ac,.int .i64 0])/\Below w.heap.size w w'/\Below (w.heap.size+1+1) ((w.alloc (.cells #[.slice so sn sc,.slice lo ln lc] 83)).alloc (.cells #[.slice none 0 0,.slice none 0 0,.slice none 0 0,.slice none 0 0,.int .i64 0,.slice none 0 0] 152)) w'/\Hid (w'.ownsRow (w.heap.size+1+1) 3 1 (.slice aao (zAA l).length ac) (zAA l).length (zAL (zAA l))):=(zIU _ l props ((w.alloc (.cells #[.slice so sn sc,.slice lo ln lc] 83)).alloc (.cells #[.slice none 0 0,.slice none 0 0,.slice none 0 0,.slice none 0 0,.int .i64 0,.slice none 0 0] 152)) (Nat.lt_of_lt_of_le hB hA.size) (hT.below hA hB) (hV.below hA) hc).mono fun e w' ⟨aao,ac,h1,h2,h3⟩=>⟨aao,ac,h1,hA.trans (h2.mono hA.size),by simpa using h2,by have h:=h3.out;simp only [World.size_alloc] at h;exact h⟩
 have h6:=Six.new (w.alloc (.cells #[.slice so sn sc,.slice lo ln lc] 83)) (.slice none 0 0) (.slice none 0 0) (.slice none 0 0) (.slice none 0 0) (.int .i64 0) (.slice none 0 0) 152;have hch:=fun w1 (hb:Below w.heap.size w w1)=>zNB _ _ ss ll props w1 (by omega) (by omega) (hS.below hb) (hL.below hb)
 rw [hd] at hch;obtain ⟨_,_,hz,hlf,h6a⟩:=zAv hc;obtain ⟨hne,h60⟩:=zCq hz;rw [List.length_map,<- hln] at h60;have hen:=fun w1 (hb:Below w.heap.size w w1)=>(zEe _ (l.map Prod.fst) w1 (Nat.lt_of_lt_of_le hB hb.size) (hT.below hb hB) (hV.below hb).kinds).mono fun e w' (hp:zFm (l.map Prod.fst) w1 e w')=>hp
 have hw0:((w.alloc (.cells #[.slice so sn sc,.slice lo ln lc] 83)).alloc (.cells #[.slice none 0 0,.slice none 0 0,.slice none 0 0,.slice none 0 0,.int .i64 0,.slice none 0 0] 152)).cell? ⟨w.heap.size,0,none⟩=some (.slice so sn sc):=by simp [go_sem]
 have hw1:((w.alloc (.cells #[.slice so sn sc,.slice lo ln lc] 83)).alloc (.cells #[.slice none 0 0,.slice none 0 0,.slice none 0 0,.slice none 0 0,.int .i64 0,.slice none 0 0] 152)).cell? ⟨w.heap.size,1,none⟩=some (.slice lo ln lc):=by simp [go_sem]
 simp only [World.size_alloc] at h6
 have hen2:∀ w1,Below w.heap.size w w1->Calls Tryz.prog 88 #[.slice (some ⟨b,off,none⟩) n cap] w1 fun e w'=>∃ B,e=.returned (.tuple #[.slice (some ⟨B,0,none⟩) n n,.int .i64 0])/\Below w1.heap.size w1 w'/\Hid (w'.rowIs B 3 n (fun q=>.int .i64 (zAi (l.map Prod.fst) q))):=fun w1 hb=>(hen w1 hb).mono fun e w' ⟨h1,_,h3⟩=>by
  obtain ⟨B,_,he,hr⟩:=h3 hz;rw [List.length_map,<- hln] at he hr;exact ⟨B,he,h1,hr⟩
 have hmk:=run_make_row' (P:=Tryz.prog) 78 104 (.slice none 0 0) 24 Tryz.underlying78 zEw rfl .i64 .i64 n (by omega) (by omega)
 obtain ⟨m,hm⟩:∃ m,m=sn+ln:=⟨_,rfl⟩
 have HQ:Hid (∀ e w' B aao ac CB ccap RB,e=.returned (.tuple #[.agg #[.slice (some ⟨b,off,none⟩) n cap,.slice (some ⟨B,0,none⟩) n n,.slice aao (zAA l).length ac,.slice (some ⟨CB,0,none⟩) (sn+ln) ccap,.int .i64 (sn:Int),.slice (some ⟨RB,0,none⟩) n n],.int .i64 0])->Below w.heap.size w w'->zIv w' n (sn+ln) RB aao (zAA l).length ac l t (sig (ss++ll) sn)->zHd w b off n cap (sn+ln) sn l t (sig (ss++ll) sn) e w'):=fun e w' B aao ac CB ccap RB h1 h2 h3=>⟨B,aao,ac,CB,ccap,RB,h1,h2,h3⟩
 rw [<- hm] at HQ ⊢;generalize zHd w b off n cap m sn l t (sig (ss++ll) sn)=PO at *;have HAn:Hid (∀ an,an=(zAA l).length->an=(zAA l).length):=fun _ h=>h
 obtain ⟨an,han⟩:∃ an,an=(zAA l).length:=⟨_,rfl⟩
 have HAN:Hid (an=(zAA l).length):=han;rw [<- han] at hah HQ h6a;clear han HAn;have HLN:Hid (n=l.length):=hln;have HC:Hid (zAV props l=0):=hc;have HS:Hid (zAS w (.slice so sn sc) ss):=hS;have HL:Hid (zAS w (.slice lo ln lc) ll):=hL;have HAt:Hid (zA4 w b off l):=hat;have HZ:Hid (zAE (l.map Prod.fst)=0):=hz
 have HLf:Hid (zBo props l=0):=hlf;have HLt:=(show Hid _ from hlet)
 have HSn:Hid (sn=ss.length):=hsn;have HLn:Hid (ln=ll.length):=hlln;have HM:Hid (m=sn+ln):=hm;have HTo:Hid (t.ops=l):=hto;have hmx:Tryz.prog.follows .mixedOrders=true:=by kernel_rfl
 have hsn12:sn <= 12:=by omega
 have hln1:1 <= ln:=by omega
 have hln12:ln <= 12:=by omega
 have hm24:m <= 24:=by omega
 have hsm:sn < m:=by omega
 clear hT hV hen hln hc hd hS hL hat hz hlf hlet hsn hlln hm hto hne;refine (callsIn_wide (n:=8)).1 ?_
 refine callsIn_of_wp_marks Tryz.func67 rfl trivial ?_ rfl
 simp only [Tryz.ntmps67,List.size_toArray,List.length_cons,List.length_nil,Nat.reduceAdd,Nat.reduceSub,Array.replicate_succ,Array.replicate_zero,List.push_toArray,List.append_toArray,List.nil_append,List.cons_append];refine wpIn_wide.2 ?_
 go_wp2_with (first | (go_at_call 76;refine hah.mono ?_;clear hah;rintro e w1 ⟨aao,ac,rfl,hbw1,hb1,HI⟩;have g6:=h6.below hb1 (by omega);have hc1:=hch w1 hbw1;have d0:=(hb1.cell (p:=⟨w.heap.size,0,none⟩) (by show w.heap.size < _;omega)).trans hw0;have d1:=(hb1.cell (p:=⟨w.heap.size,1,none⟩) (by show w.heap.size < _;omega)).trans hw1) | (go_at_call 92;refine hc1.mono ?_;clear hc1;rintro e w2 ⟨rfl,hb2⟩;have hbw2:=hbw1.trans (hb2.mono hbw1.size);have hen3:=hen2 w2 hbw2) | (go_at_call 88;refine hen3.mono ?_;clear hen3;rintro e w3 ⟨B,rfl,hb3,HR3⟩;have hbw3:=hbw2.trans (hb3.mono hbw2.size)))
 have HG6:Hid (Six w3 (w.heap.size+1) (.slice none 0 0) (.slice none 0 0) (.slice none 0 0) (.slice none 0 0) (.int .i64 0) (.slice none 0 0)):=(g6.below hb2 g6.hl).below hb3 (g6.below hb2 g6.hl).hl;have HI3:Hid (w3.ownsRow (w.heap.size+1+1) 3 1 (.slice aao an ac) an (zAL (zAA l))):=zAW (zAW HI.out hb2 (Nat.le_refl _)) hb3 (Nat.le_refl _);clear g6 HI
 have hwl1:w.heap.size < w1.heap.size:=by have:=hb1.size;simp at this;omega
 have hwl2:w.heap.size < w2.heap.size:=Nat.lt_of_lt_of_le hwl1 hb2.size;have hwl:w.heap.size < w3.heap.size:=Nat.lt_of_lt_of_le hwl2 hb3.size
 have HSv:Hid (∀ Y,Below w3.heap.size w3 Y->Y.cell? ⟨w.heap.size,0,none⟩=some (.slice so sn sc)/\Y.cell? ⟨w.heap.size,1,none⟩=some (.slice lo ln lc)):=fun Y hb=>⟨(hb.cell (p:=⟨w.heap.size,0,none⟩) hwl).trans ((hb3.cell (p:=⟨w.heap.size,0,none⟩) hwl2).trans ((hb2.cell (p:=⟨w.heap.size,0,none⟩) hwl1).trans d0)),(hb.cell (p:=⟨w.heap.size,1,none⟩) hwl).trans ((hb3.cell (p:=⟨w.heap.size,1,none⟩) hwl2).trans ((hb2.cell (p:=⟨w.heap.size,1,none⟩) hwl1).trans d1))⟩
 have HSx:Hid (∀ (Y:World) TB,w3.heap.size <= TB->∀ v0 v1 v2 v3 v4 v5,(Y.cell? ⟨w.heap.size,0,none⟩=some (.slice so sn sc)/\Y.cell? ⟨w.heap.size,1,none⟩=some (.slice lo ln lc))->(((((((Y.setCell ⟨TB,0,none⟩ (v0)).setCell ⟨TB,1,none⟩ (v1)).setCell ⟨TB,2,none⟩ (v2)).setCell ⟨TB,3,none⟩ (v3)).setCell ⟨TB,4,none⟩ (v4)).setCell ⟨TB,5,none⟩ (v5))).cell? ⟨w.heap.size,0,none⟩=some (.slice so sn sc)/\(((((((Y.setCell ⟨TB,0,none⟩ (v0)).setCell ⟨TB,1,none⟩ (v1)).setCell ⟨TB,2,none⟩ (v2)).setCell ⟨TB,3,none⟩ (v3)).setCell ⟨TB,4,none⟩ (v4)).setCell ⟨TB,5,none⟩ (v5))).cell? ⟨w.heap.size,1,none⟩=some (.slice lo ln lc)):=fun Y TB h v0 v1 v2 v3 v4 v5 hY=>⟨(zJB Y TB w.heap.size 0 (by omega) v0 v1 v2 v3 v4 v5).trans hY.1,(zJB Y TB w.heap.size 1 (by omega) v0 v1 v2 v3 v4 v5).trans hY.2⟩
 clear hch hen2 hw0 hw1 h6;refine Code.wp_mono (Q:=fiQ (zRH w w3 b off n cap B aao an ac m sn (ss++ll) t)) ?cont ?reg
 case reg=>
  generalize ha0:Act.mk _ _=a0;have hsz:a0.tmps.size=81:=by rw [<- ha0];rfl
  have a0':a0.eval (.tmp 0)=.slice (some ⟨b,off,none⟩) n cap:=by rw [<- ha0];rfl
  have a4:a0.eval (.tmp 4)=.pointer (some ⟨w.heap.size,0,none⟩):=by rw [<- ha0];rfl
  have a8:a0.eval (.tmp 8)=.slice aao an ac:=by rw [<- ha0];rfl
  have a11:a0.eval (.tmp 11)=.slice (some ⟨B,0,none⟩) n n:=by rw [<- ha0];rfl
  refine zFg hmx fwD 17 (fwP w3.heap.size w (ss++ll) m n (.slice so sn sc) (.slice lo ln lc) [.slice (some ⟨b,off,none⟩) n cap,.slice (some ⟨B,0,none⟩) n n,.slice aao an ac,.pointer (some ⟨w.heap.size,0,none⟩),.slice so sn sc,.pointer (some ⟨w.heap.size,1,none⟩),.slice lo ln lc,undef,undef,.pointer (some ⟨w.heap.size,0,none⟩),.slice so sn sc,.int .i64 (sn:Int),.slice (some ⟨b,off,none⟩) n cap,.int .i64 (n:Int)]) fwN (fwR (.slice (some ⟨b,off,none⟩) n cap) (.slice (some ⟨B,0,none⟩) n n) (.slice aao an ac) (.int .i64 (sn:Int))) (by rw [hsz];rfl) ?_ (fun i v w w' hi h hb=>zMX hi h hb) ?_ ?_
  ·intro i q v t u hi hk hr h15
   subst h15;rw [hr rfl,zBf (hk 8 50 (by rfl) (by rfl)),zBf (hk 14 56 (by rfl) (by rfl))]
  ·intro i o hi ho q w' hb hq
   have hbw:Below w'.heap.size w' w':=Below.refl _ _;have f:∀ t,fwD.contains t=true->t < 81->(frm a0 fwD q).eval (.tmp t)=q t:=fun t h1 h2=>zDK h1 (by rw [hsz];exact h2)
   have e0:=(zBr (a:=a0) (ds:=fwD) (q:=q) (t:=0) rfl).trans a0';have e4:=(zBr (a:=a0) (ds:=fwD) (q:=q) (t:=4) rfl).trans a4;have e8:=(zBr (a:=a0) (ds:=fwD) (q:=q) (t:=8) rfl).trans a8;have e11:=(zBr (a:=a0) (ds:=fwD) (q:=q) (t:=11) rfl).trans a11;obtain ⟨q0,q1⟩:=HSv.out w' hb
   have hcs:i=0\/i=1\/i=2\/i=3\/i=4\/i=5\/i=6\/i=7\/i=8\/i=9\/i=10\/i=11\/i=12\/i=13\/i=14\/i=15\/i=16:=by omega
   rcases hcs with rfl | rfl | rfl | rfl | rfl | rfl | rfl | rfl | rfl | rfl | rfl | rfl | rfl | rfl | rfl | rfl | rfl
   all_goals obtain rfl:=Option.some.inj ho
   ·refine zAT (w':=w') (v:=.slice (some ⟨b,off,none⟩) n cap) ?_ hbw ⟨rfl,(fun h=>absurd h (by decide)),fun b h _=>nomatch h⟩
    generalize (frm a0 fwD q).eval=ev at *;simp [execOp,e0,go_sem]
   ·refine zAT (w':=w') (v:=.slice (some ⟨B,0,none⟩) n n) ?_ hbw ⟨rfl,(fun h=>absurd h (by decide)),fun b h _=>nomatch h⟩
    generalize (frm a0 fwD q).eval=ev at *;simp [execOp,e11,go_sem]
   ·refine zAT (w':=w') (v:=.slice aao an ac) ?_ hbw ⟨rfl,(fun h=>absurd h (by decide)),fun b h _=>nomatch h⟩
    generalize (frm a0 fwD q).eval=ev at *;simp [execOp,e8,go_sem]
   ·refine zAT (w':=w') (v:=.pointer (some ⟨w.heap.size,0,none⟩)) ?_ hbw ⟨rfl,(fun h=>absurd h (by decide)),fun b h _=>nomatch h⟩
    generalize (frm a0 fwD q).eval=ev at *;simp [execOp,e4,go_sem]
   ·refine zAT (w':=w') (v:=.slice so sn sc) ?_ hbw ⟨rfl,(fun h=>absurd h (by decide)),fun b h _=>nomatch h⟩
    have x:=(f 45 rfl (by decide)).trans (hq 3 45 (by rfl) (by rfl))
    generalize (frm a0 fwD q).eval=ev at *;simp [execOp,x,go_sem,q0]
   ·refine zAT (w':=w') (v:=.pointer (some ⟨w.heap.size,1,none⟩)) ?_ hbw ⟨rfl,(fun h=>absurd h (by decide)),fun b h _=>nomatch h⟩
    generalize (frm a0 fwD q).eval=ev at *;simp [execOp,e4,go_sem]
   ·refine zAT (w':=w') (v:=.slice lo ln lc) ?_ hbw ⟨rfl,(fun h=>absurd h (by decide)),fun b h _=>nomatch h⟩
    have x:=(f 47 rfl (by decide)).trans (hq 5 47 (by rfl) (by rfl))
    generalize (frm a0 fwD q).eval=ev at *;simp [execOp,x,go_sem,q1]
   ·have x1:=(f 46 rfl (by decide)).trans (hq 4 46 (by rfl) (by rfl))
    have x2:=(f 48 rfl (by decide)).trans (hq 6 48 (by rfl) (by rfl))
    refine zAT (w':=w'.alloc (.cells #[.slice so sn sc,.slice lo ln lc] 78)) (v:=.slice (some ⟨w'.heap.size,0,none⟩) 2 2) ?_ (hbw.alloc (Nat.le_refl _) _) ⟨⟨w'.heap.size,rfl,by simp [go_sem],by simp [go_sem]⟩,(fun h=>absurd h (by decide)),fun b h _=>nomatch h⟩
    generalize (frm a0 fwD q).eval=ev at *;simp [execOp,x1,x2,go_sem]
   ·obtain ⟨g,y,c0,c1⟩:=hq 7 49 (by rfl) (by rfl)
    have x:=(f 49 rfl (by decide)).trans y
    have hco:=zHr g _ _ ss ll w w' (hbw3.trans (hb.mono hbw3.size)) h12 hl12 h1 HS.out HL.out c0 c1;rw [<- HSn.out,<- HLn.out,<- HM.out] at hco;refine zDy (f:=93) (args:=#[.slice (some ⟨g,0,none⟩) 2 2]) ?_ (hco.mono fun e w2 ⟨CB,ccap,e1,hb2,hX⟩=>⟨_,e1,hb2,?_,(fun h=>absurd h (by decide)),fun b' _ hb'=>?_⟩)
    ·have evf:∀ n,(frm a0 fwD q).eval (.func n)=.func (.func n) #[] #[]:=fun n=>rfl
     generalize (frm a0 fwD q).eval=ev at *;simp [execOp,x,evf,go_sem]
    ·obtain ⟨us,o1,o2⟩:=hX.out
     exact ⟨CB,ccap,rfl,us,zAw o1 hb.size,o2⟩
    ·obtain ⟨us,o1,o2⟩:=hX.out
     obtain rfl:CB=b':=by simpa [blk] using hb'
     exact o1.lt CB rfl
   ·refine zAT (w':=w') (v:=.pointer (some ⟨w.heap.size,0,none⟩)) ?_ hbw ⟨rfl,(fun h=>absurd h (by decide)),fun b h _=>nomatch h⟩
    generalize (frm a0 fwD q).eval=ev at *;simp [execOp,e4,go_sem]
   ·refine zAT (w':=w') (v:=.slice so sn sc) ?_ hbw ⟨rfl,(fun h=>absurd h (by decide)),fun b h _=>nomatch h⟩
    have x:=(f 51 rfl (by decide)).trans (hq 9 51 (by rfl) (by rfl))
    generalize (frm a0 fwD q).eval=ev at *;simp [execOp,x,go_sem,q0]
   ·refine zAT (w':=w') (v:=.int .i64 (sn:Int)) ?_ hbw ⟨rfl,(fun h=>absurd h (by decide)),fun b h _=>nomatch h⟩
    have x:=(f 52 rfl (by decide)).trans (hq 10 52 (by rfl) (by rfl))
    generalize (frm a0 fwD q).eval=ev at *;simp [execOp,x,go_sem]
   ·refine zAT (w':=w') (v:=.slice (some ⟨b,off,none⟩) n cap) ?_ hbw ⟨rfl,(fun h=>absurd h (by decide)),fun b h _=>nomatch h⟩
    generalize (frm a0 fwD q).eval=ev at *;simp [execOp,e0,go_sem]
   ·refine zAT (w':=w') (v:=.int .i64 (n:Int)) ?_ hbw ⟨rfl,(fun h=>absurd h (by decide)),fun b h _=>nomatch h⟩
    have x:=(f 54 rfl (by decide)).trans (hq 12 54 (by rfl) (by rfl))
    generalize (frm a0 fwD q).eval=ev at *;simp [execOp,x,go_sem]
   ·have x:=(f 55 rfl (by decide)).trans (hq 13 55 (by rfl) (by rfl))
    refine zAT (w':=w'.alloc (.cells (madeCells #[.slice none 0 0] n) 104)) (v:=.slice (some ⟨w'.heap.size,0,none⟩) n n) ?_ (hbw.alloc (Nat.le_refl _) _) ⟨⟨w'.heap.size,rfl,World.rowIs_made _ _ _ _⟩,(fun h=>absurd h (by decide)),fun b' _ hb'=>?_⟩
    ·generalize (frm a0 fwD q).eval=ev at *
     simp [execOp,x,go_sem,hmk]
    ·obtain rfl:w'.heap.size=b':=by simpa [blk] using hb'
     simp
   ·obtain ⟨CB,ccap,y1,_⟩:=hq 8 50 (by rfl) (by rfl)
    obtain ⟨RB,y2,_⟩:=hq 14 56 (by rfl) (by rfl)
    have x0:=(f 42 rfl (by decide)).trans (hq 0 42 (by rfl) (by rfl))
    have x1:=(f 43 rfl (by decide)).trans (hq 1 43 (by rfl) (by rfl))
    have x2:=(f 44 rfl (by decide)).trans (hq 2 44 (by rfl) (by rfl))
    have x3:=(f 50 rfl (by decide)).trans y1
    have x4:=(f 53 rfl (by decide)).trans (hq 11 53 (by rfl) (by rfl))
    have x5:=(f 56 rfl (by decide)).trans y2
    refine zAT (w':=w') (v:=.agg #[.slice (some ⟨b,off,none⟩) n cap,.slice (some ⟨B,0,none⟩) n n,.slice aao an ac,q 50,.int .i64 (sn:Int),q 56]) ?_ hbw ⟨trivial,(fun _=>rfl),fun b h _=>nomatch h⟩
    rw [y1,y2];generalize (frm a0 fwD q).eval=ev at *;simp [execOp,x0,x1,x2,x3,x4,x5,go_sem]
   ·refine zAT (w':=w'.alloc (.cells #[.slice none 0 0,.slice none 0 0,.slice none 0 0,.slice none 0 0,.int .i64 0,.slice none 0 0] 152)) (v:=.pointer (some ⟨w'.heap.size,0,none⟩)) ?_ (hbw.alloc (Nat.le_refl _) _) ⟨⟨w'.heap.size,rfl,Six.new _ _ _ _ _ _ _ _⟩,(fun h=>absurd h (by decide)),fun b' _ hb'=>?_⟩
    ·generalize (frm a0 fwD q).eval=ev
     kernel_rfl
    ·obtain rfl:w'.heap.size=b':=by simpa [blk] using hb'
     simp
  ·intro q w' hb hp hl2 hown hdis
   have f:∀ t,fwD.contains t=true->t < 81->(frm a0 fwD q).eval (.tmp t)=q t:=fun t h1 h2=>zDK h1 (by rw [hsz];exact h2)
   obtain ⟨CB,ccap,y1,us,o1,o2⟩:=hp 8 50 (by decide) (by rfl)
   obtain ⟨RB,y2,hrow⟩:=hp 14 56 (by decide) (by rfl)
   obtain ⟨TB,y3,six⟩:=hp 16 12 (by decide) (by rfl)
   have e57:=hl2 15 57 (by decide) (by rfl) rfl
   rw [y1,y2] at e57;have k1:blk (q 50)=some CB:=by rw [y1];rfl
   have k2:blk (q 56)=some RB:=by rw [y2];rfl
   have k3:blk (q 12)=some TB:=by rw [y3];rfl
   have u1:TB≠RB:=fun e=>hdis 16 14 12 56 TB (by decide) (by decide) (by decide) rfl rfl rfl rfl k3 (by rw [k2,e])
   have u2:CB≠RB:=fun e=>hdis 8 14 50 56 CB (by decide) (by decide) (by decide) rfl rfl rfl rfl k1 (by rw [k2,e])
   have u0:TB≠CB:=fun e=>hdis 16 8 12 50 TB (by decide) (by decide) (by decide) rfl rfl rfl rfl k3 (by rw [k1,e])
   have v1:=hown 8 50 CB (by decide) rfl rfl k1
   have v2:=hown 14 56 RB (by decide) rfl rfl k2
   have v3:=hown 16 12 TB (by decide) rfl rfl k3
   have k0:=six.k0;have f0:=six.f0;have k1:=six.k1;have f1:=six.f1;have k2:=six.k2;have f2:=six.f2;have k3:=six.k3;have f3:=six.f3;have k4:=six.k4;have f4:=six.f4;have k5:=six.k5;have f5:=six.f5
   show wpOps Tryz.prog _ _ [17] _ _
   rw [wpOps_cons];refine zFJ rfl rfl ?_
   have x12:=(f 12 rfl (by decide)).trans y3
   have x57:=(f 57 rfl (by decide)).trans e57
   refine zIb (w':=((((((w'.setCell ⟨TB,0,none⟩ (.slice (some ⟨b,off,none⟩) n cap)).setCell ⟨TB,1,none⟩ (.slice (some ⟨B,0,none⟩) n n)).setCell ⟨TB,2,none⟩ (.slice aao an ac)).setCell ⟨TB,3,none⟩ (.slice (some ⟨CB,0,none⟩) m ccap)).setCell ⟨TB,4,none⟩ (.int .i64 (sn:Int))).setCell ⟨TB,5,none⟩ (.slice (some ⟨RB,0,none⟩) n n))) rfl ?_ ?_
   ·generalize (frm a0 fwD q).eval=ev at *
    simp [execOp,x12,x57,go_sem,k0,k1,k2,k3,k4,k5,f0,f1,f2,f3,f4,f5]
   ·refine ⟨TB,CB,ccap,RB,⟨u1,u2,v3.1,v2.1,by simp only [World.size_setCell];exact v3.2,by simp only [World.size_setCell];exact v1.2,by simp only [World.size_setCell];exact v2.2⟩,FiJ.start hb six ⟨us,o1,o2⟩ hrow v3.1 u1 u0 (Nat.zero_le _),fun i=>(frm a0 fwD q).eval (.tmp i),?_⟩
    rw [<- y3,<- ha0];rfl
 case cont=>
  intro e a' Z h
  cases e with
  | normal=>
   obtain ⟨TB,CB,ccap,RB,⟨t1,t2,t3,t4,t5,t6,t7⟩,HJ0,r,rfl⟩:=(show zRH w w3 b off n cap B aao an ac m sn (ss++ll) t a' Z from h)
   have HJ:Hid (FiJ w w3 b off n cap B aao an ac m sn (ss++ll) t TB CB ccap RB 0 0 Z):=HJ0;clear h HJ0;unfold zRP;have hbk:=fun x y z w1=>callsIn_wide.1 (zMC Fence.wide 8 trivial rfl x y z w1)
   go_wp2_with (go_at_call 94;refine (hbk _ _ _ _).mono ?_;rintro e w4 ⟨rfl,hw4⟩)
   rw [<- hw4];have hb4:Below Z.heap.size Z w4:=by rw [hw4];exact (Below.refl _ _).alloc (Nat.le_refl _) _
   have hz4:w4.heap.size=Z.heap.size+1:=by rw [hw4];simp
   have hc4:w4.cell? ⟨Z.heap.size,0,none⟩=some (.slice (some ⟨b,off,none⟩) n cap):=by rw [hw4];simp [go_sem]
   have HJ4:Hid (FiJ w w3 b off n cap B aao an ac m sn (ss++ll) t TB CB ccap RB w4.heap.size 0 w4):=by
    have h:=HJ.out.later hb4;exact ⟨h.below,h.tab,h.lets,h.rows,Nat.le_refl _⟩
   have hbw4:Below w.heap.size w w4:=hbw3.trans (HJ4.out.below.mono hbw3.size);have HO4:Hid (zA4 w4 b off l):=HAt.out.below hbw4 hbl;have hz3:=HJ4.out.below.size;clear hw4 hbk;refine wpIn_wide (n:=8).1 ?_
   refine zQN (m:=8) (N:=n) (by decide) rfl (enters_of Tryz.func124 (by kernel_rfl) rfl) (zGz l n) (fun _=>rfl) (zDm w.heap.size Z.heap.size)
    (fun L J W hW hY h0=>zSB 7 L Z.heap.size w.heap.size b off n cap l HLN.out h60 hbl J hY W ((hW.cell (p:=⟨Z.heap.size,0,none⟩) (by show Z.heap.size < _;omega)).trans hc4) (HO4.out.below hW (Nat.lt_of_lt_of_le hbl hbw4.size)) h0)
    zL1 (zMH (by have:=hbw4.size;omega) (by omega))
    (FiJ w w3 b off n cap B aao an ac m sn (ss++ll) t TB CB ccap RB w4.heap.size)
    (fun s A Bw row hs hg hr=>hs.kept hg hr hz3 (by omega) (by omega) hs.size) HJ4.out
    (zTO l n TB w4.heap.size) (fun k a' _ X Y row hs hg hr=>by obtain ⟨Bx,h1,h2,h3,h4⟩:=hs;exact ⟨Bx,h1,cell_kept h2 hg (fun r e=>(hr r e).2),cell_kept h3 hg (fun r e=>(hr r e).2),h4⟩)
    ?assign ?body ?done
   case assign=>
    rintro L k W K hk hi hK
    unfold zGz
    gi_wp2
    refine hK _ _ ?ka ?kb ?kc ?kd
    case ka=>exact (KeepsOthers.alloc _ _).from _
    case kb=>exact ⟨(Below.refl _ W).alloc (by have:=hbw4.size;have:=hi.size;omega) _,Below.heap_alloc _ _ _ (by have:=hi.size;omega)⟩
    case kc=>exact hi.later ((Below.refl W.heap.size W).alloc (Nat.le_refl _) _)
    case kd=>exact ⟨W.heap.size,hi.size,by simp [go_sem],by simp [go_sem],fun i=>List.getD [_,_,_,_,_,_,_,_,_,_,_,_,undef,undef,undef,_,_,_,_,_,_,_,_,_,_,_,_,_,_,_,_,_,_,_,_,_,_,_,_,_,_,_,_,_,_,_,_,_,_,_,_,_,_,_,_,_,_,_,_,_,_,_,_,_,_,_,_,_,_,_,_,_,_,_,_,_,_,_,_,_,_] i undef,rfl⟩
   case body=>
    rintro L k a' W hk hi ⟨Bx,hBx,cx0,cx1,r',rfl⟩
    obtain ⟨p,hp⟩:∃ p,p=n - 1 - k:=⟨_,rfl⟩
    have hpn:p < n:=by omega
    have HI2:Hid (FiJ w w3 b off n cap B aao an ac m sn (ss++ll) t TB CB ccap RB w4.heap.size k W):=hi;rw [<- hp] at cx0 cx1;have hop:=t.op_at (q:=p) (by rw [<- t.ops_length,HTo.out,<- HLN.out];exact hpn) (0,0)
    rw [HTo.out] at hop;rw [hop] at cx0 cx1;simp only at cx0 cx1
    have HSix:Hid (∀ Y,Below W.heap.size W Y->Y.cell? ⟨TB,0,none⟩=some (.slice (some ⟨b,off,none⟩) n cap)/\Y.cell? ⟨TB,1,none⟩=some (.slice (some ⟨B,0,none⟩) n n)/\Y.cell? ⟨TB,2,none⟩=some (.slice aao an ac)/\Y.cell? ⟨TB,3,none⟩=some (.slice (some ⟨CB,0,none⟩) m ccap)/\Y.cell? ⟨TB,4,none⟩=some (.int .i64 (sn:Int))/\Y.cell? ⟨TB,5,none⟩=some (.slice (some ⟨RB,0,none⟩) n n)):=fun Y hb=>by
     have h:=(HI2.out.later hb).tab;exact ⟨h.k0,h.k1,h.k2,h.k3,h.k4,h.k5⟩
    obtain ⟨rv,HRo⟩:∃ rv:World->Value,Hid (∀ Y,Below W.heap.size W Y->Y.cell? ⟨RB,p,none⟩=some (rv Y)/\Y.frozen? ⟨RB,p,none⟩=false):=⟨fun Y=>(Y.cell? ⟨RB,p,none⟩).getD undef,fun Y hb=>by
     obtain ⟨f,h1,_⟩:=(HI2.out.later hb).rows
     exact ⟨by show _=some ((Y.cell? ⟨RB,p,none⟩).getD undef);rw [h1.cell hpn];rfl,h1.frozen p⟩⟩
    have HSt:Hid (∀ V u,Below W.heap.size W V->(V.setCell ⟨RB,p,none⟩ u).cell? ⟨TB,0,none⟩=some (.slice (some ⟨b,off,none⟩) n cap)/\(V.setCell ⟨RB,p,none⟩ u).cell? ⟨TB,1,none⟩=some (.slice (some ⟨B,0,none⟩) n n)/\(V.setCell ⟨RB,p,none⟩ u).cell? ⟨TB,2,none⟩=some (.slice aao an ac)/\(V.setCell ⟨RB,p,none⟩ u).cell? ⟨TB,3,none⟩=some (.slice (some ⟨CB,0,none⟩) m ccap)/\(V.setCell ⟨RB,p,none⟩ u).cell? ⟨TB,4,none⟩=some (.int .i64 (sn:Int))/\(V.setCell ⟨RB,p,none⟩ u).cell? ⟨TB,5,none⟩=some (.slice (some ⟨RB,0,none⟩) n n)):=fun V u hb=>by
     have h:=(HI2.out.later hb).tab;have hc:∀ q,(V.setCell ⟨RB,p,none⟩ u).cell? ⟨TB,q,none⟩=V.cell? ⟨TB,q,none⟩:=fun q=>World.cell?_of_block (w:=V) (Below.heap_setCell V _ _ TB t1)
     exact ⟨(hc 0).trans h.k0,(hc 1).trans h.k1,(hc 2).trans h.k2,(hc 3).trans h.k3,(hc 4).trans h.k4,(hc 5).trans h.k5⟩
    have HLaw:Hid (∀ Y,Below W.heap.size W Y->Calls Tryz.prog 96 #[.agg #[.slice (some ⟨b,off,none⟩) n cap,.slice (some ⟨B,0,none⟩) n n,.slice aao an ac,.slice (some ⟨CB,0,none⟩) m ccap,.int .i64 (sn:Int),.slice (some ⟨RB,0,none⟩) n n],.int .i64 (p:Int)] Y (zIz Y m ((t.sub p).uT (sig (ss++ll) sn)) ((t.sub p).vT (sig (ss++ll) sn)))):=fun Y hb=>by
     have h:=HI2.out.later hb;have hwY:=hbw3.trans (h.below.mono hbw3.size);refine zRc b off n cap B aao an ac CB m ccap sn RB p l (ss++ll) t props Y hwf HTo.out HLN.out.symm (HAt.out.below hwY hbl) hpn (fun q hq=>zIO HLf.out q (by rw [<- HLN.out];exact hq)) HLt.out ?_
     obtain ⟨us,o1,o2⟩:=h.lets;obtain ⟨f,h1,h2⟩:=h.rows;have hrB:=HR3.out.of_block (h.below.block B HR3.out.lt);refine ⟨fun j hj=>hrB.cell hj,zEY o1 (o2.below hwY),fun q a1 a2=>?_,hrB.lt,h1.lt,by rw [List.length_append,<- HSn.out,<- HLn.out,<- HM.out],h60,hm24,hsm⟩
     obtain ⟨rb,e1,e2⟩:=h2 q (by omega) a2
     exact ⟨rb,0,m,by rw [h1.cell a2,e1],e2.lt,fun j hj=>by rw [Nat.zero_add];exact e2.cell hj⟩
    have HEnd:Hid (∀ V1 V2,Below W.heap.size W V1->Below W.heap.size W V2->Below V1.heap.size V1 V2->∀ D,Hid (V2.rowIs (V1.heap.size+1) 4 m (fun j=>.bool (stp ((t.sub p).uT (sig (ss++ll) sn)) ((t.sub p).vT (sig (ss++ll) sn)) (stp ((t.sub p).uT (sig (ss++ll) sn)) ((t.sub p).vT (sig (ss++ll) sn)) D (m - sn) sn) (m - j) j)))->Hid (D=Tm.dT (t.sub p).kind)->KeepsFrom w4.heap.size W (V2.setCell ⟨RB,p,none⟩ (.slice (some ⟨V1.heap.size+1,0,none⟩) m m))/\zDm w.heap.size Z.heap.size W (V2.setCell ⟨RB,p,none⟩ (.slice (some ⟨V1.heap.size+1,0,none⟩) m m))/\FiJ w w3 b off n cap B aao an ac m sn (ss++ll) t TB CB ccap RB w4.heap.size (k+1) (V2.setCell ⟨RB,p,none⟩ (.slice (some ⟨V1.heap.size+1,0,none⟩) m m))):=fun V1 V2 c1 c2 c3 D hrow hD=>by
     have hls:(ss++ll).length=m:=by rw [List.length_append,<- HSn.out,<- HLn.out,<- HM.out]
     have hper:=zMD (ls:=ss++ll) (s:=sn) (by rw [hls];exact hsm)
     rw [hls] at hper
     have hr2:V2.rowIs (V1.heap.size+1) 4 m (fun j=>.bool ((t.sub p).hb (sig (ss++ll) sn) j)):=hrow.out.congr fun j hj=>by
      rw [hD.out,zPE hsm (fun i hi=>Tm.uT_per hper _ hi) (fun i hi=>Tm.vT_per hper _ hi) (Nat.le_of_lt hj),<- Tm.hb_unt _ (Tm.sub_wf hwf p)]
     have hWz:=HI2.out.size;have hw4:=hbw4.size;refine ⟨(KeepsFrom.trans ⟨c2.size,fun k _ _ hk _=>(c2.block k (Array.getElem?_eq_some_iff.1 hk).1).trans hk⟩ ((KeepsOthers.setCell _ _ _).from _)),⟨(c2.mono (by omega)).setCell (by show w.heap.size <= RB;omega) _,(Below.heap_setCell V2 _ _ Z.heap.size (by show Z.heap.size≠RB;omega)).trans (c2.block _ (by omega))⟩,?_⟩
     have hput:=(HI2.out.later c2).put (rb:=V1.heap.size+1) hk t1 t2 t4 (by rw [<- hp];exact hr2)
     rw [<- hp] at hput;exact hput
    have hp0:(0:Int) <= (p:Int):=Int.natCast_nonneg _;have hpI:(p:Int) < (n:Int):=by omega
    unfold zRN;rw [<- hp];clear HJ HJ4 HO4 hi hop hp;generalize (t.sub p).kind=kx at *;generalize (t.sub p).val=vx at *
    have hK:∃ lb:Bool,Hid (lb=Tm.dT kx)/\((kx=18/\lb=true)\/(kx=16/\lb=true)\/(kx≠18/\kx≠16/\lb=false)):=by
     by_cases h18:kx=18
     ·exact ⟨true,by show _=_;rw [h18];rfl,.inl ⟨h18,rfl⟩⟩
     ·by_cases h16:kx=16
      ·exact ⟨true,by show _=_;rw [h16];rfl,.inr (.inl ⟨h16,rfl⟩)⟩
      ·exact ⟨false,by show _=_;simp [Tm.dT,h18,h16],.inr (.inr ⟨h18,h16,rfl⟩)⟩
    obtain ⟨lb,HD,hK⟩:=hK
    rcases hK with ⟨rfl,hlb⟩ | ⟨rfl,hlb⟩ | ⟨h18,h16,hlb⟩
    all_goals
     have HLb:=(show Hid (lb=_) from hlb)
     clear hlb
     gi_wp2
     refine zGT (fun Y=>Y.cell? ⟨TB,0,none⟩=some (.slice (some ⟨b,off,none⟩) n cap)/\Y.cell? ⟨TB,1,none⟩=some (.slice (some ⟨B,0,none⟩) n n)/\Y.cell? ⟨TB,2,none⟩=some (.slice aao an ac)/\Y.cell? ⟨TB,3,none⟩=some (.slice (some ⟨CB,0,none⟩) m ccap)/\Y.cell? ⟨TB,4,none⟩=some (.int .i64 (sn:Int))/\Y.cell? ⟨TB,5,none⟩=some (.slice (some ⟨RB,0,none⟩) n n)) hmx ?nd ?nl ?_
     case nd=>
      intro i o ho c;have hi:i < 11:=(Array.getElem?_eq_some_iff.1 ho).1
      have hc:i=0\/i=1\/i=2\/i=3\/i=4\/i=5\/i=6\/i=7\/i=8\/i=9\/i=10:=by omega
      rcases hc with rfl | rfl | rfl | rfl | rfl | rfl | rfl | rfl | rfl | rfl | rfl <;> (obtain rfl:=Option.some.inj ho;exact fun h=>by cases h)
     case nl=>exact fun ⟨_,_,h⟩=>h
     have hS2:=HSix.out W.drew (Below.refl _ _).drew;refine zDB (i:=0) (v:=.pointer (some ⟨TB,5,none⟩)) (some 70) rfl (by rfl) (by kernel_rfl) (by kernel_rfl) (by kernel_rfl) (fun _ _ _ h=>h) (Or.inl ⟨by rfl,fun wq hSw=>by obtain ⟨q0,q1,q2,q3,q4,q5⟩:=hSw;go_simp⟩) hS2 ?_
     simp only [Act.put,List.setIfInBounds_toArray,List.set_cons_succ,List.set_cons_zero];refine zDB (i:=1) (v:=.slice (some ⟨RB,0,none⟩) n n) (some 71) rfl (by rfl) (by kernel_rfl) (by kernel_rfl) (by kernel_rfl) (fun _ _ _ h=>h) (Or.inl ⟨by rfl,fun wq hSw=>by obtain ⟨q0,q1,q2,q3,q4,q5⟩:=hSw;go_simp⟩) hS2 ?_
     simp only [Act.put,List.setIfInBounds_toArray,List.set_cons_succ,List.set_cons_zero];refine zDB (i:=2) (v:=.int .i64 (p:Int)) (some 72) rfl (by rfl) (by kernel_rfl) (by kernel_rfl) (by kernel_rfl) (fun _ _ _ h=>h) (Or.inl ⟨by rfl,fun wq hSw=>by obtain ⟨q0,q1,q2,q3,q4,q5⟩:=hSw;go_simp⟩) hS2 ?_
     simp only [Act.put,List.setIfInBounds_toArray,List.set_cons_succ,List.set_cons_zero]
     refine zDB (i:=3) (v:=.agg #[.slice (some ⟨b,off,none⟩) n cap,.slice (some ⟨B,0,none⟩) n n,.slice aao an ac,.slice (some ⟨CB,0,none⟩) m ccap,.int .i64 (sn:Int),.slice (some ⟨RB,0,none⟩) n n]) (some 73) rfl (by rfl) (by kernel_rfl) (by kernel_rfl) (by kernel_rfl) (fun _ _ _ h=>h) (Or.inl ⟨by rfl,fun wq hSw=>by obtain ⟨q0,q1,q2,q3,q4,q5⟩:=hSw;go_simp⟩) hS2 ?_
     simp only [Act.put,List.setIfInBounds_toArray,List.set_cons_succ,List.set_cons_zero]
     first | (refine zDB (i:=4) (v:=.bool true) (some 74) rfl (by rfl) (by kernel_rfl) (by kernel_rfl) (by kernel_rfl) (fun _ _ _ h=>h) (Or.inl ⟨by rfl,?hx⟩) hS2 ?_;(case hx=>(intro wq hSw;obtain ⟨q0,q1,q2,q3,q4,q5⟩:=hSw;go_simp;done))) | (refine zDB (i:=4) (v:=.bool false) (some 74) rfl (by rfl) (by kernel_rfl) (by kernel_rfl) (by kernel_rfl) (fun _ _ _ h=>h) (Or.inl ⟨by rfl,?hx⟩) hS2 ?_;(case hx=>(intro wq hSw;obtain ⟨q0,q1,q2,q3,q4,q5⟩:=hSw;go_simp;done)))
     simp only [Act.put,List.setIfInBounds_toArray,List.set_cons_succ,List.set_cons_zero]
     refine zDB (i:=5) (v:=.agg #[.slice (some ⟨b,off,none⟩) n cap,.slice (some ⟨B,0,none⟩) n n,.slice aao an ac,.slice (some ⟨CB,0,none⟩) m ccap,.int .i64 (sn:Int),.slice (some ⟨RB,0,none⟩) n n]) (some 75) rfl (by rfl) (by kernel_rfl) (by kernel_rfl) (by kernel_rfl) (fun _ _ _ h=>h) (Or.inl ⟨by rfl,fun wq hSw=>by obtain ⟨q0,q1,q2,q3,q4,q5⟩:=hSw;go_simp⟩) hS2 ?_
     simp only [Act.put,List.setIfInBounds_toArray,List.set_cons_succ,List.set_cons_zero];refine zDB (i:=6) (v:=.int .i64 (p:Int)) (some 76) rfl (by rfl) (by kernel_rfl) (by kernel_rfl) (by kernel_rfl) (fun _ _ _ h=>h) (Or.inl ⟨by rfl,fun wq hSw=>by obtain ⟨q0,q1,q2,q3,q4,q5⟩:=hSw;go_simp⟩) hS2 ?_
     simp only [Act.put,List.setIfInBounds_toArray,List.set_cons_succ,List.set_cons_zero];refine wpAnyH_all (rs:=[7]) (by kernel_rfl) (by decide) ?_
     refine zIg ?_
     refine zQq (some 77) rfl (by rfl) (by rfl) (by go_simp) (HLaw.out W.drew (Below.refl _ _).drew) ?_
     intro f caps V1 s1 hF;have b1:Below W.heap.size W V1:=(Below.refl _ _).drew.trans s1;refine And.intro (HSix.out V1 b1) ?_
     simp only [Act.put,List.setIfInBounds_toArray,List.set_cons_succ,List.set_cons_zero];have hse:=zNr b off n cap B aao an ac CB m ccap sn RB lb f caps _ _ V1 hm24 hsm hF;rw [HLb.out] at hse;refine wpAnyH_all (rs:=[8]) (by kernel_rfl) (by decide) ?_
     refine zIg ?_
     refine zP1 (some 78) _ _ rfl (by rfl) (by rfl) (by go_simp) hse ?_
     intro V2 hV2;have s2:=hV2.1;have HRow:=hV2.2;clear hse;have b2:Below W.heap.size W V2:=b1.trans (s2.mono b1.size);refine And.intro (HSix.out V2 b2) ?_
     simp only [Act.put,List.setIfInBounds_toArray,List.set_cons_succ,List.set_cons_zero];refine zDB (i:=9) (v:=.pointer (some ⟨RB,p,none⟩)) (some 79) rfl (by rfl) (by kernel_rfl) (by kernel_rfl) (by kernel_rfl) (fun _ _ _ h=>h) (Or.inl ⟨by rfl,fun wq hSw=>by obtain ⟨q0,q1,q2,q3,q4,q5⟩:=hSw;go_simp⟩) (HSix.out V2 b2) ?_
     simp only [Act.put,List.setIfInBounds_toArray,List.set_cons_succ,List.set_cons_zero];have hcr:=(HRo.out V2 b2).1;have hfr:=(HRo.out V2 b2).2;refine wpAnyH_all (rs:=[10]) (by kernel_rfl) (by decide) ?_
     refine zIg ?_
     refine zOl (V2.setCell ⟨RB,p,none⟩ (.slice (some ⟨V1.heap.size+1,0,none⟩) m m)) rfl (by rfl) (by rfl) (by go_simp) (And.intro (HSt.out V2 _ b2) ?_)
     refine wpAnyH_done (by kernel_rfl) ?_ _
     exact HEnd.out V1 V2 b1 b2 s2 _ HRow (show Hid (_=_) from HLb.out.symm.trans HD.out)
   case done=>
    rintro D W hD hi hK
    have g7:=HG6.out.below hi.below HG6.out.hl;have k0:=hi.tab.k0;have j0:=g7.k0;have f0:=g7.f0;have k1:=hi.tab.k1;have j1:=g7.k1;have f1:=g7.f1;have k2:=hi.tab.k2;have j2:=g7.k2;have f2:=g7.f2;have k3:=hi.tab.k3;have j3:=g7.k3;have f3:=g7.f3;have k4:=hi.tab.k4;have j4:=g7.k4;have f4:=g7.f4;have k5:=hi.tab.k5;have j5:=g7.k5
    have f5:=g7.f5;have hDs:w3.heap.size <= D:=by omega
    obtain ⟨V,hV⟩:∃ V,V=((((((W.setCell ⟨w.heap.size+1,0,none⟩ (.slice (some ⟨b,off,none⟩) n cap)).setCell ⟨w.heap.size+1,1,none⟩ (.slice (some ⟨B,0,none⟩) n n)).setCell ⟨w.heap.size+1,2,none⟩ (.slice aao an ac)).setCell ⟨w.heap.size+1,3,none⟩ (.slice (some ⟨CB,0,none⟩) m ccap)).setCell ⟨w.heap.size+1,4,none⟩ (.int .i64 (sn:Int))).setCell ⟨w.heap.size+1,5,none⟩ (.slice (some ⟨RB,0,none⟩) n n)):=⟨_,rfl⟩
    have hVb:∀ z,z≠w.heap.size+1->V.heap[z]? = W.heap[z]?:=fun z hz=>by rw [hV];exact zHE W _ z hz _ _ _ _ _ _
    have hVz:V.heap.size=W.heap.size:=by rw [hV];simp
    have hDne:D≠w.heap.size+1:=by have:=HG6.out.hl;omega
    have hVD:V.heap[D]? = some (.deferred (some [])):=(hVb D hDne).trans hK;obtain ⟨U,hU⟩:∃ U,U=V.putObj D (.deferred none):=⟨_,rfl⟩
    have hUb:∀ z,z≠w.heap.size+1->z≠D->U.heap[z]? = W.heap[z]?:=fun z hz hzD=>by rw [hU];exact (World.putObj_heap_other hzD).trans (hVb z hz)
    have hUz:U.heap.size=W.heap.size:=by rw [hU,<- hVz];simp [World.putObj]
    have hUq:∀ i,U.cell? ⟨w.heap.size+1,i,none⟩=V.cell? ⟨w.heap.size+1,i,none⟩:=fun i=>World.cell?_of_block (w:=V) (by rw [hU];exact World.putObj_heap_other (Ne.symm hDne))
    obtain ⟨c0,c1,c2,c3,c4,c5⟩:=g7.chain (.slice (some ⟨b,off,none⟩) n cap) (.slice (some ⟨B,0,none⟩) n n) (.slice aao an ac) (.slice (some ⟨CB,0,none⟩) m ccap) (.int .i64 (sn:Int)) (.slice (some ⟨RB,0,none⟩) n n);rw [<- hV] at c0 c1 c2 c3 c4 c5;have e0:=(hUq 0).trans c0;have e1:=(hUq 1).trans c1;have e2:=(hUq 2).trans c2;have e3:=(hUq 3).trans c3
    have e4:=(hUq 4).trans c4;have e5:=(hUq 5).trans c5;have hbW:Below w.heap.size w W:=hbw3.trans (hi.below.mono hbw3.size)
    have HFin:Hid (Below w.heap.size w U/\zIv U n m RB aao an ac l t (sig (ss++ll) sn)):=by
     have hres:=HG6.out.hl;refine ⟨?_,?_,by rw [hUz];have:=hi.size;omega,fun q hq=>?_⟩
     ·rw [hU]
      have hv0:Below w.heap.size w V:=by
       rw [hV];exact (((((hbW.setCell (Nat.le_succ w.heap.size) _).setCell (Nat.le_succ w.heap.size) _).setCell (Nat.le_succ w.heap.size) _).setCell (Nat.le_succ w.heap.size) _).setCell (Nat.le_succ w.heap.size) _).setCell (Nat.le_succ w.heap.size) _
      exact hv0.trans (belowK_b (w:=w3) (by omega) V D _ _ hDs hVD rfl rfl)
     ·have hown:U.ownsRow (w.heap.size+1+1) 3 1 (.slice aao an ac) an (zAL (zAA l)):=by
       obtain ⟨o1,o2⟩:=HI3.out;refine ⟨o1,?_⟩
       rcases o2 with o2 | ⟨g,cap',cur,hv,hg,hh,r⟩
       ·exact .inl o2
       ·have hgl:=(Array.getElem?_eq_some_iff.1 hh).1
        exact .inr ⟨g,cap',cur,hv,hg,(hUb g (by omega) (by omega)).trans ((hi.below.block g hgl).trans hh),r⟩
      rw [HAN.out] at hown ⊢;exact zBH hown
     ·obtain ⟨f,h1,h2⟩:=hi.rows
      obtain ⟨rb,g1,g2⟩:=h2 q (by omega) hq
      have hne:∀ z ty k f,W.rowIs z ty k f->z≠D:=fun z ty k f hr=>by
       rintro rfl
       obtain ⟨cc,hh,_⟩:=hr;rw [hK] at hh;cases hh
      have hn1:RB≠w.heap.size+1:=by omega
      have hn2:rb≠w.heap.size+1:=by
       rintro rfl
       obtain ⟨cc,hh,hs1,hc1⟩:=g2;have:=j0;simp only [World.cell?,hh] at this;have hm0:0 < m:=by omega
       rw [hc1 0 hm0] at this
       cases this
      have r1:=h1.of_block (hUb RB hn1 (hne _ _ _ _ h1));have r2:=g2.of_block (hUb rb hn2 (hne _ _ _ _ g2));exact ⟨rb,by rw [r1.cell hq,g1],r2.lt,fun j hj=>r2.cell hj⟩
    clear HJ HJ4 HO4
    go_wp2_with fail
    rw [<- hV];refine ⟨by simp,.inl ⟨_,_,rfl,run_takeDeferred hVD,?_⟩⟩
    rw [<- hU];refine ⟨.tuple #[.agg #[.slice (some ⟨b,off,none⟩) n cap,.slice (some ⟨B,0,none⟩) n n,.slice aao an ac,.slice (some ⟨CB,0,none⟩) m ccap,.int .i64 (sn:Int),.slice (some ⟨RB,0,none⟩) n n],.int .i64 0],?_,HQ.out _ U B aao ac CB ccap RB rfl HFin.out.1 HFin.out.2⟩
    simp [results,Tryz.results67,go_sem,e0,e1,e2,e3,e4,e5]
  | _=>exact h.elim
end Go.Proofs.YtiimhhjkgeepjaaGreatDoor
namespace Go.Proofs.YtiimhhjkgeepjaaGreatDoor
open Go.ChangeShapes Go.WideShapes Go.ChangeAt Go.RowKit Go.Deep
open Terms
set_option maxHeartbeats 6400000
set_option maxRecDepth 20000
def zFM (props:Int) (l:List (Int × Int)) (ss ll:List (List Bool)):Int:=if zAV props l≠0 then zAV props l else zCM props ss ll
theorem zHH {props:Int} {l:List (Int × Int)} {ss ll:List (List Bool)} (h:zFM props l ss ll=0):zAV props l=0/\zCM props ss ll=0:=by
 unfold zFM at h
 split at h
 ·rename_i h1;exact absurd h h1
 ·rename_i h1;exact ⟨by simpa using h1,h⟩
def zPz (W:World) (rb m:Nat) (h:Nat->Bool):Prop:=rb < W.heap.size/\∀ j,j < m->W.cell? ⟨rb,j,none⟩=some (.bool (h j))
theorem zM9 (v sv lv:Value) (l:List (Int × Int)) (ss ll:List (List Bool)) (props:Int) (t:Tm) (w:World) (hB:0 < w.heap.size) (hT:zAJ w) (hV:zAR w v l) (hS:zAS w sv ss) (hL:zAS w lv ll) (hc:zFM props l ss ll=0) (hwf:t.Wf) (hto:t.ops=l) :
  Calls Tryz.prog 41 #[v,.agg #[sv,lv],.int .i64 props] w fun e w'=>∃ rb,e=.returned (.tuple #[.slice (some ⟨rb,0,none⟩) (ss.length+ll.length) (ss.length+ll.length),.int .i64 0])/\Below w.heap.size w w'/\Hid (zPz w' rb (ss.length+ll.length) (t.hb (sig (ss++ll) ss.length))):=by
 obtain ⟨hc1,hc2⟩:=zHH hc;obtain ⟨_,_,hz,_,_⟩:=zAv hc1;obtain ⟨hne,h60⟩:=zCq hz;obtain ⟨_,h12,h1,hl12,_⟩:=zFA hc2;rw [List.length_map] at h60;obtain ⟨so,sc,rfl⟩:=hS.shape;obtain ⟨lo,lc,rfl⟩:=hL.shape;obtain ⟨vo,vc,rfl,⟨hcap,_⟩,hvv⟩:=id hV;obtain ⟨b,off,rfl,hbl,hat⟩:=hvv (by rintro rfl;exact hne rfl)
 have hl0:0 < l.length:=by
  cases l with
  | nil=>exact absurd rfl hne
  | cons _ _=>simp
 have hfi:∀ w0,Below w.heap.size w w0->Calls Tryz.prog 67 #[.slice (some ⟨b,off,none⟩) l.length vc,.agg #[.slice so ss.length sc,.slice lo ll.length lc],.int .i64 props] w0 fun e w'=>∃ B aao ac CB ccap RB rb,e=.returned (.tuple #[.agg #[.slice (some ⟨b,off,none⟩) l.length vc,.slice (some ⟨B,0,none⟩) l.length l.length,.slice aao (zAA l).length ac,.slice (some ⟨CB,0,none⟩) (ss.length+ll.length) ccap,.int .i64 (ss.length:Int),.slice (some ⟨RB,0,none⟩) l.length l.length],.int .i64 0])/\Below w.heap.size w w'/\RB < w'.heap.size/\w'.cell? ⟨RB,0,none⟩=some (.slice (some ⟨rb,0,none⟩) (ss.length+ll.length) (ss.length+ll.length))/\Hid (zPz w' rb (ss.length+ll.length) (t.hb (sig (ss++ll) ss.length))):=fun w0 hb=>(zRf b off vc l.length so lo ss.length sc ll.length lc l ss ll props t w0 (Nat.lt_of_lt_of_le hB hb.size) (hT.below hb hB) rfl (Nat.lt_of_lt_of_le hbl hb.size) (hat.below hb hbl) hcap rfl rfl (hS.below hb) (hL.below hb) hc1 hc2 hwf hto).mono fun e w' ⟨B,aao,ac,CB,ccap,RB,h1,h2,h3,h4,h5⟩=>by
  obtain ⟨rb,e1,e2,e3⟩:=h5 0 hl0;rw [Tm.sub_zero] at e3;exact ⟨B,aao,ac,CB,ccap,RB,rb,h1,hb.trans (h2.mono hb.size),h4,e1,e2,e3⟩
 have hf1:=fun o=>hfi (w.alloc o) ((Below.refl _ _).alloc (Nat.le_refl _) o)
 have hln0:(0:Int) < (l.length:Int):=by omega
 generalize t.hb (sig (ss++ll) ss.length)=hh at *;generalize (zAA l).length=an at *;generalize ss.length=sn at *;generalize ll.length=ln at *;generalize l.length=n at *;clear hT hV hS hL hc hc1 hc2 hz hne hvv hat hto hfi
 go_enter Tryz.func41,Tryz.ntmps41
 go_wp2_with (go_at_call 67;refine (hf1 _).mono ?_;rintro e w1 ⟨B,aao,ac,CB,ccap,RB,rb,rfl,hb1,hRl,hcr,HR⟩;have hcr2:=(fun o=>((((Below.refl w1.heap.size w1).alloc (Nat.le_refl _) o).cell (p:=⟨RB,0,none⟩) hRl).trans hcr)))
 go_ret2
 have hb2:=hb1.alloc hb1.size (.cells #[.slice (some ⟨b,off,none⟩) n vc,.slice (some ⟨B,0,none⟩) n n,.slice aao an ac,.slice (some ⟨CB,0,none⟩) (sn+ln) ccap,.int .i64 (sn:Int),.slice (some ⟨RB,0,none⟩) n n] 152);refine ⟨rb,rfl,hb2,?_,fun j hj=>?_⟩
 ·simp;have:=HR.out.1;omega
 ·exact (((Below.refl w1.heap.size w1).alloc (Nat.le_refl _) _).cell (p:=⟨rb,j,none⟩) HR.out.1).trans (HR.out.2 j hj)
theorem zP3 (v sv lv:Value) (l:List (Int × Int)) (ss ll:List (List Bool)) (props:Int) (t:Tm) (w:World) (hB:0 < w.heap.size) (hT:zAJ w) (hV:zAR w v l) (hS:zAS w sv ss) (hL:zAS w lv ll) (hc:zFM props l ss ll=0) (hwf:t.Wf) (hto:t.ops=l) :
  Calls Tryz.prog 23 #[v,.agg #[sv,lv],.int .i64 props] w fun e w'=>e=.returned (.tuple #[.bool (t.hb (sig (ss++ll) ss.length) 0),.int .i64 0])/\Below w.heap.size w w':=by
 have hA:∀ o,Below w.heap.size w (w.alloc o):=fun o=>(Below.refl _ _).alloc (Nat.le_refl _) o
 have hfa:∀ o,Calls Tryz.prog 41 #[v,.agg #[sv,lv],.int .i64 props] (w.alloc o) fun e w'=>∃ rb,e=.returned (.tuple #[.slice (some ⟨rb,0,none⟩) (ss.length+ll.length) (ss.length+ll.length),.int .i64 0])/\Below w.heap.size w w'/\Hid (zPz w' rb (ss.length+ll.length) (t.hb (sig (ss++ll) ss.length))):=fun o=>(zM9 v sv lv l ss ll props t (w.alloc o) (by simp) (hT.below (hA o) hB) (hV.below (hA o)) (hS.below (hA o)) (hL.below (hA o)) hc hwf hto).mono fun e w' ⟨rb,h1,h2,h3⟩=>⟨rb,h1,(hA o).trans (h2.mono (hA o).size),h3⟩
 obtain ⟨_,h12,h1,hl12,_⟩:=zFA (zHH hc).2;obtain ⟨so,sc,rfl⟩:=hS.shape;obtain ⟨lo,lc,rfl⟩:=hL.shape;obtain ⟨vo,vc,rfl,_⟩:=id hV;generalize t.hb (sig (ss++ll) ss.length)=hh at *;generalize ss.length=sn at *;generalize ll.length=ln at *;generalize l.length=n at *;obtain ⟨m,hm⟩:∃ m,m=sn+ln:=⟨_,rfl⟩
 rw [<- hm] at hfa;have hm0:0 < m:=by omega
 have hm1:(0:Int) < (m:Int):=by omega
 clear hT hV hS hL hc hto hm
 go_enter Tryz.func23,Tryz.ntmps23
 go_wp2_with (go_at_call 41;refine (hfa _).mono ?_;rintro e w1 ⟨rb,rfl,hb1,HR⟩;have hcr:=HR.out.2 0 hm0)
 go_ret2
 exact ⟨rfl,hb1⟩
end Go.Proofs.YtiimhhjkgeepjaaGreatDoor
namespace Go.Proofs.YtiimhhjkgeepjaaGreatDoor
open Go.ChangeShapes Go.WideShapes Go.ChangeAt Go.RowKit Go.Deep
open Terms Tm
set_option maxHeartbeats 6400000
set_option maxRecDepth 20000
theorem zFU {m:Mo} {ps:List (List (Int × Int))} {l:List (Int × Int)} (h:zAK m ps l=0):zCQ m ps=0/\zAV ps.length l=0:=by
 unfold zAK at h
 split at h
 ·rename_i h1
  exact absurd h h1
 ·rename_i h1
  exact ⟨Classical.not_not.1 h1,h⟩
theorem zIf {m:Mo} {ps:List (List (Int × Int))} {l:List (Int × Int)} (h:zAK m ps l=0) {c:Int} (hc:0 <= c/\c < zAC m.vars m.vars.length):zC2 m ps c=0/\(zAG m ps c).length=ps.length:=by
 obtain ⟨hp,_⟩:=zFU h;obtain ⟨hm,_⟩:=zBJ hp;have h1:zC2 m ps c=0:=by unfold zC2;rw [if_pos hp,zBk hm hc]
 refine ⟨h1,?_⟩
 unfold zAG;rw [if_pos h1,List.length_map]
open Classical in
theorem zGZ {m:Mo} {ss ll:List Int} (h:zCa m ss ll=true):(∀ i,i < ss.length->0 <= ss.getD i 0/\ss.getD i 0 < zAC m.vars m.vars.length)/\∀ i,i < ll.length->0 <= ll.getD i 0/\ll.getD i 0 < zAC m.vars m.vars.length:=by
 obtain ⟨hm,hne,hf,hl⟩:=of_decide_eq_true h;have h0:0 <= (rvd ss ll).getD 0 0/\(rvd ss ll).getD 0 0 < zAC m.vars m.vars.length:=by rw [hf];exact zDg hm
 have hk:∀ k,k < (rvd ss ll).length->0 <= (rvd ss ll).getD k 0/\(rvd ss ll).getD k 0 < zAC m.vars m.vars.length:=fun k hk=>zAk.range hm h0 (fun i hi=>hl i (by omega))
 rw [zDt] at hk;refine ⟨fun i hi=>?_,fun i hi=>?_⟩
 ·have h1:=hk i (by omega)
  rw [show (rvd ss ll).getD i 0=ss.getD i 0 by unfold rvd;simp [List.getD_eq_getElem?_getD,List.getElem?_append_left,hi]] at h1
  exact h1
 ·have h1:=hk (ss.length+i) (by omega)
  rw [show (rvd ss ll).getD (ss.length+i) 0=ll.getD i 0 by unfold rvd;rw [List.append_assoc];simp [List.getD_eq_getElem?_getD,List.getElem?_append_right,List.getElem?_append_left,hi]] at h1
  exact h1
theorem zSg {m:Mo} {ss ll:List Int} (h:zCa m ss ll=true):1 <= ll.length:=by
 rcases Nat.eq_zero_or_pos ll.length with h0 | h0
 ·rw [List.length_eq_zero_iff.1 h0,zI6] at h;cases h
 ·exact h0
noncomputable def lets (m:Mo) (ps:List (List (Int × Int))) (cs:List Int):List (List Bool):=cs.map (zAG m ps)
theorem zFu (m:Mo) (ps:List (List (Int × Int))) (cs:List Int):(lets m ps cs).length=cs.length:=by simp [lets]
theorem zR9 {m:Mo} {ps:List (List (Int × Int))} {cs:List Int} {i:Nat} (hi:i < cs.length):(lets m ps cs).getD i []=zAG m ps (cs.getD i 0):=by simp [lets,List.getD_eq_getElem?_getD,hi]
theorem zRC {m:Mo} {ps:List (List (Int × Int))} {l:List (Int × Int)} {ss ll:List Int} (hk:zAK m ps l=0) (hs:ss.length <= 12) (hl:ll.length <= 12) (h:zCa m ss ll=true):zFM ps.length l (lets m ps ss) (lets m ps ll)=0:=by
 obtain ⟨hp,hl0⟩:=zFU hk;have h6:=(zBJ hp).2;have hr:=zGZ h;have h1:=zSg h;unfold zFM;rw [hl0,if_neg (by simp)]
 refine zJH (by omega) (by rw [zFu,zFu];omega) ?_
 unfold zDc;rw [List.any_eq_false];intro x hx
 have hxl:x.length=ps.length:=by
  rcases List.mem_append.1 hx with hx | hx
  all_goals
   obtain ⟨y,hy,rfl⟩:=List.mem_map.1 hx;obtain ⟨i,hi,rfl⟩:=List.mem_iff_getElem.1 hy
  ·have:=hr.1 i hi
   rw [show ss.getD i 0=ss[i] by simp [List.getD_eq_getElem?_getD,hi]] at this
   exact (zIf hk this).2
  ·have:=hr.2 i hi
   rw [show ll.getD i 0=ll[i] by simp [List.getD_eq_getElem?_getD,hi]] at this
   exact (zIf hk this).2
 simp [hxl]
theorem zAQ.setS {w:World} {v:Value} {l:List Bool} {p:Addr} {a:Option Addr} {n c:Nat} (h:zAQ w v l) (hc:w.cell? p=some (.slice a n c)) (u:Value):zAQ (w.setCell p u) v l:=by
 obtain ⟨ao,cap,rfl,h⟩:=h;refine ⟨ao,cap,rfl,fun hne=>?_⟩
 obtain ⟨b,off,rfl,hlt,hat⟩:=h hne;refine ⟨b,off,rfl,by simpa using hlt,fun i hi=>?_⟩
 have h1:=hat i hi
 have hne2:(⟨b,off+i,none⟩:Addr)≠p:=by
  intro e;rw [e,hc] at h1;simp at h1
 rw [World.cell?_setCell_other _ _ _ _ hne2.symm]
 exact h1
end Go.Proofs.YtiimhhjkgeepjaaGreatDoor
namespace Go.Proofs.YtiimhhjkgeepjaaGreatDoor
open Go.ChangeShapes Go.WideShapes Go.ChangeAt Go.RowKit Go.Deep Go.Maps
open Terms Tm
set_option maxHeartbeats 6400000
set_option maxRecDepth 20000
theorem zLB (va vr pv fv:Value) (m:Mo) (ps:List (List (Int × Int))) (l:List (Int × Int)) (w:World) (hB:0 < w.heap.size) (hT:zAJ w) (hV:TaskV w va vr pv fv m ps l) (hk:zAK m ps l≠0) :
  Calls Tryz.prog 33 #[.agg #[va,vr,pv,fv]] w (zIL w m ps l):=by
 unfold zIL;obtain ⟨ao,ac,rfl⟩:=hV.mo.1.shape;obtain ⟨ro,rc,rfl⟩:=hV.mo.2.shape;obtain ⟨po,pc,rfl⟩:=hV.ps.shape;obtain ⟨fo,fc,rfl,_⟩:=id hV.fo
 obtain ⟨W0,hW0⟩:∃ W0,W0=(w.alloc (.cells #[.slice ao m.vars.length ac,.slice ro m.rules.length rc,.slice po ps.length pc,.slice fo l.length fc] 45)).alloc (.cells #[.slice none 0 0,.int .i64 0,.slice none 0 0,.slice none 0 0,.int .i64 0] 94):=⟨_,rfl⟩
 have hbW:Below w.heap.size w W0:=by rw [hW0];exact ((Below.refl _ _).alloc (Nat.le_refl _) _).alloc (by simp) _
 have hzW:W0.heap.size=w.heap.size+2:=by rw [hW0];simp
 have hX0:W0.heap[w.heap.size+1]? = some (grB (.slice none 0 0) (.slice none 0 0) (.slice none 0 0) 0 0):=by
  rw [hW0];have:=(MapKept.heap_alloc (w.alloc (.cells #[.slice ao m.vars.length ac,.slice ro m.rules.length rc,.slice po ps.length pc,.slice fo l.length fc] 45)) (.cells #[.slice none 0 0,.int .i64 0,.slice none 0 0,.slice none 0 0,.int .i64 0] 94)).1;rw [World.size_alloc] at this;exact this
 have hsv:=zKF _ _ _ _ m ps l W0 (Nat.lt_of_lt_of_le hB hbW.size) (hT.below hbW hB) (hV.below hbW) hk
 have HFin:Hid (∀ w1,Below W0.heap.size W0 w1->(w1.cell? ⟨w.heap.size+1,0,none⟩=some (.slice none 0 0)/\w1.cell? ⟨w.heap.size+1,1,none⟩=some (.int .i64 0)/\w1.cell? ⟨w.heap.size+1,2,none⟩=some (.slice none 0 0)/\w1.cell? ⟨w.heap.size+1,3,none⟩=some (.slice none 0 0)/\w1.cell? ⟨w.heap.size+1,4,none⟩=some (.int .i64 0))/\(∀ i,w1.frozen? ⟨w.heap.size+1,i,none⟩=false)/\Below w.heap.size w w1):=fun w1 h=>by
  have hb:=(h.block (w.heap.size+1) (by omega)).trans hX0
  exact ⟨zEt hb,zKa hb,hbW.trans (h.mono hbW.size)⟩
 have HK:Hid (zAK m ps l≠0):=hk;generalize zAK m ps l=tc at *;generalize m.vars.length=vn at *;generalize m.rules.length=rn at *;generalize ps.length=pn at *;generalize l.length=fn at *;clear hV hT
 go_enter Tryz.func33,Tryz.ntmps33
 go_wp2_with (first | (go_at_call 51;rw [<- hW0];refine hsv.mono ?_;rintro e w1 ⟨rfl,hb1⟩;obtain ⟨⟨x0,x1,x2,x3,x4⟩,xf,hbw⟩:=HFin.out w1 hb1;have f0:=xf 0;have f1:=xf 1;have f2:=xf 2;have f3:=xf 3;have f4:=xf 4))
 have hbF:Below w.heap.size w (((((w1.setCell ⟨w.heap.size+1,0,none⟩ (.slice none 0 0)).setCell ⟨w.heap.size+1,1,none⟩ (.int .i64 0)).setCell ⟨w.heap.size+1,2,none⟩ (.slice none 0 0)).setCell ⟨w.heap.size+1,3,none⟩ (.slice none 0 0)).setCell ⟨w.heap.size+1,4,none⟩ (.int .i64 0)):=hbw.trans ((zIk w1 (w.heap.size+1) _ _ _ _ _).below (fun i e=>by omega) (by have:=hbw.size;omega))
 refine bodyPost_ret (v:=.tuple #[.agg #[.slice none 0 0,.int .i64 0,.slice none 0 0,.slice none 0 0,.int .i64 0],.int .i64 tc]) ?_ rfl (.inr (.inr ⟨HK.out,rfl,hbF⟩))
 simp [results,Tryz.results33,go_sem,x0,x1,x2,x3,x4]
theorem zQx (W0 w1 w2:World) (n:Nat) (va vr pv fv:Value) (m:Mo) (ps:List (List (Int × Int))) (l:List (Int × Int)) (ho:Option Addr) (hc:Nat) (so:Option Addr) (sc:Nat) (hk:zAK m ps l=0) (hb1:Below W0.heap.size W0 w1) (hn:W0.heap.size <= n) (hs:SurvAt w1 (n+2) va vr pv fv (.slice ho (zAA l).length hc) n (n+1)) (hor:w1.ownsRow W0.heap.size 3 1 (.slice ho (zAA l).length hc) (zAA l).length (zAL (zAA l))) (hm:w1.heap[n]? = some (.map #[] 0)/\w1.heap[n+1]? = some (.map #[] 0)) (hb2:Below w1.heap.size w1 w2) (hsp:SpO w2 w1.heap.size (.slice so (zAX m ps l).length sc) (zAX m ps l)) :
  Calls Tryz.prog 53 #[.pointer (some ⟨w2.heap.size+1,0,none⟩),.slice so (zAX m ps l).length sc] ((w2.alloc (.map #[] 0)).alloc (.cells #[.slice none 0 0,.int .i64 ((zAX m ps l).length:Nat),.slice none 0 0,.slice none 0 0,.int .i64 ((zAA l).length:Nat),.map (some w2.heap.size)] 129)) fun e w3=>∃ v sv,e=.returned v/\Hid (ExW W0 w3 w2.heap.size (w2.heap.size+1) w2.heap.size (n+2) n (n+1) (0*300001) va vr pv fv m ps l ho hc (xpP m ps l 0) (xpN m ps l 0) (xpT m ps l 0) ((zAX m ps l).length:Nat) ((zAA l).length:Nat) sv (.slice none 0 0) (.slice none 0 0)):=by
 have hbl:=zHg hk;have hv1:SvOk (fun _=>True) W0 w1 (n+2) n (n+1) 0 va vr pv fv m ps l ho hc:=SvOk.made (Below.refl _ _) hb1 hn hs hor hm.1 hm.2
 have hv2:=hv1.below hb2;have hl1:=hv2.box.lt;have hl2:n < w2.heap.size:=by omega
 obtain ⟨WA,hWA⟩:∃ WA,WA=(w2.alloc (.map #[] 0)).alloc (.cells #[.slice none 0 0,.int .i64 ((zAX m ps l).length:Nat),.slice none 0 0,.slice none 0 0,.int .i64 ((zAA l).length:Nat),.map (some w2.heap.size)] 129):=⟨_,rfl⟩
 have hbA:Below w2.heap.size w2 WA:=by rw [hWA];exact ((Below.refl _ _).alloc (Nat.le_refl _) _).alloc (by simp) _
 have hmA:WA.heap[w2.heap.size]? = some (.map #[] 0):=by
  rw [hWA,Below.heap_alloc _ _ _ (by simp)]
  exact (MapKept.heap_alloc w2 _).1
 have hxA:WA.heap[w2.heap.size+1]? = some (atB (.slice none 0 0) (.slice none 0 0) (.slice none 0 0) ((zAX m ps l).length:Nat) ((zAA l).length:Nat) w2.heap.size):=by
  rw [hWA];have:=(MapKept.heap_alloc (w2.alloc (.map #[] 0)) (.cells #[.slice none 0 0,.int .i64 ((zAX m ps l).length:Nat),.slice none 0 0,.slice none 0 0,.int .i64 ((zAA l).length:Nat),.map (some w2.heap.size)] 129)).1;rw [World.size_alloc] at this;exact this
 have hX:ExW W0 WA w2.heap.size (w2.heap.size+1) w2.heap.size (n+2) n (n+1) (0*300001) va vr pv fv m ps l ho hc [] (xpN m ps l 0) (xpT m ps l 0) ((zAX m ps l).length:Nat) ((zAA l).length:Nat) (.slice none 0 0) (.slice none 0 0) (.slice none 0 0):=by
  refine ⟨((hv2.re (Pz':=zQX (.slice none 0 0)) (fun _ _ _ e=>by simp [Value.ownBlock] at e) (fun _ _ e=>by simp [Value.ownBlock] at e)).below hbA).mono (by omega),⟨hxA,by omega,Nat.le_refl _,zBb.new hmA,SpO.nil _ _,⟨[],World.ownsRow_nil _ _ _ _,rfl,fun i hi=>by simp [xpN] at hi⟩,World.ownsRow_nil _ _ _ _⟩,?_,?_,?_,?_⟩
  ·have:=hv2.bel.size;omega
  ·omega
  ·omega
  ·omega
 have hsv:=(hsp.later hbA (Nat.le_refl _)).v;have hIs:∀ j,j < (zAX m ps l).length->zEG ((zAX m ps l).getD j (0,0)):=fun j hj=>zKQ hk (zI1 hk (by rw [List.getD_eq_getElem?_getD,List.getElem?_eq_getElem hj];exact List.getElem_mem _))
 have hsep:∀ a,so=some a->¬ atZ (w2.heap.size+1) w2.heap.size (.slice none 0 0) a.block:=fun a e z=>by
  have hlt:a.block < w2.heap.size:=by
   rcases hsp.2 with ⟨h0,_⟩ | ⟨g,cap,cur,h1,_,h3,_⟩
   ·rw [e] at h0;simp at h0
   ·rw [e] at h1
    injection h1 with h1 _ _
    injection h1 with h1
    subst h1;exact (Array.getElem?_eq_some_iff.1 h3).1
  rcases z with z | z | z
  ·omega
  ·omega
  ·simp [Value.ownBlock] at z
 rw [<- hWA];refine (zIF WA w2.heap.size (w2.heap.size+1) w2.heap.size [] _ _ _ _ _ _ _ _ so sc hX.tl hsv hsep hIs (by simp;omega)).mono fun e w3 ⟨h1,sv',h2,h3,h4,h5,h6⟩=>?_
 exact ⟨_,sv',h1,hX.put h5 h2⟩
theorem zQG (W0 wr:World) (base A lm B bs bl k:Nat) (va vr pv fv:Value) (m:Mo) (ps:List (List (Int × Int))) (l:List (Int × Int)) (ho:Option Addr) (hc:Nat) (init many:Int) (sv nv tv:Value) (hB:0 < W0.heap.size) (hT:zAJ W0) (hV:TaskV W0 va vr pv fv m ps l) (hk:zAK m ps l=0) (hX:ExW W0 wr base A lm B bs bl (k*300001) va vr pv fv m ps l ho hc (xpP m ps l k) (xpN m ps l k) (xpT m ps l k) init many sv nv tv) (hlt:k < (xpP m ps l k).length) (hz:(xpP m ps l k).length <= 20000) (hsp:∀ p∈xpP m ps l k,zDI m l p) :
  Calls Tryz.prog 54 #[.pointer (some ⟨A,0,none⟩),.pointer (some ⟨B,0,none⟩),.agg #[.int .i64 (zCc m ps l k).1,.int .i64 (zCc m ps l k).2]] wr fun e w'=>e=.returned (.int .i64 (if 20000 < (xpP m ps l (k+1)).length then 12 else 0))/\∃ sv nv tv,Hid (ExW W0 w' base A lm B bs bl ((k+1)*300001) va vr pv fv m ps l ho hc (xpP m ps l (k+1)) (xpN m ps l (k+1)) (xpT m ps l (k+1)) init many sv nv tv):=by
 obtain ⟨h1,d,h2,h3⟩:=hsp _ (zKL hlt);have hgo:=zJc W0 wr base A lm B bs bl (k*300001) va vr pv fv m ps l ho hc (xpP m ps l k) (xpN m ps l k) (xpT m ps l k) init many sv nv tv (zCc m ps l k).1 d hB hT hV hk hX (by omega) h1 h2 hz (by rw [zC8];omega) (by rw [zDC];omega)
 unfold zKm at hgo;rw [<- h3] at hgo;refine hgo.mono fun e w' ⟨g1,sv',nv',tv',g2⟩=>⟨g1,sv',nv',tv',?_⟩
 have e1:(k+1)*300001=k*300001+300001:=by omega
 rw [e1];exact g2
theorem zNn (va vr pv fv:Value) (m:Mo) (ps:List (List (Int × Int))) (l:List (Int × Int)) (w:World) (hB:0 < w.heap.size) (hT:zAJ w) (hV:TaskV w va vr pv fv m ps l) (hk:zAK m ps l=0) :
  Calls Tryz.prog 33 #[.agg #[va,vr,pv,fv]] w (zIL w m ps l):=by
 unfold zIL;obtain ⟨ao,ac,rfl⟩:=hV.mo.1.shape;obtain ⟨ro,rc,rfl⟩:=hV.mo.2.shape;obtain ⟨po,pc,rfl⟩:=hV.ps.shape;obtain ⟨fo,fc,rfl,_⟩:=id hV.fo
 obtain ⟨W0,hW0⟩:∃ W0,W0=(w.alloc (.cells #[.slice ao m.vars.length ac,.slice ro m.rules.length rc,.slice po ps.length pc,.slice fo l.length fc] 45)).alloc (.cells #[.slice none 0 0,.int .i64 0,.slice none 0 0,.slice none 0 0,.int .i64 0] 94):=⟨_,rfl⟩
 have hbW:Below w.heap.size w W0:=by rw [hW0];exact ((Below.refl _ _).alloc (Nat.le_refl _) _).alloc (by simp) _
 have hzW:W0.heap.size=w.heap.size+2:=by rw [hW0];simp
 have hX0:W0.heap[w.heap.size+1]? = some (grB (.slice none 0 0) (.slice none 0 0) (.slice none 0 0) 0 0):=by
  rw [hW0];have:=(MapKept.heap_alloc (w.alloc (.cells #[.slice ao m.vars.length ac,.slice ro m.rules.length rc,.slice po ps.length pc,.slice fo l.length fc] 45)) (.cells #[.slice none 0 0,.int .i64 0,.slice none 0 0,.slice none 0 0,.int .i64 0] 94)).1;rw [World.size_alloc] at this;exact this
 have hB0:0 < W0.heap.size:=Nat.lt_of_lt_of_le hB hbW.size;have hT0:=hT.below hbW hB;have hV0:=hV.below hbW;have hsv:=zLW _ _ _ _ m ps l W0 hB0 hT0 hV0 hk
 have HFin:Hid (∀ w1,Below W0.heap.size W0 w1->(w1.cell? ⟨w.heap.size+1,0,none⟩=some (.slice none 0 0)/\w1.cell? ⟨w.heap.size+1,1,none⟩=some (.int .i64 0)/\w1.cell? ⟨w.heap.size+1,2,none⟩=some (.slice none 0 0)/\w1.cell? ⟨w.heap.size+1,3,none⟩=some (.slice none 0 0)/\w1.cell? ⟨w.heap.size+1,4,none⟩=some (.int .i64 0))/\(∀ i,w1.frozen? ⟨w.heap.size+1,i,none⟩=false)/\TyB w1 (w.heap.size+1) 94/\Below w.heap.size w w1):=fun w1 h=>by
  have hb:=(h.block (w.heap.size+1) (by omega)).trans hX0
  exact ⟨zEt hb,zKa hb,⟨_,_,hb⟩,hbW.trans (h.mono hbW.size)⟩
 have HBe:Hid (∀ (w1:World) (B bs bl:Nat) (ho:Option Addr) (hcp:Nat),Below W0.heap.size W0 w1->SurvAt w1 B (.slice ao m.vars.length ac) (.slice ro m.rules.length rc) (.slice po ps.length pc) (.slice fo l.length fc) (.slice ho (zAA l).length hcp) bs bl->Calls Tryz.prog 52 #[.pointer (some ⟨B,0,none⟩)] w1 fun e w'=>∃ so sc,e=.returned (.tuple #[.slice so (zAX m ps l).length sc,.int .i64 0])/\Below w1.heap.size w1 w'/\Hid (SpO w' w1.heap.size (.slice so (zAX m ps l).length sc) (zAX m ps l))):=fun w1 B bs bl ho hcp h hs=>zPc B _ _ _ _ m ps l ho hcp bs bl w1 (Nat.lt_of_lt_of_le hB0 h.size) (hT0.below h hB0) (hV0.below h) hk hs
 have HSt:=(show Hid _ from fun (w1 w2:World) (n:Nat) (ho:Option Addr) (hc:Nat) (so:Option Addr) (sc:Nat)=>zQx W0 w1 w2 n (.slice ao m.vars.length ac) (.slice ro m.rules.length rc) (.slice po ps.length pc) (.slice fo l.length fc) m ps l ho hc so sc hk)
 have HRd:=(show Hid _ from fun (wr:World) (base A lm B bs bl k:Nat) (ho:Option Addr) (hc:Nat) (sv nv tv:Value)=>zQG W0 wr base A lm B bs bl k (.slice ao m.vars.length ac) (.slice ro m.rules.length rc) (.slice po ps.length pc) (.slice fo l.length fc) m ps l ho hc ((zAX m ps l).length:Nat) ((zAA l).length:Nat) sv nv tv hB0 hT0 hV0 hk)
 have HP0:Hid ((∀ p∈xpP m ps l 0,zDI m l p)/\(xpP m ps l 0).length <= 20000):=⟨zKC hk,by
  have h1:=(zD3 (zAX m ps l) []).2;have h2:=zHg hk;have e:xpP m ps l 0=zAb [] (zAX m ps l):=rfl;rw [e];simp at h1
  omega⟩
 have HPn:Hid (∀ k,k < (xpP m ps l k).length->(∀ p∈xpP m ps l k,zDI m l p)->∀ p∈xpP m ps l (k+1),zDI m l p):=fun k h1 h2=>zKv hk h1 h2
 have HK:Hid (zAK m ps l=0):=hk;have hbn:=zHg hk;have han:=(zAv (zA3 hk).2).2.2.2.2;unfold zHR at hsv;clear hV hT hV0 hT0 hk;generalize hbl:(zAX m ps l).length=bn at *;generalize hal:(zAA l).length=an at *;generalize m.vars.length=vn at *;generalize m.rules.length=rn at *;generalize ps.length=pn at *;generalize l.length=fn at *
 have hmm:=@run_makeMap Tryz.prog
 go_enter Tryz.func33,Tryz.ntmps33
 go_upto_region 8 with (first | (go_at_call 51;rw [<- hW0];refine hsv.mono ?_;rintro e w1 ⟨n,ho,hcp,rfl,hb1,hn1,_,HS,HO,HM⟩;have hbe:=HBe.out w1 _ _ _ _ _ hb1 HS.out) | (go_at_call 52;refine hbe.mono ?_;rintro e w2 ⟨so,sc,rfl,hb2,HSp⟩;have hst:=HSt.out w1 w2 n ho hcp so sc hb1 hn1 HS.out HO.out HM.out hb2 HSp.out;have x4:=(HS.out.later hb2).c4))
 go_wp2_with (first | (go_at_call 53;refine hst.mono ?_;rintro e w3 ⟨v3,sv3,rfl,HX3⟩))
 generalize hA:w2.heap.size+1=A at *;generalize hlm:w2.heap.size=lm at *;generalize hBn:n+2=B at *;generalize hbs:n+1=bl at *;clear hst hsv hbe HSt HBe HS HO HM HSp x4 hb1 hb2 hmm hlm
 go_loopw [8] (fun i wr=>∃ k pk:Nat,i=.int .i64 k/\k <= pk/\pk <= 20000/\Hid ((xpP m ps l k).length=pk/\(∀ p∈xpP m ps l k,zDI m l p)/\∀ j,j < k->j < (xpP m ps l j).length)/\∃ vo vc nv tv,Hid (ExW W0 wr lm A lm B n bl (k*300001) (.slice ao vn ac) (.slice ro rn rc) (.slice po pn pc) (.slice fo fn fc) m ps l ho hcp (xpP m ps l k) (xpN m ps l k) (xpT m ps l k) (bn:Nat) (an:Nat) (.slice vo pk vc) nv tv)) (fun i _=>20001 - (intOf i).toNat)
 case atStart=>
  obtain ⟨vo,vc,e⟩:=HX3.out.tl.sp.shape;refine ⟨0,(xpP m ps l 0).length,rfl,Nat.zero_le _,HP0.out.2,⟨rfl,HP0.out.1,fun j hj=>by omega⟩,vo,vc,.slice none 0 0,.slice none 0 0,?_⟩
  rw [<- e];exact HX3.out
 case round=>
  obtain ⟨k,pk,rfl,hkp,hpk,HK2,vo,vc,nv,tv,HX⟩:=hrel;obtain ⟨a0,a1,a2,a3,a4,a5⟩:=zBl HX.out.tl.box
  by_cases hlt:k < pk
  ·have hki:(k:Int) < (pk:Int):=by omega
   have hlt2:k < (xpP m ps l k).length:=by rw [HK2.out.1];exact hlt
   obtain ⟨b,off,rfl,_,c0,c1⟩:=HX.out.tl.sp.v.get hlt2;have hrd:=HRd.out wr lm A lm B n bl k ho hcp _ nv tv HX.out hlt2 (by rw [HK2.out.1];exact hpk) HK2.out.2.1
   have HKn:Hid ((∀ p∈xpP m ps l (k+1),zDI m l p)/\∀ j,j < k+1->j < (xpP m ps l j).length):=⟨HPn.out k hlt2 HK2.out.2.1,fun j hj=>by
    by_cases h:j < k
    ·exact HK2.out.2.2 j h
    ·obtain rfl:j=k:=by omega
     exact hlt2⟩
   have e1:(xpP m ps l k).getD k (0,0)=zCc m ps l k:=rfl;rw [e1] at c0 c1;clear e1 HX HRd hlt2;generalize zCc m ps l k=s at *;obtain ⟨x,y⟩:=s;simp only at c0 c1 hrd
   by_cases hfull:20000 < (xpP m ps l (k+1)).length
   ·rw [if_pos hfull] at hrd
    have HFu:Hid (zD6 m ps l):=⟨k,fun j hj=>HKn.out.2 j (by omega),hfull⟩
    clear hfull HKn HK2
    go_wp2_with (first | (go_at_call 54;refine hrd.mono ?_;rintro e w4 ⟨rfl,sv4,nv4,tv4,HX4⟩;obtain ⟨⟨x0,x1,x2,x3,x4⟩,xf,_,hbw⟩:=HFin.out w4 HX4.out.su.bel;have f0:=xf 0;have f1:=xf 1;have f2:=xf 2;have f3:=xf 3;have f4:=xf 4))
    have hbF:Below w.heap.size w (((((w4.setCell ⟨w.heap.size+1,0,none⟩ (.slice none 0 0)).setCell ⟨w.heap.size+1,1,none⟩ (.int .i64 0)).setCell ⟨w.heap.size+1,2,none⟩ (.slice none 0 0)).setCell ⟨w.heap.size+1,3,none⟩ (.slice none 0 0)).setCell ⟨w.heap.size+1,4,none⟩ (.int .i64 0)):=hbw.trans ((zIk w4 (w.heap.size+1) _ _ _ _ _).below (fun i e=>by omega) (by have:=hbw.size;omega))
    refine bodyPost_ret (v:=.tuple #[.agg #[.slice none 0 0,.int .i64 0,.slice none 0 0,.slice none 0 0,.int .i64 0],.int .i64 12]) ?_ rfl (.inr (.inl ⟨HK.out,HFu.out,rfl,hbF⟩))
    simp [results,Tryz.results33,go_sem,x0,x1,x2,x3,x4]
   ·rw [if_neg hfull] at hrd
    have HLe:Hid ((xpP m ps l (k+1)).length <= 20000/\pk <= (xpP m ps l (k+1)).length):=⟨by omega,by
     rw [<- HK2.out.1]
     exact (zL6 (zAX m ps l) (zB2 m ps l) k).length_le⟩
    clear hfull HK2
    go_wp2_with (first | (go_at_call 54;refine hrd.mono ?_;rintro e w4 ⟨rfl,sv4,nv4,tv4,HX4⟩))
    go_roundw
    case rel=>
     obtain ⟨vo4,vc4,e⟩:=HX4.out.tl.sp.shape;refine ⟨k+1,(xpP m ps l (k+1)).length,by go_num,by have:=HLe.out.2;omega,HLe.out.1,⟨rfl,HKn.out⟩,vo4,vc4,nv4,tv4,?_⟩
     rw [<- e];exact HX4.out
    case measure=>simp [intOf];omega
  ·obtain rfl:k=pk:=by omega
   obtain ⟨⟨x0,x1,x2,x3,x4⟩,xf,hty,hbw⟩:=HFin.out wr HX.out.su.bel;have f0:=xf 0;have f1:=xf 1;have f2:=xf 2;have f3:=xf 3;have f4:=xf 4;have HDn:Hid (zBB m ps l k):=⟨HK2.out.1,hpk,HK2.out.2.2,HK2.out.2.1⟩
   have HG:Hid (GrX wr w.heap.size m ps l k (.slice vo k vc) nv tv):=by
    have hle:w.heap.size <= lm:=by have:=HX.out.lo.1;have:=hbW.size;omega
    exact ⟨zAw HX.out.tl.sp hle,HX.out.tl.nx.mono hle,zAw HX.out.tl.st hle⟩
   obtain ⟨no,nn,nc,rfl⟩:∃ no nn nc,nv=.slice no nn nc:=by
    obtain ⟨us,h1,_⟩:=HX.out.tl.nx;obtain ⟨x,y,e⟩:=zAU h1;exact ⟨_,_,_,e⟩
   obtain ⟨xo,xn,xc,rfl⟩:∃ xo xn xc,tv=.slice xo xn xc:=by
    obtain ⟨x,y,e⟩:=zAU HX.out.tl.st;exact ⟨_,_,_,e⟩
   have HBF:Hid (∀ w8,Chg (fun i=>i=w.heap.size+1) wr w8->Below w.heap.size w w8/\GrX w8 w.heap.size m ps l k (.slice vo k vc) (.slice no nn nc) (.slice xo xn xc)):=fun w8 h=>⟨hbw.trans (h.below (fun i e=>by omega) (by have:=hbw.size;omega)),HG.out.chg h hty⟩
   clear HX HK2 HRd HG hty
   go_wp2_with fail
   obtain ⟨r1,r2⟩:=HBF.out _ (zIk wr (w.heap.size+1) _ _ _ _ _);refine bodyPost_ret (v:=.tuple #[.agg #[.slice vo k vc,.int .i64 (bn:Nat),.slice no nn nc,.slice xo xn xc,.int .i64 (an:Nat)],.int .i64 0]) ?_ rfl (.inl ⟨HK.out,k,HDn.out,_,_,_,rfl,r1,r2⟩)
   simp [results,Tryz.results33,go_sem,x0,x1,x2,x3,x4]
theorem zE0 (va vr pv fv:Value) (m:Mo) (ps:List (List (Int × Int))) (l:List (Int × Int)) (w:World) (hB:0 < w.heap.size) (hT:zAJ w) (hV:TaskV w va vr pv fv m ps l) :
  Calls Tryz.prog 33 #[.agg #[va,vr,pv,fv]] w (zIL w m ps l):=by
 by_cases hk:zAK m ps l=0
 ·exact zNn va vr pv fv m ps l w hB hT hV hk
 ·exact zLB va vr pv fv m ps l w hB hT hV hk
end Go.Proofs.YtiimhhjkgeepjaaGreatDoor
namespace Go.Proofs.YtiimhhjkgeepjaaGreatDoor
open Go.ChangeShapes Go.WideShapes Go.ChangeAt Go.RowKit Go.Deep
open Terms
set_option maxHeartbeats 6400000
set_option maxRecDepth 20000
theorem zPg {l:List Int} {k:Nat} (h:k < l.length):l.take (k+1)=l.take k++[l.getD k 0]:=by
 rw [List.take_succ_eq_append_getElem h];simp [List.getD_eq_getElem?_getD,h]
theorem zPW {l:List Int} {k:Nat} (h:k < l.length):l.getD k 0∈l:=by
 rw [List.getD_eq_getElem?_getD,List.getElem?_eq_getElem h]
 exact List.getElem_mem h
theorem zAD.atV {w:World} {ao:Option Addr} {n cap:Nat} {l:List Int} (h:zAD w (.slice ao n cap) l) {k:Nat} (hk:k < l.length):∃ b off,ao=some ⟨b,off,none⟩/\b < w.heap.size/\n=l.length/\zBp w b off l:=by
 obtain ⟨ao',cap',e,h⟩:=h
 injection e with e1 e2 e3
 subst e1 e3;obtain ⟨b,off,e,hb,hat⟩:=h (by intro h;subst h;simp at hk)
 exact ⟨b,off,e,hb,e2,hat⟩
theorem zNZ (ao:Option Addr) (cap:Nat) (l:List Int) (x:Int) (w:World) (hl:l.length <= 140737488355328) (hV:zAD w (.slice ao l.length cap) l) :
  Calls Tryz.prog 91 #[.slice ao l.length cap,.int .i64 x] w fun e w'=>∃ q:Int,e=.returned (.int .i64 q)/\w'=w/\(x∈l->0 <= q)/\(x∉l->q=-1):=by
 obtain ⟨n,hn⟩:∃ n,l.length=n:=⟨_,rfl⟩
 have H:Hid (zAD w (.slice ao l.length cap) l):=hV;rw [hn] at hl H ⊢;have HN:Hid (l.length=n):=hn;clear hV hn
 go_enter Tryz.func91,Tryz.ntmps91
 go_wp2
 go_loopw [8] (fun i wr=>∃ k:Nat,k <= n/\i=.int .i64 k/\Hid (x∉l.take k)/\wr=w) (fun i _=>n - (intOf i).toNat)
 case atStart=>exact ⟨0,Nat.zero_le _,rfl,by show ¬ _;simp,rfl⟩
 case round=>
  obtain ⟨k,hk,rfl,HT,rfl⟩:=hrel
  by_cases hlt:k < n
  ·have hlt2:k < l.length:=by rw [HN.out];exact hlt
   obtain ⟨b,off,rfl,hb,_,hat⟩:=zAD.atV H.out hlt2;have c1:=hat k hlt2
   have HS:Hid (x≠l.getD k 0->x∉l.take (k+1)):=fun h hm=>by
    rw [zPg hlt2] at hm
    rcases List.mem_append.1 hm with h2 | h2
    ·exact HT.out h2
    ·simp at h2;exact h h2
   have HM:Hid (l.getD k 0∈l):=zPW hlt2;clear hat HT;generalize l.getD k 0=y at *
   by_cases hxy:x=y
   ·subst hxy
    go_wp2
    go_ret
    exact ⟨_,rfl,rfl,fun _=>by omega,fun h=>absurd HM.out h⟩
   ·have hs:=HS.out hxy
    have HS2:Hid (x∉l.take (k+1)):=hs;clear hs HS HM
    go_wp2
    go_roundw
    case rel=>exact ⟨k+1,by omega,by go_num,HS2,by trivial⟩
    case measure=>simp [intOf];omega
  ·obtain rfl:k=n:=by omega
   have HT':Hid (x∉l):=by have h:=HT.out;rw [List.take_of_length_le (by rw [HN.out];omega)] at h;exact h
   clear HT
   go_wp2
   go_ret
   exact ⟨-1,rfl,rfl,fun h=>absurd h HT'.out,fun _=>rfl⟩
theorem zJa (ao:Option Addr) (cap:Nat) (l:List Int) (x:Int) (w:World) (hl:l.length <= 140737488355328) (hV:zAD w (.slice ao l.length cap) l) :
  Calls Tryz.prog 65 #[.slice ao l.length cap,.int .i64 x] w fun e w'=>e=.returned (.bool (decide (x∈l)))/\w'=w:=by
 have hx:=zNZ ao cap l x w hl hV;generalize l.length=n at *;clear hV
 by_cases hm:x∈l
 ·rw [show decide (x∈l)=true by simp [hm]]
  have hx2:Calls Tryz.prog 91 #[.slice ao n cap,.int .i64 x] w fun e w'=>∃ q:Int,e=.returned (.int .i64 q)/\w'=w/\0 <= q:=hx.mono fun e w' ⟨q,h1,h2,h3,_⟩=>⟨q,h1,h2,h3 hm⟩
  clear hx hm
  go_enter Tryz.func65,Tryz.ntmps65
  go_wp2_with (go_at_call 91;refine hx2.mono ?_;rintro e w1 ⟨q,rfl,rfl,h3⟩)
  go_ret
  exact ⟨by first | rfl | trivial,rfl⟩
 ·rw [show decide (x∈l)=false by simp [hm]]
  have hx2:Calls Tryz.prog 91 #[.slice ao n cap,.int .i64 x] w fun e w'=>e=.returned (.int .i64 (-1))/\w'=w:=hx.mono fun e w' ⟨q,h1,h2,_,h3⟩=>⟨by rw [h1,h3 hm],h2⟩
  clear hx hm
  go_enter Tryz.func65,Tryz.ntmps65
  go_wp2_with (go_at_call 91;refine hx2.mono ?_;rintro e w1 ⟨rfl,rfl⟩)
  go_ret
  exact ⟨by first | rfl | trivial,rfl⟩
end Go.Proofs.YtiimhhjkgeepjaaGreatDoor
namespace Go.Proofs.YtiimhhjkgeepjaaGreatDoor
open Go.ChangeShapes Go.WideShapes Go.ChangeAt Go.RowKit Go.Deep Go.Maps
open Terms Tm
set_option maxHeartbeats 6400000
set_option maxRecDepth 20000
theorem zMP:Keyed Tryz.prog 3:=int_keyed Tryz.underlying3
theorem zSS (w:World):(zeroValue 147).run Tryz.prog w=.ok (.agg #[.slice none 0 0]) w:=by kernel_rfl
theorem zRL {x:Int} (h:-9223372036854775808 <= x/\x <= 9223372036854775807):keyOf Tryz.prog 3 (.int .i64 x)=some (.int .i64 x):=keyOf_int_mk Tryz.underlying3 (WalkArith.wf_i64 (by omega))
theorem zAD.overMap {wr w':World} {g:Nat} {v:Value} {l:List Int} (h:zAD wr v l) (hm:∃ es c,wr.heap[g]? = some (.map es c)) (hs:Sk g g wr w'):zAD w' v l:=by
 obtain ⟨ao,cap,rfl,h⟩:=h;refine ⟨ao,cap,rfl,fun hne=>?_⟩
 obtain ⟨b,off,rfl,hlt,hat⟩:=h hne;exact ⟨b,off,rfl,Nat.lt_of_lt_of_le hlt hs.size,fun i hi=>hs.cell ⟨hm,hm⟩ (hat i hi)⟩
def zQV (wr:World) (m:Mo) (f:Lit->Option Value):Prop:=∀ kl v,f kl=some v->∃ c ao cap,kl=.int .i64 c/\v=.agg #[.slice ao (zAB m c).length cap]/\zAD wr (.slice ao (zAB m c).length cap) (zAB m c)
def zDv (wr:World) (g n:Nat) (m:Mo):Prop:=∃ f,zAg wr 3 g n f/\zQV wr m f
theorem zDv.lt {wr:World} {g n:Nat} {m:Mo} (h:zDv wr g n m):g < wr.heap.size:=by obtain ⟨f,h1,_⟩:=h;exact h1.lt
theorem zAg.more {w:World} {kt:TypeId} {b n k:Nat} {f:Lit->Option Value} (h:zAg w kt b n f) (hk:n <= k):zAg w kt b k f:=by
 obtain ⟨D,⟨es,c,h1,h2,h3,h4⟩,h5⟩:=h;exact ⟨D,⟨es,c,h1,h2,Nat.le_trans h3 hk,h4⟩,h5⟩
theorem zDv.below {wr w':World} {g n:Nat} {m:Mo} (h:zDv wr g n m) (hb:Below wr.heap.size wr w'):zDv w' g (n+1) m:=by
 obtain ⟨f,h1,h2⟩:=h;refine ⟨f,(h1.kept (hb.block _ h1.lt)).more (Nat.le_succ _),fun kl v hv=>?_⟩
 obtain ⟨c,ao,cap,e1,e2,e3⟩:=h2 kl v hv;exact ⟨c,ao,cap,e1,e2,e3.below hb⟩
theorem zDv.put {wr w3 w':World} {g n:Nat} {m:Mo} {f:Lit->Option Value} {code:Int} {ao:Option Addr} {cap:Nat} (h1:zAg wr 3 g n f) (h2:zQV wr m f) (hb:Below wr.heap.size wr w3) (hg:w3.grownBy w' (some g))
  (hm:zAg w' 3 g (n+1) (zEm f (.int .i64 code) (.agg #[.slice ao (zAB m code).length cap]))) (hI:zAD w3 (.slice ao (zAB m code).length cap) (zAB m code)):zDv w' g (n+1) m/\zAD w' (.slice ao (zAB m code).length cap) (zAB m code):=by
 have hmm:∃ es c,w3.heap[g]? = some (.map es c):=(h1.kept (hb.block _ h1.lt)).isMap
 have hs:Sk g g w3 w':=Sk.grown hg (.inl rfl);refine ⟨⟨_,hm,fun kl v hv=>?_⟩,hI.overMap hmm hs⟩
 by_cases hk:kl=.int .i64 code
 ·subst hk
  rw [zEA] at hv
  cases hv
  exact ⟨code,ao,cap,rfl,rfl,hI.overMap hmm hs⟩
 ·rw [zDl hk] at hv
  obtain ⟨c,ao',cap',e1,e2,e3⟩:=h2 kl v hv;exact ⟨c,ao',cap',e1,e2,(e3.below hb).overMap hmm hs⟩
open Classical in
theorem zLJ (va vr:Value) (m:Mo) (b off cap:Nat) (cs:List Int) (w:World) (hB:0 < w.heap.size) (hT:zAJ w) (hV:zAa w va vr m) (hm:mcode m=0) (h2:2 <= cs.length) (hM:cs.length <= 1099511627776) (hcap:cs.length <= cap) (hb:b < w.heap.size) (hC:zBp w b off cs)
  (h0:0 <= cs.getD 0 0/\cs.getD 0 0 < zAC m.vars m.vars.length) :
  Calls Tryz.prog 39 #[.agg #[va,vr],.slice (some ⟨b,off,none⟩) cs.length cap] w fun e w'=>e=.returned (.bool (decide (zAk m cs (cs.length - 1))))/\Below w.heap.size w w':=by
 obtain ⟨ao,ac,rfl⟩:=hV.1.shape;obtain ⟨ro,rc,rfl⟩:=hV.2.shape;have hP:=(zAt hm).prod (Nat.le_refl m.vars.length);obtain ⟨W1,hW1⟩:∃ W1,W1=w.alloc (.cells #[.slice ao m.vars.length ac,.slice ro m.rules.length rc] 32):=⟨_,rfl⟩
 have hb1:Below w.heap.size w W1:=by rw [hW1];exact (Below.refl _ _).alloc (Nat.le_refl _) _
 have hz1:W1.heap.size=w.heap.size+1:=by rw [hW1];simp
 have HNe:Hid (∀ (w1:World) (code:Int),Below (w.heap.size+1) W1 w1->(0 <= code/\code < zAC m.vars m.vars.length)->Calls Tryz.prog 11 #[.agg #[.slice ao m.vars.length ac,.slice ro m.rules.length rc],.int .i64 code] w1 fun e w'=>∃ no nc,e=.returned (.tuple #[.slice no (zAB m code).length nc,.int .i64 0])/\Below w1.heap.size w1 w'/\Hid (zAD w' (.slice no (zAB m code).length nc) (zAB m code)/\∀ a,no=some a->w1.heap.size <= a.block)):=fun w1 code h hcr=>by
  have h0:=hb1.trans (h.mono (Nat.le_succ _));refine (zHk _ _ m code w1 (Nat.lt_of_lt_of_le hB h0.size) (hT.below h0 hB) (hV.below h0) hm).mono fun e w' ⟨v,q1,q2,q3⟩=>?_
  have q4:=zBH q3;rw [zCz hm hcr] at q4;obtain ⟨no,nc,rfl,hx⟩:=q4;refine ⟨no,nc,by rw [q1,zBk hm hcr],q2,⟨no,nc,rfl,hx⟩,fun a e=>?_⟩
  rcases q3.2 with ⟨e3,_⟩ | ⟨g',cap',cur',e3,e4,_⟩
  ·rw [e] at e3;cases e3
  ·rw [e] at e3
   injection e3 with e3 _ _
   injection e3 with e3
   rw [e3];exact e4
 have HCo:Hid (∀ (w1:World) (no:Option Addr) (nc:Nat) (code x:Int),(0 <= code/\code < zAC m.vars m.vars.length)->zAD w1 (.slice no (zAB m code).length nc) (zAB m code)->Calls Tryz.prog 65 #[.slice no (zAB m code).length nc,.int .i64 x] w1 fun e w'=>e=.returned (.bool (decide (x∈zAB m code)))/\w'=w1):=fun w1 no nc code x hcr hI=>zJa no nc (zAB m code) x w1 (by have:=zLe m code;rw [zCz hm hcr] at this;have h9:=(zHM hm);omega) hI
 have HBx:Hid (∀ w1,Below (w.heap.size+1) W1 w1->w1.cell? ⟨w.heap.size,0,none⟩=some (.slice ao m.vars.length ac)/\w1.cell? ⟨w.heap.size,1,none⟩=some (.slice ro m.rules.length rc)):=fun w1 h=>by
  have hl:w.heap.size < w.heap.size+1:=Nat.lt_succ_self _;exact ⟨(h.cell (p:=⟨w.heap.size,0,none⟩) hl).trans (by rw [hW1];simp [go_sem]),(h.cell (p:=⟨w.heap.size,1,none⟩) hl).trans (by rw [hW1];simp [go_sem])⟩
 have HCs:Hid (∀ w1,Below (w.heap.size+1) W1 w1->∀ i,i < cs.length->w1.cell? ⟨b,off+i,none⟩=some (.int .i64 (cs.getD i 0))):=fun w1 h i hi=>((hb1.trans (h.mono (Nat.le_succ _))).cell (p:=⟨b,off+i,none⟩) hb).trans (hC i hi)
 have HRg:Hid (∀ k,zAk m cs k->0 <= cs.getD k 0/\cs.getD k 0 < zAC m.vars m.vars.length):=fun k h=>h.range hm h0
 have HNo:Hid (∀ k,k+1 < cs.length->(0 <= cs.getD k 0/\cs.getD k 0 < zAC m.vars m.vars.length)->cs.getD (k+1) 0∉zAB m (cs.getD k 0)->decide (zAk m cs (cs.length - 1))=false):=fun k hk hr hn=>decide_eq_false fun h=>hn (by have:=h k (by omega);rw [zCz hm hr] at this;exact this)
 have HYs:Hid (∀ k,zAk m cs k->cs.getD (k+1) 0∈zAB m (cs.getD k 0)->zAk m cs (k+1)):=fun k h h2=>h.succ (by rw [zCz hm (h.range hm h0)];exact h2)
 have HRes:Hid (∀ k,zAk m cs k->k=cs.length - 1->decide (zAk m cs (cs.length - 1))=true):=fun k h e=>by rw [<- e];exact decide_eq_true h
 have HK0:Hid (∀ w1:World,zDv (w1.alloc (.map #[] 0)) w1.heap.size 0 m):=fun w1=>⟨fun _=>none,zAg.new _ (MapKept.heap_alloc w1 _).1,fun kl v h=>by cases h⟩
 have HPut:Hid (∀ (w1:World) (g n:Nat) (f:Lit->Option Value) (code:Int) (v:Value),zAg w1 3 g n f->n <= 1099511627776->(0 <= code/\code < zAC m.vars m.vars.length)->∃ w',(Instr.mapUpdate 145 (.map (some g)) (.int .i64 code) v).run Tryz.prog w1=.ok () w'/\zAg w' 3 g (n+1) (zEm f (.int .i64 code) v)/\w1.grownBy w' (some g)):=fun w1 g n f code v h hn hcr=>h.put zMP Tryz.underlying145 (by unfold maxLen;omega) (val:=v) (zRL (by omega)) (by simp [WideAt.IsKeyLit])
 have HLk:Hid (∀ (w1:World) (g n:Nat) (f:Lit->Option Value) (code:Int),zAg w1 3 g n f->(0 <= code/\code < zAC m.vars m.vars.length)->(Instr.lookup 145 (.map (some g)) (.int .i64 code) true).run Tryz.prog w1=.ok (.tuple #[(f (.int .i64 code)).getD (.agg #[.slice none 0 0]),.bool (f (.int .i64 code)).isSome]) w1):=fun w1 g n f code h hcr=>h.look zMP Tryz.underlying145 (zSS _) (zRL (by omega))
 generalize decide (zAk m cs (cs.length - 1))=res at *;obtain ⟨n,hn⟩:∃ n,n=cs.length:=⟨_,rfl⟩
 have HN:Hid (n=cs.length):=hn;rw [<- hn] at h2 hM hcap HCs HNo HRes ⊢;generalize m.vars.length=vn at *;generalize m.rules.length=rn at *;have hc1:¬ cap=1:=by omega
 have HKs:Hid (zDv (W1.alloc (.map #[] 0)) (w.heap.size+1) 0 m):=by have h:=HK0.out W1;rw [hz1] at h;exact h
 have HBs:Hid (Below (w.heap.size+1) W1 (W1.alloc (.map #[] 0))):=(Below.refl _ _).alloc (by omega) _
 have HBe:Hid (∀ w1,Below (w.heap.size+1) W1 w1->Below w.heap.size w w1):=fun w1 h=>hb1.trans (h.mono (Nat.le_succ _))
 have HBn:Hid (∀ (wr:World) (v:Value) (w':World),Below (wr.heap.size+1) (wr.alloc (.cells #[v] 147)) w'->Below wr.heap.size wr w'/\w'.cell? ⟨wr.heap.size,0,none⟩=some v/\w'.frozen? ⟨wr.heap.size,0,none⟩=false):=fun wr v w' h=>by
  have hl:wr.heap.size < wr.heap.size+1:=Nat.lt_succ_self _;exact ⟨((Below.refl _ _).alloc (Nat.le_refl _) _).trans (h.mono (Nat.le_succ _)),(h.cell (p:=⟨wr.heap.size,0,none⟩) hl).trans (by simp [go_sem]),(h.frozen (p:=⟨wr.heap.size,0,none⟩) hl).trans (by simp [go_sem])⟩
 clear hT hV hC h0 hn hm hP HK0;have hmm:=@run_makeMap Tryz.prog
 go_enter Tryz.func39,Tryz.ntmps39
 go_wp2_with fail
 rw [<- hW1];clear hW1 hz1 hb1;obtain ⟨p,hp⟩:∃ p,n - 1=p:=⟨_,rfl⟩
 rw [hp];have HPn:Hid (n=p+1):=by show _=_;omega
 have hpM:p <= 1099511627776:=by omega
 rw [hp] at HRes;clear hp
 go_loopw [17] (fun i wr=>∃ k:Nat,k <= p/\i=.int .i64 (k:Int)/\Hid (zAk m cs k)/\Hid (zDv wr (w.heap.size+1) k m)/\Hid (Below (w.heap.size+1) W1 wr)) (fun i _=>p - (intOf i).toNat)
 case atStart=>exact ⟨0,Nat.zero_le _,rfl,zAk.zero _ _,HKs,HBs⟩
 case round=>
  obtain ⟨k,hk,rfl,HL,HK,HBl⟩:=hrel
  by_cases hlt:k < p
  ·obtain ⟨f,hf,hfa⟩:=HK.out
   have hbl:=HBl.out;have hws:w.heap.size+1 <= wr.heap.size:=Nat.le_of_lt HK.out.lt;have hrg:=HRg.out k HL.out;have hpn:=HPn.out;have c0:=HCs.out wr hbl k (by omega)
   have c1:wr.cell? ⟨b,off+1+k,none⟩=_:=(congrArg (fun j=>wr.cell? ⟨b,j,none⟩) (by omega:off+1+k=off+(k+1))).trans (HCs.out wr hbl (k+1) (by omega))
   have hlk:=HLk.out wr _ _ f _ hf hrg;have HNx:Hid _:=HNo.out k (by omega) hrg
   have HYx:Hid _:=HYs.out k HL.out;have hki:(k:Int) < (p:Int):=by omega
   have hki2:(k:Int) < (n:Int):=by omega
   clear hpn HL;generalize cs.getD k 0=x at *;generalize cs.getD (k+1) 0=y at *;have HF:Hid (zAg wr 3 (w.heap.size+1) k f/\zQV wr m f):=⟨hf,hfa⟩
   cases hfx:f (.int .i64 x) with
   | some v=>
    obtain ⟨c,no,nc,e1,e2,hI⟩:=hfa _ _ hfx
    injection e1 with _ e1
    subst e1 e2;rw [hfx] at hlk;simp only [Option.getD_some,Option.isSome_some] at hlk;have hB3:Below wr.heap.size wr (wr.alloc (.cells #[.slice no (zAB m x).length nc] 147)):=(Below.refl _ _).alloc (Nat.le_refl _) _;have hco:=HCo.out _ no nc x y hrg (hI.below hB3)
    have HKn:Hid (zDv (wr.alloc (.cells #[.slice no (zAB m x).length nc] 147)) (w.heap.size+1) (k+1) m):=HK.out.below hB3;have HB4:Hid (Below (w.heap.size+1) W1 (wr.alloc (.cells #[.slice no (zAB m x).length nc] 147))):=hbl.trans (hB3.mono hws);clear hf hfa hfx hI hB3 HK HF;generalize (zAB m x).length=nn at *
    by_cases hy:y∈zAB m x
    ·rw [decide_eq_true hy] at hco
     have HY:Hid (zAk m cs (k+1)):=HYx.out hy;clear hy hrg HNx
     go_wp2_with (go_at_call 65;refine hco.mono ?_;rintro e w4 ⟨rfl,rfl⟩)
     go_roundw
     case rel=>exact ⟨k+1,by omega,by go_num,HY,HKn,HB4⟩
     case measure=>simp [intOf];omega
    ·rw [decide_eq_false hy] at hco
     have HR:Hid (res=false):=HNx.out hy;clear hy hrg HYx
     go_wp2_with (go_at_call 65;refine hco.mono ?_;rintro e w4 ⟨rfl,rfl⟩)
     go_ret
     exact ⟨by rw [HR.out];rfl,HBe.out _ HB4.out⟩
   | none=>
    rw [hfx] at hlk;simp only [Option.getD_none,Option.isSome_none] at hlk;have hB2:Below wr.heap.size wr (wr.alloc (.cells #[.slice none 0 0] 147)):=(Below.refl _ _).alloc (Nat.le_refl _) _;have hbl2:=hbl.trans (hB2.mono hws);have hne:=HNe.out _ x hbl2 hrg;obtain ⟨m0,m1⟩:=HBx.out _ hbl2;have HNw:=HBn.out wr (.slice none 0 0)
    have hszA:(wr.alloc (.cells #[.slice none 0 0] 147)).heap.size=wr.heap.size+1:=by simp
    have HNw:Hid (∀ w',Below (wr.alloc (.cells #[.slice none 0 0] 147)).heap.size (wr.alloc (.cells #[.slice none 0 0] 147)) w'->Below wr.heap.size wr w'/\w'.cell? ⟨wr.heap.size,0,none⟩=some (.slice none 0 0)/\w'.frozen? ⟨wr.heap.size,0,none⟩=false):=fun w' h=>HBn.out wr _ w' (by rw [hszA] at h;exact h)
    have HSt:Hid (∀ (w2:World) (no:Option Addr) (nc:Nat),Below (wr.alloc (.cells #[.slice none 0 0] 147)).heap.size (wr.alloc (.cells #[.slice none 0 0] 147)) w2->(zAD w2 (.slice no (zAB m x).length nc) (zAB m x)/\∀ a,no=some a->(wr.alloc (.cells #[.slice none 0 0] 147)).heap.size <= a.block)->∃ w4,(Instr.mapUpdate 145 (.map (some (w.heap.size+1))) (.int .i64 x) (.agg #[.slice no (zAB m x).length nc])).run Tryz.prog (w2.setCell ⟨wr.heap.size,0,none⟩ (.slice no (zAB m x).length nc))=.ok () w4/\w4.cell? ⟨wr.heap.size,0,none⟩=some (.slice no (zAB m x).length nc)/\Hid (zDv w4 (w.heap.size+1) (k+1) m)/\Hid (Below (w.heap.size+1) W1 w4)/\zAD w4 (.slice no (zAB m x).length nc) (zAB m x)):=fun w2 no nc h hI=>by
     obtain ⟨hI,hIa⟩:=hI;obtain ⟨q1,q2,q3⟩:=HNw.out w2 h;have hB3:Below wr.heap.size wr (w2.setCell ⟨wr.heap.size,0,none⟩ (.slice no (zAB m x).length nc)):=⟨q1.os,q1.tape,q1.output,by simpa using q1.size,fun i hi=>(RowKit.Below.heap_setCell _ _ _ _ (by show i≠wr.heap.size;omega)).trans (q1.block i hi)⟩
     obtain ⟨w4,r1,r2,r3⟩:=HPut.out _ _ k f x (.agg #[.slice no (zAB m x).length nc]) (HF.out.1.kept (hB3.block _ HF.out.1.lt)) (by omega) hrg
     have hI3:zAD (w2.setCell ⟨wr.heap.size,0,none⟩ (.slice no (zAB m x).length nc)) (.slice no (zAB m x).length nc) (zAB m x):=by
      obtain ⟨ao,cap,e,hx⟩:=hI
      injection e with e1 _ e3
      subst e1 e3;refine ⟨_,_,rfl,fun hne=>?_⟩
      obtain ⟨b,off,rfl,hlt,hat⟩:=hx hne;have:=hIa _ rfl;rw [hszA] at this;exact ⟨b,off,rfl,by simpa using hlt,fun i hi=>by rw [World.cell?_setCell_other _ _ _ _ (by intro e;injection e with e _;simp at this;omega)];exact hat i hi⟩
     obtain ⟨t1,t2⟩:=zDv.put HF.out.1 HF.out.2 hB3 r3 r2 hI3;have hb3w:=hbl.trans (hB3.mono hws);have hmm:∃ es c,(w2.setCell ⟨wr.heap.size,0,none⟩ (.slice no (zAB m x).length nc)).heap[w.heap.size+1]? = some (.map es c):=(HF.out.1.kept (hB3.block _ HF.out.1.lt)).isMap
     refine ⟨w4,r1,?_,t1,hb3w.grown r3 (Nat.le_trans hws hB3.size) (fun q hq=>by injection hq with hq;omega),t2⟩
     refine (Sk.grown r3 (.inl rfl):Sk (w.heap.size+1) (w.heap.size+1) _ _).cell ⟨hmm,hmm⟩ ?_
     simp [go_sem,q2]
    have HCx:Hid (∀ (w1:World) (no:Option Addr) (nc:Nat),zAD w1 (.slice no (zAB m x).length nc) (zAB m x)->Calls Tryz.prog 65 #[.slice no (zAB m x).length nc,.int .i64 y] w1 fun e w'=>e=.returned (.bool (decide (y∈zAB m x)))/\w'=w1):=fun w1 no nc h=>HCo.out w1 no nc x y hrg h
    clear hf hfa hfx HK HF hB2 hbl2 HBx;generalize (zAB m x).length=nn at *
    by_cases hy:y∈zAB m x
    ·rw [decide_eq_true hy] at HCx
     have HY:Hid (zAk m cs (k+1)):=HYx.out hy;clear hy hrg HNx
     go_wp2_with (first | (go_at_call 11;refine hne.mono ?_;rintro e w2 ⟨no,nc,rfl,hb2,HI⟩;obtain ⟨_,g1,g2⟩:=HNw.out w2 hb2;obtain ⟨w4,hrun,g3,HKn,HB4,hI4⟩:=HSt.out w2 no nc hb2 HI.out;have hco:=HCx.out w4 no nc hI4) | (go_at_call 65;refine hco.mono ?_;rintro e w5 ⟨rfl,rfl⟩))
     go_roundw
     case rel=>exact ⟨k+1,by omega,by go_num,HY,HKn,HB4⟩
     case measure=>simp [intOf];omega
    ·rw [decide_eq_false hy] at HCx
     have HR:Hid (res=false):=HNx.out hy;clear hy hrg HYx
     go_wp2_with (first | (go_at_call 11;refine hne.mono ?_;rintro e w2 ⟨no,nc,rfl,hb2,HI⟩;obtain ⟨_,g1,g2⟩:=HNw.out w2 hb2;obtain ⟨w4,hrun,g3,HKn,HB4,hI4⟩:=HSt.out w2 no nc hb2 HI.out;have hco:=HCx.out w4 no nc hI4) | (go_at_call 65;refine hco.mono ?_;rintro e w5 ⟨rfl,rfl⟩))
     go_ret
     exact ⟨by rw [HR.out];rfl,HBe.out _ HB4.out⟩
  ·obtain rfl:k=p:=by omega
   have HR:Hid (res=true):=HRes.out k HL.out rfl;have hbe:=HBe.out _ HBl.out;clear HK HL HRes
   go_wp2
   go_ret
   exact ⟨by rw [HR.out];rfl,hbe⟩
end Go.Proofs.YtiimhhjkgeepjaaGreatDoor
namespace Go.Proofs.YtiimhhjkgeepjaaGreatDoor
open Go.ChangeShapes Go.WideShapes Go.ChangeAt Go.RowKit Go.Deep
open Terms
set_option maxHeartbeats 6400000
set_option maxRecDepth 20000
theorem zOe (n:Nat) (w:World) (h0:0 < n) (h24:n <= 1099511627776) :
  Calls Tryz.prog 64 #[.slice none 0 0,.int .i64 (n:Int)] w fun e w'=>∃ B cap,e=.returned (.slice (some ⟨B,0,none⟩) 0 cap)/\Below w.heap.size w w'/\w'.ownsRow w.heap.size 3 1 (.slice (some ⟨B,0,none⟩) 0 cap) 0 []:=by
 obtain ⟨i0,hi,hz0,hz1,hz2⟩:=info_parts zA8
 have hrz:∀ ty,(Builtin.append_ #[37,3] ty #[.slice none 0 0,.int .i64 (n:Int)]).run Tryz.prog w=.ok (.slice (some ⟨w.heap.size,0,none⟩) n (grownCap w n 0 3)) (w.drew.alloc (.cells (Builtin.zeroCells (Value.int .i64 0).cells n++Builtin.zeroCells (Value.int .i64 0).cells (grownCap w n 0 3 - n)) 3)):=fun ty=>
  Lib.run_append_nil_zeros w 37 3 ty 3 i0 (.int .i64 0) .i64 .i64 Tryz.underlying37 Tryz.underlying3 hi hz0 n h0 (by omega) (by omega) (by rw [hz2];omega)
 have hge:=grownCap_ge w n 0 3;have hle:=grownCap_le_maxLen w n 0 3 (by unfold maxLen;omega)
 generalize grownCap w n 0 3=G at hrz hge hle;have hG:G <= 9223372036854775807:=by unfold maxLen at hle;omega
 have hn:¬ (n:Int) < 0:=by omega
 have hn2:(n:Int) > 0:=by omega
 go_enter Tryz.func64,Tryz.ntmps64
 go_wp2_with (at_builtin;refine Lib.wpList_append_run _ rfl _ _ _ _ rfl _ _ rfl rfl _ _ (hrz _) ?_)
 go_ret
 refine ⟨_,_,rfl,(below_drewN (Below.refl _ _) 1).alloc (Nat.le_refl _) _,?_⟩
 refine ⟨rfl,.inr ⟨w.heap.size,G,Builtin.zeroCells #[Value.int .i64 0] n++Builtin.zeroCells #[Value.int .i64 0] (G - n),rfl,Nat.le_refl _,?_,Nat.zero_le _,hle,?_,by simp⟩⟩
 ·show (w.heap.push _)[w.heap.size]? = _
  simp
 ·simp [size_zeroCells]
  omega
def zCv (xs:List (List Int)) (k:Nat):List Int:=(xs.take k).flatten
theorem zOy {xs:List (List Int)} {k:Nat} (h:k < xs.length):zCv xs (k+1)=zCv xs k++xs.getD k []:=by
 unfold zCv;rw [List.take_succ_eq_append_getElem h,List.flatten_append];simp [List.getD_eq_getElem?_getD,h]
theorem zMB (xs:List (List Int)) (k:Nat):(zCv xs k).length <= xs.flatten.length:=by
 unfold zCv;have:=congrArg List.length (congrArg List.flatten (List.take_append_drop k xs));rw [List.flatten_append,List.length_append] at this;omega
theorem zLH (g:Nat) (xs:List (List Int)) (w0 w:World) (hb0:Below w0.heap.size w0 w) (h3:xs.length=3) (h0:1 <= xs.flatten.length) (hM:xs.flatten.length <= 1099511627776)
  (hX:∀ k,k < 3->∃ v,w.cell? ⟨g,k,none⟩=some v/\zHw w0 v (xs.getD k [])) :
  Calls Tryz.prog 38 #[.slice (some ⟨g,0,none⟩) 3 3] w fun e w'=>∃ B cap,e=.returned (.slice (some ⟨B,0,none⟩) xs.flatten.length cap)/\Below w.heap.size w w'/\Hid (w'.ownsRow w.heap.size 3 1 (.slice (some ⟨B,0,none⟩) xs.flatten.length cap) xs.flatten.length (zAL xs.flatten)):=by
 obtain ⟨v0,c0,_⟩:=hX 0 (by omega)
 have hg:=World.block_lt_of_cell? w ⟨g,0,none⟩ c0;clear c0;obtain ⟨i0,hi,hz0,hz1,hz2⟩:=info_parts zA8;obtain ⟨zz,hzz⟩:∃ zz:Nat->Int,zz=fun k=>((zCv xs k).length:Int):=⟨_,rfl⟩
 have HAt:Hid (∀ k,k < 3->∃ xo xn xc xl,w.cell? ⟨g,k,none⟩=some (.slice xo xn xc)/\zz (k+1)=zz k+(xn:Int)/\0 <= zz k/\zz k <= 1099511627776/\xn <= 1099511627776/\xn=xl.length/\zCv xs (k+1)=zCv xs k++xl/\(zCv xs k).length+xn <= 1099511627776/\zHw w0 (.slice xo xn xc) xl):=fun k hk=>by
  obtain ⟨v,hc,hI⟩:=hX k hk;obtain ⟨ao,cap,rfl,h1,h2⟩:=id hI;have e1:=zOy (xs:=xs) (k:=k) (by omega)
  have e2:=zMB xs k;have e3:=zMB xs (k+1);have e4:=congrArg List.length e1;rw [List.length_append] at e4
  exact ⟨ao,_,cap,xs.getD k [],hc,by rw [hzz];show ((zCv xs (k+1)).length:Int)=((zCv xs k).length:Int)+_;omega,by rw [hzz];show (0:Int) <= ((zCv xs k).length:Int);omega,by rw [hzz];show ((zCv xs k).length:Int) <= _;omega,by omega,rfl,e1,by omega,hI⟩
 have HZ0:Hid (zz 0=0):=by show _=_;rw [hzz];rfl
 have HA0:Hid (zCv xs 0=[]):=rfl;have HA3:Hid (zCv xs 3=xs.flatten):=by show _=_;unfold zCv;rw [<- h3,List.take_length]
 have HZ3:Hid (zz 3=((xs.flatten.length:Nat):Int)):=by show _=_;rw [hzz,<- HA3.out]
 have hgr:=fun w1=>zOe xs.flatten.length w1 (by omega) hM
 have HLen:Hid (xs.flatten.length=xs.flatten.length):=rfl;generalize xs.flatten=fl at *;obtain ⟨tn,htn⟩:∃ tn,tn=fl.length:=⟨_,rfl⟩
 have HTn:Hid (tn=fl.length):=htn;rw [<- htn] at hgr HLen HZ3 hM h0 ⊢;generalize zCv xs=ac at *;clear hX htn hzz h3 HLen
 go_enter Tryz.func38,Tryz.ntmps38
 go_wp2
 go_loop [3,11] (fun z i=>∃ k:Nat,k <= 3/\i=.int .i64 (k:Int)/\z=.int .i64 (zz k)) (fun _ i=>3 - (intOf i).toNat)
 case atStart=>exact ⟨0,by omega,rfl,by rw [HZ0.out]⟩
 case round=>
  obtain ⟨k,hk,rfl,rfl⟩:=hrel
  by_cases hlt:k < 3
  ·obtain ⟨xo,xn,xc,xl,hc,hz,hz00,hz12,hx12,hr⟩:=HAt.out k hlt
   clear hr;have HZ:Hid (zz (k+1)=zz k+(xn:Int)):=hz;clear hz;generalize zz k=z0 at *
   go_wp2
   go_round
   case rel=>exact ⟨k+1,hlt,by go_num,by rw [HZ.out]⟩
   case measure=>simp [intOf];omega
  ·obtain rfl:k=3:=by omega
   rw [HZ3.out]
   go_wp2_with (go_at_call 64;refine (hgr _).mono ?_;rintro e w1 ⟨B,cap,rfl,hb1,ho1⟩)
   clear hgr
   go_loopw [6,27] (fun nv i wr=>∃ k:Nat,k <= 3/\i=.int .i64 (k:Int)/\∃ B cap,nv=.slice (some ⟨B,0,none⟩) (ac k).length cap/\Hid (wr.ownsRow w.heap.size 3 1 nv (ac k).length (zAL (ac k)))/\Below w.heap.size w wr) (fun _ i _=>3 - (intOf i).toNat)
   case atStart=>exact ⟨0,by omega,rfl,B,cap,by rw [HA0.out];rfl,by rw [HA0.out];exact ho1,hb1⟩
   case round=>
    obtain ⟨k,hk,rfl,B,cap,rfl,HU,hbel⟩:=hrel
    by_cases hlt:k < 3
    ·obtain ⟨xo,xn,xc,xl,hc,_,_,_,hx12,hxn,hac,hal,hX⟩:=HAt.out k hlt
     have hcr:=(hbel.cell (p:=⟨g,k,none⟩) hg).trans hc;have hown:=HU.out;have HXN:Hid (xn=xl.length):=hxn;have HAC:Hid (ac (k+1)=ac k++xl):=hac;obtain ⟨xo',xc',hxv,hx0,hxat⟩:=hX
     injection hxv with e1 e2 e3
     subst e1 e3;obtain ⟨us,hus⟩:∃ us,us=zAL (ac k):=⟨_,rfl⟩
     have HUS:Hid (us=zAL (ac k)):=hus;obtain ⟨un,hun⟩:∃ un,un=(ac k).length:=⟨_,rfl⟩
     have HUN:Hid (un=(ac k).length):=hun;rw [<- hus,<- hun] at hown;rw [<- hun] at hal ⊢;clear hxn hac hus hun e2 HU
     cases xo with
     | none=>
      obtain ⟨hc0,hl0⟩:=hx0 rfl;have HL0:Hid (xl=[]):=hl0;have hxn0:xn=0:=by rw [HXN.out,HL0.out];rfl
      subst hxn0 hc0;clear hx0 hxat hl0
      go_wp2_with (at_builtin;refine wpList_append_own_none rfl (.tmp 31) (.tmp 32) 37 rfl w.heap.size 3 i0 1 Tryz.underlying37 hi _ _ _ rfl hown rfl ?_)
      go_roundw
      case rel=>exact ⟨k+1,hlt,by go_num,B,cap,by rw [HAC.out,HL0.out,List.append_nil,HUN.out],by show World.ownsRow _ _ _ _ _ _ _;rw [HAC.out,HL0.out,List.append_nil,<- HUN.out,<- HUS.out];exact hown,hbel⟩
      case measure=>simp [intOf];omega
     | some a=>
      have hcells:∀ j u,(zAL xl)[j]? = some u->wr.cell? (a.add j)=some u:=by
       intro j u hj;have hjl:j < xl.length:=by have:=(List.getElem?_eq_some_iff.1 hj).1;simpa [zAL] using this
       obtain ⟨b,off,e,hbl,hat⟩:=hxat (by rintro rfl;simp at hjl)
       obtain rfl:=Option.some.inj e;rw [Go.WideShapes.add_plain,(hb0.trans (hbel.mono hb0.size)).cell (p:=⟨b,off+j,none⟩) hbl,hat j hjl];simp [zAL,hjl] at hj
       simp [List.getD_eq_getElem?_getD,hjl,hj]
      have hvl:(zAL xl).length=xn*1:=by rw [HXN.out];simp [zAL]
      have hv1:=zPo xl;have hbsz:=hbel.size;have hnb:=hown.lt;clear hx0 hxat
      go_wp2_with (at_builtin;refine wpList_append_own _ rfl (.tmp 31) (.tmp 32) 37 rfl w.heap.size 3 i0 (.int .i64 0) 1 8 Tryz.underlying37 hi hz0 hz1 hz2 rfl (by decide) (.slice (some ⟨B,0,none⟩) un cap) un us rfl hown a xn xc (zAL xl) rfl hvl hcells hv1 (by unfold maxLen;omega) (by omega) hbsz ?_;intro v' w4 hown' hgrow hne)
      have hb4:Below w.heap.size w w4:=hbel.grown hgrow hbsz (fun q hq=>(hnb q hq).1)
      obtain ⟨B4,cap4,rfl⟩:∃ B4 cap4,v'=.slice (some ⟨B4,0,none⟩) (un+xn) cap4:=by
       rcases hown'.2 with ⟨h,_⟩ | ⟨g',cap',cur',h,_⟩
       ·exact absurd (hne.1 h).1 (by simp)
       ·exact ⟨_,_,h⟩
      have HLn:Hid (un+xn=(ac (k+1)).length):=by show _=_;rw [HAC.out,List.length_append,<- HUN.out,HXN.out]
      have HU4:Hid (w4.ownsRow w.heap.size 3 1 (.slice (some ⟨B4,0,none⟩) (un+xn) cap4) (ac (k+1)).length (zAL (ac (k+1)))):=by
       show World.ownsRow _ _ _ _ _ _ _
       rw [<- HLn.out,HAC.out,show zAL (ac k++xl)=us++zAL xl by rw [HUS.out];simp [zAL]]
       exact hown'
      clear hown' hgrow hown hcells hne
      go_roundw
      case rel=>exact ⟨k+1,hlt,by go_num,B4,cap4,by rw [HLn.out],HU4,hb4⟩
      case measure=>simp [intOf];omega
    ·obtain rfl:k=3:=by omega
     have HF:Hid (wr.ownsRow w.heap.size 3 1 (.slice (some ⟨B,0,none⟩) tn cap) tn (zAL fl)):=by
      have h1:=HU.out;rw [HA3.out,<- HTn.out] at h1;exact h1
     rw [HA3.out,<- HTn.out];clear HU
     go_wp2
     go_ret
     exact ⟨_,_,rfl,hbel,HF⟩
end Go.Proofs.YtiimhhjkgeepjaaGreatDoor
namespace Go.Proofs.YtiimhhjkgeepjaaGreatDoor
open Go.ChangeShapes Go.WideShapes Go.ChangeAt Go.RowKit Go.Deep Go.Maps
open Terms Tm
set_option maxHeartbeats 6400000
set_option maxRecDepth 20000
def zB1 (w:World) (v:Value) (l:List Int):Prop:=∃ ao cap,v=.slice ao l.length cap/\l.length <= cap/\(ao=none->cap=0/\l=[])/\(l≠[]->∃ b off,ao=some ⟨b,off,none⟩/\b < w.heap.size/\zBp w b off l)
theorem zB1.w {w:World} {v:Value} {l:List Int} (h:zB1 w v l):zHw w v l:=by
 obtain ⟨ao,cap,h1,_,h2,h3⟩:=h;exact ⟨ao,cap,h1,h2,h3⟩
theorem zB1.below {w w':World} {v:Value} {l:List Int} (h:zB1 w v l) (hb:Below w.heap.size w w'):zB1 w' v l:=by
 obtain ⟨ao,cap,h1,hc,h0,h⟩:=h;refine ⟨ao,cap,h1,hc,h0,fun hne=>?_⟩
 obtain ⟨b,off,e,hlt,hat⟩:=h hne;exact ⟨b,off,e,Nat.lt_of_lt_of_le hlt hb.size,fun i hi=>(hb.cell (p:=⟨b,_,none⟩) hlt).trans (hat i hi)⟩
theorem zF2 {w:World} {base:Nat} {v:Value} {l:List Int} (h:w.ownsRow base 3 1 v l.length (zAL l)):zB1 w v l:=by
 rcases h.2 with ⟨rfl,h0⟩ | ⟨g,cap,cur,rfl,hb,hg,hnc,hcm,hcs,htake⟩
 ·have:l=[]:=by simpa using h0
  subst this;exact ⟨none,0,rfl,Nat.le_refl _,fun _=>⟨rfl,rfl⟩,fun h=>absurd rfl h⟩
 ·refine ⟨_,cap,rfl,hnc,fun h=>by simp at h,fun _=>⟨g,0,rfl,(Array.getElem?_eq_some_iff.1 hg).1,fun i hi=>?_⟩⟩
  rw [Nat.zero_add,h.cellAt i (by omega)]
  simp [zAL,List.getD_eq_getElem?_getD,hi]
theorem zQY (va vr sv lv:Value) (m:Mo) (w:World) (hB:0 < w.heap.size) (hT:zAJ w) (hV:zAa w va vr m) (hm:mcode m≠0) :
  Calls Tryz.prog 21 #[.agg #[va,vr],.agg #[sv,lv]] w fun e w'=>e=.returned (.tuple #[.bool false,.int .i64 (mcode m)])/\Below w.heap.size w w':=by
 obtain ⟨W2,hW2⟩:∃ W2,W2=(w.alloc (.cells #[va,vr] 32)).alloc (.cells #[sv,lv] 48):=⟨_,rfl⟩
 have hb2:Below w.heap.size w W2:=by rw [hW2];exact ((Below.refl _ _).alloc (Nat.le_refl _) _).alloc (by simp) _
 have hfi:=zEN va vr m W2 (Nat.lt_of_lt_of_le hB hb2.size) (hT.below hb2 hB) (hV.below hb2);rw [if_neg hm] at hfi;obtain ⟨ao,ac,rfl⟩:=hV.1.shape;obtain ⟨ro,rc,rfl⟩:=hV.2.shape;generalize mcode m=q at *;generalize m.vars.length=vn at *;generalize m.rules.length=rn at *;clear hT hV;rw [hW2] at hfi
 go_enter Tryz.func21,Tryz.ntmps21
 go_wp2_with (go_at_call 6;refine hfi.mono ?_;rintro e w1 ⟨rfl,hb1⟩)
 go_ret2
 rw [<- hW2] at hb1;exact ⟨rfl,hb2.trans (hb1.mono hb2.size)⟩
theorem zRU (va vr sv lv:Value) (m:Mo) (ss ll:List Int) (w:World) (hB:0 < w.heap.size) (hT:zAJ w) (hV:zAa w va vr m) (hm:mcode m=0) (hS:zB1 w sv ss) (hL:zB1 w lv ll) (hz:ss.length+ll.length <= 1099511627775) :
  Calls Tryz.prog 21 #[.agg #[va,vr],.agg #[sv,lv]] w fun e w'=>e=.returned (.tuple #[.bool (zCa m ss ll),.int .i64 0])/\Below w.heap.size w w':=by
 obtain ⟨W2,hW2⟩:∃ W2,W2=(w.alloc (.cells #[va,vr] 32)).alloc (.cells #[sv,lv] 48):=⟨_,rfl⟩
 have hb2:Below w.heap.size w W2:=by rw [hW2];exact ((Below.refl _ _).alloc (Nat.le_refl _) _).alloc (by simp) _
 have hz2:W2.heap.size=w.heap.size+2:=by rw [hW2];simp
 have hfi:=zEN va vr m W2 (Nat.lt_of_lt_of_le hB hb2.size) (hT.below hb2 hB) (hV.below hb2);rw [if_pos hm,hm] at hfi
 have HBx:Hid (∀ w1,Below W2.heap.size W2 w1->Below w.heap.size w w1/\w.heap.size+2 <= w1.heap.size/\w1.cell? ⟨w.heap.size,0,none⟩=some va/\w1.cell? ⟨w.heap.size,1,none⟩=some vr/\w1.cell? ⟨w.heap.size+1,0,none⟩=some sv/\w1.cell? ⟨w.heap.size+1,1,none⟩=some lv):=fun w1 h=>by
  have hl:w.heap.size < W2.heap.size:=by omega
  have hl1:w.heap.size+1 < W2.heap.size:=by omega
  refine ⟨hb2.trans (h.mono hb2.size),by have:=h.size;omega,(h.cell (p:=⟨w.heap.size,0,none⟩) hl).trans ?_,(h.cell (p:=⟨w.heap.size,1,none⟩) hl).trans ?_,(h.cell (p:=⟨w.heap.size+1,0,none⟩) hl1).trans ?_,(h.cell (p:=⟨w.heap.size+1,1,none⟩) hl1).trans ?_⟩ <;> (rw [hW2];simp [go_sem])
 by_cases hl0:ll=[]
 ·subst hl0
  rw [zI6];obtain ⟨lo,lc,rfl,_⟩:=hL;obtain ⟨ao,ac,rfl⟩:=hV.1.shape;obtain ⟨ro,rc,rfl⟩:=hV.2.shape;generalize zBF m.vars (zA7 m.vars) m.vars.length=fc at *;generalize m.vars.length=vn at *;generalize m.rules.length=rn at *;clear hT hV hS hm;rw [hW2] at hfi
  go_enter Tryz.func21,Tryz.ntmps21
  go_wp2_with (go_at_call 6;refine hfi.mono ?_;rintro e w1 ⟨rfl,hb1⟩;rw [<- hW2] at hb1;obtain ⟨hbw,_,_,_,k2,k3⟩:=HBx.out w1 hb1)
  go_ret2
  exact ⟨rfl,hbw⟩
 ·have hlp:0 < ll.length:=List.length_pos_iff.2 hl0
  have HCon:Hid (∀ (g:Nat) (w1:World) (lo:Option Addr) (lc:Nat),lv=.slice lo ll.length lc->Below w.heap.size w w1->w1.cell? ⟨g,0,none⟩=some sv->w1.cell? ⟨g,1,none⟩=some lv->w1.cell? ⟨g,2,none⟩=some (.slice lo 1 lc)->Calls Tryz.prog 38 #[.slice (some ⟨g,0,none⟩) 3 3] w1 fun e w'=>∃ B cap,e=.returned (.slice (some ⟨B,0,none⟩) (rvd ss ll).length cap)/\Below w1.heap.size w1 w'/\Hid (B < w'.heap.size/\(rvd ss ll).length <= cap/\zBp w' B 0 (rvd ss ll))):=fun g w1 lo lc hlv hb c0 c1 c2=>by
   have h:=zLH g [ss,ll,[ll.getD 0 0]] w w1 hb rfl (by rw [zHZ,zDt];omega) (by rw [zHZ,zDt];omega) (fun k hk=>by
    have hk3:k=0\/k=1\/k=2:=by omega
    rcases hk3 with rfl | rfl | rfl
    ·exact ⟨sv,c0,hS.w⟩
    ·exact ⟨lv,c1,hL.w⟩
    ·refine ⟨_,c2,lo,lc,rfl,fun h=>?_,fun _=>?_⟩
     ·obtain ⟨_,_,e,_,hx,_⟩:=hL
      rw [hlv] at e
      injection e with e1 _ _
      subst e1;exact absurd (hx h).2 hl0
     ·obtain ⟨_,_,e,_,_,hx⟩:=hL
      rw [hlv] at e
      injection e with e1 _ _
      subst e1;obtain ⟨b,off,e,hlt,hat⟩:=hx hl0;refine ⟨b,off,e,hlt,fun i hi=>?_⟩
      have hi0:i=0:=by simp at hi;omega
      subst hi0
      exact hat 0 hlp)
   rw [zHZ] at h;refine h.mono fun e w' ⟨B,cap,e1,e2,e3⟩=>⟨B,cap,e1,e2,?_⟩
   obtain ⟨ao,cap',e4,e5,_,e6⟩:=zF2 e3.out
   injection e4 with e7 _ e8
   subst e7 e8;obtain ⟨b,off,e9,e10,e11⟩:=e6 (by simp [rvd])
   injection e9 with e9
   injection e9 with e12 e13
   subst e12 e13;exact ⟨e10,e5,e11⟩
  have HLd:Hid (∀ (B cap:Nat) (w1:World),Below w.heap.size w w1->(B < w1.heap.size/\(rvd ss ll).length <= cap/\zBp w1 B 0 (rvd ss ll))->(rvd ss ll).getD 0 0=zCD m->Calls Tryz.prog 39 #[.agg #[va,vr],.slice (some ⟨B,0,none⟩) (rvd ss ll).length cap] w1 fun e w'=>e=.returned (.bool (zCa m ss ll))/\Below w1.heap.size w1 w'):=fun B cap w1 hb h hf=>by
   rw [zJL hm hl0 hf];exact zLJ va vr m B 0 cap (rvd ss ll) w1 (Nat.lt_of_lt_of_le hB hb.size) (hT.below hb hB) (hV.below hb) hm (by rw [zDt];omega) (by rw [zDt];omega) h.2.1 h.1 h.2.2 (by rw [hf];exact zDg hm)
  have HNo:Hid ((rvd ss ll).getD 0 0≠zCD m->zCa m ss ll=false):=fun h=>zMr h
  have hrp:0 < (rvd ss ll).length:=by rw [zDt];omega
  have hfe:zBF m.vars (zA7 m.vars) m.vars.length=zCD m:=rfl;rw [hfe] at hfi;generalize zCD m=fc at *;generalize zCa m ss ll=res at *;generalize rvd ss ll=rd at *;obtain ⟨lo,lc,rfl,hlc,_⟩:=id hL;obtain ⟨so,sc,rfl,_⟩:=id hS;obtain ⟨ao,ac,rfl⟩:=hV.1.shape;obtain ⟨ro,rc,rfl⟩:=hV.2.shape;have HC1:=fun g w1=>HCon.out g w1 lo lc rfl
  have HCon:Hid _:=HC1;clear HC1;obtain ⟨rn2,hrn2⟩:∃ x,x=rd.length:=⟨_,rfl⟩
  have HRn:Hid (rn2=rd.length):=hrn2;rw [<- hrn2] at hrp HCon HLd;generalize m.vars.length=vn at *;generalize m.rules.length=rn at *;generalize ll.length=ln at *;generalize ss.length=sn at *;have hlc1:1 <= lc:=by omega
  clear hT hV hS hL hm hl0 hfe hrn2 hz;rw [hW2] at hfi
  go_enter Tryz.func21,Tryz.ntmps21
  go_wp2_with (go_at_call 6;refine hfi.mono ?_;rintro e w1 ⟨rfl,hb1⟩;rw [<- hW2] at hb1;obtain ⟨hbw,hsz,k0,k1,k2,k3⟩:=HBx.out w1 hb1)
  have hcx:=HCon.out w1.heap.size (w1.drew.alloc (.cells #[.slice so sn sc,.slice lo ln lc,.slice lo 1 lc] 37)) (hbw.drew.alloc hbw.size _) (by simp [go_sem]) (by simp [go_sem]) (by simp [go_sem])
  have HSC:Hid (∀ w',Below w1.heap.size w1 w'->w'.cell? ⟨w.heap.size+1,0,none⟩=some (.slice so sn sc)/\w'.cell? ⟨w.heap.size+1,1,none⟩=some (.slice lo ln lc)):=fun w' h=>by
   have hl:w.heap.size+1 < w1.heap.size:=by omega
   exact ⟨(h.cell (p:=⟨w.heap.size+1,0,none⟩) hl).trans k2,(h.cell (p:=⟨w.heap.size+1,1,none⟩) hl).trans k3⟩
  have hB0:Below w1.heap.size w1 w1:=Below.refl _ _
  have HM:Hid (∀ w',Below w1.heap.size w1 w'->Below w.heap.size w w'/\w'.cell? ⟨w.heap.size,0,none⟩=some (.slice ao vn ac)/\w'.cell? ⟨w.heap.size,1,none⟩=some (.slice ro rn rc)):=fun w' h=>by
   have hl:w.heap.size < w1.heap.size:=by omega
   exact ⟨hbw.trans (h.mono hbw.size),(h.cell (p:=⟨w.heap.size,0,none⟩) hl).trans k0,(h.cell (p:=⟨w.heap.size,1,none⟩) hl).trans k1⟩
  have hlc2:(1:Int) <= (lc:Int):=by omega
  clear hfi hb1
  go_region_held3 (fun w'=>w'.cell? ⟨w.heap.size+1,0,none⟩=some (.slice so sn sc)/\w'.cell? ⟨w.heap.size+1,1,none⟩=some (.slice lo ln lc))
   (first | exact HSC.out _ hb12 | exact HSC.out _ (hB0.drew.alloc hB0.drew.size _) | exact HSC.out _ hB0.drew | exact HSC.out _ hB0)
   (first
    | (go_at_call 38;refine hcx.mono ?_;rintro e w3 ⟨B,cap,rfl,hb3,HR⟩;have hb12:Below w1.heap.size w1 w3:=(hB0.drew.alloc hB0.drew.size _).trans (hb3.mono (by simp))))
  obtain ⟨hbw3,m0,m1⟩:=HM.out w3 hb12;have hR:=HR.out;have HLd3:=HLd.out B cap w3 hbw3 hR;have cz:=hR.2.2 0 (by rw [<- HRn.out];exact hrp)
  rw [Nat.zero_add] at cz;clear hR HR
  by_cases hf:rd.getD 0 0=fc
  ·have hld:=HLd3 hf
   rw [hf] at cz;clear HLd3 hf HNo
   go_wp2_with (go_at_call 39;refine hld.mono ?_;rintro e w4 ⟨rfl,hb4⟩)
   go_ret2
   exact ⟨rfl,hbw3.trans (hb4.mono hbw3.size)⟩
  ·have HNf:Hid (res=false):=HNo.out hf
   generalize rd.getD 0 0=y at *;clear HLd3
   go_wp2_with fail
   go_ret2
   exact ⟨by rw [HNf.out];first | rfl | simp [hf],hbw3⟩
theorem zKY (va vr sv lv:Value) (m:Mo) (ss ll:List Int) (w:World) (hB:0 < w.heap.size) (hT:zAJ w) (hV:zAa w va vr m) (hS:zB1 w sv ss) (hL:zB1 w lv ll) (hz:ss.length+ll.length <= 1099511627775) :
  Calls Tryz.prog 21 #[.agg #[va,vr],.agg #[sv,lv]] w fun e w'=>e=.returned (.tuple #[.bool (zCa m ss ll),.int .i64 (mcode m)])/\Below w.heap.size w w':=by
 by_cases hm:mcode m=0
 ·have h:=zRU va vr sv lv m ss ll w hB hT hV hm hS hL hz
  rw [hm];exact h
 ·rw [zQJ hm]
  exact zQY va vr sv lv m w hB hT hV hm
end Go.Proofs.YtiimhhjkgeepjaaGreatDoor
namespace Go.Proofs.YtiimhhjkgeepjaaGreatDoor
open Go.ChangeShapes Go.WideShapes Go.ChangeAt Go.RowKit Go.Deep
open Terms
set_option maxHeartbeats 6400000
set_option maxRecDepth 20000
theorem zOX {ts:List (List (Int × Int))} {i:Nat} (hi:i < ts.length):(ts.take (i+1)).flatten=(ts.take i).flatten++ts.getD i []:=by
 rw [List.take_succ_eq_append_getElem hi,List.flatten_append];simp [List.getD_eq_getElem?_getD,hi]
theorem zIB (kind:Int) (v:Value) (ts:List (List (Int × Int))) (w:World) (hn:ts.length <= 10) (hl:∀ i,i <= ts.length->(ts.take i).flatten.length <= 200) (hne:∀ i,i < ts.length->ts.getD i []≠[]) (hV:zBP w v ts) :
  Calls Tryz.prog 19 #[.int .i64 kind,v] w fun e w'=>∃ v',e=.returned v'/\Below w.heap.size w w'/\w'.ownsRow w.heap.size 69 2 v' ((kind,0):: ts.flatten).length (zAm ((kind,0):: ts.flatten)):=by
 obtain ⟨i0,hi,hz0,hz1,hz2⟩:=info_parts zOM;obtain ⟨va,vc,rfl,hat⟩:=hV;obtain ⟨n,hnn⟩:∃ n,n=ts.length:=⟨_,rfl⟩
 have HN:Hid (n=ts.length):=hnn;have HL:=(show Hid _ from hl)
 have HNE:=(show Hid _ from hne)
 have HA:=(show Hid _ from hat)
 rw [<- hnn] at hn ⊢;clear hl hne hat hnn
 go_enter Tryz.func19,Tryz.ntmps19
 go_wp2_with fail
 go_loopw [5,6] (fun out c wr=>∃ i:Nat,i <= n/\c=.int .i64 i/\wr.ownsRow w.heap.size 69 2 out ((ts.take i).flatten.length+1) (zAm ((kind,0):: (ts.take i).flatten))/\Below w.heap.size w wr) (fun _ c _=>n - (intOf c).toNat)
 case atStart=>exact ⟨0,Nat.zero_le _,rfl,World.ownsRow_lit w #[.int .i64 kind,.int .i64 0] 1 (Nat.le_refl _) (by unfold maxLen;omega) rfl,(Below.refl _ _).alloc (Nat.le_refl _) _⟩
 case round=>
  obtain ⟨i,hile,rfl,hown,hbel⟩:=hrel
  by_cases hlt:i < n
  ·have hlt':i < ts.length:=by rw [<- HN.out];exact hlt
   obtain ⟨b,off,rfl,hbl,hcs⟩:=HA.out (by intro h;rw [h] at hlt';simp at hlt')
   obtain ⟨u,hu,hou⟩:=hcs i hlt';have hcu:=(hbel.cell (p:=⟨b,off+i,none⟩) hbl).trans hu;obtain ⟨ua,uc,hus,_,huat⟩:=hou.below hbel;obtain ⟨ub,uoff,rfl,hubl,huat⟩:=huat (HNE.out i hlt');have HS:Hid ((ts.take (i+1)).flatten=(ts.take i).flatten++ts.getD i []):=zOX hlt';have hl1:=HL.out (i+1) (by omega)
   rw [HS.out,List.length_append] at hl1;have HC:Hid (∀ j x,(zAm (ts.getD i []))[j]? = some x->wr.cell? ((⟨ub,uoff,none⟩:Addr).add j)=some x):=huat.cells
   obtain ⟨m,hm⟩:∃ m,m=(ts.getD i []).length:=⟨_,rfl⟩
   have HM:Hid (m=(ts.getD i []).length):=hm;rw [<- hm] at hus hl1;subst hus;obtain ⟨q,hq⟩:∃ q,q=(ts.take i).flatten.length:=⟨_,rfl⟩
   have HQ:Hid (q=(ts.take i).flatten.length):=hq;rw [<- hq] at hown hl1;clear hou hu hcs huat hm hq hlt';generalize ts.getD i []=tt at HC HM HS
   go_wp2_with (at_builtin;refine wpList_append_own _ rfl (.tmp 16) (.tmp 20) 27 rfl w.heap.size 69 i0 (.agg #[.int .i64 0,.int .i64 0]) 2 16 Tryz.underlying27 hi hz0 hz1 hz2 rfl (by decide) _ _ _ rfl hown ⟨ub,uoff,none⟩ m uc (zAm tt) rfl ?c0 HC.out (zQ5 _) ?c3 ?c4 ?c5 ?_)
   case c0=>rw [zG6,HM.out]
   case c3=>unfold maxLen;omega
   case c4=>omega
   case c5=>exact hbel.size
   intro v' w4 hown' hgrow _;have hb4:Below w.heap.size w w4:=hbel.grown hgrow hbel.size (fun k hk=>(hown.lt k hk).1)
   have ho4:w4.ownsRow w.heap.size 69 2 v' ((ts.take (i+1)).flatten.length+1) (zAm ((kind,0):: (ts.take (i+1)).flatten)):=by
    have e1:(ts.take (i+1)).flatten.length+1=q+1+m:=by rw [HS.out,List.length_append,<- HQ.out,<- HM.out];omega
    have e2:zAm ((kind,0):: (ts.take (i+1)).flatten)=zAm ((kind,0):: (ts.take i).flatten)++zAm tt:=by rw [HS.out,<- zEz];rfl
    rw [e1,e2];exact hown'
   clear hown' hgrow hown
   go_wp2
   go_roundw
   case rel=>exact ⟨i+1,by omega,by go_num,ho4,hb4⟩
   case measure=>simp [intOf];omega
  ·have hin:i=n:=by omega
   subst hin;rw [show ts.take i=ts by rw [HN.out,List.take_length]] at hown
   clear hlt hile
   go_wp2_with fail
   go_ret
   exact ⟨_,rfl,hbel,hown⟩
theorem zSJ (kind:Int) (g:Nat) (lv:Value) (l:List (Int × Int)) (w:World) (hc:w.cell? ⟨g,0,none⟩=some lv) (hl:l.length <= 60) (hne:l≠[]) (hV:zAR w lv l) :
  Calls Tryz.prog 19 #[.int .i64 kind,.slice (some ⟨g,0,none⟩) 1 1] w fun e w'=>∃ a c,e=.returned (.slice a ((kind,0):: l).length c)/\Below w.heap.size w w'/\zAR w' (.slice a ((kind,0):: l).length c) ((kind,0):: l):=by
 have hT:zBP w (.slice (some ⟨g,0,none⟩) 1 1) [l]:=⟨_,1,rfl,fun _=>⟨g,0,rfl,World.block_lt_of_cell? w ⟨g,0,none⟩ hc,fun i hi=>by
  obtain rfl:i=0:=by simp at hi;exact hi
  exact ⟨lv,hc,hV⟩⟩⟩
 refine (zIB kind _ [l] w (by simp) (fun i hi=>?_) (fun i hi=>?_) hT).mono fun e w' ⟨v',he,hb,ho⟩=>?_
 ·have:i=0\/i=1:=by simp at hi;omega
  rcases this with rfl | rfl <;> simp <;> omega
 ·obtain rfl:i=0:=by simp at hi;exact hi
  exact hne
 ·have h2:[l].flatten=l:=by simp
  rw [h2] at ho;obtain ⟨a,c,rfl⟩:=zAU ho;exact ⟨a,c,he,hb,zCy ho⟩
theorem zIX (kind:Int) (g:Nat) (lv mv:Value) (l m:List (Int × Int)) (w:World) (hc:w.cell? ⟨g,0,none⟩=some lv) (hd:w.cell? ⟨g,1,none⟩=some mv) (hl:l.length <= 60) (hm:m.length <= 60) (hne:l≠[]) (hne2:m≠[]) (hV:zAR w lv l) (hM:zAR w mv m) :
  Calls Tryz.prog 19 #[.int .i64 kind,.slice (some ⟨g,0,none⟩) 2 2] w fun e w'=>∃ a c,e=.returned (.slice a ((kind,0):: (l++m)).length c)/\Below w.heap.size w w'/\zAR w' (.slice a ((kind,0):: (l++m)).length c) ((kind,0):: (l++m)):=by
 have hT:zBP w (.slice (some ⟨g,0,none⟩) 2 2) [l,m]:=⟨_,2,rfl,fun _=>⟨g,0,rfl,World.block_lt_of_cell? w ⟨g,0,none⟩ hc,fun i hi=>by
  have:i=0\/i=1:=by simp at hi;omega
  rcases this with rfl | rfl
  ·exact ⟨lv,hc,hV⟩
  ·exact ⟨mv,hd,hM⟩⟩⟩
 refine (zIB kind _ [l,m] w (by simp) (fun i hi=>?_) (fun i hi=>?_) hT).mono fun e w' ⟨v',he,hb,ho⟩=>?_
 ·have:i=0\/i=1\/i=2:=by simp at hi;omega
  rcases this with rfl | rfl | rfl <;> simp <;> omega
 ·have:i=0\/i=1:=by simp at hi;omega
  rcases this with rfl | rfl
  ·exact hne
  ·exact hne2
 ·have h2:[l,m].flatten=l++m:=by simp
  rw [h2] at ho;obtain ⟨a,c,rfl⟩:=zAU ho;exact ⟨a,c,he,hb,zCy ho⟩
end Go.Proofs.YtiimhhjkgeepjaaGreatDoor
namespace Go.Proofs.YtiimhhjkgeepjaaGreatDoor
open Go.ChangeShapes Go.WideShapes Go.ChangeAt Go.RowKit Go.Deep
open Terms Tm
set_option maxHeartbeats 6400000
set_option maxRecDepth 20000
def tp0:Tm:=.bi 7 0 (.leaf 2 0) (.leaf 1 1)
def tp1:Tm:=.bi 7 0 (.leaf 2 0) (.leaf 2 1)
def tp2:Tm:=.bi 6 0 (.leaf 2 0) (.leaf 2 1)
def zBG:List (List (Int × Int)):=[[(7,0),(2,0),(1,1)],[(7,0),(2,0),(2,1)],[(6,0),(2,0),(2,1)]]
theorem zQZ:tp0.Good 2:=⟨by decide,by decide,rfl,.inr (.inl ⟨rfl,by decide,by decide⟩),.inl ⟨rfl,by decide,by decide⟩⟩
theorem zQn:tp1.Good 2:=⟨by decide,by decide,rfl,.inr (.inl ⟨rfl,by decide,by decide⟩),.inr (.inl ⟨rfl,by decide,by decide⟩)⟩
theorem zQ7:tp2.Good 2:=⟨by decide,by decide,rfl,.inr (.inl ⟨rfl,by decide,by decide⟩),.inr (.inl ⟨rfl,by decide,by decide⟩)⟩
theorem zGe {T:Tm} (hg:T.Good 2) (h60:T.size <= 60) (ht:T.typed=true) (hk:mkT T.kind=true):kcode 2 T.ops true=0:=by
 rw [zEM (by decide) (by decide) hg h60 ht,if_pos hk]
theorem zNA {m:Mo} (hm:mcode m=0) (hv:m.vars.length=2):zCQ m zBG=0:=by
 unfold zCQ;rw [if_pos hm,if_neg (by decide)]
 refine zBQ fun j hj=>?_
 rw [hv];have:j=0\/j=1\/j=2:=by simp [zBG] at hj;omega
 rcases this with rfl | rfl | rfl
 ·exact zGe zQZ (by decide) (by decide) (by decide)
 ·exact zGe zQn (by decide) (by decide) (by decide)
 ·exact zGe zQ7 (by decide) (by decide) (by decide)
section
variable {a b : Vr} {w : World} {va vr pv : Value}
end
theorem zIn (w:World) (k v:Int):zAR (w.alloc (.cells #[.int .i64 k,.int .i64 v] 69)) (.slice (some ⟨w.heap.size,0,none⟩) 1 1) [(k,v)]:=by
 refine ⟨_,1,rfl,⟨Nat.le_refl _,fun h=>by cases h⟩,fun _=>⟨w.heap.size,0,rfl,by simp,fun i hi=>?_⟩⟩
 obtain rfl:i=0:=by simpa using hi
 constructor <;> simp [go_sem]
theorem zAR.al {w:World} {v:Value} {l:List (Int × Int)} (h:zAR w v l) (o:Obj):zAR (w.alloc o) v l:=h.below ((Below.refl _ _).alloc (Nat.le_refl _) o)
theorem zLd (w:World) :
  Calls Tryz.prog 42 #[] w fun e w'=>∃ pb,e=.returned (.slice (some ⟨pb,0,none⟩) 3 3)/\Below w.heap.size w w'/\zBP w' (.slice (some ⟨pb,0,none⟩) 3 3) zBG:=by
 have tk1:=True.intro;have tk2:=True.intro;have tk3:=True.intro;have hA:∀ o1 o2 o3 o4,Below w.heap.size w ((((w.alloc o1).alloc o2).alloc o3).alloc o4):=fun o1 o2 o3 o4=>((((Below.refl _ _).alloc (Nat.le_refl _) _).alloc (by simp) _).alloc (by simp;omega) _).alloc (by simp;omega) _
 have hX:∀ o2 o3 o4,zAR ((((w.alloc (.cells #[.int .i64 2,.int .i64 0] 69)).alloc o2).alloc o3).alloc o4) (.slice (some ⟨w.heap.size,0,none⟩) 1 1) [(2,0)]:=fun o2 o3 o4=>(((zIn w 2 0).al o2).al o3).al o4
 have hY:∀ o1 o3 o4,zAR ((((w.alloc o1).alloc (.cells #[.int .i64 2,.int .i64 1] 69)).alloc o3).alloc o4) (.slice (some ⟨w.heap.size+1,0,none⟩) 1 1) [(2,1)]:=fun o1 o3 o4=>by
  have:=((zIn (w.alloc o1) 2 1).al o3).al o4;rw [World.size_alloc] at this;exact this
 have hN:∀ o1 o2 o4,zAR ((((w.alloc o1).alloc o2).alloc (.cells #[.int .i64 1,.int .i64 1] 69)).alloc o4) (.slice (some ⟨w.heap.size+1+1,0,none⟩) 1 1) [(1,1)]:=fun o1 o2 o4=>by
  have:=(zIn ((w.alloc o1).alloc o2) 1 1).al o4;rw [World.size_alloc,World.size_alloc] at this;exact this
 go_enter Tryz.func42,Tryz.ntmps42
 go_wp2_with (first | (clear tk1;go_at_call 19;refine (zIX 7 _ (.slice (some ⟨w.heap.size,0,none⟩) 1 1) (.slice (some ⟨w.heap.size+1+1,0,none⟩) 1 1) [(2,0)] [(1,1)] _ (by simp [go_sem]) (by simp [go_sem]) (by simp) (by simp) (by simp) (by simp) (hX _ _ _) (hN _ _ _)).mono ?_;rintro e w5 ⟨a1,c1,rfl,hb5,hp1⟩;have hx5:=(hX _ _ _).below hb5;have hy5:=(hY _ _ _).below hb5;have hbw5:=(hA _ _ _ _).trans (hb5.mono (hA _ _ _ _).size)) | (clear tk2;go_at_call 19;refine (zIX 7 _ (.slice (some ⟨w.heap.size,0,none⟩) 1 1) (.slice (some ⟨w.heap.size+1,0,none⟩) 1 1) [(2,0)] [(2,1)] _ (by simp [go_sem]) (by simp [go_sem]) (by simp) (by simp) (by simp) (by simp) (hx5.al _) (hy5.al _)).mono ?_;rintro e w6 ⟨a2,c2,rfl,hb6,hp2⟩;have hx6:=(hx5.al _).below hb6;have hy6:=(hy5.al _).below hb6;have hq6:=(hp1.al _).below hb6) | (clear tk3;go_at_call 19;refine (zIX 6 _ (.slice (some ⟨w.heap.size,0,none⟩) 1 1) (.slice (some ⟨w.heap.size+1,0,none⟩) 1 1) [(2,0)] [(2,1)] _ (by simp [go_sem]) (by simp [go_sem]) (by simp) (by simp) (by simp) (by simp) (hx6.al _) (hy6.al _)).mono ?_;rintro e w7 ⟨a3,c3,rfl,hb7,hp3⟩;have hq7:=(hq6.al _).below hb7;have hr7:=(hp2.al _).below hb7))
 go_ret
 have h6:Below w.heap.size w w6:=(hbw5.alloc hbw5.size _).trans (hb6.mono (hbw5.alloc hbw5.size _).size);have h7:Below w.heap.size w w7:=(h6.alloc h6.size _).trans (hb7.mono (h6.alloc h6.size _).size);refine ⟨w7.heap.size,rfl,h7.alloc h7.size _,_,3,rfl,fun _=>⟨w7.heap.size,0,rfl,by simp,fun i hi=>?_⟩⟩
 have:i=0\/i=1\/i=2:=by simp [zBG] at hi;omega
 rcases this with rfl | rfl | rfl
 ·exact ⟨_,by simp [go_sem],hq7.al _⟩
 ·exact ⟨_,by simp [go_sem],hr7.al _⟩
 ·exact ⟨_,by simp [go_sem],hp3.al _⟩
end Go.Proofs.YtiimhhjkgeepjaaGreatDoor
namespace Go.Proofs.YtiimhhjkgeepjaaGreatDoor
open Go.ChangeShapes Go.WideShapes Go.ChangeAt Go.RowKit Go.Deep
open Terms
set_option maxHeartbeats 6400000
set_option maxRecDepth 20000
end Go.Proofs.YtiimhhjkgeepjaaGreatDoor
namespace Go.Proofs.YtiimhhjkgeepjaaGreatDoor
open Go.ChangeShapes Go.WideShapes Go.ChangeAt Go.RowKit Go.Deep Go.Joins
open Terms
set_option maxHeartbeats 6400000
set_option maxRecDepth 20000
section
variable {H : Type} {enc : TypeId × Value -> H} {W : World}
end
end Go.Proofs.YtiimhhjkgeepjaaGreatDoor
namespace Go.Proofs.YtiimhhjkgeepjaaGreatDoor
open Go.ChangeShapes Go.WideShapes Go.ChangeAt Go.RowKit Go.Deep
open Terms
set_option maxHeartbeats 6400000
set_option maxRecDepth 20000
end Go.Proofs.YtiimhhjkgeepjaaGreatDoor
namespace Go.Proofs.YtiimhhjkgeepjaaGreatDoor
open Go.ChangeShapes Go.WideShapes Go.ChangeAt Go.RowKit Go.Deep Go.Joins
open Terms
set_option maxHeartbeats 6400000
set_option maxRecDepth 20000
theorem Raws.up {w w':World} {v:Value} {rs:List (Int × Int)} (h:Raws w w.heap.size v rs) (hb:Below w.heap.size w w'):Raws w' w'.heap.size v rs:=by
 obtain ⟨⟨ao,cap,hv,h1⟩,h2,h3⟩:=h;refine ⟨⟨ao,cap,hv,fun hne=>?_⟩,h2,h3⟩
 obtain ⟨b,off,ha,hlt,hat⟩:=h1 hne;exact ⟨b,off,ha,Nat.lt_of_lt_of_le hlt hb.size,hat.below hb hlt⟩
section
variable {H : Type} {enc : TypeId × Value -> H} {W : World}
end
