import Derived.Test.YtehfhemidmfffaaGreatDoorGrownModel
open Go renaming World→X,Value→Y
open Go.RowKit renaming Below→V
open _root_.Bool renaming false→U
open _root_.Option renaming none→Z,some→W
namespace Go.Proofs.YtehfhemidmfffaaGreatDoor
open Go.RowKit.Below renaming refl→qD
open _root_.Nat renaming le_refl→qB,lt_of_lt_of_le→qE
open Go.ChangeShapes Go.WideShapes Go.ChangeAt Go.RowKit Go.Deep
open Terms Tm
open World renaming cell?_setCell_other→bM,cell?_setCell_same→bO,frozen?_setCell→bL
open Go.Addr renaming mk→T
set_option maxHeartbeats 6400000
set_option maxRecDepth 20000
theorem RF{g t:am}{v:Int}(hg:TruT 2 3 g)(hgl:g.length<=26)(h0:0<=v)(h1:v<2)(ht:NumT 2 2 t)(htl:t.length<=7):BH 2 ⟨g,[⟨v,t⟩]⟩=0:=by
 unfold BH;rw[ak (by simp),aj (hg.kcode (by decide) (by decide) (by omega))];refine Da fun j hj=>?_;have hj0:j=0:=by simp at hj;omega
 subst hj0;show(if v<0\/2<=v then(2:Int)else if CN [⟨v,t⟩] 0 v=true then 7 else kcode 2 t U)=0;rw[ak (by omega),ak (by simp[CN]),ht.kcode (by decide) (by decide) (by omega)]
theorem RG{g t:am}{v:Int}(hg:TruT 2 3 g)(hgl:g.length<=26)(h0:0<=v)(h1:v<2)(ht:NumT 2 2 t)(htl:t.length<=7):BH 2 ⟨g,[⟨v,t⟩,⟨1-v,[(2,v)]⟩]⟩=0:=by
 unfold BH;rw[ak (by simp),aj (hg.kcode (by decide) (by decide) (by omega))];refine Da fun j hj=>?_;have hj0:j=0\/j=1:=by simp at hj;omega
 rcases hj0 with rfl|rfl
 .show (if v<0\/2<=v then(2:Int)else if CN [⟨v,t⟩,⟨1-v,[(2,v)]⟩] 0 v=true then 7 else kcode 2 t U)=0;rw[ak (by omega),ak (by simp[CN]),ht.kcode (by decide) (by decide) (by omega)]
 .show (if 1-v<0\/2<=1-v then(2:Int)else if CN [⟨v,t⟩,⟨1-v,[(2,v)]⟩] 1 (1-v)=true then 7 else kcode 2 [(2,v)] U)=0;rw[ak (by omega),ak (by simp[CN];omega),Wk h0 (by omega) (by decide)]
def CU(w2 wr:X)(gv vS:Y)(l:List St):Prop:=
 wr.cell? (T w2.heap.size 0 Z)=W gv/\wr.cell? (T w2.heap.size 1 Z)=W vS/\wr.frozen? (T w2.heap.size 1 Z)=U/\A8 wr (w2.heap.size+1) vS l/\V w2.heap.size w2 wr/\w2.heap.size<wr.heap.size
theorem CU.new(w2:X)(gv:Y)(t:TypeId):CU w2 (w2.alloc (.cells #[gv,.slice Z 0 0] t)) gv (.slice Z 0 0) []:=
 ⟨by simp[go_sem],by simp[go_sem],by simp[go_sem],A8.nil _ _,ai,by simp⟩
theorem CU.at3{w2 wr W3:X}{gv vS:Y}{l:List St}(h:CU w2 wr gv vS l)(hb:V wr.heap.size wr W3) :
  W3.cell? (T w2.heap.size 0 Z)=W gv/\W3.cell? (T w2.heap.size 1 Z)=W vS/\W3.frozen? (T w2.heap.size 1 Z)=U/\w2.heap.size<W3.heap.size:=by
 obtain⟨h0,h1,h2,_,_,h5⟩:=h;exact⟨(hb.cell (p:=(T w2.heap.size 0 Z)) h5).trans h0,(hb.cell (p:=(T w2.heap.size 1 Z)) h5).trans h1,(hb.frozen (p:=(T w2.heap.size 1 Z)) h5).trans h2,qE h5 hb.size⟩
theorem CU.at4{w2 wr W3 w4:X}{o3:Obj}{gv vS:Y}{l:List St}{us:List Y}{n:Nat}(h:CU w2 wr gv vS l)(hus:wr.ownsRow (w2.heap.size+1) 98 2 vS n us)(hb:V wr.heap.size wr W3)(hg4:(W3.alloc o3).grownBy w4 vS.ownBlock) :
  w4.cell? (T w2.heap.size 0 Z)=W gv/\w4.cell? (T w2.heap.size 1 Z)=W vS/\w4.frozen? (T w2.heap.size 1 Z)=U/\w2.heap.size<w4.heap.size:=by
 obtain⟨h0,h1,h2,h3⟩:=h.at3 hb;have hA:V W3.heap.size W3 (W3.alloc o3):=(qD _ _).alloc (qB _) o3;have hne:W w2.heap.size≠vS.ownBlock:=fun he=>by have:=(hus.lt _ he.symm).1;omega
 have hlt:w2.heap.size<(W3.alloc o3).heap.size:=qE h3 hA.size;exact⟨(hg4.cell_far ⟨w2.heap.size,0,Z⟩ hlt hne).trans ((hA.cell (p:=(T w2.heap.size 0 Z)) h3).trans h0),(hg4.cell_far ⟨w2.heap.size,1,Z⟩ hlt hne).trans ((hA.cell (p:=(T w2.heap.size 1 Z)) h3).trans h1),(hg4.frozen_far ⟨w2.heap.size,1,Z⟩ hlt hne).trans ((hA.frozen (p:=(T w2.heap.size 1 Z)) h3).trans h2),qE hlt hg4.size⟩
theorem CU.step{w2 wr W3 w4:X}{o3:Obj}{gv vS v3:Y}{l:List St}{x:St}{us:List Y}{v':Y}(h:CU w2 wr gv vS l)(hus:wr.ownsRow (w2.heap.size+1) 98 2 vS l.length us)
  (hts:∀j,j<l.length->us.getD (j*2) .nilIface=.int .i64 (l.getD j st0).var/\wr.ownsRow (w2.heap.size+1) 100 2 (us.getD (j*2+1) .nilIface) (l.getD j st0).val.length (flat (l.getD j st0).val))
  (hb:V wr.heap.size wr W3) (ho3:W3.ownsRow (w2.heap.size+1) 100 2 v3 x.val.length (flat x.val)) (hg4:(W3.alloc o3).grownBy w4 vS.ownBlock)
  (ho4:w4.ownsRow (w2.heap.size+1) 98 2 v' (l.length+1) (us++[.int .i64 x.var,v3])):CU w2 (w4.setCell (T w2.heap.size 1 Z) v') gv v' (l++[x]):=by
 obtain⟨f0,f1,f2,hs4⟩:=h.at4 hus hb hg4;have hsz:w2.heap.size<wr.heap.size:=h.2.2.2.2.2;have hsb:=hb.size;have hso:A8 w4 (w2.heap.size+1) v' (l++[x]):=A8.snoc (Ap hus hb (qB _)) (fun j hj=>⟨(hts j hj).1,Ap (hts j hj).2 hb (qB _)⟩) ho3 ⟨o3,rfl⟩ hg4 ho4;have hb4:V w2.heap.size w2 w4:=((h.2.2.2.2.1.trans (hb.mono (by omega))).alloc (by omega) o3).grown hg4 (by simp;omega) (fun q hq=>by have:=(hus.lt q hq).1;omega);refine⟨?_,?_,?_,hso.setCell (Nat.lt_succ_self _) _,hb4.setCell (by simp) _,by simpa using hs4⟩
 .rw[bM _ _ _ _ (by simp)];exact f0
 .exact bO _ _ _ f1
 .rw[bL];exact f2
def MRc(B2:Nat)(w5 wr:X)(vV vR:Y)(l:List Ru):Prop:=
 wr.cell? (T B2 0 Z)=W vV/\wr.cell? (T B2 1 Z)=W vR/\wr.frozen? (T B2 1 Z)=U/\Ce wr w5.heap.size vR l/\w5.grownBy wr (W B2)/\B2<w5.heap.size
theorem MRc.at4{B2:Nat}{w5 wo wr w4:X}{o3:Obj}{vV vR:Y}{l:List Ru}{us:List Y}{n:Nat}(h:MRc B2 w5 wo vV vR l)(hus:wo.ownsRow w5.heap.size 96 2 vR n us)(hb:V wo.heap.size wo wr)(hg4:(wr.alloc o3).grownBy w4 vR.ownBlock) :
  w4.cell? (T B2 0 Z)=W vV/\w4.cell? (T B2 1 Z)=W vR/\w4.frozen? (T B2 1 Z)=false:=by
 obtain⟨h0,h1,h2,_,h4,h5⟩:=h;have h6:B2<wo.heap.size:=qE h5 h4.size;have h7:B2<wr.heap.size:=qE h6 hb.size;have hA:V wr.heap.size wr (wr.alloc o3):=(qD _ _).alloc (qB _) o3;have hne:W B2≠vR.ownBlock:=fun he=>by have:=(hus.lt _ he.symm).1;omega
 have hlt:B2<(wr.alloc o3).heap.size:=qE h7 hA.size;exact⟨(hg4.cell_far ⟨B2,0,Z⟩ hlt hne).trans ((hA.cell (p:=(T B2 0 Z)) h7).trans ((hb.cell (p:=(T B2 0 Z)) h6).trans h0)),(hg4.cell_far ⟨B2,1,Z⟩ hlt hne).trans ((hA.cell (p:=(T B2 1 Z)) h7).trans ((hb.cell (p:=(T B2 1 Z)) h6).trans h1)),(hg4.frozen_far ⟨B2,1,Z⟩ hlt hne).trans ((hA.frozen (p:=(T B2 1 Z)) h7).trans ((hb.frozen (p:=(T B2 1 Z)) h6).trans h2))⟩
theorem MRc.step{B2:Nat}{w5 wo wr w4:X}{o3:Obj}{vV vR gv vS v':Y}{l:List Ru}{x:Ru}{us:List Y}(h:MRc B2 w5 wo vV vR l)(hus:wo.ownsRow w5.heap.size 96 2 vR l.length us)
  (hts:∀j,j<l.length->wo.ownsRow w5.heap.size 100 2 (us.getD (j*2) .nilIface) (l.getD j ru0).guard.length (flat (l.getD j ru0).guard)/\A8 wo w5.heap.size (us.getD (j*2+1) .nilIface) (l.getD j ru0).sets)
  (hb:V wo.heap.size wo wr) (hgu:wr.ownsRow w5.heap.size 100 2 gv x.guard.length (flat x.guard)) (hsu:A8 wr w5.heap.size vS x.sets) (hg4:(wr.alloc o3).grownBy w4 vR.ownBlock)
  (ho4:w4.ownsRow w5.heap.size 96 2 v' (l.length+1) (us++[gv,vS])):MRc B2 w5 (w4.setCell (T B2 1 Z) v') vV v' (l++[x]):=by
 obtain⟨f0,f1,f2⟩:=h.at4 hus hb hg4;obtain⟨_,_,_,_,h4,h5⟩:=h;have hro:Ce w4 w5.heap.size v' (l++[x]):=Ce.snoc (Ap hus hb (qB _)) (fun j hj=>⟨Ap (hts j hj).1 hb (qB _),(hts j hj).2.later hb (qB _)⟩) hgu hsu ⟨o3,rfl⟩ hg4 ho4;have hbg:w5.grownBy wr (W B2):=⟨hb.os.trans h4.os,hb.tape.trans h4.tape,hb.output.trans h4.output,Nat.le_trans h4.size hb.size,fun i hi hne=>(hb.block i (qE hi h4.size)).trans (h4.block i hi hne)⟩;refine⟨?_,?_,?_,hro.setCell h5 _,Lg (Lh hbg hg4 (fun j hj=>(hus.lt j hj).1)) _,h5⟩
 .rw[bM _ _ _ _ (by simp)];exact f0
 .exact bO _ _ _ f1
 .rw[bL];exact f2
theorem T3{wr w2:X}{t:TypeId}{x0 x1 x2 x3:Y}(hb:V (wr.alloc (.cells #[x0,x1,x2,x3] t)).heap.size (wr.alloc (.cells #[x0,x1,x2,x3] t)) w2) :
  wr.heap.size<w2.heap.size/\V wr.heap.size wr w2/\w2.cell? (T wr.heap.size 1 Z)=W x1/\w2.cell? (T wr.heap.size 2 Z)=W x2/\w2.cell? (T wr.heap.size 3 Z)=W x3:=by
 have hs:=hb.size;simp at hs;refine⟨by omega,((qD wr.heap.size wr).alloc (qB _) _).trans (hb.mono (by simp)),?_,?_,?_⟩
 .rw[hb.cell (p:=(T wr.heap.size 1 Z)) (by simp)];simp[go_sem]
 .rw[hb.cell (p:=(T wr.heap.size 2 Z)) (by simp)];simp[go_sem]
 .rw[hb.cell (p:=(T wr.heap.size 3 Z)) (by simp)];simp[go_sem]
theorem Raws.mv{w w':X}{v:Y}{rs:am}(h:Raws w w.heap.size v rs)(hb:V w.heap.size w w'):Raws w' w'.heap.size v rs:=by
 obtain⟨⟨ao,cap,hv,h1⟩,h2,h3⟩:=h.below hb;refine⟨⟨ao,cap,hv,fun hne=>?_⟩,h2,h3⟩;obtain⟨b,off,ha,hlt,hat⟩:=h1 hne;exact⟨b,off,ha,qE hlt hb.size,hat⟩
def GModel(w:X)(va vr:Y)(vars:List Vr):Prop:=∃rules,A1 w va vr ⟨vars,rules⟩/\rules.length<=5/\∀j,j<rules.length->BH 2 (rules.getD j ru0)=0
def Ey(w:X)(va vr:Y)(vars:List Vr)(rules:List Ru):Prop:=A1 w va vr ⟨vars,rules⟩/\rules.length<=5/\∀j,j<rules.length->BH 2 (rules.getD j ru0)=0
theorem Ey.gm{w:X}{va vr:Y}{vars:List Vr}{rules:List Ru}(h:Ey w va vr vars rules):GModel w va vr vars:=⟨rules,h⟩
structure Pl where
 gr:am
 var:Int
 vr:am
 both:Bool
def pl0:Pl:=⟨[],0,[],U⟩
def C6(p:Pl):Ru:=⟨A3 p.gr 2 3 0,if p.both=true then [⟨pk p.var 2,BM p.vr 2 2 0⟩,⟨1-pk p.var 2,[(2,pk p.var 2)]⟩]else [⟨pk p.var 2,BM p.vr 2 2 0⟩]⟩
theorem V4{ps:List Pl}{k:Nat}(hk:k<ps.length){rules:List Ru}{x:Ru}(h:rules=(ps.take k).map C6)(hx:x=C6 (ps.getD k pl0)):rules++[x]=(ps.take (k+1)).map C6:=by
 rw[h,hx,List.take_succ_eq_append_getElem hk,List.map_append,List.getD_eq_getElem?_getD,List.getElem?_eq_getElem hk];rfl
theorem PE{a b:X}(h:V a.drew.heap.size a.drew b):V a.heap.size a b:=⟨h.os,h.tape,h.output,h.size,h.block⟩
theorem M8{rules:List Ru}{x:Ru}(h:∀j,j<rules.length->BH 2 (rules.getD j ru0)=0)(hx:BH 2 x=0):∀j,j<(rules++[x]).length->BH 2 ((rules++[x]).getD j ru0)=0:=by
 intro j hj;by_cases hlt:j<rules.length
 .rw[NN hlt];exact h j hlt
 .have hj':j=rules.length:=by simp at hj;omega
  subst hj';rw[NO];exact hx
theorem Ti(w:X)(base:Nat)(v:Int)(hb:base<=w.heap.size):(w.alloc (.cells #[.int .i64 2,.int .i64 v] 100)).ownsRow base 100 2 (.slice (W (T w.heap.size 0 Z)) 1 1) 1 (flat [(2,v)]):=
 ⟨rfl,.inr ⟨w.heap.size,1,#[.int .i64 2,.int .i64 v],rfl,hb,heap_alloc_new w _,by omega,by unfold maxLen;omega,rfl,rfl⟩⟩
def MRo(B2:Nat)(w5 wr:X)(vV vR:Y)(ps:List Pl)(k:Nat):Prop:=∃rules:List Ru,rules.length=k/\(∀j,j<rules.length->BH 2 (rules.getD j ru0)=0)/\MRc B2 w5 wr vV vR rules/\Hid (rules=(ps.take k).map C6)
theorem Wh(w:X)(o:Obj)(x y:Y)(t:TypeId):∀j u,[x,y][j]? = W u->((w.alloc o).alloc (.cells #[x,y] t)).cell? ((⟨w.heap.size+1,0,Z⟩:Addr).add j)=W u:=by
 have h:=DS (w.alloc o) x y t;rwa[show(w.alloc o).heap.size=w.heap.size+1 by simp]at h
