/- Joined texts. -/
import Derived.Test.YtehfhemidmfffaaGreatDoorSccA
import Derived.Test.YtehfhemidmfffaaGreatDoorLateD
open Go renaming World→V,Value→L,Calls→J
open Go.Ending renaming returned→M
open Go.IntKind renaming i64→Y
open Go.Obj renaming cells→O
open Go.RowKit renaming Below→T,Hid→N
open Go.Value renaming slice→X,agg→F,tuple→G
open _root_.Bool renaming false→I
open _root_.Option renaming none→Z,some→U
namespace Go.Proofs.YtehfhemidmfffaaGreatDoor
open _root_.Array renaming getElem?_eq_some_iff→qG
open Go.RowKit.Below renaming refl→qD
open _root_.Int renaming le_refl→xT
open _root_.List renaming any_append→zD,any_eq_true→vD,append_assoc→q9,append_nil→vT,drop_drop→yN,drop_left→yO,drop_zero→jP,ext_getElem?→jN,getD_eq_getElem?_getD→qC,getElem?_append_left→qX,getElem?_append_right→q7,getElem?_eq_getElem→qH,getElem?_eq_none→vF,getElem?_eq_some_iff→vQ,getElem?_take→jY,getElem_cons_drop→yL,getElem_mem→qR,length_append→qF,length_cons→qY,length_drop→qO,length_pos_iff→vO,length_take→qP,map_append→vJ,map_cons→xI,map_nil→yC,mem_map→vH,mem_range→vA,mem_singleton→vM,nil_append→v7,nodup_append→vZ,range_succ→xL,take_add→xU,take_add_one→jU,take_append→kH,take_append_drop→vC,take_append_of_le_length→jO,take_of_length_le→qN
open _root_.Nat renaming add_assoc→zU,le_of_lt→qU,le_refl→qB,le_trans→qI,lt_of_lt_of_le→qE,min_eq_left→jT,mod_eq_of_lt→kJ,sub_self→jR,zero_add→qV,zero_le→qJ
open Go.Proofs.Tryz renaming prog→qA
open Go.ChangeShapes Go.WideShapes Go.ChangeAt Go.RowKit Go.Deep
open Go.Proofs.Tryz renaming func100→gJ,func101→gK,func104→gL,func124→gM,func126→gN,func132→gO,func134→gP,func96→gQ,ntmps100→gR,ntmps101→gS,ntmps104→gT,ntmps124→gU,ntmps126→gV,ntmps132→gW,ntmps134→gX,ntmps96→gY,results100→gZ,results101→hZ,results132→ia,results96→ie,underlying157→ig
open IntKind renaming i64→aY
open IntWalk renaming i64_left→gG,wrap64_in→gH
open World renaming ownsRow_made→iq,ownsRow_nil→aX,ownsRow→fk
open _root_.UInt8 renaming ofNat→ii,toNat_lt→im,toNat_ofNat'→ip,toNat→ij
open Go.Addr renaming mk→C
set_option maxHeartbeats 6400000
set_option maxRecDepth 20000
theorem Ur{P:Program}{w:V}(t ty e:TypeId)(i:TypeInfo)(ht:P.underlying t=U (.slice e))(hi:P.info? e=U i)(so:Option Addr)(sc:Nat) :
  (Builtin.append_ #[t,t] ty #[X Z 0 0,X so 0 sc]).run P w=.ok (X Z 0 0) w:=by
 cases so with
 |none=>simp[Builtin.append_,run_underlying ht,sizeOf,typeInfo,hi,Builtin.lenOf,Builtin.firstCells]
 |some a=>simp[Builtin.append_,run_underlying ht,sizeOf,typeInfo,hi,Builtin.lenOf,Builtin.firstCells,loadCells,loadCellsFrom]
open Go.ChangeShapes Go.WideShapes Go.ChangeAt Go.RowKit Go.Deep Go.Joins
theorem Fo:(qA.info? 5).map (fun i=>(i.zero,i.size,i.bytes))=U (U (.int .u8 0),1,1):=by kernel_rfl
def CK(w:V)(b off:Nat)(l:List UInt8):Prop:=∀i,i<l.length->w.cell? ⟨b,off+i,Z⟩=U (.int .u8 ((l.getD i 0).toNat:Int))
theorem CK.below{B b off:Nat}{l:List UInt8}{w w':V}(h:CK w b off l)(hb:T B w w')(hB:b<B):CK w' b off l:=fun i hi=>(hb.cell (p:=(C b _ Z)) hB).trans (h i hi)
def BV(w:V)(v:L)(l:List UInt8):Prop:=∃ao cap,v=.slice ao l.length cap/\(l.length<=cap/\(ao=Z->cap=0/\l=[]))/\(l≠[]->∃b off,ao=U (C b off Z)/\b<w.heap.size/\CK w b off l)
theorem BV.below{w w':V}{v:L}{l:List UInt8}(h:BV w v l)(hb:T w.heap.size w w'):BV w' v l:=by
 obtain⟨ao,cap,rfl,h0,h⟩:=h;refine⟨ao,cap,rfl,h0,fun hne=>?_⟩;obtain⟨b,off,rfl,hlt,hat⟩:=h hne;exact⟨b,off,rfl,qE hlt hb.size,hat.below hb hlt⟩
theorem Ku(w:V):BV w (X Z 0 0) []:=⟨Z,0,rfl,⟨qB _,fun _=>⟨rfl,rfl⟩⟩,fun h=>absurd rfl h⟩
def AG(l:List UInt8):List Value:=l.map fun x=>.int .u8 (x.toNat:Int)
theorem Ea(l:List UInt8):(AG l).length=l.length:=by simp[AG]
theorem GN(l m:List UInt8):AG (l++m)=AG l++AG m:=by simp[AG]
theorem Ie(l:List UInt8):∀u∈AG l,u.oneCell'=true:=by
 intro u hu;simp only[AG,vH]at hu;obtain⟨p,_,rfl⟩:=hu;rfl
theorem Eb{w:V}{base:Nat}{v:L}{l:List UInt8}(h:w.ownsRow base 5 1 v l.length (AG l)):BV w v l:=by
 rcases h.2 with⟨rfl,h0⟩|⟨g,cap,cur,rfl,hb,hg,hnc,hcm,hcs,htake⟩
 .have:l=[]:=by simpa using h0
  subst this;exact Ku w
 .refine ⟨_,cap,rfl,⟨hnc,fun h=>by simp at h⟩,fun _=>⟨g,0,rfl,(qG.1 hg).1,fun i hi=>?_⟩⟩;rw[qV,h.cellAt i (by omega)];simp[AG,qC,hi]
theorem CK.cells{w:V}{b off:Nat}{l:List UInt8}(h:CK w b off l):∀j u,(AG l)[j]? = U u->w.cell? ((⟨b,off,Z⟩:Addr).add j)=U u:=by
 intro j u hj;have hlt:j<l.length:=by have:=(vQ.1 hj).1;simpa[AG]using this
 rw[Go.WideShapes.add_plain,h j hlt];simp[AG,hlt]at hj;simp[qC,hlt,hj]
section
variable{H:Type}{enc:TypeId×L -> H}{W:V}
end
def BN(n:Nat)(s:Int):Bool:=decide (n<=1048576/\0<=s/\s<=n)
theorem Ft(ao:Option Addr)(n cap:Nat)(s:Int)(w:V) :
  J qA 124 #[F #[X ao n cap,.int Y s]] w fun e w'=>e=M (.bool (BN n s))/\T w.heap.size w w':=by
 have hb:∀o,T w.heap.size w (w.alloc o):=fun o=>ai;by_cases h1:n<=1048576
 .by_cases h2:0<=s
  .by_cases h3:s<=n
   .rw[show BN n s=true by simp[BN,h1,h2,h3]];go_enter gM,gU;go_wp2;all_goals go_ret
    all_goals exact⟨rfl,hb _⟩
   .rw[show BN n s=I by simp[BN,h3]];go_enter gM,gU;go_wp2;all_goals go_ret
    all_goals exact⟨rfl,hb _⟩
  .rw[show BN n s=I by simp[BN,h2]];go_enter gM,gU;go_wp2;all_goals go_ret
   all_goals exact⟨rfl,hb _⟩
 .rw[show BN n s=I by simp[BN,h1]];go_enter gM,gU;go_wp2;all_goals go_ret
  all_goals exact⟨rfl,hb _⟩
theorem EH{w:V}{base:Nat}{e:TypeId}{s n:Nat}{v:L}{xs:List L}{p:Addr}(h:w.ownsRow base e s v n xs)(hp:p.block<base)(u:L):(w.setCell p u).ownsRow base e s v n xs:=by
 obtain⟨h1,h2⟩:=h;refine⟨h1,?_⟩;rcases h2 with h2|⟨g,cap,cur,hv,hg,hh,r⟩
 .exact .inl h2
 .refine .inr ⟨g,cap,cur,hv,hg,?_,r⟩;exact(Below.heap_setCell w p u g (by omega)).trans hh
section
variable{P:Program}{w:V}
theorem NR(t ty e:TypeId)(i:TypeInfo)(ht:P.underlying t=U (.slice e))(hi:P.info? e=U i)(v:L)(g n cap:Nat)(hv:v=X (U (C g 0 Z)) n cap)(so:Option Addr)(sc:Nat)(hnc:n<=cap) :
  (Builtin.append_ #[t,t] ty #[v,X so 0 sc]).run P w=.ok v w:=by
 subst hv;cases so with
 |none=>simp[Builtin.append_,run_underlying ht,sizeOf,typeInfo,hi,Builtin.lenOf,Builtin.firstCells,hnc,storeCells]
 |some a=>simp[Builtin.append_,run_underlying ht,sizeOf,typeInfo,hi,Builtin.lenOf,Builtin.firstCells,loadCells,loadCellsFrom,hnc,storeCells]
theorem J5{ops:Array Oper}{o:Oper}{a:Act}{K:Act->V->Prop}{Q:Exit->Act->V->Prop}{E:Prop}(hgd:o.guard=Z)(s x:Operand)(t:TypeId)
  (ho:o.op=.call { callee:=.builtin .append,args:=#[s,x],argTypes:=#[t,t]})
  (e:TypeId) (i:TypeInfo) (ht:P.underlying t=U (.slice e)) (hi:P.info? e=U i) (g n cap:Nat) (hs:a.eval s=X (U (C g 0 Z)) n cap) (so:Option Addr) (sc:Nat) (hx:a.eval x=X so 0 sc) (hnc:n<=cap) (h:∀w',N (w'=w)->K (a.put o.dst (X (U (C g 0 Z)) n cap)) w') :
  if Region.wanted o (yielded ops a.tmps)=true then Oper.wp P o a w K Q else E:=by
 have hw:Region.wanted o (yielded ops a.tmps)=true:=by simp[Region.wanted,hgd]
 rw[aj hw];have hr:=NR (P:=P) (w:=w) t o.type e i ht hi _ g n cap rfl so sc hnc;unfold Oper.wp execOp;simp only[ho,resolve,invoke,builtin,Sem.run_bind,Sem.run_pure,Result.andThen_ok,List.map_toArray,xI,yC,hs,hx,hr];exact h w (show w=w from rfl)
end
theorem Iq(ao:Option Addr)(cap:Nat)(l:List UInt8)(s y:Int)(n:Nat)(w:V)(hl:l.length<=1048576)(hn:n<=l.length)(hV:BV w (.slice ao l.length cap) l) :
  J qA 132 #[F #[.slice ao l.length cap,.int Y s],.int Y n,.int Y y] w fun e w'=>∃ao' cap',e=M (F #[X ao' n cap',.int Y y])/\T w.heap.size w w'/\w'.ownsRow w.heap.size 5 1 (X ao' n cap') n (AG (l.take n)):=by
 obtain⟨W0,hW0⟩:∃W0,W0=((w.alloc (O #[.slice ao l.length cap,.int Y s] 159)).alloc (O #[X Z 0 0,.int Y 0] 159)):=⟨_,rfl⟩;have hA:T w.heap.size w W0:=by rw[hW0];exact(ai).alloc (by simp) _
 have hz:W0.heap.size=w.heap.size+1+1:=by rw[hW0];simp
 have HSt:N (∀w1,T W0.heap.size W0 w1->(w1.cell? (C w.heap.size 0 Z)=U (.slice ao l.length cap)/\w1.cell? (C w.heap.size 1 Z)=U (.int Y s))/\w1.cell? ⟨w.heap.size+1,0,Z⟩=U (X Z 0 0)/\w1.cell? ⟨w.heap.size+1,1,Z⟩=U (.int Y 0)/\w1.frozen? ⟨w.heap.size+1,0,Z⟩=I/\w1.frozen? ⟨w.heap.size+1,1,Z⟩=I):=fun w1 hb=>by
  refine⟨⟨(hb.cell (p:=(C w.heap.size 0 Z)) (by show w.heap.size<_;omega)).trans ?_,(hb.cell (p:=(C w.heap.size 1 Z)) (by show w.heap.size<_;omega)).trans ?_⟩,(hb.cell (p:=⟨w.heap.size+1,0,Z⟩) (by show w.heap.size+1<_;omega)).trans ?_,(hb.cell (p:=⟨w.heap.size+1,1,Z⟩) (by show w.heap.size+1<_;omega)).trans ?_,(hb.frozen (p:=⟨w.heap.size+1,0,Z⟩) (by show w.heap.size+1<_;omega)).trans ?_,(hb.frozen (p:=⟨w.heap.size+1,1,Z⟩) (by show w.heap.size+1<_;omega)).trans ?_⟩<;>(rw[hW0];simp[go_sem])
 obtain⟨i0,hi,hz0,hz1,hz2⟩:=info_parts Fo;have hmk:∀w1:V,(Instr.makeSlice 157 (.int Y 0) (.int Y (n:Int))).run qA w1=.ok (X (U (C w1.heap.size 0 Z)) 0 n) (w1.alloc (O (madeCells #[.int .u8 0] n) 5)):=fun w1=>by
  have:=run_make (P:=qA) w1 157 5 i0 (.int .u8 0) ig hi hz0 .i64 .i64 0 n (xT _) (by omega) (by rw[hz2];omega) (by omega);simpa[hz1,Value.cells]using this
 have hB0:T W0.heap.size W0 W0:=qD _ _;have HOw:N (∀w1:V,(w1.alloc (O (madeCells #[.int .u8 0] n) 5)).ownsRow w1.heap.size 5 1 (X (U (C w1.heap.size 0 Z)) 0 n) 0 []):=fun w1=>iq w1 _ n (qB _) (by unfold maxLen;omega) (by simp[size_madeCells]);by_cases h0:n=0
 .subst h0;have hmk0:∀w1:V,(Instr.makeSlice 157 (.int Y 0) (.int Y 0)).run qA w1=.ok (X (U (C w1.heap.size 0 Z)) 0 0) (w1.alloc (O (madeCells #[.int .u8 0] 0) 5)):=hmk;have hO1:(W0.alloc (O (madeCells #[.int .u8 0] 0) 5)).drew.ownsRow (w.heap.size+1+1) 5 1 (X (U ⟨w.heap.size+1+1,0,Z⟩) 0 0) 0 []:=by
   have:=(HOw.out W0).drew;rw[hz]at this;exact this
  have hB1:T W0.heap.size W0 (W0.alloc (O (madeCells #[.int .u8 0] 0) 5)).drew:=(hB0.alloc (qB _) _).drew;rw[List.take_zero];obtain⟨ao',cap',e1,⟨hlc,hnone⟩,hat⟩:=hV;simp at e1;obtain⟨rfl,rfl⟩:=e1;have hm0:ao=Z->l.length=0/\cap=0:=fun h=>by obtain⟨h1,h2⟩:=hnone h;exact⟨by rw[h2];rfl,h1⟩
  show J qA 132 #[_,.int Y 0,.int Y y] w _;have hc2:(0:Int)<=(cap:Int):=by omega
  generalize l.length=m at *;clear hat hnone hmk;have HWd:N (∀w1:V,w1.drew.heap=w1.heap):=fun _=>rfl
  cases ao with
  |none=>
   obtain⟨rfl,rfl⟩:=hm0 rfl;go_enter gO,gW;go_wp2_with fail
   rw[<-hW0];clear hW0;have tk:=True.intro;go_region_held3 (fun w'=>w'.cell? (C w.heap.size 0 Z)=U (X Z 0 0)/\w'.cell? (C w.heap.size 1 Z)=U (.int Y s))
    (first|exact(HSt.out _ (by first|exact hB0|exact hB0.drew|exact hB1|exact hB0.drew.alloc (by simp) _|exact hb01)).1|(obtain⟨⟨y0,y1⟩,_⟩:=HSt.out _ hb01;exact⟨by simp[go_sem,y0],by simp[go_sem,y1]⟩))
    (first|(clear tk;refine J5 (by rfl) (.tmp 8) (.tmp 12) 157 (by rfl) 5 i0 ig hi (w.heap.size+1+1) 0 0 (by rfl) _ _ (by rfl) (qB _) ?_;intro wB HEq;have hb01:T W0.heap.size W0 wB:=(by rw[HEq.out];exact hB1);have howB:wB.ownsRow (w.heap.size+1+1) 5 1 (X (U ⟨w.heap.size+1+1,0,Z⟩) 0 0) 0 []:=(by rw[HEq.out];exact hO1);obtain⟨_,k0,k1,f0,f1⟩:=HSt.out _ hb01))
   have hbw:=ae hA hb01;have HV3:N (((wB.setCell ⟨w.heap.size+1,0,Z⟩ (X (U ⟨w.heap.size+1+1,0,Z⟩) 0 0)).setCell ⟨w.heap.size+1,1,Z⟩ (.int Y y)).ownsRow w.heap.size 5 1 (X (U ⟨w.heap.size+1+1,0,Z⟩) 0 0) 0 []):=Az (EH (EH howB (by show w.heap.size+1<_;omega) _) (by show w.heap.size+1<_;omega) _) (by omega);have HBf:N (T w.heap.size w ((wB.setCell ⟨w.heap.size+1,0,Z⟩ (X (U ⟨w.heap.size+1+1,0,Z⟩) 0 0)).setCell ⟨w.heap.size+1,1,Z⟩ (.int Y y))):=(hbw.setCell (p:=⟨w.heap.size+1,0,Z⟩) (by simp) _).setCell (p:=⟨w.heap.size+1,1,Z⟩) (by simp) _;go_wp2_with fail
   refine bodyPost_ret (v:=F #[X (U ⟨w.heap.size+1+1,0,Z⟩) 0 0,.int Y y]) ?_ rfl ⟨_,_,rfl,HBf.out,HV3.out⟩;simp[results,ia,go_sem,k0,k1]
  |some a=>
   go_enter gO,gW;go_wp2_with fail
   rw[<-hW0];clear hW0;have tk:=True.intro;go_region_held3 (fun w'=>w'.cell? (C w.heap.size 0 Z)=U (.slice (U a) m cap)/\w'.cell? (C w.heap.size 1 Z)=U (.int Y s))
    (first|exact(HSt.out _ (by first|exact hB0|exact hB0.drew|exact hB1|exact hB0.drew.alloc (by simp) _|exact hb01)).1|(obtain⟨⟨y0,y1⟩,_⟩:=HSt.out _ hb01;exact⟨by simp[go_sem,y0],by simp[go_sem,y1]⟩))
    (first|(clear tk;refine J5 (by rfl) (.tmp 8) (.tmp 12) 157 (by rfl) 5 i0 ig hi (w.heap.size+1+1) 0 0 (by rfl) _ _ (by rfl) (qB _) ?_;intro wB HEq;have hb01:T W0.heap.size W0 wB:=(by rw[HEq.out];exact hB1);have howB:wB.ownsRow (w.heap.size+1+1) 5 1 (X (U ⟨w.heap.size+1+1,0,Z⟩) 0 0) 0 []:=(by rw[HEq.out];exact hO1);obtain⟨_,k0,k1,f0,f1⟩:=HSt.out _ hb01))
   have hbw:=ae hA hb01;have HV3:N (((wB.setCell ⟨w.heap.size+1,0,Z⟩ (X (U ⟨w.heap.size+1+1,0,Z⟩) 0 0)).setCell ⟨w.heap.size+1,1,Z⟩ (.int Y y)).ownsRow w.heap.size 5 1 (X (U ⟨w.heap.size+1+1,0,Z⟩) 0 0) 0 []):=Az (EH (EH howB (by show w.heap.size+1<_;omega) _) (by show w.heap.size+1<_;omega) _) (by omega);have HBf:N (T w.heap.size w ((wB.setCell ⟨w.heap.size+1,0,Z⟩ (X (U ⟨w.heap.size+1+1,0,Z⟩) 0 0)).setCell ⟨w.heap.size+1,1,Z⟩ (.int Y y))):=(hbw.setCell (p:=⟨w.heap.size+1,0,Z⟩) (by simp) _).setCell (p:=⟨w.heap.size+1,1,Z⟩) (by simp) _;go_wp2_with fail
   refine bodyPost_ret (v:=F #[X (U ⟨w.heap.size+1+1,0,Z⟩) 0 0,.int Y y]) ?_ rfl ⟨_,_,rfl,HBf.out,HV3.out⟩;simp[results,ia,go_sem,k0,k1]
 .have hne:l≠[]:=by intro h;subst h;simp at hn;omega
  have hVc:=hV;obtain⟨ao',cap',e1,⟨hlc,_⟩,hat⟩:=hV;simp at e1;obtain⟨rfl,rfl⟩:=e1;obtain⟨b,off,rfl,hbl,hba⟩:=hat hne;have HC:N (∀w1,T w.heap.size w w1->∀j u,(AG (l.take n))[j]? = U u->w1.cell? ((⟨b,off,Z⟩:Addr).add j)=U u):=fun w1 hb j u hj=>by
   have hjn:j<(l.take n).length:=by have:=(vQ.1 hj).1;simpa[AG]using this
   have hjl:j<l.length:=by rw[qP]at hjn;omega
   have:=(hba.below hb hbl).cells j u;refine this ?_;rw[<-hj];simp[AG,jY];rw[qP]at hjn;omega
  have HLn:N ((AG (l.take n)).length=n*1):=by show _=_;rw[Ea,qP];omega
  have HOne:N (∀u∈AG (l.take n),u.oneCell'=true):=Ie _;have hnc:n<=cap:=by omega
  have hnc2:(n:Int)<=(cap:Int):=by omega
  have hnc3:¬(n:Int)<0:=by omega
  have hnc4:¬(cap:Int)<(n:Int):=by omega
  generalize AG (l.take n)=xs at *;generalize l.length=m at *;clear hVc hat hba hne hlc
  go_enter gO,gW;go_wp2_with fail
  rw[<-hW0];have HW0:=(show N _ from hW0);clear hW0;have tk:=True.intro;have hO1:(W0.alloc (O (madeCells #[.int .u8 0] n) 5)).drew.ownsRow (w.heap.size+1+1) 5 1 (X (U ⟨w.heap.size+1+1,0,Z⟩) 0 n) 0 []:=by
   have:=(HOw.out W0).drew;rw[hz]at this;exact this
  have hB1:T W0.heap.size W0 (W0.alloc (O (madeCells #[.int .u8 0] n) 5)).drew:=(hB0.alloc (qB _) _).drew;have hc1:=HC.out _ (ae hA hB1);have hs1:w.heap.size+1+1<=(W0.alloc (O (madeCells #[.int .u8 0] n) 5)).drew.heap.size:=by rw[<-hz];exact hB1.size
  go_region_held3 (fun w'=>w'.cell? (C w.heap.size 0 Z)=U (X (U (C b off Z)) m cap)/\w'.cell? (C w.heap.size 1 Z)=U (.int Y s))
   (first|exact(HSt.out _ (by first|exact hB0|exact hB0.drew|exact hB1|exact hB0.drew.alloc (by simp) _|exact hb01)).1|(obtain⟨⟨y0,y1⟩,_⟩:=HSt.out _ hb01;exact⟨by simp[go_sem,y0],by simp[go_sem,y1]⟩))
   (first|(clear tk;refine step_append_lies _ (by rfl) (.tmp 8) (.tmp 12) 157 (by rfl) (w.heap.size+1+1) 5 i0 _ 1 1 ig hi hz0 hz1 hz2 (by rfl) (by decide) (X (U ⟨w.heap.size+1+1,0,Z⟩) 0 n) 0 [] (by rfl) hO1 ⟨b,off,Z⟩ n cap xs (by rfl) HLn.out hc1 HOne.out (by omega) (by unfold maxLen;omega) (by omega) hs1 _ rfl ?_;intro gB capB wB howB hgrB hatB hltB;have hb01:T W0.heap.size W0 wB:=(hB1.grown hgrB hB1.size (fun q hq=>(by simp[Value.ownBlock]at hq;omega)));rw[qV,v7]at howB;obtain⟨_,k0,k1,f0,f1⟩:=HSt.out _ hb01))
  have hbw:=ae hA hb01;have HV3:N (((wB.setCell ⟨w.heap.size+1,0,Z⟩ (X (U (C gB 0 Z)) n capB)).setCell ⟨w.heap.size+1,1,Z⟩ (.int Y y)).ownsRow w.heap.size 5 1 (X (U (C gB 0 Z)) n capB) n xs):=Az (EH (EH howB (by show w.heap.size+1<_;omega) _) (by show w.heap.size+1<_;omega) _) (by omega);have HBf:N (T w.heap.size w ((wB.setCell ⟨w.heap.size+1,0,Z⟩ (X (U (C gB 0 Z)) n capB)).setCell ⟨w.heap.size+1,1,Z⟩ (.int Y y))):=(hbw.setCell (p:=⟨w.heap.size+1,0,Z⟩) (by simp) _).setCell (p:=⟨w.heap.size+1,1,Z⟩) (by simp) _;go_wp2_with fail
  refine bodyPost_ret (v:=F #[X (U (C gB 0 Z)) n capB,.int Y y]) ?_ rfl ⟨_,_,rfl,HBf.out,HV3.out⟩;simp[results,ia,go_sem,k0,k1]
structure Bx(w w1:V)(x0 x1:L):Prop where
 b:T w.heap.size w w1
 z:w.heap.size+1+1<=w1.heap.size
 a0:w1.cell? (C w.heap.size 0 Z)=U x0
 a1:w1.cell? (C w.heap.size 1 Z)=U x1
 r0:w1.cell? ⟨w.heap.size+1,0,Z⟩=U (X Z 0 0)
 r1:w1.cell? ⟨w.heap.size+1,1,Z⟩=U (.int Y 0)
 f0:w1.frozen? ⟨w.heap.size+1,0,Z⟩=I
 f1:w1.frozen? ⟨w.heap.size+1,1,Z⟩=I
theorem Bx.start(w:V)(x0 x1:L)(t t':TypeId):Bx w ((w.alloc (O #[x0,x1] t)).alloc (O #[X Z 0 0,.int Y 0] t')) x0 x1:=by
 refine⟨(ai).alloc (by simp) _,by simp,?_,?_,?_,?_,?_,?_⟩<;>simp[go_sem]
theorem Bx.later{w w1 w2:V}{x0 x1:L}(h:Bx w w1 x0 x1)(hb:T w1.heap.size w1 w2):Bx w w2 x0 x1:=by
 have hz:=h.z;exact⟨h.b.trans (hb.mono h.b.size),qI h.z hb.size,(hb.cell (p:=(C w.heap.size 0 Z)) (by show w.heap.size<_;omega)).trans h.a0,(hb.cell (p:=(C w.heap.size 1 Z)) (by show w.heap.size<_;omega)).trans h.a1,(hb.cell (p:=⟨w.heap.size+1,0,Z⟩) (by show w.heap.size+1<_;omega)).trans h.r0,(hb.cell (p:=⟨w.heap.size+1,1,Z⟩) (by show w.heap.size+1<_;omega)).trans h.r1,(hb.frozen (p:=⟨w.heap.size+1,0,Z⟩) (by show w.heap.size+1<_;omega)).trans h.f0,(hb.frozen (p:=⟨w.heap.size+1,1,Z⟩) (by show w.heap.size+1<_;omega)).trans h.f1⟩
theorem Bx.done{w w1:V}{x0 x1:L}(h:Bx w w1 x0 x1)(v0 v1:L):T w.heap.size w ((w1.setCell ⟨w.heap.size+1,0,Z⟩ v0).setCell ⟨w.heap.size+1,1,Z⟩ v1):=
 (h.b.setCell (p:=⟨w.heap.size+1,0,Z⟩) (by simp) _).setCell (p:=⟨w.heap.size+1,1,Z⟩) (by simp) _
theorem FI{w w1:V}{v:L}{n:Nat}{xs:List L}{base:Nat}(h:w1.ownsRow base 5 1 v n xs)(hb:w.heap.size+1+1<=base)(v0 v1:L):((w1.setCell ⟨w.heap.size+1,0,Z⟩ v0).setCell ⟨w.heap.size+1,1,Z⟩ v1).ownsRow w.heap.size 5 1 v n xs:=
 Az (EH (EH h (by show w.heap.size+1<_;omega) _) (by show w.heap.size+1<_;omega) _) (by omega)
def CL(w:V)(l:List UInt8)(s c:Int)(e:Ending)(w':V):Prop:=
 ∃ao cap,e=M (G #[F #[.slice ao l.length cap,.int Y s],.int Y c])/\T w.heap.size w w'/\N (w'.ownsRow w.heap.size 5 1 (.slice ao l.length cap) l.length (AG l))
theorem Nr{l:List UInt8}{n:Nat}(h:n<=l.length):(l.take n).length=n:=by rw[qP];omega
theorem Vw(ao:Option Addr)(cap:Nat)(l:List UInt8)(s:Int)(w:V)(hm:BN l.length s=true)(hV:BV w (.slice ao l.length cap) l) :
  J qA 99 #[F #[.slice ao l.length cap,.int Y s]] w (CL w l l.length 0):=by
 have hl:l.length<=1048576:=by simp[BN]at hm;omega
 have hst:=Bx.start w (.slice ao l.length cap) (.int Y s) 159 159;have hmb:=Ft ao l.length cap s ((w.alloc (O #[.slice ao l.length cap,.int Y s] 159)).alloc (O #[X Z 0 0,.int Y 0] 159));rw[hm]at hmb;have HBx:N (∀w1,T ((w.alloc (O #[.slice ao l.length cap,.int Y s] 159)).alloc (O #[X Z 0 0,.int Y 0] 159)).heap.size ((w.alloc (O #[.slice ao l.length cap,.int Y s] 159)).alloc (O #[X Z 0 0,.int Y 0] 159)) w1->Bx w w1 (.slice ao l.length cap) (.int Y s)):=fun w1 hb=>hst.later hb;have HCu:N (∀w1,Bx w w1 (.slice ao l.length cap) (.int Y s)->J qA 132 #[F #[.slice ao l.length cap,.int Y s],.int Y l.length,.int Y l.length] w1 fun e w'=>∃ao' cap',e=M (F #[.slice ao' l.length cap',.int Y l.length])/\T w1.heap.size w1 w'/\N (w'.ownsRow w1.heap.size 5 1 (.slice ao' l.length cap') l.length (AG l))):=fun w1 hx=>by
  have:=Iq ao cap l s l.length l.length w1 hl (qB _) (hV.below hx.b);rw[List.take_length]at this;exact this
 have HT:CL w l l.length 0=fun e w'=>∃ao cap,e=M (G #[F #[.slice ao l.length cap,.int Y l.length],.int Y 0])/\T w.heap.size w w'/\N (w'.ownsRow w.heap.size 5 1 (.slice ao l.length cap) l.length (AG l)):=rfl;rw[HT];clear HT;generalize AG l=xs at *;generalize l.length=n at *;clear hst hm hV
 go_enter Tryz.func99,Tryz.ntmps99;go_wp2_with (first|(go_at_call 124;refine hmb.mono ?_;rintro e w1 ⟨rfl,hb1⟩;have hx:=HBx.out w1 hb1;have hcu:=HCu.out w1 hx;obtain⟨_,_,a0,a1,_,_,_,_⟩:=id hx)|(go_at_call 132;refine hcu.mono ?_;rintro e w2 ⟨bo,bc,rfl,hb2,HO⟩;have hx2:=hx.later hb2;obtain⟨_,_,_,_,r0,r1,f0,f1⟩:=id hx2))
 refine bodyPost_ret (v:=G #[F #[X bo n bc,.int Y n],.int Y 0]) ?_ rfl ⟨bo,bc,rfl,hx2.done _ _,FI HO.out hx.z _ _⟩;simp[results,Tryz.results99,go_sem,r0,r1]
def EE(n:Nat)(s k:Int):Nat:=(s+min k (n-s)).toNat
theorem K9(ao:Option Addr)(cap:Nat)(l:List UInt8)(s k:Int)(w:V)(hm:BN l.length s=true)(hk:0<=k)(hV:BV w (.slice ao l.length cap) l) :
  J qA 100 #[F #[.slice ao l.length cap,.int Y s],.int Y k] w (CL w (l.take (EE l.length s k)) (EE l.length s k) 0):=by
 have hmm:l.length<=1048576/\0<=s/\s<=l.length:=by simpa[BN]using hm
 obtain⟨hl,hs0,hs1⟩:=hmm;have hq:EE l.length s k<=l.length/\(EE l.length s k:Int)=s+min k (l.length-s):=by unfold EE;omega
 obtain⟨q,hqd⟩:∃q,q=EE l.length s k:=⟨_,rfl⟩;rw[<-hqd]at hq⊢;obtain⟨hq1,hq2⟩:=hq;clear hqd;have htl:(l.take q).length=q:=Nr hq1;have hst:=Bx.start w (.slice ao l.length cap) (.int Y s) 159 159;have hmb:=Ft ao l.length cap s ((w.alloc (O #[.slice ao l.length cap,.int Y s] 159)).alloc (O #[X Z 0 0,.int Y 0] 159));rw[hm]at hmb;have HBx:N (∀w1,T ((w.alloc (O #[.slice ao l.length cap,.int Y s] 159)).alloc (O #[X Z 0 0,.int Y 0] 159)).heap.size ((w.alloc (O #[.slice ao l.length cap,.int Y s] 159)).alloc (O #[X Z 0 0,.int Y 0] 159)) w1->Bx w w1 (.slice ao l.length cap) (.int Y s)):=fun w1 hb=>hst.later hb;have HCu:N (∀w1,Bx w w1 (.slice ao l.length cap) (.int Y s)->J qA 132 #[F #[.slice ao l.length cap,.int Y s],.int Y q,.int Y q] w1 fun e w'=>∃ao' cap',e=M (F #[X ao' q cap',.int Y q])/\T w1.heap.size w1 w'/\N (w'.ownsRow w1.heap.size 5 1 (X ao' q cap') q (AG (l.take q)))):=fun w1 hx=>Iq ao cap l s q q w1 hl hq1 (hV.below hx.b);have HT:CL w (l.take q) q 0=fun e w'=>∃ao cap,e=M (G #[F #[X ao q cap,.int Y q],.int Y 0])/\T w.heap.size w w'/\N (w'.ownsRow w.heap.size 5 1 (X ao q cap) q (AG (l.take q))):=by unfold CL;rw[htl]
 rw[HT];clear HT htl;generalize AG (l.take q)=xs at *;generalize l.length=n at *;clear hst hm hV;have HQ:N ((q:Int)=s+min k (n-s)):=hq2
 by_cases hkk:k<=(n:Int)-s
 .obtain rfl:k=(q:Int)-s:=by omega
  have hsub:wrap64 ((n:Int)-s)=(n:Int)-s:=gH _ (by omega);have hadd:wrap64 (s+((q:Int)-s))=(q:Int):=by rw[gH _ (by omega)];omega
  have hadd':aY.wrap (s+((q:Int)-s))=(q:Int):=by rw[gG];exact hadd
  have hsub':aY.wrap ((n:Int)-s)=(n:Int)-s:=by rw[gG];exact hsub
  have hmin:min ((q:Int)-s) ((n:Int)-s)=(q:Int)-s:=by omega
  clear hq2;go_enter gJ,gR;go_wp2_with (first|(go_at_call 124;refine hmb.mono ?_;rintro e w1 ⟨rfl,hb1⟩;have hx:=HBx.out w1 hb1;have hcu:=HCu.out w1 hx;obtain⟨_,_,a0,a1,_,_,_,_⟩:=id hx)|(go_at_call 132;refine hcu.mono ?_;rintro e w2 ⟨bo,bc,rfl,hb2,HO⟩;have hx2:=hx.later hb2;obtain⟨_,_,_,_,r0,r1,f0,f1⟩:=id hx2))
  refine bodyPost_ret (v:=G #[F #[X bo q bc,.int Y q],.int Y 0]) ?_ rfl ⟨bo,bc,rfl,hx2.done _ _,FI HO.out hx.z _ _⟩;simp[results,gZ,go_sem,r0,r1]
 .obtain rfl:q=n:=by omega
  have hsub:wrap64 ((q:Int)-s)=(q:Int)-s:=gH _ (by omega);have hadd:wrap64 (s+((q:Int)-s))=(q:Int):=by rw[gH _ (by omega)];omega
  have hadd':aY.wrap (s+((q:Int)-s))=(q:Int):=by rw[gG];exact hadd
  have hsub':aY.wrap ((q:Int)-s)=(q:Int)-s:=by rw[gG];exact hsub
  have hmin:min k ((q:Int)-s)=(q:Int)-s:=by omega
  clear hq2;go_enter gJ,gR;go_wp2_with (first|(go_at_call 124;refine hmb.mono ?_;rintro e w1 ⟨rfl,hb1⟩;have hx:=HBx.out w1 hb1;have hcu:=HCu.out w1 hx;obtain⟨_,_,a0,a1,_,_,_,_⟩:=id hx)|(go_at_call 132;refine hcu.mono ?_;rintro e w2 ⟨bo,bc,rfl,hb2,HO⟩;have hx2:=hx.later hb2;obtain⟨_,_,_,_,r0,r1,f0,f1⟩:=id hx2))
  refine bodyPost_ret (v:=G #[F #[X bo q bc,.int Y q],.int Y 0]) ?_ rfl ⟨bo,bc,rfl,hx2.done _ _,FI HO.out hx.z _ _⟩;simp[results,gZ,go_sem,r0,r1]
section
variable{H:Type}{enc:TypeId×L -> H}{W:V}
end
def Bc(w1:V)(b:Nat)(y0 y1:L):Prop:=b<w1.heap.size/\w1.cell? (C b 0 Z)=U y0/\w1.cell? (C b 1 Z)=U y1
theorem Bc.later{w1 w2:V}{b:Nat}{y0 y1:L}(h:Bc w1 b y0 y1)(hb:T w1.heap.size w1 w2):Bc w2 b y0 y1:=
 ⟨qE h.1 hb.size,(hb.cell (p:=(C b 0 Z)) h.1).trans h.2.1,(hb.cell (p:=(C b 1 Z)) h.1).trans h.2.2⟩
theorem Bc.arg(w:V)(y0 y1:L)(t:TypeId):T w.heap.size w (w.alloc (O #[y0,y1] t))/\Bc (w.alloc (O #[y0,y1] t)) w.heap.size y0 y1:=by
 refine⟨ai,by simp,?_,?_⟩<;>simp[go_sem]
def FM(s:Nat)(b:UInt8):Nat:=(s*257+b.toNat) % 2147483629
def Bm(l:List UInt8):Nat:=l.foldl FM 1
theorem Vq(s:Nat)(b:UInt8):FM s b<2147483629:=Nat.mod_lt _ (by decide)
theorem LU:∀(l:List UInt8) (s:Nat),s<2147483629->l.foldl FM s<2147483629
 |[],s,h=>h
 |b::l,s,_=>by rw[List.foldl_cons];exact LU l _ (Vq s b)
theorem J6(l:List UInt8):Bm l<2147483629:=LU l 1 (by decide)
theorem Vt{l:List UInt8}{k:Nat}(hk:k<l.length):Bm (l.take (k+1))=FM (Bm (l.take k)) (l.getD k 0):=by
 have e:l.take (k+1)=l.take k++[l.getD k 0]:=by
  rw[jU];simp[qC,hk]
 rw[e];simp[Bm]
theorem w64{n:Int}(h0:-9223372036854775808<=n)(h1:n<=9223372036854775807):wrap64 n=n:=gH n ⟨h0,h1⟩
theorem Vs(s:Nat)(b:UInt8)(hs:s<2147483629):(wrap64 ((s:Int)*257+wrap64 (b.toNat:Int))).tmod 2147483629=(FM s b:Int):=by
 have hb:b.toNat<256:=im b;rw[w64 (n:=(b.toNat:Int)) (by omega) (by omega),w64 (by omega) (by omega),Int.tmod_eq_emod_of_nonneg (by omega)];unfold FM;omega
theorem Nl(v:L)(l:List UInt8)(w:V)(hl:l.length<=140737488355328)(hV:BV w v l) :
  J qA 156 #[v] w fun e w'=>e=M (.int Y (Bm l))/\w'=w:=by
 obtain⟨ao,cap,rfl,_,h⟩:=hV;obtain⟨n,hn⟩:∃n,l.length=n:=⟨_,rfl⟩;rw[hn]at hl⊢;have H:N (l≠[]->∃b off,ao=U (C b off Z)/\b<w.heap.size/\CK w b off l):=h;have HN:N (l.length=n):=hn;clear h hn;go_enter Tryz.func156,Tryz.ntmps156;go_wp2;go_loopw [3,8] (fun s i wr=>∃k:Nat,k<=n/\i=.int Y k/\s=.int Y (Bm (l.take k))/\wr=w) (fun _ i _=>n-(intOf i).toNat)
 case atStart=>exact⟨0,qJ _,rfl,rfl,rfl⟩
 case round=>
  obtain⟨k,hk,rfl,rfl,rfl⟩:=hrel;by_cases hlt:k<n
  .have hne:l≠[]:=by intro h;subst h;have:=HN.out;simp at this;omega
   obtain⟨b,off,rfl,_,hca⟩:=H.out hne;have c1:=hca k (by rw[HN.out];exact hlt);have hst:=Vt (l:=l) (k:=k) (by rw[HN.out];exact hlt);have hs:=J6 (l.take k);generalize l.getD k 0=x at c1 hst;generalize Bm (l.take k)=s at *;have hnum:=Vs s x hs;clear hca hne
   go_wp2;go_roundw
   case rel=>exact⟨k+1,by omega,by go_num,by rw[hst],by trivial⟩
   case measure=>simp[intOf];omega
  .obtain rfl:k=n:=by omega
   have hall:l.take k=l:=by rw[qN];rw[HN.out];omega
   rw[hall];go_wp2;go_ret;exact⟨rfl,rfl⟩
def A6(n:Nat):List UInt8:=[ii (n / 16777216),ii (n / 65536),ii (n / 256),ii n]
theorem EN(n:Nat):(A6 n).length=4:=rfl
theorem u8n(n:Nat):((ii n).toNat:Int)=(n:Int) % 256:=by rw[ip];omega
theorem W6{n:Nat}(hn:n<4294967296):AG (A6 n)=[.int .u8 ((n:Int) / 16777216),.int .u8 ((n:Int) / 65536 % 256),.int .u8 ((n:Int) / 256 % 256),.int .u8 ((n:Int) % 256)]:=by
 have e1:((n / 16777216:Nat):Int) % 256=(n:Int) / 16777216:=by omega
 have e2:((n / 65536:Nat):Int) % 256=(n:Int) / 65536 % 256:=by omega
 have e3:((n / 256:Nat):Int) % 256=(n:Int) / 256 % 256:=by omega
 simp only[AG,A6,xI,yC,u8n,e1,e2,e3]
theorem Qw(w:V)(a b c d:L)(t:TypeId):∀j u,[a,b,c,d][j]? = U u->(w.alloc (O #[a,b,c,d] t)).cell? ((⟨w.heap.size,0,Z⟩:Addr).add j)=U u:=by
 intro j u hj;match j,hj with
 |0,hj=>simp at hj;subst hj;simp[Addr.add,go_sem]
 |1,hj=>simp at hj;subst hj;simp[Addr.add,go_sem]
 |2,hj=>simp at hj;subst hj;simp[Addr.add,go_sem]
 |3,hj=>simp at hj;subst hj;simp[Addr.add,go_sem]
theorem OA(ao:Option Addr)(cap k:Nat)(xs:List L)(n base:Nat)(w:V)(hO:w.ownsRow base 5 1 (X ao k cap) k xs)(hn:n<4294967296)(hk:k<=2097152)(hb:base<=w.heap.size) :
  J qA 155 #[X ao k cap,.int Y n] w fun e w'=>∃ao' cap',e=M (.slice ao' (k+4) cap')/\T base w w'/\N (w'.ownsRow base 5 1 (.slice ao' (k+4) cap') (k+4) (xs++AG (A6 n))):=by
 obtain⟨i0,hi,hz0,hz1,hz2⟩:=info_parts Fo;rw[W6 hn];go_enter Tryz.func155,Tryz.ntmps155;go_wp2_with (at_builtin;refine wpList_append_own _ rfl _ _ 157 rfl base 5 i0 (.int .u8 0) 1 1 ig hi hz0 hz1 hz2 rfl (by decide) (X ao k cap) k xs rfl (hO.alloc _) ⟨w.heap.size,0,Z⟩ 4 4 [.int .u8 ((n:Int) / 16777216),.int .u8 ((n:Int) / 65536 % 256),.int .u8 ((n:Int) / 256 % 256),.int .u8 ((n:Int) % 256)] rfl rfl (Qw _ _ _ _ _ _) (by simp[Value.oneCell']) ?c3 ?c4 ?c5 ?_)
 case c3=>unfold maxLen;omega
 case c4=>omega
 case c5=>simp;omega
 intro v' w4 hown' hgrow _;have hb4:T base w w4:=((qD base w).alloc hb _).grown hgrow (by simp;omega) (fun q hq=>(hO.lt q hq).1);obtain⟨a1,c1,rfl⟩:=Au hown';clear hgrow hO;go_wp2;go_ret;exact⟨a1,c1,rfl,hb4,hown'⟩
def Ae(x:Int):Bool:=decide (x<0)||decide (2147483647<x)
def wrC(l:List Int):Int:=if 4000<l.length then 1 else if l.any Ae=true then 2 else 0
def BL(l:List Int):List UInt8:=l.flatMap fun x=>A6 x.toNat
def BD(n:Nat)(l:List Int):List UInt8:=A6 n++BL l
def AD(l:List Int):List UInt8:=BD l.length l++A6 (Bm (BD l.length l))
theorem Km(l:List Int):(BL l).length=4*l.length:=by
 induction l with
 |nil=>rfl
 |cons x l ih=>rw[BL,List.flatMap_cons,qF];rw[BL]at ih;rw[ih,EN,qY];omega
theorem Fl(n:Nat)(l:List Int):(BD n l).length=4+4*l.length:=by rw[BD,qF,EN,Km]
theorem Cz(l:List Int):(AD l).length=4*l.length+8:=by rw[AD,qF,Fl,EN];omega
theorem PL{l:List Int}{i:Nat}(h:i<l.length):BL (l.take (i+1))=BL (l.take i)++A6 (l.getD i 0).toNat:=by
 have e:l.take (i+1)=l.take i++[l.getD i 0]:=by
  rw[jU];simp[qC,h]
 rw[e];simp[BL]
theorem Mk{l:List Int}(h:l.any Ae=I){i:Nat}(hi:i<l.length):0<=l.getD i 0/\l.getD i 0<=2147483647:=by
 have hm:l.getD i 0∈l:=by rw[qC,qH hi];simp
 have:=List.any_eq_false.1 h _ hm;generalize l.getD i 0=x at *;simp[Ae]at this
 omega
theorem Ml(x:Int)(w:V):J qA 126 #[.int Y x] w fun e w'=>e=M (.bool (Ae x))/\w'=w:=by
 by_cases h1:x<0
 .rw[show Ae x=true by simp[Ae,h1]];go_enter gN,gV;go_wp2;all_goals go_ret
  all_goals exact⟨rfl,rfl⟩
 .by_cases h2:2147483647<x
  .rw[show Ae x=true by simp[Ae,h2]];go_enter gN,gV;go_wp2;all_goals go_ret
   all_goals exact⟨rfl,rfl⟩
  .rw[show Ae x=I by simp[Ae,h1,h2]];go_enter gN,gV;go_wp2;all_goals go_ret
   all_goals exact⟨rfl,rfl⟩
theorem F0(n:Nat)(w:V)(h:n<=4294967296):J qA 127 #[.int Y n] w fun e w'=>e=M (.int Y ((4*n+8:Nat):Int))/\w'=w:=by
 have e:((4*n+8:Nat):Int)=((n:Int)+2)*4:=by omega
 rw[e];go_enter Tryz.func127,Tryz.ntmps127;go_wp2;go_ret;exact⟨rfl,rfl⟩
theorem RN(v:L)(l:List Int)(w:V)(hl:l.length<=140737488355328)(hV:IntsV w v l) :
  J qA 154 #[v,.func (.func 126) #[] #[]] w fun e w'=>∃q:Int,e=M (.int Y q)/\w'=w/\(l.any Ae=true->0<=q)/\(l.any Ae=I->q=-1):=by
 obtain⟨ao,cap,rfl,h⟩:=hV;obtain⟨n,hn⟩:∃n,l.length=n:=⟨_,rfl⟩;rw[hn]at hl⊢;have H:N (l≠[]->∃b off,ao=U (C b off Z)/\b<w.heap.size/\IntsAt w b off l):=h;have HN:N (l.length=n):=hn;clear h hn;go_enter Tryz.func154,Tryz.ntmps154;go_wp2;go_loopw [8] (fun i wr=>∃k:Nat,k<=n/\i=.int Y k/\(l.take k).any Ae=I/\wr=w) (fun i _=>n-(intOf i).toNat)
 case atStart=>exact⟨0,qJ _,rfl,rfl,rfl⟩
 case round=>
  obtain⟨k,hk,rfl,HT,rfl⟩:=hrel;by_cases hlt:k<n
  .have hlt2:k<l.length:=by rw[HN.out];exact hlt
   have hne:l≠[]:=by intro h;subst h;simp at hlt2
   obtain⟨b,off,rfl,_,hca⟩:=H.out hne;have c1:=hca k hlt2;have hou:=Ml (l.getD k 0) wr;have hst:(l.take (k+1)).any Ae=Ae (l.getD k 0):=by
    have e:l.take (k+1)=l.take k++[l.getD k 0]:=by
     rw[jU];simp[qC,hlt2]
    rw[e,zD,HT];simp
   have hany:Ae (l.getD k 0)=true->l.any Ae=true:=fun h=>vD.2 ⟨l.getD k 0,by rw[qC,qH hlt2];simp,h⟩;have HS:N ((l.take (k+1)).any Ae=Ae (l.getD k 0)):=hst;have HAn:N (Ae (l.getD k 0)=true->l.any Ae=true):=hany;clear hca hne hst hany HT;generalize l.getD k 0=x at *;generalize Ae x=o at *
   cases o
   .go_wp2_with (go_at_call 126;refine hou.mono ?_;rintro e w1 ⟨rfl,rfl⟩)
    go_roundw
    case rel=>exact⟨k+1,by omega,by go_num,HS.out,by trivial⟩
    case measure=>simp[intOf];omega
   .go_wp2_with (go_at_call 126;refine hou.mono ?_;rintro e w1 ⟨rfl,rfl⟩)
    go_ret;exact⟨_,rfl,rfl,fun _=>by omega,fun h=>by rw[HAn.out (by trivial)]at h;simp at h⟩
  .obtain rfl:k=n:=by omega
   have hall:l.take k=l:=by rw[qN];rw[HN.out];omega
   rw[hall]at HT;have HT':N (l.any Ae=I):=HT;clear HT;go_wp2;go_ret;exact⟨-1,rfl,rfl,fun h=>by rw[HT'.out]at h;simp at h,fun _=>rfl⟩
theorem K7(v:L)(l:List Int)(w:V)(hl:l.length<=140737488355328)(hV:IntsV w v l) :
  J qA 125 #[v,.func (.func 126) #[] #[]] w fun e w'=>e=M (.bool (l.any Ae))/\w'=w:=by
 have hx:=RN v l w hl hV;obtain⟨ao,cap,rfl,_⟩:=hV;generalize l.length=n at *;generalize l.any Ae=o at *
 cases o
 all_goals
  go_enter Tryz.func125,Tryz.ntmps125;go_wp2_with (go_at_call 154;refine hx.mono ?_;rintro e w1 ⟨q,rfl,rfl,h1,h2⟩;first|(obtain rfl:=h2 rfl)|(have h3:=h1 rfl))
  go_ret;exact⟨by first|rfl|trivial,rfl⟩
theorem Tl{w:V}{base:Nat}{ao:Option Addr}{cap n k:Nat}{l m:List UInt8}(h:w.ownsRow base 5 1 (X ao n cap) n (AG (l++m)))(hl:l.length=k)(hm:0<m.length) :
  ∃g,ao=U (C g 0 Z)/\n=k+m.length/\n<=cap/\BV w (X (U (C g k Z)) m.length (cap-k)) m:=by
 rcases h.2 with⟨hv,h0⟩|⟨g,cap',cur,hv,hb,hg,hnc,hcm,hcs,htake⟩
 .have:=h.1;rw[Ea,qF]at this;omega
 .simp at hv;obtain⟨rfl,rfl⟩:=hv;have hn:n=k+m.length:=by
   have:=h.1;rw[Ea,qF]at this;omega
  refine⟨g,rfl,hn,hnc,U (C g k Z),cap-k,rfl,⟨by omega,fun h=>by simp at h⟩,fun _=>⟨g,k,rfl,(qG.1 hg).1,fun i hi=>?_⟩⟩;rw[h.cellAt (k+i) (by omega)];rw[GN,q7 (by rw[Ea];omega),Ea,show k+i-l.length=i by omega];simp[AG,qC,hi]
theorem Wv(ao:Option Addr)(cap:Nat)(d:List UInt8)(v:L)(l:List Int)(base:Nat)(w:V)(hO:w.ownsRow base 5 1 (.slice ao d.length cap) d.length (AG d))(hd:d.length<=1048576)(hc:wrC l=0)(hb:base<=w.heap.size)
  (hI:∀w1,T base w w1->IntsV w1 v l) :
  J qA 128 #[.slice ao d.length cap,v] w fun e w'=>∃ao' cap',e=M (.slice ao' (d++AD l).length cap')/\T base w w'/\N (w'.ownsRow base 5 1 (.slice ao' (d++AD l).length cap') (d++AD l).length (AG (d++AD l))):=by
 have hl4:l.length<=4000:=by unfold wrC at hc;split at hc<;>omega
 have hany:l.any Ae=false:=by
  unfold wrC at hc;rw[ak (by omega)]at hc;cases h:l.any Ae
  .rfl
  .rw[h]at hc;simp at hc
 obtain⟨bo,bcap,rfl⟩:∃bo bcap,v=.slice bo l.length bcap:=by obtain⟨bo,bcap,h,_⟩:=hI w (qD _ _);exact⟨bo,bcap,h⟩
 have hw1:=OA ao cap d.length (AG d) l.length base w hO (by omega) (by omega) hb;have HWW:N (∀(ao':Option Addr) (cap':Nat) (x:List UInt8) (n:Nat) (w1:V),w1.ownsRow base 5 1 (.slice ao' x.length cap') x.length (AG x)->x.length<=2097152->n<4294967296->T base w w1->J qA 155 #[.slice ao' x.length cap',.int Y n] w1 fun e w'=>∃ao' cap',e=M (.slice ao' (x.length+4) cap')/\T base w w'/\N (w'.ownsRow base 5 1 (.slice ao' (x++A6 n).length cap') (x++A6 n).length (AG (x++A6 n)))):=fun ao' cap' x n w1 h hx hn hb1=>(OA ao' cap' x.length (AG x) n base w1 h hn hx (qI hb hb1.size)).mono fun e w' ⟨a,c,h1,h2,h3⟩=>⟨a,c,h1,hb1.trans h2,by rw[qF,EN,GN];exact h3⟩;have HI:N (∀w1,T base w w1->IntsV w1 (.slice bo l.length bcap) l):=hI;obtain⟨n,hn⟩:∃n,l.length=n:=⟨_,rfl⟩;obtain⟨k,hk⟩:∃k,d.length=k:=⟨_,rfl⟩;have HK:N (d.length=k):=hk;have HN:N (l.length=n):=hn;have HAny:N (l.any Ae=I):=hany;have HFin:N (d++BD n l++A6 (Bm (BD n l))=d++AD l):=by show _=_;rw[AD,HN.out,q9]
 rw[hn]at hw1 hl4 HI⊢;rw[hk]at hw1 hd⊢;have hlr:(d++AD l).length=k+4+4*n+4:=by rw[qF,Cz,HK.out,HN.out];omega
 rw[hlr];have HLr:N ((d++AD l).length=k+4+4*n+4):=hlr;clear hn hI hc hany hO hk hlr;go_enter Tryz.func128,Tryz.ntmps128;go_wp2_with (go_at_call 155;refine hw1.mono ?_;rintro e w1 ⟨a1,c1,rfl,hb1,hO1⟩)
 go_loopw [0,16] (fun u i wr=>∃q:Nat,q<=n/\i=.int Y q/\∃a c,u=.slice a (k+4+4*q) c/\T base w wr/\N (wr.ownsRow base 5 1 (.slice a (k+4+4*q) c) (k+4+4*q) (AG (d++BD n (l.take q))))) (fun _ i _=>n-(intOf i).toNat)
 case atStart=>exact⟨0,qJ _,rfl,a1,c1,rfl,hb1,by rw[show BD n (l.take 0)=A6 n by simp[BD,BL],GN];exact hO1.out⟩
 case round=>
  obtain⟨q,hq,rfl,a,c,rfl,hB,hOq⟩:=hrel;by_cases hlt:q<n
  .have hlt2:q<l.length:=by rw[HN.out];exact hlt
   obtain⟨ao',cap',e1,hat⟩:=HI.out wr hB;injection e1 with e1 e2 e3;subst e1 e3;clear e2;obtain⟨b,off,rfl,_,hca⟩:=hat (by intro h;subst h;simp at hlt2);have c2:=hca q hlt2;have hou:=Mk HAny.out hlt2;have hlx:(d++BD n (l.take q)).length=k+4+4*q:=by rw[qF,Fl,qP,HK.out];omega
   have hww:=HWW.out a c (d++BD n (l.take q)) (l.getD q 0).toNat wr (by rw[hlx];exact hOq.out) (by rw[hlx];omega) (by omega) hB;have hex:((l.getD q 0).toNat:Int)=l.getD q 0:=by omega
   have hnx:d++BD n (l.take q)++A6 (l.getD q 0).toNat=d++BD n (l.take (q+1)):=by rw[BD,BD,PL hlt2];simp only[q9]
   have hlx2:(d++BD n (l.take (q+1))).length=k+4+4*(q+1):=by rw[qF,Fl,qP,HK.out];omega
   rw[hlx,hnx,hlx2,hex]at hww;have e5:k+4+4*q+4=k+4+4*(q+1):=by omega
   rw[e5]at hww;clear hca hat hlx hnx hlx2 hex e5 hou;generalize l.getD q 0=x at *
   go_wp2_with (go_at_call 155;refine hww.mono ?_;rintro e w2 ⟨a2,c2,rfl,hb2,hO2⟩)
   go_roundw
   case rel=>exact⟨q+1,by omega,by go_num,a2,c2,rfl,hb2,hO2⟩
   case measure=>simp[intOf];omega
  .obtain rfl:q=n:=by omega
   have hall:l.take q=l:=by rw[qN];rw[HN.out];omega
   rw[hall]at hOq;have hlx:(d++BD q l).length=k+4+4*q:=by rw[qF,Fl,HK.out,HN.out];omega
   have hlh:(BD q l).length=4+4*q:=by rw[Fl,HN.out]
   obtain⟨g,rfl,hnk,hgc,hbv⟩:=Tl hOq.out HK.out (by omega);clear hnk;have hsum:=Nl _ _ _ (by omega) hbv;have hsl:=J6 (BD q l);have hww:=HWW.out (U (C g 0 Z)) c (d++BD q l) (Bm (BD q l)) wr (by rw[hlx];exact hOq.out) (by rw[hlx];omega) (by omega) hB;rw[HFin.out,hlx]at hww;rw[HLr.out]at hww;rw[hlh]at hsum hbv;have ek:k+4+4*q-k=4+4*q:=by omega
   generalize Bm (BD q l)=sm at *
   go_wp2_with (first|(go_at_call 156;refine hsum.mono ?_;rintro e w2 ⟨rfl,rfl⟩)|(go_at_call 155;refine hww.mono ?_;rintro e w2 ⟨a2,c2,rfl,hb2,hO2⟩))
   go_ret;exact⟨a2,c2,rfl,hb2,hO2⟩
theorem XE{l:List Int}(h:l.length<=4000)(ha:l.any Ae=true):wrC l=2:=by rw[wrC,ak (by omega),aj ha]
theorem KK{l:List Int}(h:l.length<=4000)(ha:l.any Ae=I):wrC l=0:=by rw[wrC,ak (by omega),ak (by rw[ha];simp)]
def AQ(d:List UInt8)(i:Nat):Nat:=(d.getD i 0).toNat * 16777216+(d.getD (i+1) 0).toNat * 65536+(d.getD (i+2) 0).toNat * 256+(d.getD (i+3) 0).toNat
theorem Gf(d:List UInt8)(i:Nat):AQ d i<4294967296:=by
 have h0:=im (d.getD i 0);have h1:=im (d.getD (i+1) 0);have h2:=im (d.getD (i+2) 0);have h3:=im (d.getD (i+3) 0);unfold AQ;omega
theorem Jc{a b k:Nat}(hb:b<2^k):(a*2^k) ||| b=a*2^k+b:=by
 rw[<-Nat.shiftLeft_eq,<-Nat.shiftLeft_add_eq_or_of_lt hb]
theorem Jb{a b:Nat}(ha:a<9223372036854775808)(hb:b<9223372036854775808):bits BinOp.or aY (a:Int) (b:Int)=((a ||| b:Nat):Int):=by
 have hx:a ||| b<2^63:=Nat.or_lt_two_pow (by omega) (by omega);have h1:(BitVec.ofInt 64 (a:Int)).toNat=a:=by
  rw[BitVec.ofInt_natCast,BitVec.toNat_ofNat];exact kJ (by omega)
 have h2:(BitVec.ofInt 64 (b:Int)).toNat=b:=by
  rw[BitVec.ofInt_natCast,BitVec.toNat_ofNat];exact kJ (by omega)
 show aY.wrap ((BitVec.ofInt 64 (a:Int) ||| BitVec.ofInt 64 (b:Int)).toNat:Int)=_;rw[BitVec.toNat_or,h1,h2,gG];exact gH _ (by omega)
theorem Tf{y0 y1 y2 y3:Nat}(x0:y0<2^8)(x1:y1<2^8)(x2:y2<2^8)(x3:y3<2^8):bits BinOp.or aY (bits BinOp.or aY (bits BinOp.or aY ((y0:Int)*16777216) ((y1:Int)*65536)) ((y2:Int)*256)) (y3:Int)=((y0*16777216+y1*65536+y2*256+y3:Nat):Int):=by
 have e0:(y0:Int)*16777216=((y0*2^24:Nat):Int):=by omega
 have e1:(y1:Int)*65536=((y1*65536:Nat):Int):=by omega
 have e2:(y2:Int)*256=((y2*256:Nat):Int):=by omega
 rw[e0,e1,e2,Jb (by omega) (by omega),Jc (by omega),show y0*2^24+y1*65536=(y0*256+y1)*2^16 by omega,Jb (by omega) (by omega),Jc (by omega),show(y0*256+y1)*2^16+y2*256=(y0*65536+y1*256+y2)*2^8 by omega,Jb (by omega) (by omega),Jc (by omega)]
theorem KI(ao:Option Addr)(cap:Nat)(d:List UInt8)(w:V)(h4:4<=d.length)(hl:d.length<=1048576)(hV:BV w (.slice ao d.length cap) d) :
  J qA 169 #[.slice ao d.length cap] w fun e w'=>e=M (.int Y (AQ d 0))/\∃q,w'=w.drewN q:=by
 obtain⟨ao',cap',e1,_,hat⟩:=hV;injection e1 with e1 e2 e3;subst e1 e3;clear e2;obtain⟨b,off,rfl,_,hba⟩:=hat (by intro h;subst h;simp at h4);have c0:=hba 0 (by omega);have c1:=hba 1 (by omega);have c2:=hba 2 (by omega);have c3:=hba 3 (by omega);rw[Nat.add_zero]at c0;unfold AQ;simp only[qV];have x0:=im (d.getD 0 0);have x1:=im (d.getD 1 0);have x2:=im (d.getD 2 0);have x3:=im (d.getD 3 0);generalize(d.getD 0 0).toNat=y0 at *;generalize(d.getD 1 0).toNat=y1 at *;generalize(d.getD 2 0).toNat=y2 at *;generalize(d.getD 3 0).toNat=y3 at *
 generalize d.length=n at *;clear hba hat;have HO:=Tf x0 x1 x2 x3;have HO':N (bits BinOp.or aY (bits BinOp.or aY (bits BinOp.or aY ((y0:Int)*16777216) ((y1:Int)*65536)) ((y2:Int)*256)) (y3:Int)=((y0*16777216+y1*65536+y2*256+y3:Nat):Int)):=HO;clear HO
 go_enter Tryz.func169,Tryz.ntmps169;go_wp2_with fail
 go_quiet (fail)
 go_wp2_with fail
 go_ret;exact⟨by rw[<-HO'.out];rfl,_,rfl⟩
theorem IA{a b:UInt8}(h:a.toNat=b.toNat):a=b:=ij.inj h
theorem OC{x y:Nat}(hx:x<4294967296)(hy:y<4294967296)(h:A6 x=A6 y):x=y:=by
 simp only[A6,List.cons.injEq,and_true]at h;obtain⟨h0,h1,h2,h3⟩:=h;have g0:=congrArg ij h0;have g1:=congrArg ij h1;have g2:=congrArg ij h2;have g3:=congrArg ij h3;simp only[ip]at g0 g1 g2 g3;omega
theorem Q7{d:List UInt8}{i:Nat}(h:i+4<=d.length):(d.drop i).take 4=[d.getD i 0,d.getD (i+1) 0,d.getD (i+2) 0,d.getD (i+3) 0]:=by
 apply jN;intro j;rw[jY];by_cases hj:j<4
 .rw[aj hj,List.getElem?_drop];have hc:j=0\/j=1\/j=2\/j=3:=by omega
  rcases hc with rfl|rfl|rfl|rfl<;>simp[qC,show i<d.length by omega,show i+1<d.length by omega,show i+2<d.length by omega,show i+3<d.length by omega]
 .rw[ak hj,vF (by simp;omega)]
theorem ID{d:List UInt8}{i:Nat}(h:i+4<=d.length):A6 (AQ d i)=(d.drop i).take 4:=by
 rw[Q7 h];have h0:=im (d.getD i 0);have h1:=im (d.getD (i+1) 0);have h2:=im (d.getD (i+2) 0);have h3:=im (d.getD (i+3) 0);unfold A6 AQ;congr 1
 .exact IA (by rw[ip];omega)
 .congr 1
  .exact IA (by rw[ip];omega)
  .congr 1
   .exact IA (by rw[ip];omega)
   .congr 1
    exact IA (by rw[ip];omega)
theorem LX{x:Nat}(hx:x<4294967296)(p:List UInt8)(q:List UInt8):AQ (p++(A6 x++q)) p.length=x:=by
 refine OC (Gf _ _) hx ?_;rw[ID (by simp[EN]),yO,jO (by rw[EN];omega),qN (by rw[EN];omega)]
def Ai(d:List UInt8)(n:Nat):List Int:=(List.range n).map fun i=>(AQ d (4+4*i):Int)
theorem DQ(d:List UInt8)(n:Nat):(Ai d n).length=n:=by simp[Ai]
theorem JS(d:List UInt8)(n:Nat):Ai d (n+1)=Ai d n++[(AQ d (4+4*n):Int)]:=by
 unfold Ai;rw[xL,vJ];rfl
theorem Kn{d:List UInt8}:∀{n:Nat},4*n+4<=d.length->BL (Ai d n)=(d.drop 4).take (4*n)
 |0,_=>by simp[Ai,BL]
 |n+1,h=>by
  rw[JS];have e:BL (Ai d n++[(AQ d (4+4*n):Int)])=BL (Ai d n)++A6 (AQ d (4+4*n)):=by simp[BL]
  rw[e,Kn (by omega),ID (by omega),show 4*(n+1)=4*n+4 by omega,xU];congr 1
  rw[yN]
theorem RJ{d:List UInt8}{n:Nat}(hn:n=AQ d 0)(h:4*n+4<=d.length):BD n (Ai d n)=d.take (4*n+4):=by
 rw[BD,Kn h,hn,ID (by omega),jP,<-hn,show 4*n+4=4+4*n by omega,xU]
def Ab(d:List UInt8):Option (List Int):=
 if d.length<4 then Z else if 4000<AQ d 0\/d.length<4*AQ d 0+8 then Z
 else if AQ d (4*AQ d 0+4)≠Bm (d.take (4*AQ d 0+4))then Z
 else if(Ai d (AQ d 0)).any Ae=true then Z else U (Ai d (AQ d 0))
theorem NI{d:List UInt8}(h1:¬d.length<4)(h2:¬(4000<AQ d 0\/d.length<4*AQ d 0+8)) :
  (wrC (Ai d (AQ d 0))=0/\AD (Ai d (AQ d 0))=(d.drop 0).take (4*AQ d 0+8))↔Ab d=U (Ai d (AQ d 0)):=by
 obtain⟨n,hn⟩:∃n,n=AQ d 0:=⟨_,rfl⟩;rw[<-hn]at h2⊢;have hh:=RJ hn (show 4*n+4<=d.length by omega);have hrec:AD (Ai d n)=d.take (4*n+4)++A6 (Bm (d.take (4*n+4))):=by rw[AD,DQ,hh]
 have htk:d.take (4*n+8)=d.take (4*n+4)++A6 (AQ d (4*n+4)):=by
  rw[ID (by omega),show 4*n+8=4*n+4+4 by omega,xU]
 rw[jP,hrec,htk];unfold Ab;rw[ak h1,<-hn,ak h2];have hlen:(Ai d n).length<=4000:=by rw[DQ];omega
 constructor
 .rintro ⟨hw,he⟩;have:=OC (by have:=J6 (d.take (4*n+4));omega) (Gf _ _) (List.append_cancel_left he);rw[ak (by rw[this];simp)];cases ha:(Ai d n).any Ae
  .simp
  .rw[XE hlen ha]at hw;simp at hw
 .intro h;by_cases hs:AQ d (4*n+4)=Bm (d.take (4*n+4))
  .rw[ak (by simp[hs])]at h;cases ha:(Ai d n).any Ae
   .exact ⟨KK hlen ha,by rw[hs]⟩
   .rw[ha]at h;simp at h
  .rw[aj hs]at h;simp at h
theorem Jr{d:List UInt8}{l:List Int}(h:Ab d=U l):wrC l=0/\l.length=AQ d 0/\4*l.length+8<=d.length/\AD l=d.take (4*l.length+8)/\l=Ai d (AQ d 0):=by
 have h1:¬d.length<4:=by intro h1;rw[Ab,aj h1]at h;cases h
 have h2:¬(4000<AQ d 0\/d.length<4*AQ d 0+8):=by intro h2;rw[Ab,ak h1,aj h2]at h;cases h
 have hl:l=Ai d (AQ d 0):=by
  have h':=h;unfold Ab at h';rw[ak h1,ak h2]at h';split at h'
  .cases h'
  .split at h'
   .cases h'
   .exact (Option.some.inj h').symm
 have:=(NI h1 h2).2 (by rw[h,hl]);rw[<-hl]at this;have hlen:l.length=AQ d 0:=by rw[hl,DQ]
 exact⟨this.1,hlen,by omega,by rw[this.2,jP,hlen],hl⟩
def run:Nat->List UInt8->List (List Int)×Nat
 |0,_=>([],0)
 |k+1,d=>match Ab (d.drop (run k d).2)with
  |none=>run k d
  |some l=>((run k d).1++[l],(run k d).2+(4*l.length+8))
theorem FK(d:List UInt8):∀k,(run k d).2<=d.length
 |0=>qJ _
 |k+1=>by
  have ih:=FK d k;show(match Ab (d.drop (run k d).2)with|none=>run k d|some l=>((run k d).1++[l],(run k d).2+(4*l.length+8))).2<=_;cases h:Ab (d.drop (run k d).2)with
  |none=>exact ih
  |some l=>
   have:=(Jr h).2.2.1;rw[qO]at this;show(run k d).2+(4*l.length+8)<=d.length;omega
theorem EK{d:List UInt8}{k:Nat}{l:List Int}(h:Ab (d.drop (run k d).2)=U l):run (k+1) d=((run k d).1++[l],(run k d).2+(4*l.length+8)):=by
 show(match Ab (d.drop (run k d).2)with|none=>run k d|some l=>((run k d).1++[l],(run k d).2+(4*l.length+8)))=_;rw[h]
theorem Ep{d:List UInt8}{k:Nat}(h:Ab (d.drop (run k d).2)=Z):∀j,run (k+j) d=run k d
 |0=>rfl
 |j+1=>by
  show(match Ab (d.drop (run (k+j) d).2)with|none=>run (k+j) d|some l=>((run (k+j) d).1++[l],(run (k+j) d).2+(4*l.length+8)))=_;rw[Ep h j,h]
def Ax(d:List UInt8):List (List Int)×Nat:=run d.length d
theorem Jq{d:List UInt8}{k:Nat}(hk:8*k<=(run k d).2)(h:Ab (d.drop (run k d).2)=Z):Ax d=run k d:=by
 have:=FK d k;have e:=Ep h (d.length-k);rw[show k+(d.length-k)=d.length by omega]at e;exact e
theorem Jt(d:List UInt8):∀k,8*(run k d).1.length<=(run k d).2
 |0=>qB _
 |k+1=>by
  have ih:=Jt d k;show 8*(match Ab (d.drop (run k d).2)with|none=>run k d|some l=>((run k d).1++[l],(run k d).2+(4*l.length+8))).1.length<=(match Ab (d.drop (run k d).2)with|none=>run k d|some l=>((run k d).1++[l],(run k d).2+(4*l.length+8))).2;cases h:Ab (d.drop (run k d).2)with
  |none=>exact ih
  |some l=>show 8*((run k d).1++[l]).length<=(run k d).2+(4*l.length+8);rw[qF,List.length_singleton];omega
section
variable{H:Type}{enc:TypeId×L -> H}{W:V}
end
theorem Ld(d:List UInt8)(k i:Nat):(d.drop k).getD i 0=d.getD (k+i) 0:=by simp[qC]
theorem LW(d:List UInt8)(k i:Nat):AQ (d.drop k) i=AQ d (k+i):=by
 unfold AQ;simp only[Ld,zU]
theorem BV.at{w:V}{ao:Option Addr}{m cap:Nat}{d:List UInt8}(h:BV w (X ao m cap) d)(hne:0<d.length):∃b off,ao=U (C b off Z)/\b<w.heap.size/\m=d.length/\m<=cap/\CK w b off d:=by
 obtain⟨ao',cap',e1,⟨h0,_⟩,hat⟩:=h;injection e1 with e1 e2 e3;subst e1 e3;obtain⟨b,off,e,hlt,hba⟩:=hat (by intro h;subst h;simp at hne);exact⟨b,off,e,hlt,e2,by omega,hba⟩
theorem CK.drop{w:V}{b off cap:Nat}{d:List UInt8}(h:CK w b off d)(hb:b<w.heap.size)(hc:d.length<=cap)(k:Nat):BV w (X (U ⟨b,off+k,Z⟩) (d.drop k).length (cap-k)) (d.drop k):=by
 refine⟨_,_,rfl,⟨by rw[qO];omega,fun h=>by simp at h⟩,fun _=>⟨b,off+k,rfl,hb,fun i hi=>?_⟩⟩;rw[qO]at hi;rw[Ld,zU];exact h (k+i) (by omega)
theorem CK.take{w:V}{b off cap:Nat}{d:List UInt8}(h:CK w b off d)(hb:b<w.heap.size)(hc:d.length<=cap)(k:Nat):BV w (X (U (C b off Z)) (d.take k).length cap) (d.take k):=by
 refine⟨_,_,rfl,⟨by rw[qP];omega,fun h=>by simp at h⟩,fun _=>⟨b,off,rfl,hb,fun i hi=>?_⟩⟩;rw[qP]at hi;rw[h i (by omega)];simp[qC,show i<k by omega]
theorem Tp{w:V}{B base n:Nat}{l:List Int}(h:w.rowIs B 3 n (fun j=>.int Y (l.getD j 0)))(hb:base<=B)(hn:l.length=n)(hm:n<=4000):w.ownsRow base 3 1 (X (U (C B 0 Z)) n n) n (AB l):=by
 obtain⟨c,h1,h2,h3⟩:=h;refine⟨by simp[AB,hn],.inr ⟨B,n,c,rfl,hb,h1,qB _,by unfold maxLen;omega,by omega,?_⟩⟩;apply jN;intro i;rw[jY];by_cases hi:i<n
 .rw[aj (by omega),Array.getElem?_toList,h3 i hi];simp[AB,qC,show i<l.length by omega]
 .rw[ak (by omega),vF (by simp[AB];omega)]
theorem TQ{d:List UInt8}{q j:Nat}:(if j=q then(AQ d (4+4*q):Int)else(Ai d q).getD j 0)=(Ai d (q+1)).getD j 0:=by
 rw[JS];by_cases hj:j=q
 .subst hj;rw[aj rfl,qC,q7 (by rw[DQ];omega),DQ,jR];rfl
 .rw[ak hj];by_cases hlt:j<q
  .rw[qC,qC,qX (by rw[DQ];omega)]
  .rw[qC,qC,vF (by rw[DQ];omega),vF (by rw[qF,DQ];simp;omega)]
def Di(w:V)(d:List UInt8)(e:Ending)(w':V):Prop:=
 T w.heap.size w w'/\(Ab d=Z->e=M (G #[X Z 0 0,.bool I]))/\
  ∀l,Ab d=U l->∃ao cap,e=M (G #[.slice ao l.length cap,.bool true])/\N (w'.ownsRow w.heap.size 3 1 (.slice ao l.length cap) l.length (AB l))
theorem Di.none{w w':V}{d:List UInt8}(hb:T w.heap.size w w')(h:Ab d=.none):Di w d (M (G #[.slice .none 0 0,.bool I])) w':=⟨hb,fun _=>rfl,fun l hl=>by rw[h]at hl;cases hl⟩
theorem UV(ao:Option Addr)(cap:Nat)(d:List UInt8)(w:V)(hl:d.length<=1048576)(hV:BV w (.slice ao d.length cap) d) :
  J qA 134 #[.slice ao d.length cap] w (Di w d):=by
 by_cases h4:d.length<4
 .have HR:N (Ab d=Z):=by show _=_;rw[Ab,aj h4]
  generalize hm:d.length=m at *;have HM:N (d.length=m):=hm;clear hm hV
  go_enter gP,gX;go_wp2;go_ret2;exact Di.none (qD _ _) HR.out
 .obtain ⟨b,off,rfl,hbl,_,hmc,hba⟩:=hV.at (by omega);have hwd:=KI _ cap d w (by omega) hl hV;have hnl:=Gf d 0;obtain⟨n,hn⟩:∃n,AQ d 0=n:=⟨_,rfl⟩;have HN:N (AQ d 0=n):=hn;by_cases hbig:4000<n\/d.length<4*n+8
  .have HR:N (Ab d=Z):=by show _=_;rw[Ab,ak h4,aj (by rw[hn];exact hbig)]
   rw[hn]at hwd hnl;have hrb:=fun w1=>F0 n w1 (by omega);obtain⟨y,hy⟩:∃y,4*n+8=y:=⟨_,rfl⟩;rw[hy]at hrb hbig;generalize hm:d.length=m at *;have HM:N (d.length=m):=hm;have HY:N (4*n+8=y):=hy;clear hm hV hn hba hy
   by_cases hb4:4000<n
   .go_enter gP,gX;go_wp2_with (first|(go_at_call 169;refine hwd.mono ?_;rintro e w1 ⟨rfl,q,rfl⟩)|(go_at_call 127;refine(hrb _).mono ?_;rintro e w1 ⟨rfl,rfl⟩))
    go_ret2;exact Di.none (below_drewN (qD _ _) _) HR.out
   .have hyl:m<y:=by omega
    clear hbig;go_enter gP,gX;go_wp2_with (first|(go_at_call 169;refine hwd.mono ?_;rintro e w1 ⟨rfl,q,rfl⟩)|(go_at_call 127;refine(hrb _).mono ?_;rintro e w1 ⟨rfl,rfl⟩))
    go_ret2;exact Di.none (below_drewN (qD _ _) _) HR.out
  .have hb4:¬4000<n:=by omega
   have hyl:4*n+8<=d.length:=by omega
   have hrb:=fun w1=>F0 n w1 (by omega);have HV:N (∀w1,T w.heap.size w w1->CK w1 b off d):=fun w1 hb=>hba.below hb hbl;obtain⟨sp,hsp⟩:∃sp,4*n+4=sp:=⟨_,rfl⟩;obtain⟨y,hy⟩:∃y,4*n+8=y:=⟨_,rfl⟩;have hsy:wrap64 ((y:Int)-4)=(sp:Int):=by rw[gH _ (by omega)];omega
   have hsy':aY.wrap ((y:Int)-4)=(sp:Int):=by rw[gG];exact hsy
   have HW2:N (∀w1,T w.heap.size w w1->J qA 169 #[X (U ⟨b,off+sp,Z⟩) (d.length-sp) (cap-sp)] w1 fun e w'=>e=M (.int Y (AQ d sp))/\∃q,w'=w1.drewN q):=fun w1 hb=>by
    have:=KI _ (cap-sp) (d.drop sp) w1 (by rw[qO];omega) (by rw[qO];omega) ((hba.below hb hbl).drop (qE hbl hb.size) hmc sp);rw[LW,qO]at this;exact this
   have HS2:N (∀w1,T w.heap.size w w1->J qA 156 #[X (U (C b off Z)) sp cap] w1 fun e w'=>e=M (.int Y (Bm (d.take sp)))/\w'=w1):=fun w1 hb=>by
    have:=Nl _ (d.take sp) w1 (by rw[qP];omega) ((hba.below hb hbl).take (qE hbl hb.size) hmc sp);rw[qP,jT (by omega)]at this;exact this
   have HNone:N (AQ d sp≠Bm (d.take sp)->Ab d=Z):=fun h=>by
    rw[Ab,ak h4,ak (by rw[hn];omega),hn,hsp,aj h]
   have HGo:N (AQ d sp=Bm (d.take sp)->Ab d=if(Ai d n).any Ae=true then Z else U (Ai d n)):=fun h=>by
    rw[Ab,ak h4,ak (by rw[hn];omega),hn,hsp,ak (by simp[h])]
   have hspl:sp<=d.length:=by omega
   have HWn:N (∀(i:Nat) (w1:V),i<n->T w.heap.size w w1->J qA 169 #[X (U ⟨b,off+(4+4*i),Z⟩) (d.length-(4+4*i)) (cap-(4+4*i))] w1 fun e w'=>e=M (.int Y (AQ d (4+4*i)))/\∃q,w'=w1.drewN q):=fun i w1 hi hb=>by
    have:=KI _ (cap-(4+4*i)) (d.drop (4+4*i)) w1 (by rw[qO];omega) (by rw[qO];omega) ((hba.below hb hbl).drop (qE hbl hb.size) hmc _);rw[LW,qO]at this;exact this
   have hmk:=run_make_row' (P:=qA) 43 3 (.int Y 0) 8 Tryz.underlying43 BS rfl .i64 .i64 n (by omega) (by omega);rw[hn]at hwd;rw[hy]at hrb hyl;generalize hm:d.length=m at *;have HM:N (d.length=m):=hm;have HY:N (4*n+8=y/\4*n+4=sp):=⟨hy,hsp⟩;have i1:(sp:Int)<=(m:Int):=by omega
   have i2:(0:Int)<=(sp:Int):=by omega
   have i3:sp<=cap:=by omega
   have i4:(sp:Int)<=(cap:Int):=by omega
   have i5:¬cap=sp:=by omega
   clear hm hV hn hba hy hsp;generalize hfd:AQ d sp=fs at *;generalize hsd:Bm (d.take sp)=sm at *;clear hfd hsd
   by_cases hfs:fs=sm
   .subst hfs;have hgo:=HGo.out (by trivial);have HGo':N (Ab d=if(Ai d n).any Ae=true then Z else U (Ai d n)):=hgo;clear hgo HGo HNone;go_enter gP,gX;go_wp2_with (first|(go_at_call 169;refine hwd.mono ?_;rintro e w1 ⟨rfl,q,rfl⟩)|(go_at_call 127;refine(hrb _).mono ?_;rintro e w1 ⟨rfl,rfl⟩))
    have hq1:T w.heap.size w (w.drewN q):=below_drewN (qD _ _) _;generalize w.drewN q=w1 at *;have hq2:T w.heap.size w w1.drew:=hq1.drew
    go_region_held3 (fun _=>True) (first|trivial) (first|(go_at_call 169;refine(HW2.out _ hq2).mono ?_;rintro e w2 ⟨rfl,q2,HE⟩;have hq3:T w.heap.size w w2:=HE▸below_drewN hq2 _;clear HE)|(go_at_call 156;refine(HS2.out _ hq3).mono ?_;rintro e w3 ⟨rfl,rfl⟩))
    go_wp2_with fail
    have hw3:=hq3.size;have hrow0:=World.rowIs_made w3 (.int Y 0) n 3;have hbr0:T w.heap.size w (w3.alloc (O (madeCells #[.int Y 0] n) 3)):=hq3.alloc hq3.size _;have hrz:∀a:L,N (w3.heap.size≥w.heap.size):=fun _=>hw3;obtain⟨B,hB⟩:∃B,w3.heap.size=B:=⟨_,rfl⟩;rw[hB]at hrow0 hw3⊢;clear hrz hB;go_loopw [38] (fun i wr=>∃q:Nat,q<=n/\i=.int Y q/\N ((Ai d q).any Ae=I)/\T w.heap.size w wr/\N (wr.rowIs B 3 n (fun j=>.int Y ((Ai d q).getD j 0)))) (fun i _=>n-(intOf i).toNat)
    case atStart=>exact⟨0,qJ _,rfl,rfl,hbr0,hrow0.congr (fun i _=>by simp[Ai])⟩
    case round=>
     obtain⟨q,hqn,rfl,HT,hBr,hR⟩:=hrel;by_cases hlt:q<n
     .obtain ⟨p,hp⟩:∃p,(q+1)*4=p:=⟨_,rfl⟩;have hp4:p=4+4*q:=by omega
      have hwn:=HWn.out q wr hlt hBr;rw[<-hp4]at hwn;have hou:=fun w1=>Ml (AQ d p) w1;have hpy:p+4<=m:=by have:=HY.out;omega
      have hfour:=Gf d p;have HSn:N ((Ai d (q+1)).any Ae=Ae (AQ d p)):=by
       show _=_;rw[JS,zD,HT.out,<-hp4];simp
      have HAn:N (Ae (AQ d p)=true->(Ai d n).any Ae=true):=fun h=>by
       refine vD.2 ⟨(AQ d p:Int),?_,h⟩;rw[hp4];exact vH.2 ⟨q,vA.2 hlt,rfl⟩
      have HSet:N (∀w1:V,w1.rowIs B 3 n (fun j=>.int Y ((Ai d q).getD j 0))->(w1.setCell (C B q Z) (.int Y (AQ d p))).rowIs B 3 n (fun j=>.int Y ((Ai d (q+1)).getD j 0))/\(w1.setCell (C B q Z) (.int Y (AQ d p))).cell? (C B q Z)=U (.int Y (AQ d p))):=fun w1 h=>by
       have h2:=h.set q (.int Y (AQ d p));refine⟨h2.congr fun j hj=>?_,by rw[h2.cell hlt];simp⟩;rw[<-TQ,<-hp4];by_cases e:j=q
       .simp[e]
       .simp[e]
      have HCe:N (∀w1:V,w1.rowIs B 3 n (fun j=>.int Y ((Ai d q).getD j 0))->w1.cell? (C B q Z)=U (.int Y ((Ai d q).getD q 0))/\w1.frozen? (C B q Z)=I):=fun w1 h=>⟨h.cell hlt,h.frozen q⟩;rw[<-hp]at hwn hou HSn HAn HSet hpy hfour;have k6:¬cap=(q+1)*4:=by omega
      have k4:(q+1)*4<=cap:=by omega
      clear hp4 HT hp;generalize AQ d ((q+1)*4)=x at *;generalize(Ai d q).getD q 0=oldx at HCe;generalize ho:Ae (x:Int)=o at *
      cases o
      .have HSn':N ((Ai d (q+1)).any Ae=I):=HSn.out;go_wp2_with (first|(go_at_call 169;refine hwn.mono ?_;rintro e w4 ⟨rfl,q4,HE⟩;have hb4:T w.heap.size w w4:=HE▸below_drewN hBr _;have hr4:w4.rowIs B 3 n (fun j=>.int Y ((Ai d q).getD j 0)):=CA hR.out (HE▸below_drewN (qD _ _) _);clear HE;obtain⟨cc4,ff4⟩:=HCe.out w4 hr4;obtain⟨hr5,cc5⟩:=HSet.out w4 hr4)|(go_at_call 126;refine(hou _).mono ?_;rintro e w5 ⟨rfl,HE5⟩))
       refine⟨⟨q+1,by omega,by go_num,HSn'.out,?_,?_⟩,by simp[intOf];omega⟩
       .exact hb4.setCell (p:=(C B q Z)) hw3 _
       .exact hr5
      .have HR:N (Ab d=Z):=by show _=_;rw[HGo'.out,aj (HAn.out (by trivial))]
       go_wp2_with (first|(go_at_call 169;refine hwn.mono ?_;rintro e w4 ⟨rfl,q4,HE⟩;have hb4:T w.heap.size w w4:=HE▸below_drewN hBr _;have hr4:w4.rowIs B 3 n (fun j=>.int Y ((Ai d q).getD j 0)):=CA hR.out (HE▸below_drewN (qD _ _) _);clear HE;obtain⟨cc4,ff4⟩:=HCe.out w4 hr4;obtain⟨hr5,cc5⟩:=HSet.out w4 hr4)|(go_at_call 126;refine(hou _).mono ?_;rintro e w5 ⟨rfl,HE5⟩))
       go_ret2;exact Di.none (hb4.setCell (p:=(C B q Z)) hw3 _) HR.out
     .obtain rfl:q=n:=by omega
      have HR:N (Ab d=U (Ai d q)):=by show _=_;rw[HGo'.out,ak (by rw[HT.out];simp)]
      have hown:=Tp (base:=w.heap.size) hR.out hw3 (DQ d q) (by omega);have HOwn:N (wr.ownsRow w.heap.size 3 1 (X (U (C B 0 Z)) q q) q (AB (Ai d q))):=hown;clear hown HT HWn HW2 HS2 HV hmk hwd hrb;go_wp2_with fail
      go_ret2;refine⟨hBr,fun h=>(by rw[HR.out]at h;cases h),fun l hl=>?_⟩;rw[HR.out]at hl;obtain rfl:=Option.some.inj hl;rw[DQ];exact⟨_,_,rfl,HOwn⟩
   .have HR:N (Ab d=Z):=HNone.out hfs;have hfs2:¬((fs:Int)=(sm:Int)):=by omega
    go_enter gP,gX;go_wp2_with (first|(go_at_call 169;refine hwd.mono ?_;rintro e w1 ⟨rfl,q,rfl⟩)|(go_at_call 127;refine(hrb _).mono ?_;rintro e w1 ⟨rfl,rfl⟩))
    have hq1:T w.heap.size w (w.drewN q):=below_drewN (qD _ _) _;generalize w.drewN q=w1 at *;have hq2:T w.heap.size w w1.drew:=hq1.drew
    go_region_held3 (fun _=>True) (first|trivial) (first|(go_at_call 169;refine(HW2.out _ hq2).mono ?_;rintro e w2 ⟨rfl,q2,HE⟩;have hq3:T w.heap.size w w2:=HE▸below_drewN hq2 _;clear HE)|(go_at_call 156;refine(HS2.out _ hq3).mono ?_;rintro e w3 ⟨rfl,rfl⟩))
    go_wp2_with fail
    go_ret2;exact Di.none hq3 HR.out
def LisO(w:V)(base:Nat)(v:L)(rs:List (List Int)):Prop:=
 ∃us,w.ownsRow base 43 1 v rs.length us/\us.length=rs.length/\∀i,i<rs.length->w.ownsRow base 3 1 (us.getD i DO) (rs.getD i []).length (AB (rs.getD i []))
theorem LisO.nil(w:V)(base:Nat):LisO w base (X Z 0 0) []:=⟨[],aX _ _ _ _,rfl,fun i hi=>by simp at hi⟩
theorem LisO.mono{w:V}{base base':Nat}{v:L}{rs:List (List Int)}(h:LisO w base v rs)(hb:base'<=base):LisO w base' v rs:=by
 obtain⟨us,h1,h2,h3⟩:=h;exact⟨us,Az h1 hb,h2,fun i hi=>Az (h3 i hi) hb⟩
theorem LisO.later{w w':V}{base B:Nat}{v:L}{rs:List (List Int)}(h:LisO w base v rs)(hb:T B w w')(hB:w.heap.size<=B):LisO w' base v rs:=by
 obtain⟨us,h1,h2,h3⟩:=h;exact⟨us,Ap h1 hb hB,h2,fun i hi=>Ap (h3 i hi) hb hB⟩
theorem LisO.snoc{w w':V}{base:Nat}{v v' u:L}{us:List L}{rs:List (List Int)}{l:List Int}(h1:w.ownsRow base 43 1 v rs.length us)(h2:us.length=rs.length)(h3:∀i,i<rs.length->w.ownsRow base 3 1 (us.getD i DO) (rs.getD i []).length (AB (rs.getD i [])))
  (hu:w.ownsRow base 3 1 u l.length (AB l)) (ho:w'.ownsRow base 43 1 v' (rs.length+1) (us++[u])) (hg:w.grownBy w' v.ownBlock):LisO w' base v' (rs++[l]):=by
 refine⟨us++[u],by simpa using ho,by simp[h2],fun i hi=>?_⟩;rw[E8,E8,h2];have hne:∀(x:L) (n:Nat) (xs:List L),w.ownsRow base 3 1 x n xs->x.ownBlock=Z\/x.ownBlock≠v.ownBlock:=fun x n xs hx=>En (by decide) hx h1;by_cases hlt:i<rs.length
 .rw[aj hlt,aj hlt];exact(h3 i hlt).kept hg (hne _ _ _ (h3 i hlt))
 .rw[ak hlt,ak hlt];have:i=rs.length:=by simp at hi;omega
  subst this;rw[jR];exact hu.kept hg (hne _ _ _ hu)
theorem FH(w:V)(a:L)(t:TypeId):∀j u,[a][j]? = U u->(w.alloc (O #[a] t)).cell? ((⟨w.heap.size,0,Z⟩:Addr).add j)=U u:=by
 intro j u hj;match j,hj with
 |0,hj=>simp at hj;subst hj;simp[Addr.add,go_sem]
theorem CK.rest{w:V}{b off cap:Nat}{d:List UInt8}(h:CK w b off d)(hb:b<w.heap.size)(hc:d.length<=cap){k:Nat}(hk:k<=d.length):BV w (.slice (if cap=k then U (C b off Z)else U ⟨b,off+k,Z⟩) (d.length-k) (cap-k)) (d.drop k):=by
 by_cases e:cap=k
 .rw[aj e];have:d.drop k=[]:=List.drop_eq_nil_of_le (by omega);rw[this];exact⟨U (C b off Z),cap-k,by simp;omega,⟨by simp,fun h=>by simp at h⟩,fun h=>absurd rfl h⟩
 .rw[ak e];have:=h.drop hb hc k;rw[qO]at this;exact this
theorem UW(x:Option Addr)(c:Nat)(w:V):J qA 134 #[X x 0 c] w fun e w'=>e=M (G #[X Z 0 0,.bool I])/\w'=w:=by
 go_enter gP,gX;go_wp2;go_ret2;exact⟨rfl,rfl⟩
theorem Ui{n a m:Nat}(h1:8*n<=a)(h2:a<=m)(h3:m<=1048576):(n+1)*24<=140737488355328/\n+1<=maxLen:=by
 unfold maxLen;omega
theorem Vp{m a y:Nat}(h:a+y<=m)(hy:8<=y):m-(intOf (Value.int .i64 ((a:Int)+(y:Int)))).toNat<m-(intOf (Value.int .i64 (a:Int))).toNat:=by
 have hi1:(intOf (Value.int .i64 ((a:Int)+(y:Int)))).toNat=a+y:=by show((a:Int)+(y:Int)).toNat=a+y;omega
 have hi2:(intOf (Value.int .i64 (a:Int))).toNat=a:=by show((a:Int)).toNat=a;omega
 rw[hi1,hi2];omega
def GE(w:V)(d:List UInt8)(e:Ending)(w':V):Prop:=
 ∃ao cap,e=M (G #[.slice ao (Ax d).1.length cap,.int Y (Ax d).2,.int Y 0])/\T w.heap.size w w'/\N (LisO w' w.heap.size (.slice ao (Ax d).1.length cap) (Ax d).1)
theorem Jo(ao:Option Addr)(cap:Nat)(d:List UInt8)(s:Int)(w:V)(hm:BN d.length s=true)(hV:BV w (.slice ao d.length cap) d) :
  J qA 104 #[F #[.slice ao d.length cap,.int Y s]] w (GE w d):=by
 have hl:d.length<=1048576:=by simp[BN]at hm;omega
 obtain⟨hbA,hcA⟩:=Bc.arg w (.slice ao d.length cap) (.int Y s) 159;have hmb:=Ft ao d.length cap s (w.alloc (O #[.slice ao d.length cap,.int Y s] 159));rw[hm]at hmb;have HA:N (∀w1,T (w.alloc (O #[.slice ao d.length cap,.int Y s] 159)).heap.size (w.alloc (O #[.slice ao d.length cap,.int Y s] 159)) w1->T w.heap.size w w1/\Bc w1 w.heap.size (.slice ao d.length cap) (.int Y s)):=fun w1 hb=>⟨ae hbA hb,hcA.later hb⟩;obtain⟨i0,hi,hz0,hz1,hz2⟩:=info_parts D7;by_cases hd0:d=[]
 .subst hd0;have hrn:=fun(x:Option Addr) (c:Nat) (w1:V)=>UW x c w1;have HL:N (Ax []=([],0)):=by show _=_;rfl
  simp only[List.length_nil]at hmb HA⊢;obtain⟨ao',cap',e1,⟨hlc,hno⟩,_⟩:=id hV;injection e1 with e1 e2 e3;subst e1 e3;clear e2 hV hm hbA hcA;have hc0:(0:Int)<=(cap:Int):=by omega
  cases ao with
  |none=>
   obtain⟨rfl,_⟩:=hno rfl;go_enter gL,gT;go_wp2_with (first|(go_at_call 124;refine hmb.mono ?_;rintro e w1 ⟨rfl,hb1⟩;obtain⟨hx,hc⟩:=HA.out w1 hb1;obtain⟨_,a0,a1⟩:=id hc))
   go_loopw [5,6] (fun u i wr=>u=X Z 0 0/\i=.int Y 0/\wr=w1) (fun _ _ _=>0)
   case atStart=>exact⟨rfl,rfl,rfl⟩
   case round=>
    obtain⟨rfl,rfl,rfl⟩:=hrel;go_wp2_with (first|(go_at_call 134;refine(hrn _ _ _).mono ?_;rintro e w2 ⟨rfl,rfl⟩))
    go_ret3
    exact⟨Z,0,by rw[HL.out];rfl,hx,by rw[HL.out];exact LisO.nil _ _⟩
  |some ad=>
   go_enter gL,gT;go_wp2_with (first|(go_at_call 124;refine hmb.mono ?_;rintro e w1 ⟨rfl,hb1⟩;obtain⟨hx,hc⟩:=HA.out w1 hb1;obtain⟨_,a0,a1⟩:=id hc))
   go_loopw [5,6] (fun u i wr=>u=X Z 0 0/\i=.int Y 0/\wr=w1) (fun _ _ _=>0)
   case atStart=>exact⟨rfl,rfl,rfl⟩
   case round=>
    obtain⟨rfl,rfl,rfl⟩:=hrel;go_wp2_with (first|(go_at_call 134;refine(hrn _ _ _).mono ?_;rintro e w2 ⟨rfl,rfl⟩))
    go_ret3
    exact⟨Z,0,by rw[HL.out];rfl,hx,by rw[HL.out];exact LisO.nil _ _⟩
 .obtain ⟨b,off,rfl,hbl,_,hmc,hba⟩:=hV.at (vO.2 hd0);have HRa:N (∀(at':Nat) (w1:V),at'<=d.length->T w.heap.size w w1->J qA 134 #[.slice (if cap=at' then U (C b off Z)else U ⟨b,off+at',Z⟩) (d.length-at') (cap-at')] w1 (Di w1 (d.drop at'))):=fun at' w1 hk hb=>by
   have hv:=(hba.below hb hbl).rest (qE hbl hb.size) hmc hk;have:=UV (if cap=at' then U (C b off Z)else U ⟨b,off+at',Z⟩) (cap-at') (d.drop at') w1 (by rw[qO];omega) (by rw[qO];exact hv);rw[qO]at this;exact this
  obtain⟨m,hmd⟩:∃m,d.length=m:=⟨_,rfl⟩;have HM:N (d.length=m):=hmd;have HLe:N (∀k,(run k d).2<=m/\8*(run k d).1.length<=(run k d).2):=fun k=>⟨by have:=FK d k;omega,Jt d k⟩;rw[hmd]at hmb HA HRa hmc hl⊢;clear hmd hV hm hbA hcA hd0 hba;go_enter gL,gT;go_wp2_with (go_at_call 124;refine hmb.mono ?_;rintro e w1 ⟨rfl,hb1⟩;obtain⟨hx,hc⟩:=HA.out w1 hb1)
  go_loopw [5,6] (fun u i wr=>∃k:Nat,N (8*k<=(run k d).2)/\i=.int Y ((run k d).2:Nat)/\(∃a c,u=.slice a (run k d).1.length c/\N (LisO wr w1.heap.size (.slice a (run k d).1.length c) (run k d).1))/\T w1.heap.size w1 wr) (fun _ i _=>m-(intOf i).toNat)
  case atStart=>exact⟨0,qB _,rfl,⟨Z,0,rfl,LisO.nil _ _⟩,qD _ _⟩
  case round=>
   obtain⟨k,HK,rfl,⟨a,c,rfl,HL⟩,hB⟩:=hrel;obtain⟨hp1,hp2⟩:=HLe.out k;obtain⟨_,a0,a1⟩:=hc.later hB;have hbw:=ae hx hB;have hra:=HRa.out (run k d).2 wr hp1 hbw;have j1:((run k d).2:Int)<=(m:Int):=by omega
   have j2:(run k d).2<=cap:=by omega
   cases hr:Ab (d.drop (run k d).2)with
   |none=>
    have HE:N (Ax d=run k d):=Jq HK.out hr;have hra':J qA 134 #[.slice (if cap=(run k d).2 then U (C b off Z)else U ⟨b,off+(run k d).2,Z⟩) (m-(run k d).2) (cap-(run k d).2)] wr fun e w'=>e=M (G #[X Z 0 0,.bool I])/\T wr.heap.size wr w':=hra.mono fun e w' h=>⟨h.2.1 hr,h.1⟩;clear hra hr;generalize hrk:run k d=rk at *;clear hrk;obtain⟨rs,at'⟩:=rk;simp only at *
    have HFin:N (∀(w2:V),T wr.heap.size wr w2->GE w d (M (G #[.slice a rs.length c,.int Y at',.int Y 0])) w2):=fun w2 hb2=>⟨a,c,by rw[HE.out],ae hbw hb2,by rw[HE.out];exact(HL.out.later hb2 (qB _)).mono hx.size⟩;clear HLe;by_cases hca:cap=at'
    .rw[aj hca]at hra';obtain rfl:m=cap:=by omega
     subst hca;simp only[jR]at hra';go_wp2_with (first|(go_at_call 134;refine hra'.mono ?_;rintro e w2 ⟨rfl,hb2⟩))
     go_ret3
     exact HFin.out w2 hb2
    .rw[ak hca]at hra';go_wp2_with (first|(go_at_call 134;refine hra'.mono ?_;rintro e w2 ⟨rfl,hb2⟩))
     go_ret3
     exact HFin.out w2 hb2
   |some l=>
    have hnx:=EK hr;obtain⟨hw0,hxa,hln,hxb,hxc⟩:=Jr hr;clear hxa hxb hxc;have HKn:N (8*(k+1)<=(run k d).2+(4*l.length+8)):=by have:=HK.out;show _<=_;omega
    rw[qO,HM.out]at hln;have hl4:l.length<=4000:=by unfold wrC at hw0;split at hw0<;>omega
    have hra':J qA 134 #[.slice (if cap=(run k d).2 then U (C b off Z)else U ⟨b,off+(run k d).2,Z⟩) (m-(run k d).2) (cap-(run k d).2)] wr fun e w'=>∃ao cap,e=M (G #[.slice ao l.length cap,.bool true])/\T wr.heap.size wr w'/\N (w'.ownsRow wr.heap.size 3 1 (.slice ao l.length cap) l.length (AB l)):=hra.mono fun e w' h=>by
     obtain⟨x,y,h1,h2⟩:=h.2.2 l hr;exact⟨x,y,h1,h.1,h2⟩
    have hrb:=fun w1=>F0 l.length w1 (by omega);have HNx:N (run (k+1) d=((run k d).1++[l],(run k d).2+(4*l.length+8))):=hnx;have HKs:N (8*(k+1)<=(run (k+1) d).2):=by show _<=_;rw[hnx];exact HKn.out
    clear hra hr hnx hw0 HKn HK;generalize hrk:run k d=rk at *;clear hrk;obtain⟨rs,at'⟩:=rk;simp only at *
    obtain⟨us,hu1,hu2,hu3⟩:=HL.out;have HU3:N (∀i,i<rs.length->wr.ownsRow w1.heap.size 3 1 (us.getD i DO) (rs.getD i []).length (AB (rs.getD i []))):=hu3;have HU1:N (wr.ownsRow w1.heap.size 43 1 (.slice a rs.length c) rs.length us/\us.length=rs.length):=⟨hu1,hu2⟩;obtain⟨y,hy⟩:∃y,4*l.length+8=y:=⟨_,rfl⟩;rw[hy]at hrb hln HNx;have hy8:8<=y:=by omega
    have HMe:N (at'+y<=m):=(by omega:at'+y<=m);have hca:¬cap=at':=by omega
    have hsum:wrap64 ((at':Int)+(y:Int))=((at'+y:Nat):Int):=by rw[gH _ (by omega)];omega
    have hsum':aY.wrap ((at':Int)+(y:Int))=((at'+y:Nat):Int):=by rw[gG];exact hsum
    obtain⟨hrn,hrm⟩:=Ui hp2 hp1 hl;have HLS:N (∀(w2 w4:V) (u v':L),T wr.heap.size wr w2->w2.ownsRow wr.heap.size 3 1 u l.length (AB l)->(w2.alloc (O #[u] 43)).grownBy w4 (Value.slice a rs.length c).ownBlock->w4.ownsRow w1.heap.size 43 1 v' (rs.length+1) (us++[u])->LisO w4 w1.heap.size v' (rs++[l])):=fun w2 w4 u v' hb hu hg ho=>LisO.snoc (w:=w2.alloc (O #[u] 43)) ((Ap HU1.out.1 hb (qB _)).alloc _) HU1.out.2 (fun i hi=>(Ap (HU3.out i hi) hb (qB _)).alloc _) ((Az hu hB.size).alloc _) ho hg;have HLn:N ((rs++[l]).length=rs.length+1):=by show _=_;simp
    generalize hll:l.length=ll at *;have HLl:N (l.length=ll):=hll;clear hu3 hu1 hu2 HL hy hll;obtain⟨rn,hrnn⟩:∃rn,rs.length=rn:=⟨_,rfl⟩
    have HRn:N (rs.length=rn):=hrnn;rw[hrnn]at hrn hrm HLS HU1 HLn hp2⊢;clear hrnn HU3;rw[ak hca]at hra';have hw1r:=hB.size;go_wp2_with (first|(go_at_call 134;refine hra'.mono ?_;rintro e w2 ⟨xo,xc,rfl,hb2,hO2⟩;have hrow:=Ap HU1.out.1 hb2 (qB _);have hB2:=ae hB hb2;have hs2:=hB2.size)|(at_builtin;refine wpList_append_own _ rfl _ _ 42 rfl w1.heap.size 43 i0 (X Z 0 0) 1 24 Tryz.underlying42 hi hz0 hz1 hz2 rfl (by decide) (X a rn c) rn us rfl (hrow.alloc _) ⟨w2.heap.size,0,Z⟩ 1 1 [X xo ll xc] rfl rfl (FH _ _ _) (by simp[Value.oneCell']) hrm hrn (qI hs2 (by simp)) ?_;intro v' w4 hown' hgrow _;have hb4:T w1.heap.size w1 w4:=(hB2.alloc hB2.size _).grown hgrow (qI hs2 (by simp)) (fun q hq=>(hrow.lt q hq).1);have hL4:=HLS.out w2 w4 _ v' hb2 (by rw[<-HLl.out]at hO2⊢;exact hO2.out) hgrow hown';obtain⟨a4,c4,hv4⟩:=Au hown';subst hv4;clear hgrow)|(go_at_call 127;refine(hrb _).mono ?_;rintro e w5 ⟨rfl,rfl⟩))
    have e1:(run (k+1) d).1.length=rn+1:=by rw[HNx.out];exact HLn.out
    have e2:(run (k+1) d).1=rs++[l]:=by rw[HNx.out]
    have e3:(run (k+1) d).2=at'+y:=by rw[HNx.out]
    clear HNx HLn;refine⟨⟨k+1,HKs.out,by rw[e3,Int.natCast_add],⟨a4,c4,by rw[e1],by rw[e1,e2];exact hL4⟩,hb4⟩,Vp HMe.out hy8⟩
theorem NH{D:List UInt8}(h:D.length<4):Ab D=none:=by rw[Ab,aj h]
theorem UT{D:List UInt8}(h:¬D.length<4)(h2:4000<AQ D 0\/D.length<4*AQ D 0+8):Ab D=none:=by rw[Ab,ak h,aj h2]
theorem UY(ao:Option Addr)(cap:Nat)(l:List UInt8)(s:Int)(w:V)(hm:BN l.length s=true)(hV:BV w (.slice ao l.length cap) l) :
  J qA 101 #[F #[.slice ao l.length cap,.int Y s]] w (CL w (l.take (Ax l).2) (min s ((Ax l).2:Nat)) 0):=by
 have hmm:l.length<=1048576/\0<=s/\s<=l.length:=by simpa[BN]using hm
 obtain⟨hl,hs0,hs1⟩:=hmm;have hst:=Bx.start w (.slice ao l.length cap) (.int Y s) 159 159;have hrd0:=Jo ao cap l s ((w.alloc (O #[.slice ao l.length cap,.int Y s] 159)).alloc (O #[X Z 0 0,.int Y 0] 159)) hm (hV.below hst.b);have hrd:J qA 104 #[F #[.slice ao l.length cap,.int Y s]] ((w.alloc (O #[.slice ao l.length cap,.int Y s] 159)).alloc (O #[X Z 0 0,.int Y 0] 159)) fun e w'=>∃xo xn xc,e=M (G #[X xo xn xc,.int Y ((Ax l).2:Nat),.int Y 0])/\T ((w.alloc (O #[.slice ao l.length cap,.int Y s] 159)).alloc (O #[X Z 0 0,.int Y 0] 159)).heap.size ((w.alloc (O #[.slice ao l.length cap,.int Y s] 159)).alloc (O #[X Z 0 0,.int Y 0] 159)) w':=hrd0.mono fun e w' ⟨xo,xc,h1,h2,_⟩=>⟨xo,_,xc,h1,h2⟩;have hq1:(Ax l).2<=l.length:=FK l l.length;generalize(Ax l).2=q at *;have htl:(l.take q).length=q:=Nr hq1
 have HBx:N (∀w1,T ((w.alloc (O #[.slice ao l.length cap,.int Y s] 159)).alloc (O #[X Z 0 0,.int Y 0] 159)).heap.size ((w.alloc (O #[.slice ao l.length cap,.int Y s] 159)).alloc (O #[X Z 0 0,.int Y 0] 159)) w1->Bx w w1 (.slice ao l.length cap) (.int Y s)):=fun w1 hb=>hst.later hb;have HCu:N (∀w1,Bx w w1 (.slice ao l.length cap) (.int Y s)->J qA 132 #[F #[.slice ao l.length cap,.int Y s],.int Y q,.int Y (min s (q:Nat))] w1 fun e w'=>∃ao' cap',e=M (F #[X ao' q cap',.int Y (min s (q:Nat))])/\T w1.heap.size w1 w'/\N (w'.ownsRow w1.heap.size 5 1 (X ao' q cap') q (AG (l.take q)))):=fun w1 hx=>Iq ao cap l s _ q w1 hl hq1 (hV.below hx.b);have HT:CL w (l.take q) (min s (q:Nat)) 0=fun e w'=>∃ao cap,e=M (G #[F #[X ao q cap,.int Y (min s (q:Nat))],.int Y 0])/\T w.heap.size w w'/\N (w'.ownsRow w.heap.size 5 1 (X ao q cap) q (AG (l.take q))):=by unfold CL;rw[htl]
 rw[HT];clear HT htl hrd0;generalize AG (l.take q)=xs at *;generalize l.length=n at *;clear hst hm hV
 by_cases hsq:s<=(q:Int)
 .have hmin:min s (q:Int)=s:=by omega
  rw[hmin]at HCu⊢;go_enter gK,gS;go_wp2_with (first|(go_at_call 104;refine hrd.mono ?_;rintro e w1 ⟨zo,zn,zc,rfl,hb1⟩;have hx:=HBx.out w1 hb1;have hcu:=HCu.out w1 hx;obtain⟨_,_,a0,a1,_,_,_,_⟩:=id hx)|(go_at_call 132;refine hcu.mono ?_;rintro e w2 ⟨bo,bc,rfl,hb2,HO⟩;have hx2:=hx.later hb2;obtain⟨_,_,_,_,r0,r1,f0,f1⟩:=id hx2))
  refine bodyPost_ret (v:=G #[F #[X bo q bc,.int Y s],.int Y 0]) ?_ rfl ⟨bo,bc,rfl,hx2.done _ _,FI HO.out hx.z _ _⟩;simp[results,hZ,go_sem,r0,r1]
 .have hmin:min s (q:Int)=(q:Int):=by omega
  rw[hmin]at HCu⊢;go_enter gK,gS;go_wp2_with (first|(go_at_call 104;refine hrd.mono ?_;rintro e w1 ⟨zo,zn,zc,rfl,hb1⟩;have hx:=HBx.out w1 hb1;have hcu:=HCu.out w1 hx;obtain⟨_,_,a0,a1,_,_,_,_⟩:=id hx)|(go_at_call 132;refine hcu.mono ?_;rintro e w2 ⟨bo,bc,rfl,hb2,HO⟩;have hx2:=hx.later hb2;obtain⟨_,_,_,_,r0,r1,f0,f1⟩:=id hx2))
  refine bodyPost_ret (v:=G #[F #[X bo q bc,.int Y q],.int Y 0]) ?_ rfl ⟨bo,bc,rfl,hx2.done _ _,FI HO.out hx.z _ _⟩;simp[results,hZ,go_sem,r0,r1]
section
variable{H:Type}{enc:TypeId×L -> H}{W:V}
end
theorem bounds_i64{n:Int}(h:(Lit.int .i64 n).wf=true):I64 n:=by simpa[I64,Lit.wf,IntKind.min,IntKind.max,IntKind.signed,IntKind.bits]using h
theorem Bx.low{w w1 w2:V}{x0 x1:L}{B:Nat}(h:Bx w w1 x0 x1)(hb:T B w1 w2)(hB:w.heap.size+1+1<=B):Bx w w2 x0 x1:=by
 exact⟨h.b.trans (hb.mono (by omega)),qI h.z hb.size,(hb.cell (p:=(C w.heap.size 0 Z)) (by show w.heap.size<_;omega)).trans h.a0,(hb.cell (p:=(C w.heap.size 1 Z)) (by show w.heap.size<_;omega)).trans h.a1,(hb.cell (p:=⟨w.heap.size+1,0,Z⟩) (by show w.heap.size+1<_;omega)).trans h.r0,(hb.cell (p:=⟨w.heap.size+1,1,Z⟩) (by show w.heap.size+1<_;omega)).trans h.r1,(hb.frozen (p:=⟨w.heap.size+1,0,Z⟩) (by show w.heap.size+1<_;omega)).trans h.f0,(hb.frozen (p:=⟨w.heap.size+1,1,Z⟩) (by show w.heap.size+1<_;omega)).trans h.f1⟩
theorem XL(ao:Option Addr)(cap:Nat)(l:List UInt8)(s:Int)(v:L)(r:List Int)(w:V)(hr:r.length<=140737488355328)(hI:IntsV w v r)(hm:BN l.length s=true)(hz:r.length<=4000)(ha:r.any Ae=I)(hf:1048576<l.length+(4*r.length+8)) :
  J qA 96 #[F #[.slice ao l.length cap,.int Y s],v] w (CL w [] 0 12):=by
 obtain⟨bo,bcap,hbs⟩:∃bo bcap,v=.slice bo r.length bcap:=by obtain⟨bo,bcap,h,_⟩:=id hI;exact⟨bo,bcap,h⟩
 subst hbs;have hst:=Bx.start w (.slice ao l.length cap) (.int Y s) 159 159;have hmb:=Ft ao l.length cap s ((w.alloc (O #[.slice ao l.length cap,.int Y s] 159)).alloc (O #[X Z 0 0,.int Y 0] 159));rw[hm]at hmb;have HBx:N (∀w1,T ((w.alloc (O #[.slice ao l.length cap,.int Y s] 159)).alloc (O #[X Z 0 0,.int Y 0] 159)).heap.size ((w.alloc (O #[.slice ao l.length cap,.int Y s] 159)).alloc (O #[X Z 0 0,.int Y 0] 159)) w1->Bx w w1 (.slice ao l.length cap) (.int Y s)):=fun w1 hb=>hst.later hb;have HCn:N (∀w1,Bx w w1 (.slice ao l.length cap) (.int Y s)->J qA 125 #[.slice bo r.length bcap,.func (.func 126) #[] #[]] w1 fun e w'=>e=M (.bool (r.any Ae))/\w'=w1):=fun w1 hx=>K7 _ r w1 hr (hI.below hx.b);rw[ha]at HCn;have hl:l.length<=1048576:=by simp[BN]at hm;omega
 have hrb:=fun w1=>F0 r.length w1 (by omega);have hsum:wrap64 ((l.length:Int)+((4*r.length+8:Nat):Int))=((l.length+(4*r.length+8):Nat):Int):=by rw[gH _ (by omega)];omega
 have hsum':aY.wrap ((l.length:Int)+((4*r.length+8:Nat):Int))=((l.length+(4*r.length+8):Nat):Int):=by rw[gG];exact hsum
 generalize 4*r.length+8=y at *;generalize l.length=n at *;generalize r.length=k at *;obtain⟨sz,hsz⟩:∃sz,n+y=sz:=⟨_,rfl⟩
 rw[hsz]at hsum hsum' hf;clear hst hm hI ha hsz;go_enter gQ,gY;go_wp2_with (first|(go_at_call 124;refine hmb.mono ?_;rintro e w1 ⟨rfl,hb1⟩;have hx:=HBx.out w1 hb1;have hcn:=HCn.out w1 hx;obtain⟨_,_,a0,a1,r0,r1,f0,f1⟩:=id hx)|(go_at_call 125;refine hcn.mono ?_;rintro e w2 ⟨rfl,rfl⟩))
 have hxd:Bx w w2.drew (X ao n cap) (.int Y s):=hx.later (qD _ _).drew;go_region_held3 (fun w'=>w'.cell? (C w.heap.size 0 Z)=U (X ao n cap))
  (first|exact hx.a0|exact hxd.a0)
  (first|(go_at_call 127;refine(hrb _).mono ?_;rintro e w3 ⟨rfl,rfl⟩))
 have hx2:=hxd;obtain⟨_,_,a0',a1',r0',r1',f0',f1'⟩:=id hxd;go_wp2_with fail
 refine bodyPost_ret (v:=G #[F #[X Z 0 0,.int Y 0],.int Y 12]) ?_ rfl ⟨Z,0,rfl,(hx.done _ _).drew,aX _ _ _ _⟩;simp[results,ie,go_sem,r0,r1]
section
variable{P:Program}{w:V}
theorem Vo{ops:Array Oper}{o:Oper}{a:Act}{K:Act->V->Prop}{Q:Exit->Act->V->Prop}{E:Prop}(hgd:o.guard=Z)(s x:Operand)
  (ho:o.op=.call { callee:=.builtin .append,args:=#[s,x],argTypes:=#[157,157]})
  (base g n cap:Nat) (xs:List L) (hs:a.eval s=X (U (C g 0 Z)) n cap) (hown:w.ownsRow base 5 1 (X (U (C g 0 Z)) n cap) n xs) (so:Option Addr) (m c:Nat) (l:List UInt8) (hx:a.eval x=X so m c) (hV:BV w (X so m c) l)
  (hsz:n+m<=4194304) (hbase:base<=w.heap.size)
  (h:∀g' cap' w',w'.ownsRow base 5 1 (X (U (C g' 0 Z)) (n+m) cap') (n+m) (xs++AG l)->w.grownBy w' (U g)->K (a.put o.dst (X (U (C g' 0 Z)) (n+m) cap')) w') :
  if Region.wanted o (yielded ops a.tmps)=true then Oper.wp qA o a w K Q else E:=by
 obtain⟨i0,hi,hz0,hz1,hz2⟩:=info_parts Fo;obtain⟨so',c',e1,⟨hlc,hnone⟩,hat⟩:=id hV;injection e1 with e1 e2 e3;subst e1 e2 e3;by_cases hl:l=[]
 .subst hl;rcases hown.2 with⟨hv,_⟩|⟨g',cap',cur,hv,hb,hg,hnc,_⟩
  .cases hv
  .cases hv
   refine J5 hgd s x 157 ho 5 i0 ig hi g n cap hs so c hx hnc fun w' HE=>?_;have hE:=HE.out;subst hE;have:=h g cap w' (by simpa[AG]using hown) (World.grownBy.refl _ _);simpa using this
 .obtain ⟨b,off,rfl,hbl,hba⟩:=hat hl;exact step_append_lies _ hgd s x 157 ho base 5 i0 _ 1 1 ig hi hz0 hz1 hz2 rfl (by decide) _ n xs hs hown ⟨b,off,Z⟩ l.length c (AG l) hx (by rw[Ea];omega) hba.cells (Ie l) (vO.2 hl) (by unfold maxLen;omega) (by omega) hbase _ rfl fun g' cap' w' h1 h2 _ _=>h g' cap' w' h1 h2
end
theorem XF(ao:Option Addr)(cap:Nat)(l:List UInt8)(s:Int)(v:L)(r:List Int)(w:V)(hV:BV w (.slice ao l.length cap) l)(hI:IntsV w v r)(hm:BN l.length s=true)(hz:r.length<=4000)(ha:r.any Ae=I)(hf:l.length+(4*r.length+8)<=1048576) :
  J qA 96 #[F #[.slice ao l.length cap,.int Y s],v] w (CL w (l++AD r) s 0):=by
 have hr:r.length<=140737488355328:=by omega
 obtain⟨bo,bcap,hbs⟩:∃bo bcap,v=.slice bo r.length bcap:=by obtain⟨bo,bcap,h,_⟩:=id hI;exact⟨bo,bcap,h⟩
 subst hbs;have hst:=Bx.start w (.slice ao l.length cap) (.int Y s) 159 159;have hmb:=Ft ao l.length cap s ((w.alloc (O #[.slice ao l.length cap,.int Y s] 159)).alloc (O #[X Z 0 0,.int Y 0] 159));rw[hm]at hmb;have HBx:N (∀w1,T ((w.alloc (O #[.slice ao l.length cap,.int Y s] 159)).alloc (O #[X Z 0 0,.int Y 0] 159)).heap.size ((w.alloc (O #[.slice ao l.length cap,.int Y s] 159)).alloc (O #[X Z 0 0,.int Y 0] 159)) w1->Bx w w1 (.slice ao l.length cap) (.int Y s)):=fun w1 hb=>hst.later hb;have HCn:N (∀w1,Bx w w1 (.slice ao l.length cap) (.int Y s)->J qA 125 #[.slice bo r.length bcap,.func (.func 126) #[] #[]] w1 fun e w'=>e=M (.bool (r.any Ae))/\w'=w1):=fun w1 hx=>K7 _ r w1 hr (hI.below hx.b);rw[ha]at HCn;have hl:l.length<=1048576:=by simp[BN]at hm;omega
 have hrb:=fun w1=>F0 r.length w1 (by omega);have hsum:wrap64 ((l.length:Int)+((4*r.length+8:Nat):Int))=((l.length+(4*r.length+8):Nat):Int):=by rw[gH _ (by omega)];omega
 have hsum':aY.wrap ((l.length:Int)+((4*r.length+8:Nat):Int))=((l.length+(4*r.length+8):Nat):Int):=by rw[gG];exact hsum
 obtain⟨i0,hi,hz0,hz1,hz2⟩:=info_parts Fo;have HVb:N (∀w1,T w.heap.size w w1->BV w1 (.slice ao l.length cap) l):=fun w1 hb=>hV.below hb;have HWr:N (∀(a:Option Addr) (c base:Nat) (w0 w1:V),w.heap.size<=base->base<=w1.heap.size->T w.heap.size w w1->w1.ownsRow base 5 1 (.slice a l.length c) l.length (AG l)->J qA 128 #[.slice a l.length c,.slice bo r.length bcap] w1 fun e w'=>∃ao' cap',e=M (.slice ao' (l++AD r).length cap')/\T base w1 w'/\N (w'.ownsRow base 5 1 (.slice ao' (l++AD r).length cap') (l++AD r).length (AG (l++AD r)))):=fun a c base w0 w1 h1 h2 h3 h4=>Wv a c l _ r base w1 h4 hl (KK hz ha) h2 fun w2 hb=>hI.below (h3.trans (hb.mono h1));have HT:CL w (l++AD r) s 0=fun e w'=>∃ao cap,e=M (G #[F #[.slice ao (l++AD r).length cap,.int Y s],.int Y 0])/\T w.heap.size w w'/\N (w'.ownsRow w.heap.size 5 1 (.slice ao (l++AD r).length cap) (l++AD r).length (AG (l++AD r))):=rfl;rw[HT];clear HT;have hz':l.length<=1048576:=hl;generalize AG (l++AD r)=ys at *;generalize(l++AD r).length=yl at *;obtain⟨y,hy⟩:∃y,4*r.length+8=y:=⟨_,rfl⟩
 rw[hy]at hrb hsum hsum' hf;clear hy;obtain⟨xs,hxs⟩:∃xs,AG l=xs:=⟨_,rfl⟩;have HXs:N (AG l=xs):=hxs;rw[hxs]at HWr;clear hxs;generalize l.length=n at *;generalize r.length=k at *;obtain⟨sz,hsz⟩:∃sz,n+y=sz:=⟨_,rfl⟩
 have HSz:N (n<=sz):=by show _<=_;omega
 rw[hsz]at hsum hsum' hf;clear hst hm hI ha hsz hV;have hmk:∀w1:V,(Instr.makeSlice 157 (.int Y 0) (.int Y (sz:Int))).run qA w1=.ok (X (U (C w1.heap.size 0 Z)) 0 sz) (w1.alloc (O (madeCells #[.int .u8 0] sz) 5)):=fun w1=>by
  have:=run_make (P:=qA) w1 157 5 i0 (.int .u8 0) ig hi hz0 .i64 .i64 0 sz (xT _) (by omega) (by rw[hz2];omega) (by omega);simpa[hz1,Value.cells]using this
 have HOw:N (∀w1:V,(w1.alloc (O (madeCells #[.int .u8 0] sz) 5)).ownsRow w1.heap.size 5 1 (X (U (C w1.heap.size 0 Z)) 0 sz) 0 []):=fun w1=>iq w1 _ sz (qB _) (by unfold maxLen;omega) (by simp[size_madeCells]);go_enter gQ,gY;go_wp2_with (first|(go_at_call 124;refine hmb.mono ?_;rintro e w1 ⟨rfl,hb1⟩;have hx:=HBx.out w1 hb1;have hcn:=HCn.out w1 hx;obtain⟨_,_,a0,a1,r0,r1,f0,f1⟩:=id hx)|(go_at_call 125;refine hcn.mono ?_;rintro e w2 ⟨rfl,rfl⟩))
 have hxd:Bx w w2.drew (X ao n cap) (.int Y s):=hx.later (qD _ _).drew;go_region_held3 (fun w'=>w'.cell? (C w.heap.size 0 Z)=U (X ao n cap))
  (first|exact hx.a0|exact hxd.a0)
  (first|(go_at_call 127;refine(hrb _).mono ?_;rintro e w3 ⟨rfl,rfl⟩))
 obtain⟨w3,hw3⟩:∃w3,w2.drew=w3:=⟨_,rfl⟩;rw[hw3]at hxd⊢;clear hw3 hx hcn hb1 hmb a0 a1 r0 r1 f0 f1;go_wp2_with fail
 have a0:=hxd.a0;have hB1:T w3.heap.size w3 (w3.alloc (O (madeCells #[.int .u8 0] sz) 5)).drew:=(ai).drew;have hx1:=hxd.later hB1;have hO1:=(HOw.out w3).drew;have hv1:=HVb.out _ hx1.b;have tk:=True.intro;go_region_held3 (fun w'=>w'.cell? (C w.heap.size 0 Z)=U (X ao n cap))
  (first|exact hxd.a0|exact hx1.a0|exact hx4.a0|(exact(hxd.later (qD _ _).drew).a0))
  (first|(clear tk;refine Vo (by rfl) (.tmp 30) (.tmp 32) (by rfl) w3.heap.size w3.heap.size 0 sz [] (by rfl) hO1 ao n cap l (by rfl) hv1 (by omega) hB1.size ?_;intro gB capB wB howB hgrB;have hb4:T w3.heap.size w3 wB:=(hB1.grown hgrB hB1.size (fun q hq=>(by simp at hq;omega)));have hx4:=hxd.later hb4;rw[qV,v7,HXs.out]at howB))
 go_wp2_with fail
 have hz3:=hxd.z;have hxw:=hx4.later (qD _ _).drew;have hww:=HWr.out (U (C gB 0 Z)) capB w3.heap.size w3 wB.drew (by omega) hb4.size hxw.b howB.drew;go_region_held3 (fun w'=>w'.cell? (C w.heap.size 1 Z)=U (.int Y s))
  (first|exact hx4.a1|exact hxw.a1|exact hx5.a1|(have y0:=hx5.a1;simp[go_sem,y0]))
  (first|(go_at_call 128;refine hww.mono ?_;rintro e w5 ⟨xo,xc,rfl,hb5,HO5⟩;have hx5:=hxw.low hb5 hz3;obtain⟨_,_,_,_,r0,r1,f0,f1⟩:=id hx5))
 go_wp2_with fail
 refine bodyPost_ret (v:=G #[F #[X xo yl xc,.int Y s],.int Y 0]) ?_ rfl ⟨xo,xc,rfl,hx5.done _ _,FI HO5.out hz3 _ _⟩;simp[results,ie,go_sem,r0,r1]
def AV(rs:List (List Int)):List UInt8:=rs.flatMap AD
theorem Ig(rs:List (List Int))(l:List Int):AV (rs++[l])=AV rs++AD l:=by simp[AV]
theorem PK(l m:List Int):BL (l++m)=BL l++BL m:=by simp[BL]
theorem KL{l:List Int}(h:wrC l=0):l.length<=4000/\l.any Ae=false:=by
 unfold wrC at h;split at h
 .omega
 .refine ⟨by omega,?_⟩;cases ha:l.any Ae
  .rfl
  .rw[ha]at h;simp at h
theorem Ma{l:List Int}(h:wrC l=0)(rest:List UInt8):AQ (AD l++rest) 0=l.length/\Ai (AD l++rest) l.length=l:=by
 obtain⟨h4,ha⟩:=KL h;have e0:AD l++rest=[]++(A6 l.length++(BL l++A6 (Bm (BD l.length l))++rest)):=by simp[AD,BD,q9]
 refine⟨?_,?_⟩
 .rw[e0];exact LX (by omega) [] _
 .apply jN;intro i;by_cases hi:i<l.length
  .have hr:=Mk ha hi;have e1:l=l.take i++l.getD i 0::l.drop (i+1):=by
    have:l.getD i 0=l[i]:=by simp[qC,hi]
    rw[this,yL,vC]
   have e2:BL l=BL (l.take i)++(A6 (l.getD i 0).toNat++BL (l.drop (i+1))):=by
    conv=>lhs;rw[e1]
    rw[PK];rfl
   have e3:AD l++rest=(A6 l.length++BL (l.take i))++(A6 (l.getD i 0).toNat++(BL (l.drop (i+1))++A6 (Bm (BD l.length l))++rest)):=by
    rw[AD,BD,e2];simp only[q9]
   have hp:(A6 l.length++BL (l.take i)).length=4+4*i:=by rw[qF,EN,Km,qP];omega
   have hf:=LX (x:=(l.getD i 0).toNat) (by omega) (A6 l.length++BL (l.take i)) (BL (l.drop (i+1))++A6 (Bm (BD l.length l))++rest);rw[<-e3,hp]at hf;have:(Ai (AD l++rest) l.length)[i]? = U ((AQ (AD l++rest) (4+4*i):Nat):Int):=by simp[Ai,hi]
   rw[this,hf];rw[qH hi];congr 1
   have:l.getD i 0=l[i]:=by simp[qC,hi]
   rw[<-this];omega
  .rw[vF (by rw[DQ];omega),vF (by omega)]
theorem NG{l:List Int}(h:wrC l=0)(rest:List UInt8):Ab (AD l++rest)=U l:=by
 obtain⟨h1,h2⟩:=Ma h rest;obtain⟨h4,_⟩:=KL h;have hl:(AD l++rest).length=4*l.length+8+rest.length:=by rw[qF,Cz]
 have:=(NI (d:=AD l++rest) (by omega) (by rw[h1];omega)).1 (by rw[h1,h2];exact⟨h,by rw[jP,jO (by rw[Cz];omega),qN (by rw[Cz];omega)]⟩);rw[this,h1,h2]
theorem Ks(a b:List (List Int)):AV (a++b)=AV a++AV b:=by simp[AV]
theorem NS{rs:List (List Int)}(hr:∀l∈rs,wrC l=0)(rest:List UInt8):∀k,k<=rs.length->run k (AV rs++rest)=(rs.take k,(AV (rs.take k)).length)
 |0,_=>by simp[run,AV]
 |k+1,hk=>by
  have ih:=NS hr rest k (by omega);have hlt:k<rs.length:=by omega
  have e1:rs=rs.take k++rs[k]::rs.drop (k+1):=by rw[yL,vC]
  have e2:AV rs++rest=AV (rs.take k)++(AD rs[k]++(AV (rs.drop (k+1))++rest)):=by
   conv=>lhs;rw[e1]
   rw[Ks,show AV (rs[k]::rs.drop (k+1))=AD rs[k]++AV (rs.drop (k+1))from rfl,q9,q9]
  have h:Ab ((AV rs++rest).drop (run k (AV rs++rest)).2)=U rs[k]:=by
   rw[ih];show Ab ((AV rs++rest).drop (AV (rs.take k)).length)=_;rw[e2,yO];exact NG (hr _ (qR hlt)) _
  rw[EK h,ih];have e3:rs.take (k+1)=rs.take k++[rs[k]]:=by rw[jU];simp[hlt]
  rw[e3,Ig,qF,Cz]
theorem Jn{rs:List (List Int)}(hr:∀l∈rs,wrC l=0):Ax (AV rs)=(rs,(AV rs).length):=by
 have h:=NS hr [] rs.length (qB _);rw[vT,qN (qB _)]at h;have hs:Ab ((AV rs).drop (run rs.length (AV rs)).2)=none:=by
  rw[h];show Ab ((AV rs).drop (AV rs).length)=Z;rw[List.drop_length];exact NH (by decide)
 rw[Jq (k:=rs.length) (by have:=Jt (AV rs) rs.length;rw[h]at this⊢;exact this) hs,h]
theorem NT(D:List UInt8):∀k,Ab (D.drop (run k D).2)=Z\/8*(k+1)<=(run (k+1) D).2
 |0=>by
  cases h:Ab (D.drop (run 0 D).2)with
  |none=>exact .inl rfl
  |some l=>exact .inr (by rw[EK h];show 8*1<=0+(4*l.length+8);omega)
 |k+1=>by
  cases h:Ab (D.drop (run (k+1) D).2)with
  |none=>exact .inl rfl
  |some l=>
   refine .inr ?_;rcases NT D k with h0|h0
   .have e:run (k+1) D=run k D:=Ep h0 1;rw[e,h0]at h;cases h
   .rw[EK h];show 8*(k+1+1)<=(run (k+1) D).2+(4*l.length+8);omega
theorem UM(D:List UInt8):Ab (D.drop (Ax D).2)=none:=by
 rcases NT D D.length with h|h
 .exact h
 .have:=FK D (D.length+1);omega
theorem Uq(D:List UInt8){k:Nat}(hk:D.length<=k):run k D=Ax D:=by
 have:=Ep (UM D) (k-D.length);rw[show D.length+(k-D.length)=k by omega]at this;exact this
theorem NU{l:List Int}(hl:wrC l=0)(D:List UInt8):∀k,run (k+1) (AD l++D)=(l::(run k D).1,4*l.length+8+(run k D).2)
 |0=>by
  have h:Ab ((AD l++D).drop (run 0 (AD l++D)).2)=U l:=by show Ab ((AD l++D).drop 0)=U l;rw[jP];exact NG hl D
  rw[EK h];show([]++[l],0+(4*l.length+8))=_;simp[run]
 |k+1=>by
  have ih:=NU hl D k;have e:(AD l++D).drop (run (k+1) (AD l++D)).2=D.drop (run k D).2:=by
   rw[ih];show(AD l++D).drop (4*l.length+8+(run k D).2)=_;rw[<-Cz l,<-yN,yO]
  cases h:Ab (D.drop (run k D).2)with
  |none=>
   have h2:run (k+1+1) (AD l++D)=run (k+1) (AD l++D):=Ep (by rw[e];exact h) 1;have h3:run (k+1) D=run k D:=Ep h 1;rw[h2,ih,h3]
  |some x=>
   rw[EK (by rw[e];exact h),EK h,ih];simp[zU]
theorem NC{l:List Int}(hl:wrC l=0)(D:List UInt8):Ax (AD l++D)=(l::(Ax D).1,4*l.length+8+(Ax D).2):=by
 have hlen:(AD l++D).length=4*l.length+7+D.length+1:=by rw[qF,Cz];omega
 show run (AD l++D).length (AD l++D)=_;rw[hlen,NU hl,Uq D (by omega)]
theorem US{l:List Int}(hl:wrC l=0){c:Nat}(hc:c<4*l.length+8):Ax ((AD l).take c)=([],0):=by
 obtain⟨h1,_⟩:=Ma hl [];rw[vT]at h1;have hlen:((AD l).take c).length=c:=by rw[qP,Cz];omega
 have hn:Ab ((AD l).take c)=none:=by
  by_cases h4:c<4
  .exact NH (by omega)
  .have hf:AQ ((AD l).take c) 0=AQ (AD l) 0:=by
    unfold AQ;have g:∀i,i<c->((AD l).take c).getD i 0=(AD l).getD i 0:=fun i hi=>by simp[qC,hi]
    rw[g 0 (by omega),g (0+1) (by omega),g (0+2) (by omega),g (0+3) (by omega)]
   exact UT (by omega) (by rw[hf,h1];omega)
 exact Jq (k:=0) (qJ _) (by show Ab (((AD l).take c).drop 0)=Z;rw[jP];exact hn)
theorem ND:∀ (rs:List (List Int)),(∀ l∈rs,wrC l=0)->∀ c,c <= (AV rs).length->∃ j,j <= rs.length/\(Ax ((AV rs).take c)).1=rs.take j/\(j=rs.length↔c=(AV rs).length)
  |[],_,c,hc=>⟨0,qB _,by
      have:c=0:=by simpa[AV]using hc
      subst this;rfl,by simp[AV]at hc⊢;exact hc⟩
  | l:: rs,hr,c,hc=>by
    have e:AV (l::rs)=AD l++AV rs:=rfl;have hl:=hr l (by simp);have hll:=Cz l;by_cases h:c<4*l.length+8
    . refine⟨0,qJ _,?_,?_⟩
      . rw[e,jO (by omega),US hl h]
        rfl
      . rw[e,qF,qY]
        omega
    . obtain⟨j,h1,h2,h3⟩:=ND rs (fun x hx=>hr x (by simp[hx])) (c-(4*l.length+8)) (by rw[e,qF]at hc;omega)
      refine⟨j+1,by simp;omega,?_,?_⟩
      . rw[e,kH,qN (by omega),hll,NC hl,h2]
        rfl
      . rw[e,qF,qY,hll]
        omega
theorem NV(D:List UInt8):∀k,D.take (run k D).2=AV (run k D).1/\∀l∈(run k D).1,wrC l=0
 |0=>⟨by simp[run,AV],fun l hl=>by simp[run]at hl⟩
 |k+1=>by
  obtain⟨h1,h2⟩:=NV D k;cases h:Ab (D.drop (run k D).2)with
  |none=>
   have e:run (k+1) D=run k D:=Ep h 1;rw[e];exact⟨h1,h2⟩
  |some l=>
   obtain⟨g1,_,g3,g4,_⟩:=Jr h;rw[EK h];refine⟨?_,fun x hx=>?_⟩
   .show D.take ((run k D).2+(4*l.length+8))=AV ((run k D).1++[l]);rw[xU,h1,Ig,g4]
   .rcases List.mem_append.1 hx with hx|hx
    .exact h2 x hx
    .rw[vM.1 hx];exact g1
theorem UO{rs:List (List Int)}(hr:∀l∈rs,wrC l=0)(rest:List UInt8):∃more,(Ax (AV rs++rest)).1=rs++more/\(AV rs).length<=(Ax (AV rs++rest)).2:=by
 induction rs with
 |nil=>exact⟨(Ax rest).1,by simp[AV],by simp[AV]⟩
 |cons l rs ih=>
  obtain⟨more,h1,h2⟩:=ih (fun x hx=>hr x (by simp[hx]));have e:AV (l::rs)++rest=AD l++(AV rs++rest):=by rw[show AV (l::rs)=AD l++AV rs from rfl,q9]
  have e2:AV (l::rs)=AD l++AV rs:=rfl;rw[e,NC (hr l (by simp)),e2];refine⟨more,by simp[h1],?_⟩;rw[qF,Cz];show 4*l.length+8+(AV rs).length<=4*l.length+8+(Ax (AV rs++rest)).2;omega
open Go.ChangeShapes Go.WideShapes Go.ChangeAt Go.RowKit Go.Deep Go.Maps
open Terms Tm
noncomputable def AY(m:Mo)(ps:List am)(l:am)(K:Nat):Gr:=⟨xpP m ps l K,((AC m ps l).length:Nat),xpN m ps l K,xpT m ps l K,((AA l).length:Nat)⟩
section
variable{m:Mo}{ps:List am}{l:am}{K:Nat}
theorem OM(h:At m ps l K){i:Nat}(hi:i<K):Br m ps l i=(xpP m ps l K).getD i (0,0):=
 (QS (AC m ps l) (BB m ps l) (qU hi) (h.2.2.1 i hi)).symm
theorem KQ(h:At m ps l K){i:Nat}(hi:i<K):(xpP m ps l K).idxOf ((xpP m ps l K).getD i (0,0))=i:=by
 have hnd:(xpP m ps l K).Nodup:=LH _ _ K;have hl:i<(xpP m ps l K).length:=by rw[h.1];exact hi
 rw[qC,qH hl];exact hnd.idxOf_getElem i hl
theorem XI{K:Nat}:∀{j:Nat},j<K->(xpN m ps l K).getD j []=Cl (xpP m ps l j) (BB m ps l (Br m ps l j)):=by
 induction K with
 |zero=>intro j h;omega
 |succ K ih=>
  intro j h;rw[xpN,qC];by_cases hj:j<K
  .rw[qX (by rw[C1];exact hj),<-qC];exact ih hj
  .obtain rfl:j=K:=by omega
   rw[q7 (by rw[C1];exact qB _),C1];simp
theorem OQ{K:Nat}:∀{j:Nat},j<K->(xpT m ps l K).getD j 0=B7 l (AJ m ps (Br m ps l j).1) (Br m ps l j).2:=by
 induction K with
 |zero=>intro j h;omega
 |succ K ih=>
  intro j h;rw[xpT,qC];by_cases hj:j<K
  .rw[qX (by rw[DB];exact hj),<-qC];exact ih hj
  .obtain rfl:j=K:=by omega
   rw[q7 (by rw[DB];exact qB _),DB];simp
theorem OH(m:Mo)(ps:List am)(l:am):(AC m ps l).Nodup:=by
 have key:∀k,(CD m ps l k).Nodup:=fun k=>by
  induction k with
  |zero=>simp[CD]
  |succ k ih=>
   rw[CD];split
   .exact ih
   .refine vZ.2 ⟨ih,by simp,fun a ha b hb e=>?_⟩;rw[vM]at hb;subst hb;subst e;obtain⟨_,d,h2,h3,_⟩:=IF _ ha;simp only at h3;omega
 exact key _
theorem IG(h:At m ps l K){i:Nat}(hi:i<K):((xpN m ps l K).getD i []).length=(BB m ps l ((xpP m ps l K).getD i (0,0))).length/\∀q,q<(BB m ps l ((xpP m ps l K).getD i (0,0))).length->((xpN m ps l K).getD i []).getD q 0=(((xpP m ps l K).idxOf ((BB m ps l ((xpP m ps l K).getD i (0,0))).getD q (0,0)):Nat):Int)/\(BB m ps l ((xpP m ps l K).getD i (0,0))).getD q (0,0)∈xpP m ps l K:=by
 rw[XI hi,<-OM h hi];refine⟨Hf _ _,fun q hq=>?_⟩;have hmem:(BB m ps l (Br m ps l i)).getD q (0,0)∈xpP m ps l (i+1):=by
  rw[IH,Eo];refine .inr ?_;rw[qC,qH hq];exact qR _
 have hpre:xpP m ps l (i+1) <+: xpP m ps l K:=Dk _ _ hi;refine⟨?_,hpre.subset hmem⟩;rw[Mt hq,<-IH,Gn hpre hmem]
theorem MI(l:am)(letter:List Bool)(c:Int):0<=B7 l letter c/\B7 l letter c<(2:Int)^(AA l).length:=by
 unfold B7;split
 .exact MJ _ _ _
 .exact ⟨by omega,Int.pow_pos (by decide)⟩
theorem LG(hk:AX m ps l=0)(h:At m ps l K):GOk (AY m ps l K):=by
 have h6:=(B6 (BU hk).2).2.2.2.2;have hbl:(AC m ps l).length<=(xpP m ps l K).length:=by
  have h1:=(Dk (AC m ps l) (BB m ps l) (qJ K)).length_le;have h2:(AC m ps l).length<=(exS (AC m ps l) (BB m ps l) 0).length:=by
   show _<=(AH [] (AC m ps l)).length;have hnd:=Jj (AC m ps l) [] List.nodup_nil;have hsub:AC m ps l ⊆ AH [] (AC m ps l):=fun x hx=>(Eo _ _ _).2 (.inr hx);exact(OH m ps l).length_le_of_subset hsub
  exact qI h2 h1
 refine⟨⟨by show(xpP m ps l K).length<=_;rw[h.1];exact h.2.1,by show(xpN m ps l K).length=(xpP m ps l K).length;rw[C1,h.1],by show(xpT m ps l K).length=(xpP m ps l K).length;rw[DB,h.1],by show(0:Int)<=((AC m ps l).length:Nat);omega,by show(((AC m ps l).length:Nat):Int)<=((xpP m ps l K).length:Nat);omega,by show(0:Int)<=((AA l).length:Nat);omega,by show(((AA l).length:Nat):Int)<=6;omega⟩,fun i hi=>?_⟩;have hiK:i<K:=by have:i<(xpP m ps l K).length:=hi;rw[h.1]at this;exact this
 refine⟨?_,fun q hq=>?_⟩
 .unfold Ez top;show 0<=(xpT m ps l K).getD i 0/\(xpT m ps l K).getD i 0<=2^(((AA l).length:Nat):Int).toNat-1;rw[OQ hiK];have:=MI l (AJ m ps (Br m ps l i).1) (Br m ps l i).2;rw[Int.toNat_natCast];omega
 .obtain ⟨r1,r2⟩:=IG h hiK;have hq':q<(BB m ps l ((xpP m ps l K).getD i (0,0))).length:=by rw[<-r1];exact hq
  obtain⟨r3,r4⟩:=r2 q hq';show 0<=((xpN m ps l K).getD i []).getD q 0/\((xpN m ps l K).getD i []).getD q 0<((xpP m ps l K).length:Nat);rw[r3];have:=List.idxOf_lt_length_of_mem r4;omega
end
theorem SpO.ops{w:V}{base:Nat}{v:L}{x:am}(h:SpO w base v x):OpsV w v x:=by
 rcases h.2 with⟨rfl,h0⟩|⟨g,cap,cur,rfl,hb,hg,hnc,hcm,hcs,htake⟩
 .have:x=[]:=by simpa using h0
  subst this;exact⟨Z,0,rfl,⟨by simp,fun _=>⟨rfl,rfl⟩⟩,fun h=>absurd rfl h⟩
 .refine ⟨_,cap,rfl,⟨hnc,fun h=>by simp at h⟩,fun _=>⟨g,0,rfl,(qG.1 hg).1,fun i hi=>?_⟩⟩;obtain⟨f0,f1⟩:=Fj x i hi;rw[fk.cellAt h _ (by omega),fk.cellAt h _ (by omega)];simpa using⟨f0,f1⟩
theorem GrX.graph{w:V}{base K:Nat}{m:Mo}{ps:List am}{l:am}{sv nv tv:L}(h:GrX w base m ps l K sv nv tv):GraphV w sv nv tv (AY m ps l K):=by
 obtain⟨h1,⟨us,n1,n2,n3⟩,h3⟩:=h;refine⟨h1.ops,?_,D8 h3⟩;have n1':w.ownsRow base 43 1 nv us.length us:=by rw[n2];exact n1
 refine SF n1' ⟨n2,fun i hi=>?_⟩;obtain⟨ao,c,e1,e2,_,_⟩:=n3 i hi;have e1':us.getD i JO=.slice ao ((xpN m ps l K).getD i []).length c:=e1;rw[e1'];exact e2
def AP(p:Int×Int):Int:=64*p.1+p.2
noncomputable def fN(m:Mo)(ps:List am)(l:am)(i:Nat):Nat:=(xpP m ps l i).length
noncomputable def frX(m:Mo)(ps:List am)(l:am)(i:Nat):List Int:=((xpP m ps l (i+1)).drop (fN m ps l i)).map AP
noncomputable def rcX(m:Mo)(ps:List am)(l:am)(i:Nat):List Int:=(i:Int)::frX m ps l i
noncomputable def rcs(m:Mo)(ps:List am)(l:am)(n:Nat):List (List Int):=(List.range n).map (rcX m ps l)
section
variable{m:Mo}{ps:List am}{l:am}{K:Nat}
theorem E7{i j:Nat}(h:i<=j):fN m ps l i<=fN m ps l j:=(Dk (AC m ps l) (BB m ps l) h).length_le
theorem Ga(h:At m ps l K){j:Nat}(hj:j<K):j<fN m ps l j:=h.2.2.1 j hj
theorem Fg(h:At m ps l K):fN m ps l K=K:=h.1
theorem DZ(h:At m ps l K){j:Nat}(hj:j<=K):j<=fN m ps l j/\fN m ps l j<=K:=by
 have h1:=E7 (m:=m) (ps:=ps) (l:=l) hj;rw[Fg h]at h1;refine⟨?_,h1⟩;by_cases e:j=K
 .rw[e,Fg h];exact qB _
 .exact qU (Ga h (by omega))
theorem My:∀(a S:am),(S++a).Nodup->AH S a=S++a
 |[],S,_=>by rw[Ji,vT]
 |x::a,S,h=>by
  have hx:x∉S:=fun hm=>by
   have:=(vZ.1 h).2.2 x hm x (by simp);exact this rfl
  rw[Jh,Hg hx,My a (S++[x]) (by simpa using h)];simp
theorem ON:xpP m ps l 0=AC m ps l:=by
 show AH [] (AC m ps l)=_;rw[My _ _ (by simpa using OH m ps l)];rfl
theorem Gb:fN m ps l 0=(AC m ps l).length:=by unfold fN;rw[ON]
theorem LY(i:Nat):(frX m ps l i).length=fN m ps l (i+1)-fN m ps l i:=by unfold frX fN;simp
theorem Fy(i:Nat):(rcX m ps l i).length=fN m ps l (i+1)-fN m ps l i+1:=by unfold rcX;rw[qY,LY]
theorem Dq(n:Nat):(rcs m ps l n).length=n:=by simp[rcs]
theorem M9{n k:Nat}(h:k<=n):(rcs m ps l n).take k=rcs m ps l k:=by
 unfold rcs;rw[<-List.map_take,List.take_range,jT h]
theorem UK(n:Nat):rcs m ps l (n+1)=rcs m ps l n++[rcX m ps l n]:=by unfold rcs;rw[xL,vJ];rfl
theorem UJ{n i:Nat}(h:i<n):(rcs m ps l n).getD i []=rcX m ps l i:=by simp[rcs,qC,h]
noncomputable def byX(m:Mo)(ps:List am)(l:am)(n:Nat):List UInt8:=AV (rcs m ps l n)
theorem Kr(n:Nat):byX m ps l (n+1)=byX m ps l n++AD (rcX m ps l n):=by unfold byX;rw[UK,Ig]
theorem Kq(h:At m ps l K):∀n,n<=K->(byX m ps l n).length=12*n+4*(fN m ps l n-fN m ps l 0)
 |0,_=>by simp[byX,rcs,AV]
 |n+1,hn=>by
  have h1:=E7 (m:=m) (ps:=ps) (l:=l) (Nat.le_add_right n 1);have h2:=E7 (m:=m) (ps:=ps) (l:=l) (qJ n);rw[Kr,qF,Kq h n (by omega),Cz,Fy];omega
theorem GO{s n:Nat}(h:s<=n):∃more,byX m ps l n=byX m ps l s++more:=by
 refine⟨AV ((rcs m ps l n).drop s),?_⟩;unfold byX;rw[<-Ks,<-M9 h,vC]
theorem Ht(hk:AX m ps l=0){p:Int×Int}(h:Bl m l p):0<=p.2/\p.2<64/\0<=p.1/\p.1<AL m.vars m.vars.length:=by
 have h6:=(B6 (BU hk).2).2.2.2.2;obtain⟨⟨h1,h2⟩,d,h3,h4⟩:=h;have h7:2^(AA l).length<=2^6:=Nat.pow_le_pow_right (by decide) (by omega);exact⟨by omega,by omega,h1,h2⟩
theorem Rq(hk:AX m ps l=0){p q:Int×Int}(hp:Bl m l p)(hq:Bl m l q)(e:AP p=AP q):p=q:=by
 have h1:=Ht hk hp;have h2:=Ht hk hq;unfold AP at e;exact Prod.ext (by omega) (by omega)
structure SmallK(m:Mo)(ps:List am)(l:am)(K:Nat):Prop where
 code:AX m ps l=0
 done:At m ps l K
 few:K<=1000
 states:AL m.vars m.vars.length<=10000
theorem SmallK.spot(h:SmallK m ps l K){i:Nat}(hi:i<K):Bl m l ((xpP m ps l K).getD i (0,0)):=by
 refine h.done.2.2.2 _ ?_;rw[qC,qH (by rw[h.done.1];exact hi)];exact qR _
theorem SmallK.key(h:SmallK m ps l K){p:Int×Int}(hp:Bl m l p):0<=AP p/\AP p<640000:=by
 have h1:=Ht h.code hp;have h2:=h.states;unfold AP;omega
theorem SmallK.pre(h:SmallK m ps l K){n:Nat}(hn:n<=K):∀p∈xpP m ps l n,Bl m l p:=fun p hp=>h.done.2.2.2 p ((Dk (AC m ps l) (BB m ps l) hn).subset hp)
theorem SmallK.rc(h:SmallK m ps l K){i:Nat}(hi:i<K):wrC (rcX m ps l i)=0:=by
 have h1:=(DZ h.done (j:=i+1) hi).2;have h2:=h.few;refine KK (by rw[Fy];omega) ?_;rw[Bool.eq_false_iff];intro e;rw[vD]at e;obtain⟨x,hx,ho⟩:=e;have hr:0<=x/\x<=2147483647:=by
  unfold rcX frX at hx;rcases List.mem_cons.1 hx with rfl|hx
  .omega
  .obtain ⟨p,hp,rfl⟩:=vH.1 hx;have:=h.key (h.pre hi p (List.mem_of_mem_drop hp));omega
 simp[Ae]at ho;omega
theorem SmallK.rcs(h:SmallK m ps l K){n:Nat}(hn:n<=K):∀r∈rcs m ps l n,wrC r=0:=fun r hr=>by
 obtain⟨i,hi,rfl⟩:=vH.1 hr;exact h.rc (by have:=vA.1 hi;omega)
theorem SmallK.bytes(h:SmallK m ps l K){n:Nat}(hn:n<=K):(byX m ps l n).length<=16000:=by
 rw[Kq h.done n hn];have:=(DZ h.done hn).2;have:=h.few;omega
noncomputable def Cu(m:Mo)(ps:List am)(l:am)(n s keep:Nat):Nat:=(Ax ((byX m ps l n).take ((byX m ps l s).length+min keep ((byX m ps l n).length-(byX m ps l s).length)))).1.length
theorem SmallK.cut(h:SmallK m ps l K){n s:Nat}(hn:n<=K)(hs:s<=n)(keep:Nat) :
  s<=Cu m ps l n s keep/\Cu m ps l n s keep<=n/\(keep=0->Cu m ps l n s keep=s)/\(16000<=keep->Cu m ps l n s keep=n)/\
  Ax ((byX m ps l n).take ((byX m ps l s).length+min keep ((byX m ps l n).length-(byX m ps l s).length)))=(Go.Proofs.YtehfhemidmfffaaGreatDoor.rcs m ps l (Cu m ps l n s keep),(byX m ps l (Cu m ps l n s keep)).length)/\
  ((byX m ps l n).take ((byX m ps l s).length+min keep ((byX m ps l n).length-(byX m ps l s).length))).take (byX m ps l (Cu m ps l n s keep)).length=byX m ps l (Cu m ps l n s keep):=by
 obtain⟨more,hm⟩:=GO (m:=m) (ps:=ps) (l:=l) hs;have hle:(byX m ps l s).length<=(byX m ps l n).length:=by rw[hm,qF];omega
 obtain⟨c,hc⟩:∃c,c=(byX m ps l s).length+min keep ((byX m ps l n).length-(byX m ps l s).length):=⟨_,rfl⟩;have hcs:(byX m ps l s).length<=c:=by omega
 have hcn:c<=(byX m ps l n).length:=by omega
 obtain⟨j,hj,hr,hj2⟩:=ND _ (h.rcs hn) c hcn;rw[Dq]at hj hj2;have hlen:Cu m ps l n s keep=j:=by
  unfold Cu;rw[<-hc];show(Ax ((AV (Go.Proofs.YtehfhemidmfffaaGreatDoor.rcs m ps l n)).take c)).1.length=j;rw[hr,qP,Dq];omega
 have hrj:(Ax ((byX m ps l n).take c)).1=Go.Proofs.YtehfhemidmfffaaGreatDoor.rcs m ps l j:=by
  show(Ax ((AV (Go.Proofs.YtehfhemidmfffaaGreatDoor.rcs m ps l n)).take c)).1=_;rw[hr,M9 hj]
 obtain⟨t1,t2⟩:=NV ((byX m ps l n).take c) ((byX m ps l n).take c).length;have t1':((byX m ps l n).take c).take (Ax ((byX m ps l n).take c)).2=AV (Ax ((byX m ps l n).take c)).1:=t1;rw[hrj]at t1';have hl2:(Ax ((byX m ps l n).take c)).2=(byX m ps l j).length:=by
  have h1:=congrArg List.length t1';have h2:(Ax ((byX m ps l n).take c)).2<=((byX m ps l n).take c).length:=FK _ _;rw[qP]at h1;show _=(AV (Go.Proofs.YtehfhemidmfffaaGreatDoor.rcs m ps l j)).length;omega
 rw[hlen,<-hc];have hsj:s<=j:=by
  have e:(byX m ps l n).take c=AV (Go.Proofs.YtehfhemidmfffaaGreatDoor.rcs m ps l s)++more.take (c-(byX m ps l s).length):=by
   rw[hm,kH];congr 1
   exact qN hcs
  obtain⟨mo2,h3,_⟩:=UO (h.rcs (qI hs hn)) (more.take (c-(byX m ps l s).length));rw[<-e,hrj]at h3;have h4:=congrArg List.length h3;rw[qF,Dq,Dq]at h4;omega
 refine⟨hsj,hj,fun h0=>?_,fun h0=>?_,?_,?_⟩
 .have e:(byX m ps l n).take c=AV (Go.Proofs.YtehfhemidmfffaaGreatDoor.rcs m ps l s):=by
   rw[hm,jO (by omega),qN (by omega)];rfl
  have h3:=Jn (h.rcs (qI hs hn));rw[<-e]at h3;have h4:=congrArg (fun z=>z.1.length) h3;simp only at h4;rw[hrj,Dq,Dq]at h4;exact h4
 .have:=h.bytes hn;exact hj2.2 (show c=(byX m ps l n).length by omega)
 .exact Prod.ext hrj hl2
 .rw[<-hl2];exact t1'
end
structure Sr where
 up:Bool
 n:Nat
 s:Nat
 mx:Nat
 ag:Nat
def sr0:Sr:=⟨true,0,0,0,0⟩
def wkS(K:Nat)(st:Sr)(k:Nat):Sr:=⟨st.up,min (st.n+k) K,st.s,max st.mx (min (st.n+k) K),st.ag+(min (min (st.n+k) K) st.mx-st.n)⟩
section
variable(m:Mo)(ps:List am)(l:am)(K:Nat)
noncomputable def crS(st:Sr)(k:Nat):Sr:=⟨I,Cu m ps l st.n st.s k,Cu m ps l st.n st.s k,st.mx,st.ag⟩
noncomputable def mvS(st:Sr)(v:Int×Int):Sr:=
 if v.1=4 then{ st with up:=true}else if st.up=I then st else if v.1=1 then wkS K st v.2.toNat else if v.1=2 then{ st with s:=st.n}else crS m ps l st v.2.toNat
noncomputable def Aw(vs:am):Sr:=vs.foldl (mvS m ps l K) sr0
structure SrOk(st:Sr):Prop where
 a:st.s<=st.n
 b:st.n<=st.mx
 c:st.mx<=K
end
section
variable{m:Mo}{ps:List am}{l:am}{K:Nat}
theorem SrOk.start:SrOk K sr0:=⟨qB _,qB _,qJ _⟩
theorem SrOk.wk{st:Sr}(h:SrOk K st)(k:Nat):SrOk K (wkS K st k):=by
 obtain⟨a,b,c⟩:=h;exact⟨by show st.s<=min (st.n+k) K;omega,by show min (st.n+k) K<=max st.mx (min (st.n+k) K);omega,by show max st.mx (min (st.n+k) K)<=K;omega⟩
theorem SrOk.mv(hs:SmallK m ps l K){st:Sr}(h:SrOk K st)(v:Int×Int):SrOk K (mvS m ps l K st v):=by
 unfold mvS;split
 .exact ⟨h.a,h.b,h.c⟩
 split
 .exact h
 split
 .exact h.wk _
 split
 .exact ⟨qB _,h.b,h.c⟩
 .obtain ⟨c1,c2,_⟩:=hs.cut (qI h.b h.c) h.a v.2.toNat;exact⟨qB _,qI c2 h.b,h.c⟩
theorem SrOk.run(hs:SmallK m ps l K)(vs:am):∀{st:Sr},SrOk K st->SrOk K (vs.foldl (mvS m ps l K) st):=by
 induction vs with
 |nil=>exact fun h=>h
 |cons v vs ih=>exact fun h=>ih (h.mv hs v)
theorem SrOk.all(hs:SmallK m ps l K)(vs:am):SrOk K (Aw m ps l K vs):=SrOk.start.run hs vs
theorem NP(a b:am):Aw m ps l K (a++b)=b.foldl (mvS m ps l K) (Aw m ps l K a):=by unfold Aw;rw[List.foldl_append]
theorem NQ(a:am)(v:Int×Int):Aw m ps l K (a++[v])=mvS m ps l K (Aw m ps l K a) v:=NP a [v]
end
noncomputable def dnS(m:Mo)(ps:List am)(l:am)(st:Sr):Bool:=st.up&&decide (fN m ps l st.n<=st.n)
section
variable{m:Mo}{ps:List am}{l:am}{K:Nat}
end
theorem Rj(l:List Int):(AB l).length=l.length:=by simp[AB]
theorem Fp(l m:List Int):AB (l++m)=AB l++AB m:=by simp[AB]
theorem IntsAt.below{B b off:Nat}{l:List Int}{w w':V}(h:IntsAt w b off l)(hb:T B w w')(hB:b<B):IntsAt w' b off l:=fun i hi=>(hb.cell (p:=(C b _ Z)) hB).trans (h i hi)
def IntsVU(w:V)(v:L)(l:List Int):Prop:=∃ao cap,v=.slice ao l.length cap/\(l.length<=cap/\(ao=Z->cap=0/\l=[]))/\(l≠[]->∃b off,ao=U (C b off Z)/\b<w.heap.size/\IntsAt w b off l)
theorem IntsVU.below{w w':V}{v:L}{l:List Int}(h:IntsVU w v l)(hb:T w.heap.size w w'):IntsVU w' v l:=by
 obtain⟨ao,cap,rfl,h0,h⟩:=h;refine⟨ao,cap,rfl,h0,fun hne=>?_⟩;obtain⟨b,off,rfl,hlt,hat⟩:=h hne;exact⟨b,off,rfl,qE hlt hb.size,hat.below hb hlt⟩
theorem I3(w:V):IntsVU w (X Z 0 0) []:=⟨Z,0,rfl,⟨qB _,fun _=>⟨rfl,rfl⟩⟩,fun h=>absurd rfl h⟩
theorem IntsVU.shape{w:V}{v:L}{l:List Int}(h:IntsVU w v l):∃ao cap,v=.slice ao l.length cap:=by
 obtain⟨ao,cap,rfl,_⟩:=h;exact⟨_,_,rfl⟩
theorem IntsAt.cells{w:V}{b off:Nat}{l:List Int}(h:IntsAt w b off l):∀j u,(AB l)[j]? = U u->w.cell? ((⟨b,off,Z⟩:Addr).add j)=U u:=by
 intro j u hj;have hlt:j<l.length:=by have:=(vQ.1 hj).1;simpa[AB]using this
 rw[Go.WideShapes.add_plain,h j hlt];simp[AB,hlt]at hj;simp[qC,hlt,hj]
theorem IntsVU.cells{w:V}{a:Addr}{cap:Nat}{l:List Int}(h:IntsVU w (.slice (U a) l.length cap) l):∀j u,(AB l)[j]? = U u->w.cell? (a.add j)=U u:=by
 intro j u hj;have hlt:j<l.length:=by have:=(vQ.1 hj).1;simpa[AB]using this
 obtain⟨ao,c,e,_,h⟩:=h;obtain⟨b,off,e2,_,hat⟩:=h (by intro h;subst h;simp at hlt);simp at e;obtain rfl:=Option.some.inj (e.1.trans e2);exact hat.cells j u hj
theorem I4{w:V}{base:Nat}{v:L}{l:List Int}(h:w.ownsRow base 3 1 v l.length (AB l)):IntsVU w v l:=by
 rcases h.2 with⟨rfl,h0⟩|⟨g,cap,cur,rfl,hb,hg,hnc,hcm,hcs,htake⟩
 .have:l=[]:=by simpa using h0
  subst this;exact I3 w
 .refine ⟨_,cap,rfl,⟨hnc,fun h=>by simp at h⟩,fun _=>⟨g,0,rfl,(qG.1 hg).1,fun i hi=>?_⟩⟩;rw[qV,h.cellAt i (by omega)];simp[AB,qC,hi]
theorem IntsVU.at{w:V}{ao:Option Addr}{cap n:Nat}{l:List Int}(h:IntsVU w (X ao n cap) l){i:Nat}(hi:i<l.length):∃b off,ao=U (C b off Z)/\b<w.heap.size/\l.length<=cap/\IntsAt w b off l:=by
 obtain⟨ao',cap',hv,⟨hc,_⟩,h3⟩:=h;injection hv with e1 e2 e3;subst e1 e3;obtain⟨b,off,e,hlt,hat⟩:=h3 (by rintro rfl;simp at hi);exact⟨b,off,e,hlt,hc,hat⟩
def LisVU(w:V)(v:L)(rs:List (List Int)):Prop:=∃(us:List L) (ao:Option Addr) (cap:Nat),v=.slice ao rs.length cap/\(rs.length<=cap/\(ao=Z->cap=0/\rs=[]))/\us.length=rs.length/\(∀i,i<rs.length->IntsVU w (us.getD i DO) (rs.getD i []))/\(rs≠[]->∃b off,ao=U (C b off Z)/\b<w.heap.size/\∀i,i<rs.length->w.cell? ⟨b,off+i,Z⟩=U (us.getD i DO))
theorem LisVU.below{w w':V}{v:L}{rs:List (List Int)}(h:LisVU w v rs)(hb:T w.heap.size w w'):LisVU w' v rs:=by
 obtain⟨us,ao,cap,rfl,h0,h1,h2,h3⟩:=h;refine⟨us,ao,cap,rfl,h0,h1,fun i hi=>(h2 i hi).below hb,fun hne=>?_⟩;obtain⟨b,off,rfl,hlt,hat⟩:=h3 hne;exact⟨b,off,rfl,qE hlt hb.size,fun i hi=>(hb.cell (p:=(C b _ Z)) hlt).trans (hat i hi)⟩
theorem LisVU.nil(w:V):LisVU w (X Z 0 0) []:=⟨[],Z,0,rfl,⟨qB _,fun _=>⟨rfl,rfl⟩⟩,rfl,fun i hi=>by simp at hi,fun h=>absurd rfl h⟩
theorem LisVU.at{w:V}{ao:Option Addr}{cap n:Nat}{rs:List (List Int)}(h:LisVU w (X ao n cap) rs){i:Nat}(hi:i<rs.length):∃b off,ao=U (C b off Z)/\b<w.heap.size/\∃u,w.cell? ⟨b,off+i,Z⟩=U u/\IntsVU w u (rs.getD i []):=by
 obtain⟨us,ao',cap',hv,h0,h1,h2,h3⟩:=h;injection hv with e1 e2 e3;subst e1;obtain⟨b,off,e,hlt,hat⟩:=h3 (by rintro rfl;simp at hi);exact⟨b,off,e,hlt,_,hat i hi,h2 i hi⟩
theorem LisO.v{w:V}{base:Nat}{v:L}{rs:List (List Int)}(h:LisO w base v rs):LisVU w v rs:=by
 obtain⟨us,h1,h2,h3⟩:=h;rcases h1.2 with⟨rfl,h0⟩|⟨g,cap,cur,rfl,hb,hg,hnc,hcm,hcs,htake⟩
 .have:rs=[]:=by simpa using h0
  subst this;exact LisVU.nil w
 .refine ⟨us,_,cap,rfl,⟨hnc,fun h=>by simp at h⟩,h2,fun i hi=>I4 (h3 i hi),fun _=>⟨g,0,rfl,(qG.1 hg).1,fun i hi=>?_⟩⟩;rw[qV,h1.cellAt i (by omega)];simp[qC,show i<us.length by omega]
theorem Tq{w:V}{base:Nat}{e:TypeId}{s n:Nat}{v:L}{xs:List L}{p:Addr}(h:w.ownsRow base e s v n xs)(hp:p.block<base)(u:L):(w.setCell p u).ownsRow base e s v n xs:=by
 obtain⟨h1,h2⟩:=h;refine⟨h1,?_⟩;rcases h2 with h2|⟨g,cap,cur,hv,hg,hh,r⟩
 .exact .inl h2
 .refine .inr ⟨g,cap,cur,hv,hg,?_,r⟩;exact(Below.heap_setCell w p u g (by omega)).trans hh
def Bw(w1:V)(b:Nat)(y0 y1:L):Prop:=Bc w1 b y0 y1/\w1.frozen? (C b 0 Z)=I/\w1.frozen? (C b 1 Z)=I
theorem Bw.later{w1 w2:V}{b:Nat}{y0 y1:L}(h:Bw w1 b y0 y1)(hb:T w1.heap.size w1 w2):Bw w2 b y0 y1:=
 ⟨h.1.later hb,(hb.frozen (p:=(C b 0 Z)) h.1.1).trans h.2.1,(hb.frozen (p:=(C b 1 Z)) h.1.1).trans h.2.2⟩
theorem Bw.new(w:V)(y0 y1:L)(t:TypeId):Bw (w.alloc (O #[y0,y1] t)) w.heap.size y0 y1:=by
 refine⟨(Bc.arg w y0 y1 t).2,?_,?_⟩<;>simp[go_sem]
section
variable{H:Type}{enc:TypeId×L -> H}{W:V}
end
