/- Joined texts. -/
import Derived.Test.YtjldkfiabgagiaaGreatDoorSccA
import Derived.Laws.IdiomStrings
import Derived.Test.YtjldkfiabgagiaaGreatDoorLateD
open Go renaming World→V,Value→L,Calls→J
open Go.Ending renaming returned→M
open Go.IntKind renaming i64→Y
open Go.Obj renaming cells→O
open Go.RowKit renaming Below→T,Hid→N
open Go.Value renaming slice→X,agg→F,tuple→G
open _root_.Bool renaming false→I
open _root_.Option renaming none→Z,some→U
namespace Go.Proofs.YtjldkfiabgagiaaGreatDoor
open _root_.Array renaming getElem?_eq_some_iff→qG
open Go.RowKit.Below renaming refl→qD
open _root_.Int renaming le_refl→xS
open _root_.List renaming any_append→zC,any_eq_true→vC,append_assoc→q7,append_nil→vN,drop_drop→yF,drop_left→yG,drop_zero→jM,ext_getElem?→jK,getD_eq_getElem?_getD→qC,getElem?_append_left→qX,getElem?_append_right→vA,getElem?_eq_getElem→qH,getElem?_eq_none→vF,getElem?_eq_some_iff→vM,getElem?_take→xJ,getElem_cons_drop→yD,getElem_mem→qT,length_append→qF,length_cons→qU,length_drop→qM,length_pos_iff→vU,length_take→qP,map_append→vY,map_cons→xF,map_nil→zW,mem_map→vI,mem_range→vE,mem_singleton→vJ,nil_append→vZ,nodup_append→vX,range_succ→xI,take_add→xT,take_add_one→jS,take_append→y7,take_append_drop→q9,take_append_of_le_length→jL,take_of_length_le→qQ
open _root_.Nat renaming add_assoc→zR,le_of_lt→qS,le_refl→qB,le_trans→qI,lt_of_lt_of_le→qE,min_eq_left→jR,mod_eq_of_lt→kB,sub_self→xA,zero_add→qV,zero_le→qJ
open Go.Proofs.Tryz renaming prog→qA
open Go.ChangeShapes Go.WideShapes Go.ChangeAt Go.RowKit Go.Deep
set_option maxHeartbeats 6400000
set_option maxRecDepth 20000
theorem UA{P:Program}{w:V}(t ty e:TypeId)(i:TypeInfo)(ht:P.underlying t=U (.slice e))(hi:P.info? e=U i)(so:Option Addr)(sc:Nat) :
  (Builtin.append_ #[t,t] ty #[X Z 0 0,X so 0 sc]).run P w=.ok (X Z 0 0) w:=by
 cases so with
 |none=>simp[Builtin.append_,run_underlying ht,sizeOf,typeInfo,hi,Builtin.lenOf,Builtin.firstCells]
 |some a=>simp[Builtin.append_,run_underlying ht,sizeOf,typeInfo,hi,Builtin.lenOf,Builtin.firstCells,loadCells,loadCellsFrom]
open Go.ChangeShapes Go.WideShapes Go.ChangeAt Go.RowKit Go.Deep Go.Joins
theorem Ff:(qA.info? 5).map (fun i=>(i.zero,i.size,i.bytes))=U (U (.int .u8 0),1,1):=by kernel_rfl
def CI(w:V)(b off:Nat)(l:List UInt8):Prop:=∀i,i<l.length->w.cell? ⟨b,off+i,Z⟩=U (.int .u8 ((l.getD i 0).toNat:Int))
theorem CI.below{B b off:Nat}{l:List UInt8}{w w':V}(h:CI w b off l)(hb:T B w w')(hB:b<B):CI w' b off l:=fun i hi=>(hb.cell (p:=⟨b,_,Z⟩) hB).trans (h i hi)
def BU(w:V)(v:L)(l:List UInt8):Prop:=∃ao cap,v=.slice ao l.length cap/\(l.length<=cap/\(ao=Z->cap=0/\l=[]))/\(l≠[]->∃b off,ao=U ⟨b,off,Z⟩/\b<w.heap.size/\CI w b off l)
theorem BU.below{w w':V}{v:L}{l:List UInt8}(h:BU w v l)(hb:T w.heap.size w w'):BU w' v l:=by
 obtain⟨ao,cap,rfl,h0,h⟩:=h;refine⟨ao,cap,rfl,h0,fun hne=>?_⟩;obtain⟨b,off,rfl,hlt,hat⟩:=h hne;exact⟨b,off,rfl,qE hlt hb.size,hat.below hb hlt⟩
theorem Kk(w:V):BU w (X Z 0 0) []:=⟨Z,0,rfl,⟨qB _,fun _=>⟨rfl,rfl⟩⟩,fun h=>absurd rfl h⟩
def AF(l:List UInt8):List Value:=l.map fun x=>.int .u8 (x.toNat:Int)
theorem EQ(l:List UInt8):(AF l).length=l.length:=by simp[AF]
theorem GE(l m:List UInt8):AF (l++m)=AF l++AF m:=by simp[AF]
theorem IM(l:List UInt8):∀u∈AF l,u.oneCell'=true:=by
 intro u hu;simp only[AF,vI]at hu;obtain⟨p,_,rfl⟩:=hu;rfl
theorem ER{w:V}{base:Nat}{v:L}{l:List UInt8}(h:w.ownsRow base 5 1 v l.length (AF l)):BU w v l:=by
 rcases h.2 with⟨rfl,h0⟩|⟨g,cap,cur,rfl,hb,hg,hnc,hcm,hcs,htake⟩
 .have:l=[]:=by simpa using h0
  subst this;exact Kk w
 .refine ⟨_,cap,rfl,⟨hnc,fun h=>by simp at h⟩,fun _=>⟨g,0,rfl,(qG.1 hg).1,fun i hi=>?_⟩⟩;rw[qV,h.cellAt i (by omega)];simp[AF,qC,hi]
theorem CI.cells{w:V}{b off:Nat}{l:List UInt8}(h:CI w b off l):∀j u,(AF l)[j]? = U u->w.cell? ((⟨b,off,Z⟩:Addr).add j)=U u:=by
 intro j u hj;have hlt:j<l.length:=by have:=(vM.1 hj).1;simpa[AF]using this
 rw[Go.WideShapes.add_plain,h j hlt];simp[AF,hlt]at hj;simp[qC,hlt,hj]
section
variable{H:Type}{enc:TypeId×L -> H}{W:V}
end
def BL(n:Nat)(s:Int):Bool:=decide (n<=1048576/\0<=s/\s<=n)
theorem Fl(ao:Option Addr)(n cap:Nat)(s:Int)(w:V) :
  J qA 105 #[F #[X ao n cap,.int Y s]] w fun e w'=>e=M (.bool (BL n s))/\T w.heap.size w w':=by
 have hb:∀o,T w.heap.size w (w.alloc o):=fun o=>(qD _ _).alloc (qB _) _;by_cases h1:n<=1048576
 .by_cases h2:0<=s
  .by_cases h3:s<=n
   .rw[show BL n s=true by simp[BL,h1,h2,h3]];go_enter Tryz.func105,Tryz.ntmps105;go_wp2;all_goals go_ret
    all_goals exact⟨rfl,hb _⟩
   .rw[show BL n s=I by simp[BL,h3]];go_enter Tryz.func105,Tryz.ntmps105;go_wp2;all_goals go_ret
    all_goals exact⟨rfl,hb _⟩
  .rw[show BL n s=I by simp[BL,h2]];go_enter Tryz.func105,Tryz.ntmps105;go_wp2;all_goals go_ret
   all_goals exact⟨rfl,hb _⟩
 .rw[show BL n s=I by simp[BL,h1]];go_enter Tryz.func105,Tryz.ntmps105;go_wp2;all_goals go_ret
  all_goals exact⟨rfl,hb _⟩
theorem D8{w:V}{base:Nat}{e:TypeId}{s n:Nat}{v:L}{xs:List L}{p:Addr}(h:w.ownsRow base e s v n xs)(hp:p.block<base)(u:L):(w.setCell p u).ownsRow base e s v n xs:=by
 obtain⟨h1,h2⟩:=h;refine⟨h1,?_⟩;rcases h2 with h2|⟨g,cap,cur,hv,hg,hh,r⟩
 .exact .inl h2
 .refine .inr ⟨g,cap,cur,hv,hg,?_,r⟩;exact(Below.heap_setCell w p u g (by omega)).trans hh
section
variable{P:Program}{w:V}
theorem M2(t ty e:TypeId)(i:TypeInfo)(ht:P.underlying t=U (.slice e))(hi:P.info? e=U i)(v:L)(g n cap:Nat)(hv:v=X (U ⟨g,0,Z⟩) n cap)(so:Option Addr)(sc:Nat)(hnc:n<=cap) :
  (Builtin.append_ #[t,t] ty #[v,X so 0 sc]).run P w=.ok v w:=by
 subst hv;cases so with
 |none=>simp[Builtin.append_,run_underlying ht,sizeOf,typeInfo,hi,Builtin.lenOf,Builtin.firstCells,hnc,storeCells]
 |some a=>simp[Builtin.append_,run_underlying ht,sizeOf,typeInfo,hi,Builtin.lenOf,Builtin.firstCells,loadCells,loadCellsFrom,hnc,storeCells]
theorem Jl{ops:Array Oper}{o:Oper}{a:Act}{K:Act->V->Prop}{Q:Exit->Act->V->Prop}{E:Prop}(hgd:o.guard=Z)(s x:Operand)(t:TypeId)
  (ho:o.op=.call { callee:=.builtin .append,args:=#[s,x],argTypes:=#[t,t]})
  (e:TypeId) (i:TypeInfo) (ht:P.underlying t=U (.slice e)) (hi:P.info? e=U i) (g n cap:Nat) (hs:a.eval s=X (U ⟨g,0,Z⟩) n cap) (so:Option Addr) (sc:Nat) (hx:a.eval x=X so 0 sc) (hnc:n<=cap) (h:∀w',N (w'=w)->K (a.put o.dst (X (U ⟨g,0,Z⟩) n cap)) w') :
  if Region.wanted o (yielded ops a.tmps)=true then Oper.wp P o a w K Q else E:=by
 have hw:Region.wanted o (yielded ops a.tmps)=true:=by simp[Region.wanted,hgd]
 rw[if_pos hw];have hr:=M2 (P:=P) (w:=w) t o.type e i ht hi _ g n cap rfl so sc hnc;unfold Oper.wp execOp;simp only[ho,resolve,invoke,builtin,Sem.run_bind,Sem.run_pure,Result.andThen_ok,List.map_toArray,xF,zW,hs,hx,hr];exact h w (show w=w from rfl)
end
theorem Ia(ao:Option Addr)(cap:Nat)(l:List UInt8)(s y:Int)(n:Nat)(w:V)(hl:l.length<=1048576)(hn:n<=l.length)(hV:BU w (.slice ao l.length cap) l) :
  J qA 113 #[F #[.slice ao l.length cap,.int Y s],.int Y n,.int Y y] w fun e w'=>∃ao' cap',e=M (F #[X ao' n cap',.int Y y])/\T w.heap.size w w'/\w'.ownsRow w.heap.size 5 1 (X ao' n cap') n (AF (l.take n)):=by
 obtain⟨W0,hW0⟩:∃W0,W0=((w.alloc (O #[.slice ao l.length cap,.int Y s] 144)).alloc (O #[X Z 0 0,.int Y 0] 144)):=⟨_,rfl⟩;have hA:T w.heap.size w W0:=by rw[hW0];exact((qD _ _).alloc (qB _) _).alloc (by simp) _
 have hz:W0.heap.size=w.heap.size+1+1:=by rw[hW0];simp
 have HSt:N (∀w1,T W0.heap.size W0 w1->(w1.cell? ⟨w.heap.size,0,Z⟩=U (.slice ao l.length cap)/\w1.cell? ⟨w.heap.size,1,Z⟩=U (.int Y s))/\w1.cell? ⟨w.heap.size+1,0,Z⟩=U (X Z 0 0)/\w1.cell? ⟨w.heap.size+1,1,Z⟩=U (.int Y 0)/\w1.frozen? ⟨w.heap.size+1,0,Z⟩=I/\w1.frozen? ⟨w.heap.size+1,1,Z⟩=I):=fun w1 hb=>by
  refine⟨⟨(hb.cell (p:=⟨w.heap.size,0,Z⟩) (by show w.heap.size<_;omega)).trans ?_,(hb.cell (p:=⟨w.heap.size,1,Z⟩) (by show w.heap.size<_;omega)).trans ?_⟩,(hb.cell (p:=⟨w.heap.size+1,0,Z⟩) (by show w.heap.size+1<_;omega)).trans ?_,(hb.cell (p:=⟨w.heap.size+1,1,Z⟩) (by show w.heap.size+1<_;omega)).trans ?_,(hb.frozen (p:=⟨w.heap.size+1,0,Z⟩) (by show w.heap.size+1<_;omega)).trans ?_,(hb.frozen (p:=⟨w.heap.size+1,1,Z⟩) (by show w.heap.size+1<_;omega)).trans ?_⟩<;>(rw[hW0];simp[go_sem])
 obtain⟨i0,hi,hz0,hz1,hz2⟩:=info_parts Ff;have hmk:∀w1:V,(Instr.makeSlice 142 (.int Y 0) (.int Y (n:Int))).run qA w1=.ok (X (U ⟨w1.heap.size,0,Z⟩) 0 n) (w1.alloc (O (madeCells #[.int .u8 0] n) 5)):=fun w1=>by
  have:=run_make (P:=qA) w1 142 5 i0 (.int .u8 0) Tryz.underlying142 hi hz0 .i64 .i64 0 n (xS _) (by omega) (by rw[hz2];omega) (by omega);simpa[hz1,Value.cells]using this
 have hB0:T W0.heap.size W0 W0:=qD _ _;have HOw:N (∀w1:V,(w1.alloc (O (madeCells #[.int .u8 0] n) 5)).ownsRow w1.heap.size 5 1 (X (U ⟨w1.heap.size,0,Z⟩) 0 n) 0 []):=fun w1=>World.ownsRow_made w1 _ n (qB _) (by unfold maxLen;omega) (by simp[size_madeCells]);by_cases h0:n=0
 .subst h0;have hmk0:∀w1:V,(Instr.makeSlice 142 (.int Y 0) (.int Y 0)).run qA w1=.ok (X (U ⟨w1.heap.size,0,Z⟩) 0 0) (w1.alloc (O (madeCells #[.int .u8 0] 0) 5)):=hmk;have hO1:(W0.alloc (O (madeCells #[.int .u8 0] 0) 5)).drew.ownsRow (w.heap.size+1+1) 5 1 (X (U ⟨w.heap.size+1+1,0,Z⟩) 0 0) 0 []:=by
   have:=(HOw.out W0).drew;rw[hz]at this;exact this
  have hB1:T W0.heap.size W0 (W0.alloc (O (madeCells #[.int .u8 0] 0) 5)).drew:=(hB0.alloc (qB _) _).drew;rw[List.take_zero];obtain⟨ao',cap',e1,⟨hlc,hnone⟩,hat⟩:=hV;simp at e1;obtain⟨rfl,rfl⟩:=e1;have hm0:ao=Z->l.length=0/\cap=0:=fun h=>by obtain⟨h1,h2⟩:=hnone h;exact⟨by rw[h2];rfl,h1⟩
  show J qA 113 #[_,.int Y 0,.int Y y] w _;have hc2:(0:Int)<=(cap:Int):=by omega
  generalize l.length=m at *;clear hat hnone hmk;have HWd:N (∀w1:V,w1.drew.heap=w1.heap):=fun _=>rfl
  cases ao with
  |none=>
   obtain⟨rfl,rfl⟩:=hm0 rfl;go_enter Tryz.func113,Tryz.ntmps113;go_wp2_with fail
   rw[<-hW0];clear hW0;have tk:=True.intro;go_region_held3 (fun w'=>w'.cell? ⟨w.heap.size,0,Z⟩=U (X Z 0 0)/\w'.cell? ⟨w.heap.size,1,Z⟩=U (.int Y s))
    (first|exact(HSt.out _ (by first|exact hB0|exact hB0.drew|exact hB1|exact hB0.drew.alloc (by simp) _|exact hb01)).1|(obtain⟨⟨y0,y1⟩,_⟩:=HSt.out _ hb01;exact⟨by simp[go_sem,y0],by simp[go_sem,y1]⟩))
    (first|(clear tk;refine Jl (by rfl) (.tmp 8) (.tmp 12) 142 (by rfl) 5 i0 Tryz.underlying142 hi (w.heap.size+1+1) 0 0 (by rfl) _ _ (by rfl) (qB _) ?_;intro wB HEq;have hb01:T W0.heap.size W0 wB:=(by rw[HEq.out];exact hB1);have howB:wB.ownsRow (w.heap.size+1+1) 5 1 (X (U ⟨w.heap.size+1+1,0,Z⟩) 0 0) 0 []:=(by rw[HEq.out];exact hO1);obtain⟨_,k0,k1,f0,f1⟩:=HSt.out _ hb01))
   have hbw:=hA.trans (hb01.mono hA.size);have HV3:N (((wB.setCell ⟨w.heap.size+1,0,Z⟩ (X (U ⟨w.heap.size+1+1,0,Z⟩) 0 0)).setCell ⟨w.heap.size+1,1,Z⟩ (.int Y y)).ownsRow w.heap.size 5 1 (X (U ⟨w.heap.size+1+1,0,Z⟩) 0 0) 0 []):=A2 (D8 (D8 howB (by show w.heap.size+1<_;omega) _) (by show w.heap.size+1<_;omega) _) (by omega);have HBf:N (T w.heap.size w ((wB.setCell ⟨w.heap.size+1,0,Z⟩ (X (U ⟨w.heap.size+1+1,0,Z⟩) 0 0)).setCell ⟨w.heap.size+1,1,Z⟩ (.int Y y))):=(hbw.setCell (p:=⟨w.heap.size+1,0,Z⟩) (by simp) _).setCell (p:=⟨w.heap.size+1,1,Z⟩) (by simp) _;go_wp2_with fail
   refine bodyPost_ret (v:=F #[X (U ⟨w.heap.size+1+1,0,Z⟩) 0 0,.int Y y]) ?_ rfl ⟨_,_,rfl,HBf.out,HV3.out⟩;simp[results,Tryz.results113,go_sem,k0,k1]
  |some a=>
   go_enter Tryz.func113,Tryz.ntmps113;go_wp2_with fail
   rw[<-hW0];clear hW0;have tk:=True.intro;go_region_held3 (fun w'=>w'.cell? ⟨w.heap.size,0,Z⟩=U (.slice (U a) m cap)/\w'.cell? ⟨w.heap.size,1,Z⟩=U (.int Y s))
    (first|exact(HSt.out _ (by first|exact hB0|exact hB0.drew|exact hB1|exact hB0.drew.alloc (by simp) _|exact hb01)).1|(obtain⟨⟨y0,y1⟩,_⟩:=HSt.out _ hb01;exact⟨by simp[go_sem,y0],by simp[go_sem,y1]⟩))
    (first|(clear tk;refine Jl (by rfl) (.tmp 8) (.tmp 12) 142 (by rfl) 5 i0 Tryz.underlying142 hi (w.heap.size+1+1) 0 0 (by rfl) _ _ (by rfl) (qB _) ?_;intro wB HEq;have hb01:T W0.heap.size W0 wB:=(by rw[HEq.out];exact hB1);have howB:wB.ownsRow (w.heap.size+1+1) 5 1 (X (U ⟨w.heap.size+1+1,0,Z⟩) 0 0) 0 []:=(by rw[HEq.out];exact hO1);obtain⟨_,k0,k1,f0,f1⟩:=HSt.out _ hb01))
   have hbw:=hA.trans (hb01.mono hA.size);have HV3:N (((wB.setCell ⟨w.heap.size+1,0,Z⟩ (X (U ⟨w.heap.size+1+1,0,Z⟩) 0 0)).setCell ⟨w.heap.size+1,1,Z⟩ (.int Y y)).ownsRow w.heap.size 5 1 (X (U ⟨w.heap.size+1+1,0,Z⟩) 0 0) 0 []):=A2 (D8 (D8 howB (by show w.heap.size+1<_;omega) _) (by show w.heap.size+1<_;omega) _) (by omega);have HBf:N (T w.heap.size w ((wB.setCell ⟨w.heap.size+1,0,Z⟩ (X (U ⟨w.heap.size+1+1,0,Z⟩) 0 0)).setCell ⟨w.heap.size+1,1,Z⟩ (.int Y y))):=(hbw.setCell (p:=⟨w.heap.size+1,0,Z⟩) (by simp) _).setCell (p:=⟨w.heap.size+1,1,Z⟩) (by simp) _;go_wp2_with fail
   refine bodyPost_ret (v:=F #[X (U ⟨w.heap.size+1+1,0,Z⟩) 0 0,.int Y y]) ?_ rfl ⟨_,_,rfl,HBf.out,HV3.out⟩;simp[results,Tryz.results113,go_sem,k0,k1]
 .have hne:l≠[]:=by intro h;subst h;simp at hn;omega
  have hVc:=hV;obtain⟨ao',cap',e1,⟨hlc,_⟩,hat⟩:=hV;simp at e1;obtain⟨rfl,rfl⟩:=e1;obtain⟨b,off,rfl,hbl,hba⟩:=hat hne;have HC:N (∀w1,T w.heap.size w w1->∀j u,(AF (l.take n))[j]? = U u->w1.cell? ((⟨b,off,Z⟩:Addr).add j)=U u):=fun w1 hb j u hj=>by
   have hjn:j<(l.take n).length:=by have:=(vM.1 hj).1;simpa[AF]using this
   have hjl:j<l.length:=by rw[qP]at hjn;omega
   have:=(hba.below hb hbl).cells j u;refine this ?_;rw[<-hj];simp[AF,xJ];rw[qP]at hjn;omega
  have HLn:N ((AF (l.take n)).length=n*1):=by show _=_;rw[EQ,qP];omega
  have HOne:N (∀u∈AF (l.take n),u.oneCell'=true):=IM _;have hnc:n<=cap:=by omega
  have hnc2:(n:Int)<=(cap:Int):=by omega
  have hnc3:¬(n:Int)<0:=by omega
  have hnc4:¬(cap:Int)<(n:Int):=by omega
  generalize AF (l.take n)=xs at *;generalize l.length=m at *;clear hVc hat hba hne hlc
  go_enter Tryz.func113,Tryz.ntmps113;go_wp2_with fail
  rw[<-hW0];have HW0:=(show N _ from hW0);clear hW0;have tk:=True.intro;have hO1:(W0.alloc (O (madeCells #[.int .u8 0] n) 5)).drew.ownsRow (w.heap.size+1+1) 5 1 (X (U ⟨w.heap.size+1+1,0,Z⟩) 0 n) 0 []:=by
   have:=(HOw.out W0).drew;rw[hz]at this;exact this
  have hB1:T W0.heap.size W0 (W0.alloc (O (madeCells #[.int .u8 0] n) 5)).drew:=(hB0.alloc (qB _) _).drew;have hc1:=HC.out _ (hA.trans (hB1.mono hA.size));have hs1:w.heap.size+1+1<=(W0.alloc (O (madeCells #[.int .u8 0] n) 5)).drew.heap.size:=by rw[<-hz];exact hB1.size
  go_region_held3 (fun w'=>w'.cell? ⟨w.heap.size,0,Z⟩=U (X (U ⟨b,off,Z⟩) m cap)/\w'.cell? ⟨w.heap.size,1,Z⟩=U (.int Y s))
   (first|exact(HSt.out _ (by first|exact hB0|exact hB0.drew|exact hB1|exact hB0.drew.alloc (by simp) _|exact hb01)).1|(obtain⟨⟨y0,y1⟩,_⟩:=HSt.out _ hb01;exact⟨by simp[go_sem,y0],by simp[go_sem,y1]⟩))
   (first|(clear tk;refine step_append_lies _ (by rfl) (.tmp 8) (.tmp 12) 142 (by rfl) (w.heap.size+1+1) 5 i0 _ 1 1 Tryz.underlying142 hi hz0 hz1 hz2 (by rfl) (by decide) (X (U ⟨w.heap.size+1+1,0,Z⟩) 0 n) 0 [] (by rfl) hO1 ⟨b,off,Z⟩ n cap xs (by rfl) HLn.out hc1 HOne.out (by omega) (by unfold maxLen;omega) (by omega) hs1 _ rfl ?_;intro gB capB wB howB hgrB hatB hltB;have hb01:T W0.heap.size W0 wB:=(hB1.grown hgrB hB1.size (fun q hq=>(by simp[Value.ownBlock]at hq;omega)));rw[qV,vZ]at howB;obtain⟨_,k0,k1,f0,f1⟩:=HSt.out _ hb01))
  have hbw:=hA.trans (hb01.mono hA.size);have HV3:N (((wB.setCell ⟨w.heap.size+1,0,Z⟩ (X (U ⟨gB,0,Z⟩) n capB)).setCell ⟨w.heap.size+1,1,Z⟩ (.int Y y)).ownsRow w.heap.size 5 1 (X (U ⟨gB,0,Z⟩) n capB) n xs):=A2 (D8 (D8 howB (by show w.heap.size+1<_;omega) _) (by show w.heap.size+1<_;omega) _) (by omega);have HBf:N (T w.heap.size w ((wB.setCell ⟨w.heap.size+1,0,Z⟩ (X (U ⟨gB,0,Z⟩) n capB)).setCell ⟨w.heap.size+1,1,Z⟩ (.int Y y))):=(hbw.setCell (p:=⟨w.heap.size+1,0,Z⟩) (by simp) _).setCell (p:=⟨w.heap.size+1,1,Z⟩) (by simp) _;go_wp2_with fail
  refine bodyPost_ret (v:=F #[X (U ⟨gB,0,Z⟩) n capB,.int Y y]) ?_ rfl ⟨_,_,rfl,HBf.out,HV3.out⟩;simp[results,Tryz.results113,go_sem,k0,k1]
structure Bx(w w1:V)(x0 x1:L):Prop where
 b:T w.heap.size w w1
 z:w.heap.size+1+1<=w1.heap.size
 a0:w1.cell? ⟨w.heap.size,0,Z⟩=U x0
 a1:w1.cell? ⟨w.heap.size,1,Z⟩=U x1
 r0:w1.cell? ⟨w.heap.size+1,0,Z⟩=U (X Z 0 0)
 r1:w1.cell? ⟨w.heap.size+1,1,Z⟩=U (.int Y 0)
 f0:w1.frozen? ⟨w.heap.size+1,0,Z⟩=I
 f1:w1.frozen? ⟨w.heap.size+1,1,Z⟩=I
theorem Bx.start(w:V)(x0 x1:L)(t t':TypeId):Bx w ((w.alloc (O #[x0,x1] t)).alloc (O #[X Z 0 0,.int Y 0] t')) x0 x1:=by
 refine⟨((qD _ _).alloc (qB _) _).alloc (by simp) _,by simp,?_,?_,?_,?_,?_,?_⟩<;>simp[go_sem]
theorem Bx.later{w w1 w2:V}{x0 x1:L}(h:Bx w w1 x0 x1)(hb:T w1.heap.size w1 w2):Bx w w2 x0 x1:=by
 have hz:=h.z;exact⟨h.b.trans (hb.mono h.b.size),qI h.z hb.size,(hb.cell (p:=⟨w.heap.size,0,Z⟩) (by show w.heap.size<_;omega)).trans h.a0,(hb.cell (p:=⟨w.heap.size,1,Z⟩) (by show w.heap.size<_;omega)).trans h.a1,(hb.cell (p:=⟨w.heap.size+1,0,Z⟩) (by show w.heap.size+1<_;omega)).trans h.r0,(hb.cell (p:=⟨w.heap.size+1,1,Z⟩) (by show w.heap.size+1<_;omega)).trans h.r1,(hb.frozen (p:=⟨w.heap.size+1,0,Z⟩) (by show w.heap.size+1<_;omega)).trans h.f0,(hb.frozen (p:=⟨w.heap.size+1,1,Z⟩) (by show w.heap.size+1<_;omega)).trans h.f1⟩
theorem Bx.done{w w1:V}{x0 x1:L}(h:Bx w w1 x0 x1)(v0 v1:L):T w.heap.size w ((w1.setCell ⟨w.heap.size+1,0,Z⟩ v0).setCell ⟨w.heap.size+1,1,Z⟩ v1):=
 (h.b.setCell (p:=⟨w.heap.size+1,0,Z⟩) (by simp) _).setCell (p:=⟨w.heap.size+1,1,Z⟩) (by simp) _
theorem FD{w w1:V}{v:L}{n:Nat}{xs:List L}{base:Nat}(h:w1.ownsRow base 5 1 v n xs)(hb:w.heap.size+1+1<=base)(v0 v1:L):((w1.setCell ⟨w.heap.size+1,0,Z⟩ v0).setCell ⟨w.heap.size+1,1,Z⟩ v1).ownsRow w.heap.size 5 1 v n xs:=
 A2 (D8 (D8 h (by show w.heap.size+1<_;omega) _) (by show w.heap.size+1<_;omega) _) (by omega)
def CJ(w:V)(l:List UInt8)(s c:Int)(e:Ending)(w':V):Prop:=
 ∃ao cap,e=M (G #[F #[.slice ao l.length cap,.int Y s],.int Y c])/\T w.heap.size w w'/\N (w'.ownsRow w.heap.size 5 1 (.slice ao l.length cap) l.length (AF l))
theorem NO{l:List UInt8}{n:Nat}(h:n<=l.length):(l.take n).length=n:=by rw[qP];omega
theorem U1(ao:Option Addr)(cap:Nat)(l:List UInt8)(s:Int)(w:V)(hm:BL l.length s=true)(hV:BU w (.slice ao l.length cap) l) :
  J qA 83 #[F #[.slice ao l.length cap,.int Y s]] w (CJ w l l.length 0):=by
 have hl:l.length<=1048576:=by simp[BL]at hm;omega
 have hst:=Bx.start w (.slice ao l.length cap) (.int Y s) 144 144;have hmb:=Fl ao l.length cap s ((w.alloc (O #[.slice ao l.length cap,.int Y s] 144)).alloc (O #[X Z 0 0,.int Y 0] 144));rw[hm]at hmb;have HBx:N (∀w1,T ((w.alloc (O #[.slice ao l.length cap,.int Y s] 144)).alloc (O #[X Z 0 0,.int Y 0] 144)).heap.size ((w.alloc (O #[.slice ao l.length cap,.int Y s] 144)).alloc (O #[X Z 0 0,.int Y 0] 144)) w1->Bx w w1 (.slice ao l.length cap) (.int Y s)):=fun w1 hb=>hst.later hb;have HCu:N (∀w1,Bx w w1 (.slice ao l.length cap) (.int Y s)->J qA 113 #[F #[.slice ao l.length cap,.int Y s],.int Y l.length,.int Y l.length] w1 fun e w'=>∃ao' cap',e=M (F #[.slice ao' l.length cap',.int Y l.length])/\T w1.heap.size w1 w'/\N (w'.ownsRow w1.heap.size 5 1 (.slice ao' l.length cap') l.length (AF l))):=fun w1 hx=>by
  have:=Ia ao cap l s l.length l.length w1 hl (qB _) (hV.below hx.b);rw[List.take_length]at this;exact this
 have HT:CJ w l l.length 0=fun e w'=>∃ao cap,e=M (G #[F #[.slice ao l.length cap,.int Y l.length],.int Y 0])/\T w.heap.size w w'/\N (w'.ownsRow w.heap.size 5 1 (.slice ao l.length cap) l.length (AF l)):=rfl;rw[HT];clear HT;generalize AF l=xs at *;generalize l.length=n at *;clear hst hm hV
 go_enter Tryz.func83,Tryz.ntmps83;go_wp2_with (first|(go_at_call 105;refine hmb.mono ?_;rintro e w1 ⟨rfl,hb1⟩;have hx:=HBx.out w1 hb1;have hcu:=HCu.out w1 hx;obtain⟨_,_,a0,a1,_,_,_,_⟩:=id hx)|(go_at_call 113;refine hcu.mono ?_;rintro e w2 ⟨bo,bc,rfl,hb2,HO⟩;have hx2:=hx.later hb2;obtain⟨_,_,_,_,r0,r1,f0,f1⟩:=id hx2))
 refine bodyPost_ret (v:=G #[F #[X bo n bc,.int Y n],.int Y 0]) ?_ rfl ⟨bo,bc,rfl,hx2.done _ _,FD HO.out hx.z _ _⟩;simp[results,Tryz.results83,go_sem,r0,r1]
def D6(n:Nat)(s k:Int):Nat:=(s+min k (n-s)).toNat
theorem Kz(ao:Option Addr)(cap:Nat)(l:List UInt8)(s k:Int)(w:V)(hm:BL l.length s=true)(hk:0<=k)(hV:BU w (.slice ao l.length cap) l) :
  J qA 84 #[F #[.slice ao l.length cap,.int Y s],.int Y k] w (CJ w (l.take (D6 l.length s k)) (D6 l.length s k) 0):=by
 have hmm:l.length<=1048576/\0<=s/\s<=l.length:=by simpa[BL]using hm
 obtain⟨hl,hs0,hs1⟩:=hmm;have hq:D6 l.length s k<=l.length/\(D6 l.length s k:Int)=s+min k (l.length-s):=by unfold D6;omega
 obtain⟨q,hqd⟩:∃q,q=D6 l.length s k:=⟨_,rfl⟩;rw[<-hqd]at hq⊢;obtain⟨hq1,hq2⟩:=hq;clear hqd;have htl:(l.take q).length=q:=NO hq1;have hst:=Bx.start w (.slice ao l.length cap) (.int Y s) 144 144;have hmb:=Fl ao l.length cap s ((w.alloc (O #[.slice ao l.length cap,.int Y s] 144)).alloc (O #[X Z 0 0,.int Y 0] 144));rw[hm]at hmb;have HBx:N (∀w1,T ((w.alloc (O #[.slice ao l.length cap,.int Y s] 144)).alloc (O #[X Z 0 0,.int Y 0] 144)).heap.size ((w.alloc (O #[.slice ao l.length cap,.int Y s] 144)).alloc (O #[X Z 0 0,.int Y 0] 144)) w1->Bx w w1 (.slice ao l.length cap) (.int Y s)):=fun w1 hb=>hst.later hb;have HCu:N (∀w1,Bx w w1 (.slice ao l.length cap) (.int Y s)->J qA 113 #[F #[.slice ao l.length cap,.int Y s],.int Y q,.int Y q] w1 fun e w'=>∃ao' cap',e=M (F #[X ao' q cap',.int Y q])/\T w1.heap.size w1 w'/\N (w'.ownsRow w1.heap.size 5 1 (X ao' q cap') q (AF (l.take q)))):=fun w1 hx=>Ia ao cap l s q q w1 hl hq1 (hV.below hx.b);have HT:CJ w (l.take q) q 0=fun e w'=>∃ao cap,e=M (G #[F #[X ao q cap,.int Y q],.int Y 0])/\T w.heap.size w w'/\N (w'.ownsRow w.heap.size 5 1 (X ao q cap) q (AF (l.take q))):=by unfold CJ;rw[htl]
 rw[HT];clear HT htl;generalize AF (l.take q)=xs at *;generalize l.length=n at *;clear hst hm hV;have HQ:N ((q:Int)=s+min k (n-s)):=hq2
 by_cases hkk:k<=(n:Int)-s
 .obtain rfl:k=(q:Int)-s:=by omega
  have hsub:wrap64 ((n:Int)-s)=(n:Int)-s:=IntWalk.wrap64_in _ (by omega);have hadd:wrap64 (s+((q:Int)-s))=(q:Int):=by rw[IntWalk.wrap64_in _ (by omega)];omega
  have hadd':IntKind.i64.wrap (s+((q:Int)-s))=(q:Int):=by rw[IntWalk.i64_left];exact hadd
  have hsub':IntKind.i64.wrap ((n:Int)-s)=(n:Int)-s:=by rw[IntWalk.i64_left];exact hsub
  have hmin:min ((q:Int)-s) ((n:Int)-s)=(q:Int)-s:=by omega
  clear hq2;go_enter Tryz.func84,Tryz.ntmps84;go_wp2_with (first|(go_at_call 105;refine hmb.mono ?_;rintro e w1 ⟨rfl,hb1⟩;have hx:=HBx.out w1 hb1;have hcu:=HCu.out w1 hx;obtain⟨_,_,a0,a1,_,_,_,_⟩:=id hx)|(go_at_call 113;refine hcu.mono ?_;rintro e w2 ⟨bo,bc,rfl,hb2,HO⟩;have hx2:=hx.later hb2;obtain⟨_,_,_,_,r0,r1,f0,f1⟩:=id hx2))
  refine bodyPost_ret (v:=G #[F #[X bo q bc,.int Y q],.int Y 0]) ?_ rfl ⟨bo,bc,rfl,hx2.done _ _,FD HO.out hx.z _ _⟩;simp[results,Tryz.results84,go_sem,r0,r1]
 .obtain rfl:q=n:=by omega
  have hsub:wrap64 ((q:Int)-s)=(q:Int)-s:=IntWalk.wrap64_in _ (by omega);have hadd:wrap64 (s+((q:Int)-s))=(q:Int):=by rw[IntWalk.wrap64_in _ (by omega)];omega
  have hadd':IntKind.i64.wrap (s+((q:Int)-s))=(q:Int):=by rw[IntWalk.i64_left];exact hadd
  have hsub':IntKind.i64.wrap ((q:Int)-s)=(q:Int)-s:=by rw[IntWalk.i64_left];exact hsub
  have hmin:min k ((q:Int)-s)=(q:Int)-s:=by omega
  clear hq2;go_enter Tryz.func84,Tryz.ntmps84;go_wp2_with (first|(go_at_call 105;refine hmb.mono ?_;rintro e w1 ⟨rfl,hb1⟩;have hx:=HBx.out w1 hb1;have hcu:=HCu.out w1 hx;obtain⟨_,_,a0,a1,_,_,_,_⟩:=id hx)|(go_at_call 113;refine hcu.mono ?_;rintro e w2 ⟨bo,bc,rfl,hb2,HO⟩;have hx2:=hx.later hb2;obtain⟨_,_,_,_,r0,r1,f0,f1⟩:=id hx2))
  refine bodyPost_ret (v:=G #[F #[X bo q bc,.int Y q],.int Y 0]) ?_ rfl ⟨bo,bc,rfl,hx2.done _ _,FD HO.out hx.z _ _⟩;simp[results,Tryz.results84,go_sem,r0,r1]
section
variable{H:Type}{enc:TypeId×L -> H}{W:V}
end
def Bc(w1:V)(b:Nat)(y0 y1:L):Prop:=b<w1.heap.size/\w1.cell? ⟨b,0,Z⟩=U y0/\w1.cell? ⟨b,1,Z⟩=U y1
theorem Bc.later{w1 w2:V}{b:Nat}{y0 y1:L}(h:Bc w1 b y0 y1)(hb:T w1.heap.size w1 w2):Bc w2 b y0 y1:=
 ⟨qE h.1 hb.size,(hb.cell (p:=⟨b,0,Z⟩) h.1).trans h.2.1,(hb.cell (p:=⟨b,1,Z⟩) h.1).trans h.2.2⟩
theorem Bc.arg(w:V)(y0 y1:L)(t:TypeId):T w.heap.size w (w.alloc (O #[y0,y1] t))/\Bc (w.alloc (O #[y0,y1] t)) w.heap.size y0 y1:=by
 refine⟨(qD _ _).alloc (qB _) _,by simp,?_,?_⟩<;>simp[go_sem]
def FH(s:Nat)(b:UInt8):Nat:=(s*257+b.toNat) % 2147483629
def Bm(l:List UInt8):Nat:=l.foldl FH 1
theorem Uw(s:Nat)(b:UInt8):FH s b<2147483629:=Nat.mod_lt _ (by decide)
theorem LB:∀(l:List UInt8) (s:Nat),s<2147483629->l.foldl FH s<2147483629
 |[],s,h=>h
 |b::l,s,_=>by rw[List.foldl_cons];exact LB l _ (Uw s b)
theorem Jm(l:List UInt8):Bm l<2147483629:=LB l 1 (by decide)
theorem Uy{l:List UInt8}{k:Nat}(hk:k<l.length):Bm (l.take (k+1))=FH (Bm (l.take k)) (l.getD k 0):=by
 have e:l.take (k+1)=l.take k++[l.getD k 0]:=by
  rw[jS];simp[qC,hk]
 rw[e];simp[Bm]
theorem w64{n:Int}(h0:-9223372036854775808<=n)(h1:n<=9223372036854775807):wrap64 n=n:=IntWalk.wrap64_in n ⟨h0,h1⟩
theorem Ux(s:Nat)(b:UInt8)(hs:s<2147483629):(wrap64 ((s:Int)*257+wrap64 (b.toNat:Int))).tmod 2147483629=(FH s b:Int):=by
 have hb:b.toNat<256:=UInt8.toNat_lt b;rw[w64 (n:=(b.toNat:Int)) (by omega) (by omega),w64 (by omega) (by omega),Int.tmod_eq_emod_of_nonneg (by omega)];unfold FH;omega
theorem NJ(v:L)(l:List UInt8)(w:V)(hl:l.length<=140737488355328)(hV:BU w v l) :
  J qA 138 #[v] w fun e w'=>e=M (.int Y (Bm l))/\w'=w:=by
 obtain⟨ao,cap,rfl,_,h⟩:=hV;obtain⟨n,hn⟩:∃n,l.length=n:=⟨_,rfl⟩;rw[hn]at hl⊢;have H:N (l≠[]->∃b off,ao=U ⟨b,off,Z⟩/\b<w.heap.size/\CI w b off l):=h;have HN:N (l.length=n):=hn;clear h hn;go_enter Tryz.func138,Tryz.ntmps138;go_wp2;go_loopw [3,8] (fun s i wr=>∃k:Nat,k<=n/\i=.int Y k/\s=.int Y (Bm (l.take k))/\wr=w) (fun _ i _=>n-(intOf i).toNat)
 case atStart=>exact⟨0,qJ _,rfl,rfl,rfl⟩
 case round=>
  obtain⟨k,hk,rfl,rfl,rfl⟩:=hrel;by_cases hlt:k<n
  .have hne:l≠[]:=by intro h;subst h;have:=HN.out;simp at this;omega
   obtain⟨b,off,rfl,_,hca⟩:=H.out hne;have c1:=hca k (by rw[HN.out];exact hlt);have hst:=Uy (l:=l) (k:=k) (by rw[HN.out];exact hlt);have hs:=Jm (l.take k);generalize l.getD k 0=x at c1 hst;generalize Bm (l.take k)=s at *;have hnum:=Ux s x hs;clear hca hne
   go_wp2;go_roundw
   case rel=>exact⟨k+1,by omega,by go_num,by rw[hst],by trivial⟩
   case measure=>simp[intOf];omega
  .obtain rfl:k=n:=by omega
   have hall:l.take k=l:=by rw[qQ];rw[HN.out];omega
   rw[hall];go_wp2;go_ret;exact⟨rfl,rfl⟩
def A4(n:Nat):List UInt8:=[UInt8.ofNat (n / 16777216),UInt8.ofNat (n / 65536),UInt8.ofNat (n / 256),UInt8.ofNat n]
theorem EE(n:Nat):(A4 n).length=4:=rfl
theorem u8n(n:Nat):((UInt8.ofNat n).toNat:Int)=(n:Int) % 256:=by rw[UInt8.toNat_ofNat'];omega
theorem Vp{n:Nat}(hn:n<4294967296):AF (A4 n)=[.int .u8 ((n:Int) / 16777216),.int .u8 ((n:Int) / 65536 % 256),.int .u8 ((n:Int) / 256 % 256),.int .u8 ((n:Int) % 256)]:=by
 have e1:((n / 16777216:Nat):Int) % 256=(n:Int) / 16777216:=by omega
 have e2:((n / 65536:Nat):Int) % 256=(n:Int) / 65536 % 256:=by omega
 have e3:((n / 256:Nat):Int) % 256=(n:Int) / 256 % 256:=by omega
 simp only[AF,A4,xF,zW,u8n,e1,e2,e3]
theorem QR(w:V)(a b c d:L)(t:TypeId):∀j u,[a,b,c,d][j]? = U u->(w.alloc (O #[a,b,c,d] t)).cell? ((⟨w.heap.size,0,Z⟩:Addr).add j)=U u:=by
 intro j u hj;match j,hj with
 |0,hj=>simp at hj;subst hj;simp[Addr.add,go_sem]
 |1,hj=>simp at hj;subst hj;simp[Addr.add,go_sem]
 |2,hj=>simp at hj;subst hj;simp[Addr.add,go_sem]
 |3,hj=>simp at hj;subst hj;simp[Addr.add,go_sem]
theorem Nf(ao:Option Addr)(cap k:Nat)(xs:List L)(n base:Nat)(w:V)(hO:w.ownsRow base 5 1 (X ao k cap) k xs)(hn:n<4294967296)(hk:k<=2097152)(hb:base<=w.heap.size) :
  J qA 137 #[X ao k cap,.int Y n] w fun e w'=>∃ao' cap',e=M (.slice ao' (k+4) cap')/\T base w w'/\N (w'.ownsRow base 5 1 (.slice ao' (k+4) cap') (k+4) (xs++AF (A4 n))):=by
 obtain⟨i0,hi,hz0,hz1,hz2⟩:=info_parts Ff;rw[Vp hn];go_enter Tryz.func137,Tryz.ntmps137;go_wp2_with (at_builtin;refine wpList_append_own _ rfl _ _ 142 rfl base 5 i0 (.int .u8 0) 1 1 Tryz.underlying142 hi hz0 hz1 hz2 rfl (by decide) (X ao k cap) k xs rfl (hO.alloc _) ⟨w.heap.size,0,Z⟩ 4 4 [.int .u8 ((n:Int) / 16777216),.int .u8 ((n:Int) / 65536 % 256),.int .u8 ((n:Int) / 256 % 256),.int .u8 ((n:Int) % 256)] rfl rfl (QR _ _ _ _ _ _) (by simp[Value.oneCell']) ?c3 ?c4 ?c5 ?_)
 case c3=>unfold maxLen;omega
 case c4=>omega
 case c5=>simp;omega
 intro v' w4 hown' hgrow _;have hb4:T base w w4:=((qD base w).alloc hb _).grown hgrow (by simp;omega) (fun q hq=>(hO.lt q hq).1);obtain⟨a1,c1,rfl⟩:=A3 hown';clear hgrow hO;go_wp2;go_ret;exact⟨a1,c1,rfl,hb4,hown'⟩
def Ae(x:Int):Bool:=decide (x<0)||decide (2147483647<x)
def wrC(l:List Int):Int:=if 4000<l.length then 1 else if l.any Ae=true then 2 else 0
def BJ(l:List Int):List UInt8:=l.flatMap fun x=>A4 x.toNat
def BB(n:Nat)(l:List Int):List UInt8:=A4 n++BJ l
def AD(l:List Int):List UInt8:=BB l.length l++A4 (Bm (BB l.length l))
theorem Kd(l:List Int):(BJ l).length=4*l.length:=by
 induction l with
 |nil=>rfl
 |cons x l ih=>rw[BJ,List.flatMap_cons,qF];rw[BJ]at ih;rw[ih,EE,qU];omega
theorem Fd(n:Nat)(l:List Int):(BB n l).length=4+4*l.length:=by rw[BB,qF,EE,Kd]
theorem Cy(l:List Int):(AD l).length=4*l.length+8:=by rw[AD,qF,Fd,EE];omega
theorem Oj{l:List Int}{i:Nat}(h:i<l.length):BJ (l.take (i+1))=BJ (l.take i)++A4 (l.getD i 0).toNat:=by
 have e:l.take (i+1)=l.take i++[l.getD i 0]:=by
  rw[jS];simp[qC,h]
 rw[e];simp[BJ]
theorem MM{l:List Int}(h:l.any Ae=I){i:Nat}(hi:i<l.length):0<=l.getD i 0/\l.getD i 0<=2147483647:=by
 have hm:l.getD i 0∈l:=by rw[qC,qH hi];simp
 have:=List.any_eq_false.1 h _ hm;generalize l.getD i 0=x at *;simp[Ae]at this
 omega
theorem MN(x:Int)(w:V):J qA 107 #[.int Y x] w fun e w'=>e=M (.bool (Ae x))/\w'=w:=by
 by_cases h1:x<0
 .rw[show Ae x=true by simp[Ae,h1]];go_enter Tryz.func107,Tryz.ntmps107;go_wp2;all_goals go_ret
  all_goals exact⟨rfl,rfl⟩
 .by_cases h2:2147483647<x
  .rw[show Ae x=true by simp[Ae,h2]];go_enter Tryz.func107,Tryz.ntmps107;go_wp2;all_goals go_ret
   all_goals exact⟨rfl,rfl⟩
  .rw[show Ae x=I by simp[Ae,h1,h2]];go_enter Tryz.func107,Tryz.ntmps107;go_wp2;all_goals go_ret
   all_goals exact⟨rfl,rfl⟩
theorem Fu(n:Nat)(w:V)(h:n<=4294967296):J qA 108 #[.int Y n] w fun e w'=>e=M (.int Y ((4*n+8:Nat):Int))/\w'=w:=by
 have e:((4*n+8:Nat):Int)=((n:Int)+2)*4:=by omega
 rw[e];go_enter Tryz.func108,Tryz.ntmps108;go_wp2;go_ret;exact⟨rfl,rfl⟩
theorem Qq(v:L)(l:List Int)(w:V)(hl:l.length<=140737488355328)(hV:IntsV w v l) :
  J qA 136 #[v,.func (.func 107) #[] #[]] w fun e w'=>∃q:Int,e=M (.int Y q)/\w'=w/\(l.any Ae=true->0<=q)/\(l.any Ae=I->q=-1):=by
 obtain⟨ao,cap,rfl,h⟩:=hV;obtain⟨n,hn⟩:∃n,l.length=n:=⟨_,rfl⟩;rw[hn]at hl⊢;have H:N (l≠[]->∃b off,ao=U ⟨b,off,Z⟩/\b<w.heap.size/\IntsAt w b off l):=h;have HN:N (l.length=n):=hn;clear h hn;go_enter Tryz.func136,Tryz.ntmps136;go_wp2;go_loopw [8] (fun i wr=>∃k:Nat,k<=n/\i=.int Y k/\(l.take k).any Ae=I/\wr=w) (fun i _=>n-(intOf i).toNat)
 case atStart=>exact⟨0,qJ _,rfl,rfl,rfl⟩
 case round=>
  obtain⟨k,hk,rfl,HT,rfl⟩:=hrel;by_cases hlt:k<n
  .have hlt2:k<l.length:=by rw[HN.out];exact hlt
   have hne:l≠[]:=by intro h;subst h;simp at hlt2
   obtain⟨b,off,rfl,_,hca⟩:=H.out hne;have c1:=hca k hlt2;have hou:=MN (l.getD k 0) wr;have hst:(l.take (k+1)).any Ae=Ae (l.getD k 0):=by
    have e:l.take (k+1)=l.take k++[l.getD k 0]:=by
     rw[jS];simp[qC,hlt2]
    rw[e,zC,HT];simp
   have hany:Ae (l.getD k 0)=true->l.any Ae=true:=fun h=>vC.2 ⟨l.getD k 0,by rw[qC,qH hlt2];simp,h⟩;have HS:N ((l.take (k+1)).any Ae=Ae (l.getD k 0)):=hst;have HAn:N (Ae (l.getD k 0)=true->l.any Ae=true):=hany;clear hca hne hst hany HT;generalize l.getD k 0=x at *;generalize Ae x=o at *
   cases o
   .go_wp2_with (go_at_call 107;refine hou.mono ?_;rintro e w1 ⟨rfl,rfl⟩)
    go_roundw
    case rel=>exact⟨k+1,by omega,by go_num,HS.out,by trivial⟩
    case measure=>simp[intOf];omega
   .go_wp2_with (go_at_call 107;refine hou.mono ?_;rintro e w1 ⟨rfl,rfl⟩)
    go_ret;exact⟨_,rfl,rfl,fun _=>by omega,fun h=>by rw[HAn.out (by trivial)]at h;simp at h⟩
  .obtain rfl:k=n:=by omega
   have hall:l.take k=l:=by rw[qQ];rw[HN.out];omega
   rw[hall]at HT;have HT':N (l.any Ae=I):=HT;clear HT;go_wp2;go_ret;exact⟨-1,rfl,rfl,fun h=>by rw[HT'.out]at h;simp at h,fun _=>rfl⟩
theorem Kx(v:L)(l:List Int)(w:V)(hl:l.length<=140737488355328)(hV:IntsV w v l) :
  J qA 106 #[v,.func (.func 107) #[] #[]] w fun e w'=>e=M (.bool (l.any Ae))/\w'=w:=by
 have hx:=Qq v l w hl hV;obtain⟨ao,cap,rfl,_⟩:=hV;generalize l.length=n at *;generalize l.any Ae=o at *
 cases o
 all_goals
  go_enter Tryz.func106,Tryz.ntmps106;go_wp2_with (go_at_call 136;refine hx.mono ?_;rintro e w1 ⟨q,rfl,rfl,h1,h2⟩;first|(obtain rfl:=h2 rfl)|(have h3:=h1 rfl))
  go_ret;exact⟨by first|rfl|trivial,rfl⟩
theorem S2{w:V}{base:Nat}{ao:Option Addr}{cap n k:Nat}{l m:List UInt8}(h:w.ownsRow base 5 1 (X ao n cap) n (AF (l++m)))(hl:l.length=k)(hm:0<m.length) :
  ∃g,ao=U ⟨g,0,Z⟩/\n=k+m.length/\n<=cap/\BU w (X (U ⟨g,k,Z⟩) m.length (cap-k)) m:=by
 rcases h.2 with⟨hv,h0⟩|⟨g,cap',cur,hv,hb,hg,hnc,hcm,hcs,htake⟩
 .have:=h.1;rw[EQ,qF]at this;omega
 .simp at hv;obtain⟨rfl,rfl⟩:=hv;have hn:n=k+m.length:=by
   have:=h.1;rw[EQ,qF]at this;omega
  refine⟨g,rfl,hn,hnc,U ⟨g,k,Z⟩,cap-k,rfl,⟨by omega,fun h=>by simp at h⟩,fun _=>⟨g,k,rfl,(qG.1 hg).1,fun i hi=>?_⟩⟩;rw[h.cellAt (k+i) (by omega)];rw[GE,vA (by rw[EQ];omega),EQ,show k+i-l.length=i by omega];simp[AF,qC,hi]
theorem Vj(ao:Option Addr)(cap:Nat)(d:List UInt8)(v:L)(l:List Int)(base:Nat)(w:V)(hO:w.ownsRow base 5 1 (.slice ao d.length cap) d.length (AF d))(hd:d.length<=1048576)(hc:wrC l=0)(hb:base<=w.heap.size)
  (hI:∀w1,T base w w1->IntsV w1 v l) :
  J qA 109 #[.slice ao d.length cap,v] w fun e w'=>∃ao' cap',e=M (.slice ao' (d++AD l).length cap')/\T base w w'/\N (w'.ownsRow base 5 1 (.slice ao' (d++AD l).length cap') (d++AD l).length (AF (d++AD l))):=by
 have hl4:l.length<=4000:=by unfold wrC at hc;split at hc<;>omega
 have hany:l.any Ae=false:=by
  unfold wrC at hc;rw[if_neg (by omega)]at hc;cases h:l.any Ae
  .rfl
  .rw[h]at hc;simp at hc
 obtain⟨bo,bcap,rfl⟩:∃bo bcap,v=.slice bo l.length bcap:=by obtain⟨bo,bcap,h,_⟩:=hI w (qD _ _);exact⟨bo,bcap,h⟩
 have hw1:=Nf ao cap d.length (AF d) l.length base w hO (by omega) (by omega) hb;have HWW:N (∀(ao':Option Addr) (cap':Nat) (x:List UInt8) (n:Nat) (w1:V),w1.ownsRow base 5 1 (.slice ao' x.length cap') x.length (AF x)->x.length<=2097152->n<4294967296->T base w w1->J qA 137 #[.slice ao' x.length cap',.int Y n] w1 fun e w'=>∃ao' cap',e=M (.slice ao' (x.length+4) cap')/\T base w w'/\N (w'.ownsRow base 5 1 (.slice ao' (x++A4 n).length cap') (x++A4 n).length (AF (x++A4 n)))):=fun ao' cap' x n w1 h hx hn hb1=>(Nf ao' cap' x.length (AF x) n base w1 h hn hx (qI hb hb1.size)).mono fun e w' ⟨a,c,h1,h2,h3⟩=>⟨a,c,h1,hb1.trans h2,by rw[qF,EE,GE];exact h3⟩;have HI:N (∀w1,T base w w1->IntsV w1 (.slice bo l.length bcap) l):=hI;obtain⟨n,hn⟩:∃n,l.length=n:=⟨_,rfl⟩;obtain⟨k,hk⟩:∃k,d.length=k:=⟨_,rfl⟩;have HK:N (d.length=k):=hk;have HN:N (l.length=n):=hn;have HAny:N (l.any Ae=I):=hany;have HFin:N (d++BB n l++A4 (Bm (BB n l))=d++AD l):=by show _=_;rw[AD,HN.out,q7]
 rw[hn]at hw1 hl4 HI⊢;rw[hk]at hw1 hd⊢;have hlr:(d++AD l).length=k+4+4*n+4:=by rw[qF,Cy,HK.out,HN.out];omega
 rw[hlr];have HLr:N ((d++AD l).length=k+4+4*n+4):=hlr;clear hn hI hc hany hO hk hlr;go_enter Tryz.func109,Tryz.ntmps109;go_wp2_with (go_at_call 137;refine hw1.mono ?_;rintro e w1 ⟨a1,c1,rfl,hb1,hO1⟩)
 go_loopw [0,16] (fun u i wr=>∃q:Nat,q<=n/\i=.int Y q/\∃a c,u=.slice a (k+4+4*q) c/\T base w wr/\N (wr.ownsRow base 5 1 (.slice a (k+4+4*q) c) (k+4+4*q) (AF (d++BB n (l.take q))))) (fun _ i _=>n-(intOf i).toNat)
 case atStart=>exact⟨0,qJ _,rfl,a1,c1,rfl,hb1,by rw[show BB n (l.take 0)=A4 n by simp[BB,BJ],GE];exact hO1.out⟩
 case round=>
  obtain⟨q,hq,rfl,a,c,rfl,hB,hOq⟩:=hrel;by_cases hlt:q<n
  .have hlt2:q<l.length:=by rw[HN.out];exact hlt
   obtain⟨ao',cap',e1,hat⟩:=HI.out wr hB;injection e1 with e1 e2 e3;subst e1 e3;clear e2;obtain⟨b,off,rfl,_,hca⟩:=hat (by intro h;subst h;simp at hlt2);have c2:=hca q hlt2;have hou:=MM HAny.out hlt2;have hlx:(d++BB n (l.take q)).length=k+4+4*q:=by rw[qF,Fd,qP,HK.out];omega
   have hww:=HWW.out a c (d++BB n (l.take q)) (l.getD q 0).toNat wr (by rw[hlx];exact hOq.out) (by rw[hlx];omega) (by omega) hB;have hex:((l.getD q 0).toNat:Int)=l.getD q 0:=by omega
   have hnx:d++BB n (l.take q)++A4 (l.getD q 0).toNat=d++BB n (l.take (q+1)):=by rw[BB,BB,Oj hlt2];simp only[q7]
   have hlx2:(d++BB n (l.take (q+1))).length=k+4+4*(q+1):=by rw[qF,Fd,qP,HK.out];omega
   rw[hlx,hnx,hlx2,hex]at hww;have e5:k+4+4*q+4=k+4+4*(q+1):=by omega
   rw[e5]at hww;clear hca hat hlx hnx hlx2 hex e5 hou;generalize l.getD q 0=x at *
   go_wp2_with (go_at_call 137;refine hww.mono ?_;rintro e w2 ⟨a2,c2,rfl,hb2,hO2⟩)
   go_roundw
   case rel=>exact⟨q+1,by omega,by go_num,a2,c2,rfl,hb2,hO2⟩
   case measure=>simp[intOf];omega
  .obtain rfl:q=n:=by omega
   have hall:l.take q=l:=by rw[qQ];rw[HN.out];omega
   rw[hall]at hOq;have hlx:(d++BB q l).length=k+4+4*q:=by rw[qF,Fd,HK.out,HN.out];omega
   have hlh:(BB q l).length=4+4*q:=by rw[Fd,HN.out]
   obtain⟨g,rfl,hnk,hgc,hbv⟩:=S2 hOq.out HK.out (by omega);clear hnk;have hsum:=NJ _ _ _ (by omega) hbv;have hsl:=Jm (BB q l);have hww:=HWW.out (U ⟨g,0,Z⟩) c (d++BB q l) (Bm (BB q l)) wr (by rw[hlx];exact hOq.out) (by rw[hlx];omega) (by omega) hB;rw[HFin.out,hlx]at hww;rw[HLr.out]at hww;rw[hlh]at hsum hbv;have ek:k+4+4*q-k=4+4*q:=by omega
   generalize Bm (BB q l)=sm at *
   go_wp2_with (first|(go_at_call 138;refine hsum.mono ?_;rintro e w2 ⟨rfl,rfl⟩)|(go_at_call 137;refine hww.mono ?_;rintro e w2 ⟨a2,c2,rfl,hb2,hO2⟩))
   go_ret;exact⟨a2,c2,rfl,hb2,hO2⟩
theorem Vx{l:List Int}(h:l.length<=4000)(ha:l.any Ae=true):wrC l=2:=by rw[wrC,if_neg (by omega),if_pos ha]
theorem J1{l:List Int}(h:l.length<=4000)(ha:l.any Ae=I):wrC l=0:=by rw[wrC,if_neg (by omega),if_neg (by rw[ha];simp)]
def AP(d:List UInt8)(i:Nat):Nat:=(d.getD i 0).toNat * 16777216+(d.getD (i+1) 0).toNat * 65536+(d.getD (i+2) 0).toNat * 256+(d.getD (i+3) 0).toNat
theorem GY(d:List UInt8)(i:Nat):AP d i<4294967296:=by
 have h0:=UInt8.toNat_lt (d.getD i 0);have h1:=UInt8.toNat_lt (d.getD (i+1) 0);have h2:=UInt8.toNat_lt (d.getD (i+2) 0);have h3:=UInt8.toNat_lt (d.getD (i+3) 0);unfold AP;omega
theorem JI{a b k:Nat}(hb:b<2^k):(a*2^k) ||| b=a*2^k+b:=by
 rw[<-Nat.shiftLeft_eq,<-Nat.shiftLeft_add_eq_or_of_lt hb]
theorem JH{a b:Nat}(ha:a<9223372036854775808)(hb:b<9223372036854775808):bits BinOp.or IntKind.i64 (a:Int) (b:Int)=((a ||| b:Nat):Int):=by
 have hx:a ||| b<2^63:=Nat.or_lt_two_pow (by omega) (by omega);have h1:(BitVec.ofInt 64 (a:Int)).toNat=a:=by
  rw[BitVec.ofInt_natCast,BitVec.toNat_ofNat];exact kB (by omega)
 have h2:(BitVec.ofInt 64 (b:Int)).toNat=b:=by
  rw[BitVec.ofInt_natCast,BitVec.toNat_ofNat];exact kB (by omega)
 show IntKind.i64.wrap ((BitVec.ofInt 64 (a:Int) ||| BitVec.ofInt 64 (b:Int)).toNat:Int)=_;rw[BitVec.toNat_or,h1,h2,IntWalk.i64_left];exact IntWalk.wrap64_in _ (by omega)
theorem Sw{y0 y1 y2 y3:Nat}(x0:y0<2^8)(x1:y1<2^8)(x2:y2<2^8)(x3:y3<2^8):bits BinOp.or IntKind.i64 (bits BinOp.or IntKind.i64 (bits BinOp.or IntKind.i64 ((y0:Int)*16777216) ((y1:Int)*65536)) ((y2:Int)*256)) (y3:Int)=((y0*16777216+y1*65536+y2*256+y3:Nat):Int):=by
 have e0:(y0:Int)*16777216=((y0*2^24:Nat):Int):=by omega
 have e1:(y1:Int)*65536=((y1*65536:Nat):Int):=by omega
 have e2:(y2:Int)*256=((y2*256:Nat):Int):=by omega
 rw[e0,e1,e2,JH (by omega) (by omega),JI (by omega),show y0*2^24+y1*65536=(y0*256+y1)*2^16 by omega,JH (by omega) (by omega),JI (by omega),show(y0*256+y1)*2^16+y2*256=(y0*65536+y1*256+y2)*2^8 by omega,JH (by omega) (by omega),JI (by omega)]
theorem Jz(ao:Option Addr)(cap:Nat)(d:List UInt8)(w:V)(h4:4<=d.length)(hl:d.length<=1048576)(hV:BU w (.slice ao d.length cap) d) :
  J qA 151 #[.slice ao d.length cap] w fun e w'=>e=M (.int Y (AP d 0))/\∃q,w'=w.drewN q:=by
 obtain⟨ao',cap',e1,_,hat⟩:=hV;injection e1 with e1 e2 e3;subst e1 e3;clear e2;obtain⟨b,off,rfl,_,hba⟩:=hat (by intro h;subst h;simp at h4);have c0:=hba 0 (by omega);have c1:=hba 1 (by omega);have c2:=hba 2 (by omega);have c3:=hba 3 (by omega);rw[Nat.add_zero]at c0;unfold AP;simp only[qV];have x0:=UInt8.toNat_lt (d.getD 0 0);have x1:=UInt8.toNat_lt (d.getD 1 0);have x2:=UInt8.toNat_lt (d.getD 2 0);have x3:=UInt8.toNat_lt (d.getD 3 0);generalize(d.getD 0 0).toNat=y0 at *;generalize(d.getD 1 0).toNat=y1 at *;generalize(d.getD 2 0).toNat=y2 at *;generalize(d.getD 3 0).toNat=y3 at *
 generalize d.length=n at *;clear hba hat;have HO:=Sw x0 x1 x2 x3;have HO':N (bits BinOp.or IntKind.i64 (bits BinOp.or IntKind.i64 (bits BinOp.or IntKind.i64 ((y0:Int)*16777216) ((y1:Int)*65536)) ((y2:Int)*256)) (y3:Int)=((y0*16777216+y1*65536+y2*256+y3:Nat):Int)):=HO;clear HO
 go_enter Tryz.func151,Tryz.ntmps151;go_wp2_with fail
 go_quiet (fail)
 go_wp2_with fail
 go_ret;exact⟨by rw[<-HO'.out];rfl,_,rfl⟩
theorem Ho{a b:UInt8}(h:a.toNat=b.toNat):a=b:=UInt8.toNat.inj h
theorem Nh{x y:Nat}(hx:x<4294967296)(hy:y<4294967296)(h:A4 x=A4 y):x=y:=by
 simp only[A4,List.cons.injEq,and_true]at h;obtain⟨h0,h1,h2,h3⟩:=h;have g0:=congrArg UInt8.toNat h0;have g1:=congrArg UInt8.toNat h1;have g2:=congrArg UInt8.toNat h2;have g3:=congrArg UInt8.toNat h3;simp only[UInt8.toNat_ofNat']at g0 g1 g2 g3;omega
theorem Qc{d:List UInt8}{i:Nat}(h:i+4<=d.length):(d.drop i).take 4=[d.getD i 0,d.getD (i+1) 0,d.getD (i+2) 0,d.getD (i+3) 0]:=by
 apply jK;intro j;rw[xJ];by_cases hj:j<4
 .rw[if_pos hj,List.getElem?_drop];have hc:j=0\/j=1\/j=2\/j=3:=by omega
  rcases hc with rfl|rfl|rfl|rfl<;>simp[qC,show i<d.length by omega,show i+1<d.length by omega,show i+2<d.length by omega,show i+3<d.length by omega]
 .rw[if_neg hj,vF (by simp;omega)]
theorem Hr{d:List UInt8}{i:Nat}(h:i+4<=d.length):A4 (AP d i)=(d.drop i).take 4:=by
 rw[Qc h];have h0:=UInt8.toNat_lt (d.getD i 0);have h1:=UInt8.toNat_lt (d.getD (i+1) 0);have h2:=UInt8.toNat_lt (d.getD (i+2) 0);have h3:=UInt8.toNat_lt (d.getD (i+3) 0);unfold A4 AP;congr 1
 .exact Ho (by rw[UInt8.toNat_ofNat'];omega)
 .congr 1
  .exact Ho (by rw[UInt8.toNat_ofNat'];omega)
  .congr 1
   .exact Ho (by rw[UInt8.toNat_ofNat'];omega)
   .congr 1
    exact Ho (by rw[UInt8.toNat_ofNat'];omega)
theorem LE{x:Nat}(hx:x<4294967296)(p:List UInt8)(q:List UInt8):AP (p++(A4 x++q)) p.length=x:=by
 refine Nh (GY _ _) hx ?_;rw[Hr (by simp[EE]),yG,jL (by rw[EE];omega),qQ (by rw[EE];omega)]
def Aj(d:List UInt8)(n:Nat):List Int:=(List.range n).map fun i=>(AP d (4+4*i):Int)
theorem DJ(d:List UInt8)(n:Nat):(Aj d n).length=n:=by simp[Aj]
theorem JA(d:List UInt8)(n:Nat):Aj d (n+1)=Aj d n++[(AP d (4+4*n):Int)]:=by
 unfold Aj;rw[xI,vY];rfl
theorem Ke{d:List UInt8}:∀{n:Nat},4*n+4<=d.length->BJ (Aj d n)=(d.drop 4).take (4*n)
 |0,_=>by simp[Aj,BJ]
 |n+1,h=>by
  rw[JA];have e:BJ (Aj d n++[(AP d (4+4*n):Int)])=BJ (Aj d n)++A4 (AP d (4+4*n)):=by simp[BJ]
  rw[e,Ke (by omega),Hr (by omega),show 4*(n+1)=4*n+4 by omega,xT];congr 1
  rw[yF]
theorem Qo{d:List UInt8}{n:Nat}(hn:n=AP d 0)(h:4*n+4<=d.length):BB n (Aj d n)=d.take (4*n+4):=by
 rw[BB,Ke h,hn,Hr (by omega),jM,<-hn,show 4*n+4=4+4*n by omega,xT]
def Aa(d:List UInt8):Option (List Int):=
 if d.length<4 then Z else if 4000<AP d 0\/d.length<4*AP d 0+8 then Z
 else if AP d (4*AP d 0+4)≠Bm (d.take (4*AP d 0+4))then Z
 else if(Aj d (AP d 0)).any Ae=true then Z else U (Aj d (AP d 0))
theorem Mt{d:List UInt8}(h1:¬d.length<4)(h2:¬(4000<AP d 0\/d.length<4*AP d 0+8)) :
  (wrC (Aj d (AP d 0))=0/\AD (Aj d (AP d 0))=(d.drop 0).take (4*AP d 0+8))↔Aa d=U (Aj d (AP d 0)):=by
 obtain⟨n,hn⟩:∃n,n=AP d 0:=⟨_,rfl⟩;rw[<-hn]at h2⊢;have hh:=Qo hn (show 4*n+4<=d.length by omega);have hrec:AD (Aj d n)=d.take (4*n+4)++A4 (Bm (d.take (4*n+4))):=by rw[AD,DJ,hh]
 have htk:d.take (4*n+8)=d.take (4*n+4)++A4 (AP d (4*n+4)):=by
  rw[Hr (by omega),show 4*n+8=4*n+4+4 by omega,xT]
 rw[jM,hrec,htk];unfold Aa;rw[if_neg h1,<-hn,if_neg h2];have hlen:(Aj d n).length<=4000:=by rw[DJ];omega
 constructor
 .rintro ⟨hw,he⟩;have:=Nh (by have:=Jm (d.take (4*n+4));omega) (GY _ _) (List.append_cancel_left he);rw[if_neg (by rw[this];simp)];cases ha:(Aj d n).any Ae
  .simp
  .rw[Vx hlen ha]at hw;simp at hw
 .intro h;by_cases hs:AP d (4*n+4)=Bm (d.take (4*n+4))
  .rw[if_neg (by simp[hs])]at h;cases ha:(Aj d n).any Ae
   .exact ⟨J1 hlen ha,by rw[hs]⟩
   .rw[ha]at h;simp at h
  .rw[if_pos hs]at h;simp at h
theorem JY{d:List UInt8}{l:List Int}(h:Aa d=U l):wrC l=0/\l.length=AP d 0/\4*l.length+8<=d.length/\AD l=d.take (4*l.length+8)/\l=Aj d (AP d 0):=by
 have h1:¬d.length<4:=by intro h1;rw[Aa,if_pos h1]at h;cases h
 have h2:¬(4000<AP d 0\/d.length<4*AP d 0+8):=by intro h2;rw[Aa,if_neg h1,if_pos h2]at h;cases h
 have hl:l=Aj d (AP d 0):=by
  have h':=h;unfold Aa at h';rw[if_neg h1,if_neg h2]at h';split at h'
  .cases h'
  .split at h'
   .cases h'
   .exact (Option.some.inj h').symm
 have:=(Mt h1 h2).2 (by rw[h,hl]);rw[<-hl]at this;have hlen:l.length=AP d 0:=by rw[hl,DJ]
 exact⟨this.1,hlen,by omega,by rw[this.2,jM,hlen],hl⟩
def run:Nat->List UInt8->List (List Int)×Nat
 |0,_=>([],0)
 |k+1,d=>match Aa (d.drop (run k d).2)with
  |none=>run k d
  |some l=>((run k d).1++[l],(run k d).2+(4*l.length+8))
theorem FF(d:List UInt8):∀k,(run k d).2<=d.length
 |0=>qJ _
 |k+1=>by
  have ih:=FF d k;show(match Aa (d.drop (run k d).2)with|none=>run k d|some l=>((run k d).1++[l],(run k d).2+(4*l.length+8))).2<=_;cases h:Aa (d.drop (run k d).2)with
  |none=>exact ih
  |some l=>
   have:=(JY h).2.2.1;rw[qM]at this;show(run k d).2+(4*l.length+8)<=d.length;omega
theorem EA{d:List UInt8}{k:Nat}{l:List Int}(h:Aa (d.drop (run k d).2)=U l):run (k+1) d=((run k d).1++[l],(run k d).2+(4*l.length+8)):=by
 show(match Aa (d.drop (run k d).2)with|none=>run k d|some l=>((run k d).1++[l],(run k d).2+(4*l.length+8)))=_;rw[h]
theorem Ed{d:List UInt8}{k:Nat}(h:Aa (d.drop (run k d).2)=Z):∀j,run (k+j) d=run k d
 |0=>rfl
 |j+1=>by
  show(match Aa (d.drop (run (k+j) d).2)with|none=>run (k+j) d|some l=>((run (k+j) d).1++[l],(run (k+j) d).2+(4*l.length+8)))=_;rw[Ed h j,h]
def Au(d:List UInt8):List (List Int)×Nat:=run d.length d
theorem JX{d:List UInt8}{k:Nat}(hk:8*k<=(run k d).2)(h:Aa (d.drop (run k d).2)=Z):Au d=run k d:=by
 have:=FF d k;have e:=Ed h (d.length-k);rw[show k+(d.length-k)=d.length by omega]at e;exact e
theorem Jb(d:List UInt8):∀k,8*(run k d).1.length<=(run k d).2
 |0=>qB _
 |k+1=>by
  have ih:=Jb d k;show 8*(match Aa (d.drop (run k d).2)with|none=>run k d|some l=>((run k d).1++[l],(run k d).2+(4*l.length+8))).1.length<=(match Aa (d.drop (run k d).2)with|none=>run k d|some l=>((run k d).1++[l],(run k d).2+(4*l.length+8))).2;cases h:Aa (d.drop (run k d).2)with
  |none=>exact ih
  |some l=>show 8*((run k d).1++[l]).length<=(run k d).2+(4*l.length+8);rw[qF,List.length_singleton];omega
section
variable{H:Type}{enc:TypeId×L -> H}{W:V}
end
theorem LL(d:List UInt8)(k i:Nat):(d.drop k).getD i 0=d.getD (k+i) 0:=by simp[qC]
theorem LD(d:List UInt8)(k i:Nat):AP (d.drop k) i=AP d (k+i):=by
 unfold AP;simp only[LL,zR]
theorem BU.at{w:V}{ao:Option Addr}{m cap:Nat}{d:List UInt8}(h:BU w (X ao m cap) d)(hne:0<d.length):∃b off,ao=U ⟨b,off,Z⟩/\b<w.heap.size/\m=d.length/\m<=cap/\CI w b off d:=by
 obtain⟨ao',cap',e1,⟨h0,_⟩,hat⟩:=h;injection e1 with e1 e2 e3;subst e1 e3;obtain⟨b,off,e,hlt,hba⟩:=hat (by intro h;subst h;simp at hne);exact⟨b,off,e,hlt,e2,by omega,hba⟩
theorem CI.drop{w:V}{b off cap:Nat}{d:List UInt8}(h:CI w b off d)(hb:b<w.heap.size)(hc:d.length<=cap)(k:Nat):BU w (X (U ⟨b,off+k,Z⟩) (d.drop k).length (cap-k)) (d.drop k):=by
 refine⟨_,_,rfl,⟨by rw[qM];omega,fun h=>by simp at h⟩,fun _=>⟨b,off+k,rfl,hb,fun i hi=>?_⟩⟩;rw[qM]at hi;rw[LL,zR];exact h (k+i) (by omega)
theorem CI.take{w:V}{b off cap:Nat}{d:List UInt8}(h:CI w b off d)(hb:b<w.heap.size)(hc:d.length<=cap)(k:Nat):BU w (X (U ⟨b,off,Z⟩) (d.take k).length cap) (d.take k):=by
 refine⟨_,_,rfl,⟨by rw[qP];omega,fun h=>by simp at h⟩,fun _=>⟨b,off,rfl,hb,fun i hi=>?_⟩⟩;rw[qP]at hi;rw[h i (by omega)];simp[qC,show i<k by omega]
theorem S5{w:V}{B base n:Nat}{l:List Int}(h:w.rowIs B 3 n (fun j=>.int Y (l.getD j 0)))(hb:base<=B)(hn:l.length=n)(hm:n<=4000):w.ownsRow base 3 1 (X (U ⟨B,0,Z⟩) n n) n (AB l):=by
 obtain⟨c,h1,h2,h3⟩:=h;refine⟨by simp[AB,hn],.inr ⟨B,n,c,rfl,hb,h1,qB _,by unfold maxLen;omega,by omega,?_⟩⟩;apply jK;intro i;rw[xJ];by_cases hi:i<n
 .rw[if_pos (by omega),Array.getElem?_toList,h3 i hi];simp[AB,qC,show i<l.length by omega]
 .rw[if_neg (by omega),vF (by simp[AB];omega)]
theorem Sh{d:List UInt8}{q j:Nat}:(if j=q then(AP d (4+4*q):Int)else(Aj d q).getD j 0)=(Aj d (q+1)).getD j 0:=by
 rw[JA];by_cases hj:j=q
 .subst hj;rw[if_pos rfl,qC,vA (by rw[DJ];omega),DJ,xA];rfl
 .rw[if_neg hj];by_cases hlt:j<q
  .rw[qC,qC,qX (by rw[DJ];omega)]
  .rw[qC,qC,vF (by rw[DJ];omega),vF (by rw[qF,DJ];simp;omega)]
def Dc(w:V)(d:List UInt8)(e:Ending)(w':V):Prop:=
 T w.heap.size w w'/\(Aa d=Z->e=M (G #[X Z 0 0,.bool I]))/\
  ∀l,Aa d=U l->∃ao cap,e=M (G #[.slice ao l.length cap,.bool true])/\N (w'.ownsRow w.heap.size 3 1 (.slice ao l.length cap) l.length (AB l))
theorem Dc.none{w w':V}{d:List UInt8}(hb:T w.heap.size w w')(h:Aa d=.none):Dc w d (M (G #[.slice .none 0 0,.bool I])) w':=⟨hb,fun _=>rfl,fun l hl=>by rw[h]at hl;cases hl⟩
theorem Tq(ao:Option Addr)(cap:Nat)(d:List UInt8)(w:V)(hl:d.length<=1048576)(hV:BU w (.slice ao d.length cap) d) :
  J qA 115 #[.slice ao d.length cap] w (Dc w d):=by
 by_cases h4:d.length<4
 .have HR:N (Aa d=Z):=by show _=_;rw[Aa,if_pos h4]
  generalize hm:d.length=m at *;have HM:N (d.length=m):=hm;clear hm hV
  go_enter Tryz.func115,Tryz.ntmps115;go_wp2;go_ret2;exact Dc.none (qD _ _) HR.out
 .obtain ⟨b,off,rfl,hbl,_,hmc,hba⟩:=hV.at (by omega);have hwd:=Jz _ cap d w (by omega) hl hV;have hnl:=GY d 0;obtain⟨n,hn⟩:∃n,AP d 0=n:=⟨_,rfl⟩;have HN:N (AP d 0=n):=hn;by_cases hbig:4000<n\/d.length<4*n+8
  .have HR:N (Aa d=Z):=by show _=_;rw[Aa,if_neg h4,if_pos (by rw[hn];exact hbig)]
   rw[hn]at hwd hnl;have hrb:=fun w1=>Fu n w1 (by omega);obtain⟨y,hy⟩:∃y,4*n+8=y:=⟨_,rfl⟩;rw[hy]at hrb hbig;generalize hm:d.length=m at *;have HM:N (d.length=m):=hm;have HY:N (4*n+8=y):=hy;clear hm hV hn hba hy
   by_cases hb4:4000<n
   .go_enter Tryz.func115,Tryz.ntmps115;go_wp2_with (first|(go_at_call 151;refine hwd.mono ?_;rintro e w1 ⟨rfl,q,rfl⟩)|(go_at_call 108;refine(hrb _).mono ?_;rintro e w1 ⟨rfl,rfl⟩))
    go_ret2;exact Dc.none (below_drewN (qD _ _) _) HR.out
   .have hyl:m<y:=by omega
    clear hbig;go_enter Tryz.func115,Tryz.ntmps115;go_wp2_with (first|(go_at_call 151;refine hwd.mono ?_;rintro e w1 ⟨rfl,q,rfl⟩)|(go_at_call 108;refine(hrb _).mono ?_;rintro e w1 ⟨rfl,rfl⟩))
    go_ret2;exact Dc.none (below_drewN (qD _ _) _) HR.out
  .have hb4:¬4000<n:=by omega
   have hyl:4*n+8<=d.length:=by omega
   have hrb:=fun w1=>Fu n w1 (by omega);have HV:N (∀w1,T w.heap.size w w1->CI w1 b off d):=fun w1 hb=>hba.below hb hbl;obtain⟨sp,hsp⟩:∃sp,4*n+4=sp:=⟨_,rfl⟩;obtain⟨y,hy⟩:∃y,4*n+8=y:=⟨_,rfl⟩;have hsy:wrap64 ((y:Int)-4)=(sp:Int):=by rw[IntWalk.wrap64_in _ (by omega)];omega
   have hsy':IntKind.i64.wrap ((y:Int)-4)=(sp:Int):=by rw[IntWalk.i64_left];exact hsy
   have HW2:N (∀w1,T w.heap.size w w1->J qA 151 #[X (U ⟨b,off+sp,Z⟩) (d.length-sp) (cap-sp)] w1 fun e w'=>e=M (.int Y (AP d sp))/\∃q,w'=w1.drewN q):=fun w1 hb=>by
    have:=Jz _ (cap-sp) (d.drop sp) w1 (by rw[qM];omega) (by rw[qM];omega) ((hba.below hb hbl).drop (qE hbl hb.size) hmc sp);rw[LD,qM]at this;exact this
   have HS2:N (∀w1,T w.heap.size w w1->J qA 138 #[X (U ⟨b,off,Z⟩) sp cap] w1 fun e w'=>e=M (.int Y (Bm (d.take sp)))/\w'=w1):=fun w1 hb=>by
    have:=NJ _ (d.take sp) w1 (by rw[qP];omega) ((hba.below hb hbl).take (qE hbl hb.size) hmc sp);rw[qP,jR (by omega)]at this;exact this
   have HNone:N (AP d sp≠Bm (d.take sp)->Aa d=Z):=fun h=>by
    rw[Aa,if_neg h4,if_neg (by rw[hn];omega),hn,hsp,if_pos h]
   have HGo:N (AP d sp=Bm (d.take sp)->Aa d=if(Aj d n).any Ae=true then Z else U (Aj d n)):=fun h=>by
    rw[Aa,if_neg h4,if_neg (by rw[hn];omega),hn,hsp,if_neg (by simp[h])]
   have hspl:sp<=d.length:=by omega
   have HWn:N (∀(i:Nat) (w1:V),i<n->T w.heap.size w w1->J qA 151 #[X (U ⟨b,off+(4+4*i),Z⟩) (d.length-(4+4*i)) (cap-(4+4*i))] w1 fun e w'=>e=M (.int Y (AP d (4+4*i)))/\∃q,w'=w1.drewN q):=fun i w1 hi hb=>by
    have:=Jz _ (cap-(4+4*i)) (d.drop (4+4*i)) w1 (by rw[qM];omega) (by rw[qM];omega) ((hba.below hb hbl).drop (qE hbl hb.size) hmc _);rw[LD,qM]at this;exact this
   have hmk:=run_make_row' (P:=qA) 39 3 (.int Y 0) 8 Tryz.underlying39 Bd rfl .i64 .i64 n (by omega) (by omega);rw[hn]at hwd;rw[hy]at hrb hyl;generalize hm:d.length=m at *;have HM:N (d.length=m):=hm;have HY:N (4*n+8=y/\4*n+4=sp):=⟨hy,hsp⟩;have i1:(sp:Int)<=(m:Int):=by omega
   have i2:(0:Int)<=(sp:Int):=by omega
   have i3:sp<=cap:=by omega
   have i4:(sp:Int)<=(cap:Int):=by omega
   have i5:¬cap=sp:=by omega
   clear hm hV hn hba hy hsp;generalize hfd:AP d sp=fs at *;generalize hsd:Bm (d.take sp)=sm at *;clear hfd hsd
   by_cases hfs:fs=sm
   .subst hfs;have hgo:=HGo.out (by trivial);have HGo':N (Aa d=if(Aj d n).any Ae=true then Z else U (Aj d n)):=hgo;clear hgo HGo HNone;go_enter Tryz.func115,Tryz.ntmps115;go_wp2_with (first|(go_at_call 151;refine hwd.mono ?_;rintro e w1 ⟨rfl,q,rfl⟩)|(go_at_call 108;refine(hrb _).mono ?_;rintro e w1 ⟨rfl,rfl⟩))
    have hq1:T w.heap.size w (w.drewN q):=below_drewN (qD _ _) _;generalize w.drewN q=w1 at *;have hq2:T w.heap.size w w1.drew:=hq1.drew
    go_region_held3 (fun _=>True) (first|trivial) (first|(go_at_call 151;refine(HW2.out _ hq2).mono ?_;rintro e w2 ⟨rfl,q2,HE⟩;have hq3:T w.heap.size w w2:=HE▸below_drewN hq2 _;clear HE)|(go_at_call 138;refine(HS2.out _ hq3).mono ?_;rintro e w3 ⟨rfl,rfl⟩))
    go_wp2_with fail
    have hw3:=hq3.size;have hrow0:=World.rowIs_made w3 (.int Y 0) n 3;have hbr0:T w.heap.size w (w3.alloc (O (madeCells #[.int Y 0] n) 3)):=hq3.alloc hq3.size _;have hrz:∀a:L,N (w3.heap.size≥w.heap.size):=fun _=>hw3;obtain⟨B,hB⟩:∃B,w3.heap.size=B:=⟨_,rfl⟩;rw[hB]at hrow0 hw3⊢;clear hrz hB;go_loopw [38] (fun i wr=>∃q:Nat,q<=n/\i=.int Y q/\N ((Aj d q).any Ae=I)/\T w.heap.size w wr/\N (wr.rowIs B 3 n (fun j=>.int Y ((Aj d q).getD j 0)))) (fun i _=>n-(intOf i).toNat)
    case atStart=>exact⟨0,qJ _,rfl,rfl,hbr0,hrow0.congr (fun i _=>by simp[Aj])⟩
    case round=>
     obtain⟨q,hqn,rfl,HT,hBr,hR⟩:=hrel;by_cases hlt:q<n
     .obtain ⟨p,hp⟩:∃p,(q+1)*4=p:=⟨_,rfl⟩;have hp4:p=4+4*q:=by omega
      have hwn:=HWn.out q wr hlt hBr;rw[<-hp4]at hwn;have hou:=fun w1=>MN (AP d p) w1;have hpy:p+4<=m:=by have:=HY.out;omega
      have hfour:=GY d p;have HSn:N ((Aj d (q+1)).any Ae=Ae (AP d p)):=by
       show _=_;rw[JA,zC,HT.out,<-hp4];simp
      have HAn:N (Ae (AP d p)=true->(Aj d n).any Ae=true):=fun h=>by
       refine vC.2 ⟨(AP d p:Int),?_,h⟩;rw[hp4];exact vI.2 ⟨q,vE.2 hlt,rfl⟩
      have HSet:N (∀w1:V,w1.rowIs B 3 n (fun j=>.int Y ((Aj d q).getD j 0))->(w1.setCell ⟨B,q,Z⟩ (.int Y (AP d p))).rowIs B 3 n (fun j=>.int Y ((Aj d (q+1)).getD j 0))/\(w1.setCell ⟨B,q,Z⟩ (.int Y (AP d p))).cell? ⟨B,q,Z⟩=U (.int Y (AP d p))):=fun w1 h=>by
       have h2:=h.set q (.int Y (AP d p));refine⟨h2.congr fun j hj=>?_,by rw[h2.cell hlt];simp⟩;rw[<-Sh,<-hp4];by_cases e:j=q
       .simp[e]
       .simp[e]
      have HCe:N (∀w1:V,w1.rowIs B 3 n (fun j=>.int Y ((Aj d q).getD j 0))->w1.cell? ⟨B,q,Z⟩=U (.int Y ((Aj d q).getD q 0))/\w1.frozen? ⟨B,q,Z⟩=I):=fun w1 h=>⟨h.cell hlt,h.frozen q⟩;rw[<-hp]at hwn hou HSn HAn HSet hpy hfour;have k6:¬cap=(q+1)*4:=by omega
      have k4:(q+1)*4<=cap:=by omega
      clear hp4 HT hp;generalize AP d ((q+1)*4)=x at *;generalize(Aj d q).getD q 0=oldx at HCe;generalize ho:Ae (x:Int)=o at *
      cases o
      .have HSn':N ((Aj d (q+1)).any Ae=I):=HSn.out;go_wp2_with (first|(go_at_call 151;refine hwn.mono ?_;rintro e w4 ⟨rfl,q4,HE⟩;have hb4:T w.heap.size w w4:=HE▸below_drewN hBr _;have hr4:w4.rowIs B 3 n (fun j=>.int Y ((Aj d q).getD j 0)):=B6 hR.out (HE▸below_drewN (qD _ _) _);clear HE;obtain⟨cc4,ff4⟩:=HCe.out w4 hr4;obtain⟨hr5,cc5⟩:=HSet.out w4 hr4)|(go_at_call 107;refine(hou _).mono ?_;rintro e w5 ⟨rfl,HE5⟩))
       refine⟨⟨q+1,by omega,by go_num,HSn'.out,?_,?_⟩,by simp[intOf];omega⟩
       .exact hb4.setCell (p:=⟨B,q,Z⟩) hw3 _
       .exact hr5
      .have HR:N (Aa d=Z):=by show _=_;rw[HGo'.out,if_pos (HAn.out (by trivial))]
       go_wp2_with (first|(go_at_call 151;refine hwn.mono ?_;rintro e w4 ⟨rfl,q4,HE⟩;have hb4:T w.heap.size w w4:=HE▸below_drewN hBr _;have hr4:w4.rowIs B 3 n (fun j=>.int Y ((Aj d q).getD j 0)):=B6 hR.out (HE▸below_drewN (qD _ _) _);clear HE;obtain⟨cc4,ff4⟩:=HCe.out w4 hr4;obtain⟨hr5,cc5⟩:=HSet.out w4 hr4)|(go_at_call 107;refine(hou _).mono ?_;rintro e w5 ⟨rfl,HE5⟩))
       go_ret2;exact Dc.none (hb4.setCell (p:=⟨B,q,Z⟩) hw3 _) HR.out
     .obtain rfl:q=n:=by omega
      have HR:N (Aa d=U (Aj d q)):=by show _=_;rw[HGo'.out,if_neg (by rw[HT.out];simp)]
      have hown:=S5 (base:=w.heap.size) hR.out hw3 (DJ d q) (by omega);have HOwn:N (wr.ownsRow w.heap.size 3 1 (X (U ⟨B,0,Z⟩) q q) q (AB (Aj d q))):=hown;clear hown HT HWn HW2 HS2 HV hmk hwd hrb;go_wp2_with fail
      go_ret2;refine⟨hBr,fun h=>(by rw[HR.out]at h;cases h),fun l hl=>?_⟩;rw[HR.out]at hl;obtain rfl:=Option.some.inj hl;rw[DJ];exact⟨_,_,rfl,HOwn⟩
   .have HR:N (Aa d=Z):=HNone.out hfs;have hfs2:¬((fs:Int)=(sm:Int)):=by omega
    go_enter Tryz.func115,Tryz.ntmps115;go_wp2_with (first|(go_at_call 151;refine hwd.mono ?_;rintro e w1 ⟨rfl,q,rfl⟩)|(go_at_call 108;refine(hrb _).mono ?_;rintro e w1 ⟨rfl,rfl⟩))
    have hq1:T w.heap.size w (w.drewN q):=below_drewN (qD _ _) _;generalize w.drewN q=w1 at *;have hq2:T w.heap.size w w1.drew:=hq1.drew
    go_region_held3 (fun _=>True) (first|trivial) (first|(go_at_call 151;refine(HW2.out _ hq2).mono ?_;rintro e w2 ⟨rfl,q2,HE⟩;have hq3:T w.heap.size w w2:=HE▸below_drewN hq2 _;clear HE)|(go_at_call 138;refine(HS2.out _ hq3).mono ?_;rintro e w3 ⟨rfl,rfl⟩))
    go_wp2_with fail
    go_ret2;exact Dc.none hq3 HR.out
def LisO(w:V)(base:Nat)(v:L)(rs:List (List Int)):Prop:=
 ∃us,w.ownsRow base 39 1 v rs.length us/\us.length=rs.length/\∀i,i<rs.length->w.ownsRow base 3 1 (us.getD i DH) (rs.getD i []).length (AB (rs.getD i []))
theorem LisO.nil(w:V)(base:Nat):LisO w base (X Z 0 0) []:=⟨[],World.ownsRow_nil _ _ _ _,rfl,fun i hi=>by simp at hi⟩
theorem LisO.mono{w:V}{base base':Nat}{v:L}{rs:List (List Int)}(h:LisO w base v rs)(hb:base'<=base):LisO w base' v rs:=by
 obtain⟨us,h1,h2,h3⟩:=h;exact⟨us,A2 h1 hb,h2,fun i hi=>A2 (h3 i hi) hb⟩
theorem LisO.later{w w':V}{base B:Nat}{v:L}{rs:List (List Int)}(h:LisO w base v rs)(hb:T B w w')(hB:w.heap.size<=B):LisO w' base v rs:=by
 obtain⟨us,h1,h2,h3⟩:=h;exact⟨us,Ar h1 hb hB,h2,fun i hi=>Ar (h3 i hi) hb hB⟩
theorem LisO.snoc{w w':V}{base:Nat}{v v' u:L}{us:List L}{rs:List (List Int)}{l:List Int}(h1:w.ownsRow base 39 1 v rs.length us)(h2:us.length=rs.length)(h3:∀i,i<rs.length->w.ownsRow base 3 1 (us.getD i DH) (rs.getD i []).length (AB (rs.getD i [])))
  (hu:w.ownsRow base 3 1 u l.length (AB l)) (ho:w'.ownsRow base 39 1 v' (rs.length+1) (us++[u])) (hg:w.grownBy w' v.ownBlock):LisO w' base v' (rs++[l]):=by
 refine⟨us++[u],by simpa using ho,by simp[h2],fun i hi=>?_⟩;rw[E4,E4,h2];have hne:∀(x:L) (n:Nat) (xs:List L),w.ownsRow base 3 1 x n xs->x.ownBlock=Z\/x.ownBlock≠v.ownBlock:=fun x n xs hx=>Eb (by decide) hx h1;by_cases hlt:i<rs.length
 .rw[if_pos hlt,if_pos hlt];exact(h3 i hlt).kept hg (hne _ _ _ (h3 i hlt))
 .rw[if_neg hlt,if_neg hlt];have:i=rs.length:=by simp at hi;omega
  subst this;rw[xA];exact hu.kept hg (hne _ _ _ hu)
theorem FC(w:V)(a:L)(t:TypeId):∀j u,[a][j]? = U u->(w.alloc (O #[a] t)).cell? ((⟨w.heap.size,0,Z⟩:Addr).add j)=U u:=by
 intro j u hj;match j,hj with
 |0,hj=>simp at hj;subst hj;simp[Addr.add,go_sem]
theorem CI.rest{w:V}{b off cap:Nat}{d:List UInt8}(h:CI w b off d)(hb:b<w.heap.size)(hc:d.length<=cap){k:Nat}(hk:k<=d.length):BU w (.slice (if cap=k then U ⟨b,off,Z⟩else U ⟨b,off+k,Z⟩) (d.length-k) (cap-k)) (d.drop k):=by
 by_cases e:cap=k
 .rw[if_pos e];have:d.drop k=[]:=List.drop_eq_nil_of_le (by omega);rw[this];exact⟨U ⟨b,off,Z⟩,cap-k,by simp;omega,⟨by simp,fun h=>by simp at h⟩,fun h=>absurd rfl h⟩
 .rw[if_neg e];have:=h.drop hb hc k;rw[qM]at this;exact this
theorem Tr(x:Option Addr)(c:Nat)(w:V):J qA 115 #[X x 0 c] w fun e w'=>e=M (G #[X Z 0 0,.bool I])/\w'=w:=by
 go_enter Tryz.func115,Tryz.ntmps115;go_wp2;go_ret2;exact⟨rfl,rfl⟩
theorem T0{n a m:Nat}(h1:8*n<=a)(h2:a<=m)(h3:m<=1048576):(n+1)*24<=140737488355328/\n+1<=maxLen:=by
 unfold maxLen;omega
theorem Uv{m a y:Nat}(h:a+y<=m)(hy:8<=y):m-(intOf (Value.int .i64 ((a:Int)+(y:Int)))).toNat<m-(intOf (Value.int .i64 (a:Int))).toNat:=by
 have hi1:(intOf (Value.int .i64 ((a:Int)+(y:Int)))).toNat=a+y:=by show((a:Int)+(y:Int)).toNat=a+y;omega
 have hi2:(intOf (Value.int .i64 (a:Int))).toNat=a:=by show((a:Int)).toNat=a;omega
 rw[hi1,hi2];omega
def F6(w:V)(d:List UInt8)(e:Ending)(w':V):Prop:=
 ∃ao cap,e=M (G #[.slice ao (Au d).1.length cap,.int Y (Au d).2,.int Y 0])/\T w.heap.size w w'/\N (LisO w' w.heap.size (.slice ao (Au d).1.length cap) (Au d).1)
theorem JV(ao:Option Addr)(cap:Nat)(d:List UInt8)(s:Int)(w:V)(hm:BL d.length s=true)(hV:BU w (.slice ao d.length cap) d) :
  J qA 88 #[F #[.slice ao d.length cap,.int Y s]] w (F6 w d):=by
 have hl:d.length<=1048576:=by simp[BL]at hm;omega
 obtain⟨hbA,hcA⟩:=Bc.arg w (.slice ao d.length cap) (.int Y s) 144;have hmb:=Fl ao d.length cap s (w.alloc (O #[.slice ao d.length cap,.int Y s] 144));rw[hm]at hmb;have HA:N (∀w1,T (w.alloc (O #[.slice ao d.length cap,.int Y s] 144)).heap.size (w.alloc (O #[.slice ao d.length cap,.int Y s] 144)) w1->T w.heap.size w w1/\Bc w1 w.heap.size (.slice ao d.length cap) (.int Y s)):=fun w1 hb=>⟨hbA.trans (hb.mono hbA.size),hcA.later hb⟩;obtain⟨i0,hi,hz0,hz1,hz2⟩:=info_parts Dy;by_cases hd0:d=[]
 .subst hd0;have hrn:=fun(x:Option Addr) (c:Nat) (w1:V)=>Tr x c w1;have HL:N (Au []=([],0)):=by show _=_;rfl
  simp only[List.length_nil]at hmb HA⊢;obtain⟨ao',cap',e1,⟨hlc,hno⟩,_⟩:=id hV;injection e1 with e1 e2 e3;subst e1 e3;clear e2 hV hm hbA hcA;have hc0:(0:Int)<=(cap:Int):=by omega
  cases ao with
  |none=>
   obtain⟨rfl,_⟩:=hno rfl;go_enter Tryz.func88,Tryz.ntmps88;go_wp2_with (first|(go_at_call 105;refine hmb.mono ?_;rintro e w1 ⟨rfl,hb1⟩;obtain⟨hx,hc⟩:=HA.out w1 hb1;obtain⟨_,a0,a1⟩:=id hc))
   go_loopw [5,6] (fun u i wr=>u=X Z 0 0/\i=.int Y 0/\wr=w1) (fun _ _ _=>0)
   case atStart=>exact⟨rfl,rfl,rfl⟩
   case round=>
    obtain⟨rfl,rfl,rfl⟩:=hrel;go_wp2_with (first|(go_at_call 115;refine(hrn _ _ _).mono ?_;rintro e w2 ⟨rfl,rfl⟩))
    go_ret3
    exact⟨Z,0,by rw[HL.out];rfl,hx,by rw[HL.out];exact LisO.nil _ _⟩
  |some ad=>
   go_enter Tryz.func88,Tryz.ntmps88;go_wp2_with (first|(go_at_call 105;refine hmb.mono ?_;rintro e w1 ⟨rfl,hb1⟩;obtain⟨hx,hc⟩:=HA.out w1 hb1;obtain⟨_,a0,a1⟩:=id hc))
   go_loopw [5,6] (fun u i wr=>u=X Z 0 0/\i=.int Y 0/\wr=w1) (fun _ _ _=>0)
   case atStart=>exact⟨rfl,rfl,rfl⟩
   case round=>
    obtain⟨rfl,rfl,rfl⟩:=hrel;go_wp2_with (first|(go_at_call 115;refine(hrn _ _ _).mono ?_;rintro e w2 ⟨rfl,rfl⟩))
    go_ret3
    exact⟨Z,0,by rw[HL.out];rfl,hx,by rw[HL.out];exact LisO.nil _ _⟩
 .obtain ⟨b,off,rfl,hbl,_,hmc,hba⟩:=hV.at (vU.2 hd0);have HRa:N (∀(at':Nat) (w1:V),at'<=d.length->T w.heap.size w w1->J qA 115 #[.slice (if cap=at' then U ⟨b,off,Z⟩else U ⟨b,off+at',Z⟩) (d.length-at') (cap-at')] w1 (Dc w1 (d.drop at'))):=fun at' w1 hk hb=>by
   have hv:=(hba.below hb hbl).rest (qE hbl hb.size) hmc hk;have:=Tq (if cap=at' then U ⟨b,off,Z⟩else U ⟨b,off+at',Z⟩) (cap-at') (d.drop at') w1 (by rw[qM];omega) (by rw[qM];exact hv);rw[qM]at this;exact this
  obtain⟨m,hmd⟩:∃m,d.length=m:=⟨_,rfl⟩;have HM:N (d.length=m):=hmd;have HLe:N (∀k,(run k d).2<=m/\8*(run k d).1.length<=(run k d).2):=fun k=>⟨by have:=FF d k;omega,Jb d k⟩;rw[hmd]at hmb HA HRa hmc hl⊢;clear hmd hV hm hbA hcA hd0 hba;go_enter Tryz.func88,Tryz.ntmps88;go_wp2_with (go_at_call 105;refine hmb.mono ?_;rintro e w1 ⟨rfl,hb1⟩;obtain⟨hx,hc⟩:=HA.out w1 hb1)
  go_loopw [5,6] (fun u i wr=>∃k:Nat,N (8*k<=(run k d).2)/\i=.int Y ((run k d).2:Nat)/\(∃a c,u=.slice a (run k d).1.length c/\N (LisO wr w1.heap.size (.slice a (run k d).1.length c) (run k d).1))/\T w1.heap.size w1 wr) (fun _ i _=>m-(intOf i).toNat)
  case atStart=>exact⟨0,qB _,rfl,⟨Z,0,rfl,LisO.nil _ _⟩,qD _ _⟩
  case round=>
   obtain⟨k,HK,rfl,⟨a,c,rfl,HL⟩,hB⟩:=hrel;obtain⟨hp1,hp2⟩:=HLe.out k;obtain⟨_,a0,a1⟩:=hc.later hB;have hbw:=hx.trans (hB.mono hx.size);have hra:=HRa.out (run k d).2 wr hp1 hbw;have j1:((run k d).2:Int)<=(m:Int):=by omega
   have j2:(run k d).2<=cap:=by omega
   cases hr:Aa (d.drop (run k d).2)with
   |none=>
    have HE:N (Au d=run k d):=JX HK.out hr;have hra':J qA 115 #[.slice (if cap=(run k d).2 then U ⟨b,off,Z⟩else U ⟨b,off+(run k d).2,Z⟩) (m-(run k d).2) (cap-(run k d).2)] wr fun e w'=>e=M (G #[X Z 0 0,.bool I])/\T wr.heap.size wr w':=hra.mono fun e w' h=>⟨h.2.1 hr,h.1⟩;clear hra hr;generalize hrk:run k d=rk at *;clear hrk;obtain⟨rs,at'⟩:=rk;simp only at *
    have HFin:N (∀(w2:V),T wr.heap.size wr w2->F6 w d (M (G #[.slice a rs.length c,.int Y at',.int Y 0])) w2):=fun w2 hb2=>⟨a,c,by rw[HE.out],hbw.trans (hb2.mono hbw.size),by rw[HE.out];exact(HL.out.later hb2 (qB _)).mono hx.size⟩;clear HLe;by_cases hca:cap=at'
    .rw[if_pos hca]at hra';obtain rfl:m=cap:=by omega
     subst hca;simp only[xA]at hra';go_wp2_with (first|(go_at_call 115;refine hra'.mono ?_;rintro e w2 ⟨rfl,hb2⟩))
     go_ret3
     exact HFin.out w2 hb2
    .rw[if_neg hca]at hra';go_wp2_with (first|(go_at_call 115;refine hra'.mono ?_;rintro e w2 ⟨rfl,hb2⟩))
     go_ret3
     exact HFin.out w2 hb2
   |some l=>
    have hnx:=EA hr;obtain⟨hw0,hxa,hln,hxb,hxc⟩:=JY hr;clear hxa hxb hxc;have HKn:N (8*(k+1)<=(run k d).2+(4*l.length+8)):=by have:=HK.out;show _<=_;omega
    rw[qM,HM.out]at hln;have hl4:l.length<=4000:=by unfold wrC at hw0;split at hw0<;>omega
    have hra':J qA 115 #[.slice (if cap=(run k d).2 then U ⟨b,off,Z⟩else U ⟨b,off+(run k d).2,Z⟩) (m-(run k d).2) (cap-(run k d).2)] wr fun e w'=>∃ao cap,e=M (G #[.slice ao l.length cap,.bool true])/\T wr.heap.size wr w'/\N (w'.ownsRow wr.heap.size 3 1 (.slice ao l.length cap) l.length (AB l)):=hra.mono fun e w' h=>by
     obtain⟨x,y,h1,h2⟩:=h.2.2 l hr;exact⟨x,y,h1,h.1,h2⟩
    have hrb:=fun w1=>Fu l.length w1 (by omega);have HNx:N (run (k+1) d=((run k d).1++[l],(run k d).2+(4*l.length+8))):=hnx;have HKs:N (8*(k+1)<=(run (k+1) d).2):=by show _<=_;rw[hnx];exact HKn.out
    clear hra hr hnx hw0 HKn HK;generalize hrk:run k d=rk at *;clear hrk;obtain⟨rs,at'⟩:=rk;simp only at *
    obtain⟨us,hu1,hu2,hu3⟩:=HL.out;have HU3:N (∀i,i<rs.length->wr.ownsRow w1.heap.size 3 1 (us.getD i DH) (rs.getD i []).length (AB (rs.getD i []))):=hu3;have HU1:N (wr.ownsRow w1.heap.size 39 1 (.slice a rs.length c) rs.length us/\us.length=rs.length):=⟨hu1,hu2⟩;obtain⟨y,hy⟩:∃y,4*l.length+8=y:=⟨_,rfl⟩;rw[hy]at hrb hln HNx;have hy8:8<=y:=by omega
    have HMe:N (at'+y<=m):=(by omega:at'+y<=m);have hca:¬cap=at':=by omega
    have hsum:wrap64 ((at':Int)+(y:Int))=((at'+y:Nat):Int):=by rw[IntWalk.wrap64_in _ (by omega)];omega
    have hsum':IntKind.i64.wrap ((at':Int)+(y:Int))=((at'+y:Nat):Int):=by rw[IntWalk.i64_left];exact hsum
    obtain⟨hrn,hrm⟩:=T0 hp2 hp1 hl;have HLS:N (∀(w2 w4:V) (u v':L),T wr.heap.size wr w2->w2.ownsRow wr.heap.size 3 1 u l.length (AB l)->(w2.alloc (O #[u] 39)).grownBy w4 (Value.slice a rs.length c).ownBlock->w4.ownsRow w1.heap.size 39 1 v' (rs.length+1) (us++[u])->LisO w4 w1.heap.size v' (rs++[l])):=fun w2 w4 u v' hb hu hg ho=>LisO.snoc (w:=w2.alloc (O #[u] 39)) ((Ar HU1.out.1 hb (qB _)).alloc _) HU1.out.2 (fun i hi=>(Ar (HU3.out i hi) hb (qB _)).alloc _) ((A2 hu hB.size).alloc _) ho hg;have HLn:N ((rs++[l]).length=rs.length+1):=by show _=_;simp
    generalize hll:l.length=ll at *;have HLl:N (l.length=ll):=hll;clear hu3 hu1 hu2 HL hy hll;obtain⟨rn,hrnn⟩:∃rn,rs.length=rn:=⟨_,rfl⟩
    have HRn:N (rs.length=rn):=hrnn;rw[hrnn]at hrn hrm HLS HU1 HLn hp2⊢;clear hrnn HU3;rw[if_neg hca]at hra';have hw1r:=hB.size;go_wp2_with (first|(go_at_call 115;refine hra'.mono ?_;rintro e w2 ⟨xo,xc,rfl,hb2,hO2⟩;have hrow:=Ar HU1.out.1 hb2 (qB _);have hB2:=hB.trans (hb2.mono hB.size);have hs2:=hB2.size)|(at_builtin;refine wpList_append_own _ rfl _ _ 38 rfl w1.heap.size 39 i0 (X Z 0 0) 1 24 Tryz.underlying38 hi hz0 hz1 hz2 rfl (by decide) (X a rn c) rn us rfl (hrow.alloc _) ⟨w2.heap.size,0,Z⟩ 1 1 [X xo ll xc] rfl rfl (FC _ _ _) (by simp[Value.oneCell']) hrm hrn (qI hs2 (by simp)) ?_;intro v' w4 hown' hgrow _;have hb4:T w1.heap.size w1 w4:=(hB2.alloc hB2.size _).grown hgrow (qI hs2 (by simp)) (fun q hq=>(hrow.lt q hq).1);have hL4:=HLS.out w2 w4 _ v' hb2 (by rw[<-HLl.out]at hO2⊢;exact hO2.out) hgrow hown';obtain⟨a4,c4,hv4⟩:=A3 hown';subst hv4;clear hgrow)|(go_at_call 108;refine(hrb _).mono ?_;rintro e w5 ⟨rfl,rfl⟩))
    have e1:(run (k+1) d).1.length=rn+1:=by rw[HNx.out];exact HLn.out
    have e2:(run (k+1) d).1=rs++[l]:=by rw[HNx.out]
    have e3:(run (k+1) d).2=at'+y:=by rw[HNx.out]
    clear HNx HLn;refine⟨⟨k+1,HKs.out,by rw[e3,Int.natCast_add],⟨a4,c4,by rw[e1],by rw[e1,e2];exact hL4⟩,hb4⟩,Uv HMe.out hy8⟩
theorem Ms{D:List UInt8}(h:D.length<4):Aa D=none:=by rw[Aa,if_pos h]
theorem To{D:List UInt8}(h:¬D.length<4)(h2:4000<AP D 0\/D.length<4*AP D 0+8):Aa D=none:=by rw[Aa,if_neg h,if_pos h2]
theorem Tt(ao:Option Addr)(cap:Nat)(l:List UInt8)(s:Int)(w:V)(hm:BL l.length s=true)(hV:BU w (.slice ao l.length cap) l) :
  J qA 85 #[F #[.slice ao l.length cap,.int Y s]] w (CJ w (l.take (Au l).2) (min s ((Au l).2:Nat)) 0):=by
 have hmm:l.length<=1048576/\0<=s/\s<=l.length:=by simpa[BL]using hm
 obtain⟨hl,hs0,hs1⟩:=hmm;have hst:=Bx.start w (.slice ao l.length cap) (.int Y s) 144 144;have hrd0:=JV ao cap l s ((w.alloc (O #[.slice ao l.length cap,.int Y s] 144)).alloc (O #[X Z 0 0,.int Y 0] 144)) hm (hV.below hst.b);have hrd:J qA 88 #[F #[.slice ao l.length cap,.int Y s]] ((w.alloc (O #[.slice ao l.length cap,.int Y s] 144)).alloc (O #[X Z 0 0,.int Y 0] 144)) fun e w'=>∃xo xn xc,e=M (G #[X xo xn xc,.int Y ((Au l).2:Nat),.int Y 0])/\T ((w.alloc (O #[.slice ao l.length cap,.int Y s] 144)).alloc (O #[X Z 0 0,.int Y 0] 144)).heap.size ((w.alloc (O #[.slice ao l.length cap,.int Y s] 144)).alloc (O #[X Z 0 0,.int Y 0] 144)) w':=hrd0.mono fun e w' ⟨xo,xc,h1,h2,_⟩=>⟨xo,_,xc,h1,h2⟩;have hq1:(Au l).2<=l.length:=FF l l.length;generalize(Au l).2=q at *;have htl:(l.take q).length=q:=NO hq1
 have HBx:N (∀w1,T ((w.alloc (O #[.slice ao l.length cap,.int Y s] 144)).alloc (O #[X Z 0 0,.int Y 0] 144)).heap.size ((w.alloc (O #[.slice ao l.length cap,.int Y s] 144)).alloc (O #[X Z 0 0,.int Y 0] 144)) w1->Bx w w1 (.slice ao l.length cap) (.int Y s)):=fun w1 hb=>hst.later hb;have HCu:N (∀w1,Bx w w1 (.slice ao l.length cap) (.int Y s)->J qA 113 #[F #[.slice ao l.length cap,.int Y s],.int Y q,.int Y (min s (q:Nat))] w1 fun e w'=>∃ao' cap',e=M (F #[X ao' q cap',.int Y (min s (q:Nat))])/\T w1.heap.size w1 w'/\N (w'.ownsRow w1.heap.size 5 1 (X ao' q cap') q (AF (l.take q)))):=fun w1 hx=>Ia ao cap l s _ q w1 hl hq1 (hV.below hx.b);have HT:CJ w (l.take q) (min s (q:Nat)) 0=fun e w'=>∃ao cap,e=M (G #[F #[X ao q cap,.int Y (min s (q:Nat))],.int Y 0])/\T w.heap.size w w'/\N (w'.ownsRow w.heap.size 5 1 (X ao q cap) q (AF (l.take q))):=by unfold CJ;rw[htl]
 rw[HT];clear HT htl hrd0;generalize AF (l.take q)=xs at *;generalize l.length=n at *;clear hst hm hV
 by_cases hsq:s<=(q:Int)
 .have hmin:min s (q:Int)=s:=by omega
  rw[hmin]at HCu⊢;go_enter Tryz.func85,Tryz.ntmps85;go_wp2_with (first|(go_at_call 88;refine hrd.mono ?_;rintro e w1 ⟨zo,zn,zc,rfl,hb1⟩;have hx:=HBx.out w1 hb1;have hcu:=HCu.out w1 hx;obtain⟨_,_,a0,a1,_,_,_,_⟩:=id hx)|(go_at_call 113;refine hcu.mono ?_;rintro e w2 ⟨bo,bc,rfl,hb2,HO⟩;have hx2:=hx.later hb2;obtain⟨_,_,_,_,r0,r1,f0,f1⟩:=id hx2))
  refine bodyPost_ret (v:=G #[F #[X bo q bc,.int Y s],.int Y 0]) ?_ rfl ⟨bo,bc,rfl,hx2.done _ _,FD HO.out hx.z _ _⟩;simp[results,Tryz.results85,go_sem,r0,r1]
 .have hmin:min s (q:Int)=(q:Int):=by omega
  rw[hmin]at HCu⊢;go_enter Tryz.func85,Tryz.ntmps85;go_wp2_with (first|(go_at_call 88;refine hrd.mono ?_;rintro e w1 ⟨zo,zn,zc,rfl,hb1⟩;have hx:=HBx.out w1 hb1;have hcu:=HCu.out w1 hx;obtain⟨_,_,a0,a1,_,_,_,_⟩:=id hx)|(go_at_call 113;refine hcu.mono ?_;rintro e w2 ⟨bo,bc,rfl,hb2,HO⟩;have hx2:=hx.later hb2;obtain⟨_,_,_,_,r0,r1,f0,f1⟩:=id hx2))
  refine bodyPost_ret (v:=G #[F #[X bo q bc,.int Y q],.int Y 0]) ?_ rfl ⟨bo,bc,rfl,hx2.done _ _,FD HO.out hx.z _ _⟩;simp[results,Tryz.results85,go_sem,r0,r1]
section
variable{H:Type}{enc:TypeId×L -> H}{W:V}
end
theorem bounds_i64{n:Int}(h:(Lit.int .i64 n).wf=true):I64 n:=by simpa[I64,Lit.wf,IntKind.min,IntKind.max,IntKind.signed,IntKind.bits]using h
theorem Bx.low{w w1 w2:V}{x0 x1:L}{B:Nat}(h:Bx w w1 x0 x1)(hb:T B w1 w2)(hB:w.heap.size+1+1<=B):Bx w w2 x0 x1:=by
 exact⟨h.b.trans (hb.mono (by omega)),qI h.z hb.size,(hb.cell (p:=⟨w.heap.size,0,Z⟩) (by show w.heap.size<_;omega)).trans h.a0,(hb.cell (p:=⟨w.heap.size,1,Z⟩) (by show w.heap.size<_;omega)).trans h.a1,(hb.cell (p:=⟨w.heap.size+1,0,Z⟩) (by show w.heap.size+1<_;omega)).trans h.r0,(hb.cell (p:=⟨w.heap.size+1,1,Z⟩) (by show w.heap.size+1<_;omega)).trans h.r1,(hb.frozen (p:=⟨w.heap.size+1,0,Z⟩) (by show w.heap.size+1<_;omega)).trans h.f0,(hb.frozen (p:=⟨w.heap.size+1,1,Z⟩) (by show w.heap.size+1<_;omega)).trans h.f1⟩
theorem WJ(ao:Option Addr)(cap:Nat)(l:List UInt8)(s:Int)(v:L)(r:List Int)(w:V)(hr:r.length<=140737488355328)(hI:IntsV w v r)(hm:BL l.length s=true)(hz:r.length<=4000)(ha:r.any Ae=I)(hf:1048576<l.length+(4*r.length+8)) :
  J qA 80 #[F #[.slice ao l.length cap,.int Y s],v] w (CJ w [] 0 12):=by
 obtain⟨bo,bcap,hbs⟩:∃bo bcap,v=.slice bo r.length bcap:=by obtain⟨bo,bcap,h,_⟩:=id hI;exact⟨bo,bcap,h⟩
 subst hbs;have hst:=Bx.start w (.slice ao l.length cap) (.int Y s) 144 144;have hmb:=Fl ao l.length cap s ((w.alloc (O #[.slice ao l.length cap,.int Y s] 144)).alloc (O #[X Z 0 0,.int Y 0] 144));rw[hm]at hmb;have HBx:N (∀w1,T ((w.alloc (O #[.slice ao l.length cap,.int Y s] 144)).alloc (O #[X Z 0 0,.int Y 0] 144)).heap.size ((w.alloc (O #[.slice ao l.length cap,.int Y s] 144)).alloc (O #[X Z 0 0,.int Y 0] 144)) w1->Bx w w1 (.slice ao l.length cap) (.int Y s)):=fun w1 hb=>hst.later hb;have HCn:N (∀w1,Bx w w1 (.slice ao l.length cap) (.int Y s)->J qA 106 #[.slice bo r.length bcap,.func (.func 107) #[] #[]] w1 fun e w'=>e=M (.bool (r.any Ae))/\w'=w1):=fun w1 hx=>Kx _ r w1 hr (hI.below hx.b);rw[ha]at HCn;have hl:l.length<=1048576:=by simp[BL]at hm;omega
 have hrb:=fun w1=>Fu r.length w1 (by omega);have hsum:wrap64 ((l.length:Int)+((4*r.length+8:Nat):Int))=((l.length+(4*r.length+8):Nat):Int):=by rw[IntWalk.wrap64_in _ (by omega)];omega
 have hsum':IntKind.i64.wrap ((l.length:Int)+((4*r.length+8:Nat):Int))=((l.length+(4*r.length+8):Nat):Int):=by rw[IntWalk.i64_left];exact hsum
 generalize 4*r.length+8=y at *;generalize l.length=n at *;generalize r.length=k at *;obtain⟨sz,hsz⟩:∃sz,n+y=sz:=⟨_,rfl⟩
 rw[hsz]at hsum hsum' hf;clear hst hm hI ha hsz;go_enter Tryz.func80,Tryz.ntmps80;go_wp2_with (first|(go_at_call 105;refine hmb.mono ?_;rintro e w1 ⟨rfl,hb1⟩;have hx:=HBx.out w1 hb1;have hcn:=HCn.out w1 hx;obtain⟨_,_,a0,a1,r0,r1,f0,f1⟩:=id hx)|(go_at_call 106;refine hcn.mono ?_;rintro e w2 ⟨rfl,rfl⟩))
 have hxd:Bx w w2.drew (X ao n cap) (.int Y s):=hx.later (qD _ _).drew;go_region_held3 (fun w'=>w'.cell? ⟨w.heap.size,0,Z⟩=U (X ao n cap))
  (first|exact hx.a0|exact hxd.a0)
  (first|(go_at_call 108;refine(hrb _).mono ?_;rintro e w3 ⟨rfl,rfl⟩))
 have hx2:=hxd;obtain⟨_,_,a0',a1',r0',r1',f0',f1'⟩:=id hxd;go_wp2_with fail
 refine bodyPost_ret (v:=G #[F #[X Z 0 0,.int Y 0],.int Y 12]) ?_ rfl ⟨Z,0,rfl,(hx.done _ _).drew,World.ownsRow_nil _ _ _ _⟩;simp[results,Tryz.results80,go_sem,r0,r1]
section
variable{P:Program}{w:V}
theorem Uu{ops:Array Oper}{o:Oper}{a:Act}{K:Act->V->Prop}{Q:Exit->Act->V->Prop}{E:Prop}(hgd:o.guard=Z)(s x:Operand)
  (ho:o.op=.call { callee:=.builtin .append,args:=#[s,x],argTypes:=#[142,142]})
  (base g n cap:Nat) (xs:List L) (hs:a.eval s=X (U ⟨g,0,Z⟩) n cap) (hown:w.ownsRow base 5 1 (X (U ⟨g,0,Z⟩) n cap) n xs) (so:Option Addr) (m c:Nat) (l:List UInt8) (hx:a.eval x=X so m c) (hV:BU w (X so m c) l)
  (hsz:n+m<=4194304) (hbase:base<=w.heap.size)
  (h:∀g' cap' w',w'.ownsRow base 5 1 (X (U ⟨g',0,Z⟩) (n+m) cap') (n+m) (xs++AF l)->w.grownBy w' (U g)->K (a.put o.dst (X (U ⟨g',0,Z⟩) (n+m) cap')) w') :
  if Region.wanted o (yielded ops a.tmps)=true then Oper.wp qA o a w K Q else E:=by
 obtain⟨i0,hi,hz0,hz1,hz2⟩:=info_parts Ff;obtain⟨so',c',e1,⟨hlc,hnone⟩,hat⟩:=id hV;injection e1 with e1 e2 e3;subst e1 e2 e3;by_cases hl:l=[]
 .subst hl;rcases hown.2 with⟨hv,_⟩|⟨g',cap',cur,hv,hb,hg,hnc,_⟩
  .cases hv
  .cases hv
   refine Jl hgd s x 142 ho 5 i0 Tryz.underlying142 hi g n cap hs so c hx hnc fun w' HE=>?_;have hE:=HE.out;subst hE;have:=h g cap w' (by simpa[AF]using hown) (World.grownBy.refl _ _);simpa using this
 .obtain ⟨b,off,rfl,hbl,hba⟩:=hat hl;exact step_append_lies _ hgd s x 142 ho base 5 i0 _ 1 1 Tryz.underlying142 hi hz0 hz1 hz2 rfl (by decide) _ n xs hs hown ⟨b,off,Z⟩ l.length c (AF l) hx (by rw[EQ];omega) hba.cells (IM l) (vU.2 hl) (by unfold maxLen;omega) (by omega) hbase _ rfl fun g' cap' w' h1 h2 _ _=>h g' cap' w' h1 h2
end
theorem Vy(ao:Option Addr)(cap:Nat)(l:List UInt8)(s:Int)(v:L)(r:List Int)(w:V)(hV:BU w (.slice ao l.length cap) l)(hI:IntsV w v r)(hm:BL l.length s=true)(hz:r.length<=4000)(ha:r.any Ae=I)(hf:l.length+(4*r.length+8)<=1048576) :
  J qA 80 #[F #[.slice ao l.length cap,.int Y s],v] w (CJ w (l++AD r) s 0):=by
 have hr:r.length<=140737488355328:=by omega
 obtain⟨bo,bcap,hbs⟩:∃bo bcap,v=.slice bo r.length bcap:=by obtain⟨bo,bcap,h,_⟩:=id hI;exact⟨bo,bcap,h⟩
 subst hbs;have hst:=Bx.start w (.slice ao l.length cap) (.int Y s) 144 144;have hmb:=Fl ao l.length cap s ((w.alloc (O #[.slice ao l.length cap,.int Y s] 144)).alloc (O #[X Z 0 0,.int Y 0] 144));rw[hm]at hmb;have HBx:N (∀w1,T ((w.alloc (O #[.slice ao l.length cap,.int Y s] 144)).alloc (O #[X Z 0 0,.int Y 0] 144)).heap.size ((w.alloc (O #[.slice ao l.length cap,.int Y s] 144)).alloc (O #[X Z 0 0,.int Y 0] 144)) w1->Bx w w1 (.slice ao l.length cap) (.int Y s)):=fun w1 hb=>hst.later hb;have HCn:N (∀w1,Bx w w1 (.slice ao l.length cap) (.int Y s)->J qA 106 #[.slice bo r.length bcap,.func (.func 107) #[] #[]] w1 fun e w'=>e=M (.bool (r.any Ae))/\w'=w1):=fun w1 hx=>Kx _ r w1 hr (hI.below hx.b);rw[ha]at HCn;have hl:l.length<=1048576:=by simp[BL]at hm;omega
 have hrb:=fun w1=>Fu r.length w1 (by omega);have hsum:wrap64 ((l.length:Int)+((4*r.length+8:Nat):Int))=((l.length+(4*r.length+8):Nat):Int):=by rw[IntWalk.wrap64_in _ (by omega)];omega
 have hsum':IntKind.i64.wrap ((l.length:Int)+((4*r.length+8:Nat):Int))=((l.length+(4*r.length+8):Nat):Int):=by rw[IntWalk.i64_left];exact hsum
 obtain⟨i0,hi,hz0,hz1,hz2⟩:=info_parts Ff;have HVb:N (∀w1,T w.heap.size w w1->BU w1 (.slice ao l.length cap) l):=fun w1 hb=>hV.below hb;have HWr:N (∀(a:Option Addr) (c base:Nat) (w0 w1:V),w.heap.size<=base->base<=w1.heap.size->T w.heap.size w w1->w1.ownsRow base 5 1 (.slice a l.length c) l.length (AF l)->J qA 109 #[.slice a l.length c,.slice bo r.length bcap] w1 fun e w'=>∃ao' cap',e=M (.slice ao' (l++AD r).length cap')/\T base w1 w'/\N (w'.ownsRow base 5 1 (.slice ao' (l++AD r).length cap') (l++AD r).length (AF (l++AD r)))):=fun a c base w0 w1 h1 h2 h3 h4=>Vj a c l _ r base w1 h4 hl (J1 hz ha) h2 fun w2 hb=>hI.below (h3.trans (hb.mono h1));have HT:CJ w (l++AD r) s 0=fun e w'=>∃ao cap,e=M (G #[F #[.slice ao (l++AD r).length cap,.int Y s],.int Y 0])/\T w.heap.size w w'/\N (w'.ownsRow w.heap.size 5 1 (.slice ao (l++AD r).length cap) (l++AD r).length (AF (l++AD r))):=rfl;rw[HT];clear HT;have hz':l.length<=1048576:=hl;generalize AF (l++AD r)=ys at *;generalize(l++AD r).length=yl at *;obtain⟨y,hy⟩:∃y,4*r.length+8=y:=⟨_,rfl⟩
 rw[hy]at hrb hsum hsum' hf;clear hy;obtain⟨xs,hxs⟩:∃xs,AF l=xs:=⟨_,rfl⟩;have HXs:N (AF l=xs):=hxs;rw[hxs]at HWr;clear hxs;generalize l.length=n at *;generalize r.length=k at *;obtain⟨sz,hsz⟩:∃sz,n+y=sz:=⟨_,rfl⟩
 have HSz:N (n<=sz):=by show _<=_;omega
 rw[hsz]at hsum hsum' hf;clear hst hm hI ha hsz hV;have hmk:∀w1:V,(Instr.makeSlice 142 (.int Y 0) (.int Y (sz:Int))).run qA w1=.ok (X (U ⟨w1.heap.size,0,Z⟩) 0 sz) (w1.alloc (O (madeCells #[.int .u8 0] sz) 5)):=fun w1=>by
  have:=run_make (P:=qA) w1 142 5 i0 (.int .u8 0) Tryz.underlying142 hi hz0 .i64 .i64 0 sz (xS _) (by omega) (by rw[hz2];omega) (by omega);simpa[hz1,Value.cells]using this
 have HOw:N (∀w1:V,(w1.alloc (O (madeCells #[.int .u8 0] sz) 5)).ownsRow w1.heap.size 5 1 (X (U ⟨w1.heap.size,0,Z⟩) 0 sz) 0 []):=fun w1=>World.ownsRow_made w1 _ sz (qB _) (by unfold maxLen;omega) (by simp[size_madeCells]);go_enter Tryz.func80,Tryz.ntmps80;go_wp2_with (first|(go_at_call 105;refine hmb.mono ?_;rintro e w1 ⟨rfl,hb1⟩;have hx:=HBx.out w1 hb1;have hcn:=HCn.out w1 hx;obtain⟨_,_,a0,a1,r0,r1,f0,f1⟩:=id hx)|(go_at_call 106;refine hcn.mono ?_;rintro e w2 ⟨rfl,rfl⟩))
 have hxd:Bx w w2.drew (X ao n cap) (.int Y s):=hx.later (qD _ _).drew;go_region_held3 (fun w'=>w'.cell? ⟨w.heap.size,0,Z⟩=U (X ao n cap))
  (first|exact hx.a0|exact hxd.a0)
  (first|(go_at_call 108;refine(hrb _).mono ?_;rintro e w3 ⟨rfl,rfl⟩))
 obtain⟨w3,hw3⟩:∃w3,w2.drew=w3:=⟨_,rfl⟩;rw[hw3]at hxd⊢;clear hw3 hx hcn hb1 hmb a0 a1 r0 r1 f0 f1;go_wp2_with fail
 have a0:=hxd.a0;have hB1:T w3.heap.size w3 (w3.alloc (O (madeCells #[.int .u8 0] sz) 5)).drew:=((qD _ _).alloc (qB _) _).drew;have hx1:=hxd.later hB1;have hO1:=(HOw.out w3).drew;have hv1:=HVb.out _ hx1.b;have tk:=True.intro;go_region_held3 (fun w'=>w'.cell? ⟨w.heap.size,0,Z⟩=U (X ao n cap))
  (first|exact hxd.a0|exact hx1.a0|exact hx4.a0|(exact(hxd.later (qD _ _).drew).a0))
  (first|(clear tk;refine Uu (by rfl) (.tmp 30) (.tmp 32) (by rfl) w3.heap.size w3.heap.size 0 sz [] (by rfl) hO1 ao n cap l (by rfl) hv1 (by omega) hB1.size ?_;intro gB capB wB howB hgrB;have hb4:T w3.heap.size w3 wB:=(hB1.grown hgrB hB1.size (fun q hq=>(by simp at hq;omega)));have hx4:=hxd.later hb4;rw[qV,vZ,HXs.out]at howB))
 go_wp2_with fail
 have hz3:=hxd.z;have hxw:=hx4.later (qD _ _).drew;have hww:=HWr.out (U ⟨gB,0,Z⟩) capB w3.heap.size w3 wB.drew (by omega) hb4.size hxw.b howB.drew;go_region_held3 (fun w'=>w'.cell? ⟨w.heap.size,1,Z⟩=U (.int Y s))
  (first|exact hx4.a1|exact hxw.a1|exact hx5.a1|(have y0:=hx5.a1;simp[go_sem,y0]))
  (first|(go_at_call 109;refine hww.mono ?_;rintro e w5 ⟨xo,xc,rfl,hb5,HO5⟩;have hx5:=hxw.low hb5 hz3;obtain⟨_,_,_,_,r0,r1,f0,f1⟩:=id hx5))
 go_wp2_with fail
 refine bodyPost_ret (v:=G #[F #[X xo yl xc,.int Y s],.int Y 0]) ?_ rfl ⟨xo,xc,rfl,hx5.done _ _,FD HO5.out hz3 _ _⟩;simp[results,Tryz.results80,go_sem,r0,r1]
def AU(rs:List (List Int)):List UInt8:=rs.flatMap AD
theorem IP(rs:List (List Int))(l:List Int):AU (rs++[l])=AU rs++AD l:=by simp[AU]
theorem Oi(l m:List Int):BJ (l++m)=BJ l++BJ m:=by simp[BJ]
theorem J2{l:List Int}(h:wrC l=0):l.length<=4000/\l.any Ae=false:=by
 unfold wrC at h;split at h
 .omega
 .refine ⟨by omega,?_⟩;cases ha:l.any Ae
  .rfl
  .rw[ha]at h;simp at h
theorem MF{l:List Int}(h:wrC l=0)(rest:List UInt8):AP (AD l++rest) 0=l.length/\Aj (AD l++rest) l.length=l:=by
 obtain⟨h4,ha⟩:=J2 h;have e0:AD l++rest=[]++(A4 l.length++(BJ l++A4 (Bm (BB l.length l))++rest)):=by simp[AD,BB,q7]
 refine⟨?_,?_⟩
 .rw[e0];exact LE (by omega) [] _
 .apply jK;intro i;by_cases hi:i<l.length
  .have hr:=MM ha hi;have e1:l=l.take i++l.getD i 0::l.drop (i+1):=by
    have:l.getD i 0=l[i]:=by simp[qC,hi]
    rw[this,yD,q9]
   have e2:BJ l=BJ (l.take i)++(A4 (l.getD i 0).toNat++BJ (l.drop (i+1))):=by
    conv=>lhs;rw[e1]
    rw[Oi];rfl
   have e3:AD l++rest=(A4 l.length++BJ (l.take i))++(A4 (l.getD i 0).toNat++(BJ (l.drop (i+1))++A4 (Bm (BB l.length l))++rest)):=by
    rw[AD,BB,e2];simp only[q7]
   have hp:(A4 l.length++BJ (l.take i)).length=4+4*i:=by rw[qF,EE,Kd,qP];omega
   have hf:=LE (x:=(l.getD i 0).toNat) (by omega) (A4 l.length++BJ (l.take i)) (BJ (l.drop (i+1))++A4 (Bm (BB l.length l))++rest);rw[<-e3,hp]at hf;have:(Aj (AD l++rest) l.length)[i]? = U ((AP (AD l++rest) (4+4*i):Nat):Int):=by simp[Aj,hi]
   rw[this,hf];rw[qH hi];congr 1
   have:l.getD i 0=l[i]:=by simp[qC,hi]
   rw[<-this];omega
  .rw[vF (by rw[DJ];omega),vF (by omega)]
theorem Mr{l:List Int}(h:wrC l=0)(rest:List UInt8):Aa (AD l++rest)=U l:=by
 obtain⟨h1,h2⟩:=MF h rest;obtain⟨h4,_⟩:=J2 h;have hl:(AD l++rest).length=4*l.length+8+rest.length:=by rw[qF,Cy]
 have:=(Mt (d:=AD l++rest) (by omega) (by rw[h1];omega)).1 (by rw[h1,h2];exact⟨h,by rw[jM,jL (by rw[Cy];omega),qQ (by rw[Cy];omega)]⟩);rw[this,h1,h2]
theorem Ki(a b:List (List Int)):AU (a++b)=AU a++AU b:=by simp[AU]
theorem M3{rs:List (List Int)}(hr:∀l∈rs,wrC l=0)(rest:List UInt8):∀k,k<=rs.length->run k (AU rs++rest)=(rs.take k,(AU (rs.take k)).length)
 |0,_=>by simp[run,AU]
 |k+1,hk=>by
  have ih:=M3 hr rest k (by omega);have hlt:k<rs.length:=by omega
  have e1:rs=rs.take k++rs[k]::rs.drop (k+1):=by rw[yD,q9]
  have e2:AU rs++rest=AU (rs.take k)++(AD rs[k]++(AU (rs.drop (k+1))++rest)):=by
   conv=>lhs;rw[e1]
   rw[Ki,show AU (rs[k]::rs.drop (k+1))=AD rs[k]++AU (rs.drop (k+1))from rfl,q7,q7]
  have h:Aa ((AU rs++rest).drop (run k (AU rs++rest)).2)=U rs[k]:=by
   rw[ih];show Aa ((AU rs++rest).drop (AU (rs.take k)).length)=_;rw[e2,yG];exact Mr (hr _ (qT hlt)) _
  rw[EA h,ih];have e3:rs.take (k+1)=rs.take k++[rs[k]]:=by rw[jS];simp[hlt]
  rw[e3,IP,qF,Cy]
theorem JU{rs:List (List Int)}(hr:∀l∈rs,wrC l=0):Au (AU rs)=(rs,(AU rs).length):=by
 have h:=M3 hr [] rs.length (qB _);rw[vN,qQ (qB _)]at h;have hs:Aa ((AU rs).drop (run rs.length (AU rs)).2)=none:=by
  rw[h];show Aa ((AU rs).drop (AU rs).length)=Z;rw[List.drop_length];exact Ms (by decide)
 rw[JX (k:=rs.length) (by have:=Jb (AU rs) rs.length;rw[h]at this⊢;exact this) hs,h]
theorem M4(D:List UInt8):∀k,Aa (D.drop (run k D).2)=Z\/8*(k+1)<=(run (k+1) D).2
 |0=>by
  cases h:Aa (D.drop (run 0 D).2)with
  |none=>exact .inl rfl
  |some l=>exact .inr (by rw[EA h];show 8*1<=0+(4*l.length+8);omega)
 |k+1=>by
  cases h:Aa (D.drop (run (k+1) D).2)with
  |none=>exact .inl rfl
  |some l=>
   refine .inr ?_;rcases M4 D k with h0|h0
   .have e:run (k+1) D=run k D:=Ed h0 1;rw[e,h0]at h;cases h
   .rw[EA h];show 8*(k+1+1)<=(run (k+1) D).2+(4*l.length+8);omega
theorem Tf(D:List UInt8):Aa (D.drop (Au D).2)=none:=by
 rcases M4 D D.length with h|h
 .exact h
 .have:=FF D (D.length+1);omega
theorem T9(D:List UInt8){k:Nat}(hk:D.length<=k):run k D=Au D:=by
 have:=Ed (Tf D) (k-D.length);rw[show D.length+(k-D.length)=k by omega]at this;exact this
theorem M5{l:List Int}(hl:wrC l=0)(D:List UInt8):∀k,run (k+1) (AD l++D)=(l::(run k D).1,4*l.length+8+(run k D).2)
 |0=>by
  have h:Aa ((AD l++D).drop (run 0 (AD l++D)).2)=U l:=by show Aa ((AD l++D).drop 0)=U l;rw[jM];exact Mr hl D
  rw[EA h];show([]++[l],0+(4*l.length+8))=_;simp[run]
 |k+1=>by
  have ih:=M5 hl D k;have e:(AD l++D).drop (run (k+1) (AD l++D)).2=D.drop (run k D).2:=by
   rw[ih];show(AD l++D).drop (4*l.length+8+(run k D).2)=_;rw[<-Cy l,<-yF,yG]
  cases h:Aa (D.drop (run k D).2)with
  |none=>
   have h2:run (k+1+1) (AD l++D)=run (k+1) (AD l++D):=Ed (by rw[e];exact h) 1;have h3:run (k+1) D=run k D:=Ed h 1;rw[h2,ih,h3]
  |some x=>
   rw[EA (by rw[e];exact h),EA h,ih];simp[zR]
theorem Mm{l:List Int}(hl:wrC l=0)(D:List UInt8):Au (AD l++D)=(l::(Au D).1,4*l.length+8+(Au D).2):=by
 have hlen:(AD l++D).length=4*l.length+7+D.length+1:=by rw[qF,Cy];omega
 show run (AD l++D).length (AD l++D)=_;rw[hlen,M5 hl,T9 D (by omega)]
theorem Tn{l:List Int}(hl:wrC l=0){c:Nat}(hc:c<4*l.length+8):Au ((AD l).take c)=([],0):=by
 obtain⟨h1,_⟩:=MF hl [];rw[vN]at h1;have hlen:((AD l).take c).length=c:=by rw[qP,Cy];omega
 have hn:Aa ((AD l).take c)=none:=by
  by_cases h4:c<4
  .exact Ms (by omega)
  .have hf:AP ((AD l).take c) 0=AP (AD l) 0:=by
    unfold AP;have g:∀i,i<c->((AD l).take c).getD i 0=(AD l).getD i 0:=fun i hi=>by simp[qC,hi]
    rw[g 0 (by omega),g (0+1) (by omega),g (0+2) (by omega),g (0+3) (by omega)]
   exact To (by omega) (by rw[hf,h1];omega)
 exact JX (k:=0) (qJ _) (by show Aa (((AD l).take c).drop 0)=Z;rw[jM];exact hn)
theorem Mn:∀ (rs:List (List Int)),(∀ l∈rs,wrC l=0)->∀ c,c <= (AU rs).length->∃ j,j <= rs.length/\(Au ((AU rs).take c)).1=rs.take j/\(j=rs.length↔c=(AU rs).length)
  |[],_,c,hc=>⟨0,qB _,by
      have:c=0:=by simpa[AU]using hc
      subst this;rfl,by simp[AU]at hc⊢;exact hc⟩
  | l:: rs,hr,c,hc=>by
    have e:AU (l::rs)=AD l++AU rs:=rfl;have hl:=hr l (by simp);have hll:=Cy l;by_cases h:c<4*l.length+8
    . refine⟨0,qJ _,?_,?_⟩
      . rw[e,jL (by omega),Tn hl h]
        rfl
      . rw[e,qF,qU]
        omega
    . obtain⟨j,h1,h2,h3⟩:=Mn rs (fun x hx=>hr x (by simp[hx])) (c-(4*l.length+8)) (by rw[e,qF]at hc;omega)
      refine⟨j+1,by simp;omega,?_,?_⟩
      . rw[e,y7,qQ (by omega),hll,Mm hl,h2]
        rfl
      . rw[e,qF,qU,hll]
        omega
theorem M6(D:List UInt8):∀k,D.take (run k D).2=AU (run k D).1/\∀l∈(run k D).1,wrC l=0
 |0=>⟨by simp[run,AU],fun l hl=>by simp[run]at hl⟩
 |k+1=>by
  obtain⟨h1,h2⟩:=M6 D k;cases h:Aa (D.drop (run k D).2)with
  |none=>
   have e:run (k+1) D=run k D:=Ed h 1;rw[e];exact⟨h1,h2⟩
  |some l=>
   obtain⟨g1,_,g3,g4,_⟩:=JY h;rw[EA h];refine⟨?_,fun x hx=>?_⟩
   .show D.take ((run k D).2+(4*l.length+8))=AU ((run k D).1++[l]);rw[xT,h1,IP,g4]
   .rcases List.mem_append.1 hx with hx|hx
    .exact h2 x hx
    .rw[vJ.1 hx];exact g1
theorem Th{rs:List (List Int)}(hr:∀l∈rs,wrC l=0)(rest:List UInt8):∃more,(Au (AU rs++rest)).1=rs++more/\(AU rs).length<=(Au (AU rs++rest)).2:=by
 induction rs with
 |nil=>exact⟨(Au rest).1,by simp[AU],by simp[AU]⟩
 |cons l rs ih=>
  obtain⟨more,h1,h2⟩:=ih (fun x hx=>hr x (by simp[hx]));have e:AU (l::rs)++rest=AD l++(AU rs++rest):=by rw[show AU (l::rs)=AD l++AU rs from rfl,q7]
  have e2:AU (l::rs)=AD l++AU rs:=rfl;rw[e,Mm (hr l (by simp)),e2];refine⟨more,by simp[h1],?_⟩;rw[qF,Cy];show 4*l.length+8+(AU rs).length<=4*l.length+8+(Au (AU rs++rest)).2;omega
open Go.ChangeShapes Go.WideShapes Go.ChangeAt Go.RowKit Go.Deep Go.Maps
open Terms Tm
noncomputable def BR(m:Mo)(ps:List (List (Int×Int)))(l:List (Int×Int))(K:Nat):Gr:=⟨xpP m ps l K,((AC m ps l).length:Nat),xpN m ps l K,xpT m ps l K,((AA l).length:Nat)⟩
section
variable{m:Mo}{ps:List (List (Int×Int))}{l:List (Int×Int)}{K:Nat}
theorem Nq(h:BI m ps l K){i:Nat}(hi:i<K):B7 m ps l i=(xpP m ps l K).getD i (0,0):=
 (Ps (AC m ps l) (BA m ps l) (qS hi) (h.2.2.1 i hi)).symm
theorem J8(h:BI m ps l K){i:Nat}(hi:i<K):(xpP m ps l K).idxOf ((xpP m ps l K).getD i (0,0))=i:=by
 have hnd:(xpP m ps l K).Nodup:=K5 _ _ K;have hl:i<(xpP m ps l K).length:=by rw[h.1];exact hi
 rw[qC,qH hl];exact hnd.idxOf_getElem i hl
theorem V3{K:Nat}:∀{j:Nat},j<K->(xpN m ps l K).getD j []=Ck (xpP m ps l j) (BA m ps l (B7 m ps l j)):=by
 induction K with
 |zero=>intro j h;omega
 |succ K ih=>
  intro j h;rw[xpN,qC];by_cases hj:j<K
  .rw[qX (by rw[DW];exact hj),<-qC];exact ih hj
  .obtain rfl:j=K:=by omega
   rw[vA (by rw[DW];exact qB _),DW];simp
theorem V4{K:Nat}:∀{j:Nat},j<K->(xpT m ps l K).getD j 0=B1 l (AJ m ps (B7 m ps l j).1) (B7 m ps l j).2:=by
 induction K with
 |zero=>intro j h;omega
 |succ K ih=>
  intro j h;rw[xpT,qC];by_cases hj:j<K
  .rw[qX (by rw[Dm];exact hj),<-qC];exact ih hj
  .obtain rfl:j=K:=by omega
   rw[vA (by rw[Dm];exact qB _),Dm];simp
theorem Nk(m:Mo)(ps:List (List (Int×Int)))(l:List (Int×Int)):(AC m ps l).Nodup:=by
 have key:∀k,(CA m ps l k).Nodup:=fun k=>by
  induction k with
  |zero=>simp[CA]
  |succ k ih=>
   rw[CA];split
   .exact ih
   .refine vX.2 ⟨ih,by simp,fun a ha b hb e=>?_⟩;rw[vJ]at hb;subst hb;subst e;obtain⟨_,d,h2,h3,_⟩:=Ht _ ha;simp only at h3;omega
 exact key _
theorem J7(h:BI m ps l K){i:Nat}(hi:i<K):((xpN m ps l K).getD i []).length=(BA m ps l ((xpP m ps l K).getD i (0,0))).length/\∀q,q<(BA m ps l ((xpP m ps l K).getD i (0,0))).length->((xpN m ps l K).getD i []).getD q 0=(((xpP m ps l K).idxOf ((BA m ps l ((xpP m ps l K).getD i (0,0))).getD q (0,0)):Nat):Int)/\(BA m ps l ((xpP m ps l K).getD i (0,0))).getD q (0,0)∈xpP m ps l K:=by
 rw[V3 hi,<-Nq h hi];refine⟨G2 _ _,fun q hq=>?_⟩;have hmem:(BA m ps l (B7 m ps l i)).getD q (0,0)∈xpP m ps l (i+1):=by
  rw[Hu,Ec];refine .inr ?_;rw[qC,qH hq];exact qT _
 have hpre:xpP m ps l (i+1) <+: xpP m ps l K:=Du _ _ hi;refine⟨?_,hpre.subset hmem⟩;rw[MS hq,<-Hu,Gf hpre hmem]
theorem R4(l:List (Int×Int))(letter:List Bool)(c:Int):0<=B1 l letter c/\B1 l letter c<(2:Int)^(AA l).length:=by
 unfold B1;split
 .exact Ly _ _ _
 .exact ⟨by omega,Int.pow_pos (by decide)⟩
theorem Pr(hk:Af m ps l=0)(h:BI m ps l K):GOk (BR m ps l K):=by
 have h6:=(CC (Ba hk).2).2.2.2.2;have hbl:(AC m ps l).length<=(xpP m ps l K).length:=by
  have h1:=(Du (AC m ps l) (BA m ps l) (qJ K)).length_le;have h2:(AC m ps l).length<=(exS (AC m ps l) (BA m ps l) 0).length:=by
   show _<=(AG [] (AC m ps l)).length;have hnd:=JQ (AC m ps l) [] List.nodup_nil;have hsub:AC m ps l ⊆ AG [] (AC m ps l):=fun x hx=>(Ec _ _ _).2 (.inr hx);exact(Nk m ps l).length_le_of_subset hsub
  exact qI h2 h1
 refine⟨⟨by show(xpP m ps l K).length<=_;rw[h.1];exact h.2.1,by show(xpN m ps l K).length=(xpP m ps l K).length;rw[DW,h.1],by show(xpT m ps l K).length=(xpP m ps l K).length;rw[Dm,h.1],by show(0:Int)<=((AC m ps l).length:Nat);omega,by show(((AC m ps l).length:Nat):Int)<=((xpP m ps l K).length:Nat);omega,by show(0:Int)<=((AA l).length:Nat);omega,by show(((AA l).length:Nat):Int)<=6;omega⟩,fun i hi=>?_⟩;have hiK:i<K:=by have:i<(xpP m ps l K).length:=hi;rw[h.1]at this;exact this
 refine⟨?_,fun q hq=>?_⟩
 .unfold Es top;show 0<=(xpT m ps l K).getD i 0/\(xpT m ps l K).getD i 0<=2^(((AA l).length:Nat):Int).toNat-1;rw[V4 hiK];have:=R4 l (AJ m ps (B7 m ps l i).1) (B7 m ps l i).2;rw[Int.toNat_natCast];omega
 .obtain ⟨r1,r2⟩:=J7 h hiK;have hq':q<(BA m ps l ((xpP m ps l K).getD i (0,0))).length:=by rw[<-r1];exact hq
  obtain⟨r3,r4⟩:=r2 q hq';show 0<=((xpN m ps l K).getD i []).getD q 0/\((xpN m ps l K).getD i []).getD q 0<((xpP m ps l K).length:Nat);rw[r3];have:=List.idxOf_lt_length_of_mem r4;omega
end
theorem SpO.ops{w:V}{base:Nat}{v:L}{x:List (Int×Int)}(h:SpO w base v x):OpsV w v x:=by
 rcases h.2 with⟨rfl,h0⟩|⟨g,cap,cur,rfl,hb,hg,hnc,hcm,hcs,htake⟩
 .have:x=[]:=by simpa using h0
  subst this;exact⟨Z,0,rfl,⟨by simp,fun _=>⟨rfl,rfl⟩⟩,fun h=>absurd rfl h⟩
 .refine ⟨_,cap,rfl,⟨hnc,fun h=>by simp at h⟩,fun _=>⟨g,0,rfl,(qG.1 hg).1,fun i hi=>?_⟩⟩;obtain⟨f0,f1⟩:=E2 x i hi;rw[World.ownsRow.cellAt h _ (by omega),World.ownsRow.cellAt h _ (by omega)];simpa using⟨f0,f1⟩
theorem GrX.graph{w:V}{base K:Nat}{m:Mo}{ps:List (List (Int×Int))}{l:List (Int×Int)}{sv nv tv:L}(h:GrX w base m ps l K sv nv tv):GraphV w sv nv tv (BR m ps l K):=by
 obtain⟨h1,⟨us,n1,n2,n3⟩,h3⟩:=h;refine⟨h1.ops,?_,Dz h3⟩;have n1':w.ownsRow base 39 1 nv us.length us:=by rw[n2];exact n1
 refine Re n1' ⟨n2,fun i hi=>?_⟩;obtain⟨ao,c,e1,e2,_,_⟩:=n3 i hi;have e1':us.getD i I6=.slice ao ((xpN m ps l K).getD i []).length c:=e1;rw[e1'];exact e2
def AO(p:Int×Int):Int:=64*p.1+p.2
noncomputable def fN(m:Mo)(ps:List (List (Int×Int)))(l:List (Int×Int))(i:Nat):Nat:=(xpP m ps l i).length
noncomputable def frX(m:Mo)(ps:List (List (Int×Int)))(l:List (Int×Int))(i:Nat):List Int:=((xpP m ps l (i+1)).drop (fN m ps l i)).map AO
noncomputable def rcX(m:Mo)(ps:List (List (Int×Int)))(l:List (Int×Int))(i:Nat):List Int:=(i:Int)::frX m ps l i
noncomputable def rcs(m:Mo)(ps:List (List (Int×Int)))(l:List (Int×Int))(n:Nat):List (List Int):=(List.range n).map (rcX m ps l)
section
variable{m:Mo}{ps:List (List (Int×Int))}{l:List (Int×Int)}{K:Nat}
theorem ET{i j:Nat}(h:i<=j):fN m ps l i<=fN m ps l j:=(Du (AC m ps l) (BA m ps l) h).length_le
theorem GP(h:BI m ps l K){j:Nat}(hj:j<K):j<fN m ps l j:=h.2.2.1 j hj
theorem GQ(h:BI m ps l K):fN m ps l K=K:=h.1
theorem DR(h:BI m ps l K){j:Nat}(hj:j<=K):j<=fN m ps l j/\fN m ps l j<=K:=by
 have h1:=ET (m:=m) (ps:=ps) (l:=l) hj;rw[GQ h]at h1;refine⟨?_,h1⟩;by_cases e:j=K
 .rw[e,GQ h];exact qB _
 .exact qS (GP h (by omega))
theorem MY:∀(a S:List (Int×Int)),(S++a).Nodup->AG S a=S++a
 |[],S,_=>by rw[JP,vN]
 |x::a,S,h=>by
  have hx:x∉S:=fun hm=>by
   have:=(vX.1 h).2.2 x hm x (by simp);exact this rfl
  rw[JO,G3 hx,MY a (S++[x]) (by simpa using h)];simp
theorem Nr:xpP m ps l 0=AC m ps l:=by
 show AG [] (AC m ps l)=_;rw[MY _ _ (by simpa using Nk m ps l)];rfl
theorem GR:fN m ps l 0=(AC m ps l).length:=by unfold fN;rw[Nr]
theorem LF(i:Nat):(frX m ps l i).length=fN m ps l (i+1)-fN m ps l i:=by unfold frX fN;simp
theorem Fs(i:Nat):(rcX m ps l i).length=fN m ps l (i+1)-fN m ps l i+1:=by unfold rcX;rw[qU,LF]
theorem Dj(n:Nat):(rcs m ps l n).length=n:=by simp[rcs]
theorem Mj{n k:Nat}(h:k<=n):(rcs m ps l n).take k=rcs m ps l k:=by
 unfold rcs;rw[<-List.map_take,List.take_range,jR h]
theorem Td(n:Nat):rcs m ps l (n+1)=rcs m ps l n++[rcX m ps l n]:=by unfold rcs;rw[xI,vY];rfl
theorem Tc{n i:Nat}(h:i<n):(rcs m ps l n).getD i []=rcX m ps l i:=by simp[rcs,qC,h]
noncomputable def byX(m:Mo)(ps:List (List (Int×Int)))(l:List (Int×Int))(n:Nat):List UInt8:=AU (rcs m ps l n)
theorem Kh(n:Nat):byX m ps l (n+1)=byX m ps l n++AD (rcX m ps l n):=by unfold byX;rw[Td,IP]
theorem Kg(h:BI m ps l K):∀n,n<=K->(byX m ps l n).length=12*n+4*(fN m ps l n-fN m ps l 0)
 |0,_=>by simp[byX,rcs,AU]
 |n+1,hn=>by
  have h1:=ET (m:=m) (ps:=ps) (l:=l) (Nat.le_add_right n 1);have h2:=ET (m:=m) (ps:=ps) (l:=l) (qJ n);rw[Kh,qF,Kg h n (by omega),Cy,Fs];omega
theorem GF{s n:Nat}(h:s<=n):∃more,byX m ps l n=byX m ps l s++more:=by
 refine⟨AU ((rcs m ps l n).drop s),?_⟩;unfold byX;rw[<-Ki,<-Mj h,q9]
theorem Hf(hk:Af m ps l=0){p:Int×Int}(h:Bl m l p):0<=p.2/\p.2<64/\0<=p.1/\p.1<AK m.vars m.vars.length:=by
 have h6:=(CC (Ba hk).2).2.2.2.2;obtain⟨⟨h1,h2⟩,d,h3,h4⟩:=h;have h7:2^(AA l).length<=2^6:=Nat.pow_le_pow_right (by decide) (by omega);exact⟨by omega,by omega,h1,h2⟩
theorem RI(hk:Af m ps l=0){p q:Int×Int}(hp:Bl m l p)(hq:Bl m l q)(e:AO p=AO q):p=q:=by
 have h1:=Hf hk hp;have h2:=Hf hk hq;unfold AO at e;exact Prod.ext (by omega) (by omega)
structure SmallK(m:Mo)(ps:List (List (Int×Int)))(l:List (Int×Int))(K:Nat):Prop where
 code:Af m ps l=0
 done:BI m ps l K
 few:K<=1000
 states:AK m.vars m.vars.length<=10000
theorem SmallK.spot(h:SmallK m ps l K){i:Nat}(hi:i<K):Bl m l ((xpP m ps l K).getD i (0,0)):=by
 refine h.done.2.2.2 _ ?_;rw[qC,qH (by rw[h.done.1];exact hi)];exact qT _
theorem SmallK.key(h:SmallK m ps l K){p:Int×Int}(hp:Bl m l p):0<=AO p/\AO p<640000:=by
 have h1:=Hf h.code hp;have h2:=h.states;unfold AO;omega
theorem SmallK.pre(h:SmallK m ps l K){n:Nat}(hn:n<=K):∀p∈xpP m ps l n,Bl m l p:=fun p hp=>h.done.2.2.2 p ((Du (AC m ps l) (BA m ps l) hn).subset hp)
theorem SmallK.rc(h:SmallK m ps l K){i:Nat}(hi:i<K):wrC (rcX m ps l i)=0:=by
 have h1:=(DR h.done (j:=i+1) hi).2;have h2:=h.few;refine J1 (by rw[Fs];omega) ?_;rw[Bool.eq_false_iff];intro e;rw[vC]at e;obtain⟨x,hx,ho⟩:=e;have hr:0<=x/\x<=2147483647:=by
  unfold rcX frX at hx;rcases List.mem_cons.1 hx with rfl|hx
  .omega
  .obtain ⟨p,hp,rfl⟩:=vI.1 hx;have:=h.key (h.pre hi p (List.mem_of_mem_drop hp));omega
 simp[Ae]at ho;omega
theorem SmallK.rcs(h:SmallK m ps l K){n:Nat}(hn:n<=K):∀r∈rcs m ps l n,wrC r=0:=fun r hr=>by
 obtain⟨i,hi,rfl⟩:=vI.1 hr;exact h.rc (by have:=vE.1 hi;omega)
theorem SmallK.bytes(h:SmallK m ps l K){n:Nat}(hn:n<=K):(byX m ps l n).length<=16000:=by
 rw[Kg h.done n hn];have:=(DR h.done hn).2;have:=h.few;omega
noncomputable def Cs(m:Mo)(ps:List (List (Int×Int)))(l:List (Int×Int))(n s keep:Nat):Nat:=(Au ((byX m ps l n).take ((byX m ps l s).length+min keep ((byX m ps l n).length-(byX m ps l s).length)))).1.length
theorem SmallK.cut(h:SmallK m ps l K){n s:Nat}(hn:n<=K)(hs:s<=n)(keep:Nat) :
  s<=Cs m ps l n s keep/\Cs m ps l n s keep<=n/\(keep=0->Cs m ps l n s keep=s)/\(16000<=keep->Cs m ps l n s keep=n)/\
  Au ((byX m ps l n).take ((byX m ps l s).length+min keep ((byX m ps l n).length-(byX m ps l s).length)))=(Go.Proofs.YtjldkfiabgagiaaGreatDoor.rcs m ps l (Cs m ps l n s keep),(byX m ps l (Cs m ps l n s keep)).length)/\
  ((byX m ps l n).take ((byX m ps l s).length+min keep ((byX m ps l n).length-(byX m ps l s).length))).take (byX m ps l (Cs m ps l n s keep)).length=byX m ps l (Cs m ps l n s keep):=by
 obtain⟨more,hm⟩:=GF (m:=m) (ps:=ps) (l:=l) hs;have hle:(byX m ps l s).length<=(byX m ps l n).length:=by rw[hm,qF];omega
 obtain⟨c,hc⟩:∃c,c=(byX m ps l s).length+min keep ((byX m ps l n).length-(byX m ps l s).length):=⟨_,rfl⟩;have hcs:(byX m ps l s).length<=c:=by omega
 have hcn:c<=(byX m ps l n).length:=by omega
 obtain⟨j,hj,hr,hj2⟩:=Mn _ (h.rcs hn) c hcn;rw[Dj]at hj hj2;have hlen:Cs m ps l n s keep=j:=by
  unfold Cs;rw[<-hc];show(Au ((AU (Go.Proofs.YtjldkfiabgagiaaGreatDoor.rcs m ps l n)).take c)).1.length=j;rw[hr,qP,Dj];omega
 have hrj:(Au ((byX m ps l n).take c)).1=Go.Proofs.YtjldkfiabgagiaaGreatDoor.rcs m ps l j:=by
  show(Au ((AU (Go.Proofs.YtjldkfiabgagiaaGreatDoor.rcs m ps l n)).take c)).1=_;rw[hr,Mj hj]
 obtain⟨t1,t2⟩:=M6 ((byX m ps l n).take c) ((byX m ps l n).take c).length;have t1':((byX m ps l n).take c).take (Au ((byX m ps l n).take c)).2=AU (Au ((byX m ps l n).take c)).1:=t1;rw[hrj]at t1';have hl2:(Au ((byX m ps l n).take c)).2=(byX m ps l j).length:=by
  have h1:=congrArg List.length t1';have h2:(Au ((byX m ps l n).take c)).2<=((byX m ps l n).take c).length:=FF _ _;rw[qP]at h1;show _=(AU (Go.Proofs.YtjldkfiabgagiaaGreatDoor.rcs m ps l j)).length;omega
 rw[hlen,<-hc];have hsj:s<=j:=by
  have e:(byX m ps l n).take c=AU (Go.Proofs.YtjldkfiabgagiaaGreatDoor.rcs m ps l s)++more.take (c-(byX m ps l s).length):=by
   rw[hm,y7];congr 1
   exact qQ hcs
  obtain⟨mo2,h3,_⟩:=Th (h.rcs (qI hs hn)) (more.take (c-(byX m ps l s).length));rw[<-e,hrj]at h3;have h4:=congrArg List.length h3;rw[qF,Dj,Dj]at h4;omega
 refine⟨hsj,hj,fun h0=>?_,fun h0=>?_,?_,?_⟩
 .have e:(byX m ps l n).take c=AU (Go.Proofs.YtjldkfiabgagiaaGreatDoor.rcs m ps l s):=by
   rw[hm,jL (by omega),qQ (by omega)];rfl
  have h3:=JU (h.rcs (qI hs hn));rw[<-e]at h3;have h4:=congrArg (fun z=>z.1.length) h3;simp only at h4;rw[hrj,Dj,Dj]at h4;exact h4
 .have:=h.bytes hn;exact hj2.2 (show c=(byX m ps l n).length by omega)
 .exact Prod.ext hrj hl2
 .rw[<-hl2];exact t1'
end
structure Sr where
 up:Bool
 n:Nat
 s:Nat
 mx:Nat
 ag:Nat
def sr0:Sr:=⟨true,0,0,0,0⟩
def wkS(K:Nat)(st:Sr)(k:Nat):Sr:=⟨st.up,min (st.n+k) K,st.s,max st.mx (min (st.n+k) K),st.ag+(min (min (st.n+k) K) st.mx-st.n)⟩
section
variable(m:Mo)(ps:List (List (Int×Int)))(l:List (Int×Int))(K:Nat)
noncomputable def crS(st:Sr)(k:Nat):Sr:=⟨I,Cs m ps l st.n st.s k,Cs m ps l st.n st.s k,st.mx,st.ag⟩
noncomputable def mvS(st:Sr)(v:Int×Int):Sr:=
 if v.1=4 then{ st with up:=true}else if st.up=I then st else if v.1=1 then wkS K st v.2.toNat else if v.1=2 then{ st with s:=st.n}else crS m ps l st v.2.toNat
noncomputable def AX(vs:List (Int×Int)):Sr:=vs.foldl (mvS m ps l K) sr0
structure SrOk(st:Sr):Prop where
 a:st.s<=st.n
 b:st.n<=st.mx
 c:st.mx<=K
end
section
variable{m:Mo}{ps:List (List (Int×Int))}{l:List (Int×Int)}{K:Nat}
theorem SrOk.start:SrOk K sr0:=⟨qB _,qB _,qJ _⟩
theorem SrOk.wk{st:Sr}(h:SrOk K st)(k:Nat):SrOk K (wkS K st k):=by
 obtain⟨a,b,c⟩:=h;exact⟨by show st.s<=min (st.n+k) K;omega,by show min (st.n+k) K<=max st.mx (min (st.n+k) K);omega,by show max st.mx (min (st.n+k) K)<=K;omega⟩
theorem SrOk.mv(hs:SmallK m ps l K){st:Sr}(h:SrOk K st)(v:Int×Int):SrOk K (mvS m ps l K st v):=by
 unfold mvS;split
 .exact ⟨h.a,h.b,h.c⟩
 split
 .exact h
 split
 .exact h.wk _
 split
 .exact ⟨qB _,h.b,h.c⟩
 .obtain ⟨c1,c2,_⟩:=hs.cut (qI h.b h.c) h.a v.2.toNat;exact⟨qB _,qI c2 h.b,h.c⟩
theorem SrOk.run(hs:SmallK m ps l K)(vs:List (Int×Int)):∀{st:Sr},SrOk K st->SrOk K (vs.foldl (mvS m ps l K) st):=by
 induction vs with
 |nil=>exact fun h=>h
 |cons v vs ih=>exact fun h=>ih (h.mv hs v)
theorem SrOk.all(hs:SmallK m ps l K)(vs:List (Int×Int)):SrOk K (AX m ps l K vs):=SrOk.start.run hs vs
theorem M1(a b:List (Int×Int)):AX m ps l K (a++b)=b.foldl (mvS m ps l K) (AX m ps l K a):=by unfold AX;rw[List.foldl_append]
theorem Ja(a:List (Int×Int))(v:Int×Int):AX m ps l K (a++[v])=mvS m ps l K (AX m ps l K a) v:=M1 a [v]
theorem Vn{st:Sr}(h:SrOk K st)(x y:Nat):wkS K (wkS K st x) y=wkS K st (x+y):=by
 obtain⟨a,b,c⟩:=h;obtain⟨u,n,s,mx,ag⟩:=st;simp only at a b c;simp only[wkS,Sr.mk.injEq,true_and];refine⟨by omega,by omega,by omega⟩
end
noncomputable def dnS(m:Mo)(ps:List (List (Int×Int)))(l:List (Int×Int))(st:Sr):Bool:=st.up&&decide (fN m ps l st.n<=st.n)
section
variable{m:Mo}{ps:List (List (Int×Int))}{l:List (Int×Int)}{K:Nat}
end
theorem RA(l:List Int):(AB l).length=l.length:=by simp[AB]
theorem Fg(l m:List Int):AB (l++m)=AB l++AB m:=by simp[AB]
theorem IntsAt.below{B b off:Nat}{l:List Int}{w w':V}(h:IntsAt w b off l)(hb:T B w w')(hB:b<B):IntsAt w' b off l:=fun i hi=>(hb.cell (p:=⟨b,_,Z⟩) hB).trans (h i hi)
def IntsVU(w:V)(v:L)(l:List Int):Prop:=∃ao cap,v=.slice ao l.length cap/\(l.length<=cap/\(ao=Z->cap=0/\l=[]))/\(l≠[]->∃b off,ao=U ⟨b,off,Z⟩/\b<w.heap.size/\IntsAt w b off l)
theorem IntsVU.below{w w':V}{v:L}{l:List Int}(h:IntsVU w v l)(hb:T w.heap.size w w'):IntsVU w' v l:=by
 obtain⟨ao,cap,rfl,h0,h⟩:=h;refine⟨ao,cap,rfl,h0,fun hne=>?_⟩;obtain⟨b,off,rfl,hlt,hat⟩:=h hne;exact⟨b,off,rfl,qE hlt hb.size,hat.below hb hlt⟩
theorem Im(w:V):IntsVU w (X Z 0 0) []:=⟨Z,0,rfl,⟨qB _,fun _=>⟨rfl,rfl⟩⟩,fun h=>absurd rfl h⟩
theorem IntsVU.shape{w:V}{v:L}{l:List Int}(h:IntsVU w v l):∃ao cap,v=.slice ao l.length cap:=by
 obtain⟨ao,cap,rfl,_⟩:=h;exact⟨_,_,rfl⟩
theorem IntsAt.cells{w:V}{b off:Nat}{l:List Int}(h:IntsAt w b off l):∀j u,(AB l)[j]? = U u->w.cell? ((⟨b,off,Z⟩:Addr).add j)=U u:=by
 intro j u hj;have hlt:j<l.length:=by have:=(vM.1 hj).1;simpa[AB]using this
 rw[Go.WideShapes.add_plain,h j hlt];simp[AB,hlt]at hj;simp[qC,hlt,hj]
theorem IntsVU.cells{w:V}{a:Addr}{cap:Nat}{l:List Int}(h:IntsVU w (.slice (U a) l.length cap) l):∀j u,(AB l)[j]? = U u->w.cell? (a.add j)=U u:=by
 intro j u hj;have hlt:j<l.length:=by have:=(vM.1 hj).1;simpa[AB]using this
 obtain⟨ao,c,e,_,h⟩:=h;obtain⟨b,off,e2,_,hat⟩:=h (by intro h;subst h;simp at hlt);simp at e;obtain rfl:=Option.some.inj (e.1.trans e2);exact hat.cells j u hj
theorem Io{w:V}{base:Nat}{v:L}{l:List Int}(h:w.ownsRow base 3 1 v l.length (AB l)):IntsVU w v l:=by
 rcases h.2 with⟨rfl,h0⟩|⟨g,cap,cur,rfl,hb,hg,hnc,hcm,hcs,htake⟩
 .have:l=[]:=by simpa using h0
  subst this;exact Im w
 .refine ⟨_,cap,rfl,⟨hnc,fun h=>by simp at h⟩,fun _=>⟨g,0,rfl,(qG.1 hg).1,fun i hi=>?_⟩⟩;rw[qV,h.cellAt i (by omega)];simp[AB,qC,hi]
theorem IntsVU.at{w:V}{ao:Option Addr}{cap n:Nat}{l:List Int}(h:IntsVU w (X ao n cap) l){i:Nat}(hi:i<l.length):∃b off,ao=U ⟨b,off,Z⟩/\b<w.heap.size/\l.length<=cap/\IntsAt w b off l:=by
 obtain⟨ao',cap',hv,⟨hc,_⟩,h3⟩:=h;injection hv with e1 e2 e3;subst e1 e3;obtain⟨b,off,e,hlt,hat⟩:=h3 (by rintro rfl;simp at hi);exact⟨b,off,e,hlt,hc,hat⟩
def LisVU(w:V)(v:L)(rs:List (List Int)):Prop:=∃(us:List L) (ao:Option Addr) (cap:Nat),v=.slice ao rs.length cap/\(rs.length<=cap/\(ao=Z->cap=0/\rs=[]))/\us.length=rs.length/\(∀i,i<rs.length->IntsVU w (us.getD i DH) (rs.getD i []))/\(rs≠[]->∃b off,ao=U ⟨b,off,Z⟩/\b<w.heap.size/\∀i,i<rs.length->w.cell? ⟨b,off+i,Z⟩=U (us.getD i DH))
theorem LisVU.below{w w':V}{v:L}{rs:List (List Int)}(h:LisVU w v rs)(hb:T w.heap.size w w'):LisVU w' v rs:=by
 obtain⟨us,ao,cap,rfl,h0,h1,h2,h3⟩:=h;refine⟨us,ao,cap,rfl,h0,h1,fun i hi=>(h2 i hi).below hb,fun hne=>?_⟩;obtain⟨b,off,rfl,hlt,hat⟩:=h3 hne;exact⟨b,off,rfl,qE hlt hb.size,fun i hi=>(hb.cell (p:=⟨b,_,Z⟩) hlt).trans (hat i hi)⟩
theorem LisVU.nil(w:V):LisVU w (X Z 0 0) []:=⟨[],Z,0,rfl,⟨qB _,fun _=>⟨rfl,rfl⟩⟩,rfl,fun i hi=>by simp at hi,fun h=>absurd rfl h⟩
theorem LisVU.at{w:V}{ao:Option Addr}{cap n:Nat}{rs:List (List Int)}(h:LisVU w (X ao n cap) rs){i:Nat}(hi:i<rs.length):∃b off,ao=U ⟨b,off,Z⟩/\b<w.heap.size/\∃u,w.cell? ⟨b,off+i,Z⟩=U u/\IntsVU w u (rs.getD i []):=by
 obtain⟨us,ao',cap',hv,h0,h1,h2,h3⟩:=h;injection hv with e1 e2 e3;subst e1;obtain⟨b,off,e,hlt,hat⟩:=h3 (by rintro rfl;simp at hi);exact⟨b,off,e,hlt,_,hat i hi,h2 i hi⟩
theorem LisO.v{w:V}{base:Nat}{v:L}{rs:List (List Int)}(h:LisO w base v rs):LisVU w v rs:=by
 obtain⟨us,h1,h2,h3⟩:=h;rcases h1.2 with⟨rfl,h0⟩|⟨g,cap,cur,rfl,hb,hg,hnc,hcm,hcs,htake⟩
 .have:rs=[]:=by simpa using h0
  subst this;exact LisVU.nil w
 .refine ⟨us,_,cap,rfl,⟨hnc,fun h=>by simp at h⟩,h2,fun i hi=>Io (h3 i hi),fun _=>⟨g,0,rfl,(qG.1 hg).1,fun i hi=>?_⟩⟩;rw[qV,h1.cellAt i (by omega)];simp[qC,show i<us.length by omega]
theorem S6{w:V}{base:Nat}{e:TypeId}{s n:Nat}{v:L}{xs:List L}{p:Addr}(h:w.ownsRow base e s v n xs)(hp:p.block<base)(u:L):(w.setCell p u).ownsRow base e s v n xs:=by
 obtain⟨h1,h2⟩:=h;refine⟨h1,?_⟩;rcases h2 with h2|⟨g,cap,cur,hv,hg,hh,r⟩
 .exact .inl h2
 .refine .inr ⟨g,cap,cur,hv,hg,?_,r⟩;exact(Below.heap_setCell w p u g (by omega)).trans hh
def Bw(w1:V)(b:Nat)(y0 y1:L):Prop:=Bc w1 b y0 y1/\w1.frozen? ⟨b,0,Z⟩=I/\w1.frozen? ⟨b,1,Z⟩=I
theorem Bw.later{w1 w2:V}{b:Nat}{y0 y1:L}(h:Bw w1 b y0 y1)(hb:T w1.heap.size w1 w2):Bw w2 b y0 y1:=
 ⟨h.1.later hb,(hb.frozen (p:=⟨b,0,Z⟩) h.1.1).trans h.2.1,(hb.frozen (p:=⟨b,1,Z⟩) h.1.1).trans h.2.2⟩
theorem Bw.new(w:V)(y0 y1:L)(t:TypeId):Bw (w.alloc (O #[y0,y1] t)) w.heap.size y0 y1:=by
 refine⟨(Bc.arg w y0 y1 t).2,?_,?_⟩<;>simp[go_sem]
section
variable{H:Type}{enc:TypeId×L -> H}{W:V}
end
