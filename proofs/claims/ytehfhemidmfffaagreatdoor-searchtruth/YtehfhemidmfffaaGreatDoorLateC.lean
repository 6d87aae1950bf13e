/- Joined texts. -/
import Derived.Test.YtehfhemidmfffaaGreatDoorLateB
import Derived.Shelf.Slices.Clone
open Go renaming World→T,Value→Q,Calls→I
open Go.Ending renaming returned→O
open Go.IntKind renaming i64→U
open Go.Obj renaming cells→H
open Go.RowKit renaming Below→V,Hid→S
open Go.Value renaming slice→X,agg→F,tuple→K,pointer→J,int→E
open _root_.Bool renaming false→G
open _root_.Option renaming none→Y,some→W
namespace Go.Proofs.YtehfhemidmfffaaGreatDoor
open _root_.Array renaming getElem?_eq_some_iff→qG
open Go.RowKit.Below renaming refl→qD
open _root_.List renaming any_eq_false→xP,append_inj→kK,ext_getElem?→jN,filterMap_append→yP,getD_eq_getElem?_getD→qC,getElem_take→kC,length_append→qF,length_cons→qY,length_eq_zero_iff→jH,length_map→qM,length_nil→vG,length_range→vB,length_take→qP,mem_iff_getElem→xE,take_succ_eq_append_getElem→qT
open _root_.Nat renaming eq_zero_or_pos→jG,le_refl→qB,le_succ→vE,le_trans→qI,lt_of_lt_of_le→qE,lt_succ_self→qZ,pow_le_pow_right→vK,zero_add→qV,zero_le→qJ
open Go.Proofs.Tryz renaming prog→qA
open Go.ChangeShapes Go.WideShapes Go.ChangeAt Go.RowKit Go.Deep
open Terms Tm
open Go.Proofs.Tryz renaming func114→fq,func122→fu,func150→fx,func31→fy,func61→fA,func85→fB,ntmps114→fC,ntmps122→fD,ntmps150→fE,ntmps31→fF,ntmps61→fG,ntmps85→fH,results114→fJ,results61→fK,results85→fL,underlying3→bI,underlying43→aD,underlying72→fM
open World renaming cell?_of_block→eJ,cell?_setCell_other→bM,frozen?_of_block→fO,rowIs_made→eL
open _root_.List renaming length→aM,range→aE
open Go.Addr renaming mk→A
set_option maxHeartbeats 6400000
set_option maxRecDepth 20000
theorem QC(s:Nat)(x:Int)(v0 v1:Q)(w:T)(hc0:w.cell? (A s 0 Y)=W v0)(hc1:w.cell? ⟨s+1,0,Y⟩=W v1)(hz0:w.frozen? (A s 0 Y)=G)(hz1:w.frozen? ⟨s+1,0,Y⟩=G) :
  CallsD qA 114 #[J (W (A s 0 Y)),J (W ⟨s+1,0,Y⟩)] (.panicking [{ v:=.iface 46 (.int U x),recovered:=G}]) w fun e u' w'=>
   e=O (K #[])/\u'=.panicking [{ v:=.iface 46 (.int U x),recovered:=true}]/\w'=((w.setCell (A s 0 Y) (.int U 0)).setCell ⟨s+1,0,Y⟩ (.int U x)).drew:=by
 have hta:∀w:T,(Instr.typeAssert (.iface 46 (.int U x)) 20 46 G).run qA w=.ok (.int U x) w:=fun _=>by kernel_rfl
 refine callsD_of_wpS fq rfl fun c₀ cs hu=>?_;rw[fC];show Code.wpS _ _ _ { tmps:=#[J (W (A s 0 Y)),J (W ⟨s+1,0,Y⟩),undef,undef,undef,undef,undef,undef],defers:=[]} _ _;apply wpS_seq;apply wpS_region;simp[wpOpsS,go_sem,recoverD,hu,Exit.thenS];refine wpS_of_wp ?_;go_wp2;go_region
 go_wp2;simp[bodyPostS,results,fJ]
theorem Is(s:Nat)(w:T) :
  CallsD qA 114 #[J (W (A s 0 Y)),J (W ⟨s+1,0,Y⟩)] .returning w fun e u' w'=>
   e=O (K #[])/\u'=.returning/\w'=w:=by
 refine callsD_of_wpS fq rfl fun c₀ cs hu=>?_;rw[fC];show Code.wpS _ _ _ { tmps:=#[J (W (A s 0 Y)),J (W ⟨s+1,0,Y⟩),undef,undef,undef,undef,undef,undef],defers:=[]} _ _;apply wpS_seq;apply wpS_region;simp[wpOpsS,go_sem,recoverD,hu,Exit.thenS];refine wpS_of_wp ?_;go_wp2;cases c₀
 simp_all[bodyPostS,results,fJ]
def Cv(env:List Int):Bool:=env.any fun x=>decide (¬(-1000000<=x/\x<=1000000))
def GX(l:am)(t:Tm)(env:List Int):Int:=
 if A5 env.length l t≠0 then 0 else if Cv env=true then 0 else match t.eval env with
  |some x=>x
  |none=>0
def GW(l:am)(t:Tm)(env:List Int):Int:=
 if A5 env.length l t≠0 then A5 env.length l t else if Cv env=true then 2 else match t.eval env with
  |some _=>0
  |none=>8
theorem QH{env:List Int}(h:Cv env=G):EnvOk env:=fun i hi=>by
 unfold Cv at h;rw[xP]at h;have:=h (env.getD i 0) (by simp[qC,hi]);generalize env.getD i 0=x at *;simp at this
 omega
theorem QI{env:List Int}(h:∀j,j<env.length->-1000000<=env.getD j 0/\env.getD j 0<=1000000):Cv env=false:=by
 unfold Cv;rw[xP];intro x hx;obtain⟨i,hi,rfl⟩:=List.getElem_of_mem hx;have:=h i hi;simp[qC,hi]at this;simp;omega
theorem QG{env:List Int}{i:Nat}(hi:i<env.length)(h:¬(-1000000<=env.getD i 0/\env.getD i 0<=1000000)):Cv env=true:=by
 unfold Cv;rw[List.any_eq_true];refine⟨env[i],List.getElem_mem hi,?_⟩;simp[qC,hi]at h;simp;omega
def e0(w:T):World:=(w.alloc (H #[E U 0] 3)).alloc (H #[E U 0] 46)
theorem Ir(w:T):V w.heap.size w (e0 w):=(ai).alloc (by simp) _
theorem LB(w:T){w':T}(h:V (e0 w).heap.size (e0 w) w') :
  w'.cell? (A w.heap.size 0 Y)=W (.int U 0)/\w'.cell? ⟨w.heap.size+1,0,Y⟩=W (.int U 0)/\w'.frozen? (A w.heap.size 0 Y)=G/\w'.frozen? ⟨w.heap.size+1,0,Y⟩=G/\w.heap.size+1<w'.heap.size/\V w.heap.size w w':=by
 have hs:=h.size;have hz:(e0 w).heap.size=w.heap.size+1+1:=by simp[e0]
 refine⟨?_,?_,?_,?_,by omega,(Ir w).trans (h.mono (Ir w).size)⟩
 .rw[h.cell (p:=(A w.heap.size 0 Y)) (by simp only;omega)];simp[e0,go_sem]
 .rw[h.cell (p:=⟨w.heap.size+1,0,Y⟩) (by simp only;omega)];simp[e0,go_sem]
 .rw[h.frozen (p:=(A w.heap.size 0 Y)) (by simp only;omega)];simp[e0,go_sem]
 .rw[h.frozen (p:=⟨w.heap.size+1,0,Y⟩) (by simp only;omega)];simp[e0,go_sem]
theorem QN(ao:Option Addr)(n cap:Nat)(eao:Option Addr)(en ecap:Nat)(x:Int)(w:T)(hx:x≠0)
  (heo:I qA 115 #[X ao n cap,.int U en] (e0 w) fun e w''=>e=O (K #[X Y 0 0,.int U x])/\V (e0 w).heap.size (e0 w) w'') :
  I qA 85 #[X ao n cap,X eao en ecap] w fun e w'=>e=O (K #[E U 0,.int U x])/\V w.heap.size w w':=by
 have hmf:=Fm;go_enter_defers fB,fH;go_wp2_with (go_at_call 115;refine heo.mono ?_;rintro e w2 ⟨rfl,hb2⟩;obtain⟨c0,c1,f0,f1,hsz,hbw⟩:=LB w hb2)
 go_region
 all_goals go_wp2_with fail
 all_goals
  refine leaves_cons (f:=114) (args:=#[J (W (A w.heap.size 0 Y)),J (W ⟨w.heap.size+1,0,Y⟩)]) (by simp) (by simp[go_sem]) ?_;refine(Is w.heap.size _).mono ?_;rintro e u' w'' ⟨rfl,rfl,rfl⟩;simp[Leaves,settle,results,fL,go_sem,c0,c1];first
   |exact(((hbw.setCell (p:=⟨w.heap.size+1,0,Y⟩) (by simp) _).drew).setCell (p:=(A w.heap.size 0 Y)) (qB _) _).setCell (p:=⟨w.heap.size+1,0,Y⟩) (by simp) _
   |exact(((hbw.setCell (p:=⟨w.heap.size+1,0,Y⟩) (by simp) _).drew).setCell (p:=⟨w.heap.size+1,0,Y⟩) (by simp) _).setCell (p:=(A w.heap.size 0 Y)) (qB _) _
noncomputable def exN(l:am)(env:List Int):Int:=GX l (C0 l) env
noncomputable def exC(l:am)(env:List Int):Int:=GW l (C0 l) env
noncomputable def CY(l:am)(env:List Int):Bool:=decide (exC l env=0)&&decide (exN l env=1)
noncomputable def Cn(env:List Int)(sets:List St):Nat->List Int
 |0=>env
 |k+1=>(Cn env sets k).set (sets.getD k st0).var.toNat (exN (sets.getD k st0).val env)
theorem Jy(env:List Int)(sets:List St)(k:Nat):(Cn env sets k).length=env.length:=by
 induction k with
 |zero=>rfl
 |succ k ih=>simp[Cn,ih]
noncomputable def B0(env:List Int)(r:Ru):List Int:=Cn env r.sets r.sets.length
def Jz(env:List Int)(r:Ru):Prop:=∀j,j<r.sets.length->exC (r.sets.getD j st0).val env=0
open Classical in
noncomputable def BZ(vars:List Vr)(env:List Int)(r:Ru):Option Int:=
 if CY r.guard env=true/\Jz env r/\∀i,i<vars.length->inB vars (B0 env r) i then W (Bn vars (B0 env r) vars.length)else Y
def G9:Option Int->Int
 |some x=>x
 |none=>0
def G8:Option Int->Int
 |some _=>0
 |none=>11
theorem Uk{vars:List Vr}{env:List Int}{r:Ru}(h:CY r.guard env=G):BZ vars env r=none:=by
 unfold BZ;rw[ak (fun h2=>by rw[h]at h2;cases h2.1)]
theorem Ul{vars:List Vr}{env:List Int}{r:Ru}{j:Nat}(hj:j<r.sets.length)(h:exC (r.sets.getD j st0).val env≠0):BZ vars env r=none:=by
 unfold BZ;rw[ak (fun h2=>h (h2.2.1 j hj))]
theorem Uj{vars:List Vr}{env:List Int}{r:Ru}(h1:CY r.guard env=true)(h2:Jz env r)(hl:env.length=vars.length){m:Mo}(hm:mcode m=0)(hv:m.vars=vars) :
  (B3 m (B0 env r)=0->BZ vars env r=W (Cg m (B0 env r)))/\(B3 m (B0 env r)≠0->BZ vars env r=Y):=by
 have hb:(B0 env r).length=m.vars.length:=by unfold B0;rw[Jy,hl,hv]
 subst hv;by_cases hin:∀i,i<m.vars.length->inB m.vars (B0 env r) i
 .have hc:=Kw hm ⟨hb,hin⟩;refine⟨fun _=>?_,fun h=>absurd hc h⟩;unfold BZ;rw[aj ⟨h1,h2,hin⟩];unfold Cg;rw[aj hc]
 .have hc:=Ii hm (vals:=B0 env r) (fun h=>hin h.2);refine⟨fun h=>(by rw[hc]at h;cases h),fun _=>?_⟩;unfold BZ;rw[ak (fun h=>hin h.2.2)]
theorem Un{vars:Int}{r:Ru}(h:BH vars r=0):r.sets.length<=6/\∀j,j<r.sets.length->0<=(r.sets.getD j st0).var/\(r.sets.getD j st0).var<vars:=by
 unfold BH at h;split at h
 .simp at h
 .rename_i h6;refine⟨by omega,fun j hj=>?_⟩;split at h
  .have h1:=Iu h j hj;unfold sAt at h1;split at h1
   .simp at h1
   .rename_i h2;omega
  .rename_i h2;exact absurd h h2
theorem Sb{m:Mo}(h:mcode m=0):m.rules.length<=12/\∀j,j<m.rules.length->BH m.vars.length (m.rules.getD j ru0)=0:=by
 unfold mcode at h;split at h
 .split at h
  .simp at h
  .rename_i h1;exact⟨by omega,Iu h⟩
 .rename_i h0;exact absurd h h0
theorem ME{m:Mo}(h:mcode m=0):mcode ⟨m.vars,[]⟩=0:=by
 have hv:vcode m.vars=0:=by
  unfold mcode at h;split at h
  .assumption
  .rename_i h0;exact absurd h h0
 unfold mcode;rw[aj hv];rfl
theorem KF(l:List Vr)(c:Int):(BA l c).length=l.length:=by simp[BA]
open Go.Shelf Go.RowKit Go.Lib
def R2:Go.Shelf.Ren:=⟨fun|15=>173|n=>n,fun|22=>43|3=>3|4=>4|n=>n,fun|n=>n⟩
theorem R1:Go.Proofs.Lays2.n15 qA R2:={
 mixed:=by kernel_rfl
 f15:=Tryz.func173.trans (congrArg W (by kernel_rfl))
 t3:=bI
 a3:=Tryz.isAgg3
 z3:=Tryz.sizeOf3
 v3:=Tryz.zeroValue3
 t4:=Tryz.underlying4
 a4:=Tryz.isAgg4
 z4:=Tryz.sizeOf4
 v4:=Tryz.zeroValue4
 t22:=aD
 a22:=Tryz.isAgg43
 z22:=Tryz.sizeOf43
 v22:=Tryz.zeroValue43
 i3:=by kernel_rfl}
theorem Pp(B:Nat)(l:List Int)(w:T)(hl:l.length<=10000)(hr:w.rowIs B 3 l.length (fun j=>.int U (l.getD j 0))) :
    I qA 173 #[X (W (A B 0 Y)) l.length l.length] w fun e w'=>∃g cap,e=O (X (W (A g 0 Y)) l.length cap)/\w.heap.size<=g/\V w.heap.size w w'/\w'.ownsRow w.heap.size 3 1 (X (W (A g 0 Y)) l.length cap) l.length (AB l):=by
  have h:I qA 173 #[X (W (A B 0 Y)) l.length l.length] w fun e w'=>∃v',e=O v'/\w'.ownsRow w.heap.size 3 1 v' l.length ((l.take l.length).map (Value.int .i64))/\v'≠X Y 0 0/\V w.heap.size w w':=
    Any.slices_Clone_int R1 B 0 l.length l.length l w (qB _) (by omega) (fun j hj=>by rw[qV];exact hr.cell hj)
  refine h.mono fun e w' ⟨v',he,ho,hn,hb⟩=>?_;rw[List.take_length]at ho;obtain⟨g,cap,rfl,hg,_⟩:=Lib.holds_of_ownsRow ho hn;exact⟨g,cap,he,hg,hb,ho⟩
def Ex(w:T)(eao:Option Addr)(env:List Int):Prop:=∀i,i<env.length->∃eb eoff,eao=W (A eb eoff Y)/\eb<w.heap.size/\w.cell? ⟨eb,eoff+i,Y⟩=W (.int U (env.getD i 0))
theorem Ex.later{w w':T}{eao:Option Addr}{env:List Int}(h:Ex w eao env)(hb:V w.heap.size w w'):Ex w' eao env:=fun i hi=>by
 obtain⟨eb,eoff,e1,e2,e3⟩:=h i hi;exact⟨eb,eoff,e1,qE e2 hb.size,(hb.cell (p:=⟨eb,eoff+i,Y⟩) e2).trans e3⟩
def GY(env:List Int)(t:Tm)(w:T)(e:Ending)(w':T):Prop:=
 e=O (K #[E U (if Cv env=true then 0 else match t.eval env with|some x=>x|none=>0),.int U (if Cv env=true then 2 else match t.eval env with|some _=>0|none=>8)])/\V w.heap.size w w'
theorem QO(b off n cap:Nat)(eao:Option Addr)(en ecap:Nat)(t:Tm)(env:List Int)(w:T)(hn:n=t.size)(h60:n<=60)(hen:en=env.length)(hen6:en<=6)(hg:t.Good env.length)(hty:t.typed=true)(hbB:b<w.heap.size)(hA:BR w b off t.ops)(hE:Ex w eao env)
  (heo:I qA 115 #[X (W (A b off Y)) n cap,.int U en] (e0 w) fun e w'=>V (e0 w).heap.size (e0 w) w'/\∃B,(e0 w).heap.size<=B/\e=O (K #[X (W (A B 0 Y)) n n,.int U 0])/\w'.rowIs B 3 n (fun q=>.int U (An (t.ops.map Prod.fst) q))) :
  I qA 85 #[X (W (A b off Y)) n cap,X eao en ecap] w (GY env t w):=by
 have hmf:=Fm;have HE:S (Ex w eao env):=hE;have HA:S (BR w b off t.ops):=hA;have HN:S (n=t.size/\t.Good env.length/\t.typed=true/\en=env.length):=⟨hn,hg,hty,hen⟩;have hn1:0<n:=by rw[hn];exact t.size_pos
 have hzs:(e0 w).heap.size=w.heap.size+1+1:=by simp[e0]
 clear hE hA hn hg hty hen;go_enter_defers fB,fH;go_wp2_with (go_at_call 115;refine heo.mono ?_;rintro e w2 ⟨hb2,B,hBw,rfl,hrow⟩;obtain⟨c0,c1,f0,f1,hsz,hbw⟩:=LB w hb2)
 obtain⟨W3,hW3⟩:∃W3,W3=w2.setCell ⟨w.heap.size+1,0,Y⟩ (.int U 0):=⟨_,rfl⟩;have hb3:V w.heap.size w W3:=by rw[hW3];exact hbw.setCell (p:=⟨w.heap.size+1,0,Y⟩) (by simp) _
 have d0:W3.cell? (A w.heap.size 0 Y)=W (.int U 0):=by rw[hW3];simp[go_sem,c0]
 have d1:W3.cell? ⟨w.heap.size+1,0,Y⟩=W (.int U 0):=by rw[hW3];simp[go_sem,c1]
 have g0:W3.frozen? (A w.heap.size 0 Y)=false:=by rw[hW3];simp[go_sem,f0]
 have g1:W3.frozen? ⟨w.heap.size+1,0,Y⟩=false:=by rw[hW3];simp[go_sem,f1]
 have hrow3:W3.rowIs B 3 n (fun q=>.int U (An (t.ops.map Prod.fst) q)):=by rw[hW3];exact hrow.setOther (by simp;omega) _
 have hsz3:w.heap.size+1<W3.heap.size:=by rw[hW3];simpa using hsz
 have HW3:=(show S _ from hW3);have HR:S (W3.rowIs B 3 n (fun q=>.int U (An (t.ops.map Prod.fst) q))):=hrow3;rw[<-hW3];clear hW3 hrow3 hrow heo hb2 c0 c1 f0 f1 hsz hbw HW3;go_loop [23] (fun c=>∃i:Nat,i<=en/\c=.int U i/\S (∀j,j<i->-1000000<=env.getD j 0/\env.getD j 0<=1000000)) (fun c=>en-(intOf c).toNat)
 case atStart=>exact⟨0,qJ _,rfl,fun j hj=>by omega⟩
 case round=>
  obtain⟨i,hi,rfl,HJ⟩:=hrel;by_cases hlt:i<en
  .obtain ⟨eb,eoff,rfl,e2,e3⟩:=(HE.out.later hb3) i (by rw[<-HN.out.2.2.2];exact hlt);have htg:=fun w=>Nw (env.getD i 0) w;by_cases hz:-1000000<=env.getD i 0/\env.getD i 0<=1000000
   .rw[show decide (¬(-1000000<=env.getD i 0/\env.getD i 0<=1000000))=G by simpa using hz]at htg;have HJ2:S (∀j,j<i+1->-1000000<=env.getD j 0/\env.getD j 0<=1000000):=fun j hj=>by
     by_cases hji:j<i
     .exact HJ.out j hji
     .obtain rfl:j=i:=by omega
      exact hz
    clear hz;generalize env.getD i 0=x at e3 htg;go_wp2_with (go_at_call 116;refine(htg _).mono ?_;rintro e w5 ⟨rfl,rfl⟩)
    go_round
    case rel=>exact⟨i+1,by omega,by go_num,HJ2⟩
    case measure=>simp[intOf];omega
   .have HX:S (Cv env=true):=QG (by rw[<-HN.out.2.2.2];exact hlt) hz;generalize env.getD i 0=x at e3 htg hz;rw[show decide (¬(-1000000<=x/\x<=1000000))=true by simp;omega]at htg;clear hz;go_wp2_with (go_at_call 116;refine(htg _).mono ?_;rintro e w5 ⟨rfl,rfl⟩)
    refine leaves_cons (f:=114) (args:=#[J (W (A w.heap.size 0 Y)),J (W ⟨w.heap.size+1,0,Y⟩)]) (by simp) (by simp[go_sem]) ?_;refine(Is w.heap.size _).mono ?_;rintro e u' w'' ⟨rfl,rfl,rfl⟩;simp[Leaves,settle,results,fL,go_sem,d0,d1];unfold GY;rw[aj HX.out,aj HX.out];exact⟨rfl,(hb3.setCell (p:=(A w.heap.size 0 Y)) (qB _) _).setCell (p:=⟨w.heap.size+1,0,Y⟩) (by simp) _⟩
  .have hin:i=en:=by omega
   subst hin;have hok:Cv env=false:=QI (fun j hj=>HJ.out j (by rw[HN.out.2.2.2];exact hj));have HX:S (Cv env=G):=hok;have hpm:=Tr W3;clear hlt hi;go_wp2_with (go_at_call 117;refine hpm.mono ?_;rintro e W4 ⟨M,hM,rfl,hpa,hb4⟩)
   have hb5:V W3.heap.size W3 (W4.alloc (H #[X (W (A b off Y)) n cap,X (W (A B 0 Y)) n n,X eao i ecap,.map (W M)] 225)):=hb4.alloc hb4.size _;have hpa5:Dz (W4.alloc (H #[X (W (A b off Y)) n cap,X (W (A B 0 Y)) n n,X eao i ecap,.map (W M)] 225)) M:=World.ownsMap.alloc hpa _;have hwk:WorkAt (W4.alloc (H #[X (W (A b off Y)) n cap,X (W (A B 0 Y)) n n,X eao i ecap,.map (W M)] 225)) b off B eao M t env:=by
    have hbb:=ae hb3 hb5;refine⟨qE hbB hbb.size,HA.out.below hbb hbB,?_,HE.out.later hbb,hpa5⟩;have hr:=HR.out;rw[HN.out.1]at hr;exact hr.of_block (hb5.block B hr.lt)
   generalize W4.alloc (H #[X (W (A b off Y)) n cap,X (W (A B 0 Y)) n n,X eao i ecap,.map (W M)] 225)=W5 at *;have hat:=Ox b off n cap B eao i ecap M env.length t env HN.out.1 h60 HN.out.2.1 HN.out.2.2.1 (QH hok) rfl HN.out.2.2.2 t.size 0 W5 hn1 (by rw[sub_zero];omega) hwk
   rw[sub_zero]at hat;have hs3:=hb3.size;have hs5:=hb5.size;clear hwk hpa hpa5 hok hpm hb4 HR;cases hx:t.eval env with
   |none=>
    rw[hx]at hat;have HXN:S (t.eval env=Y):=hx;clear hx;refine hat.mono ?_;rintro e w6 ⟨hb6,rfl⟩;have hb36:=ae hb5 hb6;have k0:=(hb36.cell (p:=(A w.heap.size 0 Y)) (by simp only;omega)).trans d0;have k1:=(hb36.cell (p:=⟨w.heap.size+1,0,Y⟩) (by simp only;omega)).trans d1;have z0:=(hb36.frozen (p:=(A w.heap.size 0 Y)) (by simp only;omega)).trans g0;have z1:=(hb36.frozen (p:=⟨w.heap.size+1,0,Y⟩) (by simp only;omega)).trans g1;have hbf:=ae hb3 hb36;refine leaves_cons (f:=114) (args:=#[J (W (A w.heap.size 0 Y)),J (W ⟨w.heap.size+1,0,Y⟩)]) (by simp) (by simp[go_sem]) ?_;refine(QC w.heap.size 8 _ _ w6 k0 k1 z0 z1).mono ?_;rintro e u' w'' ⟨rfl,rfl,rfl⟩;simp[Leaves,settle,results,fL,go_sem,k0,k1];unfold GY;rw[ak (by rw[HX.out];simp),ak (by rw[HX.out];simp),HXN.out];exact⟨rfl,(((hbf.setCell (p:=(A w.heap.size 0 Y)) (qB _) _).setCell (p:=⟨w.heap.size+1,0,Y⟩) (by simp) _)).drew⟩
   |some x=>
    rw[hx]at hat;have HXN:S (t.eval env=W x):=hx;clear hx;refine hat.mono ?_;rintro e w6 ⟨hb6,rfl⟩;have hb36:=ae hb5 hb6;have k0:=(hb36.cell (p:=(A w.heap.size 0 Y)) (by simp only;omega)).trans d0;have k1:=(hb36.cell (p:=⟨w.heap.size+1,0,Y⟩) (by simp only;omega)).trans d1;have z0:=(hb36.frozen (p:=(A w.heap.size 0 Y)) (by simp only;omega)).trans g0;have z1:=(hb36.frozen (p:=⟨w.heap.size+1,0,Y⟩) (by simp only;omega)).trans g1;have hbf:=ae hb3 hb36;clear d0 d1 g0 g1 hat;go_wp2_with fail
    refine leaves_cons (f:=114) (args:=#[J (W (A w.heap.size 0 Y)),J (W ⟨w.heap.size+1,0,Y⟩)]) (by simp) (by simp[go_sem]) ?_;refine(Is w.heap.size _).mono ?_;rintro e u' w'' ⟨rfl,rfl,rfl⟩;simp[Leaves,settle,results,fL,go_sem,k0,k1];unfold GY;rw[ak (by rw[HX.out];simp),ak (by rw[HX.out];simp),HXN.out];exact⟨rfl,(hbf.setCell (p:=(A w.heap.size 0 Y)) (qB _) _).setCell (p:=⟨w.heap.size+1,0,Y⟩) (by simp) _⟩
theorem IntsV.env{w:T}{v:Q}{env:List Int}(h:IntsV w v env):∃eao ecap,v=.slice eao env.length ecap/\Ex w eao env:=by
 obtain⟨ao,cap,rfl,h⟩:=h;refine⟨ao,cap,rfl,fun i hi=>?_⟩;obtain⟨b,off,rfl,hlt,hat⟩:=h (by intro h;subst h;simp at hi);exact⟨b,off,rfl,hlt,hat i hi⟩
theorem QM(v ev:Q)(l:am)(env:List Int)(t:Tm)(w:T)(hB:0<w.heap.size)(hT:AF w)(hV:OpsV w v l)(hE:IntsV w ev env)(ht:AU (l.map Prod.fst)=0->t.Wf/\t.ops=l) :
  I qA 85 #[v,ev] w fun e w'=>e=O (K #[E U (GX l t env),.int U (GW l t env)])/\V w.heap.size w w':=by
 have hb0:=Ir w;have heo:=LE v l env.length t (e0 w) (qE hB hb0.size) (hT.below hb0 hB) (hV.below hb0) ht;obtain⟨eao,ecap,rfl,hEA⟩:=hE.env;by_cases hx:A5 env.length l t=0
 .obtain ⟨h0,h6,hops,hg,htt,h60⟩:=OL hx ht;subst hops;obtain⟨ao,cap,rfl,_,h⟩:=hV;obtain⟨b,off,rfl,hlt,hat⟩:=h t.ops_ne;refine(QO b off _ cap eao _ ecap t env w t.ops_length (by rw[ops_length];exact h60) rfl (by omega) hg htt hlt hat hEA (heo.mono fun e w' ⟨h1,_,h3⟩=>⟨h1,?_⟩)).mono fun e w' ⟨h1,h2⟩=>⟨?_,h2⟩
  .obtain ⟨B,p1,p2,p3⟩:=h3 hx;exact⟨B,p1,p2,p3⟩
  .rw[h1];simp only[GX,GW,hx,ne_eq,not_true_eq_false,if_false];all_goals (cases t.eval env<;>rfl)
 .obtain ⟨ao,cap,rfl,_,h⟩:=hV;refine(QN ao _ cap eao _ ecap _ w hx (heo.mono fun e w' ⟨h1,h2,_⟩=>⟨h2 hx,h1⟩)).mono fun e w' ⟨h1,h2⟩=>⟨?_,h2⟩;rw[h1];unfold GX GW;rw[aj hx,aj hx]
theorem LJ(v ev:Q)(l:am)(env:List Int)(w:T)(hB:0<w.heap.size)(hT:AF w)(hV:OpsV w v l)(hE:IntsV w ev env) :
  I qA 85 #[v,ev] w fun e w'=>e=O (K #[E U (exN l env),.int U (exC l env)])/\V w.heap.size w w':=
 QM v ev l env (C0 l) w hB hT hV hE (KA l)
theorem Nd(v ev:Q)(l:am)(env:List Int)(w:T)(hB:0<w.heap.size)(hT:AF w)(hV:OpsV w v l)(hE:IntsV w ev env) :
  I qA 59 #[v,ev] w fun e w'=>e=O (.bool (CY l env))/\V w.heap.size w w':=by
 have hx:=LJ v ev l env w hB hT hV hE;unfold CY;generalize exN l env=n at hx⊢;generalize exC l env=c at hx⊢;clear hV hE hT;go_enter Tryz.func59,Tryz.ntmps59;go_wp2_with (go_at_call 85;refine hx.mono ?_;rintro e w1 ⟨rfl,hb1⟩)
 all_goals go_ret
 all_goals exact⟨by first|(simp[*];done)|(simp[*];by_cases h1:n=1<;>simp[h1]),hb1⟩
theorem IY(ao ro:Option Addr)(n cap rn rc:Nat)(w:T) :
  I qA 58 #[F #[X ao n cap,X ro rn rc]] w fun e w'=>e=O (F #[X ao n cap,X Y 0 0])/\V w.heap.size w w':=by
 go_enter Tryz.func58,Tryz.ntmps58;go_wp2_with fail
 exact bodyPost_ret (v:=F #[X ao n cap,X Y 0 0]) (by simp[results,Tryz.results58,go_sem]) rfl ⟨rfl,(ai).alloc (by simp) _⟩
theorem QA(va vr gv sv:Q)(B:Nat)(m:Mo)(env:List Int)(r:Ru)(w:T)(hB:0<w.heap.size)(hT:AF w)(hV:A1 w va vr m)(hm:mcode m=0)(hr:BH m.vars.length r=0)(he:env.length=m.vars.length)
  (hrow:w.rowIs B 3 env.length (fun j=>.int U (env.getD j 0))) (hg:OpsV w gv r.guard) (hs:SetsV w sv r.sets) :
  I qA 150 #[F #[va,vr],X (W (A B 0 Y)) env.length env.length,F #[gv,sv]] w fun e w'=>e=O (K #[E U (G9 (BZ m.vars env r)),.int U (G8 (BZ m.vars env r))])/\V w.heap.size w w':=by
 obtain⟨h6,hsv⟩:=Un hr;have hv6:=(Cw hm).1;obtain⟨ao,cap,rfl⟩:=hV.1.shape;obtain⟨ro,rc,rfl⟩:=hV.2.shape;obtain⟨go,gc,rfl⟩:=hg.shape;obtain⟨so,sc,rfl⟩:=hs.shape;have hA2:∀o o',V w.heap.size w ((w.alloc o).alloc o'):=fun o o'=>((qD _ _).alloc (qB _) o).alloc (by simp) o';have hI:IntsV w (X (W (A B 0 Y)) env.length env.length) env:=by
  have h1:=Gq hrow;have e1:(aE env.length).map (fun j=>env.getD j 0)=env:=by
   apply jN;intro i;by_cases hi:i<env.length
   .simp[hi,qC]
   .simp[hi]
  rwa[e1]at h1
 have hho:=fun w' (hb:V w.heap.size w w')=>Nd (.slice go r.guard.length gc) (X (W (A B 0 Y)) env.length env.length) r.guard env w' (qE hB hb.size) (hT.below hb hB) (hg.below hb) (hI.below hb);have hcl:=fun w' (hb:V w.heap.size w w')=>Pp B env w' (by omega) (CA hrow hb);have HEx:S (∀w' (_:V w.heap.size w w') v l,OpsV w' v l->I qA 85 #[v,X (W (A B 0 Y)) env.length env.length] w' fun e w2=>e=O (K #[E U (exN l env),.int U (exC l env)])/\V w'.heap.size w' w2):=fun w' hb v l hv=>LJ v _ l env w' (qE hB hb.size) (hT.below hb hB) hv (hI.below hb);have HCo:S (∀w' (_:V w.heap.size w w') vv vals,IntsV w' vv vals->I qA 174 #[F #[.slice ao m.vars.length cap,X Y 0 0],vv] w' fun e w2=>e=O (K #[E U (Cg ⟨m.vars,[]⟩ vals),.int U (B3 ⟨m.vars,[]⟩ vals)])/\V w'.heap.size w' w2):=fun w' hb vv vals hi=>
  Sc _ _ vv ⟨m.vars,[]⟩ vals w' (qE hB hb.size) (hT.below hb hB) ⟨hV.1.below hb,⟨Y,0,rfl,⟨by simp,fun _=>⟨rfl,rfl⟩⟩,fun h=>by simp at h⟩⟩ hi
 have HS:S (SetsV w (.slice so r.sets.length sc) r.sets):=hs;have HSV:S (∀j,j<r.sets.length->0<=(r.sets.getD j st0).var/\(r.sets.getD j st0).var<m.vars.length):=hsv;have HE:S (env.length=m.vars.length):=he;have HM0:S (mcode ⟨m.vars,[]⟩=0):=ME hm;clear hV hT hg hs hsv hm hr hI hrow he;by_cases hgd:CY r.guard env=true
 .rw [hgd] at hho;go_enter fx,fE;go_wp2_with (go_at_call 59;refine(hho _ (hA2 _ _)).mono ?_;rintro e w1 ⟨rfl,hb1⟩;have hbw1:=(hA2 _ _).trans (hb1.mono (hA2 _ _).size))
  have hs1:w.heap.size+1<w1.heap.size:=by have:=hb1.size;simp at this;omega
  have k10:w1.cell? (A w.heap.size 0 Y)=W (.slice ao m.vars.length cap):=(hb1.cell (p:=(A w.heap.size 0 Y)) (by simp;omega)).trans (by simp[go_sem]);have k11:w1.cell? (A w.heap.size 1 Y)=W (.slice ro m.rules.length rc):=(hb1.cell (p:=(A w.heap.size 1 Y)) (by simp;omega)).trans (by simp[go_sem]);have k12:w1.cell? ⟨w.heap.size+1,1,Y⟩=W (.slice so r.sets.length sc):=(hb1.cell (p:=⟨w.heap.size+1,1,Y⟩) (by simp)).trans (by simp[go_sem]);have HC1:S (∀w',V w1.heap.size w1 w'->w'.cell? (A w.heap.size 0 Y)=W (.slice ao m.vars.length cap)/\w'.cell? (A w.heap.size 1 Y)=W (.slice ro m.rules.length rc)/\w'.cell? ⟨w.heap.size+1,1,Y⟩=W (.slice so r.sets.length sc)):=fun w' hb=>⟨(hb.cell (p:=(A w.heap.size 0 Y)) (by simp only;omega)).trans k10,(hb.cell (p:=(A w.heap.size 1 Y)) (by simp only;omega)).trans k11,(hb.cell (p:=⟨w.heap.size+1,1,Y⟩) hs1).trans k12⟩;have HBW1:S (V w.heap.size w w1):=hbw1;have hcl1:=hcl w1 hbw1;clear hho hcl hb1 hbw1;go_wp2_with (go_at_call 173;refine hcl1.mono ?_;rintro e w2 ⟨g,gcap,rfl,hgl,hb2,ho2⟩;obtain⟨k20,k21,k22⟩:=HC1.out w2 hb2)
  have HO2:S (w2.ownsRow w1.heap.size 3 1 (X (W (A g 0 Y)) env.length gcap) env.length (AB env)):=ho2;have HB2:S (V w1.heap.size w1 w2):=hb2;have HRS:S (∀j,j<r.sets.length->exC (r.sets.getD j st0).val env≠0->BZ m.vars env r=Y):=fun j hj h=>Ul hj h;have HRC:S (Jz env r->(B3 ⟨m.vars,[]⟩ (B0 env r)=0->BZ m.vars env r=W (Cg ⟨m.vars,[]⟩ (B0 env r)))/\(B3 ⟨m.vars,[]⟩ (B0 env r)≠0->BZ m.vars env r=Y)):=fun h=>Uj hgd h HE.out HM0.out rfl;have HBL:S (B0 env r=Cn env r.sets r.sets.length):=rfl;obtain⟨sn,hsn⟩:∃sn,sn=r.sets.length:=⟨_,rfl⟩;have HSN:S (sn=r.sets.length):=hsn;rw[<-hsn]at h6 HS HC1 k22⊢;obtain⟨res,hres⟩:∃res,BZ m.vars env r=res:=⟨_,rfl⟩;rw[hres]at HRS HRC;have HRes:S (BZ m.vars env r=res):=hres;clear hcl1 ho2 hb2 hsn hres hgd;go_loopw [25] (fun i wr=>∃k:Nat,k<=sn/\i=.int U k/\S (∀j,j<k->exC (r.sets.getD j st0).val env=0)/\S (wr.ownsRow w1.heap.size 3 1 (X (W (A g 0 Y)) env.length gcap) env.length (AB (Cn env r.sets k)))/\S (V w1.heap.size w1 wr)) (fun i _=>sn-(intOf i).toNat)
  case atStart=>exact⟨0,qJ _,rfl,fun j hj=>by omega,HO2.out,HB2.out⟩
  case round=>
   obtain⟨k,hk,rfl,HOK,HOwn,HBel⟩:=hrel;have hbel:=HBel.out;have hbw:=ae HBW1.out hbel;obtain⟨kr0,kr1,kr2⟩:=HC1.out wr hbel;by_cases hlt:k<sn
   .obtain ⟨b,off,rfl,hblt,hat⟩:=HS.out.at (i:=k) (by rw[<-HSN.out];exact hlt);obtain⟨c0,u,c1,hou⟩:=hat.below hbw hblt;obtain⟨uo,uc,rfl⟩:=hou.shape;have HSk:=HSV.out k (by rw[<-HSN.out];exact hlt);have HRk:S (exC (r.sets.getD k st0).val env≠0->res=Y):=HRS.out k (by rw[<-HSN.out];exact hlt);have HStep:S (Cn env r.sets (k+1)=(Cn env r.sets k).set (r.sets.getD k st0).var.toNat (exN (r.sets.getD k st0).val env)):=rfl;have HOK2:S (exC (r.sets.getD k st0).val env=0->∀j,j<k+1->exC (r.sets.getD j st0).val env=0):=fun h j hj=>by
     by_cases hjk:j=k
     .subst hjk;exact h
     .exact HOK.out j (by omega)
    have hAr:∀o,V w.heap.size w (wr.alloc o):=fun o=>hbw.alloc hbw.size o;have hex:=fun o=>HEx.out (wr.alloc o) (hAr o) _ _ (hou.below ((qD _ _).alloc (qB _) o));obtain⟨hv0,hv1⟩:=HSk;obtain⟨vn,hvn⟩:∃vn:Nat,(r.sets.getD k st0).var=vn:=⟨(r.sets.getD k st0).var.toNat,by omega⟩;rw[hvn]at hv0 hv1 c0 HStep;rw[Int.toNat_natCast]at HStep;have hvn2:vn<env.length:=by rw[HE.out];omega
    generalize exN (r.sets.getD k st0).val env=N at hex HStep;generalize exC (r.sets.getD k st0).val env=C at hex HRk HOK2;generalize(r.sets.getD k st0).val.length=ul at hex c1 hou;have HBr:S (∀o w4,V (wr.alloc o).heap.size (wr.alloc o) w4->V w1.heap.size w1 w4/\w4.ownsRow w1.heap.size 3 1 (X (W (A g 0 Y)) env.length gcap) env.length (AB (Cn env r.sets k))/\w4.cell? (A wr.heap.size 0 Y)=(wr.alloc o).cell? (A wr.heap.size 0 Y)):=fun o w4 hb=>
     ⟨(hbel.alloc hbel.size o).trans (hb.mono (hbel.alloc hbel.size o).size),Ap (Ap HOwn.out ((qD _ _).alloc (qB _) o) (qB _)) hb (qB _),hb.cell (p:=(A wr.heap.size 0 Y)) (by simp)⟩
    clear hat hou hvn hAr HRS HEx HCo HS HSV HRC kr0 kr1 kr2 k20 k21 k22 k10 k11 k12 hbel hbw;by_cases hC:C=0
    .subst hC;go_wp2_with (go_at_call 85;refine(hex _).mono ?_;rintro e w4 ⟨rfl,hb4⟩;obtain⟨hb14,ho4,hcv⟩:=HBr.out _ w4 hb4;have hcell:=ho4.cellAt vn (by omega);rw[show(AB (Cn env r.sets k))[vn]? = W (.int U ((Cn env r.sets k).getD vn 0)) by simp[AB,qC,Jy,hvn2]]at hcell;have hfz:=ho4.frozenAt vn;have hcv2:w4.cell? (A wr.heap.size 0 Y)=W (.int U vn):=(by rw[hcv];simp[go_sem]))
     refine⟨⟨k+1,hlt,by first|rfl|simp,HOK2.out trivial,?_,hb14.setCell hgl _⟩,by simp[intOf];omega⟩;have hst:=(ho4.stored vn (.int U N)).1;rw[show(AB (Cn env r.sets k)).set vn (.int U N)=AB (Cn env r.sets (k+1)) by rw[HStep.out];simp[AB,List.map_set]]at hst;exact hst
    .have HRN:S (res=Y):=HRk.out hC;go_wp2_with (go_at_call 85;refine(hex _).mono ?_;rintro e w4 ⟨rfl,hb4⟩;obtain⟨hb14,ho4,hcv⟩:=HBr.out _ w4 hb4)
     go_ret2;exact⟨by rw[HRes.out,HRN.out];rfl,ae HBW1.out hb14⟩
   .have hkn:k=sn:=by omega
    subst hkn;have hbe:B0 env r=Cn env r.sets k:=by rw[HBL.out,HSN.out]
    have hrc:=HRC.out (fun j hj=>HOK.out j (by rw[HSN.out];exact hj));have ho:=HOwn.out;rw[<-hbe]at ho;have hlb:(B0 env r).length=env.length:=by rw[hbe,Jy]
    rw[<-hlb]at ho;have hba:=IY ao ro m.vars.length cap m.rules.length rc wr;have HI:S (∀w',V wr.heap.size wr w'->IntsV w' (X (W (A g 0 Y)) (B0 env r).length gcap) (B0 env r)):=fun w' hb=>(D8 ho).below hb;rw[hlb]at HI;have hco:=fun w' (hb:V wr.heap.size wr w')=>HCo.out w' (ae hbw hb) _ _ (HI.out w' hb);have HBWr:S (V w.heap.size w wr):=hbw;generalize Cg ⟨m.vars,[]⟩ (B0 env r)=cv at hco hrc;generalize B3 ⟨m.vars,[]⟩ (B0 env r)=cc at hco hrc;obtain⟨hrc0,hrc1⟩:=hrc;clear hbe ho hlb HI HRC HRS HEx HCo HS HSV k20 k21 k22 k10 k11 k12 hbel hbw hlt hk HOK HOwn;by_cases hcc:cc=0
    .have hrn:=hrc0 hcc;subst hcc;have HRN:S (res=W cv):=hrn;clear hrc0 hrc1 hrn;go_wp2_with (first|(go_at_call 58;refine hba.mono ?_;rintro e w5 ⟨rfl,hb5⟩)|(go_at_call 174;refine(hco _ hb5).mono ?_;rintro e w6 ⟨rfl,hb6⟩))
     go_ret2;exact⟨by rw[HRes.out,HRN.out];rfl,HBWr.out.trans ((ae hb5 hb6).mono HBWr.out.size)⟩
    .have HRN:S (res=Y):=hrc1 hcc;clear hrc0 hrc1;go_wp2_with (first|(go_at_call 58;refine hba.mono ?_;rintro e w5 ⟨rfl,hb5⟩)|(go_at_call 174;refine(hco _ hb5).mono ?_;rintro e w6 ⟨rfl,hb6⟩))
     go_ret2;exact⟨by rw[HRes.out,HRN.out];rfl,HBWr.out.trans ((ae hb5 hb6).mono HBWr.out.size)⟩
 .have hgd2:CY r.guard env=false:=by simpa using hgd
  rw[hgd2]at hho;rw[Uk hgd2];go_enter fx,fE;go_wp2_with (go_at_call 59;refine(hho _ (hA2 _ _)).mono ?_;rintro e w1 ⟨rfl,hb1⟩)
  go_ret2;exact⟨rfl,(hA2 _ _).trans (hb1.mono (hA2 _ _).size)⟩
theorem Wu{m:Mo}{code:Int}(h:Av m code=0):mcode m=0/\0<=code/\code<AL m.vars m.vars.length:=by
 unfold Av at h;split at h
 .rename_i h1;split at h
  .rename_i h2;exact⟨h1,h2⟩
  .cases h
 .rename_i h1;exact absurd h h1
theorem Nm(va vr:Q)(m:Mo)(code:Int)(w:T)(hB:0<w.heap.size)(hT:AF w)(hV:A1 w va vr m)(h:Av m code=0) :
  I qA 57 #[F #[va,vr],.int U code] w fun e w'=>∃B,e=O (K #[X (W (A B 0 Y)) (BA m.vars code).length (BA m.vars code).length,.int U 0])/\w.heap.size<=B/\V w.heap.size w w'/\w'.rowIs B 3 (BA m.vars code).length (fun j=>.int U ((BA m.vars code).getD j 0)):=by
 obtain⟨h1,h2⟩:=Wu h;refine(MU va vr m code w hB hT hV h1 h2).mono fun e w' ⟨B,he,hl,hb,hr⟩=>?_;rw[<-KF m.vars code]at he hr;refine⟨B,he,hl,hb,hr.congr fun j hj=>?_⟩;rw[KF]at hj;simp[BA,qC,hj]
noncomputable def Ci(m:Mo)(ps:List am)(code:Int):Int:=if CP m ps=0 then Av m code else CP m ps
noncomputable def AJ(m:Mo)(ps:List am)(code:Int):List Bool:=if Ci m ps code=0 then ps.map (fun p=>CY p (BA m.vars code))else []
def Af(w:T)(v:Q)(t:TypeId):Prop:=∀a n c,v=.slice (W a) n c->∃cs fr,w.heap[a.block]? = W (H cs t fr)
theorem Af.nil(w:T)(t:TypeId):Af w (X Y 0 0) t:=fun a n c e=>by simp at e
theorem Ca{m:Mo}{ps:List am}(h:CP m ps=0):mcode m=0/\ps.length<=6:=by
 unfold CP at h;split at h
 .rename_i h1;split at h
  .simp at h
  .exact ⟨h1,by omega⟩
 .rename_i h1;exact absurd h h1
theorem IC{m:Mo}(code:Int)(h:mcode m=0):Av ⟨m.vars,[]⟩ code=Av m code:=by
 unfold Av;rw[aj h,aj (ME h)]
theorem L6(va vr pv:Q)(m:Mo)(ps:List am)(code:Int)(w:T)(hB:0<w.heap.size)(hT:AF w)(hV:A1 w va vr m)(hP:TermsV w pv ps) :
  I qA 31 #[F #[va,vr],pv,.int U code] w fun e w'=>∃v,e=O (K #[v,.int U (Ci m ps code)])/\V w.heap.size w w'/\BoolsV w' v (AJ m ps code)/\Af w' v 4:=by
 have hA:∀o,V w.heap.size w (w.alloc o):=fun o=>(qD _ _).alloc (qB _) o;have hpr:=fun o=>MR va vr pv m ps (w.alloc o) (qE hB (hA o).size) (hT.below (hA o) hB) (hV.below (hA o)) (hP.below (hA o));obtain⟨ao,cap,rfl⟩:=hV.1.shape;obtain⟨ro,rc,rfl⟩:=hV.2.shape;obtain⟨po,pc,rfl,hPa⟩:=hP;have hba:=fun w=>IY ao ro m.vars.length cap m.rules.length rc w;by_cases hp:CP m ps=0
 .obtain ⟨hm,hp6⟩:=Ca hp;rw[hp]at hpr;have hVb:∀w',V w.heap.size w w'->A1 w' (.slice ao m.vars.length cap) (X Y 0 0) ⟨m.vars,[]⟩:=fun w' hb=>⟨hV.1.below hb,⟨Y,0,rfl,⟨by simp,fun _=>⟨rfl,rfl⟩⟩,fun h=>by simp at h⟩⟩;by_cases hw:Av m code=0
  .have hlc:Ci m ps code=0:=by unfold Ci;rw[aj hp,hw]
   have hll:AJ m ps code=ps.map (fun p=>CY p (BA m.vars code)):=by unfold AJ;rw[aj hlc]
   rw[hlc,hll];have hvl:=fun w' (hb:V w.heap.size w w')=>Nm _ _ ⟨m.vars,[]⟩ code w' (qE hB hb.size) (hT.below hb hB) (hVb w' hb) (by rw[IC _ hm];exact hw);have hvl2:∀w',V w.heap.size w w'->I qA 57 #[F #[.slice ao m.vars.length cap,X Y 0 0],.int U code] w' fun e w2=>∃B,e=O (K #[X (W (A B 0 Y)) (BA m.vars code).length (BA m.vars code).length,.int U 0])/\w'.heap.size<=B/\V w'.heap.size w' w2/\w2.rowIs B 3 (BA m.vars code).length (fun j=>.int U ((BA m.vars code).getD j 0)):=hvl;generalize BA m.vars code=env at hvl2⊢;have HHo:S (∀w' (_:V w.heap.size w w') v ev l,OpsV w' v l->IntsV w' ev env->I qA 59 #[v,ev] w' fun e w2=>e=O (.bool (CY l env))/\V w'.heap.size w' w2):=fun w' hb v ev l h1 h2=>Nd v ev l env w' (qE hB hb.size) (hT.below hb hB) h1 h2;have HP:S (ps≠[]->∃b off,po=W (A b off Y)/\b<w.heap.size/\∀i,i<ps.length->∃u,w.cell? ⟨b,off+i,Y⟩=W u/\OpsV w u (ps.getD i [])):=hPa;have HML:S ((ps.map (fun p=>CY p env)).length=ps.length/\∀i,i<ps.length->(ps.map (fun p=>CY p env)).getD i G=CY (ps.getD i []) env):=⟨by simp,fun i hi=>by simp[qC,hi]⟩;generalize ps.map (fun p=>CY p env)=lt at HML⊢;obtain⟨pn,hpn⟩:∃pn,pn=ps.length:=⟨_,rfl⟩;have HPN:S (pn=ps.length):=hpn;rw[<-hpn]at hpr hp6 HP HML⊢;generalize m.vars.length=n at *;generalize m.rules.length=rn at *;have hmk:=run_make_row' (P:=qA) 111 4 (.bool G) 1 Tryz.underlying111 Gp rfl .i64 .i64 pn (by omega) (by omega)
   clear hV hT hVb hlc hll hPa hvl hpn hw hm hp;go_enter fy,fF;go_wp2_with (first|(go_at_call 52;refine(hpr _).mono ?_;rintro e w1 ⟨rfl,hb1⟩;have hbw1:=(hA _).trans (hb1.mono (hA _).size);have k10:w1.cell? (A w.heap.size 0 Y)=W (X ao n cap):=(hb1.cell (p:=(A w.heap.size 0 Y)) (by simp)).trans (by simp[go_sem]);have k11:w1.cell? (A w.heap.size 1 Y)=W (X ro rn rc):=(hb1.cell (p:=(A w.heap.size 1 Y)) (by simp)).trans (by simp[go_sem]))|(go_at_call 58;refine(hba _).mono ?_;rintro e w2 ⟨rfl,hb2⟩;have hbw2:=ae hbw1 hb2)|(go_at_call 57;refine(hvl2 _ hbw2).mono ?_;rintro e w3 ⟨B,rfl,hBl,hb3,hr3⟩))
   have hbw3:=ae hbw2 hb3;have hrow0:=eL w3 (.bool G) pn 4;have HI3:S (∀w',V w3.heap.size w3 w'->IntsV w' (X (W (A B 0 Y)) env.length env.length) env):=fun w' hb=>by
    have h1:=Gq hr3;have e1:(aE env.length).map (fun j=>env.getD j 0)=env:=by
     apply jN;intro i;by_cases hi:i<env.length
     .simp[hi,qC]
     .simp[hi]
    rw[e1]at h1;exact h1.below hb
   have HB3:S (V w.heap.size w w3):=hbw3;clear hpr hvl2 hba hmk hb1 hbw1 k10 k11 hb2 hbw2 hb3 hr3 hbw3 hBl;go_loopw [35] (fun i wr=>∃k:Nat,k<=pn/\i=.int U k/\S (wr.rowIs w3.heap.size 4 pn (fun j=>if j<k then .bool (lt.getD j G)else .bool G))/\S (V w3.heap.size w3 wr)) (fun i _=>pn-(intOf i).toNat)
   case atStart=>exact⟨0,qJ _,rfl,hrow0.congr (fun i hi=>by rw[ak (by omega)]),ai⟩
   case round=>
    obtain⟨k,hk,rfl,HRow,HBel⟩:=hrel;have hbel:=HBel.out;have hbw:=ae HB3.out hbel;by_cases hlt:k<pn
    .obtain ⟨b,off,rfl,hblt,hat⟩:=HP.out (by intro h;have:=HPN.out;subst h;simp at this;omega);obtain⟨u,hu,hou⟩:=hat k hlt;have c0:=(hbel.cell (p:=⟨b,off+k,Y⟩) (qE hblt HB3.out.size)).trans ((HB3.out.cell (p:=⟨b,off+k,Y⟩) hblt).trans hu);obtain⟨uo,uc,rfl⟩:=hou.shape;have hho:=HHo.out wr hbw _ _ _ (hou.below hbw) (HI3.out wr hbel);have HLk:=(show S _ from HML.out.2 k hlt);generalize CY (ps.getD k []) env=tv at hho HLk;generalize(ps.getD k []).length=ul at *;have HWr:S (∀w4,V wr.heap.size wr w4->w4.rowIs w3.heap.size 4 pn (fun j=>if j<k then .bool (lt.getD j G)else .bool G)/\V w3.heap.size w3 w4):=fun w4 hb=>⟨CA HRow.out hb,ae hbel hb⟩
     clear hat hu hou hbel hbw HHo HI3 HP HML;go_wp2_with (go_at_call 59;refine hho.mono ?_;rintro e w4 ⟨rfl,hb4⟩;obtain⟨hr4,hb34⟩:=HWr.out w4 hb4;have hf:=hr4.frozen k;have hc:w4.cell? (A w3.heap.size k Y)=W (.bool G):=(by rw[hr4.cell hlt,ak (by omega)]);have HR4:S (w4.rowIs w3.heap.size 4 pn (fun j=>if j<k then .bool (lt.getD j G)else .bool G)):=hr4;clear hr4)
     refine⟨⟨k+1,hlt,by first|rfl|simp,(HR4.out.set k (.bool tv)).congr fun i hi=>?_,hb34.setCell (qB _) _⟩,by simp[intOf];omega⟩;by_cases hik:i=k
     .subst hik;rw[aj rfl,aj (by omega),HLk.out]
     .rw[ak hik];by_cases hlk:i<k
      .rw[aj hlk,aj (by omega)]
      .rw[ak hlk,ak (by omega)]
    .have hkn:k=pn:=by omega
     subst hkn;have hrow:=HRow.out.congr (g:=fun j=>.bool (lt.getD j G)) (fun i hi=>by rw[aj hi]);rw[<-HML.out.1]at hrow;have hbo:=Ic hrow;rw[HML.out.1]at hbo;have HBO:=(show S _ from hbo);have HTy:S (Af wr (X (W (A w3.heap.size 0 Y)) k k) 4):=by
      intro a n c e;injection e with e _ _;injection e with e;subst e;obtain⟨cs,hcs,_⟩:=HRow.out;exact⟨cs,(0,0),hcs⟩
     clear hrow hbo;go_wp2_with fail
     go_ret2;exact⟨_,rfl,hbw,HBO.out,HTy.out⟩
  .have hlc:Ci m ps code=Av m code:=by unfold Ci;rw[aj hp]
   have hll:AJ m ps code=[]:=by unfold AJ;rw[ak (by rw[hlc];exact hw)]
   rw[hlc,hll];have hvl:=fun w' (hb:V w.heap.size w w')=>MS _ _ ⟨m.vars,[]⟩ code w' (qE hB hb.size) (hT.below hb hB) (hVb w' hb);rw[IC _ hm]at hvl;generalize Av m code=c at *;generalize FS ⟨m.vars,[]⟩ code=vs at *;generalize m.vars.length=n at *;generalize m.rules.length=rn at *;generalize ps.length=pn at *;clear hV hT hVb hlc hll hPa
   go_enter fy,fF;go_wp2_with (first|(go_at_call 52;refine(hpr _).mono ?_;rintro e w1 ⟨rfl,hb1⟩;have hbw1:=(hA _).trans (hb1.mono (hA _).size);have k10:w1.cell? (A w.heap.size 0 Y)=W (X ao n cap):=(hb1.cell (p:=(A w.heap.size 0 Y)) (by simp)).trans (by simp[go_sem]);have k11:w1.cell? (A w.heap.size 1 Y)=W (X ro rn rc):=(hb1.cell (p:=(A w.heap.size 1 Y)) (by simp)).trans (by simp[go_sem]))|(go_at_call 58;refine(hba _).mono ?_;rintro e w2 ⟨rfl,hb2⟩;have hbw2:=ae hbw1 hb2)|(go_at_call 57;refine(hvl _ hbw2).mono ?_;rintro e w3 ⟨v,rfl,hb3,_⟩))
   go_ret2;exact⟨_,rfl,ae hbw2 hb3,⟨Y,0,rfl,fun h=>absurd rfl h⟩,Af.nil _ _⟩
 .have hlc:Ci m ps code=CP m ps:=by unfold Ci;rw[ak hp]
  have hll:AJ m ps code=[]:=by unfold AJ;rw[ak (by rw[hlc];exact hp)]
  rw[hlc,hll];generalize CP m ps=c at *;generalize m.vars.length=n at *;generalize m.rules.length=rn at *;generalize ps.length=pn at *;clear hV hT hlc hll hPa
  go_enter fy,fF;go_wp2_with (go_at_call 52;refine(hpr _).mono ?_;rintro e w1 ⟨rfl,hb1⟩)
  go_ret2;exact⟨_,rfl,(hA _).trans (hb1.mono (hA _).size),⟨Y,0,rfl,fun h=>absurd rfl h⟩,Af.nil _ _⟩
theorem L4(va vr pv:Q)(m:Mo)(ps:List am)(code:Int)(w:T)(hB:0<w.heap.size)(hT:AF w)(hV:A1 w va vr m)(hP:TermsV w pv ps) :
  I qA 31 #[F #[va,vr],pv,.int U code] w fun e w'=>∃v,e=O (K #[v,.int U (Ci m ps code)])/\V w.heap.size w w'/\BoolsV w' v (AJ m ps code):=
 (L6 va vr pv m ps code w hB hT hV hP).mono fun _ _ ⟨v,h1,h2,h3,_⟩=>⟨v,h1,h2,h3⟩
def CC(m:Mo):Int:=Bn m.vars (Bg m.vars) m.vars.length
noncomputable def CD(m:Mo)(ps:List am)(l:am):Nat->am
 |0=>[]
 |k+1=>if tru l (AJ m ps (CC m)) (k:Int) 0=true then CD m ps l k else CD m ps l k++[(CC m,(k:Int))]
noncomputable def AC(m:Mo)(ps:List am)(l:am):am:=CD m ps l (2^(AA l).length)
theorem Ia(m:Mo)(ps:List am)(l:am):∀k,(CD m ps l k).length<=k
 |0=>qB _
 |k+1=>by
  rw[CD];have:=Ia m ps l k;split
  .omega
  .rw[qF,List.length_singleton];omega
theorem IZ{m:Mo}{ps:List am}{l:am}(h:AX m ps l=0):(AC m ps l).length<=64:=by
 have h6:=(B6 (BU h).2).2.2.2.2;have:=Ia m ps l (2^(AA l).length);have h2:2^(AA l).length<=2^6:=vK (by decide) h6;unfold AC;omega
theorem FN{m:Mo}{ps:List am}{l:am}(h:AX m ps l=0){c:Int}(hc:0<=c/\c<AL m.vars m.vars.length):Ci m ps c=0/\(AJ m ps c).length=ps.length:=by
 obtain⟨hp,_⟩:=BU h;obtain⟨hm,_⟩:=Ca hp;have h1:Ci m ps c=0:=by unfold Ci;rw[aj hp,EM hm hc]
 refine⟨h1,?_⟩;unfold AJ;rw[aj h1,qM]
theorem J7{m:Mo}{ps:List am}{l:am}(h:AX m ps l=0):0<=CC m/\CC m<AL m.vars m.vars.length:=by
 obtain⟨hp,_⟩:=BU h;obtain⟨hm,_⟩:=Ca hp;exact Io (Cw hm) (qB _) (fun i hi=>Ln (Cw hm) i hi)
theorem Nu{m:Mo}{ps:List am}{l:am}(h:AX m ps l=0){c:Int}(hc:0<=c/\c<AL m.vars m.vars.length){k:Nat}(hk:k<2^(AA l).length) :
  BI l (AJ m ps c) (k:Int)=0/\DR l (AJ m ps c) (k:Int)=(aE l.length).map (tru l (AJ m ps c) (k:Int)):=by
 have h1:=(FN h hc).2;have h2:BI l (AJ m ps c) (k:Int)=0:=by
  refine EL (by rw[h1];exact(BU h).2) fun hn=>?_;unfold CB at hn;have:((2^(AA l).length:Nat):Int)=(2:Int)^(AA l).length:=by push_cast;rfl
  rcases hn with hn|hn
  .omega
  .rw[<-this]at hn;omega
 exact⟨h2,by unfold DR;rw[aj h2]⟩
theorem Nt{m:Mo}{ps:List am}{l:am}(h:AX m ps l=0):0<l.length:=by
 obtain⟨_,_,hz,_,_⟩:=B6 (BU h).2;have:=(D3 hz).1;rcases jG l.length with h0|h0
 .rw[jH.1 h0]at this;simp at this
 .exact h0
theorem PB(B:Nat)(va vr pv fv:Q)(m:Mo)(ps:List am)(l:am)(ho:Option Addr)(hcp bs bl:Nat)(w:T)(hB:0<w.heap.size)(hT:AF w)(hV:TaskV w va vr pv fv m ps l)(hc:AX m ps l=0)
  (hS:SurvAt w B va vr pv fv (.slice ho (AA l).length hcp) bs bl) :
  I qA 17 #[J (W (A B 0 Y))] w fun e w'=>∃so sc,e=O (K #[.slice so (AC m ps l).length sc,.int U 0])/\V w.heap.size w w'/\S (SpO w' w.heap.size (.slice so (AC m ps l).length sc) (AC m ps l)):=by
 obtain⟨hp0,hl0⟩:=BU hc;obtain⟨hm0,_⟩:=Ca hp0;have h6:=(B6 hl0).2.2.2.2;have hne:=Nt hc;have hnei:(0:Int)<(l.length:Int):=by omega
 obtain⟨ao,ac,rfl⟩:=hV.mo.1.shape;obtain⟨ro,rc,rfl⟩:=hV.mo.2.shape;obtain⟨po,pc,rfl⟩:=hV.ps.shape;obtain⟨fo,fc,rfl,_⟩:=id hV.fo;have hfi:I qA 30 #[F #[.slice ao m.vars.length ac,.slice ro m.rules.length rc]] w fun e w'=>e=O (K #[E U (CC m),.int U 0])/\V w.heap.size w w':=by
  have:=Sl _ _ m w hB hT hV.mo;rw[aj hm0,hm0]at this;exact this
 have HLe:S (∀w1,V w.heap.size w w1->I qA 31 #[F #[.slice ao m.vars.length ac,.slice ro m.rules.length rc],.slice po ps.length pc,.int U (CC m)] w1 fun e w'=>∃lo lc,e=O (K #[.slice lo ps.length lc,.int U 0])/\V w1.heap.size w1 w'/\S (BoolsV w' (.slice lo ps.length lc) (AJ m ps (CC m)))):=fun w1 h=>by
  refine(L4 _ _ _ m ps (CC m) w1 (qE hB h.size) (hT.below h hB) (hV.mo.below h) (hV.ps.below h)).mono fun e w' ⟨v,h1,h2,h3⟩=>?_;obtain⟨t1,t2⟩:=FN hc (J7 hc);obtain⟨lo,lc,rfl,hx⟩:=h3;rw[t2]at h1;exact⟨lo,lc,by rw[h1,t1],h2,⟨lo,lc,by rw[t2],hx⟩⟩
 have HTr:S (∀(k:Nat) (lv:Q) (w1:T),k<2^(AA l).length->V w.heap.size w w1->BoolsV w1 lv (AJ m ps (CC m))->I qA 33 #[.slice fo l.length fc,lv,.int U (k:Int)] w1 fun e w'=>∃b off c,e=O (K #[X (W (A b off Y)) l.length c,.int U 0])/\V w1.heap.size w1 w'/\w'.cell? (A b off Y)=W (.bool (tru l (AJ m ps (CC m)) (k:Int) 0))):=fun k lv w1 hk h hl=>by
  refine(MA _ lv l (AJ m ps (CC m)) (k:Int) w1 (qE hB h.size) (hT.below h hB) (hV.fo.below h) hl).mono fun e w' ⟨v,h1,h2,h3⟩=>?_;obtain⟨t1,t2⟩:=Nu hc (J7 hc) hk;rw[t2]at h3;have hn:=Nt hc;obtain⟨lo,lc,rfl,hx⟩:=h3;obtain⟨b,off,rfl,_,hat⟩:=hx (by intro h0;have:=congrArg aM h0;rw[qM,vB,vG]at this;omega);have c0:=hat 0 (by simpa using hn);refine⟨b,off,lc,by rw[h1,t1];simp,h2,?_⟩;rw[Nat.add_zero]at c0;rw[c0];simp[qC,hn]
 have HS:S (∀w1,V w.heap.size w w1->SurvAt w1 B (.slice ao m.vars.length ac) (.slice ro m.rules.length rc) (.slice po ps.length pc) (.slice fo l.length fc) (.slice ho (AA l).length hcp) bs bl):=fun w1 h=>hS.later h;have hcl:=fun w1 (h:V w.heap.size w w1)=>Il B _ _ _ _ ho _ hcp bs bl w1 h6 (hS.later h);have HCl:S (∀w1,V w.heap.size w w1->I qA 32 #[J (W (A B 0 Y))] w1 fun e w'=>e=O (.int U ((2^(AA l).length:Nat):Int))/\w'=w1):=hcl;obtain⟨_,s0,s1,s2,s3,s4,s5,s6⟩:=id hS;have hq64:2^(AA l).length<=64:=vK (show 0<2 by decide) h6;have HNil:S (CD m ps l 0=[]):=rfl;have HSt:S (∀k,CD m ps l (k+1)=if tru l (AJ m ps (CC m)) (k:Int) 0=true then CD m ps l k else CD m ps l k++[(CC m,(k:Int))]):=fun k=>rfl;have HLen:S (∀k,(CD m ps l k).length<=k):=Ia m ps l;unfold AC;generalize CD m ps l=bg at *;generalize AJ m ps (CC m)=lt at *;generalize CC m=first at *;generalize m.vars.length=vn at *;generalize m.rules.length=rn at *;generalize ps.length=pn at *;generalize(AA l).length=an at *;generalize 2^an=N at *
 have HTru:S (∀k:Nat,tru l lt (k:Int) 0=true\/tru l lt (k:Int) 0=G):=fun k=>by cases tru l lt (k:Int) 0<;>simp
 generalize hfn:l.length=fn at *;clear hV hT hc hl0 hp0 hm0 hS hcl h6 hfn
 go_enter Tryz.func17,Tryz.ntmps17;go_wp2_with (first|(go_at_call 30;refine hfi.mono ?_;rintro e w1 ⟨rfl,hb1⟩;obtain⟨_,p0,p1,p2,p3,p4,p5,p6⟩:=HS.out w1 hb1;have hle:=HLe.out _ hb1.drew))
 have HSB:S (∀w2,V w1.heap.size w1 w2->w2.cell? (A B 0 Y)=W (X ao vn ac)/\w2.cell? (A B 1 Y)=W (X ro rn rc)/\w2.cell? (A B 2 Y)=W (X po pn pc)):=fun w2 h=>by
  obtain⟨_,q0,q1,q2,_,_,_,_⟩:=HS.out w2 (ae hb1 h);exact⟨q0,q1,q2⟩
 have hB0:V w1.heap.size w1 w1:=qD _ _;have hBw:=hB0.drew;go_region_held3 (fun w'=>w'.cell? (A B 0 Y)=W (X ao vn ac)/\w'.cell? (A B 1 Y)=W (X ro rn rc)/\w'.cell? (A B 2 Y)=W (X po pn pc))
  (first|exact HSB.out _ hb12|exact HSB.out _ hBw|exact HSB.out _ hB0)
  (first
   |(go_at_call 31;refine hle.mono ?_;rintro e w2 ⟨lo,lc,rfl,hb2,HLv⟩;have hb12:=ae hBw hb2))
 have hw2:=ae hb1 hb12;have hcl:=HCl.out w2 hw2;clear hle hfi HLe HSB p0 p1 p2 p3 p4 p5 p6 s0 s1 s2 s3 s4 s5 s6;have HLet:S (∀w3,V w2.heap.size w2 w3->BoolsV w3 (X lo pn lc) lt):=fun w3 h=>HLv.out.below h;go_wp2_with (first|(go_at_call 32;refine hcl.mono ?_;rintro e w3 ⟨rfl,rfl⟩))
 go_loopw [7,43] (fun u i wr=>∃k:Nat,k<=N/\i=.int U k/\(∃so sn sc,u=X so sn sc/\sn<=k/\S ((bg k).length=sn/\SpO wr w3.heap.size (X so sn sc) (bg k)))/\V w3.heap.size w3 wr) (fun _ i _=>N-(intOf i).toNat)
 case atStart=>exact⟨0,qJ _,rfl,⟨Y,0,0,rfl,qB _,by rw[HNil.out];rfl,by rw[HNil.out];exact SpO.nil _ _⟩,qD _ _⟩
 case round=>
  obtain⟨k,hk,rfl,⟨so,sn,sc,rfl,hsn,HSp⟩,hbr3⟩:=hrel;have hbr:=ae hw2 hbr3;have HBo:=(show S _ from HLet.out wr hbr3);obtain⟨_,p0,p1,p2,p3,p4,p5,p6⟩:=HS.out wr hbr;by_cases hkN:k<N
  .have htr:=HTr.out k _ wr hkN hbr HBo.out;have hst:=HSt.out k;have HSk:S (∀w4,V wr.heap.size wr w4->SpO w4 w3.heap.size (X so sn sc) (bg k)):=fun w4 h=>HSp.out.2.later h (qB _);have HSl:S ((bg k).length=sn):=HSp.out.1;rcases HTru.out k with ht|ht
   .rw[ht]at htr hst;rw[aj rfl]at hst;have HE:S (bg (k+1)=bg k):=hst;clear hst ht HBo HSp;go_wp2_with (first|(go_at_call 33;refine htr.mono ?_;rintro e w4 ⟨b,off,c,rfl,hb4,d0⟩;have hbw4:=ae hbr3 hb4))
    go_roundw
    case rel=>exact⟨k+1,by omega,by go_num,⟨so,sn,sc,rfl,by omega,by rw[HE.out];exact HSl.out,by rw[HE.out];exact HSk.out _ hb4⟩,hbw4⟩
    case measure=>simp[intOf];omega
   .rw[ht]at htr hst;rw[ak (by simp)]at hst;have HE:S (bg (k+1)=bg k++[(first,(k:Int))]):=hst;have hsz:w.heap.size<=wr.heap.size:=hbr.size;clear hst ht HBo HSp;go_wp2_with (first|(go_at_call 33;refine htr.mono ?_;rintro e w4 ⟨b,off,c,rfl,hb4,d0⟩;have hbw4:=ae hbr3 hb4;have hsp:=HSk.out _ hb4;have hs4:=hbw4.size)|(at_builtin;refine M5 first (k:Int) rfl _ _ rfl w3.heap.size sn sc so (bg k) HSl.out rfl hsp rfl (by omega) hs4 ?_;intro vo5 cap5 w5 ho5 hb5 hg5;have HO5:S (SpO w5 w3.heap.size (.slice vo5 (sn+1) cap5) (bg k++[(first,(k:Int))])):=ho5;have hbw5:=hbw4.trans hb5;clear ho5 hg5 hsp))
    go_roundw
    case rel=>exact⟨k+1,by omega,by go_num,⟨vo5,sn+1,cap5,rfl,by omega,by rw[HE.out,qF,HSl.out];rfl,by rw[HE.out];exact HO5.out⟩,hbw5⟩
    case measure=>simp[intOf];omega
  .obtain rfl:k=N:=by omega
   have HSl:S ((bg k).length=sn):=HSp.out.1;have HSk:S (SpO wr w.heap.size (X so sn sc) (bg k)):=Az HSp.out.2 hw2.size;clear HSp HBo;go_wp2_with fail
   go_ret2;refine⟨so,sc,by rw[HSl.out];rfl,hbr,by rw[HSl.out];exact HSk.out⟩
noncomputable def BF(vars:List Vr)(env:List Int)(rules:List Ru)(k:Nat):List Int:=(rules.take k).filterMap (BZ vars env)
theorem UH{vars:List Vr}{env:List Int}{rules:List Ru}{k:Nat}(hk:k<rules.length){x:Int}(h:BZ vars env (rules.getD k ru0)=W x):BF vars env rules (k+1)=BF vars env rules k++[x]:=by
 unfold BF;rw[qT hk,yP,show rules[k]=rules.getD k ru0 by simp[qC,hk]];generalize rules.getD k ru0=r at h;simp[h]
theorem UG{vars:List Vr}{env:List Int}{rules:List Ru}{k:Nat}(hk:k<rules.length)(h:BZ vars env (rules.getD k ru0)=Y):BF vars env rules (k+1)=BF vars env rules k:=by
 unfold BF;rw[qT hk,yP,show rules[k]=rules.getD k ru0 by simp[qC,hk]];generalize rules.getD k ru0=r at h;simp[h]
theorem M7(vars:List Vr)(env:List Int)(rules:List Ru)(k:Nat):(BF vars env rules k).length<=k:=by
 unfold BF;exact qI (List.length_filterMap_le _ _) (by simp;omega)
noncomputable def Hm(m:Mo)(code:Int):List Int:=if BF m.vars (BA m.vars code) m.rules m.rules.length=[]then [code]else BF m.vars (BA m.vars code) m.rules m.rules.length
noncomputable def AM(m:Mo)(code:Int):List Int:=upL (Hm m code)
noncomputable def Cy(m:Mo)(code:Int):List Int:=if Av m code=0 then AM m code else []
theorem UF{vars:List Vr}{env:List Int}{rules:List Ru}{k:Nat}(hk:k<=rules.length)(x:Int):x∈BF vars env rules k↔∃j,j<k/\BZ vars env (rules.getD j ru0)=W x:=by
 unfold BF;rw[List.mem_filterMap];constructor
 .rintro ⟨r,hr,e⟩;obtain⟨j,hj,rfl⟩:=xE.1 hr;rw[qP]at hj;refine⟨j,by omega,?_⟩;rw[kC]at e;rw[show rules.getD j ru0=rules[j]'(by omega) by simp[qC,show j<rules.length by omega]];exact e
 .rintro ⟨j,hj,e⟩;refine⟨rules.getD j ru0,?_,e⟩;rw[xE];exact⟨j,by rw[qP];omega,by rw[kC];simp[qC,show j<rules.length by omega]⟩
theorem Um{vars:List Vr}{env:List Int}{r:Ru}{x:Int}(hv:Bz vars)(h:BZ vars env r=W x):0<=x/\x<AL vars vars.length:=by
 unfold BZ at h;split at h
 .rename_i hc;injection h with h;subst h;exact Io hv (qB _) hc.2.2
 .cases h
def E0(base:Nat)(w:T)(v:Q)(l:List Int):Prop:=w.ownsRow base 3 1 v l.length (AB l)/\v≠X Y 0 0
theorem E0.form{base:Nat}{w:T}{v:Q}{l:List Int}(h:E0 base w v l):∃g cap,v=X (W (A g 0 Y)) l.length cap/\base<=g/\g<w.heap.size:=by
 rcases h.1.2 with⟨e0,_⟩|⟨g,cap,cur,rfl,hb,hg,_⟩
 .exact absurd e0 h.2
 .exact ⟨g,cap,rfl,hb,(qG.1 hg).1⟩
theorem TI (va vr:Q) (m:Mo) (code:Int) (w:T) (hB:0 < w.heap.size) (hT:AF w) (hV:A1 w va vr m) (hm:mcode m=0) :
    I qA 122 #[F #[va,vr],.int U code] w fun e w'=>∃v,e=O (K #[v,.int U (Av m code)])/\V w.heap.size w w'/\IntsV w' v (Cy m code)/\w'.ownsRow w.heap.size 3 1 v (Cy m code).length (AB (Cy m code)):=by
  have hA:∀o,V w.heap.size w (w.alloc o):=fun o=>(qD _ _).alloc (qB _) o;have hVb:∀w',V w.heap.size w w'->∀ao cap,va=.slice ao m.vars.length cap->A1 w' (.slice ao m.vars.length cap) (X Y 0 0) ⟨m.vars,[]⟩:=fun w' hb ao cap e=>⟨e▸hV.1.below hb,⟨Y,0,rfl,⟨by simp,fun _=>⟨rfl,rfl⟩⟩,fun h=>by simp at h⟩⟩;obtain⟨ao,cap,rfl⟩:=hV.1.shape;obtain⟨ro,rc,hro⟩:=hV.2.shape;have hba:=fun w=>IY ao ro m.vars.length cap m.rules.length rc w;by_cases hw:Av m code=0
  . have hvl:∀w',V w.heap.size w w'->I qA 57 #[F #[.slice ao m.vars.length cap,X Y 0 0],.int U code] w' fun e w2=>∃B,e=O (K #[X (W (A B 0 Y)) (BA m.vars code).length (BA m.vars code).length,.int U 0])/\w'.heap.size<=B/\V w'.heap.size w' w2/\w2.rowIs B 3 (BA m.vars code).length (fun j=>.int U ((BA m.vars code).getD j 0)):=fun w' hb=>
      Nm _ _ ⟨m.vars,[]⟩ code w' (qE hB hb.size) (hT.below hb hB) (hVb w' hb ao cap rfl) (by rw[IC _ hm];exact hw)
    obtain⟨hr12,hrs⟩:=Sb hm;have HDo:S (∀w' (_:V w.heap.size w w') B k gv sv,k<m.rules.length->w'.rowIs B 3 (BA m.vars code).length (fun j=>.int U ((BA m.vars code).getD j 0))->OpsV w' gv (m.rules.getD k ru0).guard->SetsV w' sv (m.rules.getD k ru0).sets->I qA 150 #[F #[.slice ao m.vars.length cap,vr],X (W (A B 0 Y)) (BA m.vars code).length (BA m.vars code).length,F #[gv,sv]] w' fun e w2=>e=O (K #[E U (G9 (BZ m.vars (BA m.vars code) (m.rules.getD k ru0))),.int U (G8 (BZ m.vars (BA m.vars code) (m.rules.getD k ru0)))])/\V w'.heap.size w' w2):=fun w' hb B k gv sv hk hrow hg hs=>
      QA _ vr gv sv B m (BA m.vars code) (m.rules.getD k ru0) w' (qE hB hb.size) (hT.below hb hB) (hV.below hb) hm (hrs k hk) (KF _ _) hrow hg hs
    have HR:S (RulesV w vr m.rules):=hV.2;have HNL:S (Cy m code=upL (if BF m.vars (BA m.vars code) m.rules m.rules.length=[]then [code]else BF m.vars (BA m.vars code) m.rules m.rules.length)):=by show _=_;unfold Cy AM Hm;rw[aj hw]
    rw[hw];generalize Cy m code=res at *;generalize BA m.vars code=env at *;subst hro;obtain⟨rn,hrn⟩:∃rn,rn=m.rules.length:=⟨_,rfl⟩
    have HRN:S (rn=m.rules.length):=hrn;rw[<-hrn]at hba HDo HR HNL hr12⊢;obtain⟨i0,hi,hz0,hz1,hz2⟩:=info_parts BS;clear hV hT hVb hw hm hrs hrn;generalize m.vars.length=n at *
    go_enter fu,fD;go_wp2_with (first|(go_at_call 58;refine(hba _).mono ?_;rintro e w1 ⟨rfl,hb1⟩;have hbw1:=(hA _).trans (hb1.mono (hA _).size);have k10:w1.cell? (A w.heap.size 0 Y)=W (X ao n cap):=(hb1.cell (p:=(A w.heap.size 0 Y)) (by simp)).trans (by simp[go_sem]);have k11:w1.cell? (A w.heap.size 1 Y)=W (X ro rn rc):=(hb1.cell (p:=(A w.heap.size 1 Y)) (by simp)).trans (by simp[go_sem]);have hs1:w.heap.size<w1.heap.size:=(by have:=hb1.size;simp at this;omega))|(go_at_call 57;refine(hvl _ hbw1).mono ?_;rintro e w2 ⟨B,rfl,hBl,hb2,hr2⟩;have k20:=(hb2.cell (p:=(A w.heap.size 0 Y)) hs1).trans k10;have k21:=(hb2.cell (p:=(A w.heap.size 1 Y)) hs1).trans k11;have hs2:=qE hs1 hb2.size;have kA1:∀o,(w2.alloc o).cell? (A w.heap.size 1 Y)=W (X ro rn rc):=fun o=>(((qD w2.heap.size w2).alloc (qB _) o).cell (p:=(A w.heap.size 1 Y)) hs2).trans k21))
    have hbw2:=ae hbw1 hb2;have hA2:∀o,V w2.heap.size w2 (w2.alloc o):=fun o=>(qD _ _).alloc (qB _) o;have HRow:S (w2.rowIs B 3 env.length (fun j=>.int U (env.getD j 0))):=hr2;have HB2:S (V w.heap.size w w2):=hbw2;have HK2:S (∀w',V w2.heap.size w2 w'->w'.cell? (A w.heap.size 0 Y)=W (X ao n cap)/\w'.cell? (A w.heap.size 1 Y)=W (X ro rn rc)):=fun w' hb=>⟨(hb.cell (p:=(A w.heap.size 0 Y)) hs2).trans k20,(hb.cell (p:=(A w.heap.size 1 Y)) hs2).trans k21⟩;have HO0:S (E0 w2.heap.size (w2.alloc (H #[] 3)) (X (W (A w2.heap.size 0 Y)) 0 0) (BF m.vars env m.rules 0)):=⟨World.ownsRow_lit w2 #[] 0 (qB _) (by decide) rfl,by simp⟩;clear hvl hba hb1 hbw1 k10 k11 hs1 hb2 hr2 k20 k21 kA1 hbw2;go_loopw [8,27] (fun nx i wr=>∃k:Nat,k<=rn/\i=.int U k/\S (E0 w2.heap.size wr nx (BF m.vars env m.rules k))/\S (V w2.heap.size w2 wr)) (fun _ i _=>rn-(intOf i).toNat)
    case atStart=>exact⟨0,qJ _,rfl,HO0.out,hA2 _⟩
    case round=>
      obtain⟨k,hk,rfl,HOwn,HBel⟩:=hrel;have hbel:=HBel.out;have hbw:=ae HB2.out hbel;obtain⟨kr0,kr1⟩:=HK2.out wr hbel;obtain⟨g,gc,rfl,hg,hgl⟩:=HOwn.out.form;have hown:=HOwn.out.1;by_cases hlt:k<rn
      . obtain⟨b,off,rfl,hblt,hat⟩:=HR.out.at (i:=k) (by rw[<-HRN.out];exact hlt)
        obtain⟨⟨u,c0,hou⟩,u',c1,hsu⟩:=hat.below hbw hblt;obtain⟨uo,uc,rfl⟩:=hou.shape;obtain⟨so,sc,rfl⟩:=hsu.shape;have hAr:∀o,V wr.heap.size wr (wr.alloc o):=fun o=>(qD _ _).alloc (qB _) o;have hkA0:∀o,(wr.alloc o).cell? (A w.heap.size 0 Y)=W (X ao n cap):=fun o=>(HK2.out _ (hbel.trans ((hAr o).mono hbel.size))).1;have hkA1:∀o,(wr.alloc o).cell? (A w.heap.size 1 Y)=W (X (W (A b off Y)) rn rc):=fun o=>(HK2.out _ (hbel.trans ((hAr o).mono hbel.size))).2;have hdo:=fun o=>HDo.out (wr.alloc o) (hbw.trans ((hAr o).mono hbw.size)) B k _ _ hlt (CA (CA HRow.out hbel) (hAr o)) (hou.below (hAr o)) (hsu.below (hAr o));have HRl:S ((BF m.vars env m.rules k).length<=k):=M7 _ _ _ _;have hk':k<m.rules.length:=by rw[<-HRN.out];exact hlt
        generalize(m.rules.getD k ru0).guard.length=gl at *;generalize(m.rules.getD k ru0).sets.length=sl at *;obtain⟨L,hL⟩:∃L,L=(BF m.vars env m.rules k).length:=⟨_,rfl⟩
        have HL:S (L=(BF m.vars env m.rules k).length):=hL;rw[<-hL]at hown HRl⊢;cases hres:BZ m.vars env (m.rules.getD k ru0)with
        |none=>
          rw[hres]at hdo;simp only[G9,G8]at hdo;have HN:S (BF m.vars env m.rules (k+1)=BF m.vars env m.rules k):=UG hk' hres;have HW4:S (∀o w4,V (wr.alloc o).heap.size (wr.alloc o) w4->V w2.heap.size w2 w4/\E0 w2.heap.size w4 (X (W (A g 0 Y)) L gc) (BF m.vars env m.rules k)):=fun o w4 hb=>⟨(hbel.alloc hbel.size o).trans (hb.mono (hbel.alloc hbel.size o).size),by
            refine⟨?_,by simp⟩;rw[<-HL.out];exact Ap (Ap hown (hAr o) (qB _)) hb (qB _)⟩
          clear hat hou hsu HDo HR hres hk' hown hL;go_wp2_with (go_at_call 150;refine(hdo _).mono ?_;rintro e w4 ⟨rfl,hb4⟩;obtain⟨hb24,ho4⟩:=HW4.out _ w4 hb4)
          exact⟨⟨k+1,hlt,by first|rfl|simp,by rw[HN.out];exact ho4,hb24⟩,by simp[intOf];omega⟩
        |some x=>
          rw[hres]at hdo;simp only[G9,G8]at hdo;have HN:S (BF m.vars env m.rules (k+1)=BF m.vars env m.rules k++[x]):=UH hk' hres;have h63:L+1<=maxLen:=by have:=HRl.out;unfold maxLen;omega
          have hkb:(L+1)*8<=140737488355328:=by have:=HRl.out;omega
          clear hat hou hsu HDo HR hres hk' hL;go_wp2_with (first|(go_at_call 150;refine(hdo _).mono ?_;rintro e w4 ⟨rfl,hb4⟩;have hb24:=(hbel.alloc hbel.size _).trans (hb4.mono (hbel.alloc hbel.size _).size);have hown4:=fun o=>(Ap (Ap hown (hAr _) (qB _)) hb4 (qB _)).alloc o;have hbase:∀o,w2.heap.size<=(w4.alloc o).heap.size:=(fun o=>by have:=hb24.size;simp;omega))|(at_builtin;refine wpList_append_lies _ rfl (.tmp 40) (.tmp 42) 43 rfl w2.heap.size 3 i0 (.int U 0) 1 8 aD hi hz0 hz1 hz2 rfl (by decide) (X (W (A g 0 Y)) L gc) L _ rfl (hown4 _) ⟨w4.heap.size,0,Y⟩ 1 1 [.int U x] rfl rfl (cell_one_new _ _ _) (by intro u hu;simp at hu;subst hu;rfl) (by decide) h63 hkb (hbase _) _ rfl ?_;intro g5 cp5 w5 hown5 hgrow5 hat5 hgl5))
          have hb25:V w2.heap.size w2 w5:=(hb24.alloc hb24.size _).grown hgrow5 (hbase _) (fun z hz=>by have hgz:g=z:=(by simpa[Value.ownBlock]using hz);rw[<-hgz];exact hg);have ho5:E0 w2.heap.size w5 (X (W (A g5 0 Y)) (L+1) cp5) (BF m.vars env m.rules (k+1)):=by
            refine⟨?_,by simp⟩;rw[HN.out,qF,<-HL.out];rw[show AB (BF m.vars env m.rules k++[x])=AB (BF m.vars env m.rules k)++[.int U x] by simp[AB]];exact hown5
          exact⟨⟨k+1,hlt,by first|rfl|simp,ho5,hb25⟩,by simp[intOf];omega⟩
      . have hkn:k=rn:=by omega
        subst hkn;have HRl:S ((BF m.vars env m.rules k).length<=k):=M7 _ _ _ _;generalize BF m.vars env m.rules k=raw at *;clear HDo HR HOwn kr0 kr1 hlt hk
        by_cases hraw:raw=[]
        . have HRes:S (res=upL [code]):=by show _=_;rw[HNL.out,aj hraw]
          subst hraw;have hown0:wr.ownsRow w2.heap.size 3 1 (X (W (A g 0 Y)) 0 gc) 0 []:=hown;have hown4:=fun o=>hown0.alloc o;have hbase:∀o,w2.heap.size<=(wr.alloc o).heap.size:=fun o=>by have:=hbel.size;simp;omega
          have hAr:∀o,V wr.heap.size wr (wr.alloc o):=fun o=>(qD _ _).alloc (qB _) o;clear hown HNL HRl;simp only[vG];have hso:=fun(w5:T) g5 cp5 (ho:w5.ownsRow w2.heap.size 3 1 (X (W (A g5 0 Y)) 1 cp5) 1 (AB [code]))=>Nh g5 cp5 w2.heap.size [code] w5 (by simp) ho;have hms:[code].mergeSort leB=[code]:=List.mergeSort_singleton _;have HUp:S (Lib.compact [code]=upL [code]):=by show _=Lib.compact _;rw[hms]
          rw[hms]at hso;simp only[qY,vG,qV]at hso;have hco:=fun(w5:T) g5 cp5 (ho:w5.ownsRow w2.heap.size 3 1 (X (W (A g5 0 Y)) 1 cp5) 1 (AB [code]))=>K6 g5 cp5 w2.heap.size [code] w5 (by simp) ho;simp only[qY,vG,qV]at hco;rw[HUp.out]at hco;go_wp2_with (first|(at_builtin;refine wpList_append_lies _ rfl (.tmp 48) (.tmp 50) 43 rfl w2.heap.size 3 i0 (.int U 0) 1 8 aD hi hz0 hz1 hz2 rfl (by decide) (X (W (A g 0 Y)) 0 gc) 0 _ rfl (hown4 _) ⟨wr.heap.size,0,Y⟩ 1 1 [.int U code] rfl rfl (cell_one_new _ _ _) (by intro u hu;simp at hu;subst hu;rfl) (by decide) (by decide) (by decide) (hbase _) _ rfl ?_;intro g5 cp5 w5 hown5 hgrow5 hat5 hgl5;have hg5:w2.heap.size<=g5:=(by rcases hat5 with h5|h5;(have hgz:g=g5:=(by simpa[Value.ownBlock]using h5));(rw[<-hgz];exact hg);(rw[h5];exact hbase _)))|(go_at_call 151;refine(hso _ _ _ hown5).mono ?_;rintro e w6 ⟨rfl,hgr6,ho6⟩)|(go_at_call 152;refine(hco _ _ _ ho6).mono ?_;rintro e w7 ⟨rfl,hgr7,ho7⟩))
          have hb5:V w2.heap.size w2 w5:=(hbel.alloc hbel.size _).grown hgrow5 (hbase _) (fun z hz=>by have hgz:g=z:=(by simpa[Value.ownBlock]using hz);rw[<-hgz];exact hg);have hb7:V w2.heap.size w2 w7:=(hb5.grown hgr6 hb5.size (fun z hz=>by rw[<-Option.some.inj hz];exact hg5)).grown hgr7 (qI hb5.size hgr6.size) (fun z hz=>by rw[<-Option.some.inj hz];exact hg5);have hI7:IntsV w7 (X (W (A g5 0 Y)) (upL [code]).length cp5) (upL [code]):=D8 ho7;go_ret2;exact⟨_,rfl,ae HB2.out hb7,by rw[HRes.out];exact⟨hI7,Az ho7 HB2.out.size⟩⟩
        . have HRes:S (res=upL raw):=by show _=_;rw[HNL.out,ak hraw]
          have hpos:0<raw.length:=List.length_pos_iff.2 hraw;have hso:=Nh g gc w2.heap.size raw wr (by have:=HRl.out;omega) hown;obtain⟨L,hL⟩:∃L,L=raw.length:=⟨_,rfl⟩;have HL:S (L=raw.length):=hL;have HLs:S ((raw.mergeSort leB).length=L):=by show _=_;rw[List.length_mergeSort,hL]
          have hL12:L<=12:=by have:=HRl.out;omega
          rw[<-hL]at hso hpos⊢;clear hown HNL HRl hraw hL;have HCo:S (∀w5:T,w5.ownsRow w2.heap.size 3 1 (X (W (A g 0 Y)) L gc) L (AB (raw.mergeSort leB))->I qA 152 #[X (W (A g 0 Y)) L gc] w5 fun e w'=>e=O (X (W (A g 0 Y)) (upL raw).length gc)/\w5.grownBy w' (W g)/\w'.ownsRow w2.heap.size 3 1 (X (W (A g 0 Y)) (upL raw).length gc) (upL raw).length (AB (upL raw))):=fun w5 ho=>by
            rw[<-HLs.out]at ho⊢;exact K6 g gc w2.heap.size (raw.mergeSort leB) w5 (by rw[HLs.out];omega) ho
          go_wp2_with (first|(go_at_call 151;refine hso.mono ?_;rintro e w6 ⟨rfl,hgr6,ho6⟩;have hco:=HCo.out w6 ho6)|(go_at_call 152;refine hco.mono ?_;rintro e w7 ⟨rfl,hgr7,ho7⟩))
          have hb7:V w2.heap.size w2 w7:=(hbel.grown hgr6 hbel.size (fun z hz=>by rw[<-Option.some.inj hz];exact hg)).grown hgr7 (qI hbel.size hgr6.size) (fun z hz=>by rw[<-Option.some.inj hz];exact hg);have hI7:IntsV w7 (X (W (A g 0 Y)) (upL raw).length gc) (upL raw):=D8 ho7;go_ret2;exact⟨_,rfl,ae HB2.out hb7,by rw[HRes.out];exact⟨hI7,Az ho7 HB2.out.size⟩⟩
  . have hvl:=fun w' (hb:V w.heap.size w w')=>MS _ _ ⟨m.vars,[]⟩ code w' (qE hB hb.size) (hT.below hb hB) (hVb w' hb ao cap rfl)
    rw[IC _ hm]at hvl;have hnl:Cy m code=[]:=by unfold Cy;rw[ak hw]
    rw[hnl];subst hro;generalize Av m code=c at *;generalize FS ⟨m.vars,[]⟩ code=vs at *;generalize m.vars.length=n at *;generalize m.rules.length=rn at *;clear hV hT hVb hnl hm
    go_enter fu,fD;go_wp2_with (first|(go_at_call 58;refine(hba _).mono ?_;rintro e w2 ⟨rfl,hb2⟩;have hbw2:=(hA _).trans (hb2.mono (hA _).size))|(go_at_call 57;refine(hvl _ hbw2).mono ?_;rintro e w3 ⟨v,rfl,hb3,_⟩))
    go_ret2;exact⟨_,rfl,ae hbw2 hb3,⟨Y,0,rfl,fun h=>absurd rfl h⟩,World.ownsRow_nil _ _ _ _⟩
theorem TJ(va vr:Q)(m:Mo)(code:Int)(w:T)(hB:0<w.heap.size)(hT:AF w)(hV:A1 w va vr m)(hm:mcode m=0) :
  I qA 89 #[F #[va,vr],.int U code] w fun e w'=>∃v,e=O (K #[v,.int U (Av m code)])/\V w.heap.size w w'/\w'.ownsRow w.heap.size 3 1 v (Cy m code).length (AB (Cy m code)):=by
 have hA:∀o,V w.heap.size w (w.alloc o):=fun o=>(qD _ _).alloc (qB _) o;have hch:=fun o=>C8 va vr m (w.alloc o) (qE hB (hA o).size) (hT.below (hA o) hB) (hV.below (hA o));have hne:=fun w' (hb:V w.heap.size w w')=>TI va vr m code w' (qE hB hb.size) (hT.below hb hB) (hV.below hb) hm;rw[hm]at hch;obtain⟨ao,cap,rfl⟩:=hV.1.shape;obtain⟨ro,rc,rfl⟩:=hV.2.shape;generalize Av m code=c at *;generalize Cy m code=res at *;generalize m.vars.length=n at *;generalize m.rules.length=rn at *;clear hV hT hm
 go_enter Tryz.func89,Tryz.ntmps89;go_wp2_with (first|(go_at_call 55;refine(hch _).mono ?_;rintro e w1 ⟨rfl,hb1⟩;have hbw1:=(hA _).trans (hb1.mono (hA _).size);have k10:w1.cell? (A w.heap.size 0 Y)=W (X ao n cap):=(hb1.cell (p:=(A w.heap.size 0 Y)) (by simp)).trans (by simp[go_sem]);have k11:w1.cell? (A w.heap.size 1 Y)=W (X ro rn rc):=(hb1.cell (p:=(A w.heap.size 1 Y)) (by simp)).trans (by simp[go_sem]))|(go_at_call 122;refine(hne _ hbw1).mono ?_;rintro e w2 ⟨v,rfl,hb2,hI2,ho2⟩))
 go_ret2;exact⟨_,rfl,ae hbw1 hb2,Az ho2 hbw1.size⟩
open Go.ChangeShapes Go.WideShapes Go.ChangeAt Go.RowKit Go.Deep Go.Maps
variable{Pz:Nat -> Prop}
noncomputable def Du(l:am)(lt:List Bool)(c:Nat):Int:=Er l (tru l lt (c:Int))
noncomputable def sgL(l:am)(lt:List Bool):List Int:=(aE (2^(AA l).length)).map fun(c:Nat)=>Du l lt c
theorem Nb(l:am)(lt:List Bool):(sgL l lt).length=2^(AA l).length:=by simp[sgL]
theorem VG{l:am}{lt:List Bool}{c:Nat}(h:c<2^(AA l).length):(sgL l lt).getD c 0=Du l lt c:=by simp[sgL,qC,h]
theorem BoolsV.sk{bs bl:Nat}{w w':T}{v:Q}{x:List Bool}(h:BoolsV w v x)(hs:Sk bs bl w w')(hm:Cf w bs bl):BoolsV w' v x:=by
 obtain⟨ao,cap,rfl,h⟩:=h;refine⟨ao,cap,rfl,fun hne=>?_⟩;obtain⟨b,off,rfl,hlt,hat⟩:=h hne;exact⟨b,off,rfl,qE hlt hs.size,fun i hi=>hs.cell hm (hat i hi)⟩
theorem IntsV.sk{bs bl:Nat}{w w':T}{v:Q}{x:List Int}(h:IntsV w v x)(hs:Sk bs bl w w')(hm:Cf w bs bl):IntsV w' v x:=by
 obtain⟨ao,cap,rfl,h⟩:=h;refine⟨ao,cap,rfl,fun hne=>?_⟩;obtain⟨b,off,rfl,hlt,hat⟩:=h hne;exact⟨b,off,rfl,qE hlt hs.size,fun i hi=>hs.cell hm (hat i hi)⟩
theorem SurvAt.sk{bs bl:Nat}{w w':T}{B:Nat}{va vr pv fv av:Q}(h:SurvAt w B va vr pv fv av bs bl)(hs:Sk bs bl w w')(hm:Cf w bs bl):SurvAt w' B va vr pv fv av bs bl:=
 ⟨qE h.lt hs.size,hs.cell hm h.c0,hs.cell hm h.c1,hs.cell hm h.c2,hs.cell hm h.c3,hs.cell hm h.c4,hs.cell hm h.c5,hs.cell hm h.c6⟩
theorem SpO.sk{bs bl:Nat}{w w':T}{base:Nat}{v:Q}{x:am}(h:SpO w base v x)(hs:Sk bs bl w w')(hm:Cf w bs bl):SpO w' base v x:=by
 refine⟨h.1,?_⟩;rcases h.2 with h0|⟨g,cap,cur,h1,h2,h3,h4⟩
 .exact .inl h0
 .refine .inr ⟨g,cap,cur,h1,h2,?_,h4⟩;obtain⟨⟨es,c,e1⟩,⟨es',c',e2⟩⟩:=hm;rw[hs.block g (qG.1 h3).1 (fun e=>by subst e;rw[e1]at h3;simp at h3) (fun e=>by subst e;rw[e2]at h3;simp at h3)];exact h3
theorem Af.sk{bs bl:Nat}{w w':T}{v:Q}{t:TypeId}(h:Af w v t)(hs:Sk bs bl w w')(hm:Cf w bs bl):Af w' v t:=by
 intro a n c e;obtain⟨cs,fr,h1⟩:=h a n c e;obtain⟨⟨es,cl,e1⟩,⟨es',cl',e2⟩⟩:=hm;refine⟨cs,fr,?_⟩;rw[hs.block a.block (qG.1 h1).1 (fun e=>by rw[e,e1]at h1;simp at h1) (fun e=>by rw[e,e2]at h1;simp at h1)];exact h1
theorem Af.below{w w':T}{v:Q}{t:TypeId}(h:Af w v t)(hb:V w.heap.size w w'):Af w' v t:=by
 intro a n c e;obtain⟨cs,fr,h1⟩:=h a n c e;exact⟨cs,fr,(hb.block _ (qG.1 h1).1).trans h1⟩
theorem Af.setCell{w:T}{v:Q}{t:TypeId}(h:Af w v t)(b i:Nat)(u:Q):Af (w.setCell (A b i Y) u) v t:=by
 intro a n c e;obtain⟨cs,fr,h1⟩:=h a n c e;by_cases hp:a.block=b
 .refine ⟨cs.setIfInBounds i u,fr,?_⟩;simp[World.setCell,Array.getElem?_modify,<-hp,h1]
 .exact ⟨cs,fr,(RowKit.Below.heap_setCell _ _ _ _ hp).trans h1⟩
theorem Af.grown{w w':T}{v:Q}{t t':TypeId}{own:Option Nat}(h:Af w v t)(hg:w.grownBy w' own)(ht:t≠t')(ho:∀g,own=W g->∃cs fr,w.heap[g]? = W (H cs t' fr)):Af w' v t:=by
 intro a n c e;obtain⟨cs,fr,h1⟩:=h a n c e;refine⟨cs,fr,(hg.block _ (qG.1 h1).1 (fun e2=>?_)).trans h1⟩;obtain⟨cs',fr',h2⟩:=ho _ e2.symm;rw[h1]at h2;injection h2 with h2;injection h2 with _ h3 _;exact ht h3
theorem Af.owns{w:T}{base n:Nat}{v:Q}{t:TypeId}{s:Nat}{xs:List Q}(h:w.ownsRow base t s v n xs):Af w v t:=by
 intro a k c e;rcases h.2 with⟨h0,_⟩|⟨g,cap,cur,h1,_,h3,_⟩
 .rw[h0]at e;simp at e
 .rw[h1]at e;injection e with e _ _;injection e with e;subst e;exact⟨cur,_,h3⟩
theorem BoolsV.grown{w w':T}{v:Q}{x:List Bool}{own:Option Nat}(h:BoolsV w v x)(hty:Af w v 4)(hg:w.grownBy w' own)(ho:∀g,own=W g->∃cs fr,w.heap[g]? = W (H cs 82 fr)):BoolsV w' v x:=by
 obtain⟨ao,cap,rfl,h⟩:=h;refine⟨ao,cap,rfl,fun hne=>?_⟩;obtain⟨b,off,rfl,hlt,hat⟩:=h hne;refine⟨b,off,rfl,qE hlt hg.size,fun i hi=>?_⟩;obtain⟨cs,fr,h1⟩:=hty _ _ _ rfl;rw[eJ (hg.block b hlt (fun e2=>by
  obtain⟨cs',fr',h2⟩:=ho _ e2.symm;rw[h1]at h2;injection h2 with h2;injection h2 with _ h3 _;exact absurd h3 (by decide)))]
 exact hat i hi
theorem IntsV.grown{w w':T}{v:Q}{x:List Int}{own:Option Nat}(h:IntsV w v x)(hty:Af w v 3)(hg:w.grownBy w' own)(ho:∀g,own=W g->∃cs fr,w.heap[g]? = W (H cs 82 fr)):IntsV w' v x:=by
 obtain⟨ao,cap,rfl,h⟩:=h;refine⟨ao,cap,rfl,fun hne=>?_⟩;obtain⟨b,off,rfl,hlt,hat⟩:=h hne;refine⟨b,off,rfl,qE hlt hg.size,fun i hi=>?_⟩;obtain⟨cs,fr,h1⟩:=hty _ _ _ rfl;rw[eJ (hg.block b hlt (fun e2=>by
  obtain⟨cs',fr',h2⟩:=ho _ e2.symm;rw[h1]at h2;injection h2 with h2;injection h2 with _ h3 _;exact absurd h3 (by decide)))]
 exact hat i hi
def Am(Pz:Nat->Prop)(w:T)(m:Mo)(ps:List am)(l:am)(code:Int)(v:Q):Prop:=
 ∃lo lc no nc so sc,v=F #[.slice lo ps.length lc,.slice no (AM m code).length nc,.slice so (2^(AA l).length) sc]/\BoolsV w (.slice lo ps.length lc) (AJ m ps code)/\IntsV w (.slice no (AM m code).length nc) (AM m code)/\IntsV w (.slice so (2^(AA l).length) sc) (sgL l (AJ m ps code))/\Af w (.slice lo ps.length lc) 4/\Af w (.slice no (AM m code).length nc) 3/\Af w (.slice so (2^(AA l).length) sc) 3/\(∀a,no=W a->Pz a.block)/\(∀a,so=W a->Pz a.block)
theorem Am.sk{bs bl:Nat}{w w':T}{m:Mo}{ps:List am}{l:am}{code:Int}{v:Q}(h:Am Pz w m ps l code v)(hs:Sk bs bl w w')(hm:Cf w bs bl):Am Pz w' m ps l code v:=by
 obtain⟨lo,lc,no,nc,so,sc,h1,h2,h3,h4,h5,h6,h7,h8⟩:=h;exact⟨lo,lc,no,nc,so,sc,h1,h2.sk hs hm,h3.sk hs hm,h4.sk hs hm,h5.sk hs hm,h6.sk hs hm,h7.sk hs hm,h8⟩
theorem Am.below{w w':T}{m:Mo}{ps:List am}{l:am}{code:Int}{v:Q}(h:Am Pz w m ps l code v)(hb:V w.heap.size w w'):Am Pz w' m ps l code v:=by
 obtain⟨lo,lc,no,nc,so,sc,h1,h2,h3,h4,h5,h6,h7,h8⟩:=h;exact⟨lo,lc,no,nc,so,sc,h1,h2.below hb,h3.below hb,h4.below hb,h5.below hb,h6.below hb,h7.below hb,h8⟩
theorem Am.grown{w w':T}{m:Mo}{ps:List am}{l:am}{code:Int}{v:Q}{own:Option Nat}(h:Am Pz w m ps l code v)(hg:w.grownBy w' own)(ho:∀g,own=W g->∃cs fr,w.heap[g]? = W (H cs 82 fr)):Am Pz w' m ps l code v:=by
 obtain⟨lo,lc,no,nc,so,sc,h1,h2,h3,h4,h5,h6,h7,h8⟩:=h;exact⟨lo,lc,no,nc,so,sc,h1,h2.grown h5 hg ho,h3.grown h6 hg ho,h4.grown h7 hg ho,h5.grown hg (by decide) ho,h6.grown hg (by decide) ho,h7.grown hg (by decide) ho,h8⟩
def six(x:List Bool):List Bool:=x++List.replicate (6-x.length) G
def FD(x:List Bool)(c sg:Int):Value:=.agg ((six x).map Value.bool++[Value.int .i64 c,Value.int .i64 sg]).toArray
theorem SE{x y:List Bool}{c d s t:Int}(hl:x.length=y.length)(h:FD x c s=FD y d t):x=y/\c=d/\s=t:=by
 unfold FD at h;injection h with h;have h1:=congrArg Array.toList h;have hs:((six x).map Value.bool).length=((six y).map Value.bool).length:=by simp[six,hl]
 obtain⟨h2,h3⟩:=kK h1 hs;have h4:six x=six y:=by
  have:=List.map_inj_right (f:=Value.bool) (fun a b hab=>by injection hab) |>.1 h2;exact this
 unfold six at h4;have h5:=(kK h4 hl).1;simp at h3;exact⟨h5,h3.1,h3.2⟩
def GB(ps:List am)(l:am)(kl:Lit)(v:Q):Prop:=
 ∃(x:List Bool) (c sg:Int) (b:Bool),x.length=ps.length/\keyOf qA 193 (FD x c sg)=W kl/\v=F #[.bool b]/\∀(y:List Bool) (d:Int),y.length=ps.length->BI l y d=0->Er l (tru l y d)=sg->BC l x c y d=b
structure SvOk(Pz:Nat->Prop)(w0 w:T)(B bs bl n:Nat)(va vr pv fv:Q)(m:Mo)(ps:List am)(l:am)(ho:Option Addr)(hc:Nat):Prop where
 box:SurvAt w B va vr pv fv (.slice ho (AA l).length hc) bs bl
 bel:V w0.heap.size w0 w
 lo1:w0.heap.size<=bs
 lo2:w0.heap.size<=bl
 ne:bs≠bl
 ah:IntsV w (.slice ho (AA l).length hc) (AA l)
 aty:Af w (.slice ho (AA l).length hc) 3
 up:∀b,w.heap.size<=b->Pz b
 aP:∀a,ho=W a->Pz a.block
 st:∃f,MapIs w 3 bs n f/\∀kl v,f kl=W v->∃code,kl=.int U code/\(0<=code/\code<AL m.vars m.vars.length)/\Am Pz w m ps l code v
 li:∃f,MapIs w 193 bl n f/\∀kl v,f kl=W v->GB ps l kl v
section
variable{w0 w w':T}{B bs bl n:Nat}{va vr pv fv:Q}{m:Mo}{ps:List am}{l:am}{ho:Option Addr}{hc:Nat}
theorem SvOk.two(h:SvOk Pz w0 w B bs bl n va vr pv fv m ps l ho hc):Cf w bs bl:=by
 obtain⟨f,h1,_⟩:=h.st;obtain⟨g,h2,_⟩:=h.li;exact⟨h1.isMap,h2.isMap⟩
theorem SvOk.below(h:SvOk Pz w0 w B bs bl n va vr pv fv m ps l ho hc)(hb:V w.heap.size w w'):SvOk Pz w0 w' B bs bl n va vr pv fv m ps l ho hc:=by
 obtain⟨f,h1,h2⟩:=h.st;obtain⟨g,h3,h4⟩:=h.li;refine⟨h.box.later hb,h.bel.trans (hb.mono h.bel.size),h.lo1,h.lo2,h.ne,h.ah.below hb,h.aty.below hb,fun b hb2=>h.up b (qI hb.size hb2),h.aP,⟨f,h1.kept (hb.block _ h1.lt),fun kl v hv=>?_⟩,⟨g,h3.kept (hb.block _ h3.lt),h4⟩⟩;obtain⟨code,e1,e2,e3⟩:=h2 kl v hv;exact⟨code,e1,e2,e3.below hb⟩
theorem MapIs.mono{w:T}{kt:TypeId}{b n n':Nat}{f:Lit->Option Q}(h:MapIs w kt b n f)(hn:n<=n'):MapIs w kt b n' f:=by
 obtain⟨D,h1,h2⟩:=h;exact⟨D,h1.mono hn,h2⟩
theorem SvOk.mono{n':Nat}(h:SvOk Pz w0 w B bs bl n va vr pv fv m ps l ho hc)(hn:n<=n'):SvOk Pz w0 w B bs bl n' va vr pv fv m ps l ho hc:=by
 obtain⟨f,h1,h2⟩:=h.st;obtain⟨g,h3,h4⟩:=h.li;exact⟨h.box,h.bel,h.lo1,h.lo2,h.ne,h.ah,h.aty,h.up,h.aP,⟨f,h1.mono hn,h2⟩,⟨g,h3.mono hn,h4⟩⟩
theorem SvOk.putL(h:SvOk Pz w0 w B bs bl n va vr pv fv m ps l ho hc){f:Lit->Option Q}{kl:Lit}{v:Q}(hg:w.grownBy w' (W bl))(h2:∀kl v,f kl=W v->GB ps l kl v)
  (hm:MapIs w' 193 bl (n+1) (Dm f kl v)) (hv:GB ps l kl v):SvOk Pz w0 w' B bs bl (n+1) va vr pv fv m ps l ho hc:=by
 have hs:Sk bs bl w w':=Sk.grown hg (.inr rfl);have ht:=h.two;obtain⟨g,h3,h4⟩:=h.st;refine⟨h.box.sk hs ht,h.bel.trans (hs.below h.lo1 h.lo2 h.bel.size),h.lo1,h.lo2,h.ne,h.ah.sk hs ht,h.aty.sk hs ht,fun b hb2=>h.up b (qI hs.size hb2),h.aP,⟨g,(h3.kept (hg.block _ h3.lt (by intro e;injection e with e;exact h.ne e))).mono (vE _),fun k u hu=>?_⟩,⟨_,hm,fun k u hu=>?_⟩⟩
 .obtain ⟨c,e1,e2,e3⟩:=h4 k u hu;exact⟨c,e1,e2,e3.sk hs ht⟩
 .by_cases hk:k=kl
  .subst hk;rw[Gh]at hu;cases hu
   exact hv
  .rw[Gg hk]at hu;exact h2 k u hu
theorem SvOk.spots{own:Option Nat}(h:SvOk Pz w0 w B bs bl n va vr pv fv m ps l ho hc)(hg:w.grownBy w' own)(hown:∀g,own=W g->B<g/\w0.heap.size<=g/\∃cs fr,w.heap[g]? = W (H cs 82 fr)):SvOk Pz w0 w' B bs bl n va vr pv fv m ps l ho hc:=by
 have hty:∀g,own=W g->∃cs fr,w.heap[g]? = W (H cs 82 fr):=fun g e=>(hown g e).2.2;have hbx:∀i v,w.cell? (A B i Y)=W v->w'.cell? (A B i Y)=W v:=fun i v hv=>by
  rw[eJ (hg.block B h.box.lt (fun e=>by have:=(hown B e.symm).1;omega))];exact hv
 obtain⟨f,h1,h2⟩:=h.st;obtain⟨q,h3,h4⟩:=h.li;have hms:∀b es c,w.heap[b]? = W (.map es c)->b<w.heap.size->w'.heap[b]? = w.heap[b]?:=fun b es c e hlt=>hg.block b hlt (fun e2=>by
  obtain⟨cs,fr,e3⟩:=hty b e2.symm;rw[e]at e3;simp at e3)
 obtain⟨es1,c1,m1⟩:=h1.isMap;obtain⟨es2,c2,m2⟩:=h3.isMap;refine⟨⟨qE h.box.lt hg.size,hbx _ _ h.box.c0,hbx _ _ h.box.c1,hbx _ _ h.box.c2,hbx _ _ h.box.c3,hbx _ _ h.box.c4,hbx _ _ h.box.c5,hbx _ _ h.box.c6⟩,?_,h.lo1,h.lo2,h.ne,h.ah.grown h.aty hg hty,h.aty.grown hg (by decide) hty,fun b hb2=>h.up b (qI hg.size hb2),h.aP,⟨f,h1.kept (hms bs _ _ m1 h1.lt),fun kl v hv=>?_⟩,⟨q,h3.kept (hms bl _ _ m2 h3.lt),h4⟩⟩
 .refine h.bel.trans ⟨hg.os,hg.tape,hg.output,hg.size,fun i hi=>hg.block i (qE hi h.bel.size) (fun e=>by have:=(hown i e.symm).2.1;omega)⟩
 .obtain ⟨code,e1,e2,e3⟩:=h2 kl v hv;exact⟨code,e1,e2,e3.grown hg hty⟩
end
structure Chg(Z:Nat->Prop)(w w':T):Prop where
 os:w'.os=w.os
 tape:w'.tape=w.tape
 output:w'.output=w.output
 size:w.heap.size<=w'.heap.size
 block:∀i,i<w.heap.size->¬Z i->w'.heap[i]? = w.heap[i]?
theorem Chg.refl(Z:Nat->Prop)(w:T):Chg Z w w:=⟨rfl,rfl,rfl,qB _,fun _ _ _=>rfl⟩
theorem Chg.trans{Z:Nat->Prop}{a b c:T}(h:Chg Z a b)(k:Chg Z b c):Chg Z a c:=
 ⟨k.os.trans h.os,k.tape.trans h.tape,k.output.trans h.output,qI h.size k.size,fun i hi hz=>(k.block i (qE hi h.size) hz).trans (h.block i hi hz)⟩
theorem Chg.trans2{Z Z':Nat->Prop}{a b c:T}(h:Chg Z a b)(k:Chg Z' b c)(hz:∀i,i<a.heap.size->Z' i->Z i):Chg Z a c:=
 ⟨k.os.trans h.os,k.tape.trans h.tape,k.output.trans h.output,qI h.size k.size,fun i hi hn=>(k.block i (qE hi h.size) (fun h2=>hn (hz i hi h2))).trans (h.block i hi hn)⟩
theorem Chg.weaken{Z Z':Nat->Prop}{a b:T}(h:Chg Z a b)(hz:∀i,i<a.heap.size->Z i->Z' i):Chg Z' a b:=
 ⟨h.os,h.tape,h.output,h.size,fun i hi hn=>h.block i hi (fun h2=>hn (hz i hi h2))⟩
theorem Chg.of{Z:Nat->Prop}{w w':T}(h:V w.heap.size w w'):Chg Z w w':=⟨h.os,h.tape,h.output,h.size,fun i hi _=>h.block i hi⟩
theorem Chg.grown{w w':T}{own:Option Nat}(h:w.grownBy w' own):Chg (fun i=>own=W i) w w':=
 ⟨h.os,h.tape,h.output,h.size,fun i hi hz=>h.block i hi (fun e=>hz e.symm)⟩
theorem Chg.setCell(w:T)(p:Addr)(v:Q):Chg (fun i=>i=p.block) w (w.setCell p v):=
 ⟨rfl,rfl,rfl,by simp,fun i _ hz=>RowKit.Below.heap_setCell _ _ _ _ hz⟩
theorem Chg.below{Z:Nat->Prop}{base:Nat}{w w':T}(h:Chg Z w w')(hz:∀i,Z i->base<=i)(hb:base<=w.heap.size):V base w w':=
 ⟨h.os,h.tape,h.output,h.size,fun i hi=>h.block i (by omega) (fun h2=>by have:=hz i h2;omega)⟩
theorem Chg.cell{Z:Nat->Prop}{w w':T}(h:Chg Z w w'){p:Addr}{v:Q}(hp:w.cell? p=W v)(hz:¬Z p.block):w'.cell? p=W v:=by
 rw[eJ (h.block p.block (World.block_lt_of_cell? w p hp) hz)];exact hp
theorem Sk.chg{bs bl:Nat}{w w':T}(h:Sk bs bl w w'):Chg (fun i=>i=bs\/i=bl) w w':=
 ⟨h.os,h.tape,h.output,h.size,fun i hi hz=>h.block i hi (fun e=>hz (.inl e)) (fun e=>hz (.inr e))⟩
def TyB(w:T)(i:Nat)(t:TypeId):Prop:=∃cs fr,w.heap[i]? = W (H cs t fr)
theorem TyB.lt{w:T}{i:Nat}{t:TypeId}(h:TyB w i t):i<w.heap.size:=by
 obtain⟨cs,fr,h⟩:=h;exact(qG.1 h).1
theorem TyB.eq{w:T}{i:Nat}{t t':TypeId}(h:TyB w i t)(h':TyB w i t'):t=t':=by
 obtain⟨cs,fr,h⟩:=h;obtain⟨cs',fr',h'⟩:=h';rw[h]at h';injection h' with h';injection h' with _ h' _
theorem TyB.no_map{w:T}{i:Nat}{t:TypeId}(h:TyB w i t){es:Array MapEntry}{c:Nat}:w.heap[i]?≠W (.map es c):=by
 obtain⟨cs,fr,h⟩:=h;rw[h];simp
theorem Af.ty{w:T}{t:TypeId}{a:Addr}{n c:Nat}(h:Af w (.slice (W a) n c) t):TyB w a.block t:=h a n c rfl
theorem IntsV.chg{Z:Nat->Prop}{w w':T}{ao:Option Addr}{n c:Nat}{x:List Int}(h:IntsV w (X ao n c) x)(hs:Chg Z w w')(hz:∀a,ao=W a->¬Z a.block):IntsV w' (X ao n c) x:=by
 obtain⟨ao',cap,e,h⟩:=h;injection e with e1 e2 e3;subst e1 e2 e3;refine⟨ao,c,rfl,fun hne=>?_⟩;obtain⟨b,off,rfl,hlt,hat⟩:=h hne;exact⟨b,off,rfl,qE hlt hs.size,fun i hi=>hs.cell (hat i hi) (hz ⟨b,off,Y⟩ rfl)⟩
theorem BoolsV.chg{Z:Nat->Prop}{w w':T}{ao:Option Addr}{n c:Nat}{x:List Bool}(h:BoolsV w (X ao n c) x)(hs:Chg Z w w')(hz:∀a,ao=W a->¬Z a.block):BoolsV w' (X ao n c) x:=by
 obtain⟨ao',cap,e,h⟩:=h;injection e with e1 e2 e3;subst e1 e2 e3;refine⟨ao,c,rfl,fun hne=>?_⟩;obtain⟨b,off,rfl,hlt,hat⟩:=h hne;exact⟨b,off,rfl,qE hlt hs.size,fun i hi=>hs.cell (hat i hi) (hz ⟨b,off,Y⟩ rfl)⟩
theorem Af.chg{Z:Nat->Prop}{w w':T}{ao:Option Addr}{n c:Nat}{t:TypeId}(h:Af w (X ao n c) t)(hs:Chg Z w w')(hz:∀a,ao=W a->¬Z a.block):Af w' (X ao n c) t:=by
 intro a k c' e;injection e with e1 e2 e3;subst e1 e2 e3;obtain⟨cs,fr,h1⟩:=h a n c rfl;exact⟨cs,fr,(hs.block _ (qG.1 h1).1 (hz a rfl)).trans h1⟩
theorem BX{Z:Nat->Prop}{w w':T}{base:Nat}{e:TypeId}{s n:Nat}{v:Q}{xs:List Q}(h:w.ownsRow base e s v n xs)(hs:Chg Z w w')(hz:∀g,v.ownBlock=W g->¬Z g):w'.ownsRow base e s v n xs:=by
 refine⟨h.1,?_⟩;rcases h.2 with h0|⟨g,cap,cur,h1,h2,h3,h4⟩
 .exact .inl h0
 .refine .inr ⟨g,cap,cur,h1,h2,?_,h4⟩;rw[hs.block g (qG.1 h3).1 (hz g (by rw[h1];simp[Value.ownBlock]))];exact h3
theorem A0{w:T}{base:Nat}{e:TypeId}{s n:Nat}{v:Q}{xs:List Q}(h:w.ownsRow base e s v n xs){g:Nat}(hg:v.ownBlock=W g):base<=g/\TyB w g e:=by
 rcases h.2 with⟨h0,_⟩|⟨g',cap',cur,h1,h2,h3,_⟩
 .rw[h0]at hg;simp[Value.ownBlock]at hg
 .rw[h1]at hg;simp[Value.ownBlock]at hg;subst hg;exact⟨h2,cur,_,h3⟩
theorem MapIs.chg{Z:Nat->Prop}{w w':T}{kt:TypeId}{b n:Nat}{f:Lit->Option Q}(h:MapIs w kt b n f)(hs:Chg Z w w')(hz:¬Z b):MapIs w' kt b n f:=h.kept (hs.block b h.lt hz)
section
variable{Pz:Nat -> Prop}{w0 w w':T}{B bs bl n:Nat}{va vr pv fv:Q}{m:Mo}{ps:List am}{l:am}{ho:Option Addr}{hc:Nat}
theorem Am.chg{Z:Nat->Prop}{code:Int}{v:Q}(h:Am Pz w m ps l code v)(hs:Chg Z w w')(hz:∀i,Z i->¬TyB w i 4/\(TyB w i 3->¬Pz i)):Am Pz w' m ps l code v:=by
 obtain⟨lo,lc,no,nc,so,sc,h1,h2,h3,h4,h5,h6,h7,h8,h9⟩:=h;have z1:∀a,lo=W a->¬Z a.block:=fun a e z=>by subst e;exact(hz _ z).1 h5.ty
 have z2:∀a,no=W a->¬Z a.block:=fun a e z=>by subst e;exact(hz _ z).2 h6.ty (h8 a rfl)
 have z3:∀a,so=W a->¬Z a.block:=fun a e z=>by subst e;exact(hz _ z).2 h7.ty (h9 a rfl)
 exact⟨lo,lc,no,nc,so,sc,h1,h2.chg hs z1,h3.chg hs z2,h4.chg hs z3,h5.chg hs z1,h6.chg hs z2,h7.chg hs z3,h8,h9⟩
theorem SvOk.chg{Z:Nat->Prop}(h:SvOk Pz w0 w B bs bl n va vr pv fv m ps l ho hc)(hs:Chg Z w w')(hz:∀i,Z i->w0.heap.size<=i/\i≠B/\i≠bs/\i≠bl/\¬TyB w i 4/\(TyB w i 3->¬Pz i)):SvOk Pz w0 w' B bs bl n va vr pv fv m ps l ho hc:=by
 have zB:¬Z B:=fun z=>(hz _ z).2.1 rfl;have zs:¬Z bs:=fun z=>(hz _ z).2.2.1 rfl;have zl:¬Z bl:=fun z=>(hz _ z).2.2.2.1 rfl;have za:∀a,ho=W a->¬Z a.block:=fun a e z=>(hz _ z).2.2.2.2.2 (by have:=h.aty;rw[e]at this;exact this.ty) (h.aP a e);obtain⟨f,h1,h2⟩:=h.st;obtain⟨q,h3,h4⟩:=h.li;refine⟨⟨qE h.box.lt hs.size,hs.cell h.box.c0 zB,hs.cell h.box.c1 zB,hs.cell h.box.c2 zB,hs.cell h.box.c3 zB,hs.cell h.box.c4 zB,hs.cell h.box.c5 zB,hs.cell h.box.c6 zB⟩,h.bel.trans (hs.below (fun i z=>(hz i z).1) h.bel.size),h.lo1,h.lo2,h.ne,h.ah.chg hs za,h.aty.chg hs za,fun b hb=>h.up b (qI hs.size hb),h.aP,⟨f,h1.chg hs zs,fun kl v hv=>?_⟩,⟨q,h3.chg hs zl,h4⟩⟩;obtain⟨code,e1,e2,e3⟩:=h2 kl v hv;exact⟨code,e1,e2,e3.chg hs fun i z=>(hz i z).2.2.2.2⟩
theorem Am.re{Pz':Nat->Prop}{code:Int}{v:Q}(h:Am Pz w m ps l code v)(hp:∀b,b<w.heap.size->Pz b->Pz' b):Am Pz' w m ps l code v:=by
 obtain⟨lo,lc,no,nc,so,sc,h1,h2,h3,h4,h5,h6,h7,h8,h9⟩:=h;exact⟨lo,lc,no,nc,so,sc,h1,h2,h3,h4,h5,h6,h7,fun a e=>by subst e;exact hp _ h6.ty.lt (h8 a rfl),fun a e=>by subst e;exact hp _ h7.ty.lt (h9 a rfl)⟩
theorem SvOk.re{Pz':Nat->Prop}(h:SvOk Pz w0 w B bs bl n va vr pv fv m ps l ho hc)(hp:∀b,b<w.heap.size->Pz b->Pz' b)(hup:∀b,w.heap.size<=b->Pz' b):SvOk Pz' w0 w B bs bl n va vr pv fv m ps l ho hc:=by
 obtain⟨f,h1,h2⟩:=h.st;refine⟨h.box,h.bel,h.lo1,h.lo2,h.ne,h.ah,h.aty,hup,fun a e=>hp _ (by have:=h.aty;rw[e]at this;exact this.ty.lt) (h.aP a e),⟨f,h1,fun kl v hv=>?_⟩,h.li⟩;obtain⟨code,e1,e2,e3⟩:=h2 kl v hv;exact⟨code,e1,e2,e3.re hp⟩
end
theorem VR(B:Nat)(va vr pv fv lv:Q)(l:am)(lt:List Bool)(c:Nat)(ho:Option Addr)(hcp bs bl:Nat)(w:T)(hB:0<w.heap.size)(hT:AF w)(hF:OpsV w fv l)(hL:BoolsV w lv lt)
  (hz:AU (l.map Prod.fst)=0) (h6:(AA l).length<=6) (htc:BI l lt (c:Int)=0) (hS:SurvAt w B va vr pv fv (.slice ho (AA l).length hcp) bs bl) (hA:IntsV w (.slice ho (AA l).length hcp) (AA l)) :
  I qA 90 #[J (W (A B 0 Y)),lv,.int U (c:Int)] w fun e w'=>e=O (K #[E U (Du l lt c),.int U 0])/\V w.heap.size w w':=by
 obtain⟨hne,h60⟩:=D3 hz;rw[qM]at h60;have hl0:0<l.length:=by
  rcases jG l.length with h0|h0
  .rw[jH.1 h0]at hne;simp at hne
  .exact h0
 have htr:I qA 33 #[fv,lv,.int U (c:Int)] w fun e w'=>∃b off cp,e=O (K #[X (W (A b off Y)) l.length cp,.int U 0])/\V w.heap.size w w'/\b<w'.heap.size/\S (∀j,j<l.length->w'.cell? ⟨b,off+j,Y⟩=W (.bool (tru l lt (c:Int) j))):=by
  refine(MA fv lv l lt (c:Int) w hB hT hF hL).mono fun e w' ⟨v,h1,h2,h3⟩=>?_;have t2:DR l lt (c:Int)=(aE l.length).map (tru l lt (c:Int)):=by unfold DR;rw[aj htc]
  rw[t2]at h3;obtain⟨lo,lc,rfl,hx⟩:=h3;obtain⟨b,off,rfl,hb,hat⟩:=hx (by intro h0;have:=congrArg aM h0;rw[qM,vB,vG]at this;omega);refine⟨b,off,lc,by rw[h1,htc];simp,h2,hb,fun j hj=>?_⟩;have c0:=hat j (by simpa using hj);rw[c0];simp[qC,hj]
 obtain⟨fo,fc,rfl,_,hfv⟩:=id hF;obtain⟨fb,foff,rfl,hfb,hfat⟩:=hfv (by intro h0;rw[h0]at hl0;simp at hl0);obtain⟨lo,lc,rfl,_⟩:=id hL;have HP:S (∀k,k<(AA l).length->∃p:Nat,(∃ab aoff,ho=W (A ab aoff Y)/\ab<w.heap.size/\w.cell? ⟨ab,aoff+k,Y⟩=W (.int U (p:Int)))/\p<l.length/\DF l p<l.length/\w.cell? ⟨fb,foff+p*2,Y⟩=W (.int U (l.getD p (0,0)).1)/\((AA l).getD k 0).toNat=p):=fun k hk=>by
  obtain⟨p,h1,h2,h3,_⟩:=GJ l l.length k hk;obtain⟨ao2,c2,e1,hah⟩:=hA;injection e1 with e2 e3 e4;subst e2;obtain⟨ab,aoff,rfl,hab,haat⟩:=hah (by intro h0;rw[h0]at hk;simp at hk);have h1':(AA l).getD k 0=(p:Int):=h1;refine⟨p,⟨ab,aoff,rfl,hab,by rw[haat k hk,h1']⟩,h2,?_,(hfat p h2).1,by rw[h1'];rfl⟩;unfold DF;split
  .refine (Hd hz h2).1 ?_;have hk':14<=(l.getD p (0,0)).1/\(l.getD p (0,0)).1<=18:=by simpa[Ag]using h3
   unfold pn;split
   .omega
   .split<;>omega
  .exact h2
 have HSt:S (∀k,CH l (tru l lt (c:Int)) (k+1)=CH l (tru l lt (c:Int)) k+if tru l lt (c:Int) (DF l ((AA l).getD k 0).toNat)=true then 2^k else 0):=fun _=>rfl;have HSb:S (∀k,0<=CH l (tru l lt (c:Int)) k/\CH l (tru l lt (c:Int)) k<2^k):=Hq _ _;have HS0:S (CH l (tru l lt (c:Int)) 0=0):=rfl;unfold Du Er;generalize CH l (tru l lt (c:Int))=sg at *;generalize hth:tru l lt (c:Int)=th at *;obtain⟨_,s0,s1,s2,s3,s4,s5,s6⟩:=id hS
 have HS:S (∀w1,V w.heap.size w w1->w1.cell? (A B 3 Y)=W (X (W (A fb foff Y)) l.length fc)/\w1.cell? (A B 4 Y)=W (.slice ho (AA l).length hcp)):=fun w1 h=>⟨(hS.later h).c3,(hS.later h).c4⟩;have HFb:S (fb<w.heap.size):=hfb;generalize(AA l).length=an at *;generalize lt.length=ltn at *;generalize hnn:l.length=n at *;clear hT hF hL hz htc hA hfv hfat hnn hth hS hne hfb
 go_enter Tryz.func90,Tryz.ntmps90;go_wp2_with (first|(go_at_call 33;refine htr.mono ?_;rintro e w1 ⟨b,off,cp,rfl,hb1,hblt,HTb⟩;obtain⟨q3,q4⟩:=HS.out w1 hb1))
 clear htr;go_loopw [10,33] (fun x i wr=>∃k:Nat,k<=an/\i=.int U (k:Int)/\x=.int U (sg k)/\wr=w1) (fun _ i _=>an-(intOf i).toNat)
 case atStart=>exact⟨0,qJ _,rfl,by rw[HS0.out],rfl⟩
 case round=>
  obtain⟨k,hk,rfl,rfl,rfl⟩:=hrel;by_cases hlt:k<an
  .obtain ⟨p,⟨ab,aoff,rfl,hab,hca⟩,hpn,hpa,hpc,hpi⟩:=HP.out k hlt;have HSk:=(show S _ from HSt.out k);rw[hpi]at HSk;have d0:=(hb1.cell (p:=⟨ab,aoff+k,Y⟩) hab).trans hca;have d1:=(hb1.cell (p:=⟨fb,foff+p*2,Y⟩) HFb.out).trans hpc;have d2:=HTb.out (DF l p) hpa;obtain⟨hm0,hm1⟩:=HSb.out k;have hk6:k<6:=by omega
   have hps:=M1 (k:=k) (by omega);have h2k:(0:Int)<2^k:=Int.pow_pos (by decide);have HOr:S (bits BinOp.or IntKind.i64 (sg k) (2^k)=sg k+2^k):=Mi hk6 hm0 hm1;have hpi2:(p:Int)<(n:Int):=by omega
   unfold DF at d2 hpa HSk;clear HP HSt HSb hca hpc hpi;by_cases h14:(l.getD p (0,0)).1=14
   .rw[aj h14]at d2 hpa HSk;rw[h14]at d1;have hpa2:(p:Int)+1<(n:Int):=by omega
    clear h14;generalize th (p+1)=tv at *
    cases tv with
    |true=>
     have HS2:S (sg (k+1)=sg k+2^k):=by show _=_;rw[HSk.out];simp
     clear HSk;go_wp2_with fail
     exact⟨⟨k+1,hlt,by first|rfl|simp,by rw[HS2.out,<-HOr.out],by trivial⟩,by simp[intOf];omega⟩
    |false=>
     have HS2:S (sg (k+1)=sg k):=by show _=_;rw[HSk.out];simp
     clear HSk;go_wp2_with fail
     exact⟨⟨k+1,hlt,by first|rfl|simp,by rw[HS2.out],by trivial⟩,by simp[intOf];omega⟩
   .rw[ak h14]at d2 hpa HSk;generalize(l.getD p (0,0)).1=kx at *;generalize th p=tv at *
    cases tv with
    |true=>
     have HS2:S (sg (k+1)=sg k+2^k):=by show _=_;rw[HSk.out];simp
     clear HSk;go_wp2_with fail
     exact⟨⟨k+1,hlt,by first|rfl|simp,by rw[HS2.out,<-HOr.out],by trivial⟩,by simp[intOf];omega⟩
    |false=>
     have HS2:S (sg (k+1)=sg k):=by show _=_;rw[HSk.out];simp
     clear HSk;go_wp2_with fail
     exact⟨⟨k+1,hlt,by first|rfl|simp,by rw[HS2.out],by trivial⟩,by simp[intOf];omega⟩
  .obtain rfl:k=an:=by omega
   go_wp2_with fail
   go_ret2;exact⟨rfl,hb1⟩
variable{Pz:Nat -> Prop}
theorem EB:Keyed qA 3:=int_keyed bI
theorem KR(w:T):(zeroValue 148).run qA w=.ok (F #[X Y 0 0,X Y 0 0,X Y 0 0]) w:=by kernel_rfl
theorem Ei{x:Int}(h:-9223372036854775808<=x/\x<=9223372036854775807):keyOf qA 3 (.int U x)=W (.int U x):=keyOf_int_mk bI (WalkArith.wf_i64 (by omega))
theorem Mn{w:T}{base n:Nat}{v:Q}{t:TypeId}{s:Nat}{xs:List Q}(h:w.ownsRow base t s v n xs):∀(a:Addr) (k c:Nat),v=.slice (W a) k c->base<=a.block:=by
 intro a k c e;rcases h.2 with⟨h0,_⟩|⟨g,cap,cur,h1,h2,_⟩
 .rw[h0]at e;simp at e
 .rw[h1]at e;injection e with e _ _;injection e with e;subst e;exact h2
def St3(w:T)(b:Nat)(x y z:Q):Prop:=b<w.heap.size/\(w.cell? (A b 0 Y)=W x/\w.cell? (A b 1 Y)=W y/\w.cell? (A b 2 Y)=W z)/\w.frozen? (A b 0 Y)=G/\w.frozen? (A b 1 Y)=G/\w.frozen? (A b 2 Y)=G
theorem St3.new(w:T)(x y z:Q)(t:TypeId):St3 (w.alloc (H #[x,y,z] t)) w.heap.size x y z:=by
 refine⟨by simp,⟨?_,?_,?_⟩,?_,?_,?_⟩<;>simp[go_sem]
theorem St3.later{w w':T}{b:Nat}{x y z:Q}(h:St3 w b x y z)(hb:V w.heap.size w w'):St3 w' b x y z:=
 ⟨qE h.1 hb.size,⟨(hb.cell (p:=(A b 0 Y)) h.1).trans h.2.1.1,(hb.cell (p:=(A b 1 Y)) h.1).trans h.2.1.2.1,(hb.cell (p:=(A b 2 Y)) h.1).trans h.2.1.2.2⟩,(hb.frozen (p:=(A b 0 Y)) h.1).trans h.2.2.1,(hb.frozen (p:=(A b 1 Y)) h.1).trans h.2.2.2.1,(hb.frozen (p:=(A b 2 Y)) h.1).trans h.2.2.2.2⟩
def EW(Pz:Nat->Prop)(w0 w:T)(B bs bl n:Nat)(va vr pv fv:Q)(m:Mo)(ps:List am)(l:am)(ho:Option Addr)(hc:Nat)(code:Int)(e:Ending)(w':T):Prop:=
 Sk bs bl w w'/\S (SvOk Pz w0 w' B bs bl (n+1) va vr pv fv m ps l ho hc)/\((Av m code=0/\∃lo lc no nc so sc,e=O (K #[F #[.slice lo ps.length lc,.slice no (AM m code).length nc,.slice so (2^(AA l).length) sc],.int U 0])/\S (Am Pz w' m ps l code (F #[.slice lo ps.length lc,.slice no (AM m code).length nc,.slice so (2^(AA l).length) sc])))\/(Av m code≠0/\e=O (K #[F #[X Y 0 0,X Y 0 0,X Y 0 0],.int U (Av m code)])))
theorem Vk(w0 w:T)(B bs bl n:Nat)(va vr pv fv:Q)(m:Mo)(ps:List am)(l:am)(ho:Option Addr)(hc:Nat)(code:Int)(hI:-9223372036854775808<=code/\code<=9223372036854775807)(hm0:mcode m=0)(hS:SvOk Pz w0 w B bs bl n va vr pv fv m ps l ho hc)
  (f:Lit->Option Q) (hf:MapIs w 3 bs n f) (hfs:∀kl v,f kl=W v->∃code,kl=.int U code/\(0<=code/\code<AL m.vars m.vars.length)/\Am Pz w m ps l code v) (v:Q) (hv:f (.int U code)=W v) :
  I qA 61 #[J (W (A B 0 Y)),.int U code] w (EW Pz w0 w B bs bl n va vr pv fv m ps l ho hc code):=by
 obtain⟨c',e1,hcr,hst⟩:=hfs _ _ hv;injection e1 with _ e1;subst e1;have hw0:=EM hm0 hcr;obtain⟨lo,lc,no,nc,so,sc,rfl,_⟩:=id hst;obtain⟨W1,hW1⟩:∃W1,W1=w.alloc (H #[X Y 0 0,X Y 0 0,X Y 0 0] 148):=⟨_,rfl⟩;have hb1:V w.heap.size w W1:=by rw[hW1];exact ai
 have h4:St3 W1 w.heap.size (X Y 0 0) (X Y 0 0) (X Y 0 0):=by rw[hW1];exact St3.new _ _ _ _ _
 have hlk:(Instr.lookup 72 (.map (W bs)) (.int U code) true).run qA W1=.ok (K #[F #[.slice lo ps.length lc,.slice no (AM m code).length nc,.slice so (2^(AA l).length) sc],.bool true]) W1:=by
  have:=(hf.kept (hb1.block _ hf.lt)).look EB fM (KR _) (Ei hI);rw[hv]at this;exact this
 have c5:=(hS.box.later hb1).c5;have HFin:S (∀w',V w.heap.size w w'->Sk bs bl w w'/\SvOk Pz w0 w' B bs bl (n+1) va vr pv fv m ps l ho hc/\Am Pz w' m ps l code (F #[.slice lo ps.length lc,.slice no (AM m code).length nc,.slice so (2^(AA l).length) sc])):=fun w' h=>⟨Sk.of h,(hS.below h).mono (vE _),hst.below h⟩;have HW:S (Av m code=0):=hw0;unfold EW;generalize ps.length=pn at *;generalize(AM m code).length=nn at *;generalize 2^(AA l).length=N at *;obtain⟨hl4,⟨k0,k1,k2⟩,g0,g1,g2⟩:=id h4;have HH4:S (St3 W1 w.heap.size (X Y 0 0) (X Y 0 0) (X Y 0 0)):=h4;clear hS hf hfs hv hst hw0 h4;subst hW1
 go_enter fA,fG;go_wp2_with fail
 have hb:V w.heap.size w ((w.alloc (H #[X lo pn lc,X no nn nc,X so N sc] 148)).alloc (H #[X lo pn lc,X no nn nc,X so N sc] 148)):=(ai).alloc (by simp) _;obtain⟨r1,r2,r3⟩:=HFin.out _ hb;refine bodyPost_ret (v:=K #[F #[X lo pn lc,X no nn nc,X so N sc],.int U 0]) ?_ rfl ⟨r1,r2,.inl ⟨HW.out,lo,lc,no,nc,so,sc,rfl,r3⟩⟩;simp[results,fK,go_sem]
theorem BoolsV.setBox{w:T}{v:Q}{l:List Bool}{p:Addr}{a:Option Addr}{n c:Nat}(h:BoolsV w v l)(hc:w.cell? p=W (X a n c))(u:Q):BoolsV (w.setCell p u) v l:=by
 obtain⟨ao,cap,rfl,h⟩:=h;refine⟨ao,cap,rfl,fun hne=>?_⟩;obtain⟨b,off,rfl,hlt,hat⟩:=h hne;refine⟨b,off,rfl,by simpa using hlt,fun i hi=>?_⟩;have h1:=hat i hi;have hne2:(⟨b,off+i,Y⟩:Addr)≠p:=by
  intro e;rw[e,hc]at h1;simp at h1
 rw[bM _ _ _ _ hne2.symm];exact h1
theorem IntsV.setBox{w:T}{v:Q}{l:List Int}{p:Addr}{a:Option Addr}{n c:Nat}(h:IntsV w v l)(hc:w.cell? p=W (X a n c))(u:Q):IntsV (w.setCell p u) v l:=by
 obtain⟨ao,cap,rfl,h⟩:=h;refine⟨ao,cap,rfl,fun hne=>?_⟩;obtain⟨b,off,rfl,hlt,hat⟩:=h hne;refine⟨b,off,rfl,by simpa using hlt,fun i hi=>?_⟩;have h1:=hat i hi;have hne2:(⟨b,off+i,Y⟩:Addr)≠p:=by
  intro e;rw[e,hc]at h1;simp at h1
 rw[bM _ _ _ _ hne2.symm];exact h1
theorem Sk.setNew{bs bl:Nat}{w w':T}(h:Sk bs bl w w'){p:Addr}(hp:w.heap.size<=p.block)(v:Q):Sk bs bl w (w'.setCell p v):=
 ⟨h.os,h.tape,h.output,by simpa using h.size,fun i hi h1 h2=>(RowKit.Below.heap_setCell _ _ _ _ (by omega)).trans (h.block i hi h1 h2)⟩
theorem SvOk.putN{w0 w w':T}{B bs bl n:Nat}{va vr pv fv:Q}{m:Mo}{ps:List am}{l:am}{ho:Option Addr}{hc:Nat}(h:SvOk Pz w0 w B bs bl n va vr pv fv m ps l ho hc){f:Lit->Option Q}{code:Int}{v:Q}(hs:Sk bs bl w w')(hbl:w'.heap[bl]? = w.heap[bl]?)(h2:∀kl v,f kl=W v->∃code,kl=.int U code/\(0<=code/\code<AL m.vars m.vars.length)/\Am Pz w m ps l code v)
  (hm:MapIs w' 3 bs (n+1) (Dm f (.int U code) v)) (hc':0<=code/\code<AL m.vars m.vars.length) (hv:Am Pz w' m ps l code v):SvOk Pz w0 w' B bs bl (n+1) va vr pv fv m ps l ho hc:=by
 have ht:=h.two;obtain⟨g,h3,h4⟩:=h.li;refine⟨h.box.sk hs ht,h.bel.trans (hs.below h.lo1 h.lo2 h.bel.size),h.lo1,h.lo2,h.ne,h.ah.sk hs ht,h.aty.sk hs ht,fun b hb2=>h.up b (qI hs.size hb2),h.aP,⟨_,hm,fun kl u hu=>?_⟩,⟨g,(h3.kept hbl).mono (vE _),h4⟩⟩;by_cases hk:kl=.int U code
 .subst hk;rw[Gh]at hu;cases hu
  exact⟨code,rfl,hc',hv⟩
 .rw[Gg hk]at hu;obtain⟨c,e1,e2,e3⟩:=h2 kl u hu;exact⟨c,e1,e2,e3.sk hs ht⟩
theorem Vm(w0 w:T)(B bs bl n:Nat)(va vr pv fv:Q)(m:Mo)(ps:List am)(l:am)(ho:Option Addr)(hc:Nat)(code:Int)(hI:-9223372036854775808<=code/\code<=9223372036854775807)(hB:0<w0.heap.size)(hT:AF w0)(hV:TaskV w0 va vr pv fv m ps l)(hk:AX m ps l=0)(hS:SvOk Pz w0 w B bs bl n va vr pv fv m ps l ho hc)
  (f:Lit->Option Q) (hf:MapIs w 3 bs n f) (hv:f (.int U code)=Y) (hw:Av m code≠0) :
  I qA 61 #[J (W (A B 0 Y)),.int U code] w (EW Pz w0 w B bs bl n va vr pv fv m ps l ho hc code):=by
 obtain⟨hp0,_⟩:=BU hk;obtain⟨ao,ac,rfl⟩:=hV.mo.1.shape;obtain⟨ro,rc,rfl⟩:=hV.mo.2.shape;obtain⟨po,pc,rfl⟩:=hV.ps.shape;obtain⟨W1,hW1⟩:∃W1,W1=w.alloc (H #[X Y 0 0,X Y 0 0,X Y 0 0] 148):=⟨_,rfl⟩;have hb1:V w.heap.size w W1:=by rw[hW1];exact ai
 have hlk:(Instr.lookup 72 (.map (W bs)) (.int U code) true).run qA W1=.ok (K #[F #[X Y 0 0,X Y 0 0,X Y 0 0],.bool G]) W1:=by
  have:=(hf.kept (hb1.block _ hf.lt)).look EB fM (KR _) (Ei hI);rw[hv]at this;exact this
 have c5:=(hS.box.later hb1).c5;have hb2:V w.heap.size w (W1.alloc (H #[X Y 0 0,X Y 0 0,X Y 0 0] 148)):=hb1.alloc hb1.size _;have HLe:S (∀w1,V w.heap.size w w1->I qA 31 #[F #[.slice ao m.vars.length ac,.slice ro m.rules.length rc],.slice po ps.length pc,.int U code] w1 fun e w'=>∃lo ln lc,e=O (K #[X lo ln lc,.int U (Av m code)])/\V w1.heap.size w1 w'):=fun w1 h=>by
  have h0:=hS.bel.trans (h.mono hS.bel.size);refine(L4 _ _ _ m ps code w1 (qE hB h0.size) (hT.below h0 hB) (hV.mo.below h0) (hV.ps.below h0)).mono fun e w' ⟨v,h1,h2,h3⟩=>?_;have e1:Ci m ps code=Av m code:=by unfold Ci;rw[aj hp0]
  obtain⟨lo,lc,rfl,_⟩:=h3;exact⟨lo,_,lc,by rw[h1,e1],h2⟩
 have HSB:S (∀w1,V w.heap.size w w1->w1.cell? (A B 0 Y)=W (.slice ao m.vars.length ac)/\w1.cell? (A B 1 Y)=W (.slice ro m.rules.length rc)/\w1.cell? (A B 2 Y)=W (.slice po ps.length pc)):=fun w1 h=>⟨(hS.box.later h).c0,(hS.box.later h).c1,(hS.box.later h).c2⟩;have HFin:S (∀w',V w.heap.size w w'->Sk bs bl w w'/\SvOk Pz w0 w' B bs bl (n+1) (.slice ao m.vars.length ac) (.slice ro m.rules.length rc) (.slice po ps.length pc) fv m ps l ho hc):=fun w' h=>⟨Sk.of h,(hS.below h).mono (vE _)⟩;have H4:S (∀w',V (w.heap.size+1) W1 w'->w'.cell? (A w.heap.size 0 Y)=W (X Y 0 0)/\w'.cell? (A w.heap.size 1 Y)=W (X Y 0 0)/\w'.cell? (A w.heap.size 2 Y)=W (X Y 0 0)/\w'.frozen? (A w.heap.size 0 Y)=G/\w'.frozen? (A w.heap.size 1 Y)=G/\w'.frozen? (A w.heap.size 2 Y)=G):=fun w' h=>by
  have h3:St3 W1 w.heap.size (X Y 0 0) (X Y 0 0) (X Y 0 0):=by rw[hW1];exact St3.new _ _ _ _ _
  obtain⟨_,⟨a,b,c⟩,d,e,f⟩:=h3;have hlt:w.heap.size<w.heap.size+1:=qZ _;exact⟨(h.cell (p:=(A w.heap.size 0 Y)) hlt).trans a,(h.cell (p:=(A w.heap.size 1 Y)) hlt).trans b,(h.cell (p:=(A w.heap.size 2 Y)) hlt).trans c,(h.frozen (p:=(A w.heap.size 0 Y)) hlt).trans d,(h.frozen (p:=(A w.heap.size 1 Y)) hlt).trans e,(h.frozen (p:=(A w.heap.size 2 Y)) hlt).trans f⟩
 have hz1:W1.heap.size=w.heap.size+1:=by rw[hW1];simp
 unfold EW;generalize Av m code=wc at *;generalize m.vars.length=vn at *;generalize m.rules.length=rn at *;generalize ps.length=pn at *;clear hS hf hv hT hV hk hp0;obtain⟨W2,hW2⟩:∃W2,W2=W1.alloc (H #[X Y 0 0,X Y 0 0,X Y 0 0] 148):=⟨_,rfl⟩
 have hk2:V (w.heap.size+1) W1 W2:=by rw[hW2];exact(qD _ _).alloc (by omega) _
 have hbw2:V w.heap.size w W2:=by rw[hW2];exact hb2
 have hz2:w.heap.size+1<=W2.heap.size:=by rw[hW2];simp[hz1]
 rw[hW1]at hW2;subst hW1;go_enter fA,fG;go_wp2_with fail
 rw[<-hW2];clear hW2 hlk c5;have hle:=HLe.out _ hbw2.drew;have hB0:V W2.heap.size W2 W2:=qD _ _;have hBw:=hB0.drew;go_region_held3 (fun w'=>w'.cell? (A B 0 Y)=W (X ao vn ac)/\w'.cell? (A B 1 Y)=W (X ro rn rc)/\w'.cell? (A B 2 Y)=W (X po pn pc))
  (first|exact HSB.out _ hb12|exact HSB.out _ hbw2.drew|exact HSB.out _ hbw2)
  (first
   |(go_at_call 31;refine hle.mono ?_;rintro e w3 ⟨lo,ln,lc,rfl,hb3⟩;have hb12:=hbw2.drew.trans (hb3.mono hbw2.drew.size);have hk3:=hk2.drew.trans (hb3.mono hz2)))
 obtain⟨q0,q1,q2,q3,q4,q5⟩:=H4.out _ hk3;go_wp2_with fail
 have hbF:=((hb12.setCell (p:=(A w.heap.size 0 Y)) (qB _) (X Y 0 0)).setCell (p:=(A w.heap.size 1 Y)) (qB _) (X Y 0 0)).setCell (p:=(A w.heap.size 2 Y)) (qB _) (X Y 0 0);obtain⟨r1,r2⟩:=HFin.out _ hbF;refine bodyPost_ret (v:=K #[F #[X Y 0 0,X Y 0 0,X Y 0 0],.int U wc]) ?_ rfl ⟨r1,r2,.inr ⟨hw,rfl⟩⟩;simp[results,fK,go_sem,q0,q1,q2]
structure SgAt(w4 wr:T)(N k:Nat)(sg:Nat->Int)(lv nv:Q):Prop where
 bel:V w4.heap.size w4 wr
 row:wr.rowIs w4.heap.size 3 N (fun j=>.int U (if j<k then sg j else 0))
 box:St3 wr (w4.heap.size+1) lv nv (X (W (A w4.heap.size 0 Y)) N N)
theorem SgAt.start(w4:T)(N:Nat)(sg:Nat->Int)(lv nv:Q):SgAt w4 ((w4.alloc (H (madeCells #[E U 0] N) 3)).alloc (H #[lv,nv,X (W (A w4.heap.size 0 Y)) N N] 148)) N 0 sg lv nv:=by
 refine⟨(ai).alloc (by simp) _,?_,?_⟩
 .exact ((eL w4 (.int U 0) N 3).alloc _).congr (fun j _=>by simp)
 .have:=St3.new (w4.alloc (H (madeCells #[E U 0] N) 3)) lv nv (X (W (A w4.heap.size 0 Y)) N N) 148;rw[World.size_alloc]at this;exact this
theorem SgAt.later{w4 wr w':T}{N k:Nat}{sg:Nat->Int}{lv nv:Q}(h:SgAt w4 wr N k sg lv nv)(hb:V wr.heap.size wr w'):SgAt w4 w' N k sg lv nv:=
 ⟨h.bel.trans (hb.mono h.bel.size),h.row.of_block (hb.block _ h.row.lt),h.box.later hb⟩
theorem SgAt.put{w4 wr:T}{N k:Nat}{sg:Nat->Int}{lv nv:Q}(h:SgAt w4 wr N k sg lv nv):SgAt w4 (wr.setCell (A w4.heap.size k Y) (.int U (sg k))) N (k+1) sg lv nv:=by
 refine⟨h.bel.setCell (p:=(A w4.heap.size k Y)) (qB _) _,(h.row.set k _).congr (fun j hj=>?_),?_⟩
 .by_cases e:j=k
  .subst e;rw[aj rfl,aj (qZ _)]
  .rw[ak e];by_cases h1:j<k
   .rw[aj h1,aj (by omega)]
   .rw[ak h1,ak (by omega)]
 .obtain ⟨h0,⟨a,b,c⟩,d,e,f⟩:=h.box;refine⟨by simpa using h0,⟨?_,?_,?_⟩,?_,?_,?_⟩<;>simp[go_sem,a,b,c,d,e,f]
theorem SgAt.done{w4 wr:T}{N:Nat}{sg:Nat->Int}{lv nv:Q}(h:SgAt w4 wr N N sg lv nv):IntsV wr (X (W (A w4.heap.size 0 Y)) N N) ((aE N).map sg):=by
 refine⟨W (A w4.heap.size 0 Y),N,by simp,fun _=>⟨w4.heap.size,0,rfl,h.row.lt,fun i hi=>?_⟩⟩;have hi':i<N:=by simpa using hi
 rw[qV,h.row.cell hi',aj hi'];simp[qC,hi']
theorem Vl(w0 w:T)(B bs bl n:Nat)(va vr pv fv:Q)(m:Mo)(ps:List am)(l:am)(ho:Option Addr)(hc:Nat)(code:Int)(hI:-9223372036854775808<=code/\code<=9223372036854775807)(hB:0<w0.heap.size)(hT:AF w0)(hV:TaskV w0 va vr pv fv m ps l)(hk:AX m ps l=0)(hS:SvOk Pz w0 w B bs bl n va vr pv fv m ps l ho hc)(hn:n<1000000000000)
  (f:Lit->Option Q) (hf:MapIs w 3 bs n f) (hfs:∀kl v,f kl=W v->∃code,kl=.int U code/\(0<=code/\code<AL m.vars m.vars.length)/\Am Pz w m ps l code v) (hv:f (.int U code)=Y) (hcr:0<=code/\code<AL m.vars m.vars.length) :
  I qA 61 #[J (W (A B 0 Y)),.int U code] w (EW Pz w0 w B bs bl n va vr pv fv m ps l ho hc code):=by
 obtain⟨hp0,hl0⟩:=BU hk;obtain⟨hm0,_⟩:=Ca hp0;obtain⟨_,_,hz,_,h6⟩:=B6 hl0;have hw:=EM hm0 hcr;obtain⟨ao,ac,rfl⟩:=hV.mo.1.shape;obtain⟨ro,rc,rfl⟩:=hV.mo.2.shape;obtain⟨po,pc,rfl⟩:=hV.ps.shape;obtain⟨fo,fc,rfl,_⟩:=id hV.fo;obtain⟨W1,hW1⟩:∃W1,W1=w.alloc (H #[X Y 0 0,X Y 0 0,X Y 0 0] 148):=⟨_,rfl⟩;have hb1:V w.heap.size w W1:=by rw[hW1];exact ai
 have hlk:(Instr.lookup 72 (.map (W bs)) (.int U code) true).run qA W1=.ok (K #[F #[X Y 0 0,X Y 0 0,X Y 0 0],.bool G]) W1:=by
  have:=(hf.kept (hb1.block _ hf.lt)).look EB fM (KR _) (Ei hI);rw[hv]at this;exact this
 have c5:=(hS.box.later hb1).c5;have hb2:V w.heap.size w (W1.alloc (H #[X Y 0 0,X Y 0 0,X Y 0 0] 148)):=hb1.alloc hb1.size _;have HLe:S (∀w1,V w.heap.size w w1->I qA 31 #[F #[.slice ao m.vars.length ac,.slice ro m.rules.length rc],.slice po ps.length pc,.int U code] w1 fun e w'=>∃lo lc,e=O (K #[.slice lo ps.length lc,.int U 0])/\V w1.heap.size w1 w'/\S (BoolsV w' (.slice lo ps.length lc) (AJ m ps code)/\Af w' (.slice lo ps.length lc) 4)):=fun w1 h=>by
  have h0:=hS.bel.trans (h.mono hS.bel.size);refine(L6 _ _ _ m ps code w1 (qE hB h0.size) (hT.below h0 hB) (hV.mo.below h0) (hV.ps.below h0)).mono fun e w' ⟨v,h1,h2,h3,h4⟩=>?_;obtain⟨t1,t2⟩:=FN hk hcr;obtain⟨lo,lc,rfl,hx⟩:=h3;rw[t2]at h1 h4;exact⟨lo,lc,by rw[h1,t1],h2,⟨lo,lc,by rw[t2],hx⟩,h4⟩
 have HNe:S (∀w1,V w.heap.size w w1->I qA 89 #[F #[.slice ao m.vars.length ac,.slice ro m.rules.length rc],.int U code] w1 fun e w'=>∃no nc,e=O (K #[.slice no (AM m code).length nc,.int U 0])/\V w1.heap.size w1 w'/\S (IntsV w' (.slice no (AM m code).length nc) (AM m code)/\Af w' (.slice no (AM m code).length nc) 3/\∀a,no=W a->Pz a.block)):=fun w1 h=>by
  have h0:=hS.bel.trans (h.mono hS.bel.size);refine(TJ _ _ m code w1 (qE hB h0.size) (hT.below h0 hB) (hV.mo.below h0) hm0).mono fun e w' ⟨v,h1,h2,h3'⟩=>?_;have h4:=Af.owns h3';have h5:=Mn h3';have h3:=D8 h3';have e1:Cy m code=AM m code:=by unfold Cy;rw[aj hw]
  rw[e1]at h3;obtain⟨no,nc,rfl,hx⟩:=h3;exact⟨no,nc,by rw[h1,hw],h2,⟨no,nc,rfl,hx⟩,h4,fun a e=>hS.up _ (qI h.size (h5 a _ _ (by rw[e])))⟩
 have HSg:S (∀(w1:T) (c:Nat) (lv:Q),V w.heap.size w w1->c<2^(AA l).length->BoolsV w1 lv (AJ m ps code)->I qA 90 #[J (W (A B 0 Y)),lv,.int U (c:Int)] w1 fun e w'=>e=O (K #[E U (Du l (AJ m ps code) c),.int U 0])/\V w1.heap.size w1 w'):=fun w1 c lv h hcN hlv=>by
  have h0:=hS.bel.trans (h.mono hS.bel.size);exact VR B _ _ _ _ lv l (AJ m ps code) c ho hc bs bl w1 (qE hB h0.size) (hT.below h0 hB) (hV.fo.below h0) hlv hz h6 (Nu hk hcr hcN).1 (hS.box.later h) (hS.ah.below h)
 have HCl:S (∀w1,V w.heap.size w w1->I qA 32 #[J (W (A B 0 Y))] w1 fun e w'=>e=O (.int U ((2^(AA l).length:Nat):Int))/\w'=w1):=fun w1 h=>Il B _ _ _ _ ho _ hc bs bl w1 h6 (hS.box.later h);have HSB:S (∀w1,V w.heap.size w w1->w1.cell? (A B 0 Y)=W (.slice ao m.vars.length ac)/\w1.cell? (A B 1 Y)=W (.slice ro m.rules.length rc)/\w1.cell? (A B 2 Y)=W (.slice po ps.length pc)/\w1.cell? (A B 5 Y)=W (.map (W bs))):=fun w1 h=>⟨(hS.box.later h).c0,(hS.box.later h).c1,(hS.box.later h).c2,(hS.box.later h).c5⟩;have HPut:S (∀w1,V w.heap.size w w1->∀v,∃w',(Instr.mapUpdate 72 (.map (W bs)) (.int U code) v).run qA w1.drew=.ok () w'/\MapIs w' 3 bs (n+1) (Dm f (.int U code) v)/\w1.grownBy w' (W bs)):=fun w1 h v=>by
  have hm1:MapIs w1.drew 3 bs n f:=hf.kept (h.block _ hf.lt);obtain⟨w',h1,h2,h3⟩:=hm1.put EB fM (by unfold maxLen;omega) (val:=v) (Ei hI) (by simp[WideAt.IsKeyLit]);exact⟨w',h1,h2,⟨h3.os,h3.tape,h3.output,h3.size,h3.block⟩⟩
 have HTwo:S (∀w1,V w.heap.size w w1->Cf w1 bs bl):=fun w1 h=>(hS.below h).two;have H4:S (∀w',V (w.heap.size+1) W1 w'->St3 w' w.heap.size (X Y 0 0) (X Y 0 0) (X Y 0 0)):=fun w' h=>by
  have h3:St3 W1 w.heap.size (X Y 0 0) (X Y 0 0) (X Y 0 0):=by rw[hW1];exact St3.new _ _ _ _ _
  obtain⟨g0,⟨a,b,c⟩,d,e,f⟩:=h3;have hlt:w.heap.size<w.heap.size+1:=qZ _;exact⟨qE g0 h.size,⟨(h.cell (p:=(A w.heap.size 0 Y)) hlt).trans a,(h.cell (p:=(A w.heap.size 1 Y)) hlt).trans b,(h.cell (p:=(A w.heap.size 2 Y)) hlt).trans c⟩,(h.frozen (p:=(A w.heap.size 0 Y)) hlt).trans d,(h.frozen (p:=(A w.heap.size 1 Y)) hlt).trans e,(h.frozen (p:=(A w.heap.size 2 Y)) hlt).trans f⟩
 have HPN:S (∀w' v,Sk bs bl w w'->w'.heap[bl]? = w.heap[bl]?->MapIs w' 3 bs (n+1) (Dm f (.int U code) v)->Am Pz w' m ps l code v->SvOk Pz w0 w' B bs bl (n+1) (.slice ao m.vars.length ac) (.slice ro m.rules.length rc) (.slice po ps.length pc) (.slice fo l.length fc) m ps l ho hc):=fun w' v h1 h2 h3 h4=>hS.putN h1 h2 hfs h3 hcr h4;have hbs:bs<w.heap.size:=hf.lt;have hbl:bl<w.heap.size:=by obtain⟨g,h1,_⟩:=hS.li;exact h1.lt
 have hne:=hS.ne;have hz1:W1.heap.size=w.heap.size+1:=by rw[hW1];simp
 have hN64:2^(AA l).length<=64:=vK (show 0<2 by decide) h6;have HStI:S (∀(w':T) (lo no so:Option Addr) (lc nc sc:Nat),BoolsV w' (.slice lo ps.length lc) (AJ m ps code)->IntsV w' (.slice no (AM m code).length nc) (AM m code)->IntsV w' (.slice so (2^(AA l).length) sc) ((aE (2^(AA l).length)).map (Du l (AJ m ps code)))->Af w' (.slice lo ps.length lc) 4->Af w' (.slice no (AM m code).length nc) 3->Af w' (.slice so (2^(AA l).length) sc) 3->(∀a,no=W a->Pz a.block)->(∀a,so=W a->Pz a.block)->Am Pz w' m ps l code (F #[.slice lo ps.length lc,.slice no (AM m code).length nc,.slice so (2^(AA l).length) sc])):=fun w' lo no so lc nc sc h1 h2 h3 h4 h5 h6 h7 h8=>⟨lo,lc,no,nc,so,sc,rfl,h1,h2,h3,h4,h5,h6,h7,h8⟩;have HUp:S (∀b,w.heap.size<=b->Pz b):=hS.up;unfold EW;have HW:S (Av m code=0):=hw;generalize Du l (AJ m ps code)=sg at *;generalize hlt:AJ m ps code=lt at *;generalize hnx:AM m code=nx at *;generalize nx.length=nn at *;generalize m.vars.length=vn at *;generalize m.rules.length=rn at *;generalize ps.length=pn at *;generalize l.length=fn at *;generalize 2^(AA l).length=N at *
 clear hS hf hfs hv hT hV hk hp0 hl0 hz h6 hlt hnx hw hm0;obtain⟨W2,hW2⟩:∃W2,W2=W1.alloc (H #[X Y 0 0,X Y 0 0,X Y 0 0] 148):=⟨_,rfl⟩;have hk2:V (w.heap.size+1) W1 W2:=by rw[hW2];exact(qD _ _).alloc (by omega) _
 have hbw2:V w.heap.size w W2:=by rw[hW2];exact hb2
 have hz2:w.heap.size+1<=W2.heap.size:=by rw[hW2];simp[hz1]
 rw[hW1]at hW2;subst hW1;go_enter fA,fG;go_wp2_with fail
 rw[<-hW2];clear hW2 hlk c5;have hle:=HLe.out _ hbw2.drew;have HSC:S (∀w1,V w.heap.size w w1->w1.cell? (A B 0 Y)=W (X ao vn ac)/\w1.cell? (A B 1 Y)=W (X ro rn rc)/\w1.cell? (A B 2 Y)=W (X po pn pc)):=fun w1 h=>by obtain⟨y0,y1,y2,_⟩:=HSB.out _ h;exact⟨y0,y1,y2⟩
 have hmk:=run_make_row' (P:=qA) 43 3 (.int U 0) 8 aD BS rfl .i64 .i64 N (by omega) (by omega);go_region_held3 (fun w'=>w'.cell? (A B 0 Y)=W (X ao vn ac)/\w'.cell? (A B 1 Y)=W (X ro rn rc)/\w'.cell? (A B 2 Y)=W (X po pn pc))
  (first|exact HSC.out _ hb12|exact HSC.out _ hbw2.drew|exact HSC.out _ hbw2)
  (first
   |(go_at_call 31;refine hle.mono ?_;rintro e w3 ⟨lo,lc,rfl,hb3,HLv⟩;have hb12:=hbw2.drew.trans (hb3.mono hbw2.drew.size);have hk3:=hk2.drew.trans (hb3.mono hz2)))
 obtain⟨z0,z1,z2,_⟩:=HSB.out _ hb12;have hnx:=HNe.out w3 hb12;go_wp2_with (first|(go_at_call 89;refine hnx.mono ?_;rintro e w4 ⟨no,nc,rfl,hb4,HNv⟩;have hb14:=ae hb12 hb4;have hk4:=hk3.trans (hb4.mono (qI hz2 hb3.size));have hcl:=HCl.out w4 hb14)|(go_at_call 32;refine hcl.mono ?_;rintro e w5 ⟨rfl,rfl⟩))
 clear hmk hle hnx hcl;have HS0:S (SgAt w5 ((w5.alloc (H (madeCells #[E U 0] N) 3)).alloc (H #[X lo pn lc,X no nn nc,X (W (A w5.heap.size 0 Y)) N N] 148)) N 0 sg (X lo pn lc) (X no nn nc)):=SgAt.start _ _ _ _ _;have HLt:S (∀w',V w5.heap.size w5 w'->BoolsV w' (X lo pn lc) lt):=fun w' h=>(HLv.out.1.below hb4).below h;generalize(w5.alloc (H (madeCells #[E U 0] N) 3)).alloc (H #[X lo pn lc,X no nn nc,X (W (A w5.heap.size 0 Y)) N N] 148)=W5 at *;obtain⟨_,⟨x0,x1,x2⟩,_,_,_⟩:=HS0.out.box
 go_wp2_with fail
 go_loopw [12,66,9] (fun _ i _ wr=>∃k:Nat,k<=N/\i=.int U k/\S (SgAt w5 wr N k sg (X lo pn lc) (X no nn nc))) (fun _ i _ _=>N-(intOf i).toNat)
 case atStart=>exact⟨0,qJ _,rfl,HS0⟩
 case round=>
  obtain⟨k,hk,rfl,HA⟩:=hrel;have hA:=HA.out;obtain⟨_,⟨e0,e1,e2⟩,_,_,_⟩:=id hA.box;have hbr:=hb14.trans (hA.bel.mono hb14.size);by_cases hkN:k<N
  .have hsg:=HSg.out wr.drew k _ hbr.drew hkN (HLt.out _ hA.bel.drew);have HAd:S (∀w',V wr.heap.size wr w'->SgAt w5 w' N k sg (X lo pn lc) (X no nn nc)):=fun w' h=>hA.later h;have HEB:S (∀w',V wr.heap.size wr w'->w'.cell? ⟨w5.heap.size+1,2,Y⟩=W (X (W (A w5.heap.size 0 Y)) N N)):=fun w' h=>(hA.later h).box.2.1.2.2;have hB0:V wr.heap.size wr wr:=qD _ _;have hki:(k:Int)<(N:Int):=by omega
   clear hA HA;go_wp2_with fail
   go_region_held3 (fun w'=>w'.cell? ⟨w5.heap.size+1,2,Y⟩=W (X (W (A w5.heap.size 0 Y)) N N))
    (first|exact HEB.out _ hb6|exact HEB.out _ hB0.drew|exact HEB.out _ hB0|simp[go_sem,HEB.out _ hb6])
    (first
     |(go_at_call 90;refine hsg.mono ?_;rintro e w6 ⟨rfl,hb6'⟩;have hb6:=hB0.drew.trans (hb6'.mono hB0.drew.size);have hA6:=HAd.out _ hb6;have f0:=hA6.row.cell hkN;have f1:=hA6.row.frozen k;have HA7:=(show S _ from hA6.put);clear hA6))
   go_wp2_with fail
   go_roundw
   case rel=>exact⟨k+1,by omega,by go_num,HA7⟩
   case measure=>simp[intOf];omega
  .obtain rfl:k=N:=by omega
   obtain⟨w7,hput,hm7,hg7⟩:=HPut.out wr hbr (F #[X lo pn lc,X no nn nc,X (W (A w5.heap.size 0 Y)) k k]);obtain⟨_,_,_,z5⟩:=HSB.out wr hbr;have htw:=HTwo.out wr hbr;have hsk:Sk bs bl wr w7:=Sk.grown hg7 (.inl rfl);have hkr:=hk4.trans (hA.bel.mono (by have:=hb4.size;have:=hb3.size;simp at *;omega));have hst4:=H4.out _ hkr;have HFin:S (∀w8,w8=((w7.setCell (A w.heap.size 0 Y) (X lo pn lc)).setCell (A w.heap.size 1 Y) (X no nn nc)).setCell (A w.heap.size 2 Y) (X (W (A w5.heap.size 0 Y)) k k)->Sk bs bl w w8/\SvOk Pz w0 w8 B bs bl (n+1) (X ao vn ac) (X ro rn rc) (X po pn pc) (X fo fn fc) m ps l ho hc/\Am Pz w8 m ps l code (F #[X lo pn lc,X no nn nc,X (W (A w5.heap.size 0 Y)) k k])):=fun w8 e8=>by
    obtain⟨_,⟨y0,y1,y2⟩,_,_,_⟩:=id hst4;have y0':=hsk.cell htw y0;have y1':=hsk.cell htw y1;have y2':=hsk.cell htw y2;have y1a:(w7.setCell (A w.heap.size 0 Y) (X lo pn lc)).cell? (A w.heap.size 1 Y)=W (X Y 0 0):=by simp[go_sem,y1']
    have y2a:((w7.setCell (A w.heap.size 0 Y) (X lo pn lc)).setCell (A w.heap.size 1 Y) (X no nn nc)).cell? (A w.heap.size 2 Y)=W (X Y 0 0):=by simp[go_sem,y2']
    have s1:Sk bs bl w w8:=by
     rw[e8];exact((((Sk.of hbr).trans hsk).setNew (p:=(A w.heap.size 0 Y)) (qB _) _).setNew (p:=(A w.heap.size 1 Y)) (qB _) _).setNew (p:=(A w.heap.size 2 Y)) (qB _) _
    have hbk:∀i,i<w.heap.size->w8.heap[i]? = w7.heap[i]?:=fun i hi=>by
     rw[e8,RowKit.Below.heap_setCell _ _ _ _ (show i≠w.heap.size by omega),RowKit.Below.heap_setCell _ _ _ _ (show i≠w.heap.size by omega),RowKit.Below.heap_setCell _ _ _ _ (show i≠w.heap.size by omega)]
    have hso:Am Pz w8 m ps l code (F #[X lo pn lc,X no nn nc,X (W (A w5.heap.size 0 Y)) k k]):=by
     rw[e8];refine HStI.out _ lo no (W (A w5.heap.size 0 Y)) lc nc k ?_ ?_ ?_ ?_ ?_ ?_ ?_ ?_
     .exact ((((HLt.out wr hA.bel).sk hsk htw).setBox y0' _).setBox y1a _).setBox y2a _
     .exact (((((HNv.out.1.below hA.bel)).sk hsk htw).setBox y0' _).setBox y1a _).setBox y2a _
     .exact (((hA.done.sk hsk htw).setBox y0' _).setBox y1a _).setBox y2a _
     .exact ((((((HLv.out.2.below hb4).below hA.bel).sk hsk htw).setCell _ _ _).setCell _ _ _).setCell _ _ _)
     .exact (((((HNv.out.2.1.below hA.bel).sk hsk htw).setCell _ _ _).setCell _ _ _).setCell _ _ _)
     .refine (((Af.sk (fun a n c e=>?_) hsk htw).setCell _ _ _).setCell _ _ _).setCell _ _ _;injection e with e _ _;injection e with e;subst e;obtain⟨cs,hcs,_⟩:=hA.row;exact⟨cs,(0,0),hcs⟩
     .exact HNv.out.2.2
     .intro a e;injection e with e;subst e;exact HUp.out _ hb14.size
    refine⟨s1,HPN.out w8 _ s1 ?_ (hm7.kept (hbk bs hbs)) hso,hso⟩;rw[hbk bl hbl,hg7.block bl (qE hbl hbr.size) (by intro e;injection e with e;exact hne e.symm),hbr.block bl hbl]
   obtain⟨_,⟨y0,y1,y2⟩,y3,y4,y5⟩:=id hst4;have v0:=hsk.cell htw y0;have v1:=hsk.cell htw y1;have v2:=hsk.cell htw y2;have u0:=hsk.cell htw e0;have u1:=hsk.cell htw e1;have u2:=hsk.cell htw e2;have z7:=hsk.cell htw z5;have g0:w7.frozen? (A w.heap.size 0 Y)=false:=(fO (hg7.block w.heap.size hst4.1 (by intro e;injection e with e;omega))).trans y3;have g1:w7.frozen? (A w.heap.size 1 Y)=false:=(fO (hg7.block w.heap.size hst4.1 (by intro e;injection e with e;omega))).trans y4;have g2:w7.frozen? (A w.heap.size 2 Y)=false:=(fO (hg7.block w.heap.size hst4.1 (by intro e;injection e with e;omega))).trans y5;clear HA hA hst4 hsk htw hm7 hg7 hkr HSg HLe HNe HCl HSB HPut HTwo H4 HPN HLt HNv HStI HS0;go_wp2_with fail
   go_region_held3 (fun w'=>w'.cell? (A B 5 Y)=W (.map (W bs))/\w'.cell? ⟨w5.heap.size+1,0,Y⟩=W (X lo pn lc)/\w'.cell? ⟨w5.heap.size+1,1,Y⟩=W (X no nn nc)/\w'.cell? ⟨w5.heap.size+1,2,Y⟩=W (X (W (A w5.heap.size 0 Y)) k k))
    (first|exact⟨z5,e0,e1,e2⟩|exact⟨z7,u0,u1,u2⟩)
    (fail)
   go_wp2_with fail
   obtain⟨r1,r2,r3⟩:=HFin.out _ rfl;refine bodyPost_ret (v:=K #[F #[X lo pn lc,X no nn nc,X (W (A w5.heap.size 0 Y)) k k],.int U 0]) ?_ rfl ⟨r1,r2,.inl ⟨HW.out,lo,lc,no,nc,W (A w5.heap.size 0 Y),k,rfl,r3⟩⟩;simp[results,fK,go_sem,v0,v1,v2]
theorem J4(w0 w:T)(B bs bl n:Nat)(va vr pv fv:Q)(m:Mo)(ps:List am)(l:am)(ho:Option Addr)(hc:Nat)(code:Int)(hI:-9223372036854775808<=code/\code<=9223372036854775807)(hB:0<w0.heap.size)(hT:AF w0)(hV:TaskV w0 va vr pv fv m ps l)(hk:AX m ps l=0)(hS:SvOk Pz w0 w B bs bl n va vr pv fv m ps l ho hc)(hn:n<1000000000000) :
  I qA 61 #[J (W (A B 0 Y)),.int U code] w (EW Pz w0 w B bs bl n va vr pv fv m ps l ho hc code):=by
 obtain⟨f,hf,hfs⟩:=hS.st;have hm0:=(Ca (BU hk).1).1;cases hv:f (.int U code)with
 |some v=>exact Vk w0 w B bs bl n va vr pv fv m ps l ho hc code hI hm0 hS f hf hfs v hv
 |none=>
  by_cases hcr:0<=code/\code<AL m.vars m.vars.length
  .exact Vl w0 w B bs bl n va vr pv fv m ps l ho hc code hI hB hT hV hk hS hn f hf hfs hv hcr
  .exact Vm w0 w B bs bl n va vr pv fv m ps l ho hc code hI hB hT hV hk hS f hf hv (by rw[N9 hm0 hcr];decide)
