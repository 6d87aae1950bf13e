/- Joined texts. -/
import Derived.Test.YtjldkfiabgagiaaGreatDoorTopA
namespace Go.Proofs.YtjldkfiabgagiaaGreatDoor
open _root_.Array renaming getElem?_eq_some_iff→qG
open Go.RowKit.Below renaming refl→qD
open _root_.Bool renaming eq_iff_iff→jP,or_eq_true→jQ
open _root_.Int renaming le_refl→xR
open _root_.List renaming any_append→xZ,any_eq_true→vB,append_assoc→q7,append_nil→vN,drop_eq_nil_of_le→v7,flatten_append→vT,flatten_cons→zR,getD_eq_getElem?_getD→qC,getElem?_eq_getElem→qH,getElem?_eq_some_iff→vM,length_append→qF,length_cons→qX,length_drop→qN,length_eq_zero_iff→jA,length_nil→vF,length_pos_iff→vU,length_take→qM,mem_append→qO,mem_cons→qV,mem_of_mem_drop→zC,mem_of_mem_take→jT,nodup_append→vX,nodup_cons→kE,pairwise_cons→vK,rel_of_pairwise_cons→v8,take_append_drop→q9,take_length→vL,take_of_length_le→qQ
open _root_.Nat renaming eq_zero_or_pos→jE,le_of_eq→yQ,le_refl→qB,le_trans→qI,lt_of_lt_of_le→qE,lt_or_ge→vP,zero_le→qJ
open Go.Proofs.Tryz renaming prog→qA
set_option maxHeartbeats 6400000
set_option maxRecDepth 20000
def up(l:List Int):List Int:=l.mergeSort leB
theorem FJ(l:List Int):(up l).Pairwise (· <= ·):=by
 have h:(l.mergeSort leB).Pairwise (fun x y=>leB x y=true):=List.pairwise_mergeSort (le:=leB) (by intro a b c;simp only[leB,decide_eq_true_eq];omega) (by intro a b;simp only[leB,jQ,decide_eq_true_eq];omega) l;exact h.imp fun{a b} h=>by simpa[leB]using h
theorem DJ(l:List Int):(up l).Perm l:=List.mergeSort_perm l leB
theorem F1(l:List Int):(up l).length=l.length:=(DJ l).length_eq
theorem NB:∀{a b:List Int},a.Pairwise (· <= ·)->b.Pairwise (· <= ·)->a.Perm b->a=b
 |[],b,_,_,hp=>hp.nil_eq
 |x::a,[],_,_,hp=>by have:=hp.length_eq;simp at this
 |x::a,y::b,ha,hb,hp=>by
  have h1:x∈y::b:=hp.mem_iff.1 (by simp);have h2:y∈x::a:=hp.mem_iff.2 (by simp);obtain rfl:x=y:=by
   rcases qV.1 h1 with h1|h1
   .exact h1
   .rcases qV.1 h2 with h2|h2
    .exact h2.symm
    .have:=v8 hb h1;have:=v8 ha h2;omega
  rw[NB (vK.1 ha).2 (vK.1 hb).2 ((List.perm_cons x).1 hp)]
theorem NX{a l:List Int}(h:a.Pairwise (· <= ·))(hp:a.Perm l):a=up l:=NB h (FJ l) (hp.trans (DJ l).symm)
theorem JZ{l:List Int}(h:l.Pairwise (· < ·)):l.Pairwise (· <= ·):=h.imp fun{a b} h=>by omega
theorem T3{l:List Int}(h:l.Pairwise (· < ·)):l.Nodup:=h.imp fun{a b} h=>by omega
theorem Ha:∀{l:List Int},l.Pairwise (· <= ·)->l.Nodup->l.Pairwise (· < ·)
 |[],_,_=>List.Pairwise.nil
 |x::l,h,hn=>by
  refine vK.2 ⟨fun y hy=>?_,Ha (vK.1 h).2 (kE.1 hn).2⟩;have h1:=v8 h hy;have h2:x≠y:=fun e=>(kE.1 hn).1 (e▸hy);omega
def mg:List Int->List Int->List Int
 |[],b=>b
 |x::a,[]=>x::a
 |x::a,y::b=>if x<y then x::mg a (y::b)else y::mg (x::a) b
termination_by a b=>a.length+b.length
theorem SC(a:List Int):mg a []=a:=by cases a<;>simp[mg]
theorem SD(b:List Int):mg [] b=b:=by simp[mg]
theorem Fo:∀(a b:List Int),(mg a b).Perm (a++b)
 |[],b=>by simp[mg]
 |x::a,[]=>by simp[mg]
 |x::a,y::b=>by
  rw[mg];split
  .exact (Fo a (y::b)).cons x
  .exact ((Fo (x::a) b).cons y).trans List.perm_middle.symm
termination_by a b=>a.length+b.length
theorem I0:∀(a b:List Int),a.Sublist (mg a b)
 |[],b=>by simp
 |x::a,[]=>by simp[mg]
 |x::a,y::b=>by
  rw[mg];split
  .exact (I0 a (y::b)).cons_cons x
  .exact (I0 (x::a) b).cons y
termination_by a b=>a.length+b.length
theorem I1:∀(a b:List Int),b.Sublist (mg a b)
 |[],b=>by simp[mg]
 |x::a,[]=>by simp
 |x::a,y::b=>by
  rw[mg];split
  .exact (I1 a (y::b)).cons x
  .exact (I1 (x::a) b).cons_cons y
termination_by a b=>a.length+b.length
theorem I2:∀(a b:List Int),a.Pairwise (· < ·)->b.Pairwise (· < ·)->(∀x∈a,x∉b)->(mg a b).Pairwise (· < ·)
 |[],b,_,hb,_=>by simpa[mg]using hb
 |x::a,[],ha,_,_=>by simpa[mg]using ha
 |x::a,y::b,ha,hb,hd=>by
  rw[mg];split
  .rename_i hxy;refine vK.2 ⟨fun z hz=>?_,I2 a (y::b) (vK.1 ha).2 hb fun z hz=>hd z (by simp[hz])⟩;rcases qO.1 ((Fo a (y::b)).mem_iff.1 hz)with h|h
   .exact v8 ha h
   .rcases qV.1 h with rfl|h
    .exact hxy
    .have:=v8 hb h;omega
  .rename_i hxy;have hne:x≠y:=fun e=>hd x (by simp) (by simp[e]);refine vK.2 ⟨fun z hz=>?_,I2 (x::a) b ha (vK.1 hb).2 fun z hz hb=>hd z hz (by simp[hb])⟩;rcases qO.1 ((Fo (x::a) b).mem_iff.1 hz)with h|h
   .rcases qV.1 h with rfl|h
    .omega
    .have:=v8 ha h;omega
   .exact v8 hb h
termination_by a b=>a.length+b.length
theorem Ij{α:Type}{l:List α}{i:Nat}(h:i<l.length)(d:α):l.getD i d=l[i]:=by simp[qC,h]
theorem DR{α:Type}{l:List α}{i:Nat}(h:i<l.length)(d:α):l.getD i d∈l:=by rw[Ij h];exact List.getElem_mem h
theorem Ev{α:Type}{l:List α}{i:Nat}(h:i<l.length)(d:α):l.drop i=l.getD i d::l.drop (i+1):=by rw[Ij h,List.drop_eq_getElem_cons h]
theorem Fy{α:Type}{l:List α}{i:Nat}(h:i<l.length)(d:α):l.take (i+1)=l.take i++[l.getD i d]:=by
 rw[List.take_add_one];simp[qC,h]
theorem SE{a b al:List Int}{i j:Nat}(hi:i<a.length)(hj:j<b.length)(h:al++mg (a.drop i) (b.drop j)=mg a b) :
  (a.getD i 0<b.getD j 0->(al++[a.getD i 0])++mg (a.drop (i+1)) (b.drop j)=mg a b)/\(¬a.getD i 0<b.getD j 0->(al++[b.getD j 0])++mg (a.drop i) (b.drop (j+1))=mg a b):=by
 rw[Ev hi 0,Ev hj 0,mg]at h;constructor
 .intro hl;rw[if_pos hl,<-Ev hj 0]at h;rw[<-h];simp
 .intro hl;rw[if_neg hl,<-Ev hi 0]at h;rw[<-h];simp
def tog(ls:List (List Int)):List Int:=
 if h:ls.length<=1 then ls.getD 0 []else mg (tog (ls.take (ls.length / 2))) (tog (ls.drop (ls.length / 2)))
termination_by ls.length
decreasing_by all_goals simp;omega
theorem FH{ls:List (List Int)}(h:ls.length<=1):tog ls=ls.getD 0 []:=by rw[tog,dif_pos h]
theorem Hm{ls:List (List Int)}(h:¬ls.length<=1):tog ls=mg (tog (ls.take (ls.length / 2))) (tog (ls.drop (ls.length / 2))):=by rw[tog,dif_neg h]
theorem Gw{ls:List (List Int)}(h:ls.length<=1):ls=[]\/∃l,ls=[l]:=by
 match ls,h with
 |[],_=>exact .inl rfl
 |[l],_=>exact .inr ⟨l,rfl⟩
theorem FI:∀(n:Nat) (ls:List (List Int)),ls.length<=n->(tog ls).Perm ls.flatten
 |n,ls,hn=>by
  by_cases h:ls.length<=1
  .rw[FH h];rcases Gw h with rfl|⟨l,rfl⟩<;>simp
  .match n,hn with
   |0,hn=>omega
   |n+1,hn=>
    rw[Hm h];refine(Fo _ _).trans (((FI n (ls.take (ls.length / 2)) (by simp;omega)).append (FI n (ls.drop (ls.length / 2)) (by simp;omega))).trans ?_);rw[<-vT,q9]
theorem Jo:∀(n:Nat) (ls:List (List Int)),ls.length<=n->∀l∈ls,l.Sublist (tog ls)
 |n,ls,hn,l,hl=>by
  by_cases h:ls.length<=1
  .rw[FH h];rcases Gw h with rfl|⟨l',rfl⟩
   .simp at hl
   .simp at hl;subst hl;simp
  .match n,hn with
   |0,hn=>omega
   |n+1,hn=>
    rw[Hm h];rw[<-q9 (ls.length / 2) ls]at hl;rcases qO.1 hl with hl|hl
    .exact (Jo n _ (by simp;omega) l hl).trans (I0 _ _)
    .exact (Jo n _ (by simp;omega) l hl).trans (I1 _ _)
theorem Hl:∀(n:Nat) (ls:List (List Int)),ls.length<=n->(∀l∈ls,l.Pairwise (· < ·))->ls.flatten.Nodup->(tog ls).Pairwise (· < ·)
 |n,ls,hn,hr,hd=>by
  by_cases h:ls.length<=1
  .rw[FH h];rcases Gw h with rfl|⟨l',rfl⟩
   .exact List.Pairwise.nil
   .exact hr l' (by simp)
  .match n,hn with
   |0,hn=>omega
   |n+1,hn=>
    rw[Hm h];have hd2:((ls.take (ls.length / 2)).flatten++(ls.drop (ls.length / 2)).flatten).Nodup:=by rw[<-vT,q9];exact hd
    obtain⟨d1,d2,d3⟩:=vX.1 hd2;refine I2 _ _ (Hl n _ (by simp;omega) (fun l hl=>hr l (jT hl)) d1) (Hl n _ (by simp;omega) (fun l hl=>hr l (zC hl)) d2) fun x hx hy=>?_;exact d3 x ((FI _ _ (qB _)).mem_iff.1 hx) x ((FI _ _ (qB _)).mem_iff.1 hy) rfl
def AQ(lo:List Int)(rs:List (List Int)):List Int:=rs.flatten++lo
structure SizeOk(lo:List Int)(rs:List (List Int)):Prop where
 loose:lo.length<8
 full:∀r∈rs,r≠[]
 many:lo.length+rs.flatten.length<=20000
structure May(lo:List Int)(rs:List (List Int)):Prop where
 size:SizeOk lo rs
 rise:∀r∈rs,r.Pairwise (· < ·)
 range:∀x∈AQ lo rs,0<=x/\x<=2147483647
 nodup:(AQ lo rs).Nodup
theorem Ky:∀{rs:List (List Int)},(∀r∈rs,r≠[])->rs.length<=rs.flatten.length
 |[],_=>by simp
 |r::rs,h=>by
  have:=Ky (rs:=rs) fun r hr=>h r (by simp[hr]);have h2:r≠[]:=h r (by simp);have:=vU.2 h2;simp only[zR,qF,qX];omega
theorem SizeOk.runs{lo:List Int}{rs:List (List Int)}(h:SizeOk lo rs):rs.length<=20000:=by have:=Ky h.full;have:=h.many;omega
theorem EX{rs:List (List Int)}{r:List Int}(h:r∈rs):r.length<=rs.flatten.length:=by
 induction rs with
 |nil=>simp at h
 |cons a rs ih=>
  simp only[zR,qF];rcases qV.1 h with rfl|h
  .omega
  .have:=ih h;omega
def nrB:Int->List Int->Bool
 |_,[]=>false
 |a,k::l=>(decide (k<=a)||decide (2147483647<k))||nrB k l
theorem I9:∀(l:List Int) (a:Int),nrB a l=false↔(l.Pairwise (· < ·)/\∀x∈l,a<x/\x<=2147483647)
 |[],a=>by simp[nrB]
 |k::l,a=>by
  simp only[nrB,Bool.or_eq_false_iff,decide_eq_false_iff_not,I9 l k,vK,qV];constructor
  .rintro ⟨⟨h1,h2⟩,h3,h4⟩;refine⟨⟨fun x hx=>(h4 x hx).1,h3⟩,fun x hx=>?_⟩;rcases hx with rfl|hx
   .omega
   .have:=h4 x hx;omega
  .rintro ⟨⟨h1,h2⟩,h3⟩;exact⟨by have:=h3 k (.inl rfl);omega,h2,fun x hx=>⟨h1 x hx,(h3 x (.inr hx)).2⟩⟩
theorem ER(rs:List (List Int))(l:List Int):(rs++[l]).flatten=rs.flatten++l:=by simp
theorem F0(lo:List Int)(rs:List (List Int)):(tog (rs++[up lo])).Perm (AQ lo rs):=by
 refine(FI _ _ (qB _)).trans ?_;rw[ER];exact(List.Perm.refl _).append (DJ lo)
theorem Ix{lo:List Int}{rs:List (List Int)}(hs:SizeOk lo rs):nrB (-1) (tog (rs++[up lo]))=false↔May lo rs:=by
 rw[I9];constructor
 .rintro ⟨h1,h2⟩;refine⟨hs,fun r hr=>?_,fun x hx=>?_,?_⟩
  .exact h1.sublist (Jo _ _ (qB _) r (by simp[hr]))
  .have:=h2 x ((F0 lo rs).mem_iff.2 hx);omega
  .exact (F0 lo rs).nodup_iff.1 (T3 h1)
 .intro h;have hlo:(up lo).Nodup:=(DJ lo).nodup_iff.2 (vX.1 h.nodup).2.1;refine⟨Hl _ _ (qB _) (fun l hl=>?_) ?_,fun x hx=>?_⟩
  .rcases qO.1 hl with hl|hl
   .exact h.rise l hl
   .simp at hl;subst hl;exact Ha (FJ lo) hlo
  .rw[ER];exact((List.Perm.refl _).append (DJ lo)).nodup_iff.2 h.nodup
  .have:=h.range x ((F0 lo rs).mem_iff.1 hx);omega
theorem VQ{lo:List Int}{rs:List (List Int)}(h:May lo rs):tog (rs++[up lo])=up (AQ lo rs):=
 NX (JZ ((I9 _ _).1 ((Ix h.size).2 h)).1) (F0 lo rs)
open Classical in
noncomputable def sC(lo:List Int)(rs:List (List Int)):Int:=if May lo rs then 0 else 9
theorem Fw{lo:List Int}{rs:List (List Int)}(h:May lo rs):sC lo rs=0:=by unfold sC;rw[if_pos h]
theorem Hb{lo:List Int}{rs:List (List Int)}(h:¬May lo rs):sC lo rs=9:=by unfold sC;rw[if_neg h]
def stay(rs:List (List Int)):Nat->Nat->Nat
 |0,_=>0
 |k+1,m=>if(rs.getD k []).length<=m then stay rs k (m+(rs.getD k []).length)else k+1
theorem NF(rs:List (List Int)):∀(k m:Nat),stay rs k m<=k
 |0,_=>qB _
 |k+1,m=>by
  rw[stay];split
  .have:=NF rs k (m+(rs.getD k []).length);omega
  .exact qB _
def FE(rs:List (List Int))(m:Nat):Nat:=stay rs rs.length m
def Cm(rs:List (List Int))(run:List Int):List (List Int):=rs.take (FE rs run.length)++[up ((rs.drop (FE rs run.length)).flatten++run)]
def C7(lo:List Int)(rs:List (List Int))(n:Int):List Int×List (List Int):=if lo.length+1<8 then(lo++[n],rs)else([],Cm rs (lo++[n]))
theorem QD{rs:List (List Int)}{k:Nat}(h:k<rs.length):(rs.drop k).flatten=rs.getD k []++(rs.drop (k+1)).flatten:=by rw[Ev h [],zR]
theorem VP{rs:List (List Int)}{run:List Int}(hr:∀r∈rs,r.Pairwise (· < ·))(hd:(rs.flatten++run).Nodup)(k:Nat):tog (rs.drop k++[up run])=up ((rs.drop k).flatten++run):=by
 have hdr:((rs.drop k).flatten++run).Nodup:=by
  have e:rs.flatten=(rs.take k).flatten++(rs.drop k).flatten:=by rw[<-vT,q9]
  rw[e,q7]at hd;exact(vX.1 hd).2.1
 refine NX (JZ (Hl _ _ (qB _) (fun l hl=>?_) ?_)) (F0 run (rs.drop k))
 .rcases qO.1 hl with hl|hl
  .exact hr l (zC hl)
  .simp at hl;subst hl;exact Ha (FJ run) ((DJ run).nodup_iff.2 (vX.1 hdr).2.1)
 .rw[ER];exact((List.Perm.refl _).append (DJ run)).nodup_iff.2 hdr
theorem UJ(rs:List (List Int))(run:List Int):(Cm rs run).flatten.Perm (rs.flatten++run):=by
 unfold Cm;rw[ER];refine((List.Perm.refl _).append (DJ _)).trans ?_;rw[<-q7,<-vT,q9]
theorem KL(lo:List Int)(rs:List (List Int))(n:Int):(AQ (C7 lo rs n).1 (C7 lo rs n).2).Perm (AQ lo rs++[n]):=by
 unfold C7 AQ;split
 .simp
 .have:=UJ rs (lo++[n]);simpa using this
theorem May.add{lo:List Int}{rs:List (List Int)}{n:Int}(h:May lo rs)(h0:0<=n)(h1:n<=2147483647)(hn:n∉AQ lo rs)(hm:lo.length+rs.flatten.length<20000):May (C7 lo rs n).1 (C7 lo rs n).2:=by
 have hp:=KL lo rs n;have hnd:(AQ lo rs++[n]).Nodup:=by
  rw[vX];exact⟨h.nodup,by simp,fun a ha b hb e=>by simp at hb;subst hb;subst e;exact hn ha⟩
 refine⟨⟨?_,?_,?_⟩,?_,fun x hx=>?_,hp.nodup_iff.2 hnd⟩
 .unfold C7;split
  .simp;omega
  .simp
 .unfold C7;split
  .exact h.size.full
  .intro r hr;rcases qO.1 hr with hr|hr
   .exact h.size.full r (jT hr)
   .simp at hr;subst hr;intro e;have h2:=congrArg List.length e;rw[F1,qF,qF,vF]at h2;simp at h2
 .have:=hp.length_eq;simp only[AQ,qF,qX,vF]at this;omega
 .unfold C7;split
  .exact h.rise
  .intro r hr;rcases qO.1 hr with hr|hr
   .exact h.rise r (jT hr)
   .simp at hr;subst hr;refine Ha (FJ _) ((DJ _).nodup_iff.2 ?_);have e:rs.flatten=(rs.take (FE rs (lo.length+1))).flatten++(rs.drop (FE rs (lo.length+1))).flatten:=by rw[<-vT,q9]
    unfold AQ at hnd;rw[e,q7,q7]at hnd;exact(vX.1 hnd).2.1
 .have:=hp.mem_iff.1 hx;rcases qO.1 this with h2|h2
  .exact h.range x h2
  .simp at h2;omega
open Go.ChangeShapes Go.WideShapes Go.ChangeAt Go.RowKit Go.Deep Go.Joins
theorem choose_lt{α:Type}[Inhabited α]{n:Nat}{p:Nat->α->Prop}(h:∀i,i<n->∃x,p i x):∃f:Nat->α,∀i,i<n->p i (f i):=by
 classical
 exact⟨fun i=>if hi:i<n then(h i hi).choose else default,fun i hi=>by simp only[hi,dif_pos];exact(h i hi).choose_spec⟩
structure StSzU(lo:List Int)(rs:List (List Int)):Prop where
 loose:lo.length*8<=140737488355328
 runs:rs.length*24<=140737488355328
 each:∀i,i<rs.length->(rs.getD i []).length*8<=140737488355328
section
variable{H:Type}{enc:TypeId×Value -> H}{W:World}
end
theorem Eu(v:Value)(l:List Int)(w:World)(hl:l.length*8<=140737488355328)(hV:IntsVU w v l) :
  Calls qA 147 #[v] w fun e w'=>∃ao cap,e=.returned (.slice ao l.length cap)/\Below w.heap.size w w'/\Hid (w'.ownsRow w.heap.size 3 1 (.slice ao l.length cap) l.length (AB l)):=by
 have hV':=hV;obtain⟨ao,cap,rfl,⟨_,h0⟩,h⟩:=hV;obtain⟨i0,hi,hz0,hz1,hz2⟩:=info_parts Ba;cases ao with
 |none=>
  obtain⟨rfl,rfl⟩:=h0 rfl;simp only[vF];clear hV' h;go_enter Tryz.func147,Tryz.ntmps147;go_wp2_with (at_builtin;refine wpList_append_own_none rfl _ _ 39 rfl w.heap.size 3 i0 1 Tryz.underlying39 hi _ _ _ rfl (World.ownsRow_nil _ _ _ _) rfl ?_)
  go_ret;exact⟨none,0,rfl,qD _ _,World.ownsRow_nil _ _ _ _⟩
 |some a=>
  have hcells:=hV'.cells;clear h h0 hV';go_enter Tryz.func147,Tryz.ntmps147;go_wp2_with (at_builtin;refine wpList_append_own _ rfl _ _ 39 rfl w.heap.size 3 i0 (.int .i64 0) 1 8 Tryz.underlying39 hi hz0 hz1 hz2 rfl (by decide) _ _ _ rfl (World.ownsRow_nil _ _ _ _) a l.length cap (AB l) rfl ?c0 hcells (LO l) ?c3 ?c4 ?c5 ?_)
  case c0=>simp[AB]
  case c3=>unfold maxLen;omega
  case c4=>omega
  case c5=>exact qB _
  intro v' w4 hown' hgrow _;have hb:Below w.heap.size w w4:=(qD _ _).grown hgrow (qB _) (fun q hq=>by simp[Value.ownBlock]at hq);obtain⟨a4,c4,rfl⟩:=A2 hown';have HO:Hid (w4.ownsRow w.heap.size 3 1 (.slice a4 l.length c4) l.length (AB l)):=hown';clear hgrow hcells hown';go_wp2;go_ret;exact⟨a4,c4,rfl,hb,HO⟩
open Go.ChangeShapes Go.WideShapes Go.ChangeAt Go.RowKit Go.Deep
def AX(w:World)(base:Nat)(v:Value)(l:List Int):Prop:=w.ownsRow base 3 1 v l.length (AB l)
theorem AX.v{w:World}{base:Nat}{v:Value}{l:List Int}(h:AX w base v l):IntsVU w v l:=Io h
theorem AX.snoc{w:World}{base:Nat}{v:Value}{l:List Int}{x:Int}(h:w.ownsRow base 3 1 v (l.length+1) (AB l++[.int .i64 x])):AX w base v (l++[x]):=by
 unfold AX;rw[qF,Fg];exact h
theorem AX.mono{w:World}{base base':Nat}{v:Value}{l:List Int}(h:AX w base v l)(hb:base'<=base):AX w base' v l:=A1 h hb
theorem AX.later{w w':World}{base B:Nat}{v:Value}{l:List Int}(h:AX w base v l)(hb:Below B w w')(hB:w.heap.size<=B):AX w' base v l:=Aq h hb hB
theorem LisVU.len{w:World}{ao:Option Addr}{n cap:Nat}{l:List (List Int)}(h:LisVU w (.slice ao n cap) l):l.length=n:=by
 obtain⟨_,_,_,h,_⟩:=h;injection h with _ h _;exact h.symm
theorem Ks:qA.elem 39=3:=by kernel_rfl
theorem GM:qA.elem 38=39:=by kernel_rfl
theorem He{w:World}{ao:Option Addr}{n cap k:Nat}{l:List Int}(hV:IntsVU w (.slice ao n cap) l)(hk:k<=n):∃so sc,(∀w1,(Instr.slice 39 (.slice ao n cap) (some (.int .i64 (k:Int))) none none).run qA w1=.ok (.slice so (n-k) sc) w1)/\IntsVU w (.slice so (n-k) sc) (l.drop k):=by
 obtain⟨i0,hi,hz0,hz1,hz2⟩:=info_parts Ba;refine⟨if cap=k then ao else ao.map (·.add k),cap-k,fun w1=>?_,?_⟩
 .rw[run_slice_l w1 39 ao n cap (by rw[Ks];exact Tryz.underlying39) .i64 (k:Int) (by omega) (by omega),Ks];simp[sizeOf,typeInfo,hi,hz1,sliced,Result.andThen]
 .obtain ⟨ao',cap',e,⟨h1,h2⟩,h3⟩:=hV;injection e with e1 e2 e3;subst e1 e3;refine⟨_,cap-k,by rw[qN,e2],⟨by simp;omega,fun h=>?_⟩,fun hne=>?_⟩
  .by_cases hc:cap=k
   .rw[if_pos hc]at h;obtain⟨h4,h5⟩:=h2 h;exact⟨by omega,by rw[h5];simp⟩
   .rw[if_neg hc]at h;obtain⟨h4,h5⟩:=h2 (by simpa using h);exact⟨by omega,by rw[h5];simp⟩
  .have hlt:k<l.length:=by
    rcases vP k l.length with h|h
    .exact h
    .exact absurd (v7 h) hne
   obtain⟨b,off,rfl,hb,hat⟩:=h3 (by rintro rfl;simp at hlt);refine⟨b,off+k,?_,hb,fun i hi=>?_⟩
   .rw[if_neg (by omega)];simp[add_plain]
   .rw[qN]at hi;rw[show off+k+i=off+(k+i) by omega,hat (k+i) (by omega)];simp[qC]
theorem Ii{α:Type}(l:List α)(k i:Nat)(d:α):(l.drop k).getD i d=l.getD (k+i) d:=by simp[qC]
theorem Gg{α:Type}{l:List α}{k i:Nat}(d:α)(h:i<k):(l.take k).getD i d=l.getD i d:=by simp[qC,h]
theorem Ji{w:World}{ao:Option Addr}{n cap k:Nat}{rs:List (List Int)}(hV:LisVU w (.slice ao n cap) rs)(hk:k<=n):∃so sc,(∀w1,(Instr.slice 38 (.slice ao n cap) (some (.int .i64 (k:Int))) none none).run qA w1=.ok (.slice so (n-k) sc) w1)/\LisVU w (.slice so (n-k) sc) (rs.drop k):=by
 obtain⟨i0,hi,hz0,hz1,hz2⟩:=info_parts Dv;refine⟨if cap=k then ao else ao.map (·.add k),cap-k,fun w1=>?_,?_⟩
 .rw[run_slice_l w1 38 ao n cap (by rw[GM];exact Tryz.underlying38) .i64 (k:Int) (by omega) (by omega),GM];simp[sizeOf,typeInfo,hi,hz1,sliced,Result.andThen]
 .obtain ⟨us,ao',cap',e,⟨h1,h2⟩,hul,hu,h3⟩:=hV;injection e with e1 e2 e3;subst e1 e3;refine⟨us.drop k,_,cap-k,by rw[qN,e2],⟨by simp;omega,fun h=>?_⟩,by simp[hul],fun i hi=>?_,fun hne=>?_⟩
  .by_cases hc:cap=k
   .rw[if_pos hc]at h;obtain⟨h4,h5⟩:=h2 h;exact⟨by omega,by rw[h5];simp⟩
   .rw[if_neg hc]at h;obtain⟨h4,h5⟩:=h2 (by simpa using h);exact⟨by omega,by rw[h5];simp⟩
  .rw[qN]at hi;rw[Ii,Ii];exact hu (k+i) (by omega)
  .have hlt:k<rs.length:=by
    rcases vP k rs.length with h|h
    .exact h
    .exact absurd (v7 h) hne
   obtain⟨b,off,rfl,hb,hat⟩:=h3 (by rintro rfl;simp at hlt);refine⟨b,off+k,?_,hb,fun i hi=>?_⟩
   .rw[if_neg (by omega)];simp[add_plain]
   .rw[qN]at hi;rw[show off+k+i=off+(k+i) by omega,hat (k+i) (by omega),Ii]
theorem Jh{w:World}{ao:Option Addr}{n cap k:Nat}{rs:List (List Int)}(hV:LisVU w (.slice ao n cap) rs)(hk:k<=n):∃so sc,(∀w1,(Instr.slice 38 (.slice ao n cap) none (some (.int .i64 (k:Int))) none).run qA w1=.ok (.slice so k sc) w1)/\LisVU w (.slice so k sc) (rs.take k):=by
 obtain⟨i0,hi,hz0,hz1,hz2⟩:=info_parts Dv;obtain⟨us,ao',cap',e,⟨h1,h2⟩,hul,hu,h3⟩:=hV;injection e with e1 e2 e3;subst e1 e3;refine⟨if cap=0 then ao else ao.map (·.add 0),cap,fun w1=>?_,?_⟩
 .rw[run_slice_h w1 38 ao n cap (by rw[GM];exact Tryz.underlying38) .i64 (k:Int) (by omega) (by omega),GM];simp[sizeOf,typeInfo,hi,hz1,sliced,Result.andThen]
 .have hlk:(rs.take k).length=k:=by rw[qM];omega
  refine⟨us.take k,_,cap,by rw[hlk],⟨by rw[hlk];omega,fun h=>?_⟩,by rw[qM,qM,hul],fun i hi=>?_,fun hne=>?_⟩
  .by_cases hc:cap=0
   .rw[if_pos hc]at h;obtain⟨h4,h5⟩:=h2 h;exact⟨h4,by rw[h5];simp⟩
   .rw[if_neg hc]at h;obtain⟨h4,h5⟩:=h2 (by simpa using h);exact⟨h4,by rw[h5];simp⟩
  .rw[hlk]at hi;rw[Gg _ hi,Gg _ hi];exact hu i (by omega)
  .have hlt:0<k:=by
    rcases jE k with h|h
    .subst h;simp at hne
    .exact h
   obtain⟨b,off,rfl,hb,hat⟩:=h3 (by rintro rfl;simp at hne);refine⟨b,off,?_,hb,fun i hi=>?_⟩
   .rw[if_neg (by omega)];simp[add_plain]
   .rw[hlk]at hi;rw[hat i (by omega),Gg _ hi]
section
variable{P:Program}{w:World}
end
section
variable{w:World}
theorem UH(ty:TypeId)(base n cap:Nat)(vo:Option Addr)(xs:List Value)(hown:w.ownsRow base 3 1 (.slice vo n cap) n xs)(so:Option Addr)(m c:Nat)(l:List Int)(hV:IntsVU w (.slice so m c) l)(hsz:(n+m)*8<=140737488355328)(hbase:base<=w.heap.size) :
  ∃vo' cap' w',(Builtin.append_ #[39,39] ty #[.slice vo n cap,.slice so m c]).run qA w=.ok (.slice vo' (n+m) cap') w'/\w'.ownsRow base 3 1 (.slice vo' (n+m) cap') (n+m) (xs++AB l)/\w.grownBy w' (Value.slice vo n cap).ownBlock:=by
 obtain⟨i0,hi,hz0,hz1,hz2⟩:=info_parts Ba;obtain⟨so',c',e1,⟨hlc,hnone⟩,hat⟩:=id hV;injection e1 with e1 e2 e3;subst e1 e2 e3;by_cases hl:l=[]
 .subst hl;rcases hown.2 with⟨hv,h0⟩|⟨g,cap',cur,hv,_,_,hnc,_⟩
  .injection hv with h1 h2 h3;subst h1 h2 h3;exact⟨none,0,w,UG 39 ty 3 i0 Tryz.underlying39 hi so c,by simpa[AB]using hown,World.grownBy.refl _ _⟩
  .injection hv with h1 h2 h3;subst h1 h3;exact⟨_,cap,w,Mx 39 ty 3 i0 Tryz.underlying39 hi _ g n cap rfl so c hnc,by simpa[AB]using hown,World.grownBy.refl _ _⟩
 .obtain ⟨b,off,rfl,hbl,hba⟩:=hat hl;obtain⟨g,cap',w',h1,h2,h3,_,_⟩:=run_append_lies (P:=qA) w 39 ty base 3 i0 (.int .i64 0) 1 8 Tryz.underlying39 hi hz0 hz1 hz2 rfl (by decide) _ n xs hown ⟨b,off,none⟩ l.length c (AB l) (by rw[RA];omega) hba.cells (LO l) (vU.2 hl) (by unfold maxLen;omega) hsz hbase _ rfl;exact⟨_,cap',w',h1,h2,h3⟩
theorem Nf{o:Oper}{a:Act}{K:Act->World->Prop}{Q:Exit->Act->World->Prop}(s x:Operand)
  (ho:o.op=.call { callee:=.builtin .append,args:=#[s,x],argTypes:=#[39,39]})
  (base n cap:Nat) (vo:Option Addr) (xs:List Value) (hs:a.eval s=.slice vo n cap) (hown:w.ownsRow base 3 1 (.slice vo n cap) n xs) (so:Option Addr) (m c:Nat) (l:List Int) (hx:a.eval x=.slice so m c) (hV:IntsVU w (.slice so m c) l)
  (hsz:(n+m)*8<=140737488355328) (hbase:base<=w.heap.size)
  (h:∀vo' cap' w',w'.ownsRow base 3 1 (.slice vo' (n+m) cap') (n+m) (xs++AB l)->w.grownBy w' (Value.slice vo n cap).ownBlock->K (a.put o.dst (.slice vo' (n+m) cap')) w'):o.wp qA a w K Q:=by
 obtain⟨vo',cap',w',hr,h2,h3⟩:=UH o.type base n cap vo xs hown so m c l hV hsz hbase;unfold Oper.wp execOp;simp only[ho,resolve,invoke,builtin,Sem.run_bind,Sem.run_pure,Result.andThen_ok,List.map_toArray,List.map_cons,List.map_nil,hs,hx,hr];exact h vo' cap' w' h2 h3
theorem V3{ops:Array Oper}{rest:List Oper}{o:Oper}{a:Act}{Q:Exit->Act->World->Prop}(hgd:o.guard=none)(s x:Operand)
  (ho:o.op=.call { callee:=.builtin .append,args:=#[s,x],argTypes:=#[39,39]})
  (base n cap:Nat) (vo:Option Addr) (xs:List Value) (hs:a.eval s=.slice vo n cap) (hown:w.ownsRow base 3 1 (.slice vo n cap) n xs) (so:Option Addr) (m c:Nat) (l:List Int) (hx:a.eval x=.slice so m c) (hV:IntsVU w (.slice so m c) l)
  (hsz:(n+m)*8<=140737488355328) (hbase:base<=w.heap.size)
  (h:∀vo' cap' w',w'.ownsRow base 3 1 (.slice vo' (n+m) cap') (n+m) (xs++AB l)->w.grownBy w' (Value.slice vo n cap).ownBlock->wpList qA ops Q rest (a.put o.dst (.slice vo' (n+m) cap')) w'):wpList qA ops Q (o::rest) a w:=
 wpList_plain hgd fun _ hK=>Nf s x ho base n cap vo xs hs hown so m c l hx hV hsz hbase fun vo' cap' w' h1 h2=>hK _ _ (h vo' cap' w' h1 h2)
theorem Hi{ops:Array Oper}{o:Oper}{a:Act}{K:Act->World->Prop}{Q:Exit->Act->World->Prop}{E:Prop}(hgd:o.guard=none)(s x:Operand)
  (ho:o.op=.call { callee:=.builtin .append,args:=#[s,x],argTypes:=#[39,39]})
  (base n cap:Nat) (vo:Option Addr) (xs:List Value) (hs:a.eval s=.slice vo n cap) (hown:w.ownsRow base 3 1 (.slice vo n cap) n xs) (so:Option Addr) (m c:Nat) (l:List Int) (hx:a.eval x=.slice so m c) (hV:IntsVU w (.slice so m c) l)
  (hsz:(n+m)*8<=140737488355328) (hbase:base<=w.heap.size)
  (h:∀vo' cap' w',w'.ownsRow base 3 1 (.slice vo' (n+m) cap') (n+m) (xs++AB l)->w.grownBy w' (Value.slice vo n cap).ownBlock->K (a.put o.dst (.slice vo' (n+m) cap')) w') :
  if Region.wanted o (yielded ops a.tmps)=true then Oper.wp qA o a w K Q else E:=by
 have hw:Region.wanted o (yielded ops a.tmps)=true:=by simp[Region.wanted,hgd]
 rw[if_pos hw];exact Nf s x ho base n cap vo xs hs hown so m c l hx hV hsz hbase h
end
def Aa(w:World)(B:Nat)(v:Value)(l:List Int):Prop:=IntsVU w v l/\∀b off n c,v=.slice (some ⟨b,off,none⟩) n c->l≠[]->B<=b
theorem Aa.v{w:World}{B:Nat}{v:Value}{l:List Int}(h:Aa w B v l):IntsVU w v l:=h.1
theorem AX.n{w:World}{B:Nat}{v:Value}{l:List Int}(h:AX w B v l):Aa w B v l:=by
 refine⟨h.v,fun b off n c e hne=>?_⟩;rcases h.2 with⟨e0,h0⟩|⟨g,cap,cur,e0,hg,_⟩
 .rw[e]at e0;cases e0
 .rw[e]at e0;injection e0 with e1 _ _;injection e1 with e1;injection e1 with e1;omega
theorem Aa.mono{w:World}{B B':Nat}{v:Value}{l:List Int}(h:Aa w B v l)(hb:B'<=B):Aa w B' v l:=⟨h.1,fun b off n c e hne=>qI hb (h.2 b off n c e hne)⟩
theorem Aa.below{w w':World}{B:Nat}{v:Value}{l:List Int}(h:Aa w B v l)(hb:Below w.heap.size w w'):Aa w' B v l:=⟨h.1.below hb,h.2⟩
theorem Aa.nil(w:World)(B:Nat):Aa w B (.slice none 0 0) []:=⟨Im w,fun _ _ _ _ _ h=>absurd rfl h⟩
def Bm(r:List Int):Bool:=r.length == 0
theorem Q3(ao:Option Addr)(n cap:Nat)(w:World):Calls qA 166 #[.slice ao n cap] w fun e w'=>e=.returned (.bool (n == 0))/\w'=w:=by
 by_cases h:n=0
 .subst h;go_enter Tryz.func166,Tryz.ntmps166;go_wp2;go_ret;exact⟨rfl,rfl⟩
 .have h2:¬(n:Int)=0:=by omega
  rw[show(n == 0)=false by simp[h]];go_enter Tryz.func166,Tryz.ntmps166;go_wp2;go_ret;exact⟨by first|rfl|(simp;exact h),rfl⟩
theorem Qr(ao:Option Addr)(cap:Nat)(rs:List (List Int))(w:World)(hl:rs.length<=140737488355328)(hV:LisVU w (.slice ao rs.length cap) rs) :
  Calls qA 184 #[.slice ao rs.length cap,.func (.func 166) #[] #[]] w fun e w'=>∃q:Int,e=.returned (.int .i64 q)/\w'=w/\(rs.any Bm=true->0<=q)/\(rs.any Bm=false->q=-1):=by
 obtain⟨n,hn⟩:∃n,rs.length=n:=⟨_,rfl⟩;have H:Hid (LisVU w (.slice ao rs.length cap) rs):=hV;rw[hn]at hl H⊢;have HN:Hid (rs.length=n):=hn;clear hV hn;go_enter Tryz.func184,Tryz.ntmps184;go_wp2;go_loopw [8] (fun i wr=>∃k:Nat,k<=n/\i=.int .i64 k/\(rs.take k).any Bm=false/\wr=w) (fun i _=>n-(intOf i).toNat)
 case atStart=>exact⟨0,qJ _,rfl,rfl,rfl⟩
 case round=>
  obtain⟨k,hk,rfl,HT,rfl⟩:=hrel;by_cases hlt:k<n
  .have hlt2:k<rs.length:=by rw[HN.out];exact hlt
   obtain⟨b,off,rfl,_,u,c1,hu⟩:=H.out.at hlt2;obtain⟨uo,uc,rfl⟩:=hu.shape;have hou:=Q3 uo (rs.getD k []).length uc wr;have hst:(rs.take (k+1)).any Bm=Bm (rs.getD k []):=by
    rw[Fy hlt2 [],xZ,HT];simp
   have hany:Bm (rs.getD k [])=true->rs.any Bm=true:=fun h=>vB.2 ⟨rs.getD k [],DR hlt2 [],h⟩;have HS:Hid ((rs.take (k+1)).any Bm=Bm (rs.getD k [])):=hst;have HAn:Hid (Bm (rs.getD k [])=true->rs.any Bm=true):=hany;unfold Bm at HS HAn;clear hst hany HT hu;generalize(rs.getD k []).length=x at *;generalize hxx:(x == 0)=o at *;clear hxx
   cases o
   .go_wp2_with (go_at_call 166;refine hou.mono ?_;rintro e w1 ⟨rfl,rfl⟩)
    go_roundw
    case rel=>exact⟨k+1,by omega,by go_num,HS.out,by trivial⟩
    case measure=>simp[intOf];omega
   .go_wp2_with (go_at_call 166;refine hou.mono ?_;rintro e w1 ⟨rfl,rfl⟩)
    go_ret;exact⟨_,rfl,rfl,fun _=>by omega,fun h=>by have:=HAn.out (by trivial);unfold Bm at h;rw[this]at h;simp at h⟩
  .obtain rfl:k=n:=by omega
   have hall:rs.take k=rs:=by rw[qQ];rw[HN.out];omega
   rw[hall]at HT;have HT':Hid (rs.any Bm=false):=HT;clear HT;go_wp2;go_ret;exact⟨-1,rfl,rfl,fun h=>by rw[HT'.out]at h;simp at h,fun _=>rfl⟩
theorem PM(ao:Option Addr)(cap:Nat)(rs:List (List Int))(w:World)(hl:rs.length<=140737488355328)(hV:LisVU w (.slice ao rs.length cap) rs) :
  Calls qA 165 #[.slice ao rs.length cap,.func (.func 166) #[] #[]] w fun e w'=>e=.returned (.bool (rs.any Bm))/\w'=w:=by
 have hx:=Qr ao cap rs w hl hV;generalize rs.length=n at *;generalize rs.any Bm=o at *;clear hV
 cases o
 all_goals
  go_enter Tryz.func165,Tryz.ntmps165;go_wp2_with (go_at_call 184;refine hx.mono ?_;rintro e w1 ⟨q,rfl,rfl,h1,h2⟩;first|(obtain rfl:=h2 rfl)|(have h3:=h1 rfl))
  go_ret;exact⟨by first|rfl|trivial,rfl⟩
def Bp(w:World)(g:Nat)(x:Int):Prop:=g<w.heap.size/\w.cell? ⟨g,0,none⟩=some (.int .i64 x)/\w.frozen? ⟨g,0,none⟩=false
theorem Bp.later{w w':World}{g:Nat}{x:Int}(h:Bp w g x)(hb:Below w.heap.size w w'):Bp w' g x:=
 ⟨qE h.1 hb.size,(hb.cell (p:=⟨g,0,none⟩) h.1).trans h.2.1,(hb.frozen (p:=⟨g,0,none⟩) h.1).trans h.2.2⟩
theorem Bp.set{w:World}{g:Nat}{a x:Int}(h:Bp w g a):Below g w (w.setCell ⟨g,0,none⟩ (.int .i64 x))/\Bp (w.setCell ⟨g,0,none⟩ (.int .i64 x)) g x:=by
 obtain⟨h0,h1,h2⟩:=h;exact⟨(qD _ _).setCell (p:=⟨g,0,none⟩) (qB _) _,by simpa using h0,by simp[go_sem,h1],by simp[go_sem,h2]⟩
theorem Sl(g:Nat)(x a:Int)(w:World)(h:Bp w g a) :
  Calls qA 167 #[.int .i64 x,.pointer (some ⟨g,0,none⟩)] w fun e w'=>e=.returned (.bool (decide (x<=a)||decide (2147483647<x)))/\Below g w w'/\Hid (Bp w' g x):=by
 have HS:Hid (Below g w (w.setCell ⟨g,0,none⟩ (.int .i64 x))/\Bp (w.setCell ⟨g,0,none⟩ (.int .i64 x)) g x):=h.set;obtain⟨h0,h1,h2⟩:=h;by_cases hx:x<=a
 .rw[show(decide (x<=a)||decide (2147483647<x))=true by simp[hx]];go_enter Tryz.func167,Tryz.ntmps167;go_wp2;go_ret;exact⟨rfl,HS.out.1,HS.out.2⟩
 .by_cases hy:2147483647<x
  .rw[show(decide (x<=a)||decide (2147483647<x))=true by simp[hy]];go_enter Tryz.func167,Tryz.ntmps167;go_wp2;go_ret;exact⟨rfl,HS.out.1,HS.out.2⟩
  .rw[show(decide (x<=a)||decide (2147483647<x))=false by simp[hx,hy]];go_enter Tryz.func167,Tryz.ntmps167;go_wp2;go_ret;exact⟨rfl,HS.out.1,HS.out.2⟩
def Dp(l:List Int)(k:Nat):Int:=if k=0 then -1 else l.getD (k-1) 0
theorem Qu(B g:Nat)(ao:Option Addr)(cap:Nat)(l:List Int)(w:World)(hl:l.length<=140737488355328)(hBg:B<=g)(hlt0:∀b off,ao=some ⟨b,off,none⟩->l≠[]->b<B)(hV:IntsVU w (.slice ao l.length cap) l)(hc:Bp w g (-1)) :
  Calls qA 136 #[.slice ao l.length cap,.func (.func 167) #[] #[.pointer (some ⟨g,0,none⟩)]] w fun e w'=>∃q:Int,e=.returned (.int .i64 q)/\Below B w w'/\(nrB (-1) l=true->0<=q)/\(nrB (-1) l=false->q=-1):=by
 obtain⟨n,hn⟩:∃n,l.length=n:=⟨_,rfl⟩;have H:Hid (IntsVU w (.slice ao l.length cap) l):=hV;rw[hn]at hl H⊢;have HN:Hid (l.length=n):=hn;have HC:Hid (Bp w g (Dp l 0)):=hc;have H0:Hid (∀b off,ao=some ⟨b,off,none⟩->l≠[]->b<B):=hlt0;clear hV hn hc hlt0;go_enter Tryz.func136,Tryz.ntmps136;go_wp2;go_loopw [8] (fun i wr=>∃k:Nat,k<=n/\i=.int .i64 k/\Hid (nrB (Dp l k) (l.drop k)=nrB (-1) l)/\Hid (Bp wr g (Dp l k))/\Below B w wr) (fun i _=>n-(intOf i).toNat)
 case atStart=>exact⟨0,qJ _,rfl,rfl,HC,qD _ _⟩
 case round=>
  obtain⟨k,hk,rfl,HT,HC1,hB⟩:=hrel;by_cases hlt:k<n
  .have hlt2:k<l.length:=by rw[HN.out];exact hlt
   obtain⟨b,off,rfl,hb,_,hat⟩:=H.out.at hlt2;have hbB:b<B:=H0.out b off rfl (by rintro rfl;simp at hlt2);have c1:=(hB.cell (p:=⟨b,off+k,none⟩) hbB).trans (hat k hlt2);have hou:=Sl g (l.getD k 0) (Dp l k) wr HC1.out;have HS:Hid (nrB (-1) l=((decide (l.getD k 0<=Dp l k)||decide (2147483647<l.getD k 0))||nrB (l.getD k 0) (l.drop (k+1)))):=by show _=_;rw[<-HT.out,Ev hlt2 0];rfl
   have HE:Hid (Dp l (k+1)=l.getD k 0):=by show _=_;simp[Dp]
   clear hat HT HC1 hbB HC;generalize hx:l.getD k 0=x at *;clear hx;generalize(decide (x<=Dp l k)||decide (2147483647<x))=o at *
   cases o
   .go_wp2_with (refine hou.mono ?_;rintro e w1 ⟨rfl,hb1,hc1⟩)
    go_roundw
    case rel=>exact⟨k+1,by omega,by go_num,by rw[HE.out,HS.out];rfl,by rw[HE.out];exact hc1,hB.trans (hb1.mono hBg)⟩
    case measure=>simp[intOf];omega
   .go_wp2_with (refine hou.mono ?_;rintro e w1 ⟨rfl,hb1,hc1⟩)
    go_ret;exact⟨_,rfl,hB.trans (hb1.mono hBg),fun _=>by omega,fun h=>by rw[HS.out]at h;simp at h⟩
  .obtain rfl:k=n:=by omega
   have HT':Hid (nrB (-1) l=false):=by show _=_;rw[<-HT.out,v7 (by rw[HN.out];omega)];rfl
   clear HT;go_wp2;go_ret;exact⟨-1,rfl,hB,fun h=>by rw[HT'.out]at h;simp at h,fun _=>rfl⟩
theorem PQ(B g:Nat)(ao:Option Addr)(cap:Nat)(l:List Int)(w:World)(hl:l.length<=140737488355328)(hBg:B<=g)(hlt0:∀b off,ao=some ⟨b,off,none⟩->l≠[]->b<B)(hV:IntsVU w (.slice ao l.length cap) l)(hc:Bp w g (-1)) :
  Calls qA 106 #[.slice ao l.length cap,.func (.func 167) #[] #[.pointer (some ⟨g,0,none⟩)]] w fun e w'=>e=.returned (.bool (nrB (-1) l))/\Below B w w':=by
 have hx:=Qu B g ao cap l w hl hBg hlt0 hV hc;generalize l.length=n at *;generalize nrB (-1) l=o at *;clear hV hlt0 hc
 cases o
 all_goals
  go_enter Tryz.func106,Tryz.ntmps106;go_wp2_with (go_at_call 136;refine hx.mono ?_;rintro e w1 ⟨q,rfl,hb1,h1,h2⟩;first|(obtain rfl:=h2 rfl)|(have h3:=h1 rfl))
  go_ret;exact⟨by first|rfl|trivial,hb1⟩
theorem Sh(ao:Option Addr)(cap:Nat)(l:List Int)(w:World)(hl:l.length<=140737488355328)(hV:IntsVU w (.slice ao l.length cap) l) :
  Calls qA 140 #[.slice ao l.length cap] w fun e w'=>e=.returned (.bool (nrB (-1) l))/\Below w.heap.size w w':=by
 have hb0:Below w.heap.size w (w.alloc (.cells #[.int .i64 (-1)] 3)):=(qD _ _).alloc (qB _) _;have hcc:Bp (w.alloc (.cells #[.int .i64 (-1)] 3)) w.heap.size (-1):=⟨by simp,by simp[go_sem],by simp[go_sem]⟩;have hx:=PQ w.heap.size w.heap.size ao cap l _ hl (qB _) (fun b off h hne=>by subst h;obtain⟨b',off',e,h2,_⟩:=hV.at (vU.2 hne);injection e with e;injection e with e;subst e;exact h2) (hV.below hb0) hcc;have HB:Hid (∀w1,Below w.heap.size (w.alloc (.cells #[.int .i64 (-1)] 3)) w1->Below w.heap.size w w1):=fun w1 h=>hb0.trans h;generalize l.length=n at *;clear hV hb0 hcc
 go_enter Tryz.func140,Tryz.ntmps140;go_wp2_with (go_at_call 106;refine hx.mono ?_;rintro e w1 ⟨rfl,hb1⟩)
 go_ret;exact⟨rfl,HB.out _ hb1⟩
theorem Qt(ao:Option Addr)(cap:Nat)(l:List Int)(x:Int)(w:World)(hl:l.length<=140737488355328)(hV:IntsVU w (.slice ao l.length cap) l) :
  Calls qA 193 #[.slice ao l.length cap,.int .i64 x] w fun e w'=>∃q:Int,e=.returned (.int .i64 q)/\w'=w/\(x∈l->0<=q)/\(x∉l->q=-1):=by
 obtain⟨n,hn⟩:∃n,l.length=n:=⟨_,rfl⟩;have H:Hid (IntsVU w (.slice ao l.length cap) l):=hV;rw[hn]at hl H⊢;have HN:Hid (l.length=n):=hn;clear hV hn;go_enter Tryz.func193,Tryz.ntmps193;go_wp2;go_loopw [8] (fun i wr=>∃k:Nat,k<=n/\i=.int .i64 k/\Hid (x∉l.take k)/\wr=w) (fun i _=>n-(intOf i).toNat)
 case atStart=>exact⟨0,qJ _,rfl,by show¬_;simp,rfl⟩
 case round=>
  obtain⟨k,hk,rfl,HT,rfl⟩:=hrel;by_cases hlt:k<n
  .have hlt2:k<l.length:=by rw[HN.out];exact hlt
   obtain⟨b,off,rfl,hb,_,hat⟩:=H.out.at hlt2;have c1:=hat k hlt2;have HS:Hid (x≠l.getD k 0->x∉l.take (k+1)):=fun h hm=>by
    rw[Fy hlt2 0]at hm;rcases qO.1 hm with h2|h2
    .exact HT.out h2
    .simp at h2;exact h h2
   have HM:Hid (l.getD k 0∈l):=DR hlt2 0;clear hat HT;generalize l.getD k 0=y at *
   by_cases hxy:x=y
   .subst hxy;go_wp2;go_ret;exact⟨_,rfl,rfl,fun _=>by omega,fun h=>absurd HM.out h⟩
   .have hs:=HS.out hxy;have HS2:Hid (x∉l.take (k+1)):=hs;clear hs HS HM;go_wp2;go_roundw
    case rel=>exact⟨k+1,by omega,by go_num,HS2,by trivial⟩
    case measure=>simp[intOf];omega
  .obtain rfl:k=n:=by omega
   have HT':Hid (x∉l):=by have h:=HT.out;rw[qQ (by rw[HN.out];omega)]at h;exact h
   clear HT;go_wp2;go_ret;exact⟨-1,rfl,rfl,fun h=>absurd h HT'.out,fun _=>rfl⟩
theorem PP(ao:Option Addr)(cap:Nat)(l:List Int)(x:Int)(w:World)(hl:l.length<=140737488355328)(hV:IntsVU w (.slice ao l.length cap) l) :
  Calls qA 185 #[.slice ao l.length cap,.int .i64 x] w fun e w'=>e=.returned (.bool (decide (x∈l)))/\w'=w:=by
 have hx:=Qt ao cap l x w hl hV;generalize l.length=n at *;clear hV
 by_cases hm:x∈l
 .rw[show decide (x∈l)=true by simp[hm]];have hx2:Calls qA 193 #[.slice ao n cap,.int .i64 x] w fun e w'=>∃q:Int,e=.returned (.int .i64 q)/\w'=w/\0<=q:=hx.mono fun e w' ⟨q,h1,h2,h3,_⟩=>⟨q,h1,h2,h3 hm⟩;clear hx hm;go_enter Tryz.func185,Tryz.ntmps185;go_wp2_with (go_at_call 193;refine hx2.mono ?_;rintro e w1 ⟨q,rfl,rfl,h3⟩)
  go_ret;exact⟨by first|rfl|trivial,rfl⟩
 .rw[show decide (x∈l)=false by simp[hm]];have hx2:Calls qA 193 #[.slice ao n cap,.int .i64 x] w fun e w'=>e=.returned (.int .i64 (-1))/\w'=w:=hx.mono fun e w' ⟨q,h1,h2,_,h3⟩=>⟨by rw[h1,h3 hm],h2⟩;clear hx hm;go_enter Tryz.func185,Tryz.ntmps185;go_wp2_with (go_at_call 193;refine hx2.mono ?_;rintro e w1 ⟨rfl,rfl⟩)
  go_ret;exact⟨by first|rfl|trivial,rfl⟩
theorem Qn(g:Nat)(x:Int)(ao:Option Addr)(cap:Nat)(r:List Int)(w:World)(hl:r.length<=100000)(hs:r.Pairwise (· <= ·))(hV:IntsVU w (.slice ao r.length cap) r)(h:Bp w g x) :
  Calls qA 186 #[.slice ao r.length cap,.pointer (some ⟨g,0,none⟩)] w fun e w'=>e=.returned (.bool (decide (x∈r)))/\∃q,w'=w.drewN q:=by
 obtain⟨h0,h1,h2⟩:=h;have hb:Calls qA 112 #[.slice ao r.length cap,.int .i64 x] w fun e w'=>∃p:Int,e=.returned (.tuple #[.int .i64 p,.bool (decide (x∈r))])/\∃q,w'=w.drewN q:=by
  by_cases hr:r=[]
  .subst hr;exact(slices_BinarySearch_int_empty ao cap x w).mono fun e w' ⟨h1,h2⟩=>⟨0,by rw[h1];simp,0,h2⟩
  .obtain ⟨b,off,rfl,_,_,hat⟩:=hV.at (vU.2 hr);refine(slices_BinarySearch_int b off r.length cap r x w (qB _) (by omega) hat (by rw[vL];exact hs)).mono fun e w' ⟨h1,h2⟩=>⟨((r.countP (· < x):Nat):Int),by rw[h1,vL,List.contains_eq_mem],h2⟩
 generalize decide (x∈r)=o at *;generalize r.length=n at *;clear hV hs
 go_enter Tryz.func186,Tryz.ntmps186;go_wp2_with (go_at_call 112;refine hb.mono ?_;rintro e w1 ⟨p,rfl,q,rfl⟩)
 go_ret;exact⟨rfl,q,rfl⟩
def Ce(x:Int)(r:List Int):Bool:=decide (x∈r)
theorem Qs(g:Nat)(x:Int)(ao:Option Addr)(cap:Nat)(rs:List (List Int))(w:World)(hl:rs.length<=100000)(hr:∀r∈rs,r.length<=100000/\r.Pairwise (· <= ·))(hV:LisVU w (.slice ao rs.length cap) rs)(hc:Bp w g x) :
  Calls qA 184 #[.slice ao rs.length cap,.func (.func 186) #[] #[.pointer (some ⟨g,0,none⟩)]] w fun e w'=>∃q:Int,e=.returned (.int .i64 q)/\Below w.heap.size w w'/\(rs.any (Ce x)=true->0<=q)/\(rs.any (Ce x)=false->q=-1):=by
 obtain⟨n,hn⟩:∃n,rs.length=n:=⟨_,rfl⟩;have H:Hid (∀w1,Below w.heap.size w w1->LisVU w1 (.slice ao rs.length cap) rs):=fun w1 h=>hV.below h;have HC:Hid (∀w1,Below w.heap.size w w1->Bp w1 g x):=fun w1 h=>hc.later h;have HR:Hid (∀r∈rs,r.length<=100000/\r.Pairwise (· <= ·)):=hr;rw[hn]at hl H⊢;have HN:Hid (rs.length=n):=hn;clear hV hn hc hr;go_enter Tryz.func184,Tryz.ntmps184;go_wp2;go_loopw [8] (fun i wr=>∃k:Nat,k<=n/\i=.int .i64 k/\(rs.take k).any (Ce x)=false/\Below w.heap.size w wr) (fun i _=>n-(intOf i).toNat)
 case atStart=>exact⟨0,qJ _,rfl,rfl,qD _ _⟩
 case round=>
  obtain⟨k,hk,rfl,HT,hB⟩:=hrel;by_cases hlt:k<n
  .have hlt2:k<rs.length:=by rw[HN.out];exact hlt
   obtain⟨b,off,rfl,_,u,c1,hu⟩:=(H.out wr hB).at hlt2;obtain⟨uo,uc,rfl⟩:=hu.shape;obtain⟨hr1,hr2⟩:=HR.out _ (DR hlt2 []);have hou:=Qn g x uo uc (rs.getD k []) wr hr1 hr2 hu (HC.out wr hB);have HS:Hid ((rs.take (k+1)).any (Ce x)=Ce x (rs.getD k [])):=by
    show _=_;rw[Fy hlt2 [],xZ,HT];simp
   have HAn:Hid (Ce x (rs.getD k [])=true->rs.any (Ce x)=true):=fun h=>vB.2 ⟨rs.getD k [],DR hlt2 [],h⟩;have hou2:Calls qA 186 #[.slice uo (rs.getD k []).length uc,.pointer (some ⟨g,0,none⟩)] wr fun e w'=>e=.returned (.bool (Ce x (rs.getD k [])))/\∃q,w'=wr.drewN q:=hou;clear HT hu hou hr1 hr2;generalize(rs.getD k []).length=m at *;generalize Ce x (rs.getD k [])=o at *
   cases o
   .go_wp2_with (refine hou2.mono ?_;rintro e w1 ⟨rfl,q1,rfl⟩)
    go_roundw
    case rel=>exact⟨k+1,by omega,by go_num,HS.out,below_drewN hB _⟩
    case measure=>simp[intOf];omega
   .go_wp2_with (refine hou2.mono ?_;rintro e w1 ⟨rfl,q1,rfl⟩)
    go_ret;exact⟨_,rfl,below_drewN hB _,fun _=>by omega,fun h=>by have:=HAn.out (by trivial);rw[this]at h;simp at h⟩
  .obtain rfl:k=n:=by omega
   have hall:rs.take k=rs:=by rw[qQ];rw[HN.out];omega
   rw[hall]at HT;have HT':Hid (rs.any (Ce x)=false):=HT;clear HT;go_wp2;go_ret;exact⟨-1,rfl,hB,fun h=>by rw[HT'.out]at h;simp at h,fun _=>rfl⟩
theorem PN(g:Nat)(x:Int)(ao:Option Addr)(cap:Nat)(rs:List (List Int))(w:World)(hl:rs.length<=100000)(hr:∀r∈rs,r.length<=100000/\r.Pairwise (· <= ·))(hV:LisVU w (.slice ao rs.length cap) rs)(hc:Bp w g x) :
  Calls qA 165 #[.slice ao rs.length cap,.func (.func 186) #[] #[.pointer (some ⟨g,0,none⟩)]] w fun e w'=>e=.returned (.bool (rs.any (Ce x)))/\Below w.heap.size w w':=by
 have hx:=Qs g x ao cap rs w hl hr hV hc;generalize rs.length=n at *;generalize rs.any (Ce x)=o at *;clear hV hr hc
 cases o
 all_goals
  go_enter Tryz.func165,Tryz.ntmps165;go_wp2_with (go_at_call 184;refine hx.mono ?_;rintro e w1 ⟨q,rfl,hb1,h1,h2⟩;first|(obtain rfl:=h2 rfl)|(have h3:=h1 rfl))
  go_ret;exact⟨by first|rfl|trivial,hb1⟩
def BU(p:Value->List Int->Prop)(us:List Value)(rs:List (List Int)):Prop:=us.length=rs.length/\∀i,i<rs.length->p (us.getD i DE) (rs.getD i [])
theorem BU.nil(p:Value->List Int->Prop):BU p [] []:=⟨rfl,fun i hi=>by simp at hi⟩
theorem BU.append{p:Value->List Int->Prop}{us vs:List Value}{rs ls:List (List Int)}(h1:BU p us rs)(h2:BU p vs ls):BU p (us++vs) (rs++ls):=by
 refine⟨by simp[h1.1,h2.1],fun i hi=>?_⟩;rw[Ez,Ez,h1.1];split
 .rename_i h;exact h1.2 i h
 .rename_i h;exact h2.2 _ (by simp at hi;omega)
theorem BU.one{p:Value->List Int->Prop}(hp:∀v l,p v l->∃ao cap,v=Value.slice ao l.length cap){us:List Value}{rs:List (List Int)}(h:BU p us rs):∀u∈us,u.oneCell'=true:=by
 intro u hu;obtain⟨i,hi,rfl⟩:=List.mem_iff_getElem.1 hu;obtain⟨a,c,e⟩:=hp _ _ (h.2 i (by rw[<-h.1];exact hi));rw[Ij hi]at e;rw[e];rfl
def Ca(p:Value->List Int->Prop)(w:World)(v:Value)(rs:List (List Int)):Prop:=∃(us:List Value) (ao:Option Addr) (cap:Nat),v=.slice ao rs.length cap/\(rs.length<=cap/\(ao=none->cap=0/\rs=[]))/\us.length=rs.length/\(∀i,i<rs.length->p (us.getD i DE) (rs.getD i []))/\(rs≠[]->∃b off,ao=some ⟨b,off,none⟩/\b<w.heap.size/\∀i,i<rs.length->w.cell? ⟨b,off+i,none⟩=some (us.getD i DE))
theorem Ca.shape{p:Value->List Int->Prop}{w:World}{v:Value}{rs:List (List Int)}(h:Ca p w v rs):∃ao cap,v=.slice ao rs.length cap:=by
 obtain⟨us,ao,cap,rfl,_⟩:=h;exact⟨_,_,rfl⟩
def Nv(w:World)(us:List Value)(rs:List (List Int)):Prop:=us.length=rs.length/\∀i,i<rs.length->IntsVU w (us.getD i DE) (rs.getD i [])
theorem Iu{w:World}{base n:Nat}{v:Value}{us:List Value}{rs:List (List Int)}(h:w.ownsRow base 39 1 v n us)(hu:Nv w us rs):LisVU w v rs:=by
 have hn:rs.length=n:=by have:=h.1;have:=hu.1;omega
 subst hn;rcases h.2 with⟨rfl,h0⟩|⟨g,cap,cur,rfl,hb,hg,hnc,hcm,hcs,htake⟩
 .have:rs=[]:=by simpa using h0
  subst this;exact LisVU.nil w
 .refine ⟨us,_,cap,rfl,⟨hnc,fun h=>by simp at h⟩,hu.1,hu.2,fun _=>⟨g,0,rfl,(qG.1 hg).1,fun i hi=>?_⟩⟩;rw[Nat.zero_add,h.cellAt i (by omega)];simp[qC,show i<us.length by have:=hu.1;omega]
theorem Qg(n:Nat)(w:World)(h0:0<n)(h24:n<=40000) :
  Calls qA 169 #[.slice none 0 0,.int .i64 (n:Int)] w fun e w'=>∃B cap,e=.returned (.slice (some ⟨B,0,none⟩) 0 cap)/\Below w.heap.size w w'/\w'.ownsRow w.heap.size 39 1 (.slice (some ⟨B,0,none⟩) 0 cap) 0 []:=by
 obtain⟨i0,hi,hz0,hz1,hz2⟩:=info_parts Dv;have hrz:∀ty,(Builtin.append_ #[38,3] ty #[.slice none 0 0,.int .i64 (n:Int)]).run qA w=.ok (.slice (some ⟨w.heap.size,0,none⟩) n (grownCap w n 0 39)) (w.drew.alloc (.cells (Builtin.zeroCells (Value.slice none 0 0).cells n++Builtin.zeroCells (Value.slice none 0 0).cells (grownCap w n 0 39-n)) 39)):=fun ty=>
  Lib.run_append_nil_zeros w 38 3 ty 39 i0 (.slice none 0 0) .i64 .i64 Tryz.underlying38 Tryz.underlying3 hi hz0 n h0 (by omega) (by omega) (by rw[hz2];omega)
 have hge:=grownCap_ge w n 0 39;have hle:=grownCap_le_maxLen w n 0 39 (by unfold maxLen;omega);generalize grownCap w n 0 39=G at hrz hge hle;have hG:G<=9223372036854775807:=by unfold maxLen at hle;omega
 have hn:¬(n:Int)<0:=by omega
 have hn2:(n:Int)>0:=by omega
 go_enter Tryz.func169,Tryz.ntmps169;go_wp2_with (at_builtin;refine Lib.wpList_append_run _ rfl _ _ _ _ rfl _ _ rfl rfl _ _ (hrz _) ?_)
 go_ret;refine⟨_,_,rfl,(below_drewN (qD _ _) 1).alloc (qB _) _,?_⟩;refine⟨rfl,.inr ⟨w.heap.size,G,Builtin.zeroCells #[Value.slice none 0 0] n++Builtin.zeroCells #[Value.slice none 0 0] (G-n),rfl,qB _,?_,qJ _,hle,?_,by simp⟩⟩
 .show (w.heap.push _)[w.heap.size]? = _;simp
 .simp[size_zeroCells];omega
def Cq(ss ll:List (List Int))(k:Nat):List (List Int):=if k=0 then []else if k=1 then ss else ss++ll
theorem PK{p:Value->List Int->Prop}{w0 w:World}{g:Nat}{so lo:Option Addr}{sn ln sc lc:Nat}{ss ll:List (List Int)}(hsn:sn=ss.length)(hln:ln=ll.length)(h1:sn<=20000)(h2:ln<=20000)(hS:Ca p w0 (.slice so sn sc) ss)(hL:Ca p w0 (.slice lo ln lc) ll)(c0:w.cell? ⟨g,0,none⟩=some (.slice so sn sc))(c1:w.cell? ⟨g,1,none⟩=some (.slice lo ln lc)){k:Nat}(hk:k<2) :
  ∃xo xn xc xl,w.cell? ⟨g,k,none⟩=some (.slice xo xn xc)/\zL sn ln (k+1)=zL sn ln k+(xn:Int)/\0<=zL sn ln k/\zL sn ln k<=20000/\xn<=20000/\xn=xl.length/\Cq ss ll (k+1)=Cq ss ll k++xl/\(Cq ss ll k).length<=20000/\Ca p w0 (.slice xo xn xc) xl:=by
 have hk2:k=0\/k=1:=by omega
 rcases hk2 with rfl|rfl
 .exact ⟨so,sn,sc,ss,c0,by simp[zL],by simp[zL],by simp[zL],h1,hsn,by simp[Cq],by simp[Cq],hS⟩
 .exact ⟨lo,ln,lc,ll,c1,by simp[zL],by simp[zL],by simp[zL];omega,h2,hln,by simp[Cq],by simp[Cq];omega,hL⟩
theorem Ra{p:Value->List Int->Prop}{w:World}{b off:Nat}{us:List Value}{xl:List (List Int)}(hu:BU p us xl)(h:∀i,i<xl.length->w.cell? ⟨b,off+i,none⟩=some (us.getD i DE)):∀j u,us[j]? = some u->w.cell? ((⟨b,off,none⟩:Addr).add j)=some u:=by
 intro j u hj;have hlt:=(vM.1 hj).1;rw[Go.WideShapes.add_plain,h j (by rw[<-hu.1];exact hlt),qC,hj];rfl
theorem IZ(p:Value->List Int->Prop)(hp:∀v l,p v l->∃ao cap,v=Value.slice ao l.length cap)(g:Nat)(sv lv:Value)(ss ll:List (List Int))(w0 w:World)(hb0:Below w0.heap.size w0 w)(h1:ss.length<=20000)(h2:ll.length<=20000)(h0:1<=ll.length)(hS:Ca p w0 sv ss)(hL:Ca p w0 lv ll)(c0:w.cell? ⟨g,0,none⟩=some sv)(c1:w.cell? ⟨g,1,none⟩=some lv) :
  Calls qA 142 #[.slice (some ⟨g,0,none⟩) 2 2] w fun e w'=>∃B cap,e=.returned (.slice (some ⟨B,0,none⟩) (ss.length+ll.length) cap)/\Below w.heap.size w w'/\Hid (∃us,w'.ownsRow w.heap.size 39 1 (.slice (some ⟨B,0,none⟩) (ss.length+ll.length) cap) us.length us/\BU p us (ss++ll)):=by
 have hg:=World.block_lt_of_cell? w ⟨g,0,none⟩ c0;obtain⟨i0,hi,hz0,hz1,hz2⟩:=info_parts Dv;obtain⟨so,sc,rfl⟩:=hS.shape;obtain⟨lo,lc,rfl⟩:=hL.shape;have HAt:Hid (∀k,k<2->∃xo xn xc xl,w.cell? ⟨g,k,none⟩=some (.slice xo xn xc)/\zL ss.length ll.length (k+1)=zL ss.length ll.length k+(xn:Int)/\0<=zL ss.length ll.length k/\zL ss.length ll.length k<=20000/\xn<=20000/\xn=xl.length/\Cq ss ll (k+1)=Cq ss ll k++xl/\(Cq ss ll k).length<=20000/\Ca p w0 (.slice xo xn xc) xl):=fun k hk=>PK rfl rfl h1 h2 hS hL c0 c1 hk;have HZ0:Hid (zL ss.length ll.length 0=0):=rfl;have HZ2:Hid (zL ss.length ll.length 2=((ss.length+ll.length:Nat):Int)):=by show _=_;simp[zL]
 have HA0:Hid (Cq ss ll 0=[]):=rfl;have HA2:Hid (Cq ss ll 2=ss++ll):=rfl;have hgr:=fun w1=>Qg (ss.length+ll.length) w1 (by omega) (by omega);have HLen:Hid ((ss++ll).length=ss.length+ll.length):=qF;obtain⟨tn,htn⟩:∃tn,tn=ss.length+ll.length:=⟨_,rfl⟩;rw[<-htn]at hgr HLen HZ2⊢;have ht24:tn<=40000:=by omega
 have ht0:0<tn:=by omega
 generalize zL ss.length ll.length=zz at *;generalize Cq ss ll=ac at *;clear hS hL c0 c1 h1 h2 h0 htn
 go_enter Tryz.func142,Tryz.ntmps142;go_wp2;go_loop [3,11] (fun z i=>∃k:Nat,k<=2/\i=.int .i64 (k:Int)/\z=.int .i64 (zz k)) (fun _ i=>2-(intOf i).toNat)
 case atStart=>exact⟨0,by omega,rfl,by rw[HZ0.out]⟩
 case round=>
  obtain⟨k,hk,rfl,rfl⟩:=hrel;by_cases hlt:k<2
  .obtain ⟨xo,xn,xc,xl,hc,hz,hz00,hz12,hx12,hr⟩:=HAt.out k hlt;clear hr;have HZ:Hid (zz (k+1)=zz k+(xn:Int)):=hz;clear hz;generalize zz k=z0 at *
   go_wp2;go_round
   case rel=>exact⟨k+1,hlt,by go_num,by rw[HZ.out]⟩
   case measure=>simp[intOf];omega
  .obtain rfl:k=2:=by omega
   rw[HZ2.out];go_wp2_with (go_at_call 169;refine(hgr _).mono ?_;rintro e w1 ⟨B,cap,rfl,hb1,ho1⟩)
   clear hgr;go_loopw [6,27] (fun nv i wr=>∃k:Nat,k<=2/\i=.int .i64 (k:Int)/\∃B cap,nv=.slice (some ⟨B,0,none⟩) (ac k).length cap/\Hid (∃us,wr.ownsRow w.heap.size 39 1 nv us.length us/\BU p us (ac k))/\Below w.heap.size w wr) (fun _ i _=>2-(intOf i).toNat)
   case atStart=>exact⟨0,by omega,rfl,B,cap,by rw[HA0.out];rfl,⟨[],ho1,by rw[HA0.out];exact BU.nil _⟩,hb1⟩
   case round=>
    obtain⟨k,hk,rfl,B,cap,rfl,HU,hbel⟩:=hrel;by_cases hlt:k<2
    .obtain ⟨xo,xn,xc,xl,hc,_,_,_,hx12,hxn,hac,hal,hX⟩:=HAt.out k hlt;have hcr:=(hbel.cell (p:=⟨g,k,none⟩) hg).trans hc;obtain⟨us,hown,hus⟩:=HU.out;have HUS:Hid (BU p us (ac k)):=hus;have HXN:Hid (xn=xl.length):=hxn;have HAC:Hid (ac (k+1)=ac k++xl):=hac;have hul:us.length=(ac k).length:=hus.1;obtain⟨vs,xo',xc',hxv,⟨_,hx0⟩,hvl0,hvi0,hxat⟩:=hX;have hvs:BU p vs xl:=⟨hvl0,hvi0⟩;clear hvl0 hvi0;injection hxv with e1 e2 e3;subst e1 e3;rw[<-hul]at hal hown⊢;clear hxn hac hus e2 HU hul;cases xo with
     |none=>
      obtain⟨hc0,hl0⟩:=hx0 rfl;have HL0:Hid (xl=[]):=hl0;have hxn0:xn=0:=by rw[HXN.out,HL0.out];rfl
      subst hxn0 hc0;clear hx0 hxat hl0 hvs;go_wp2_with (at_builtin;refine wpList_append_own_none rfl (.tmp 31) (.tmp 32) 38 rfl w.heap.size 39 i0 1 Tryz.underlying38 hi _ _ _ rfl hown rfl ?_)
      go_roundw
      case rel=>exact⟨k+1,hlt,by go_num,B,cap,by rw[HAC.out,HL0.out,vN,<-HUS.out.1],⟨us,hown,by rw[HAC.out,HL0.out,vN];exact HUS.out⟩,hbel⟩
      case measure=>simp[intOf];omega
     |some a=>
      have hcells:∀j u,vs[j]? = some u->wr.cell? (a.add j)=some u:=by
       intro j u hj;have hjl:j<xl.length:=by rw[<-hvs.1];exact(vM.1 hj).1
       obtain⟨b,off,e,hbl,hat⟩:=hxat (by rintro rfl;simp at hjl);obtain rfl:=Option.some.inj e;have:=Ra hvs hat j u hj;rw[Go.WideShapes.add_plain]at this⊢;exact((hb0.trans (hbel.mono hb0.size)).cell (p:=⟨b,off+j,none⟩) hbl).trans this
      have HVS:Hid (BU p vs xl):=hvs;have hvl:vs.length=xn*1:=by rw[hvs.1,HXN.out];omega
      have hv1:=hvs.one hp;have hbsz:=hbel.size;have hnb:=hown.lt;clear hx0 hxat hvs;go_wp2_with (at_builtin;refine wpList_append_own _ rfl (.tmp 31) (.tmp 32) 38 rfl w.heap.size 39 i0 (.slice none 0 0) 1 24 Tryz.underlying38 hi hz0 hz1 hz2 rfl (by decide) (.slice (some ⟨B,0,none⟩) us.length cap) us.length us rfl hown a xn xc vs rfl hvl hcells hv1 (by unfold maxLen;omega) (by omega) hbsz ?_;intro v' w4 hown' hgrow hne)
      have hb4:Below w.heap.size w w4:=hbel.grown hgrow hbsz (fun q hq=>(hnb q hq).1);have hlen4:(us++vs).length=us.length+xn:=by rw[qF];omega
      obtain⟨B4,cap4,rfl⟩:∃B4 cap4,v'=.slice (some ⟨B4,0,none⟩) (us.length+xn) cap4:=by
       rcases hown'.2 with⟨h,_⟩|⟨g',cap',cur',h,_⟩
       .exact absurd (hne.1 h).1 (by simp)
       .exact ⟨_,_,h⟩
      have HLn:Hid (us.length+xn=(ac (k+1)).length):=by show _=_;rw[HAC.out,qF,<-HUS.out.1,HXN.out]
      have HU4:Hid (∃zs,w4.ownsRow w.heap.size 39 1 (.slice (some ⟨B4,0,none⟩) (us.length+xn) cap4) zs.length zs/\BU p zs (ac (k+1))):=⟨us++vs,by rw[hlen4];exact hown',by rw[HAC.out];exact HUS.out.append HVS.out⟩;clear hown' hgrow hown hcells hne;go_roundw
      case rel=>exact⟨k+1,hlt,by go_num,B4,cap4,by rw[HLn.out],HU4,hb4⟩
      case measure=>simp[intOf];omega
    .obtain rfl:k=2:=by omega
     have HF:Hid (∃us,wr.ownsRow w.heap.size 39 1 (.slice (some ⟨B,0,none⟩) tn cap) us.length us/\BU p us (ss++ll)):=by
      obtain⟨us,h1,h2⟩:=HU.out;rw[HA2.out]at h1 h2;rw[HLen.out]at h1;exact⟨us,h1,h2⟩
     rw[HA2.out,HLen.out];clear HU;go_wp2;go_ret;exact⟨_,_,rfl,hbel,HF⟩
open Go.RowKit Go.Sort
theorem Uo(g cap base:Nat)(zs:List Int)(w:World)(hz:zs.length<=100000)(ho:w.ownsRow base 3 1 (.slice (some ⟨g,0,none⟩) zs.length cap) zs.length (AB zs)) :
  Calls qA 133 #[.slice (some ⟨g,0,none⟩) zs.length cap] w fun e w'=>e=.returned (.tuple #[])/\w.grownBy w' (some g)/\w'.ownsRow base 3 1 (.slice (some ⟨g,0,none⟩) zs.length cap) zs.length (AB (up zs)):=by
 have ho':w.ownsRow base 3 1 (.slice (some ⟨g,0,none⟩) zs.length cap) zs.length (zs.map (Value.int .i64)):=ho;obtain⟨g',cap',hv,hbg,hlt,hn,hm,hl,hH⟩:=Lib.holds_of_ownsRow ho' (by simp);injection hv with h1 h2 h3;injection h1 with h1;injection h1 with h1;subst h1 h3;rcases ho.2 with⟨e0,_⟩|⟨g2,cap2,cur,e0,hb,hg,hnc,hcm,hcs,ht⟩
 .cases e0
 .injection e0 with e1 _ e3;injection e1 with e1;injection e1 with e1;subst e1 e3;refine(slices_Sort_int g 0 cap zs w hH hlt (by omega)).mono fun e w' ⟨he,n,os,hw⟩=>⟨he,?_,?_⟩
  .rw[hw];exact grownBy_sortedI _
  .rw[hw];exact ownsRow_sortedI (ts:=zs.mergeSort leB) (by simp) hbg hg hnc hcm hcs
theorem Un(ao:Option Addr)(cap base:Nat)(zs:List Int)(w:World)(hz:zs.length<=100000)(hB:Below base w w)(ho:w.ownsRow base 3 1 (.slice ao zs.length cap) zs.length (AB zs)) :
  Calls qA 133 #[.slice ao zs.length cap] w fun e w'=>e=.returned (.tuple #[])/\Below base w w'/\Hid (AX w' base (.slice ao zs.length cap) (up zs)):=by
 rcases id ho.2 with⟨e0,h0⟩|⟨g2,cap2,cur,e0,hb,hg,_⟩
 .injection e0 with e1 e2 e3;subst e1 e3;have hz0:zs=[]:=by simpa using h0
  subst hz0;refine(slices_Sort_int_none none 0 w).mono fun e w' ⟨h1,h2⟩=>⟨h1,?_,?_⟩
  .rw[h2];exact hB
  .show AX _ _ _ _;rw[h2,show up []=[] by simp[up]];exact ho
 .injection e0 with e1 e2 e3;subst e1 e3;have hlt:=(qG.1 hg).1;refine(Uo g2 cap base zs w hz ho).mono fun e w' ⟨h1,h2,h3⟩=>⟨h1,hB.grown h2 (by omega) (fun q hq=>by simp at hq;omega),?_⟩;show AX _ _ _ _;unfold AX;rw[F1];exact h3
theorem Mp(v:Value)(l:List Int)(w:World)(hl:l.length<=100000)(hV:IntsVU w v l) :
  Calls qA 143 #[v] w fun e w'=>∃ao cap,e=.returned (.slice ao l.length cap)/\Below w.heap.size w w'/\Hid (AX w' w.heap.size (.slice ao l.length cap) (up l)):=by
 have hc:=Eu v l w (by omega) hV;obtain⟨ao,cap,rfl⟩:=hV.shape;have HS:Hid (∀(ao:Option Addr) (cap:Nat) (w1:World),Below w.heap.size w w1->w1.ownsRow w.heap.size 3 1 (.slice ao l.length cap) l.length (AB l)->Calls qA 133 #[.slice ao l.length cap] w1 fun e w'=>e=.returned (.tuple #[])/\Below w.heap.size w1 w'/\Hid (AX w' w.heap.size (.slice ao l.length cap) (up l))):=fun ao cap w1 hb ho=>Un ao cap w.heap.size l w1 hl (qD _ _) ho;generalize l.length=n at *;clear hV
 go_enter Tryz.func143,Tryz.ntmps143;go_wp2_with (first|(go_at_call 147;refine hc.mono ?_;rintro e w1 ⟨a1,c1,rfl,hb1,ho1⟩;have hs:=HS.out a1 c1 w1 hb1 ho1.out)|(go_at_call 133;refine hs.mono ?_;rintro e w2 ⟨rfl,hb2,ho2⟩))
 go_ret;exact⟨a1,c1,rfl,hb1.trans hb2,ho2⟩
def KI(w wr:World)(a b:List Int)(u:Value)(i j:Nat):Prop:=∃al:List Int,al++mg (a.drop i) (b.drop j)=mg a b/\al.length=i+j/\AX wr w.heap.size u al/\Below w.heap.size w wr
theorem R4(va vb:Value)(a b:List Int)(w:World)(ha:a.length<=100000)(hb:b.length<=100000)(hA:IntsVU w va a)(hB:IntsVU w vb b) :
  Calls qA 168 #[va,vb] w fun e w'=>∃ao cap,e=.returned (.slice ao (mg a b).length cap)/\Below w.heap.size w w'/\Hid (AX w' w.heap.size (.slice ao (mg a b).length cap) (mg a b)):=by
 obtain⟨ao,ac,rfl⟩:=hA.shape;obtain⟨bo,bc,rfl⟩:=hB.shape;obtain⟨i0,hi,hz0,hz1,hz2⟩:=info_parts Ba;obtain⟨an,han⟩:∃an,a.length=an:=⟨_,rfl⟩;obtain⟨bn,hbn⟩:∃bn,b.length=bn:=⟨_,rfl⟩;have HA:Hid (IntsVU w (.slice ao a.length ac) a):=hA;have HB:Hid (IntsVU w (.slice bo b.length bc) b):=hB;have HAn:Hid (a.length=an):=han;have HBn:Hid (b.length=bn):=hbn;rw[han]at ha HA⊢;rw[hbn]at hb HB⊢;clear hA hB han hbn;have hmk:∀w1:World,(Instr.makeSlice 39 (.int .i64 0) (.int .i64 ((an:Int)+(bn:Int)))).run qA w1=.ok (.slice (some ⟨w1.heap.size,0,none⟩) 0 (an+bn)) (w1.alloc (.cells (madeCells #[.int .i64 0] (an+bn)) 3)):=fun w1=>by
  have:=run_make (P:=qA) w1 39 3 i0 (.int .i64 0) Tryz.underlying39 hi hz0 .i64 .i64 0 ((an:Int)+(bn:Int)) (xR _) (by omega) (by rw[hz2];omega) (by omega);have e:((an:Int)+(bn:Int)).toNat=an+bn:=by omega
  rw[e]at this;simpa[hz1,Value.cells]using this
 have hO0:(w.alloc (.cells (madeCells #[.int .i64 0] (an+bn)) 3)).ownsRow w.heap.size 3 1 (.slice (some ⟨w.heap.size,0,none⟩) 0 (an+bn)) 0 []:=World.ownsRow_made w _ (an+bn) (qB _) (by unfold maxLen;omega) (by simp[size_madeCells]);have HM0:Hid (KI w (w.alloc (.cells (madeCells #[.int .i64 0] (an+bn)) 3)) a b (.slice (some ⟨w.heap.size,0,none⟩) 0 (an+bn)) 0 0):=⟨[],by simp,rfl,hO0,(qD _ _).alloc (qB _) _⟩;clear hO0;go_enter Tryz.func168,Tryz.ntmps168;go_wp2;go_loopw [5,6,7] (fun u i j wr=>∃ki kj:Nat,ki<=an/\kj<=bn/\i=.int .i64 ki/\j=.int .i64 kj/\Hid (KI w wr a b u ki kj)) (fun _ i j _=>an+bn-(intOf i).toNat-(intOf j).toNat)
 case atStart=>exact⟨0,0,qJ _,qJ _,rfl,rfl,HM0⟩
 case round=>
  obtain⟨ki,kj,hki,hkj,rfl,rfl,HM⟩:=hrel;obtain⟨al,hal,hall,hown,hbel⟩:=HM.out;obtain⟨uo,uc,rfl⟩:=A2 hown;by_cases hia:ki<an
  .by_cases hjb:kj<bn
   .obtain ⟨b1,off1,rfl,hb1,hc1,hat1⟩:=HA.out.at (i:=ki) (by rw[HAn.out];exact hia);obtain⟨b2,off2,rfl,hb2,hc2,hat2⟩:=HB.out.at (i:=kj) (by rw[HBn.out];exact hjb);have c1:=(hbel.cell (p:=⟨b1,off1+ki,none⟩) hb1).trans (hat1 ki (by rw[HAn.out];exact hia));have c2:=(hbel.cell (p:=⟨b2,off2+kj,none⟩) hb2).trans (hat2 kj (by rw[HBn.out];exact hjb));obtain⟨hs1,hs2⟩:=SE (by rw[HAn.out];exact hia) (by rw[HBn.out];exact hjb) hal;have HS1:Hid (a.getD ki 0<b.getD kj 0->(al++[a.getD ki 0])++mg (a.drop (ki+1)) (b.drop kj)=mg a b):=hs1;have HS2:Hid (¬a.getD ki 0<b.getD kj 0->(al++[b.getD kj 0])++mg (a.drop ki) (b.drop (kj+1))=mg a b):=hs2;have HN:Hid (al.length=ki+kj):=hall;have HSn:Hid (∀(w4:World) (v':Value) (x:Int),w4.ownsRow w.heap.size 3 1 v' (ki+kj+1) (AB al++[.int .i64 x])->AX w4 w.heap.size v' (al++[x])):=fun w4 v' x h=>AX.snoc (by rw[hall];exact h);have hown1:wr.ownsRow w.heap.size 3 1 (.slice uo (ki+kj) uc) (ki+kj) (AB al):=by unfold AX at hown;rw[hall]at hown;exact hown
    have HD:Hid (∀nq,(wr.drewN nq).ownsRow w.heap.size 3 1 (.slice uo (ki+kj) uc) (ki+kj) (AB al)/\Below w.heap.size w (wr.drewN nq)/\w.heap.size<=(wr.drewN nq).heap.size):=fun nq=>⟨Aq hown1 (below_drewN (qD wr.heap.size wr) nq) (qB _),below_drewN hbel nq,(below_drewN hbel nq).size⟩;clear hown1;rw[hall];clear hs1 hs2 hat1 hat2 hal hall HM hown;generalize a.getD ki 0=x at *;generalize b.getD kj 0=y at *;have hlen:ki+kj+1<=maxLen:=by unfold maxLen;omega
    have hlen2:(ki+kj+1)*8<=140737488355328:=by omega
    by_cases hxy:x<y
    .have hm:=HS1.out hxy;have HMm:Hid ((al++[x])++mg (a.drop (ki+1)) (b.drop kj)=mg a b):=hm;clear hm HS1 HS2;go_wp2_with fail
     go_quiet (fail)
     obtain⟨hown2,hbd,hsz⟩:=HD.out nq;go_wp2_with (at_builtin;refine wpList_append_own _ rfl _ _ 39 rfl w.heap.size 3 i0 (.int .i64 0) 1 8 Tryz.underlying39 hi hz0 hz1 hz2 rfl (by decide) (.slice uo (ki+kj) uc) (ki+kj) (AB al) rfl (hown2.alloc _) ⟨wr.heap.size,0,none⟩ 1 1 [.int .i64 x] rfl rfl (E9 _ _ _) (by simp[Value.oneCell']) hlen hlen2 (qI hsz (by simp)) ?_;intro v' w4 hown' hgrow _;have hb4:Below w.heap.size w w4:=(hbd.alloc hbd.size _).grown hgrow (qI hsz (by simp)) (fun q hq=>(hown2.lt q hq).1);have HO4:=HSn.out w4 v' x hown';clear hgrow hown')
     go_roundw
     case rel=>exact⟨ki+1,kj,by omega,by omega,by go_num,rfl,al++[x],HMm.out,by rw[qF,HN.out];simp;omega,HO4,hb4⟩
     case measure=>simp[intOf];omega
    .have hm:=HS2.out hxy;have HMm:Hid ((al++[y])++mg (a.drop ki) (b.drop (kj+1))=mg a b):=hm;clear hm HS1 HS2;go_wp2_with fail
     go_quiet (fail)
     obtain⟨hown2,hbd,hsz⟩:=HD.out nq;go_wp2_with (at_builtin;refine wpList_append_own _ rfl _ _ 39 rfl w.heap.size 3 i0 (.int .i64 0) 1 8 Tryz.underlying39 hi hz0 hz1 hz2 rfl (by decide) (.slice uo (ki+kj) uc) (ki+kj) (AB al) rfl (hown2.alloc _) ⟨wr.heap.size,0,none⟩ 1 1 [.int .i64 y] rfl rfl (E9 _ _ _) (by simp[Value.oneCell']) hlen hlen2 (qI hsz (by simp)) ?_;intro v' w4 hown' hgrow _;have hb4:Below w.heap.size w w4:=(hbd.alloc hbd.size _).grown hgrow (qI hsz (by simp)) (fun q hq=>(hown2.lt q hq).1);have HO4:=HSn.out w4 v' y hown';clear hgrow hown')
     go_roundw
     case rel=>exact⟨ki,kj+1,by omega,by omega,rfl,by go_num,al++[y],HMm.out,by rw[qF,HN.out];simp;omega,HO4,hb4⟩
     case measure=>simp[intOf];omega
   .have hjb':kj=bn:=by omega
    have hfin:mg a b=al++a.drop ki++b.drop kj:=by rw[<-hal];rw[show b.drop kj=[]from v7 (by rw[HBn.out];omega),SC,vN]
    obtain⟨so1,sc1,hsl1,hV1⟩:=He HA.out (k:=ki) (by omega);obtain⟨so2,sc2,hsl2,hV2⟩:=He HB.out (k:=kj) (by omega);have HV1:Hid (∀w1,Below w.heap.size w w1->IntsVU w1 (.slice so1 (an-ki) sc1) (a.drop ki)):=fun w1 h=>hV1.below h;have HV2:Hid (∀w1,Below w.heap.size w w1->IntsVU w1 (.slice so2 (bn-kj) sc2) (b.drop kj)):=fun w1 h=>hV2.below h;have hown1:wr.drew.ownsRow w.heap.size 3 1 (.slice uo (ki+kj) uc) (ki+kj) (AB al):=by unfold AX at hown;rw[hall]at hown;exact hown.drew
    have hbd:Below w.heap.size w wr.drew:=hbel.drew;have HF:Hid (∀(w':World) (v:Value),w'.ownsRow w.heap.size 3 1 v (ki+kj+(an-ki)+(bn-kj)) (AB al++AB (a.drop ki)++AB (b.drop kj))->AX w' w.heap.size v (mg a b)/\(mg a b).length=ki+kj+(an-ki)+(bn-kj)):=fun w' v h=>by
     have e:(mg a b).length=ki+kj+(an-ki)+(bn-kj):=by rw[hfin,qF,qF,qN,qN,hall,HAn.out,HBn.out]
     refine⟨?_,e⟩;unfold AX;rw[e,hfin,Fg,Fg];exact h
    obtain⟨p1,hp1⟩:∃p1,an-ki=p1:=⟨_,rfl⟩;obtain⟨p2,hp2⟩:∃p2,bn-kj=p2:=⟨_,rfl⟩;have hq1:p1<=100000:=by omega
    have hq2:p2<=100000:=by omega
    obtain⟨kk,hkk⟩:∃kk,ki+kj=kk:=⟨_,rfl⟩;have hq3:kk<=200000:=by omega
    rw[hp1]at hsl1 HV1 HF;rw[hp2]at hsl2 HV2 HF;rw[hkk]at hown1 HF;rw[hall,hkk];clear hV1 hV2 hfin hal hown HM hp1 hp2 hall hkk;go_wp2_with fail
    clear hia hjb hjb' hki hkj ha hb;go_region_held3 (fun _=>True) (trivial)
     (first
      |(refine Hi (by rfl) (.tmp 51) (.tmp 54) (by rfl) w.heap.size kk uc uo (AB al) (by rfl) hown1 so1 p1 sc1 (a.drop ki) (by rfl) (HV1.out _ hbd) (by omega) hbd.size ?_;intro vo1 cap1 w3 hown3 hg3;have hb3:=hbd.grown hg3 hbd.size (fun q hq=>(hown1.lt q hq).1))
      |(refine Hi (by rfl) (.tmp 55) (.tmp 58) (by rfl) w.heap.size (kk+p1) cap1 vo1 (AB al++AB (a.drop ki)) (by rfl) hown3 so2 p2 sc2 (b.drop kj) (by rfl) (HV2.out _ hb3) (by omega) hb3.size ?_;intro vo2 cap2 w4 hown4 hg4;have hb4:=hb3.grown hg4 hb3.size (fun q hq=>(hown3.lt q hq).1)))
    obtain⟨hO4,hL4⟩:=HF.out _ _ hown4;go_wp2_with fail
    go_ret;exact⟨vo2,cap2,by rw[hL4];rfl,hb4,by rw[hL4];exact hO4⟩
  .have hia':ki=an:=by omega
   have hfin:mg a b=al++a.drop ki++b.drop kj:=by rw[<-hal];rw[show a.drop ki=[]from v7 (by rw[HAn.out];omega),SD,vN]
   obtain⟨so1,sc1,hsl1,hV1⟩:=He HA.out (k:=ki) (by omega);obtain⟨so2,sc2,hsl2,hV2⟩:=He HB.out (k:=kj) (by omega);have HV1:Hid (∀w1,Below w.heap.size w w1->IntsVU w1 (.slice so1 (an-ki) sc1) (a.drop ki)):=fun w1 h=>hV1.below h;have HV2:Hid (∀w1,Below w.heap.size w w1->IntsVU w1 (.slice so2 (bn-kj) sc2) (b.drop kj)):=fun w1 h=>hV2.below h;have hown1:wr.drew.ownsRow w.heap.size 3 1 (.slice uo (ki+kj) uc) (ki+kj) (AB al):=by unfold AX at hown;rw[hall]at hown;exact hown.drew
   have hbd:Below w.heap.size w wr.drew:=hbel.drew;have HF:Hid (∀(w':World) (v:Value),w'.ownsRow w.heap.size 3 1 v (ki+kj+(an-ki)+(bn-kj)) (AB al++AB (a.drop ki)++AB (b.drop kj))->AX w' w.heap.size v (mg a b)/\(mg a b).length=ki+kj+(an-ki)+(bn-kj)):=fun w' v h=>by
    have e:(mg a b).length=ki+kj+(an-ki)+(bn-kj):=by rw[hfin,qF,qF,qN,qN,hall,HAn.out,HBn.out]
    refine⟨?_,e⟩;unfold AX;rw[e,hfin,Fg,Fg];exact h
   obtain⟨p1,hp1⟩:∃p1,an-ki=p1:=⟨_,rfl⟩;obtain⟨p2,hp2⟩:∃p2,bn-kj=p2:=⟨_,rfl⟩;have hq1:p1<=100000:=by omega
   have hq2:p2<=100000:=by omega
   obtain⟨kk,hkk⟩:∃kk,ki+kj=kk:=⟨_,rfl⟩;have hq3:kk<=200000:=by omega
   rw[hp1]at hsl1 HV1 HF;rw[hp2]at hsl2 HV2 HF;rw[hkk]at hown1 HF;rw[hall,hkk];clear hV1 hV2 hfin hal hown HM hp1 hp2 hall hkk;go_wp2_with fail
   clear hia hia' hki hkj ha hb;go_region_held3 (fun _=>True) (trivial)
    (first
     |(refine Hi (by rfl) (.tmp 51) (.tmp 54) (by rfl) w.heap.size kk uc uo (AB al) (by rfl) hown1 so1 p1 sc1 (a.drop ki) (by rfl) (HV1.out _ hbd) (by omega) hbd.size ?_;intro vo1 cap1 w3 hown3 hg3;have hb3:=hbd.grown hg3 hbd.size (fun q hq=>(hown1.lt q hq).1))
     |(refine Hi (by rfl) (.tmp 55) (.tmp 58) (by rfl) w.heap.size (kk+p1) cap1 vo1 (AB al++AB (a.drop ki)) (by rfl) hown3 so2 p2 sc2 (b.drop kj) (by rfl) (HV2.out _ hb3) (by omega) hb3.size ?_;intro vo2 cap2 w4 hown4 hg4;have hb4:=hb3.grown hg4 hb3.size (fun q hq=>(hown3.lt q hq).1)))
   obtain⟨hO4,hL4⟩:=HF.out _ _ hown4;go_wp2_with fail
   go_ret;exact⟨vo2,cap2,by rw[hL4];rfl,hb4,by rw[hL4];exact hO4⟩
def IC(xo:Option Addr)(w:World)(ls:List (List Int))(e:Ending)(w':World):Prop:=
 ∃ao cap,e=.returned (.slice ao (tog ls).length cap)/\Below w.heap.size w w'/\Hid (IntsVU w' (.slice ao (tog ls).length cap) (tog ls))/\Hid ((ls.length=1/\∃b off,xo=some ⟨b,off,none⟩/\w.cell? ⟨b,off,none⟩=some (.slice ao (tog ls).length cap))\/AX w' w.heap.size (.slice ao (tog ls).length cap) (tog ls))
theorem Jn(ls:List (List Int)):(tog ls).length=ls.flatten.length:=(FI _ _ (qB _)).length_eq
theorem NP:∀(N:Nat) (ao:Option Addr) (cap:Nat) (ls:List (List Int)) (w:World),ls.length<=N->0<ls.length->ls.flatten.length<=100000->ls.length<=100000->LisVU w (.slice ao ls.length cap) ls->
  Calls qA 141 #[.slice ao ls.length cap] w (IC ao w ls):=by
 intro N;induction N with
 |zero=>intro ao cap ls w h1 h2;omega
 |succ N ih=>
  intro ao cap ls w hN h0 hf hn hV;by_cases h1:ls.length=1
  .obtain ⟨b,off,rfl,hb,u,c1,hu⟩:=hV.at (i:=0) h0;obtain⟨l,rfl⟩:∃l,ls=[l]:=by
    rcases Gw (yQ h1)with rfl|h
    .simp at h0
    .exact h
   rw[Nat.add_zero]at c1;have e:tog [l]=l:=by rw[FH (by simp)];rfl
   have hu':IntsVU w u l:=hu;obtain⟨uo,uc,rfl⟩:=hu'.shape;have HP:Hid (IC (some ⟨b,off,none⟩) w [l] (.returned (.slice uo l.length uc)) w):=⟨uo,uc,by rw[e],qD _ _,by rw[e];exact hu',.inl ⟨rfl,b,off,rfl,by rw[e];exact c1⟩⟩;clear hV hu hu';rw[h1];go_enter Tryz.func141,Tryz.ntmps141;go_wp2;go_ret;exact HP.out
  .obtain ⟨n,hnn⟩:∃n,ls.length=n:=⟨_,rfl⟩;have hh1:n / 2<=n:=by omega
   have hh2:1<=n / 2:=by omega
   have hh3:n / 2<n:=by omega
   rw[hnn]at hV hN h0 hn h1⊢;obtain⟨so1,sc1,hsl1,hV1⟩:=Jh hV hh1;obtain⟨so2,sc2,hsl2,hV2⟩:=Ji hV hh1;have hl1:(ls.take (n / 2)).length=n / 2:=by rw[qM];omega
   have hl2:(ls.drop (n / 2)).length=n-n / 2:=by rw[qN];omega
   have hfl:(ls.take (n / 2)).flatten.length+(ls.drop (n / 2)).flatten.length=ls.flatten.length:=by rw[<-qF,<-vT,q9]
   have et:tog ls=mg (tog (ls.take (n / 2))) (tog (ls.drop (n / 2))):=by have:=Hm (ls:=ls) (by omega);rw[hnn]at this;exact this
   have H1:Hid (∀w1,Below w.heap.size w w1->Calls qA 141 #[.slice so1 (n / 2) sc1] w1 fun e w'=>∃xo xc,e=.returned (.slice xo (tog (ls.take (n / 2))).length xc)/\Below w1.heap.size w1 w'/\Hid (IntsVU w' (.slice xo (tog (ls.take (n / 2))).length xc) (tog (ls.take (n / 2))))):=fun w1 hb=>by
    have:=ih so1 sc1 (ls.take (n / 2)) w1 (by omega) (by omega) (by omega) (by omega) (by rw[hl1];exact hV1.below hb);rw[hl1]at this;exact this.mono fun e w' ⟨xo,xc,h1,h2,h3,_⟩=>⟨xo,xc,h1,h2,h3⟩
   have H2:Hid (∀w1,Below w.heap.size w w1->Calls qA 141 #[.slice so2 (n-n / 2) sc2] w1 fun e w'=>∃xo xc,e=.returned (.slice xo (tog (ls.drop (n / 2))).length xc)/\Below w1.heap.size w1 w'/\Hid (IntsVU w' (.slice xo (tog (ls.drop (n / 2))).length xc) (tog (ls.drop (n / 2))))):=fun w1 hb=>by
    have:=ih so2 sc2 (ls.drop (n / 2)) w1 (by omega) (by omega) (by omega) (by omega) (by rw[hl2];exact hV2.below hb);rw[hl2]at this;exact this.mono fun e w' ⟨xo,xc,h1,h2,h3,_⟩=>⟨xo,xc,h1,h2,h3⟩
   have H3:Hid (∀(va vb:Value) (w1:World),IntsVU w1 va (tog (ls.take (n / 2)))->IntsVU w1 vb (tog (ls.drop (n / 2)))->Calls qA 168 #[va,vb] w1 fun e w'=>∃ao cap,e=.returned (.slice ao (tog ls).length cap)/\Below w1.heap.size w1 w'/\Hid (AX w' w1.heap.size (.slice ao (tog ls).length cap) (tog ls))):=fun va vb w1 h1 h2=>by
    have:=R4 va vb _ _ w1 (by rw[Jn];omega) (by rw[Jn];omega) h1 h2;rw[<-et]at this;exact this
   have HP:Hid (∀(xo:Option Addr) (xc:Nat) (w1 w2:World),Below w.heap.size w w1->Below w1.heap.size w1 w2->AX w2 w1.heap.size (.slice xo (tog ls).length xc) (tog ls)->IC ao w ls (.returned (.slice xo (tog ls).length xc)) w2):=fun xo xc w1 w2 hb1 hb2 ho=>⟨xo,xc,rfl,hb1.trans (hb2.mono hb1.size),ho.v,.inr (ho.mono hb1.size)⟩;obtain⟨m2,hm2⟩:∃m2,n-n / 2=m2:=⟨_,rfl⟩;rw[hm2]at hsl2 H2;have hq:(n:Int).tdiv 2=((n / 2:Nat):Int):=by rw[Int.tdiv_eq_ediv_of_nonneg (by omega)];omega
   have hB0:Below w.heap.size w w:=qD _ _;generalize(tog (ls.take (n / 2))).length=k1 at *;generalize(tog (ls.drop (n / 2))).length=k2 at *;have hn1:¬(n:Int)=1:=by omega
   obtain⟨hf2,hhf⟩:∃hf2,n / 2=hf2:=⟨_,rfl⟩;rw[hhf]at hsl1 hsl2 H1 H2 H3 hq;have hwr:wrap64 (hf2:Int)=(hf2:Int):=IntWalk.wrap64_in _ (by omega);clear hV hV1 hV2 hl1 hl2 hfl et ih hm2 hh1 hh2 hh3 hhf;go_enter Tryz.func141,Tryz.ntmps141;go_wp2_with fail
   clear hN h0 hf h1 hn;rw[hwr];go_region_held3 (fun _=>True) (trivial)
    (first
     |(go_at_call_of 141 so1;refine(H1.out _ hB0.drew).mono ?_;rintro e w1 ⟨xo1,xc1,rfl,hb1,hx1⟩;have hw1:=hB0.drew.trans (hb1.mono hB0.drew.size))
     |(go_at_call_of 141 so2;refine(H2.out _ hw1).mono ?_;rintro e w2 ⟨xo2,xc2,rfl,hb2,hx2⟩;have hw2:=hw1.trans (hb2.mono hw1.size);have hm:=H3.out _ _ w2 (hx1.out.below hb2) hx2.out)
     |(go_at_call 168;refine hm.mono ?_;rintro e w3 ⟨xo3,xc3,rfl,hb3,hx3⟩))
   go_wp2_with fail
   go_ret;exact HP.out _ _ _ _ hw2 hb3 hx3.out
theorem QF(rs:List (List Int))(k:Nat):(rs.take k).flatten.length<=rs.flatten.length:=by
 have e:rs.flatten=(rs.take k).flatten++(rs.drop k).flatten:=by rw[<-vT,q9]
 rw[e,qF];omega
theorem QE{rs:List (List Int)}{k:Nat}(h:k<rs.length):(rs.take (k+1)).flatten.length=(rs.take k).flatten.length+(rs.getD k []).length:=by rw[Fy h [],ER,qF]
theorem GK(lo:List Int)(rs:List (List Int))(la ra:Option Addr)(lc rc:Nat)(w:World)(hz:StSzU lo rs)(hR:LisVU w (.slice ra rs.length rc) rs) :
  Calls qA 149 #[.agg #[.slice la lo.length lc,.slice ra rs.length rc]] w fun e w'=>∃q:Nat,e=.returned (.int .i64 q)/\Below w.heap.size w w'/\(lo.length<=20000->lo.length+rs.flatten.length<=20000->q=lo.length+rs.flatten.length)/\(¬lo.length+rs.flatten.length<=20000->lo.length<=20000->20000<q):=by
 obtain⟨hbA,hcA⟩:=Bc.arg w (.slice la lo.length lc) (.slice ra rs.length rc) 146;obtain⟨_,a0,a1⟩:=id hcA;have hR1:=hR.below hbA;obtain⟨n,hn⟩:∃n,rs.length=n:=⟨_,rfl⟩;obtain⟨W0,hW0⟩:∃W0,W0=w.alloc (.cells #[.slice la lo.length lc,.slice ra rs.length rc] 146):=⟨_,rfl⟩;rw[<-hW0]at hR1 a0 a1 hbA;have H:Hid (LisVU W0 (.slice ra rs.length rc) rs):=hR1;have HZ:Hid (StSzU lo rs):=hz;have hl1:=hz.loose;have hl2:=hz.runs;rw[hn]at H a1 hl2 hW0⊢;have HN:Hid (rs.length=n):=hn;obtain⟨m,hm⟩:∃m,lo.length=m:=⟨_,rfl⟩;have HM:Hid (lo.length=m):=hm;rw[hm]at hl1 a0 hW0⊢;clear hR hcA hR1 hn hm hz;go_enter Tryz.func149,Tryz.ntmps149;go_wp2_with fail
 rw[<-hW0];clear hW0;go_wp2;go_loopw [3,5,12] (fun s u i wr=>∃k:Nat,k<=n/\i=.int .i64 k/\s=.int .i64 ((m+(rs.take k).flatten.length:Nat):Int)/\Hid (k=0\/m+(rs.take k).flatten.length<=20000)/\wr=W0) (fun _ _ i _=>n-(intOf i).toNat)
 case atStart=>exact⟨0,qJ _,rfl,rfl,.inl rfl,rfl⟩
 case round=>
  obtain⟨k,hk,rfl,rfl,HT,rfl⟩:=hrel;by_cases hlt:k<n
  .have hlt2:k<rs.length:=by rw[HN.out];exact hlt
   obtain⟨b,off,rfl,_,u,c1,hu⟩:=H.out.at hlt2;obtain⟨uo,uc,rfl⟩:=hu.shape;have hr:=HZ.out.each k hlt2;have HS:Hid (m+(rs.take (k+1)).flatten.length=m+(rs.take k).flatten.length+(rs.getD k []).length):=by show _=_;rw[QE hlt2];omega
   have hLe:=QF rs (k+1);have HL:Hid (m+(rs.take k).flatten.length+(rs.getD k []).length<=m+rs.flatten.length):=by show _<=_;have:=HS.out;omega
   have hsm:m+(rs.take k).flatten.length<=20000+m:=by
    rcases HT.out with h|h
    .subst h;simp
    .omega
   clear hu hLe HT;generalize hrr:(rs.getD k []).length=r at *;clear hrr;generalize hss:m+(rs.take k).flatten.length=s at *;clear hss
   by_cases hbig:20000<s+r
   .have hbi:(20000:Int)<(s:Int)+(r:Int):=by omega
    go_wp2;go_ret;exact⟨s+r,by simp,hbA,fun h1 h2=>by have:=HL.out;omega,fun _ _=>hbig⟩
   .have hbi:¬(20000:Int)<(s:Int)+(r:Int):=by omega
    go_wp2;go_roundw
    case rel=>exact⟨k+1,by omega,by go_num,by rw[HS.out];simp,.inr (by rw[HS.out];omega),by trivial⟩
    case measure=>simp[intOf];omega
  .obtain rfl:k=n:=by omega
   have HF:Hid (rs.take k=rs):=by show _=_;rw[qQ];rw[HN.out];omega
   rw[HF.out];clear HT HF;go_wp2;go_ret;exact⟨m+rs.flatten.length,rfl,hbA,fun _ _=>rfl,fun h _=>by omega⟩
theorem Kt(rs:List (List Int)):rs.any Bm=false↔∀r∈rs,r≠[]:=by
 rw[List.any_eq_false];constructor
 .intro h r hr e;exact h r hr (by simp[Bm,e])
 .intro h r hr e;have h2:r.length=0:=by simpa[Bm]using e
  exact h r hr (jA.1 h2)
def N0(lo:List Int)(rs:List (List Int))(w:World)(e:Ending)(w':World):Prop:=∃s:Bool,e=.returned (.bool s)/\Below w.heap.size w w'/\(s=true↔SizeOk lo rs)
theorem Ul(lo:List Int)(rs:List (List Int))(la ra:Option Addr)(lc rc:Nat)(w:World)(hz:StSzU lo rs)(hR:LisVU w (.slice ra rs.length rc) rs) :
  Calls qA 139 #[.agg #[.slice la lo.length lc,.slice ra rs.length rc]] w (N0 lo rs w):=by
 obtain⟨hbA,hcA⟩:=Bc.arg w (.slice la lo.length lc) (.slice ra rs.length rc) 146;obtain⟨_,a0,a1⟩:=id hcA;have hE:=PM ra rc rs _ (by have:=hz.runs;omega) (hR.below hbA);have hC:=GK lo rs la ra lc rc _ hz (hR.below hbA);have HB:Hid (∀w1,Below (w.alloc (.cells #[.slice la lo.length lc,.slice ra rs.length rc] 146)).heap.size (w.alloc (.cells #[.slice la lo.length lc,.slice ra rs.length rc] 146)) w1->Below w.heap.size w w1):=fun w1 h=>hbA.trans (h.mono hbA.size);by_cases h8:lo.length<8
 .have h8i:(lo.length:Int)<8:=by omega
  cases hem:rs.any Bm with
  |true=>
   have HF:Hid (¬SizeOk lo rs):=fun h=>by have:=(Kt rs).2 h.full;rw[hem]at this;cases this
   rw[hem]at hE;generalize lo.length=m at *;generalize rs.length=n at *;clear hR hz hC hcA
   go_enter Tryz.func139,Tryz.ntmps139;go_wp2_with (first|(go_at_call 165;refine hE.mono ?_;rintro e w1 ⟨rfl,rfl⟩))
   go_ret;exact⟨false,rfl,hbA,by simp;exact HF.out⟩
  |false=>
   have HF:Hid (∀r∈rs,r≠[]):=(Kt rs).1 hem;by_cases hm:lo.length+rs.flatten.length<=20000
   .have HS:Hid (SizeOk lo rs):=⟨h8,HF.out,hm⟩;have hC':Calls qA 149 #[.agg #[.slice la lo.length lc,.slice ra rs.length rc]] (w.alloc (.cells #[.slice la lo.length lc,.slice ra rs.length rc] 146)) fun e w'=>∃q:Nat,e=.returned (.int .i64 q)/\Below (w.alloc (.cells #[.slice la lo.length lc,.slice ra rs.length rc] 146)).heap.size (w.alloc (.cells #[.slice la lo.length lc,.slice ra rs.length rc] 146)) w'/\q<=20000:=hC.mono fun e w' ⟨q,h1,h2,h3,_⟩=>⟨q,h1,h2,by rw[h3 (by omega) hm];exact hm⟩;rw[hem]at hE;generalize lo.length=m at *;generalize rs.length=n at *;clear hR hz hC hcA hm
    go_enter Tryz.func139,Tryz.ntmps139;go_wp2_with (first|(go_at_call 165;refine hE.mono ?_;rintro e w1 ⟨rfl,rfl⟩)|(go_at_call 149;refine hC'.mono ?_;rintro e w2 ⟨q,rfl,hb2,hq⟩;have hqi:(q:Int)<=20000:=by omega))
    go_ret;exact⟨true,by rfl,HB.out _ hb2,by simp;exact HS.out⟩
   .have HS:Hid (¬SizeOk lo rs):=fun h=>hm h.many;have hC':Calls qA 149 #[.agg #[.slice la lo.length lc,.slice ra rs.length rc]] (w.alloc (.cells #[.slice la lo.length lc,.slice ra rs.length rc] 146)) fun e w'=>∃q:Nat,e=.returned (.int .i64 q)/\Below (w.alloc (.cells #[.slice la lo.length lc,.slice ra rs.length rc] 146)).heap.size (w.alloc (.cells #[.slice la lo.length lc,.slice ra rs.length rc] 146)) w'/\20000<q:=hC.mono fun e w' ⟨q,h1,h2,_,h3⟩=>⟨q,h1,h2,h3 hm (by omega)⟩;rw[hem]at hE;generalize lo.length=m at *;generalize rs.length=n at *;clear hR hz hC hcA hm
    go_enter Tryz.func139,Tryz.ntmps139;go_wp2_with (first|(go_at_call 165;refine hE.mono ?_;rintro e w1 ⟨rfl,rfl⟩)|(go_at_call 149;refine hC'.mono ?_;rintro e w2 ⟨q,rfl,hb2,hq⟩;have hqi:¬(q:Int)<=20000:=by omega))
    go_ret;exact⟨decide ((q:Int)<=20000),rfl,HB.out _ hb2,fun h=>absurd (of_decide_eq_true h) (by omega),fun h=>absurd h HS.out⟩
 .have HS:Hid (¬SizeOk lo rs):=fun h=>h8 h.loose;have h8i:¬(lo.length:Int)<8:=by omega
  generalize lo.length=m at *;generalize rs.length=n at *;clear hR hz hC hcA hE
  go_enter Tryz.func139,Tryz.ntmps139;go_wp2;go_ret;exact⟨false,rfl,hbA,by simp;exact HS.out⟩
theorem PL(g g1:Nat)(sv u:Value)(ss:List (List Int))(l:List Int)(w0 w:World)(hb0:Below w0.heap.size w0 w)(h1:ss.length<=20000)(hS:LisVU w0 sv ss)(hu:IntsVU w0 u l)(c0:w.cell? ⟨g,0,none⟩=some sv)(c1:w.cell? ⟨g,1,none⟩=some (.slice (some ⟨g1,0,none⟩) 1 1))(c2:w.cell? ⟨g1,0,none⟩=some u)(hg1:g1<w.heap.size) :
  Calls qA 142 #[.slice (some ⟨g,0,none⟩) 2 2] w fun e w'=>∃ao cap,e=.returned (.slice ao (ss++[l]).length cap)/\Below w.heap.size w w'/\Hid (LisVU w' (.slice ao (ss++[l]).length cap) (ss++[l])/\((ss++[l]).length=1->∀b off,ao=some ⟨b,off,none⟩->w'.cell? ⟨b,off,none⟩=some u)):=by
 have hL:Ca (fun v l=>IntsVU w v l/\((ss++[l]).length=1->v=u)) w (.slice (some ⟨g1,0,none⟩) 1 1) [l]:=⟨[u],_,1,rfl,⟨by simp,fun h=>by simp at h⟩,rfl,fun i hi=>by simp at hi;subst hi;exact⟨hu.below hb0,fun _=>rfl⟩,fun _=>⟨g1,0,rfl,hg1,fun i hi=>by simp at hi;subst hi;exact c2⟩⟩;have hS':Ca (fun v l=>IntsVU w v l/\((ss++[l]).length=1->v=u)) w sv ss:=by
  obtain⟨us,ao,cap,q1,q2,q3,q4,q5⟩:=hS.below hb0;exact⟨us,ao,cap,q1,q2,q3,fun i hi=>⟨q4 i hi,fun h=>by simp at h;subst h;simp at hi⟩,q5⟩
 refine(IZ _ (fun _ _ h=>h.1.shape) g sv _ ss [l] w w (qD _ _) h1 (by simp) (by simp) hS' hL c0 c1).mono fun e w' ⟨C,cap,e1,e2,e3⟩=>?_;obtain⟨us,e4,e5⟩:=e3.out;refine⟨_,cap,by rw[qF];exact e1,e2,?_⟩;show LisVU _ _ _/\_;rw[qF];refine⟨Iu e4 ⟨e5.1,fun i hi=>(e5.2 i hi).1.below e2⟩,fun h b off e=>?_⟩;injection e with e;injection e with e6 e7;subst e6 e7;have hn:us.length=1:=by rw[e5.1,qF];exact h
 have e4':=e4;rw[show us.length=ss.length + [l].length by rw[e5.1,qF]]at e4';rw[e4'.cellAt 0 (by simp)];have h9:=(e5.2 0 (by rw[qF];omega)).2 (by simpa using h);rw[qC,qH (by omega),Option.getD_some]at h9;rw[qH (by omega),h9]
theorem Js(w1:World)(u sv:Value)(t1 t2:TypeId):Below w1.heap.size w1 ((w1.alloc (.cells #[u] t1)).alloc (.cells #[sv,.slice (some ⟨w1.heap.size,0,none⟩) 1 1] t2))/\w1.heap.size<((w1.alloc (.cells #[u] t1)).alloc (.cells #[sv,.slice (some ⟨w1.heap.size,0,none⟩) 1 1] t2)).heap.size/\((w1.alloc (.cells #[u] t1)).alloc (.cells #[sv,.slice (some ⟨w1.heap.size,0,none⟩) 1 1] t2)).cell? ⟨w1.heap.size,0,none⟩=some u/\((w1.alloc (.cells #[u] t1)).alloc (.cells #[sv,.slice (some ⟨w1.heap.size,0,none⟩) 1 1] t2)).cell? ⟨w1.heap.size+1,0,none⟩=some sv/\((w1.alloc (.cells #[u] t1)).alloc (.cells #[sv,.slice (some ⟨w1.heap.size,0,none⟩) 1 1] t2)).cell? ⟨w1.heap.size+1,1,none⟩=some (.slice (some ⟨w1.heap.size,0,none⟩) 1 1):=by
 refine⟨((qD _ _).alloc (qB _) _).alloc (by simp) _,by simp;omega,?_,?_,?_⟩<;>simp[go_sem]
theorem SizeOk.flat{lo:List Int}{rs:List (List Int)}(h:SizeOk lo rs):(rs++[up lo]).flatten.length<=20000:=by rw[ER,qF,F1];have:=h.many;omega
theorem LT(lo:List Int)(rs:List (List Int))(la ra:Option Addr)(lc rc:Nat)(w:World)(hs:SizeOk lo rs)(hL:IntsVU w (.slice la lo.length lc) lo)(hR:LisVU w (.slice ra rs.length rc) rs) :
  Calls qA 111 #[.agg #[.slice la lo.length lc,.slice ra rs.length rc]] w fun e w'=>∃ao cap,e=.returned (.slice ao (tog (rs++[up lo])).length cap)/\Below w.heap.size w w'/\Hid (Aa w' w.heap.size (.slice ao (tog (rs++[up lo])).length cap) (tog (rs++[up lo]))):=by
 obtain⟨hbA,hcA⟩:=Bc.arg w (.slice la lo.length lc) (.slice ra rs.length rc) 146;obtain⟨W0,hW0⟩:∃W0,W0=w.alloc (.cells #[.slice la lo.length lc,.slice ra rs.length rc] 146):=⟨_,rfl⟩;rw[<-hW0]at hbA hcA;have hr20:=hs.runs;have HSt:Hid (∀w1,Below W0.heap.size W0 w1->w1.cell? ⟨w.heap.size,0,none⟩=some (.slice la lo.length lc)/\w1.cell? ⟨w.heap.size,1,none⟩=some (.slice ra rs.length rc)):=fun w1 h=>(hcA.later h).2;have HRi:Hid (∀w1,Below W0.heap.size W0 w1->Calls qA 143 #[.slice la lo.length lc] w1 fun e w'=>∃ao cap,e=.returned (.slice ao lo.length cap)/\Below w1.heap.size w1 w'/\Hid (Aa w' w.heap.size (.slice ao lo.length cap) (up lo))):=fun w1 h=>(Mp _ lo w1 (by have:=hs.loose;omega) (hL.below (hbA.trans (h.mono hbA.size)))).mono fun e w' ⟨ao,cap,h1,h2,h3⟩=>⟨ao,cap,h1,h2,(AX.n (show AX w' w1.heap.size (.slice ao lo.length cap) (up lo)from h3.out)).mono (qI hbA.size h.size)⟩;have HCo:Hid (∀(w1 w2:World) (g g1:Nat) (u:Value),Below W0.heap.size W0 w1->Below w1.heap.size w1 w2->Aa w1 w.heap.size u (up lo)->g1<w2.heap.size->w2.cell? ⟨g1,0,none⟩=some u->w2.cell? ⟨g,0,none⟩=some (.slice ra rs.length rc)->w2.cell? ⟨g,1,none⟩=some (.slice (some ⟨g1,0,none⟩) 1 1)->Calls qA 142 #[.slice (some ⟨g,0,none⟩) 2 2] w2 fun e w'=>∃ao cap,e=.returned (.slice ao (rs++[up lo]).length cap)/\Below w2.heap.size w2 w'/\Hid (LisVU w' (.slice ao (rs++[up lo]).length cap) (rs++[up lo])/\((rs++[up lo]).length=1->∀b off,ao=some ⟨b,off,none⟩->w'.cell? ⟨b,off,none⟩=some u))):=fun w1 w2 g g1 u hb1 hb2 hu hg c2 c0 c1=>PL g g1 _ u rs (up lo) w1 w2 hb2 hr20 (hR.below (hbA.trans (hb1.mono hbA.size))) hu.1 c0 c1 c2 hg;have HTo:Hid (∀(ao:Option Addr) (cap:Nat) (u:Value) (w1 w2:World),LisVU w2 (.slice ao (rs++[up lo]).length cap) (rs++[up lo])/\((rs++[up lo]).length=1->∀b off,ao=some ⟨b,off,none⟩->w2.cell? ⟨b,off,none⟩=some u)->Aa w1 w.heap.size u (up lo)->Below w1.heap.size w1 w2->w.heap.size<=w2.heap.size->Calls qA 141 #[.slice ao (rs++[up lo]).length cap] w2 fun e w'=>∃ao cap,e=.returned (.slice ao (tog (rs++[up lo])).length cap)/\Below w2.heap.size w2 w'/\Hid (Aa w' w.heap.size (.slice ao (tog (rs++[up lo])).length cap) (tog (rs++[up lo])))):=fun ao cap u w1 w2 h hu hbu hw2=>by
  refine(NP _ ao cap (rs++[up lo]) w2 (qB _) (by simp) (by have:=hs.flat;omega) (by simp;omega) h.1).mono fun e w' ⟨xo,xc,h1,h2,h3,h4⟩=>⟨xo,xc,h1,h2,?_⟩;rcases h4.out with⟨h5,b,off,e5,c5⟩|h5
  .have h6:=h.2 h5 b off e5;rw[c5]at h6;injection h6 with h6;have h0:rs=[]:=by rw[qF]at h5;exact jA.1 (by simpa using h5)
   have e8:tog (rs++[up lo])=up lo:=by rw[FH (yQ h5),h0];rfl
   show Aa _ _ _ _;rw[h6,e8];exact(hu.below hbu).below h2
  .exact h5.n.mono hw2
 have hB0:Below W0.heap.size W0 W0:=qD _ _;generalize(tog (rs++[up lo])).length=tn at *;generalize(rs++[up lo]).length=cn at *;generalize rs.length=n at *;generalize lo.length=m at *;clear hL hR hs hcA hr20
 go_enter Tryz.func111,Tryz.ntmps111;go_wp2_with fail
 rw[<-hW0];clear hW0;go_region_held3 (fun w'=>w'.cell? ⟨w.heap.size,0,none⟩=some (.slice la m lc)/\w'.cell? ⟨w.heap.size,1,none⟩=some (.slice ra n rc))
  (first|exact HSt.out _ (by first|exact hB0|exact hB0.drew|exact hb01|exact hb02|exact hb03)|exact HSt.out _ (by first|exact hB0|exact hB0.drew|exact hb01|exact hb02)|exact HSt.out _ (by first|exact hB0|exact hB0.drew|exact hb01)|exact HSt.out _ (by first|exact hB0|exact hB0.drew)|exact HSt.out _ (hb01.trans (hbx.1.mono hb01.size))|exact HSt.out _ (hb01.alloc hb01.size _))
  (first
   |(go_at_call 143;refine(HRi.out _ hB0.drew).mono ?_;rintro e w1 ⟨xo1,xc1,rfl,hb1,hx1⟩;have hb01:=hB0.drew.trans (hb1.mono hB0.drew.size);have hbx:=Js w1 (.slice xo1 m xc1) (.slice ra n rc) 39 38)
   |(go_at_call 142;refine(HCo.out w1 _ (w1.heap.size+1) w1.heap.size _ hb01 hbx.1 hx1.out hbx.2.1 hbx.2.2.1 hbx.2.2.2.1 hbx.2.2.2.2).mono ?_;rintro e w2 ⟨xo2,xc2,rfl,hb2,hx2⟩;have hb01b:=hb01.trans (hbx.1.mono hb01.size);have hb02:=hb01b.trans (hb2.mono hb01b.size);have hb12:=hbx.1.trans (hb2.mono hbx.1.size))
   |(go_at_call 141;refine(HTo.out _ _ _ w1 _ hx2.out hx1.out hb12 (qI hbA.size hb02.size)).mono ?_;rintro e w3 ⟨xo3,xc3,rfl,hb3,hx3⟩;have hb03:=hb02.trans (hb3.mono hb02.size)))
 go_wp2_with fail
 go_ret;exact⟨xo3,xc3,rfl,hbA.trans (hb03.mono hbA.size),hx3⟩
theorem Kh(lo:List Int)(rs:List (List Int))(la ra:Option Addr)(lc rc:Nat)(w:World)(hz:StSzU lo rs)(hL:IntsVU w (.slice la lo.length lc) lo)(hR:LisVU w (.slice ra rs.length rc) rs) :
  Calls qA 110 #[.agg #[.slice la lo.length lc,.slice ra rs.length rc]] w fun e w'=>e=.returned (.int .i64 (sC lo rs))/\Below w.heap.size w w':=by
 obtain⟨hbA,hcA⟩:=Bc.arg w (.slice la lo.length lc) (.slice ra rs.length rc) 146;obtain⟨_,a0,a1⟩:=id hcA;have hS:=Ul lo rs la ra lc rc _ hz (hR.below hbA);have HB:Hid (∀w1,Below (w.alloc (.cells #[.slice la lo.length lc,.slice ra rs.length rc] 146)).heap.size (w.alloc (.cells #[.slice la lo.length lc,.slice ra rs.length rc] 146)) w1->Below w.heap.size w w1/\w1.cell? ⟨w.heap.size,0,none⟩=some (.slice la lo.length lc)/\w1.cell? ⟨w.heap.size,1,none⟩=some (.slice ra rs.length rc)):=fun w1 h=>⟨hbA.trans (h.mono hbA.size),(hcA.later h).2⟩;by_cases hs:SizeOk lo rs
 .have hS':Calls qA 139 #[.agg #[.slice la lo.length lc,.slice ra rs.length rc]] (w.alloc (.cells #[.slice la lo.length lc,.slice ra rs.length rc] 146)) fun e w'=>e=.returned (.bool true)/\Below (w.alloc (.cells #[.slice la lo.length lc,.slice ra rs.length rc] 146)).heap.size (w.alloc (.cells #[.slice la lo.length lc,.slice ra rs.length rc] 146)) w':=hS.mono fun e w' ⟨s,h1,h2,h3⟩=>⟨by rw[h1,h3.2 hs],h2⟩;have HK:Hid (∀w1,Below w.heap.size w w1->Calls qA 111 #[.agg #[.slice la lo.length lc,.slice ra rs.length rc]] w1 fun e w'=>∃ao cap,e=.returned (.slice ao (tog (rs++[up lo])).length cap)/\Below w1.heap.size w1 w'/\Hid (IntsVU w' (.slice ao (tog (rs++[up lo])).length cap) (tog (rs++[up lo])))):=fun w1 h=>(LT lo rs la ra lc rc w1 hs (hL.below h) (hR.below h)).mono fun e w' ⟨a,c,q1,q2,q3⟩=>⟨a,c,q1,q2,q3.out.1⟩;have hlen:(tog (rs++[up lo])).length<=140737488355328:=by rw[Jn];have:=hs.flat;omega
  have HN:Hid (∀(ao:Option Addr) (cap:Nat) (w1:World),IntsVU w1 (.slice ao (tog (rs++[up lo])).length cap) (tog (rs++[up lo]))->Calls qA 140 #[.slice ao (tog (rs++[up lo])).length cap] w1 fun e w'=>e=.returned (.bool (nrB (-1) (tog (rs++[up lo]))))/\Below w1.heap.size w1 w'):=fun ao cap w1 h=>Sh ao cap _ w1 hlen h;have hcode:sC lo rs=if nrB (-1) (tog (rs++[up lo]))=true then 9 else 0:=by
   cases hb:nrB (-1) (tog (rs++[up lo]))with
   |true=>rw[Hb (fun h=>by rw[(Ix hs).2 h]at hb;cases hb)];rfl
   |false=>rw[Fw ((Ix hs).1 hb)];rfl
  rw[hcode];generalize nrB (-1) (tog (rs++[up lo]))=o at *;generalize(tog (rs++[up lo])).length=tn at *;generalize rs.length=n at *;generalize lo.length=m at *;clear hL hR hS hcA hz hcode hlen
  cases o
  all_goals
   go_enter Tryz.func110,Tryz.ntmps110;go_wp2_with (first|(go_at_call 139;refine hS'.mono ?_;rintro e w1 ⟨rfl,hb1⟩;obtain⟨hw1,q0,q1⟩:=HB.out w1 hb1;have hk:=HK.out w1 hw1)|(go_at_call 111;refine hk.mono ?_;rintro e w2 ⟨ko,kc,rfl,hb2,hx2⟩;have hw2:=hw1.trans (hb2.mono hw1.size);have hnr:=HN.out ko kc w2 hx2.out)|(go_at_call 140;refine hnr.mono ?_;rintro e w3 ⟨rfl,hb3⟩;have hw3:=hw2.trans (hb3.mono hw2.size)))
   go_ret;exact⟨by rfl,hw3⟩
 .have hS':Calls qA 139 #[.agg #[.slice la lo.length lc,.slice ra rs.length rc]] (w.alloc (.cells #[.slice la lo.length lc,.slice ra rs.length rc] 146)) fun e w'=>e=.returned (.bool false)/\Below (w.alloc (.cells #[.slice la lo.length lc,.slice ra rs.length rc] 146)).heap.size (w.alloc (.cells #[.slice la lo.length lc,.slice ra rs.length rc] 146)) w':=hS.mono fun e w' ⟨s,h1,h2,h3⟩=>⟨by cases s with|false=>exact h1|true=>exact absurd (h3.1 rfl) hs,h2⟩;have HC:Hid (sC lo rs=9):=Hb fun h=>hs h.size;generalize rs.length=n at *;generalize lo.length=m at *;clear hL hR hS hcA hz;rw[HC.out]
  go_enter Tryz.func110,Tryz.ntmps110;go_wp2_with (first|(go_at_call 139;refine hS'.mono ?_;rintro e w1 ⟨rfl,hb1⟩;obtain⟨hw1,q0,q1⟩:=HB.out w1 hb1))
  go_ret;exact⟨rfl,hw1⟩
def FL(w:World)(l:List Int)(c:Int)(e:Ending)(w':World):Prop:=∃ao cap,e=.returned (.tuple #[.slice ao l.length cap,.int .i64 c])/\Below w.heap.size w w'/\Hid (Aa w' w.heap.size (.slice ao l.length cap) l)
open Classical in
noncomputable def FT(lo:List Int)(rs:List (List Int)):List Int:=if May lo rs then up (AQ lo rs)else []
theorem ID{lo:List Int}{rs:List (List Int)}(h:May lo rs):FT lo rs=up (AQ lo rs):=by unfold FT;rw[if_pos h]
theorem OD{lo:List Int}{rs:List (List Int)}(h:¬May lo rs):FT lo rs=[]:=by unfold FT;rw[if_neg h]
theorem KP(lo:List Int)(rs:List (List Int))(la ra:Option Addr)(lc rc:Nat)(w:World)(hz:StSzU lo rs)(hL:IntsVU w (.slice la lo.length lc) lo)(hR:LisVU w (.slice ra rs.length rc) rs) :
    Calls qA 81 #[.agg #[.slice la lo.length lc,.slice ra rs.length rc]] w (FL w (FT lo rs) (sC lo rs)):=by
  obtain⟨hbA,hcA⟩:=Bc.arg w (.slice la lo.length lc) (.slice ra rs.length rc) 146;obtain⟨_,a0,a1⟩:=id hcA;have hC:=Kh lo rs la ra lc rc _ hz (hL.below hbA) (hR.below hbA);have HB:Hid (∀w1,Below (w.alloc (.cells #[.slice la lo.length lc,.slice ra rs.length rc] 146)).heap.size (w.alloc (.cells #[.slice la lo.length lc,.slice ra rs.length rc] 146)) w1->Below w.heap.size w w1/\w1.cell? ⟨w.heap.size,0,none⟩=some (.slice la lo.length lc)/\w1.cell? ⟨w.heap.size,1,none⟩=some (.slice ra rs.length rc)):=fun w1 h=>⟨hbA.trans (h.mono hbA.size),(hcA.later h).2⟩;by_cases hm:May lo rs
  . have HK:Hid (∀w1,Below w.heap.size w w1->Calls qA 111 #[.agg #[.slice la lo.length lc,.slice ra rs.length rc]] w1 fun e w'=>∃ao cap,e=.returned (.slice ao (up (AQ lo rs)).length cap)/\Below w1.heap.size w1 w'/\Hid (Aa w' w.heap.size (.slice ao (up (AQ lo rs)).length cap) (up (AQ lo rs)))):=fun w1 h=>by
      have:=LT lo rs la ra lc rc w1 hm.size (hL.below h) (hR.below h);rw[VQ hm]at this;exact this.mono fun e w' ⟨a,c,q1,q2,q3⟩=>⟨a,c,q1,q2,q3.out.mono h.size⟩
    rw[Fw hm]at hC⊢;rw[ID hm];have HP:Hid (∀(ao:Option Addr) (cap:Nat) (w2:World),Below w.heap.size w w2->Aa w2 w.heap.size (.slice ao (up (AQ lo rs)).length cap) (up (AQ lo rs))->FL w (up (AQ lo rs)) 0 (.returned (.tuple #[.slice ao (up (AQ lo rs)).length cap,.int .i64 0])) w2):=fun ao cap w2 h1 h2=>⟨ao,cap,rfl,h1,h2⟩;generalize(up (AQ lo rs)).length=kn at *;generalize rs.length=n at *;generalize lo.length=m at *;clear hL hR hcA hz hm
    go_enter Tryz.func81,Tryz.ntmps81;go_wp2_with (first|(go_at_call 110;refine hC.mono ?_;rintro e w1 ⟨rfl,hb1⟩;obtain⟨hw1,q0,q1⟩:=HB.out w1 hb1;have hk:=HK.out w1 hw1)|(go_at_call 111;refine hk.mono ?_;rintro e w2 ⟨ko,kc,rfl,hb2,hx2⟩;have hw2:=hw1.trans (hb2.mono hw1.size)))
    go_ret2;exact HP.out ko kc w2 hw2 hx2.out
  . rw[Hb hm]at hC⊢
    rw[OD hm];have HP:Hid (∀(w2:World),Below w.heap.size w w2->FL w [] 9 (.returned (.tuple #[.slice none 0 0,.int .i64 9])) w2):=fun w2 h1=>⟨none,0,rfl,h1,Aa.nil _ _⟩;generalize rs.length=n at *;generalize lo.length=m at *;clear hL hR hcA hz hm
    go_enter Tryz.func81,Tryz.ntmps81;go_wp2_with (first|(go_at_call 110;refine hC.mono ?_;rintro e w1 ⟨rfl,hb1⟩;obtain⟨hw1,q0,q1⟩:=HB.out w1 hb1))
    go_ret2;exact HP.out w1 hw1
theorem OH(x:Int)(rs:List (List Int)):rs.any (Ce x)=decide (x∈rs.flatten):=by
 rw[jP,vB,decide_eq_true_eq,List.mem_flatten];simp[Ce]
theorem Qp(lo:List Int)(rs:List (List Int))(x:Int)(la ra:Option Addr)(lc rc:Nat)(w:World)(hm:May lo rs)(hL:IntsVU w (.slice la lo.length lc) lo)(hR:LisVU w (.slice ra rs.length rc) rs) :
  Calls qA 171 #[.agg #[.slice la lo.length lc,.slice ra rs.length rc],.int .i64 x] w fun e w'=>e=.returned (.bool (decide (x∈AQ lo rs)))/\Below w.heap.size w w':=by
 obtain⟨hbA,hcA⟩:=Bc.arg w (.slice la lo.length lc) (.slice ra rs.length rc) 146;have hbB:Below w.heap.size w ((w.alloc (.cells #[.slice la lo.length lc,.slice ra rs.length rc] 146)).alloc (.cells #[.int .i64 x] 3)):=hbA.alloc hbA.size _;obtain⟨_,a0,a1⟩:=hcA.later ((qD _ _).alloc (qB _) (.cells #[.int .i64 x] 3));have hcx:Bp ((w.alloc (.cells #[.slice la lo.length lc,.slice ra rs.length rc] 146)).alloc (.cells #[.int .i64 x] 3)) (w.heap.size+1) x:=⟨by simp,by simp[go_sem],by simp[go_sem]⟩;have hK:=PP la lc lo x _ (by have:=hm.size.loose;omega) (hL.below hbB);have hH:=PN (w.heap.size+1) x ra rc rs _ (by have:=hm.size.runs;omega) (fun r hr=>⟨by have:=EX hr;have:=hm.size.many;omega,JZ (hm.rise r hr)⟩) (hR.below hbB) hcx;have hxc:w.heap.size+1<((w.alloc (.cells #[.slice la lo.length lc,.slice ra rs.length rc] 146)).alloc (.cells #[.int .i64 x] 3)).heap.size:=hcx.1;obtain⟨_,x0,_⟩:=hcx;rw[OH]at hH;have HB:Hid (∀w1,Below ((w.alloc (.cells #[.slice la lo.length lc,.slice ra rs.length rc] 146)).alloc (.cells #[.int .i64 x] 3)).heap.size ((w.alloc (.cells #[.slice la lo.length lc,.slice ra rs.length rc] 146)).alloc (.cells #[.int .i64 x] 3)) w1->Below w.heap.size w w1):=fun w1 h=>hbB.trans (h.mono hbB.size);have hdec:decide (x∈AQ lo rs)=(decide (x∈lo)||decide (x∈rs.flatten)):=by
  rw[jP,decide_eq_true_eq,jQ,decide_eq_true_eq,decide_eq_true_eq,AQ,qO,or_comm]
 rw[hdec];generalize decide (x∈lo)=o1 at *;generalize decide (x∈rs.flatten)=o2 at *;generalize rs.length=n at *;generalize lo.length=m at *;clear hL hR hm hdec
 cases o1
 .go_enter Tryz.func171,Tryz.ntmps171;go_wp2_with (first|(go_at_call 185;refine hK.mono ?_;rintro e w1 ⟨rfl,rfl⟩)|(go_at_call 165;refine hH.mono ?_;rintro e w2 ⟨rfl,hb2⟩))
  go_ret;exact⟨by first|rfl|simp,HB.out _ hb2⟩
 .go_enter Tryz.func171,Tryz.ntmps171;go_wp2_with (first|(go_at_call 185;refine hK.mono ?_;rintro e w1 ⟨rfl,rfl⟩))
  go_ret;exact⟨by first|rfl|simp,hbB⟩
open Classical in
noncomputable def Bo(lo:List Int)(rs:List (List Int))(x:Int):Bool×Int:=if May lo rs then(if 0<=x/\x<=2147483647 then(decide (x∈AQ lo rs),0)else(false,2))else(false,9)
theorem Fc(lo:List Int)(rs:List (List Int))(x:Int)(la ra:Option Addr)(lc rc:Nat)(w:World)(hz:StSzU lo rs)(hL:IntsVU w (.slice la lo.length lc) lo)(hR:LisVU w (.slice ra rs.length rc) rs) :
  Calls qA 146 #[.agg #[.slice la lo.length lc,.slice ra rs.length rc],.int .i64 x] w fun e w'=>e=.returned (.tuple #[.bool (Bo lo rs x).1,.int .i64 (Bo lo rs x).2])/\Below w.heap.size w w':=by
 obtain⟨hbA,hcA⟩:=Bc.arg w (.slice la lo.length lc) (.slice ra rs.length rc) 146;obtain⟨_,a0,a1⟩:=id hcA;have hC:=Kh lo rs la ra lc rc _ hz (hL.below hbA) (hR.below hbA);have HB:Hid (∀w1,Below (w.alloc (.cells #[.slice la lo.length lc,.slice ra rs.length rc] 146)).heap.size (w.alloc (.cells #[.slice la lo.length lc,.slice ra rs.length rc] 146)) w1->Below w.heap.size w w1/\w1.cell? ⟨w.heap.size,0,none⟩=some (.slice la lo.length lc)/\w1.cell? ⟨w.heap.size,1,none⟩=some (.slice ra rs.length rc)):=fun w1 h=>⟨hbA.trans (h.mono hbA.size),(hcA.later h).2⟩;by_cases hm:May lo rs
 .rw[Fw hm]at hC;by_cases hx0:x<0
  .rw[show Bo lo rs x=(false,2) by unfold Bo;rw[if_pos hm,if_neg (by omega)]];generalize rs.length=n at *;generalize lo.length=m at *;clear hL hR hcA hz hm
   go_enter Tryz.func146,Tryz.ntmps146;go_wp2_with (first|(go_at_call 110;refine hC.mono ?_;rintro e w1 ⟨rfl,hb1⟩;obtain⟨hw1,q0,q1⟩:=HB.out w1 hb1))
   go_ret2;exact⟨rfl,hw1⟩
  .by_cases hx1:2147483647<x
   .rw[show Bo lo rs x=(false,2) by unfold Bo;rw[if_pos hm,if_neg (by omega)]];generalize rs.length=n at *;generalize lo.length=m at *;clear hL hR hcA hz hm
    go_enter Tryz.func146,Tryz.ntmps146;go_wp2_with (first|(go_at_call 110;refine hC.mono ?_;rintro e w1 ⟨rfl,hb1⟩;obtain⟨hw1,q0,q1⟩:=HB.out w1 hb1))
    go_ret2;exact⟨rfl,hw1⟩
   .rw[show Bo lo rs x=(decide (x∈AQ lo rs),0) by unfold Bo;rw[if_pos hm,if_pos (by omega)]];have HH:Hid (∀w1,Below w.heap.size w w1->Calls qA 171 #[.agg #[.slice la lo.length lc,.slice ra rs.length rc],.int .i64 x] w1 fun e w'=>e=.returned (.bool (decide (x∈AQ lo rs)))/\Below w1.heap.size w1 w'):=fun w1 h=>Qp lo rs x la ra lc rc w1 hm (hL.below h) (hR.below h);generalize decide (x∈AQ lo rs)=o at *;generalize rs.length=n at *;generalize lo.length=m at *;clear hL hR hcA hz hm
    go_enter Tryz.func146,Tryz.ntmps146;go_wp2_with (first|(go_at_call 110;refine hC.mono ?_;rintro e w1 ⟨rfl,hb1⟩;obtain⟨hw1,q0,q1⟩:=HB.out w1 hb1;have hh:=HH.out w1 hw1)|(go_at_call 171;refine hh.mono ?_;rintro e w2 ⟨rfl,hb2⟩))
    go_ret2;exact⟨rfl,hw1.trans (hb2.mono hw1.size)⟩
 .rw[Hb hm]at hC;rw[show Bo lo rs x=(false,9) by unfold Bo;rw[if_neg hm]];generalize rs.length=n at *;generalize lo.length=m at *;clear hL hR hcA hz hm
  go_enter Tryz.func146,Tryz.ntmps146;go_wp2_with (first|(go_at_call 110;refine hC.mono ?_;rintro e w1 ⟨rfl,hb1⟩;obtain⟨hw1,q0,q1⟩:=HB.out w1 hb1))
  go_ret2;exact⟨rfl,hw1⟩
section
variable{W:World}
theorem MX{ops:Array Oper}{rest:List Oper}{o:Oper}{a:Act}{Q:Exit->Act->World->Prop}(y:Int)(hgd:o.guard=none)(s x:Operand)
  (ho:o.op=.call { callee:=.builtin .append,args:=#[s,x],argTypes:=#[39,39]})
  (base n cap:Nat) (vo:Option Addr) (xs:List Value) (hs:a.eval s=.slice vo n cap) (hown:W.ownsRow base 3 1 (.slice vo n cap) n xs) (hx:a.eval x=.slice (some ⟨W.heap.size,0,none⟩) 1 1)
  (hsz:(n+1)*8<=140737488355328) (hbase:base<=W.heap.size)
  (h:∀vo' cap' w',w'.ownsRow base 3 1 (.slice vo' (n+1) cap') (n+1) (xs++[.int .i64 y])->Below base W w'->(W.alloc (.cells #[.int .i64 y] 3)).grownBy w' (Value.slice vo n cap).ownBlock->wpList qA ops Q rest (a.put o.dst (.slice vo' (n+1) cap')) w'):wpList qA ops Q (o::rest) a (W.alloc (.cells #[.int .i64 y] 3)):=by
 obtain⟨i0,hi,hz0,hz1,hz2⟩:=info_parts Ba;refine wpList_append_own _ hgd s x 39 ho base 3 i0 (.int .i64 0) 1 8 Tryz.underlying39 hi hz0 hz1 hz2 rfl (by decide) (.slice vo n cap) n xs hs (hown.alloc _) ⟨W.heap.size,0,none⟩ 1 1 [.int .i64 y] hx rfl (E9 _ _ _) (by simp[Value.oneCell']) (by unfold maxLen;omega) hsz (qI hbase (by simp)) ?_;intro v' w4 hown' hgrow _;obtain⟨a4,c4,rfl⟩:=A2 hown';exact h a4 c4 w4 hown' (((qD base W).alloc hbase _).grown hgrow (qI hbase (by simp)) (fun q hq=>(hown.lt q hq).1)) hgrow
end
theorem AX.shape{w:World}{base:Nat}{v:Value}{l:List Int}(h:AX w base v l):∃ao cap,v=.slice ao l.length cap:=h.v.shape
theorem LisO.len{w:World}{base n cap:Nat}{ao:Option Addr}{rs:List (List Int)}(h:LisO w base (.slice ao n cap) rs):rs.length=n:=h.v.len
section
variable{W:World}
theorem Tb{ops:Array Oper}{rest:List Oper}{o:Oper}{a:Act}{Q:Exit->Act->World->Prop}(u:Value)(rs:List (List Int))(l:List Int)(hgd:o.guard=none)(s x:Operand)
  (ho:o.op=.call { callee:=.builtin .append,args:=#[s,x],argTypes:=#[38,38]})
  (base n cap:Nat) (vo:Option Addr) (hs:a.eval s=.slice vo n cap) (hL:LisO W base (.slice vo n cap) rs) (hu:AX W base u l) (hx:a.eval x=.slice (some ⟨W.heap.size,0,none⟩) 1 1)
  (hsz:(n+1)*24<=140737488355328) (hbase:base<=W.heap.size)
  (h:∀vo' cap' w',LisO w' base (.slice vo' (n+1) cap') (rs++[l])->Below base W w'->wpList qA ops Q rest (a.put o.dst (.slice vo' (n+1) cap')) w'):wpList qA ops Q (o::rest) a (W.alloc (.cells #[u] 39)):=by
 obtain⟨i0,hi,hz0,hz1,hz2⟩:=info_parts Dv;obtain⟨us,h1,h2,h3⟩:=id hL;have hn:=hL.len;subst hn;obtain⟨uo,uc,rfl⟩:=hu.shape;refine wpList_append_own _ hgd s x 38 ho base 39 i0 (.slice none 0 0) 1 24 Tryz.underlying38 hi hz0 hz1 hz2 rfl (by decide) (.slice vo rs.length cap) rs.length us hs (h1.alloc _) ⟨W.heap.size,0,none⟩ 1 1 [.slice uo l.length uc] hx rfl (E9 _ _ _) (by simp[Value.oneCell']) (by unfold maxLen;omega) hsz (qI hbase (by simp)) ?_;intro v' w4 hown' hgrow _;obtain⟨a4,c4,rfl⟩:=A2 hown';exact h a4 c4 w4 (LisO.snoc (w:=W.alloc (.cells #[.slice uo l.length uc] 39)) (h1.alloc _) h2 (fun i hi=>(h3 i hi).alloc _) (World.ownsRow.alloc hu _) hown' hgrow) (((qD base W).alloc hbase _).grown hgrow (qI hbase (by simp)) (fun q hq=>(h1.lt q hq).1))
end
theorem IntsVU.setBox{w:World}{v:Value}{l:List Int}{p:Addr}{a:Option Addr}{n c:Nat}(h:IntsVU w v l)(hc:w.cell? p=some (.slice a n c))(u:Value):IntsVU (w.setCell p u) v l:=by
 obtain⟨ao,cap,rfl,h0,h⟩:=h;refine⟨ao,cap,rfl,h0,fun hne=>?_⟩;obtain⟨b,off,rfl,hlt,hat⟩:=h hne;refine⟨b,off,rfl,by simpa using hlt,fun i hi=>?_⟩;have hne:(⟨b,off+i,none⟩:Addr)≠p:=by
  rintro rfl;rw[hat i hi]at hc;cases hc
 rw[World.cell?_setCell_other _ _ _ _ hne.symm];exact hat i hi
theorem Aa.setBox{w:World}{B:Nat}{v:Value}{l:List Int}{p:Addr}{a:Option Addr}{n c:Nat}(h:Aa w B v l)(hc:w.cell? p=some (.slice a n c))(u:Value):Aa (w.setCell p u) B v l:=⟨h.1.setBox hc u,h.2⟩
def BZ(w:World)(base:Nat)(v:Value)(rs:List (List Int)):Prop:=∃us,w.ownsRow base 39 1 v rs.length us/\BU (Aa w base) us rs
theorem LisO.x{w:World}{base:Nat}{v:Value}{rs:List (List Int)}(h:LisO w base v rs):BZ w base v rs:=by
 obtain⟨us,h1,h2,h3⟩:=h;exact⟨us,h1,h2,fun i hi=>(show AX w base _ _ from h3 i hi).n⟩
theorem BZ.mono{w:World}{base base':Nat}{v:Value}{rs:List (List Int)}(h:BZ w base v rs)(hb:base'<=base):BZ w base' v rs:=by
 obtain⟨us,h1,h2,h3⟩:=h;exact⟨us,A1 h1 hb,h2,fun i hi=>(h3 i hi).mono hb⟩
theorem BZ.nil(w:World)(base:Nat):BZ w base (.slice none 0 0) []:=(LisO.nil w base).x
theorem BZ.setBox{w:World}{base:Nat}{v:Value}{rs:List (List Int)}{p:Addr}{a:Option Addr}{n c:Nat}(h:BZ w base v rs)(hp:p.block<base)(hc:w.cell? p=some (.slice a n c))(u:Value):BZ (w.setCell p u) base v rs:=by
 obtain⟨us,h1,h2,h3⟩:=h;exact⟨us,TF h1 hp u,h2,fun i hi=>(h3 i hi).setBox hc u⟩
section
variable{W:World}
theorem MZ{ops:Array Oper}{rest:List Oper}{o:Oper}{a:Act}{Q:Exit->Act->World->Prop}(u:Value)(rs:List (List Int))(l:List Int)(w0:World)(hgd:o.guard=none)(s x:Operand)
  (ho:o.op=.call { callee:=.builtin .append,args:=#[s,x],argTypes:=#[38,38]})
  (base n cap:Nat) (vo:Option Addr) (hs:a.eval s=.slice vo n cap) (hL:LisO W base (.slice vo n cap) rs) (B:Nat) (hBb:B<=base) (hu:Aa w0 B u l) (hw0:w0.heap.size<=base) (hb0:Below w0.heap.size w0 W) (hx:a.eval x=.slice (some ⟨W.heap.size,0,none⟩) 1 1)
  (hsz:(n+1)*24<=140737488355328) (hbase:base<=W.heap.size)
  (h:∀vo' cap' w',BZ w' B (.slice vo' (n+1) cap') (rs++[l])->Below base W w'->wpList qA ops Q rest (a.put o.dst (.slice vo' (n+1) cap')) w'):wpList qA ops Q (o::rest) a (W.alloc (.cells #[u] 39)):=by
 obtain⟨i0,hi,hz0,hz1,hz2⟩:=info_parts Dv;obtain⟨us,h1,h2,h3⟩:=id hL;have hn:=hL.len;subst hn;obtain⟨uo,uc,rfl⟩:=hu.v.shape;refine wpList_append_own _ hgd s x 38 ho base 39 i0 (.slice none 0 0) 1 24 Tryz.underlying38 hi hz0 hz1 hz2 rfl (by decide) (.slice vo rs.length cap) rs.length us hs (h1.alloc _) ⟨W.heap.size,0,none⟩ 1 1 [.slice uo l.length uc] hx rfl (E9 _ _ _) (by simp[Value.oneCell']) (by unfold maxLen;omega) hsz (qI hbase (by simp)) ?_;intro v' w4 hown' hgrow _;obtain⟨a4,c4,rfl⟩:=A2 hown';have hb4:Below base W w4:=((qD base W).alloc hbase _).grown hgrow (qI hbase (by simp)) (fun q hq=>(h1.lt q hq).1);refine h a4 c4 w4 ⟨us++[.slice uo l.length uc],by rw[qF];exact A1 hown' hBb,by simp[h2],fun i hi=>?_⟩ hb4;rw[Ez,Ez,h2];by_cases hlt:i<rs.length
 .rw[if_pos hlt,if_pos hlt];exact(show AX w4 base _ _ from World.ownsRow.kept (World.ownsRow.alloc (h3 i hlt) _) hgrow (EY (by decide) (World.ownsRow.alloc (h3 i hlt) (.cells #[.slice uo l.length uc] 39)) (h1.alloc _))).n.mono hBb
 .rw[if_neg hlt,if_neg hlt];have:i=rs.length:=by simp at hi;omega
  subst this;rw[Nat.sub_self];exact hu.below (hb0.trans (hb4.mono hw0))
end
theorem FY(ra:Option Addr)(rc:Nat)(rs:List (List Int))(w:World)(hl:rs.length<=20000)(hr:∀i,i<rs.length->(rs.getD i []).length<=20000)(hR:LisVU w (.slice ra rs.length rc) rs) :
  Calls qA 148 #[.slice ra rs.length rc] w fun e w'=>∃yo yc,e=.returned (.slice yo rs.length yc)/\Below w.heap.size w w'/\Hid (LisO w' w.heap.size (.slice yo rs.length yc) rs):=by
 obtain⟨i0,hi,hz0,hz1,hz2⟩:=info_parts Dv;obtain⟨n,hn⟩:∃n,rs.length=n:=⟨_,rfl⟩;have H:Hid (LisVU w (.slice ra rs.length rc) rs):=hR;have HN:Hid (rs.length=n):=hn;have HCo:Hid (∀(i:Nat) (v:Value) (w1:World),i<rs.length->IntsVU w1 v (rs.getD i [])->Calls qA 147 #[v] w1 fun e w'=>∃ao cap,e=.returned (.slice ao (rs.getD i []).length cap)/\Below w1.heap.size w1 w'/\Hid (w'.ownsRow w1.heap.size 3 1 (.slice ao (rs.getD i []).length cap) (rs.getD i []).length (AB (rs.getD i [])))):=fun i v w1 h1 h2=>Eu v _ w1 (by have:=hr i h1;omega) h2;have HTk:Hid (∀k,k<rs.length->rs.take (k+1)=rs.take k++[rs.getD k []]):=fun k h=>Fy h [];have HAll:Hid (rs.take rs.length=rs):=vL;rw[hn]at hl H HAll⊢;clear hR hn hr;have hmk:∀w1:World,(Instr.makeSlice 38 (.int .i64 0) (.int .i64 ((n:Int)+1))).run qA w1=.ok (.slice (some ⟨w1.heap.size,0,none⟩) 0 (n+1)) (w1.alloc (.cells (madeCells #[.slice none 0 0] (n+1)) 39)):=fun w1=>by
  have:=run_make (P:=qA) w1 38 39 i0 (.slice none 0 0) Tryz.underlying38 hi hz0 .i64 .i64 0 ((n:Int)+1) (xR _) (by omega) (by rw[hz2];omega) (by omega);have e:((n:Int)+1).toNat=n+1:=by omega
  rw[e]at this;simpa[hz1,Value.cells]using this
 have hO0:LisO (w.alloc (.cells (madeCells #[.slice none 0 0] (n+1)) 39)) w.heap.size (.slice (some ⟨w.heap.size,0,none⟩) 0 (n+1)) []:=⟨[],World.ownsRow_made w _ (n+1) (qB _) (by unfold maxLen;omega) (by simp[size_madeCells]),rfl,fun i hi=>by simp at hi⟩;have HO0:Hid (LisO (w.alloc (.cells (madeCells #[.slice none 0 0] (n+1)) 39)) w.heap.size (.slice (some ⟨w.heap.size,0,none⟩) 0 (n+1)) []):=hO0;have HB0:Hid (Below w.heap.size w (w.alloc (.cells (madeCells #[.slice none 0 0] (n+1)) 39))):=(qD _ _).alloc (qB _) _;clear hO0;go_enter Tryz.func148,Tryz.ntmps148;go_wp2;go_loopw [3,5,12] (fun u z i wr=>∃k:Nat,k<=n/\i=.int .i64 k/\(∃yo yc,u=.slice yo k yc/\Hid (LisO wr w.heap.size (.slice yo k yc) (rs.take k)))/\Below w.heap.size w wr) (fun _ _ i _=>n-(intOf i).toNat)
 case atStart=>exact⟨0,qJ _,rfl,⟨_,_,rfl,HO0⟩,HB0.out⟩
 case round=>
  obtain⟨k,hk,rfl,⟨yo,yc,rfl,HO⟩,hB⟩:=hrel;by_cases hlt:k<n
  .have hlt2:k<rs.length:=by rw[HN.out];exact hlt
   obtain⟨b,off,rfl,hb,u,c1,hu⟩:=H.out.at hlt2;obtain⟨uo,uc,rfl⟩:=hu.shape;have c2:=(hB.cell (p:=⟨b,off+k,none⟩) hb).trans c1;have hco:=HCo.out k _ wr hlt2 (hu.below hB);have HTk2:Hid (rs.take (k+1)=rs.take k++[rs.getD k []]):=HTk.out k hlt2;clear hu c1;generalize rs.getD k []=r at *
   have HRow:Hid (∀(w1:World) (b1:Nat) (v:Value),w1.ownsRow b1 3 1 v r.length (AB r)->AX w1 b1 v r):=fun w1 b1 v h=>h;generalize hrr:r.length=rn at *;clear hrr;have hsz:=hB.size
   go_wp2_with (first|(go_at_call 147;refine hco.mono ?_;rintro e w4 ⟨zo,zc,rfl,hb4,HZ⟩;have hl4:=HO.out.later hb4 (qB _);have hB4:=hB.trans (hb4.mono hsz))|(at_builtin;refine Tb (.slice zo rn zc) (rs.take k) r rfl _ _ rfl w.heap.size k yc yo rfl hl4 ((HRow.out _ _ _ HZ.out).mono hsz) rfl (by omega) hB4.size ?_;intro vo' cap' w5 hl5 hb5;rw[<-HTk2.out]at hl5;have HL5:Hid (LisO w5 w.heap.size (.slice vo' (k+1) cap') (rs.take (k+1))):=hl5;have hB5:=hB4.trans hb5;clear hl5 hl4))
   go_roundw
   case rel=>exact⟨k+1,by omega,by go_num,⟨vo',cap',rfl,HL5⟩,hB5⟩
   case measure=>simp[intOf];omega
  .obtain rfl:k=n:=by omega
   rw[HAll.out]at HO;go_wp2;go_ret;exact⟨yo,yc,rfl,hB,HO⟩
theorem Vt(B:Nat)(ra uo:Option Addr)(rc uc:Nat)(rs:List (List Int))(run:List Int)(w:World)(hl:rs.length<=20000)(hf:rs.flatten.length+run.length<=20000)(hr:∀r∈rs,r.Pairwise (· < ·))(hd:(rs.flatten++run).Nodup)(hR:LisVU w (.slice ra rs.length rc) rs)(hBw:B<=w.heap.size)(hU:Aa w B (.slice uo run.length uc) (up run)) :
  Calls qA 150 #[.slice ra rs.length rc,.slice uo run.length uc] w fun e w'=>∃yo yc,e=.returned (.slice yo (Cm rs run).length yc)/\Below w.heap.size w w'/\Hid (BZ w' B (.slice yo (Cm rs run).length yc) (Cm rs run)):=by
 obtain⟨n,hn⟩:∃n,rs.length=n:=⟨_,rfl⟩;obtain⟨m,hm⟩:∃m,run.length=m:=⟨_,rfl⟩;have HN:Hid (rs.length=n):=hn;have HM:Hid (run.length=m):=hm;have H:Hid (LisVU w (.slice ra rs.length rc) rs):=hR;have HU:Hid (Aa w B (.slice uo run.length uc) (up run)):=hU;have hstl:=NF rs rs.length run.length;have hst:FE rs run.length=stay rs rs.length run.length:=rfl;obtain⟨st,hstE⟩:∃st,FE rs run.length=st:=⟨_,rfl⟩;have hst2:st<=n:=by rw[<-hstE,hst,<-hn];exact hstl
 have HS0:Hid (stay rs rs.length run.length=st):=hstE;have hlast:tog (rs.drop st++[up run])=up ((rs.drop st).flatten++run):=VP hr hd st;have hra:Cm rs run=rs.take st++[tog (rs.drop st++[up run])]:=by unfold Cm;rw[hstE,hlast]
 have hfd:(rs.drop st).flatten.length+(rs.take st).flatten.length=rs.flatten.length:=by rw[Nat.add_comm,<-qF,<-vT,q9]
 have hlr:∀i,i<rs.length->(rs.getD i []).length<=20000:=fun i hi=>by have:=EX (DR hi []);omega
 have HLr:Hid (∀i,i<rs.length->(rs.getD i []).length<=20000):=hlr;have HTo:Hid (∀(g cap:Nat) (w1:World),w.heap.size<=w1.heap.size->(∃us,w1.ownsRow w.heap.size 39 1 (.slice (some ⟨g,0,none⟩) (rs.drop st++[up run]).length cap) us.length us/\BU (fun v l=>IntsVU w1 v l/\(st=n->Aa w1 B v l)) us (rs.drop st++[up run]))->Calls qA 141 #[.slice (some ⟨g,0,none⟩) (rs.drop st++[up run]).length cap] w1 fun e w'=>∃ao cap,e=.returned (.slice ao (tog (rs.drop st++[up run])).length cap)/\Below w1.heap.size w1 w'/\Hid (Aa w' B (.slice ao (tog (rs.drop st++[up run])).length cap) (tog (rs.drop st++[up run])))):=fun g cap w1 hw1 ⟨us,ho,hp⟩=>by
  have hul:us.length=(rs.drop st++[up run]).length:=hp.1;rw[hul]at ho;refine(NP _ (some ⟨g,0,none⟩) cap _ w1 (qB _) (by simp) (by rw[ER,qF,F1];omega) (by simp;omega) (Iu ho ⟨hp.1,fun i hi=>(hp.2 i hi).1⟩)).mono fun e w' ⟨xo,xc,h1,h2,h3,h4⟩=>⟨xo,xc,h1,h2,?_⟩;rcases h4.out with⟨h5,b,off,e5,c5⟩|h5
  .injection e5 with e5;injection e5 with e6 e7;subst e6 e7;have hst1:st=n:=by rw[qF,qN]at h5;simp at h5;omega
   have hc:=ho.cellAt 0 (by omega);rw[c5]at hc;have hu0:us.getD 0 DE=.slice xo (tog (rs.drop st++[up run])).length xc:=by
    rw[qC,<-hc];rfl
   have h6:=(hp.2 0 (by omega)).2 hst1;rw[hu0]at h6;have e8:(rs.drop st++[up run]).getD 0 []=tog (rs.drop st++[up run]):=(FH (yQ h5)).symm;rw[e8]at h6;exact h6.below h2
  .exact h5.n.mono (qI hBw hw1)
 have HCp:Hid (∀(ao:Option Addr) (cap:Nat) (w1:World),LisVU w1 (.slice ao (rs.take st).length cap) (rs.take st)->Calls qA 148 #[.slice ao (rs.take st).length cap] w1 fun e w'=>∃yo yc,e=.returned (.slice yo (rs.take st).length yc)/\Below w1.heap.size w1 w'/\Hid (LisO w' w1.heap.size (.slice yo (rs.take st).length yc) (rs.take st))):=fun ao cap w1 h=>FY ao cap _ w1 (by rw[qM];omega) (fun i hi=>by rw[qM]at hi;rw[Gg _ (by omega)];exact hlr i (by omega)) h;have HFl:Hid (∀k,k<rs.length->(rs.drop k).flatten.length=(rs.getD k []).length+(rs.drop (k+1)).flatten.length):=fun k h=>by rw[QD h,qF]
 have HTot:Hid (∀k,(rs.drop k).flatten.length<=rs.flatten.length):=fun k=>by
  have:(rs.take k).flatten.length+(rs.drop k).flatten.length=rs.flatten.length:=by rw[<-qF,<-vT,q9]
  omega
 have hB0:Below w.heap.size w w:=qD _ _;rw[hra];have hl1:(rs.take st).length=st:=by rw[qM];omega
 have hl2:(rs.take st++[tog (rs.drop st++[up run])]).length=st+1:=by rw[qF,hl1];rfl
 rw[hl2];rw[hl1]at HCp;rw[hm]at HS0 HU hf⊢;rw[hn]at HS0 H hl⊢;have HDl:Hid ((rs.drop n).flatten.length=0):=by show _=_;rw[<-hn,List.drop_length];rfl
 clear hR hU hn hm hst hstE hstl hlast hra hd hr hlr hl1 hl2 hfd;go_enter Tryz.func150,Tryz.ntmps150;go_wp2;go_loopw [5,6] (fun i s wr=>∃k:Nat,k<=n/\i=.int .i64 k/\s=.int .i64 ((m+(rs.drop k).flatten.length:Nat):Int)/\Hid (stay rs k (m+(rs.drop k).flatten.length)=st)/\wr=w) (fun i _ _=>(intOf i).toNat)
 case atStart=>exact⟨n,qB _,rfl,by rw[HDl.out];rfl,by rw[HDl.out];exact HS0,rfl⟩
 case round=>
  obtain⟨k,hk,rfl,rfl,HT,rfl⟩:=hrel;have hst24:(st+1)*24<=140737488355328:=by omega
  have hk2:m+(rs.drop k).flatten.length<=20000:=by have:=HTot.out k;omega
  rcases jE k with h0|h0
  .have hst0:0=st:=by have h:=HT.out;rw[h0]at h;exact h
   have hks:k=st:=by omega
   have i0:¬(0:Int)<(k:Int):=by omega
   have i0n:decide (0<k)=false:=decide_eq_false (by omega);have i0m:¬0<k:=by omega
   clear HT HS0 h0 hst0;generalize m+(rs.drop k).flatten.length=ms at *;subst hks;obtain⟨so1,sc1,hsl1,hV1⟩:=Ji H.out (k:=k) (by omega)
   obtain⟨so2,sc2,hsl2,hV2⟩:=Jh H.out (k:=k) (by omega);obtain⟨q1,hq1⟩:∃q1,n-k=q1:=⟨_,rfl⟩;have hdl:(rs.drop k).length=q1:=by rw[qN,HN.out,hq1]
   have HV2:Hid (∀w1,Below wr.heap.size wr w1->LisVU w1 (.slice so2 k sc2) (rs.take k)):=fun w1 h=>hV2.below h;rw[hq1]at hsl1 hV1;have HCo:Hid (Calls qA 142 #[.slice (some ⟨wr.heap.size+1,0,none⟩) 2 2] ((wr.alloc (.cells #[.slice uo m uc] 39)).alloc (.cells #[.slice so1 q1 sc1,.slice (some ⟨wr.heap.size,0,none⟩) 1 1] 38)) fun e w'=>∃g cap,e=.returned (.slice (some ⟨g,0,none⟩) (rs.drop k++[up run]).length cap)/\Below wr.heap.size wr w'/\Hid (∃us,w'.ownsRow wr.heap.size 39 1 (.slice (some ⟨g,0,none⟩) (rs.drop k++[up run]).length cap) us.length us/\BU (fun v l=>IntsVU w' v l/\(k=n->Aa w' B v l)) us (rs.drop k++[up run]))):=by
    have hbx:=Js wr (.slice uo m uc) (.slice so1 q1 sc1) 39 38;obtain⟨vs1,bo1,bc1,j1,j2,j3,j4,j5⟩:=id hV1;have hLu:Ca (fun v l=>IntsVU wr v l/\(k=n->Aa wr B v l)) ((wr.alloc (.cells #[.slice uo m uc] 39)).alloc (.cells #[.slice so1 q1 sc1,.slice (some ⟨wr.heap.size,0,none⟩) 1 1] 38)) (.slice (some ⟨wr.heap.size,0,none⟩) 1 1) [up run]:=⟨[.slice uo m uc],_,1,rfl,⟨by simp,fun h=>by simp at h⟩,rfl,fun i hi=>by simp at hi;subst hi;exact⟨HU.out.v,fun _=>HU.out⟩,fun _=>⟨wr.heap.size,0,rfl,hbx.2.1,fun i hi=>by simp at hi;subst hi;exact hbx.2.2.1⟩⟩;have hS2:Ca (fun v l=>IntsVU wr v l/\(k=n->Aa wr B v l)) ((wr.alloc (.cells #[.slice uo m uc] 39)).alloc (.cells #[.slice so1 q1 sc1,.slice (some ⟨wr.heap.size,0,none⟩) 1 1] 38)) (.slice so1 q1 sc1) (rs.drop k):=by
     refine⟨vs1,bo1,bc1,j1,j2,j3,fun i hi=>⟨j4 i hi,fun h=>by rw[qN,HN.out]at hi;omega⟩,fun hne=>?_⟩;obtain⟨b',off',e6,hlt',hat'⟩:=j5 hne;exact⟨b',off',e6,qE hlt' hbx.1.size,fun i hi=>(hbx.1.cell (p:=⟨b',off'+i,none⟩) hlt').trans (hat' i hi)⟩
    refine(IZ (fun v l=>IntsVU wr v l/\(k=n->Aa wr B v l)) (fun _ _ h=>h.1.shape) (wr.heap.size+1) _ _ (rs.drop k) [up run] _ _ (qD _ _) (by rw[hdl];omega) (by simp) (by simp) hS2 hLu hbx.2.2.2.1 hbx.2.2.2.2).mono fun e w' ⟨g,cap,h1,h2,h3⟩=>?_;have hww:=hbx.1.trans (h2.mono hbx.1.size);obtain⟨us,h4,h5⟩:=h3.out;exact⟨g,cap,by rw[qF];exact h1,hww,us,by rw[qF];exact A1 h4 hbx.1.size,h5.1,fun i hi=>⟨(h5.2 i hi).1.below hww,fun hk=>((h5.2 i hi).2 hk).below hww⟩⟩
   have hco:=HCo.out;clear hV1 hV2 hdl HCo;generalize(rs.drop k++[up run]).length=cn at *;generalize(tog (rs.drop k++[up run])).length=tn at *
   go_wp2_with fail
   clear hst2 hl hf hq1;go_wp2_with (first|(go_at_call 142;refine hco.mono ?_;rintro e w1 ⟨g1,ac1,rfl,hb1,hx1⟩;have hto:=HTo.out g1 ac1 w1 hb1.size hx1.out)|(go_at_call 141;refine hto.mono ?_;rintro e w2 ⟨ao2,ac2,rfl,hb2,hx2⟩;have hB2:=hb1.trans (hb2.mono hb1.size);have hcp:=HCp.out so2 sc2 w2 (HV2.out w2 hB2))|(go_at_call 148;refine hcp.mono ?_;rintro e w3 ⟨ao3,ac3,rfl,hb3,hx3⟩;have hB3:=hB2.trans (hb3.mono hB2.size))|(at_builtin;refine MZ (.slice ao2 tn ac2) (rs.take k) (tog (rs.drop k++[up run])) w2 rfl _ _ rfl w2.heap.size k ac3 ao3 rfl hx3.out B (qI hBw hB2.size) hx2.out (qB _) hb3 rfl hst24 hb3.size ?_;intro vo4 cap4 w4 hl4 hb4;have HL4:Hid (BZ w4 B (.slice vo4 (k+1) cap4) (rs.take k++[tog (rs.drop k++[up run])])):=hl4;have hB4:=hB3.trans (hb4.mono hB2.size);clear hl4))
   go_ret;exact⟨vo4,cap4,rfl,hB4,HL4⟩
  .obtain ⟨j,hj⟩:∃j,j+1=k:=⟨k-1,by omega⟩;have hjr:j<rs.length:=by rw[HN.out];omega
   obtain⟨b,off,rfl,hb,u,c1,hu⟩:=H.out.at hjr;obtain⟨vo,vc,rfl⟩:=hu.shape;have hfl:=HFl.out j hjr;have hjl:=HLr.out j hjr;have HStp:Hid (stay rs k (m+(rs.drop k).flatten.length)=if(rs.getD j []).length<=m+(rs.drop k).flatten.length then stay rs j (m+(rs.drop k).flatten.length+(rs.getD j []).length)else k):=by show _=_;rw[<-hj];rfl
   rw[hj]at hfl;have HNx:Hid ((rs.getD j []).length<=m+(rs.drop k).flatten.length->stay rs j (m+(rs.drop j).flatten.length)=st):=fun h=>by
    have h2:=HStp.out;rw[HT.out,if_pos h]at h2;rw[hfl,h2];congr 1
    omega
   have HEx:Hid (¬(rs.getD j []).length<=m+(rs.drop k).flatten.length->k=st):=fun h=>by
    have h2:=HStp.out;rw[HT.out,if_neg h]at h2;exact h2.symm
   have HSm:Hid (m+(rs.drop j).flatten.length=m+(rs.drop k).flatten.length+(rs.getD j []).length):=by show _=_;omega
   have i0:(0:Int)<(k:Int):=by omega
   have i0n:decide (0<k)=true:=decide_eq_true h0;have i2:(j:Int)<(n:Int):=by omega
   have i4:(k:Int)-1=(j:Int):=by omega
   have i5:IntKind.i64.wrap ((k:Int)-1)=(j:Int):=by rw[i4,IntWalk.i64_left];exact IntWalk.wrap64_in _ (by omega)
   have i6:wrap64 ((k:Int)-1)=(j:Int):=by rw[i4];exact IntWalk.wrap64_in _ (by omega)
   have hjn:j<=n:=by omega
   have hjk:j<k:=by omega
   clear HStp hfl hu hjr HT HFl HLr hj i4;generalize hcc:(rs.getD j []).length=c at *;clear hcc;obtain⟨ms,hms⟩:∃ms,m+(rs.drop k).flatten.length=ms:=⟨_,rfl⟩
   rw[hms]at HNx HEx HSm hk2⊢;clear hms;by_cases hcm:c<=ms
   .have hnx:=HNx.out hcm;have HNx2:Hid (stay rs j (m+(rs.drop j).flatten.length)=st):=hnx;have hcmi:(c:Int)<=(ms:Int):=by omega
    clear hnx HNx HEx;go_wp2;refine⟨⟨j,hjn,rfl,by rw[HSm.out];simp,HNx2,by trivial⟩,by simp[intOf];exact hjk⟩
   .have hks:=HEx.out hcm;have hcmi:¬(c:Int)<=(ms:Int):=by omega
    clear HNx HEx HSm HS0;subst hks;obtain⟨so1,sc1,hsl1,hV1⟩:=Ji H.out (k:=k) (by omega);obtain⟨so2,sc2,hsl2,hV2⟩:=Jh H.out (k:=k) (by omega);obtain⟨q1,hq1⟩:∃q1,n-k=q1:=⟨_,rfl⟩;have hdl:(rs.drop k).length=q1:=by rw[qN,HN.out,hq1]
    have HV2:Hid (∀w1,Below wr.heap.size wr w1->LisVU w1 (.slice so2 k sc2) (rs.take k)):=fun w1 h=>hV2.below h;rw[hq1]at hsl1 hV1;have HCo:Hid (Calls qA 142 #[.slice (some ⟨wr.heap.size+1,0,none⟩) 2 2] ((wr.alloc (.cells #[.slice uo m uc] 39)).alloc (.cells #[.slice so1 q1 sc1,.slice (some ⟨wr.heap.size,0,none⟩) 1 1] 38)) fun e w'=>∃g cap,e=.returned (.slice (some ⟨g,0,none⟩) (rs.drop k++[up run]).length cap)/\Below wr.heap.size wr w'/\Hid (∃us,w'.ownsRow wr.heap.size 39 1 (.slice (some ⟨g,0,none⟩) (rs.drop k++[up run]).length cap) us.length us/\BU (fun v l=>IntsVU w' v l/\(k=n->Aa w' B v l)) us (rs.drop k++[up run]))):=by
     have hbx:=Js wr (.slice uo m uc) (.slice so1 q1 sc1) 39 38;obtain⟨vs1,bo1,bc1,j1,j2,j3,j4,j5⟩:=id hV1;have hLu:Ca (fun v l=>IntsVU wr v l/\(k=n->Aa wr B v l)) ((wr.alloc (.cells #[.slice uo m uc] 39)).alloc (.cells #[.slice so1 q1 sc1,.slice (some ⟨wr.heap.size,0,none⟩) 1 1] 38)) (.slice (some ⟨wr.heap.size,0,none⟩) 1 1) [up run]:=⟨[.slice uo m uc],_,1,rfl,⟨by simp,fun h=>by simp at h⟩,rfl,fun i hi=>by simp at hi;subst hi;exact⟨HU.out.v,fun _=>HU.out⟩,fun _=>⟨wr.heap.size,0,rfl,hbx.2.1,fun i hi=>by simp at hi;subst hi;exact hbx.2.2.1⟩⟩;have hS2:Ca (fun v l=>IntsVU wr v l/\(k=n->Aa wr B v l)) ((wr.alloc (.cells #[.slice uo m uc] 39)).alloc (.cells #[.slice so1 q1 sc1,.slice (some ⟨wr.heap.size,0,none⟩) 1 1] 38)) (.slice so1 q1 sc1) (rs.drop k):=by
      refine⟨vs1,bo1,bc1,j1,j2,j3,fun i hi=>⟨j4 i hi,fun h=>by rw[qN,HN.out]at hi;omega⟩,fun hne=>?_⟩;obtain⟨b',off',e6,hlt',hat'⟩:=j5 hne;exact⟨b',off',e6,qE hlt' hbx.1.size,fun i hi=>(hbx.1.cell (p:=⟨b',off'+i,none⟩) hlt').trans (hat' i hi)⟩
     refine(IZ (fun v l=>IntsVU wr v l/\(k=n->Aa wr B v l)) (fun _ _ h=>h.1.shape) (wr.heap.size+1) _ _ (rs.drop k) [up run] _ _ (qD _ _) (by rw[hdl];omega) (by simp) (by simp) hS2 hLu hbx.2.2.2.1 hbx.2.2.2.2).mono fun e w' ⟨g,cap,h1,h2,h3⟩=>?_;have hww:=hbx.1.trans (h2.mono hbx.1.size);obtain⟨us,h4,h5⟩:=h3.out;exact⟨g,cap,by rw[qF];exact h1,hww,us,by rw[qF];exact A1 h4 hbx.1.size,h5.1,fun i hi=>⟨(h5.2 i hi).1.below hww,fun hk=>((h5.2 i hi).2 hk).below hww⟩⟩
    have hco:=HCo.out;clear hV1 hV2 hdl HCo;generalize(rs.drop k++[up run]).length=cn at *;generalize(tog (rs.drop k++[up run])).length=tn at *
    go_wp2_with fail
    clear hst2 hl hf hq1;go_wp2_with (first|(go_at_call 142;refine hco.mono ?_;rintro e w1 ⟨g1,ac1,rfl,hb1,hx1⟩;have hto:=HTo.out g1 ac1 w1 hb1.size hx1.out)|(go_at_call 141;refine hto.mono ?_;rintro e w2 ⟨ao2,ac2,rfl,hb2,hx2⟩;have hB2:=hb1.trans (hb2.mono hb1.size);have hcp:=HCp.out so2 sc2 w2 (HV2.out w2 hB2))|(go_at_call 148;refine hcp.mono ?_;rintro e w3 ⟨ao3,ac3,rfl,hb3,hx3⟩;have hB3:=hB2.trans (hb3.mono hB2.size))|(at_builtin;refine MZ (.slice ao2 tn ac2) (rs.take k) (tog (rs.drop k++[up run])) w2 rfl _ _ rfl w2.heap.size k ac3 ao3 rfl hx3.out B (qI hBw hB2.size) hx2.out (qB _) hb3 rfl hst24 hb3.size ?_;intro vo4 cap4 w4 hl4 hb4;have HL4:Hid (BZ w4 B (.slice vo4 (k+1) cap4) (rs.take k++[tog (rs.drop k++[up run])])):=hl4;have hB4:=hB3.trans (hb4.mono hB2.size);clear hl4))
    go_ret;exact⟨vo4,cap4,rfl,hB4,HL4⟩
