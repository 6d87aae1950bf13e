/- Joined texts. -/
import Derived.Test.YtehfhemidmfffaaGreatDoorTopA
open Go renaming World→U,Value→J,Calls→I
open Go.Ending renaming returned→V
open Go.IntKind renaming i64→L
open Go.Obj renaming cells→O
open Go.RowKit renaming Below→X,Hid→T
open Go.Value renaming slice→Z,bool→A,agg→t,tuple→ZY,pointer→ZZ,int→M
open _root_.Bool renaming false→F
open _root_.Option renaming none→Y,some→S
namespace Go.Proofs.YtehfhemidmfffaaGreatDoor
open _root_.Array renaming getElem?_eq_some_iff→qG
open Go.RowKit.Below renaming refl→qD
open _root_.Bool renaming eq_iff_iff→jS,or_eq_true→jI
open _root_.Int renaming le_refl→xT
open _root_.List renaming any_append→zD,any_eq_true→vD,append_assoc→q9,append_nil→vT,drop_eq_nil_of_le→v8,flatten_append→vX,flatten_cons→zV,getD_eq_getElem?_getD→qC,getElem?_eq_getElem→qH,getElem?_eq_some_iff→vQ,length_append→qF,length_cons→qY,length_drop→qO,length_eq_zero_iff→jH,length_nil→vG,length_pos_iff→vO,length_take→qP,mem_append→qL,mem_cons→qW,mem_of_mem_drop→zE,mem_of_mem_take→jD,nodup_append→vZ,nodup_cons→kN,pairwise_cons→vN,rel_of_pairwise_cons→jA,take_append_drop→vC,take_length→vI,take_of_length_le→qN
open _root_.Nat renaming eq_zero_or_pos→jG,le_of_eq→yZ,le_refl→qB,le_trans→qI,lt_of_lt_of_le→qE,lt_or_ge→vP,zero_le→qJ
open Go.Proofs.Tryz renaming prog→qA
open Go.Proofs.Tryz renaming func129→iw,func157→iy,func159→iz,func164→iA,func165→iB,func177→iC,func178→iD,func179→iE,func183→iF,func194→iG,func195→iH,func97→iI,ntmps129→iJ,ntmps157→iK,ntmps159→iL,ntmps164→iM,ntmps165→iN,ntmps177→iO,ntmps178→iP,ntmps179→iQ,ntmps183→iR,ntmps194→iS,ntmps195→iT,ntmps97→iU,underlying42→iV,underlying43→aD
open IntWalk renaming wrap64_in→gH
open World renaming grownBy→bS,ownsRow_made→iq,ownsRow_nil→aX,ownsRow→fk
set_option maxHeartbeats 6400000
set_option maxRecDepth 20000
def up(l:List Int):List Int:=l.mergeSort leB
theorem FR(l:List Int):(up l).Pairwise (· <= ·):=by
 have h:(l.mergeSort leB).Pairwise (fun x y=>leB x y=true):=List.pairwise_mergeSort (le:=leB) (by intro a b c;simp only[leB,decide_eq_true_eq];omega) (by intro a b;simp only[leB,jI,decide_eq_true_eq];omega) l;exact h.imp fun{a b} h=>by simpa[leB]using h
theorem DT(l:List Int):(up l).Perm l:=List.mergeSort_perm l leB
theorem F6(l:List Int):(up l).length=l.length:=(DT l).length_eq
theorem Ni:∀{a b:List Int},a.Pairwise (· <= ·)->b.Pairwise (· <= ·)->a.Perm b->a=b
 |[],b,_,_,hp=>hp.nil_eq
 |x::a,[],_,_,hp=>by have:=hp.length_eq;simp at this
 |x::a,y::b,ha,hb,hp=>by
  have h1:x∈y::b:=hp.mem_iff.1 (by simp);have h2:y∈x::a:=hp.mem_iff.2 (by simp);obtain rfl:x=y:=by
   rcases qW.1 h1 with h1|h1
   .exact h1
   .rcases qW.1 h2 with h2|h2
    .exact h2.symm
    .have:=jA hb h1;have:=jA ha h2;omega
  rw[Ni (vN.1 ha).2 (vN.1 hb).2 ((List.perm_cons x).1 hp)]
theorem N3{a l:List Int}(h:a.Pairwise (· <= ·))(hp:a.Perm l):a=up l:=Ni h (FR l) (hp.trans (DT l).symm)
theorem Js{l:List Int}(h:l.Pairwise (· < ·)):l.Pairwise (· <= ·):=h.imp fun{a b} h=>by omega
theorem Uc{l:List Int}(h:l.Pairwise (· < ·)):l.Nodup:=h.imp fun{a b} h=>by omega
theorem Hn:∀{l:List Int},l.Pairwise (· <= ·)->l.Nodup->l.Pairwise (· < ·)
 |[],_,_=>List.Pairwise.nil
 |x::l,h,hn=>by
  refine vN.2 ⟨fun y hy=>?_,Hn (vN.1 h).2 (kN.1 hn).2⟩;have h1:=jA h hy;have h2:x≠y:=fun e=>(kN.1 hn).1 (e▸hy);omega
def mg:List Int->List Int->List Int
 |[],b=>b
 |x::a,[]=>x::a
 |x::a,y::b=>if x<y then x::mg a (y::b)else y::mg (x::a) b
termination_by a b=>a.length+b.length
theorem Sp(a:List Int):mg a []=a:=by cases a<;>simp[mg]
theorem Sq(b:List Int):mg [] b=b:=by simp[mg]
theorem Fu:∀(a b:List Int),(mg a b).Perm (a++b)
 |[],b=>by simp[mg]
 |x::a,[]=>by simp[mg]
 |x::a,y::b=>by
  rw[mg];split
  .exact (Fu a (y::b)).cons x
  .exact ((Fu (x::a) b).cons y).trans List.perm_middle.symm
termination_by a b=>a.length+b.length
theorem JI:∀(a b:List Int),a.Sublist (mg a b)
 |[],b=>by simp
 |x::a,[]=>by simp[mg]
 |x::a,y::b=>by
  rw[mg];split
  .exact (JI a (y::b)).cons_cons x
  .exact (JI (x::a) b).cons y
termination_by a b=>a.length+b.length
theorem JJ:∀(a b:List Int),b.Sublist (mg a b)
 |[],b=>by simp[mg]
 |x::a,[]=>by simp
 |x::a,y::b=>by
  rw[mg];split
  .exact (JJ a (y::b)).cons x
  .exact (JJ (x::a) b).cons_cons y
termination_by a b=>a.length+b.length
theorem JK:∀(a b:List Int),a.Pairwise (· < ·)->b.Pairwise (· < ·)->(∀x∈a,x∉b)->(mg a b).Pairwise (· < ·)
 |[],b,_,hb,_=>by simpa[mg]using hb
 |x::a,[],ha,_,_=>by simpa[mg]using ha
 |x::a,y::b,ha,hb,hd=>by
  rw[mg];split
  .rename_i hxy;refine vN.2 ⟨fun z hz=>?_,JK a (y::b) (vN.1 ha).2 hb fun z hz=>hd z (by simp[hz])⟩;rcases qL.1 ((Fu a (y::b)).mem_iff.1 hz)with h|h
   .exact jA ha h
   .rcases qW.1 h with rfl|h
    .exact hxy
    .have:=jA hb h;omega
  .rename_i hxy;have hne:x≠y:=fun e=>hd x (by simp) (by simp[e]);refine vN.2 ⟨fun z hz=>?_,JK (x::a) b ha (vN.1 hb).2 fun z hz hb=>hd z hz (by simp[hb])⟩;rcases qL.1 ((Fu (x::a) b).mem_iff.1 hz)with h|h
   .rcases qW.1 h with rfl|h
    .omega
    .have:=jA ha h;omega
   .exact jA hb h
termination_by a b=>a.length+b.length
theorem Iz{α:Type}{l:List α}{i:Nat}(h:i<l.length)(d:α):l.getD i d=l[i]:=by simp[qC,h]
theorem Dc{α:Type}{l:List α}{i:Nat}(h:i<l.length)(d:α):l.getD i d∈l:=by rw[Iz h];exact List.getElem_mem h
theorem E6{α:Type}{l:List α}{i:Nat}(h:i<l.length)(d:α):l.drop i=l.getD i d::l.drop (i+1):=by rw[Iz h,List.drop_eq_getElem_cons h]
theorem F3{α:Type}{l:List α}{i:Nat}(h:i<l.length)(d:α):l.take (i+1)=l.take i++[l.getD i d]:=by
 rw[List.take_add_one];simp[qC,h]
theorem Ss{a b al:List Int}{i j:Nat}(hi:i<a.length)(hj:j<b.length)(h:al++mg (a.drop i) (b.drop j)=mg a b) :
  (a.getD i 0<b.getD j 0->(al++[a.getD i 0])++mg (a.drop (i+1)) (b.drop j)=mg a b)/\(¬a.getD i 0<b.getD j 0->(al++[b.getD j 0])++mg (a.drop i) (b.drop (j+1))=mg a b):=by
 rw[E6 hi 0,E6 hj 0,mg]at h;constructor
 .intro hl;rw[aj hl,<-E6 hj 0]at h;rw[<-h];simp
 .intro hl;rw[ak hl,<-E6 hi 0]at h;rw[<-h];simp
def tog(ls:List (List Int)):List Int:=
 if h:ls.length<=1 then ls.getD 0 []else mg (tog (ls.take (ls.length / 2))) (tog (ls.drop (ls.length / 2)))
termination_by ls.length
decreasing_by all_goals simp;omega
theorem FO{ls:List (List Int)}(h:ls.length<=1):tog ls=ls.getD 0 []:=by rw[tog,dif_pos h]
theorem H7{ls:List (List Int)}(h:¬ls.length<=1):tog ls=mg (tog (ls.take (ls.length / 2))) (tog (ls.drop (ls.length / 2))):=by rw[tog,dif_neg h]
theorem G4{ls:List (List Int)}(h:ls.length<=1):ls=[]\/∃l,ls=[l]:=by
 match ls,h with
 |[],_=>exact .inl rfl
 |[l],_=>exact .inr ⟨l,rfl⟩
theorem FQ:∀(n:Nat) (ls:List (List Int)),ls.length<=n->(tog ls).Perm ls.flatten
 |n,ls,hn=>by
  by_cases h:ls.length<=1
  .rw[FO h];rcases G4 h with rfl|⟨l,rfl⟩<;>simp
  .match n,hn with
   |0,hn=>omega
   |n+1,hn=>
    rw[H7 h];refine(Fu _ _).trans (((FQ n (ls.take (ls.length / 2)) (by simp;omega)).append (FQ n (ls.drop (ls.length / 2)) (by simp;omega))).trans ?_);rw[<-vX,vC]
theorem J9:∀(n:Nat) (ls:List (List Int)),ls.length<=n->∀l∈ls,l.Sublist (tog ls)
 |n,ls,hn,l,hl=>by
  by_cases h:ls.length<=1
  .rw[FO h];rcases G4 h with rfl|⟨l',rfl⟩
   .simp at hl
   .simp at hl;subst hl;simp
  .match n,hn with
   |0,hn=>omega
   |n+1,hn=>
    rw[H7 h];rw[<-vC (ls.length / 2) ls]at hl;rcases qL.1 hl with hl|hl
    .exact (J9 n _ (by simp;omega) l hl).trans (JI _ _)
    .exact (J9 n _ (by simp;omega) l hl).trans (JJ _ _)
theorem Hz:∀(n:Nat) (ls:List (List Int)),ls.length<=n->(∀l∈ls,l.Pairwise (· < ·))->ls.flatten.Nodup->(tog ls).Pairwise (· < ·)
 |n,ls,hn,hr,hd=>by
  by_cases h:ls.length<=1
  .rw[FO h];rcases G4 h with rfl|⟨l',rfl⟩
   .exact List.Pairwise.nil
   .exact hr l' (by simp)
  .match n,hn with
   |0,hn=>omega
   |n+1,hn=>
    rw[H7 h];have hd2:((ls.take (ls.length / 2)).flatten++(ls.drop (ls.length / 2)).flatten).Nodup:=by rw[<-vX,vC];exact hd
    obtain⟨d1,d2,d3⟩:=vZ.1 hd2;refine JK _ _ (Hz n _ (by simp;omega) (fun l hl=>hr l (jD hl)) d1) (Hz n _ (by simp;omega) (fun l hl=>hr l (zE hl)) d2) fun x hx hy=>?_;exact d3 x ((FQ _ _ (qB _)).mem_iff.1 hx) x ((FQ _ _ (qB _)).mem_iff.1 hy) rfl
def AR(lo:List Int)(rs:List (List Int)):List Int:=rs.flatten++lo
structure SizeOk(lo:List Int)(rs:List (List Int)):Prop where
 loose:lo.length<8
 full:∀r∈rs,r≠[]
 many:lo.length+rs.flatten.length<=20000
structure May(lo:List Int)(rs:List (List Int)):Prop where
 size:SizeOk lo rs
 rise:∀r∈rs,r.Pairwise (· < ·)
 range:∀x∈AR lo rs,0<=x/\x<=2147483647
 nodup:(AR lo rs).Nodup
theorem LQ:∀{rs:List (List Int)},(∀r∈rs,r≠[])->rs.length<=rs.flatten.length
 |[],_=>by simp
 |r::rs,h=>by
  have:=LQ (rs:=rs) fun r hr=>h r (by simp[hr]);have h2:r≠[]:=h r (by simp);have:=vO.2 h2;simp only[zV,qF,qY];omega
theorem SizeOk.runs{lo:List Int}{rs:List (List Int)}(h:SizeOk lo rs):rs.length<=20000:=by have:=LQ h.full;have:=h.many;omega
theorem El{rs:List (List Int)}{r:List Int}(h:r∈rs):r.length<=rs.flatten.length:=by
 induction rs with
 |nil=>simp at h
 |cons a rs ih=>
  simp only[zV,qF];rcases qW.1 h with rfl|h
  .omega
  .have:=ih h;omega
def nrB:Int->List Int->Bool
 |_,[]=>F
 |a,k::l=>(decide (k<=a)||decide (2147483647<k))||nrB k l
theorem JR:∀(l:List Int) (a:Int),nrB a l=F↔(l.Pairwise (· < ·)/\∀x∈l,a<x/\x<=2147483647)
 |[],a=>by simp[nrB]
 |k::l,a=>by
  simp only[nrB,Bool.or_eq_false_iff,decide_eq_false_iff_not,JR l k,vN,qW];constructor
  .rintro ⟨⟨h1,h2⟩,h3,h4⟩;refine⟨⟨fun x hx=>(h4 x hx).1,h3⟩,fun x hx=>?_⟩;rcases hx with rfl|hx
   .omega
   .have:=h4 x hx;omega
  .rintro ⟨⟨h1,h2⟩,h3⟩;exact⟨by have:=h3 k (.inl rfl);omega,h2,fun x hx=>⟨h1 x hx,(h3 x (.inr hx)).2⟩⟩
theorem Ee(rs:List (List Int))(l:List Int):(rs++[l]).flatten=rs.flatten++l:=by simp
theorem F5(lo:List Int)(rs:List (List Int)):(tog (rs++[up lo])).Perm (AR lo rs):=by
 refine(FQ _ _ (qB _)).trans ?_;rw[Ee];exact(List.Perm.refl _).append (DT lo)
theorem JF{lo:List Int}{rs:List (List Int)}(hs:SizeOk lo rs):nrB (-1) (tog (rs++[up lo]))=F↔May lo rs:=by
 rw[JR];constructor
 .rintro ⟨h1,h2⟩;refine⟨hs,fun r hr=>?_,fun x hx=>?_,?_⟩
  .exact h1.sublist (J9 _ _ (qB _) r (by simp[hr]))
  .have:=h2 x ((F5 lo rs).mem_iff.2 hx);omega
  .exact (F5 lo rs).nodup_iff.1 (Uc h1)
 .intro h;have hlo:(up lo).Nodup:=(DT lo).nodup_iff.2 (vZ.1 h.nodup).2.1;refine⟨Hz _ _ (qB _) (fun l hl=>?_) ?_,fun x hx=>?_⟩
  .rcases qL.1 hl with hl|hl
   .exact h.rise l hl
   .simp at hl;subst hl;exact Hn (FR lo) hlo
  .rw[Ee];exact((List.Perm.refl _).append (DT lo)).nodup_iff.2 h.nodup
  .have:=h.range x ((F5 lo rs).mem_iff.1 hx);omega
theorem WK{lo:List Int}{rs:List (List Int)}(h:May lo rs):tog (rs++[up lo])=up (AR lo rs):=
 N3 (Js ((JR _ _).1 ((JF h.size).2 h)).1) (F5 lo rs)
open Classical in
noncomputable def sC(lo:List Int)(rs:List (List Int)):Int:=if May lo rs then 0 else 9
theorem F1{lo:List Int}{rs:List (List Int)}(h:May lo rs):sC lo rs=0:=by unfold sC;rw[aj h]
theorem Ho{lo:List Int}{rs:List (List Int)}(h:¬May lo rs):sC lo rs=9:=by unfold sC;rw[ak h]
def stay(rs:List (List Int)):Nat->Nat->Nat
 |0,_=>0
 |k+1,m=>if(rs.getD k []).length<=m then stay rs k (m+(rs.getD k []).length)else k+1
theorem Nk(rs:List (List Int)):∀(k m:Nat),stay rs k m<=k
 |0,_=>qB _
 |k+1,m=>by
  rw[stay];split
  .have:=Nk rs k (m+(rs.getD k []).length);omega
  .exact qB _
def FL(rs:List (List Int))(m:Nat):Nat:=stay rs rs.length m
def Cm(rs:List (List Int))(run:List Int):List (List Int):=rs.take (FL rs run.length)++[up ((rs.drop (FL rs run.length)).flatten++run)]
def DE(lo:List Int)(rs:List (List Int))(n:Int):List Int×List (List Int):=if lo.length+1<8 then(lo++[n],rs)else([],Cm rs (lo++[n]))
theorem Qi{rs:List (List Int)}{k:Nat}(h:k<rs.length):(rs.drop k).flatten=rs.getD k []++(rs.drop (k+1)).flatten:=by rw[E6 h [],zV]
theorem WJ{rs:List (List Int)}{run:List Int}(hr:∀r∈rs,r.Pairwise (· < ·))(hd:(rs.flatten++run).Nodup)(k:Nat):tog (rs.drop k++[up run])=up ((rs.drop k).flatten++run):=by
 have hdr:((rs.drop k).flatten++run).Nodup:=by
  have e:rs.flatten=(rs.take k).flatten++(rs.drop k).flatten:=by rw[<-vX,vC]
  rw[e,q9]at hd;exact(vZ.1 hd).2.1
 refine N3 (Js (Hz _ _ (qB _) (fun l hl=>?_) ?_)) (F5 run (rs.drop k))
 .rcases qL.1 hl with hl|hl
  .exact hr l (zE hl)
  .simp at hl;subst hl;exact Hn (FR run) ((DT run).nodup_iff.2 (vZ.1 hdr).2.1)
 .rw[Ee];exact((List.Perm.refl _).append (DT run)).nodup_iff.2 hdr
theorem Uu(rs:List (List Int))(run:List Int):(Cm rs run).flatten.Perm (rs.flatten++run):=by
 unfold Cm;rw[Ee];refine((List.Perm.refl _).append (DT _)).trans ?_;rw[<-q9,<-vX,vC]
theorem Ke(lo:List Int)(rs:List (List Int))(n:Int):(AR (DE lo rs n).1 (DE lo rs n).2).Perm (AR lo rs++[n]):=by
 unfold DE AR;split
 .simp
 .have:=Uu rs (lo++[n]);simpa using this
theorem May.add{lo:List Int}{rs:List (List Int)}{n:Int}(h:May lo rs)(h0:0<=n)(h1:n<=2147483647)(hn:n∉AR lo rs)(hm:lo.length+rs.flatten.length<20000):May (DE lo rs n).1 (DE lo rs n).2:=by
 have hp:=Ke lo rs n;have hnd:(AR lo rs++[n]).Nodup:=by
  rw[vZ];exact⟨h.nodup,by simp,fun a ha b hb e=>by simp at hb;subst hb;subst e;exact hn ha⟩
 refine⟨⟨?_,?_,?_⟩,?_,fun x hx=>?_,hp.nodup_iff.2 hnd⟩
 .unfold DE;split
  .simp;omega
  .simp
 .unfold DE;split
  .exact h.size.full
  .intro r hr;rcases qL.1 hr with hr|hr
   .exact h.size.full r (jD hr)
   .simp at hr;subst hr;intro e;have h2:=congrArg List.length e;rw[F6,qF,qF,vG]at h2;simp at h2
 .have:=hp.length_eq;simp only[AR,qF,qY,vG]at this;omega
 .unfold DE;split
  .exact h.rise
  .intro r hr;rcases qL.1 hr with hr|hr
   .exact h.rise r (jD hr)
   .simp at hr;subst hr;refine Hn (FR _) ((DT _).nodup_iff.2 ?_);have e:rs.flatten=(rs.take (FL rs (lo.length+1))).flatten++(rs.drop (FL rs (lo.length+1))).flatten:=by rw[<-vX,vC]
    unfold AR at hnd;rw[e,q9,q9]at hnd;exact(vZ.1 hnd).2.1
 .have:=hp.mem_iff.1 hx;rcases qL.1 this with h2|h2
  .exact h.range x h2
  .simp at h2;omega
open Go.ChangeShapes Go.WideShapes Go.ChangeAt Go.RowKit Go.Deep Go.Joins
theorem choose_lt{α:Type}[Inhabited α]{n:Nat}{p:Nat->α->Prop}(h:∀i,i<n->∃x,p i x):∃f:Nat->α,∀i,i<n->p i (f i):=by
 classical
 exact⟨fun i=>if hi:i<n then(h i hi).choose else default,fun i hi=>by simp only[hi,dif_pos];exact(h i hi).choose_spec⟩
structure StSzU(lo:List Int)(rs:List (List Int)):Prop where
 loose:lo.length*8<=140737488355328
 runs:rs.length*24<=140737488355328
 each:∀i,i<rs.length->(rs.getD i []).length*8<=140737488355328
section
variable{H:Type}{enc:TypeId×J -> H}{W:U}
end
theorem E5(v:J)(l:List Int)(w:U)(hl:l.length*8<=140737488355328)(hV:IntsVU w v l) :
  I qA 165 #[v] w fun e w'=>∃ao cap,e=V (Z ao l.length cap)/\X w.heap.size w w'/\T (w'.ownsRow w.heap.size 3 1 (Z ao l.length cap) l.length (AB l)):=by
 have hV':=hV;obtain⟨ao,cap,rfl,⟨_,h0⟩,h⟩:=hV;obtain⟨i0,hi,hz0,hz1,hz2⟩:=info_parts BS;cases ao with
 |none=>
  obtain⟨rfl,rfl⟩:=h0 rfl;simp only[vG];clear hV' h;go_enter iB,iN;go_wp2_with (at_builtin;refine wpList_append_own_none rfl _ _ 43 rfl w.heap.size 3 i0 1 aD hi _ _ _ rfl (aX _ _ _ _) rfl ?_)
  go_ret;exact⟨Y,0,rfl,qD _ _,aX _ _ _ _⟩
 |some a=>
  have hcells:=hV'.cells;clear h h0 hV';go_enter iB,iN;go_wp2_with (at_builtin;refine wpList_append_own _ rfl _ _ 43 rfl w.heap.size 3 i0 (M L 0) 1 8 aD hi hz0 hz1 hz2 rfl (by decide) _ _ _ rfl (aX _ _ _ _) a l.length cap (AB l) rfl ?c0 hcells (Lp l) ?c3 ?c4 ?c5 ?_)
  case c0=>simp[AB]
  case c3=>unfold maxLen;omega
  case c4=>omega
  case c5=>exact qB _
  intro v' w4 hown' hgrow _;have hb:X w.heap.size w w4:=(qD _ _).grown hgrow (qB _) (fun q hq=>by simp[Value.ownBlock]at hq);obtain⟨a4,c4,rfl⟩:=Au hown';have HO:T (w4.ownsRow w.heap.size 3 1 (Z a4 l.length c4) l.length (AB l)):=hown';clear hgrow hcells hown';go_wp2;go_ret;exact⟨a4,c4,rfl,hb,HO⟩
open Go.ChangeShapes Go.WideShapes Go.ChangeAt Go.RowKit Go.Deep
def AZ(w:U)(base:Nat)(v:J)(l:List Int):Prop:=w.ownsRow base 3 1 v l.length (AB l)
theorem AZ.v{w:U}{base:Nat}{v:J}{l:List Int}(h:AZ w base v l):IntsVU w v l:=I4 h
theorem AZ.snoc{w:U}{base:Nat}{v:J}{l:List Int}{x:Int}(h:w.ownsRow base 3 1 v (l.length+1) (AB l++[M L x])):AZ w base v (l++[x]):=by
 unfold AZ;rw[qF,Fp];exact h
theorem AZ.mono{w:U}{base base':Nat}{v:J}{l:List Int}(h:AZ w base v l)(hb:base'<=base):AZ w base' v l:=Az h hb
theorem AZ.later{w w':U}{base B:Nat}{v:J}{l:List Int}(h:AZ w base v l)(hb:X B w w')(hB:w.heap.size<=B):AZ w' base v l:=Ap h hb hB
theorem LisVU.len{w:U}{ao:Option Addr}{n cap:Nat}{l:List (List Int)}(h:LisVU w (Z ao n cap) l):l.length=n:=by
 obtain⟨_,_,_,h,_⟩:=h;injection h with _ h _;exact h.symm
theorem LC:qA.elem 43=3:=by kernel_rfl
theorem GT:qA.elem 42=43:=by kernel_rfl
theorem Hr{w:U}{ao:Option Addr}{n cap k:Nat}{l:List Int}(hV:IntsVU w (Z ao n cap) l)(hk:k<=n):∃so sc,(∀w1,(Instr.slice 43 (Z ao n cap) (S (M L (k:Int))) Y Y).run qA w1=.ok (Z so (n-k) sc) w1)/\IntsVU w (Z so (n-k) sc) (l.drop k):=by
 obtain⟨i0,hi,hz0,hz1,hz2⟩:=info_parts BS;refine⟨if cap=k then ao else ao.map (·.add k),cap-k,fun w1=>?_,?_⟩
 .rw[run_slice_l w1 43 ao n cap (by rw[LC];exact aD) .i64 (k:Int) (by omega) (by omega),LC];simp[sizeOf,typeInfo,hi,hz1,sliced,Result.andThen]
 .obtain ⟨ao',cap',e,⟨h1,h2⟩,h3⟩:=hV;injection e with e1 e2 e3;subst e1 e3;refine⟨_,cap-k,by rw[qO,e2],⟨by simp;omega,fun h=>?_⟩,fun hne=>?_⟩
  .by_cases hc:cap=k
   .rw[aj hc]at h;obtain⟨h4,h5⟩:=h2 h;exact⟨by omega,by rw[h5];simp⟩
   .rw[ak hc]at h;obtain⟨h4,h5⟩:=h2 (by simpa using h);exact⟨by omega,by rw[h5];simp⟩
  .have hlt:k<l.length:=by
    rcases vP k l.length with h|h
    .exact h
    .exact absurd (v8 h) hne
   obtain⟨b,off,rfl,hb,hat⟩:=h3 (by rintro rfl;simp at hlt);refine⟨b,off+k,?_,hb,fun i hi=>?_⟩
   .rw[ak (by omega)];simp[add_plain]
   .rw[qO]at hi;rw[show off+k+i=off+(k+i) by omega,hat (k+i) (by omega)];simp[qC]
theorem Iy{α:Type}(l:List α)(k i:Nat)(d:α):(l.drop k).getD i d=l.getD (k+i) d:=by simp[qC]
theorem Gm{α:Type}{l:List α}{k i:Nat}(d:α)(h:i<k):(l.take k).getD i d=l.getD i d:=by simp[qC,h]
theorem J3{w:U}{ao:Option Addr}{n cap k:Nat}{rs:List (List Int)}(hV:LisVU w (Z ao n cap) rs)(hk:k<=n):∃so sc,(∀w1,(Instr.slice 42 (Z ao n cap) (S (M L (k:Int))) Y Y).run qA w1=.ok (Z so (n-k) sc) w1)/\LisVU w (Z so (n-k) sc) (rs.drop k):=by
 obtain⟨i0,hi,hz0,hz1,hz2⟩:=info_parts D7;refine⟨if cap=k then ao else ao.map (·.add k),cap-k,fun w1=>?_,?_⟩
 .rw[run_slice_l w1 42 ao n cap (by rw[GT];exact iV) .i64 (k:Int) (by omega) (by omega),GT];simp[sizeOf,typeInfo,hi,hz1,sliced,Result.andThen]
 .obtain ⟨us,ao',cap',e,⟨h1,h2⟩,hul,hu,h3⟩:=hV;injection e with e1 e2 e3;subst e1 e3;refine⟨us.drop k,_,cap-k,by rw[qO,e2],⟨by simp;omega,fun h=>?_⟩,by simp[hul],fun i hi=>?_,fun hne=>?_⟩
  .by_cases hc:cap=k
   .rw[aj hc]at h;obtain⟨h4,h5⟩:=h2 h;exact⟨by omega,by rw[h5];simp⟩
   .rw[ak hc]at h;obtain⟨h4,h5⟩:=h2 (by simpa using h);exact⟨by omega,by rw[h5];simp⟩
  .rw[qO]at hi;rw[Iy,Iy];exact hu (k+i) (by omega)
  .have hlt:k<rs.length:=by
    rcases vP k rs.length with h|h
    .exact h
    .exact absurd (v8 h) hne
   obtain⟨b,off,rfl,hb,hat⟩:=h3 (by rintro rfl;simp at hlt);refine⟨b,off+k,?_,hb,fun i hi=>?_⟩
   .rw[ak (by omega)];simp[add_plain]
   .rw[qO]at hi;rw[show off+k+i=off+(k+i) by omega,hat (k+i) (by omega),Iy]
theorem J2{w:U}{ao:Option Addr}{n cap k:Nat}{rs:List (List Int)}(hV:LisVU w (Z ao n cap) rs)(hk:k<=n):∃so sc,(∀w1,(Instr.slice 42 (Z ao n cap) Y (S (M L (k:Int))) Y).run qA w1=.ok (Z so k sc) w1)/\LisVU w (Z so k sc) (rs.take k):=by
 obtain⟨i0,hi,hz0,hz1,hz2⟩:=info_parts D7;obtain⟨us,ao',cap',e,⟨h1,h2⟩,hul,hu,h3⟩:=hV;injection e with e1 e2 e3;subst e1 e3;refine⟨if cap=0 then ao else ao.map (·.add 0),cap,fun w1=>?_,?_⟩
 .rw[run_slice_h w1 42 ao n cap (by rw[GT];exact iV) .i64 (k:Int) (by omega) (by omega),GT];simp[sizeOf,typeInfo,hi,hz1,sliced,Result.andThen]
 .have hlk:(rs.take k).length=k:=by rw[qP];omega
  refine⟨us.take k,_,cap,by rw[hlk],⟨by rw[hlk];omega,fun h=>?_⟩,by rw[qP,qP,hul],fun i hi=>?_,fun hne=>?_⟩
  .by_cases hc:cap=0
   .rw[aj hc]at h;obtain⟨h4,h5⟩:=h2 h;exact⟨h4,by rw[h5];simp⟩
   .rw[ak hc]at h;obtain⟨h4,h5⟩:=h2 (by simpa using h);exact⟨h4,by rw[h5];simp⟩
  .rw[hlk]at hi;rw[Gm _ hi,Gm _ hi];exact hu i (by omega)
  .have hlt:0<k:=by
    rcases jG k with h|h
    .subst h;simp at hne
    .exact h
   obtain⟨b,off,rfl,hb,hat⟩:=h3 (by rintro rfl;simp at hne);refine⟨b,off,?_,hb,fun i hi=>?_⟩
   .rw[ak (by omega)];simp[add_plain]
   .rw[hlk]at hi;rw[hat i (by omega),Gm _ hi]
section
variable{P:Program}{w:U}
end
section
variable{w:U}
theorem Us(ty:TypeId)(base n cap:Nat)(vo:Option Addr)(xs:List J)(hown:w.ownsRow base 3 1 (Z vo n cap) n xs)(so:Option Addr)(m c:Nat)(l:List Int)(hV:IntsVU w (Z so m c) l)(hsz:(n+m)*8<=140737488355328)(hbase:base<=w.heap.size) :
  ∃vo' cap' w',(Builtin.append_ #[43,43] ty #[Z vo n cap,Z so m c]).run qA w=.ok (Z vo' (n+m) cap') w'/\w'.ownsRow base 3 1 (Z vo' (n+m) cap') (n+m) (xs++AB l)/\w.grownBy w' (Value.slice vo n cap).ownBlock:=by
 obtain⟨i0,hi,hz0,hz1,hz2⟩:=info_parts BS;obtain⟨so',c',e1,⟨hlc,hnone⟩,hat⟩:=id hV;injection e1 with e1 e2 e3;subst e1 e2 e3;by_cases hl:l=[]
 .subst hl;rcases hown.2 with⟨hv,h0⟩|⟨g,cap',cur,hv,_,_,hnc,_⟩
  .injection hv with h1 h2 h3;subst h1 h2 h3;exact⟨Y,0,w,Ur 43 ty 3 i0 aD hi so c,by simpa[AB]using hown,bS.refl _ _⟩
  .injection hv with h1 h2 h3;subst h1 h3;exact⟨_,cap,w,NR 43 ty 3 i0 aD hi _ g n cap rfl so c hnc,by simpa[AB]using hown,bS.refl _ _⟩
 .obtain ⟨b,off,rfl,hbl,hba⟩:=hat hl;obtain⟨g,cap',w',h1,h2,h3,_,_⟩:=run_append_lies (P:=qA) w 43 ty base 3 i0 (M L 0) 1 8 aD hi hz0 hz1 hz2 rfl (by decide) _ n xs hown ⟨b,off,Y⟩ l.length c (AB l) (by rw[Rj];omega) hba.cells (Lp l) (vO.2 hl) (by unfold maxLen;omega) hsz hbase _ rfl;exact⟨_,cap',w',h1,h2,h3⟩
theorem OE{o:Oper}{a:Act}{K:Act->U->Prop}{Q:Exit->Act->U->Prop}(s x:Operand)
  (ho:o.op=.call { callee:=.builtin .append,args:=#[s,x],argTypes:=#[43,43]})
  (base n cap:Nat) (vo:Option Addr) (xs:List J) (hs:a.eval s=Z vo n cap) (hown:w.ownsRow base 3 1 (Z vo n cap) n xs) (so:Option Addr) (m c:Nat) (l:List Int) (hx:a.eval x=Z so m c) (hV:IntsVU w (Z so m c) l)
  (hsz:(n+m)*8<=140737488355328) (hbase:base<=w.heap.size)
  (h:∀vo' cap' w',w'.ownsRow base 3 1 (Z vo' (n+m) cap') (n+m) (xs++AB l)->w.grownBy w' (Value.slice vo n cap).ownBlock->K (a.put o.dst (Z vo' (n+m) cap')) w'):o.wp qA a w K Q:=by
 obtain⟨vo',cap',w',hr,h2,h3⟩:=Us o.type base n cap vo xs hown so m c l hV hsz hbase;unfold Oper.wp execOp;simp only[ho,resolve,invoke,builtin,Sem.run_bind,Sem.run_pure,Result.andThen_ok,List.map_toArray,List.map_cons,List.map_nil,hs,hx,hr];exact h vo' cap' w' h2 h3
theorem W9{ops:Array Oper}{rest:List Oper}{o:Oper}{a:Act}{Q:Exit->Act->U->Prop}(hgd:o.guard=Y)(s x:Operand)
  (ho:o.op=.call { callee:=.builtin .append,args:=#[s,x],argTypes:=#[43,43]})
  (base n cap:Nat) (vo:Option Addr) (xs:List J) (hs:a.eval s=Z vo n cap) (hown:w.ownsRow base 3 1 (Z vo n cap) n xs) (so:Option Addr) (m c:Nat) (l:List Int) (hx:a.eval x=Z so m c) (hV:IntsVU w (Z so m c) l)
  (hsz:(n+m)*8<=140737488355328) (hbase:base<=w.heap.size)
  (h:∀vo' cap' w',w'.ownsRow base 3 1 (Z vo' (n+m) cap') (n+m) (xs++AB l)->w.grownBy w' (Value.slice vo n cap).ownBlock->wpList qA ops Q rest (a.put o.dst (Z vo' (n+m) cap')) w'):wpList qA ops Q (o::rest) a w:=
 wpList_plain hgd fun _ hK=>OE s x ho base n cap vo xs hs hown so m c l hx hV hsz hbase fun vo' cap' w' h1 h2=>hK _ _ (h vo' cap' w' h1 h2)
theorem Hv{ops:Array Oper}{o:Oper}{a:Act}{K:Act->U->Prop}{Q:Exit->Act->U->Prop}{E:Prop}(hgd:o.guard=Y)(s x:Operand)
  (ho:o.op=.call { callee:=.builtin .append,args:=#[s,x],argTypes:=#[43,43]})
  (base n cap:Nat) (vo:Option Addr) (xs:List J) (hs:a.eval s=Z vo n cap) (hown:w.ownsRow base 3 1 (Z vo n cap) n xs) (so:Option Addr) (m c:Nat) (l:List Int) (hx:a.eval x=Z so m c) (hV:IntsVU w (Z so m c) l)
  (hsz:(n+m)*8<=140737488355328) (hbase:base<=w.heap.size)
  (h:∀vo' cap' w',w'.ownsRow base 3 1 (Z vo' (n+m) cap') (n+m) (xs++AB l)->w.grownBy w' (Value.slice vo n cap).ownBlock->K (a.put o.dst (Z vo' (n+m) cap')) w') :
  if Region.wanted o (yielded ops a.tmps)=true then Oper.wp qA o a w K Q else E:=by
 have hw:Region.wanted o (yielded ops a.tmps)=true:=by simp[Region.wanted,hgd]
 rw[aj hw];exact OE s x ho base n cap vo xs hs hown so m c l hx hV hsz hbase h
end
def Ac(w:U)(B:Nat)(v:J)(l:List Int):Prop:=IntsVU w v l/\∀b off n c,v=Z (S ⟨b,off,Y⟩) n c->l≠[]->B<=b
theorem Ac.v{w:U}{B:Nat}{v:J}{l:List Int}(h:Ac w B v l):IntsVU w v l:=h.1
theorem AZ.n{w:U}{B:Nat}{v:J}{l:List Int}(h:AZ w B v l):Ac w B v l:=by
 refine⟨h.v,fun b off n c e hne=>?_⟩;rcases h.2 with⟨e0,h0⟩|⟨g,cap,cur,e0,hg,_⟩
 .rw[e]at e0;cases e0
 .rw[e]at e0;injection e0 with e1 _ _;injection e1 with e1;injection e1 with e1;omega
theorem Ac.mono{w:U}{B B':Nat}{v:J}{l:List Int}(h:Ac w B v l)(hb:B'<=B):Ac w B' v l:=⟨h.1,fun b off n c e hne=>qI hb (h.2 b off n c e hne)⟩
theorem Ac.below{w w':U}{B:Nat}{v:J}{l:List Int}(h:Ac w B v l)(hb:X w.heap.size w w'):Ac w' B v l:=⟨h.1.below hb,h.2⟩
theorem Ac.nil(w:U)(B:Nat):Ac w B (Z Y 0 0) []:=⟨I3 w,fun _ _ _ _ _ h=>absurd rfl h⟩
def Bo(r:List Int):Bool:=r.length == 0
theorem Rc(ao:Option Addr)(n cap:Nat)(w:U):I qA 178 #[Z ao n cap] w fun e w'=>e=V (A (n == 0))/\w'=w:=by
 by_cases h:n=0
 .subst h;go_enter iD,iP;go_wp2;go_ret;exact⟨rfl,rfl⟩
 .have h2:¬(n:Int)=0:=by omega
  rw[show(n == 0)=F by simp[h]];go_enter iD,iP;go_wp2;go_ret;exact⟨by first|rfl|(simp;exact h),rfl⟩
theorem RO(ao:Option Addr)(cap:Nat)(rs:List (List Int))(w:U)(hl:rs.length<=140737488355328)(hV:LisVU w (Z ao rs.length cap) rs) :
  I qA 194 #[Z ao rs.length cap,.func (.func 178) #[] #[]] w fun e w'=>∃q:Int,e=V (M L q)/\w'=w/\(rs.any Bo=true->0<=q)/\(rs.any Bo=F->q=-1):=by
 obtain⟨n,hn⟩:∃n,rs.length=n:=⟨_,rfl⟩;have H:T (LisVU w (Z ao rs.length cap) rs):=hV;rw[hn]at hl H⊢;have HN:T (rs.length=n):=hn;clear hV hn;go_enter iG,iS;go_wp2;go_loopw [8] (fun i wr=>∃k:Nat,k<=n/\i=M L k/\(rs.take k).any Bo=F/\wr=w) (fun i _=>n-(intOf i).toNat)
 case atStart=>exact⟨0,qJ _,rfl,rfl,rfl⟩
 case round=>
  obtain⟨k,hk,rfl,HT,rfl⟩:=hrel;by_cases hlt:k<n
  .have hlt2:k<rs.length:=by rw[HN.out];exact hlt
   obtain⟨b,off,rfl,_,u,c1,hu⟩:=H.out.at hlt2;obtain⟨uo,uc,rfl⟩:=hu.shape;have hou:=Rc uo (rs.getD k []).length uc wr;have hst:(rs.take (k+1)).any Bo=Bo (rs.getD k []):=by
    rw[F3 hlt2 [],zD,HT];simp
   have hany:Bo (rs.getD k [])=true->rs.any Bo=true:=fun h=>vD.2 ⟨rs.getD k [],Dc hlt2 [],h⟩;have HS:T ((rs.take (k+1)).any Bo=Bo (rs.getD k [])):=hst;have HAn:T (Bo (rs.getD k [])=true->rs.any Bo=true):=hany;unfold Bo at HS HAn;clear hst hany HT hu;generalize(rs.getD k []).length=x at *;generalize hxx:(x == 0)=o at *;clear hxx
   cases o
   .go_wp2_with (go_at_call 178;refine hou.mono ?_;rintro e w1 ⟨rfl,rfl⟩)
    go_roundw
    case rel=>exact⟨k+1,by omega,by go_num,HS.out,by trivial⟩
    case measure=>simp[intOf];omega
   .go_wp2_with (go_at_call 178;refine hou.mono ?_;rintro e w1 ⟨rfl,rfl⟩)
    go_ret;exact⟨_,rfl,rfl,fun _=>by omega,fun h=>by have:=HAn.out (by trivial);unfold Bo at h;rw[this]at h;simp at h⟩
  .obtain rfl:k=n:=by omega
   have hall:rs.take k=rs:=by rw[qN];rw[HN.out];omega
   rw[hall]at HT;have HT':T (rs.any Bo=F):=HT;clear HT;go_wp2;go_ret;exact⟨-1,rfl,rfl,fun h=>by rw[HT'.out]at h;simp at h,fun _=>rfl⟩
theorem Py(ao:Option Addr)(cap:Nat)(rs:List (List Int))(w:U)(hl:rs.length<=140737488355328)(hV:LisVU w (Z ao rs.length cap) rs) :
  I qA 177 #[Z ao rs.length cap,.func (.func 178) #[] #[]] w fun e w'=>e=V (A (rs.any Bo))/\w'=w:=by
 have hx:=RO ao cap rs w hl hV;generalize rs.length=n at *;generalize rs.any Bo=o at *;clear hV
 cases o
 all_goals
  go_enter iC,iO;go_wp2_with (go_at_call 194;refine hx.mono ?_;rintro e w1 ⟨q,rfl,rfl,h1,h2⟩;first|(obtain rfl:=h2 rfl)|(have h3:=h1 rfl))
  go_ret;exact⟨by first|rfl|trivial,rfl⟩
def Bt(w:U)(g:Nat)(x:Int):Prop:=g<w.heap.size/\w.cell? ⟨g,0,Y⟩=S (M L x)/\w.frozen? ⟨g,0,Y⟩=F
theorem Bt.later{w w':U}{g:Nat}{x:Int}(h:Bt w g x)(hb:X w.heap.size w w'):Bt w' g x:=
 ⟨qE h.1 hb.size,(hb.cell (p:=⟨g,0,Y⟩) h.1).trans h.2.1,(hb.frozen (p:=⟨g,0,Y⟩) h.1).trans h.2.2⟩
theorem Bt.set{w:U}{g:Nat}{a x:Int}(h:Bt w g a):X g w (w.setCell ⟨g,0,Y⟩ (M L x))/\Bt (w.setCell ⟨g,0,Y⟩ (M L x)) g x:=by
 obtain⟨h0,h1,h2⟩:=h;exact⟨(qD _ _).setCell (p:=⟨g,0,Y⟩) (qB _) _,by simpa using h0,by simp[go_sem,h1],by simp[go_sem,h2]⟩
theorem TO(g:Nat)(x a:Int)(w:U)(h:Bt w g a) :
  I qA 179 #[M L x,ZZ (S ⟨g,0,Y⟩)] w fun e w'=>e=V (A (decide (x<=a)||decide (2147483647<x)))/\X g w w'/\T (Bt w' g x):=by
 have HS:T (X g w (w.setCell ⟨g,0,Y⟩ (M L x))/\Bt (w.setCell ⟨g,0,Y⟩ (M L x)) g x):=h.set;obtain⟨h0,h1,h2⟩:=h;by_cases hx:x<=a
 .rw[show(decide (x<=a)||decide (2147483647<x))=true by simp[hx]];go_enter iE,iQ;go_wp2;go_ret;exact⟨rfl,HS.out.1,HS.out.2⟩
 .by_cases hy:2147483647<x
  .rw[show(decide (x<=a)||decide (2147483647<x))=true by simp[hy]];go_enter iE,iQ;go_wp2;go_ret;exact⟨rfl,HS.out.1,HS.out.2⟩
  .rw[show(decide (x<=a)||decide (2147483647<x))=F by simp[hx,hy]];go_enter iE,iQ;go_wp2;go_ret;exact⟨rfl,HS.out.1,HS.out.2⟩
def D2(l:List Int)(k:Nat):Int:=if k=0 then -1 else l.getD (k-1) 0
theorem RR(B g:Nat)(ao:Option Addr)(cap:Nat)(l:List Int)(w:U)(hl:l.length<=140737488355328)(hBg:B<=g)(hlt0:∀b off,ao=S ⟨b,off,Y⟩->l≠[]->b<B)(hV:IntsVU w (Z ao l.length cap) l)(hc:Bt w g (-1)) :
  I qA 154 #[Z ao l.length cap,.func (.func 179) #[] #[ZZ (S ⟨g,0,Y⟩)]] w fun e w'=>∃q:Int,e=V (M L q)/\X B w w'/\(nrB (-1) l=true->0<=q)/\(nrB (-1) l=F->q=-1):=by
 obtain⟨n,hn⟩:∃n,l.length=n:=⟨_,rfl⟩;have H:T (IntsVU w (Z ao l.length cap) l):=hV;rw[hn]at hl H⊢;have HN:T (l.length=n):=hn;have HC:T (Bt w g (D2 l 0)):=hc;have H0:T (∀b off,ao=S ⟨b,off,Y⟩->l≠[]->b<B):=hlt0;clear hV hn hc hlt0;go_enter Tryz.func154,Tryz.ntmps154;go_wp2;go_loopw [8] (fun i wr=>∃k:Nat,k<=n/\i=M L k/\T (nrB (D2 l k) (l.drop k)=nrB (-1) l)/\T (Bt wr g (D2 l k))/\X B w wr) (fun i _=>n-(intOf i).toNat)
 case atStart=>exact⟨0,qJ _,rfl,rfl,HC,qD _ _⟩
 case round=>
  obtain⟨k,hk,rfl,HT,HC1,hB⟩:=hrel;by_cases hlt:k<n
  .have hlt2:k<l.length:=by rw[HN.out];exact hlt
   obtain⟨b,off,rfl,hb,_,hat⟩:=H.out.at hlt2;have hbB:b<B:=H0.out b off rfl (by rintro rfl;simp at hlt2);have c1:=(hB.cell (p:=⟨b,off+k,Y⟩) hbB).trans (hat k hlt2);have hou:=TO g (l.getD k 0) (D2 l k) wr HC1.out;have HS:T (nrB (-1) l=((decide (l.getD k 0<=D2 l k)||decide (2147483647<l.getD k 0))||nrB (l.getD k 0) (l.drop (k+1)))):=by show _=_;rw[<-HT.out,E6 hlt2 0];rfl
   have HE:T (D2 l (k+1)=l.getD k 0):=by show _=_;simp[D2]
   clear hat HT HC1 hbB HC;generalize hx:l.getD k 0=x at *;clear hx;generalize(decide (x<=D2 l k)||decide (2147483647<x))=o at *
   cases o
   .go_wp2_with (refine hou.mono ?_;rintro e w1 ⟨rfl,hb1,hc1⟩)
    go_roundw
    case rel=>exact⟨k+1,by omega,by go_num,by rw[HE.out,HS.out];rfl,by rw[HE.out];exact hc1,hB.trans (hb1.mono hBg)⟩
    case measure=>simp[intOf];omega
   .go_wp2_with (refine hou.mono ?_;rintro e w1 ⟨rfl,hb1,hc1⟩)
    go_ret;exact⟨_,rfl,hB.trans (hb1.mono hBg),fun _=>by omega,fun h=>by rw[HS.out]at h;simp at h⟩
  .obtain rfl:k=n:=by omega
   have HT':T (nrB (-1) l=F):=by show _=_;rw[<-HT.out,v8 (by rw[HN.out];omega)];rfl
   clear HT;go_wp2;go_ret;exact⟨-1,rfl,hB,fun h=>by rw[HT'.out]at h;simp at h,fun _=>rfl⟩
theorem P4(B g:Nat)(ao:Option Addr)(cap:Nat)(l:List Int)(w:U)(hl:l.length<=140737488355328)(hBg:B<=g)(hlt0:∀b off,ao=S ⟨b,off,Y⟩->l≠[]->b<B)(hV:IntsVU w (Z ao l.length cap) l)(hc:Bt w g (-1)) :
  I qA 125 #[Z ao l.length cap,.func (.func 179) #[] #[ZZ (S ⟨g,0,Y⟩)]] w fun e w'=>e=V (A (nrB (-1) l))/\X B w w':=by
 have hx:=RR B g ao cap l w hl hBg hlt0 hV hc;generalize l.length=n at *;generalize nrB (-1) l=o at *;clear hV hlt0 hc
 cases o
 all_goals
  go_enter Tryz.func125,Tryz.ntmps125;go_wp2_with (go_at_call 154;refine hx.mono ?_;rintro e w1 ⟨q,rfl,hb1,h1,h2⟩;first|(obtain rfl:=h2 rfl)|(have h3:=h1 rfl))
  go_ret;exact⟨by first|rfl|trivial,hb1⟩
theorem TL(ao:Option Addr)(cap:Nat)(l:List Int)(w:U)(hl:l.length<=140737488355328)(hV:IntsVU w (Z ao l.length cap) l) :
  I qA 158 #[Z ao l.length cap] w fun e w'=>e=V (A (nrB (-1) l))/\X w.heap.size w w':=by
 have hb0:X w.heap.size w (w.alloc (O #[M L (-1)] 3)):=ai;have hcc:Bt (w.alloc (O #[M L (-1)] 3)) w.heap.size (-1):=⟨by simp,by simp[go_sem],by simp[go_sem]⟩;have hx:=P4 w.heap.size w.heap.size ao cap l _ hl (qB _) (fun b off h hne=>by subst h;obtain⟨b',off',e,h2,_⟩:=hV.at (vO.2 hne);injection e with e;injection e with e;subst e;exact h2) (hV.below hb0) hcc;have HB:T (∀w1,X w.heap.size (w.alloc (O #[M L (-1)] 3)) w1->X w.heap.size w w1):=fun w1 h=>hb0.trans h;generalize l.length=n at *;clear hV hb0 hcc
 go_enter Tryz.func158,Tryz.ntmps158;go_wp2_with (go_at_call 125;refine hx.mono ?_;rintro e w1 ⟨rfl,hb1⟩)
 go_ret;exact⟨rfl,HB.out _ hb1⟩
theorem RQ(ao:Option Addr)(cap:Nat)(l:List Int)(x:Int)(w:U)(hl:l.length<=140737488355328)(hV:IntsVU w (Z ao l.length cap) l) :
  I qA 202 #[Z ao l.length cap,M L x] w fun e w'=>∃q:Int,e=V (M L q)/\w'=w/\(x∈l->0<=q)/\(x∉l->q=-1):=by
 obtain⟨n,hn⟩:∃n,l.length=n:=⟨_,rfl⟩;have H:T (IntsVU w (Z ao l.length cap) l):=hV;rw[hn]at hl H⊢;have HN:T (l.length=n):=hn;clear hV hn;go_enter Tryz.func202,Tryz.ntmps202;go_wp2;go_loopw [8] (fun i wr=>∃k:Nat,k<=n/\i=M L k/\T (x∉l.take k)/\wr=w) (fun i _=>n-(intOf i).toNat)
 case atStart=>exact⟨0,qJ _,rfl,by show¬_;simp,rfl⟩
 case round=>
  obtain⟨k,hk,rfl,HT,rfl⟩:=hrel;by_cases hlt:k<n
  .have hlt2:k<l.length:=by rw[HN.out];exact hlt
   obtain⟨b,off,rfl,hb,_,hat⟩:=H.out.at hlt2;have c1:=hat k hlt2;have HS:T (x≠l.getD k 0->x∉l.take (k+1)):=fun h hm=>by
    rw[F3 hlt2 0]at hm;rcases qL.1 hm with h2|h2
    .exact HT.out h2
    .simp at h2;exact h h2
   have HM:T (l.getD k 0∈l):=Dc hlt2 0;clear hat HT;generalize l.getD k 0=y at *
   by_cases hxy:x=y
   .subst hxy;go_wp2;go_ret;exact⟨_,rfl,rfl,fun _=>by omega,fun h=>absurd HM.out h⟩
   .have hs:=HS.out hxy;have HS2:T (x∉l.take (k+1)):=hs;clear hs HS HM;go_wp2;go_roundw
    case rel=>exact⟨k+1,by omega,by go_num,HS2,by trivial⟩
    case measure=>simp[intOf];omega
  .obtain rfl:k=n:=by omega
   have HT':T (x∉l):=by have h:=HT.out;rw[qN (by rw[HN.out];omega)]at h;exact h
   clear HT;go_wp2;go_ret;exact⟨-1,rfl,rfl,fun h=>absurd h HT'.out,fun _=>rfl⟩
theorem P3(ao:Option Addr)(cap:Nat)(l:List Int)(x:Int)(w:U)(hl:l.length<=140737488355328)(hV:IntsVU w (Z ao l.length cap) l) :
  I qA 195 #[Z ao l.length cap,M L x] w fun e w'=>e=V (A (decide (x∈l)))/\w'=w:=by
 have hx:=RQ ao cap l x w hl hV;generalize l.length=n at *;clear hV
 by_cases hm:x∈l
 .rw[show decide (x∈l)=true by simp[hm]];have hx2:I qA 202 #[Z ao n cap,M L x] w fun e w'=>∃q:Int,e=V (M L q)/\w'=w/\0<=q:=hx.mono fun e w' ⟨q,h1,h2,h3,_⟩=>⟨q,h1,h2,h3 hm⟩;clear hx hm;go_enter iH,iT;go_wp2_with (go_at_call 202;refine hx2.mono ?_;rintro e w1 ⟨q,rfl,rfl,h3⟩)
  go_ret;exact⟨by first|rfl|trivial,rfl⟩
 .rw[show decide (x∈l)=F by simp[hm]];have hx2:I qA 202 #[Z ao n cap,M L x] w fun e w'=>e=V (M L (-1))/\w'=w:=hx.mono fun e w' ⟨q,h1,h2,_,h3⟩=>⟨by rw[h1,h3 hm],h2⟩;clear hx hm;go_enter iH,iT;go_wp2_with (go_at_call 202;refine hx2.mono ?_;rintro e w1 ⟨rfl,rfl⟩)
  go_ret;exact⟨by first|rfl|trivial,rfl⟩
theorem RI(g:Nat)(x:Int)(ao:Option Addr)(cap:Nat)(r:List Int)(w:U)(hl:r.length<=100000)(hs:r.Pairwise (· <= ·))(hV:IntsVU w (Z ao r.length cap) r)(h:Bt w g x) :
  I qA 196 #[Z ao r.length cap,ZZ (S ⟨g,0,Y⟩)] w fun e w'=>e=V (A (decide (x∈r)))/\∃q,w'=w.drewN q:=by
 obtain⟨h0,h1,h2⟩:=h;have hb:I qA 131 #[Z ao r.length cap,M L x] w fun e w'=>∃p:Int,e=V (ZY #[M L p,A (decide (x∈r))])/\∃q,w'=w.drewN q:=by
  by_cases hr:r=[]
  .subst hr;exact(slices_BinarySearch_int_empty ao cap x w).mono fun e w' ⟨h1,h2⟩=>⟨0,by rw[h1];simp,0,h2⟩
  .obtain ⟨b,off,rfl,_,_,hat⟩:=hV.at (vO.2 hr);refine(slices_BinarySearch_int b off r.length cap r x w (qB _) (by omega) hat (by rw[vI];exact hs)).mono fun e w' ⟨h1,h2⟩=>⟨((r.countP (· < x):Nat):Int),by rw[h1,vI,List.contains_eq_mem],h2⟩
 generalize decide (x∈r)=o at *;generalize r.length=n at *;clear hV hs
 go_enter Tryz.func196,Tryz.ntmps196;go_wp2_with (go_at_call 131;refine hb.mono ?_;rintro e w1 ⟨p,rfl,q,rfl⟩)
 go_ret;exact⟨rfl,q,rfl⟩
def Ch(x:Int)(r:List Int):Bool:=decide (x∈r)
theorem RP(g:Nat)(x:Int)(ao:Option Addr)(cap:Nat)(rs:List (List Int))(w:U)(hl:rs.length<=100000)(hr:∀r∈rs,r.length<=100000/\r.Pairwise (· <= ·))(hV:LisVU w (Z ao rs.length cap) rs)(hc:Bt w g x) :
  I qA 194 #[Z ao rs.length cap,.func (.func 196) #[] #[ZZ (S ⟨g,0,Y⟩)]] w fun e w'=>∃q:Int,e=V (M L q)/\X w.heap.size w w'/\(rs.any (Ch x)=true->0<=q)/\(rs.any (Ch x)=F->q=-1):=by
 obtain⟨n,hn⟩:∃n,rs.length=n:=⟨_,rfl⟩;have H:T (∀w1,X w.heap.size w w1->LisVU w1 (Z ao rs.length cap) rs):=fun w1 h=>hV.below h;have HC:T (∀w1,X w.heap.size w w1->Bt w1 g x):=fun w1 h=>hc.later h;have HR:T (∀r∈rs,r.length<=100000/\r.Pairwise (· <= ·)):=hr;rw[hn]at hl H⊢;have HN:T (rs.length=n):=hn;clear hV hn hc hr;go_enter iG,iS;go_wp2;go_loopw [8] (fun i wr=>∃k:Nat,k<=n/\i=M L k/\(rs.take k).any (Ch x)=F/\X w.heap.size w wr) (fun i _=>n-(intOf i).toNat)
 case atStart=>exact⟨0,qJ _,rfl,rfl,qD _ _⟩
 case round=>
  obtain⟨k,hk,rfl,HT,hB⟩:=hrel;by_cases hlt:k<n
  .have hlt2:k<rs.length:=by rw[HN.out];exact hlt
   obtain⟨b,off,rfl,_,u,c1,hu⟩:=(H.out wr hB).at hlt2;obtain⟨uo,uc,rfl⟩:=hu.shape;obtain⟨hr1,hr2⟩:=HR.out _ (Dc hlt2 []);have hou:=RI g x uo uc (rs.getD k []) wr hr1 hr2 hu (HC.out wr hB);have HS:T ((rs.take (k+1)).any (Ch x)=Ch x (rs.getD k [])):=by
    show _=_;rw[F3 hlt2 [],zD,HT];simp
   have HAn:T (Ch x (rs.getD k [])=true->rs.any (Ch x)=true):=fun h=>vD.2 ⟨rs.getD k [],Dc hlt2 [],h⟩;have hou2:I qA 196 #[Z uo (rs.getD k []).length uc,ZZ (S ⟨g,0,Y⟩)] wr fun e w'=>e=V (A (Ch x (rs.getD k [])))/\∃q,w'=wr.drewN q:=hou;clear HT hu hou hr1 hr2;generalize(rs.getD k []).length=m at *;generalize Ch x (rs.getD k [])=o at *
   cases o
   .go_wp2_with (refine hou2.mono ?_;rintro e w1 ⟨rfl,q1,rfl⟩)
    go_roundw
    case rel=>exact⟨k+1,by omega,by go_num,HS.out,below_drewN hB _⟩
    case measure=>simp[intOf];omega
   .go_wp2_with (refine hou2.mono ?_;rintro e w1 ⟨rfl,q1,rfl⟩)
    go_ret;exact⟨_,rfl,below_drewN hB _,fun _=>by omega,fun h=>by have:=HAn.out (by trivial);rw[this]at h;simp at h⟩
  .obtain rfl:k=n:=by omega
   have hall:rs.take k=rs:=by rw[qN];rw[HN.out];omega
   rw[hall]at HT;have HT':T (rs.any (Ch x)=F):=HT;clear HT;go_wp2;go_ret;exact⟨-1,rfl,hB,fun h=>by rw[HT'.out]at h;simp at h,fun _=>rfl⟩
theorem P2(g:Nat)(x:Int)(ao:Option Addr)(cap:Nat)(rs:List (List Int))(w:U)(hl:rs.length<=100000)(hr:∀r∈rs,r.length<=100000/\r.Pairwise (· <= ·))(hV:LisVU w (Z ao rs.length cap) rs)(hc:Bt w g x) :
  I qA 177 #[Z ao rs.length cap,.func (.func 196) #[] #[ZZ (S ⟨g,0,Y⟩)]] w fun e w'=>e=V (A (rs.any (Ch x)))/\X w.heap.size w w':=by
 have hx:=RP g x ao cap rs w hl hr hV hc;generalize rs.length=n at *;generalize rs.any (Ch x)=o at *;clear hV hr hc
 cases o
 all_goals
  go_enter iC,iO;go_wp2_with (go_at_call 194;refine hx.mono ?_;rintro e w1 ⟨q,rfl,hb1,h1,h2⟩;first|(obtain rfl:=h2 rfl)|(have h3:=h1 rfl))
  go_ret;exact⟨by first|rfl|trivial,hb1⟩
def Ba(p:J->List Int->Prop)(us:List J)(rs:List (List Int)):Prop:=us.length=rs.length/\∀i,i<rs.length->p (us.getD i DO) (rs.getD i [])
theorem Ba.nil(p:J->List Int->Prop):Ba p [] []:=⟨rfl,fun i hi=>by simp at hi⟩
theorem Ba.append{p:J->List Int->Prop}{us vs:List J}{rs ls:List (List Int)}(h1:Ba p us rs)(h2:Ba p vs ls):Ba p (us++vs) (rs++ls):=by
 refine⟨by simp[h1.1,h2.1],fun i hi=>?_⟩;rw[E8,E8,h1.1];split
 .rename_i h;exact h1.2 i h
 .rename_i h;exact h2.2 _ (by simp at hi;omega)
theorem Ba.one{p:J->List Int->Prop}(hp:∀v l,p v l->∃ao cap,v=Value.slice ao l.length cap){us:List J}{rs:List (List Int)}(h:Ba p us rs):∀u∈us,u.oneCell'=true:=by
 intro u hu;obtain⟨i,hi,rfl⟩:=List.mem_iff_getElem.1 hu;obtain⟨a,c,e⟩:=hp _ _ (h.2 i (by rw[<-h.1];exact hi));rw[Iz hi]at e;rw[e];rfl
def Cd(p:J->List Int->Prop)(w:U)(v:J)(rs:List (List Int)):Prop:=∃(us:List J) (ao:Option Addr) (cap:Nat),v=Z ao rs.length cap/\(rs.length<=cap/\(ao=Y->cap=0/\rs=[]))/\us.length=rs.length/\(∀i,i<rs.length->p (us.getD i DO) (rs.getD i []))/\(rs≠[]->∃b off,ao=S ⟨b,off,Y⟩/\b<w.heap.size/\∀i,i<rs.length->w.cell? ⟨b,off+i,Y⟩=S (us.getD i DO))
theorem Cd.shape{p:J->List Int->Prop}{w:U}{v:J}{rs:List (List Int)}(h:Cd p w v rs):∃ao cap,v=Z ao rs.length cap:=by
 obtain⟨us,ao,cap,rfl,_⟩:=h;exact⟨_,_,rfl⟩
def OV(w:U)(us:List J)(rs:List (List Int)):Prop:=us.length=rs.length/\∀i,i<rs.length->IntsVU w (us.getD i DO) (rs.getD i [])
theorem JC{w:U}{base n:Nat}{v:J}{us:List J}{rs:List (List Int)}(h:w.ownsRow base 43 1 v n us)(hu:OV w us rs):LisVU w v rs:=by
 have hn:rs.length=n:=by have:=h.1;have:=hu.1;omega
 subst hn;rcases h.2 with⟨rfl,h0⟩|⟨g,cap,cur,rfl,hb,hg,hnc,hcm,hcs,htake⟩
 .have:rs=[]:=by simpa using h0
  subst this;exact LisVU.nil w
 .refine ⟨us,_,cap,rfl,⟨hnc,fun h=>by simp at h⟩,hu.1,hu.2,fun _=>⟨g,0,rfl,(qG.1 hg).1,fun i hi=>?_⟩⟩;rw[Nat.zero_add,h.cellAt i (by omega)];simp[qC,show i<us.length by have:=hu.1;omega]
theorem RB(n:Nat)(w:U)(h0:0<n)(h24:n<=40000) :
  I qA 181 #[Z Y 0 0,M L (n:Int)] w fun e w'=>∃B cap,e=V (Z (S ⟨B,0,Y⟩) 0 cap)/\X w.heap.size w w'/\w'.ownsRow w.heap.size 43 1 (Z (S ⟨B,0,Y⟩) 0 cap) 0 []:=by
 obtain⟨i0,hi,hz0,hz1,hz2⟩:=info_parts D7;have hrz:∀ty,(Builtin.append_ #[42,3] ty #[Z Y 0 0,M L (n:Int)]).run qA w=.ok (Z (S ⟨w.heap.size,0,Y⟩) n (grownCap w n 0 43)) (w.drew.alloc (O (Builtin.zeroCells (Value.slice Y 0 0).cells n++Builtin.zeroCells (Value.slice Y 0 0).cells (grownCap w n 0 43-n)) 43)):=fun ty=>
  Lib.run_append_nil_zeros w 42 3 ty 43 i0 (Z Y 0 0) .i64 .i64 iV Tryz.underlying3 hi hz0 n h0 (by omega) (by omega) (by rw[hz2];omega)
 have hge:=grownCap_ge w n 0 43;have hle:=grownCap_le_maxLen w n 0 43 (by unfold maxLen;omega);generalize grownCap w n 0 43=G at hrz hge hle;have hG:G<=9223372036854775807:=by unfold maxLen at hle;omega
 have hn:¬(n:Int)<0:=by omega
 have hn2:(n:Int)>0:=by omega
 go_enter Tryz.func181,Tryz.ntmps181;go_wp2_with (at_builtin;refine Lib.wpList_append_run _ rfl _ _ _ _ rfl _ _ rfl rfl _ _ (hrz _) ?_)
 go_ret;refine⟨_,_,rfl,(below_drewN (qD _ _) 1).alloc (qB _) _,?_⟩;refine⟨rfl,.inr ⟨w.heap.size,G,Builtin.zeroCells #[Value.slice Y 0 0] n++Builtin.zeroCells #[Value.slice Y 0 0] (G-n),rfl,qB _,?_,qJ _,hle,?_,by simp⟩⟩
 .show (w.heap.push _)[w.heap.size]? = _;simp
 .simp[size_zeroCells];omega
def Cs(ss ll:List (List Int))(k:Nat):List (List Int):=if k=0 then []else if k=1 then ss else ss++ll
theorem Pw{p:J->List Int->Prop}{w0 w:U}{g:Nat}{so lo:Option Addr}{sn ln sc lc:Nat}{ss ll:List (List Int)}(hsn:sn=ss.length)(hln:ln=ll.length)(h1:sn<=20000)(h2:ln<=20000)(hS:Cd p w0 (Z so sn sc) ss)(hL:Cd p w0 (Z lo ln lc) ll)(c0:w.cell? ⟨g,0,Y⟩=S (Z so sn sc))(c1:w.cell? ⟨g,1,Y⟩=S (Z lo ln lc)){k:Nat}(hk:k<2) :
  ∃xo xn xc xl,w.cell? ⟨g,k,Y⟩=S (Z xo xn xc)/\zL sn ln (k+1)=zL sn ln k+(xn:Int)/\0<=zL sn ln k/\zL sn ln k<=20000/\xn<=20000/\xn=xl.length/\Cs ss ll (k+1)=Cs ss ll k++xl/\(Cs ss ll k).length<=20000/\Cd p w0 (Z xo xn xc) xl:=by
 have hk2:k=0\/k=1:=by omega
 rcases hk2 with rfl|rfl
 .exact ⟨so,sn,sc,ss,c0,by simp[zL],by simp[zL],by simp[zL],h1,hsn,by simp[Cs],by simp[Cs],hS⟩
 .exact ⟨lo,ln,lc,ll,c1,by simp[zL],by simp[zL],by simp[zL];omega,h2,hln,by simp[Cs],by simp[Cs];omega,hL⟩
theorem SA{p:J->List Int->Prop}{w:U}{b off:Nat}{us:List J}{xl:List (List Int)}(hu:Ba p us xl)(h:∀i,i<xl.length->w.cell? ⟨b,off+i,Y⟩=S (us.getD i DO)):∀j u,us[j]? = S u->w.cell? ((⟨b,off,Y⟩:Addr).add j)=S u:=by
 intro j u hj;have hlt:=(vQ.1 hj).1;rw[Go.WideShapes.add_plain,h j (by rw[<-hu.1];exact hlt),qC,hj];rfl
theorem Ip(p:J->List Int->Prop)(hp:∀v l,p v l->∃ao cap,v=Value.slice ao l.length cap)(g:Nat)(sv lv:J)(ss ll:List (List Int))(w0 w:U)(hb0:X w0.heap.size w0 w)(h1:ss.length<=20000)(h2:ll.length<=20000)(h0:1<=ll.length)(hS:Cd p w0 sv ss)(hL:Cd p w0 lv ll)(c0:w.cell? ⟨g,0,Y⟩=S sv)(c1:w.cell? ⟨g,1,Y⟩=S lv) :
  I qA 160 #[Z (S ⟨g,0,Y⟩) 2 2] w fun e w'=>∃B cap,e=V (Z (S ⟨B,0,Y⟩) (ss.length+ll.length) cap)/\X w.heap.size w w'/\T (∃us,w'.ownsRow w.heap.size 43 1 (Z (S ⟨B,0,Y⟩) (ss.length+ll.length) cap) us.length us/\Ba p us (ss++ll)):=by
 have hg:=World.block_lt_of_cell? w ⟨g,0,Y⟩ c0;obtain⟨i0,hi,hz0,hz1,hz2⟩:=info_parts D7;obtain⟨so,sc,rfl⟩:=hS.shape;obtain⟨lo,lc,rfl⟩:=hL.shape;have HAt:T (∀k,k<2->∃xo xn xc xl,w.cell? ⟨g,k,Y⟩=S (Z xo xn xc)/\zL ss.length ll.length (k+1)=zL ss.length ll.length k+(xn:Int)/\0<=zL ss.length ll.length k/\zL ss.length ll.length k<=20000/\xn<=20000/\xn=xl.length/\Cs ss ll (k+1)=Cs ss ll k++xl/\(Cs ss ll k).length<=20000/\Cd p w0 (Z xo xn xc) xl):=fun k hk=>Pw rfl rfl h1 h2 hS hL c0 c1 hk;have HZ0:T (zL ss.length ll.length 0=0):=rfl;have HZ2:T (zL ss.length ll.length 2=((ss.length+ll.length:Nat):Int)):=by show _=_;simp[zL]
 have HA0:T (Cs ss ll 0=[]):=rfl;have HA2:T (Cs ss ll 2=ss++ll):=rfl;have hgr:=fun w1=>RB (ss.length+ll.length) w1 (by omega) (by omega);have HLen:T ((ss++ll).length=ss.length+ll.length):=qF;obtain⟨tn,htn⟩:∃tn,tn=ss.length+ll.length:=⟨_,rfl⟩;rw[<-htn]at hgr HLen HZ2⊢;have ht24:tn<=40000:=by omega
 have ht0:0<tn:=by omega
 generalize zL ss.length ll.length=zz at *;generalize Cs ss ll=ac at *;clear hS hL c0 c1 h1 h2 h0 htn
 go_enter Tryz.func160,Tryz.ntmps160;go_wp2;go_loop [3,11] (fun z i=>∃k:Nat,k<=2/\i=M L (k:Int)/\z=M L (zz k)) (fun _ i=>2-(intOf i).toNat)
 case atStart=>exact⟨0,by omega,rfl,by rw[HZ0.out]⟩
 case round=>
  obtain⟨k,hk,rfl,rfl⟩:=hrel;by_cases hlt:k<2
  .obtain ⟨xo,xn,xc,xl,hc,hz,hz00,hz12,hx12,hr⟩:=HAt.out k hlt;clear hr;have HZ:T (zz (k+1)=zz k+(xn:Int)):=hz;clear hz;generalize zz k=z0 at *
   go_wp2;go_round
   case rel=>exact⟨k+1,hlt,by go_num,by rw[HZ.out]⟩
   case measure=>simp[intOf];omega
  .obtain rfl:k=2:=by omega
   rw[HZ2.out];go_wp2_with (go_at_call 181;refine(hgr _).mono ?_;rintro e w1 ⟨B,cap,rfl,hb1,ho1⟩)
   clear hgr;go_loopw [6,27] (fun nv i wr=>∃k:Nat,k<=2/\i=M L (k:Int)/\∃B cap,nv=Z (S ⟨B,0,Y⟩) (ac k).length cap/\T (∃us,wr.ownsRow w.heap.size 43 1 nv us.length us/\Ba p us (ac k))/\X w.heap.size w wr) (fun _ i _=>2-(intOf i).toNat)
   case atStart=>exact⟨0,by omega,rfl,B,cap,by rw[HA0.out];rfl,⟨[],ho1,by rw[HA0.out];exact Ba.nil _⟩,hb1⟩
   case round=>
    obtain⟨k,hk,rfl,B,cap,rfl,HU,hbel⟩:=hrel;by_cases hlt:k<2
    .obtain ⟨xo,xn,xc,xl,hc,_,_,_,hx12,hxn,hac,hal,hX⟩:=HAt.out k hlt;have hcr:=(hbel.cell (p:=⟨g,k,Y⟩) hg).trans hc;obtain⟨us,hown,hus⟩:=HU.out;have HUS:T (Ba p us (ac k)):=hus;have HXN:T (xn=xl.length):=hxn;have HAC:T (ac (k+1)=ac k++xl):=hac;have hul:us.length=(ac k).length:=hus.1;obtain⟨vs,xo',xc',hxv,⟨_,hx0⟩,hvl0,hvi0,hxat⟩:=hX;have hvs:Ba p vs xl:=⟨hvl0,hvi0⟩;clear hvl0 hvi0;injection hxv with e1 e2 e3;subst e1 e3;rw[<-hul]at hal hown⊢;clear hxn hac hus e2 HU hul;cases xo with
     |none=>
      obtain⟨hc0,hl0⟩:=hx0 rfl;have HL0:T (xl=[]):=hl0;have hxn0:xn=0:=by rw[HXN.out,HL0.out];rfl
      subst hxn0 hc0;clear hx0 hxat hl0 hvs;go_wp2_with (at_builtin;refine wpList_append_own_none rfl (.tmp 31) (.tmp 32) 42 rfl w.heap.size 43 i0 1 iV hi _ _ _ rfl hown rfl ?_)
      go_roundw
      case rel=>exact⟨k+1,hlt,by go_num,B,cap,by rw[HAC.out,HL0.out,vT,<-HUS.out.1],⟨us,hown,by rw[HAC.out,HL0.out,vT];exact HUS.out⟩,hbel⟩
      case measure=>simp[intOf];omega
     |some a=>
      have hcells:∀j u,vs[j]? = S u->wr.cell? (a.add j)=S u:=by
       intro j u hj;have hjl:j<xl.length:=by rw[<-hvs.1];exact(vQ.1 hj).1
       obtain⟨b,off,e,hbl,hat⟩:=hxat (by rintro rfl;simp at hjl);obtain rfl:=Option.some.inj e;have:=SA hvs hat j u hj;rw[Go.WideShapes.add_plain]at this⊢;exact((ae hb0 hbel).cell (p:=⟨b,off+j,Y⟩) hbl).trans this
      have HVS:T (Ba p vs xl):=hvs;have hvl:vs.length=xn*1:=by rw[hvs.1,HXN.out];omega
      have hv1:=hvs.one hp;have hbsz:=hbel.size;have hnb:=hown.lt;clear hx0 hxat hvs;go_wp2_with (at_builtin;refine wpList_append_own _ rfl (.tmp 31) (.tmp 32) 42 rfl w.heap.size 43 i0 (Z Y 0 0) 1 24 iV hi hz0 hz1 hz2 rfl (by decide) (Z (S ⟨B,0,Y⟩) us.length cap) us.length us rfl hown a xn xc vs rfl hvl hcells hv1 (by unfold maxLen;omega) (by omega) hbsz ?_;intro v' w4 hown' hgrow hne)
      have hb4:X w.heap.size w w4:=hbel.grown hgrow hbsz (fun q hq=>(hnb q hq).1);have hlen4:(us++vs).length=us.length+xn:=by rw[qF];omega
      obtain⟨B4,cap4,rfl⟩:∃B4 cap4,v'=Z (S ⟨B4,0,Y⟩) (us.length+xn) cap4:=by
       rcases hown'.2 with⟨h,_⟩|⟨g',cap',cur',h,_⟩
       .exact absurd (hne.1 h).1 (by simp)
       .exact ⟨_,_,h⟩
      have HLn:T (us.length+xn=(ac (k+1)).length):=by show _=_;rw[HAC.out,qF,<-HUS.out.1,HXN.out]
      have HU4:T (∃zs,w4.ownsRow w.heap.size 43 1 (Z (S ⟨B4,0,Y⟩) (us.length+xn) cap4) zs.length zs/\Ba p zs (ac (k+1))):=⟨us++vs,by rw[hlen4];exact hown',by rw[HAC.out];exact HUS.out.append HVS.out⟩;clear hown' hgrow hown hcells hne;go_roundw
      case rel=>exact⟨k+1,hlt,by go_num,B4,cap4,by rw[HLn.out],HU4,hb4⟩
      case measure=>simp[intOf];omega
    .obtain rfl:k=2:=by omega
     have HF:T (∃us,wr.ownsRow w.heap.size 43 1 (Z (S ⟨B,0,Y⟩) tn cap) us.length us/\Ba p us (ss++ll)):=by
      obtain⟨us,h1,h2⟩:=HU.out;rw[HA2.out]at h1 h2;rw[HLen.out]at h1;exact⟨us,h1,h2⟩
     rw[HA2.out,HLen.out];clear HU;go_wp2;go_ret;exact⟨_,_,rfl,hbel,HF⟩
open Go.RowKit Go.Sort
theorem VY(g cap base:Nat)(zs:List Int)(w:U)(hz:zs.length<=100000)(ho:w.ownsRow base 3 1 (Z (S ⟨g,0,Y⟩) zs.length cap) zs.length (AB zs)) :
  I qA 151 #[Z (S ⟨g,0,Y⟩) zs.length cap] w fun e w'=>e=V (ZY #[])/\w.grownBy w' (S g)/\w'.ownsRow base 3 1 (Z (S ⟨g,0,Y⟩) zs.length cap) zs.length (AB (up zs)):=by
 have ho':w.ownsRow base 3 1 (Z (S ⟨g,0,Y⟩) zs.length cap) zs.length (zs.map (Value.int .i64)):=ho;obtain⟨g',cap',hv,hbg,hlt,hn,hm,hl,hH⟩:=Lib.holds_of_ownsRow ho' (by simp);injection hv with h1 h2 h3;injection h1 with h1;injection h1 with h1;subst h1 h3;rcases ho.2 with⟨e0,_⟩|⟨g2,cap2,cur,e0,hb,hg,hnc,hcm,hcs,ht⟩
 .cases e0
 .injection e0 with e1 _ e3;injection e1 with e1;injection e1 with e1;subst e1 e3;refine(slices_Sort_int g 0 cap zs w hH hlt (by omega)).mono fun e w' ⟨he,n,os,hw⟩=>⟨he,?_,?_⟩
  .rw[hw];exact grownBy_sortedI _
  .rw[hw];exact ownsRow_sortedI (ts:=zs.mergeSort leB) (by simp) hbg hg hnc hcm hcs
theorem VX(ao:Option Addr)(cap base:Nat)(zs:List Int)(w:U)(hz:zs.length<=100000)(hB:X base w w)(ho:w.ownsRow base 3 1 (Z ao zs.length cap) zs.length (AB zs)) :
  I qA 151 #[Z ao zs.length cap] w fun e w'=>e=V (ZY #[])/\X base w w'/\T (AZ w' base (Z ao zs.length cap) (up zs)):=by
 rcases id ho.2 with⟨e0,h0⟩|⟨g2,cap2,cur,e0,hb,hg,_⟩
 .injection e0 with e1 e2 e3;subst e1 e3;have hz0:zs=[]:=by simpa using h0
  subst hz0;refine(slices_Sort_int_none Y 0 w).mono fun e w' ⟨h1,h2⟩=>⟨h1,?_,?_⟩
  .rw[h2];exact hB
  .show AZ _ _ _ _;rw[h2,show up []=[] by simp[up]];exact ho
 .injection e0 with e1 e2 e3;subst e1 e3;have hlt:=(qG.1 hg).1;refine(VY g2 cap base zs w hz ho).mono fun e w' ⟨h1,h2,h3⟩=>⟨h1,hB.grown h2 (by omega) (fun q hq=>by simp at hq;omega),?_⟩;show AZ _ _ _ _;unfold AZ;rw[F6];exact h3
theorem NL(v:J)(l:List Int)(w:U)(hl:l.length<=100000)(hV:IntsVU w v l) :
  I qA 161 #[v] w fun e w'=>∃ao cap,e=V (Z ao l.length cap)/\X w.heap.size w w'/\T (AZ w' w.heap.size (Z ao l.length cap) (up l)):=by
 have hc:=E5 v l w (by omega) hV;obtain⟨ao,cap,rfl⟩:=hV.shape;have HS:T (∀(ao:Option Addr) (cap:Nat) (w1:U),X w.heap.size w w1->w1.ownsRow w.heap.size 3 1 (Z ao l.length cap) l.length (AB l)->I qA 151 #[Z ao l.length cap] w1 fun e w'=>e=V (ZY #[])/\X w.heap.size w1 w'/\T (AZ w' w.heap.size (Z ao l.length cap) (up l))):=fun ao cap w1 hb ho=>VX ao cap w.heap.size l w1 hl (qD _ _) ho;generalize l.length=n at *;clear hV
 go_enter Tryz.func161,Tryz.ntmps161;go_wp2_with (first|(go_at_call 165;refine hc.mono ?_;rintro e w1 ⟨a1,c1,rfl,hb1,ho1⟩;have hs:=HS.out a1 c1 w1 hb1 ho1.out)|(go_at_call 151;refine hs.mono ?_;rintro e w2 ⟨rfl,hb2,ho2⟩))
 go_ret;exact⟨a1,c1,rfl,hb1.trans hb2,ho2⟩
def Ka(w wr:U)(a b:List Int)(u:J)(i j:Nat):Prop:=∃al:List Int,al++mg (a.drop i) (b.drop j)=mg a b/\al.length=i+j/\AZ wr w.heap.size u al/\X w.heap.size w wr
theorem Sg(va vb:J)(a b:List Int)(w:U)(ha:a.length<=100000)(hb:b.length<=100000)(hA:IntsVU w va a)(hB:IntsVU w vb b) :
  I qA 180 #[va,vb] w fun e w'=>∃ao cap,e=V (Z ao (mg a b).length cap)/\X w.heap.size w w'/\T (AZ w' w.heap.size (Z ao (mg a b).length cap) (mg a b)):=by
 obtain⟨ao,ac,rfl⟩:=hA.shape;obtain⟨bo,bc,rfl⟩:=hB.shape;obtain⟨i0,hi,hz0,hz1,hz2⟩:=info_parts BS;obtain⟨an,han⟩:∃an,a.length=an:=⟨_,rfl⟩;obtain⟨bn,hbn⟩:∃bn,b.length=bn:=⟨_,rfl⟩;have HA:T (IntsVU w (Z ao a.length ac) a):=hA;have HB:T (IntsVU w (Z bo b.length bc) b):=hB;have HAn:T (a.length=an):=han;have HBn:T (b.length=bn):=hbn;rw[han]at ha HA⊢;rw[hbn]at hb HB⊢;clear hA hB han hbn;have hmk:∀w1:U,(Instr.makeSlice 43 (M L 0) (M L ((an:Int)+(bn:Int)))).run qA w1=.ok (Z (S ⟨w1.heap.size,0,Y⟩) 0 (an+bn)) (w1.alloc (O (madeCells #[M L 0] (an+bn)) 3)):=fun w1=>by
  have:=run_make (P:=qA) w1 43 3 i0 (M L 0) aD hi hz0 .i64 .i64 0 ((an:Int)+(bn:Int)) (xT _) (by omega) (by rw[hz2];omega) (by omega);have e:((an:Int)+(bn:Int)).toNat=an+bn:=by omega
  rw[e]at this;simpa[hz1,Value.cells]using this
 have hO0:(w.alloc (O (madeCells #[M L 0] (an+bn)) 3)).ownsRow w.heap.size 3 1 (Z (S ⟨w.heap.size,0,Y⟩) 0 (an+bn)) 0 []:=iq w _ (an+bn) (qB _) (by unfold maxLen;omega) (by simp[size_madeCells]);have HM0:T (Ka w (w.alloc (O (madeCells #[M L 0] (an+bn)) 3)) a b (Z (S ⟨w.heap.size,0,Y⟩) 0 (an+bn)) 0 0):=⟨[],by simp,rfl,hO0,ai⟩;clear hO0;go_enter Tryz.func180,Tryz.ntmps180;go_wp2;go_loopw [5,6,7] (fun u i j wr=>∃ki kj:Nat,ki<=an/\kj<=bn/\i=M L ki/\j=M L kj/\T (Ka w wr a b u ki kj)) (fun _ i j _=>an+bn-(intOf i).toNat-(intOf j).toNat)
 case atStart=>exact⟨0,0,qJ _,qJ _,rfl,rfl,HM0⟩
 case round=>
  obtain⟨ki,kj,hki,hkj,rfl,rfl,HM⟩:=hrel;obtain⟨al,hal,hall,hown,hbel⟩:=HM.out;obtain⟨uo,uc,rfl⟩:=Au hown;by_cases hia:ki<an
  .by_cases hjb:kj<bn
   .obtain ⟨b1,off1,rfl,hb1,hc1,hat1⟩:=HA.out.at (i:=ki) (by rw[HAn.out];exact hia);obtain⟨b2,off2,rfl,hb2,hc2,hat2⟩:=HB.out.at (i:=kj) (by rw[HBn.out];exact hjb);have c1:=(hbel.cell (p:=⟨b1,off1+ki,Y⟩) hb1).trans (hat1 ki (by rw[HAn.out];exact hia));have c2:=(hbel.cell (p:=⟨b2,off2+kj,Y⟩) hb2).trans (hat2 kj (by rw[HBn.out];exact hjb));obtain⟨hs1,hs2⟩:=Ss (by rw[HAn.out];exact hia) (by rw[HBn.out];exact hjb) hal;have HS1:T (a.getD ki 0<b.getD kj 0->(al++[a.getD ki 0])++mg (a.drop (ki+1)) (b.drop kj)=mg a b):=hs1;have HS2:T (¬a.getD ki 0<b.getD kj 0->(al++[b.getD kj 0])++mg (a.drop ki) (b.drop (kj+1))=mg a b):=hs2;have HN:T (al.length=ki+kj):=hall;have HSn:T (∀(w4:U) (v':J) (x:Int),w4.ownsRow w.heap.size 3 1 v' (ki+kj+1) (AB al++[M L x])->AZ w4 w.heap.size v' (al++[x])):=fun w4 v' x h=>AZ.snoc (by rw[hall];exact h);have hown1:wr.ownsRow w.heap.size 3 1 (Z uo (ki+kj) uc) (ki+kj) (AB al):=by unfold AZ at hown;rw[hall]at hown;exact hown
    have HD:T (∀nq,(wr.drewN nq).ownsRow w.heap.size 3 1 (Z uo (ki+kj) uc) (ki+kj) (AB al)/\X w.heap.size w (wr.drewN nq)/\w.heap.size<=(wr.drewN nq).heap.size):=fun nq=>⟨Ap hown1 (below_drewN (qD wr.heap.size wr) nq) (qB _),below_drewN hbel nq,(below_drewN hbel nq).size⟩;clear hown1;rw[hall];clear hs1 hs2 hat1 hat2 hal hall HM hown;generalize a.getD ki 0=x at *;generalize b.getD kj 0=y at *;have hlen:ki+kj+1<=maxLen:=by unfold maxLen;omega
    have hlen2:(ki+kj+1)*8<=140737488355328:=by omega
    by_cases hxy:x<y
    .have hm:=HS1.out hxy;have HMm:T ((al++[x])++mg (a.drop (ki+1)) (b.drop kj)=mg a b):=hm;clear hm HS1 HS2;go_wp2_with fail
     go_quiet (fail)
     obtain⟨hown2,hbd,hsz⟩:=HD.out nq;go_wp2_with (at_builtin;refine wpList_append_own _ rfl _ _ 43 rfl w.heap.size 3 i0 (M L 0) 1 8 aD hi hz0 hz1 hz2 rfl (by decide) (Z uo (ki+kj) uc) (ki+kj) (AB al) rfl (hown2.alloc _) ⟨wr.heap.size,0,Y⟩ 1 1 [M L x] rfl rfl (FH _ _ _) (by simp[Value.oneCell']) hlen hlen2 (qI hsz (by simp)) ?_;intro v' w4 hown' hgrow _;have hb4:X w.heap.size w w4:=(hbd.alloc hbd.size _).grown hgrow (qI hsz (by simp)) (fun q hq=>(hown2.lt q hq).1);have HO4:=HSn.out w4 v' x hown';clear hgrow hown')
     go_roundw
     case rel=>exact⟨ki+1,kj,by omega,by omega,by go_num,rfl,al++[x],HMm.out,by rw[qF,HN.out];simp;omega,HO4,hb4⟩
     case measure=>simp[intOf];omega
    .have hm:=HS2.out hxy;have HMm:T ((al++[y])++mg (a.drop ki) (b.drop (kj+1))=mg a b):=hm;clear hm HS1 HS2;go_wp2_with fail
     go_quiet (fail)
     obtain⟨hown2,hbd,hsz⟩:=HD.out nq;go_wp2_with (at_builtin;refine wpList_append_own _ rfl _ _ 43 rfl w.heap.size 3 i0 (M L 0) 1 8 aD hi hz0 hz1 hz2 rfl (by decide) (Z uo (ki+kj) uc) (ki+kj) (AB al) rfl (hown2.alloc _) ⟨wr.heap.size,0,Y⟩ 1 1 [M L y] rfl rfl (FH _ _ _) (by simp[Value.oneCell']) hlen hlen2 (qI hsz (by simp)) ?_;intro v' w4 hown' hgrow _;have hb4:X w.heap.size w w4:=(hbd.alloc hbd.size _).grown hgrow (qI hsz (by simp)) (fun q hq=>(hown2.lt q hq).1);have HO4:=HSn.out w4 v' y hown';clear hgrow hown')
     go_roundw
     case rel=>exact⟨ki,kj+1,by omega,by omega,rfl,by go_num,al++[y],HMm.out,by rw[qF,HN.out];simp;omega,HO4,hb4⟩
     case measure=>simp[intOf];omega
   .have hjb':kj=bn:=by omega
    have hfin:mg a b=al++a.drop ki++b.drop kj:=by rw[<-hal];rw[show b.drop kj=[]from v8 (by rw[HBn.out];omega),Sp,vT]
    obtain⟨so1,sc1,hsl1,hV1⟩:=Hr HA.out (k:=ki) (by omega);obtain⟨so2,sc2,hsl2,hV2⟩:=Hr HB.out (k:=kj) (by omega);have HV1:T (∀w1,X w.heap.size w w1->IntsVU w1 (Z so1 (an-ki) sc1) (a.drop ki)):=fun w1 h=>hV1.below h;have HV2:T (∀w1,X w.heap.size w w1->IntsVU w1 (Z so2 (bn-kj) sc2) (b.drop kj)):=fun w1 h=>hV2.below h;have hown1:wr.drew.ownsRow w.heap.size 3 1 (Z uo (ki+kj) uc) (ki+kj) (AB al):=by unfold AZ at hown;rw[hall]at hown;exact hown.drew
    have hbd:X w.heap.size w wr.drew:=hbel.drew;have HF:T (∀(w':U) (v:J),w'.ownsRow w.heap.size 3 1 v (ki+kj+(an-ki)+(bn-kj)) (AB al++AB (a.drop ki)++AB (b.drop kj))->AZ w' w.heap.size v (mg a b)/\(mg a b).length=ki+kj+(an-ki)+(bn-kj)):=fun w' v h=>by
     have e:(mg a b).length=ki+kj+(an-ki)+(bn-kj):=by rw[hfin,qF,qF,qO,qO,hall,HAn.out,HBn.out]
     refine⟨?_,e⟩;unfold AZ;rw[e,hfin,Fp,Fp];exact h
    obtain⟨p1,hp1⟩:∃p1,an-ki=p1:=⟨_,rfl⟩;obtain⟨p2,hp2⟩:∃p2,bn-kj=p2:=⟨_,rfl⟩;have hq1:p1<=100000:=by omega
    have hq2:p2<=100000:=by omega
    obtain⟨kk,hkk⟩:∃kk,ki+kj=kk:=⟨_,rfl⟩;have hq3:kk<=200000:=by omega
    rw[hp1]at hsl1 HV1 HF;rw[hp2]at hsl2 HV2 HF;rw[hkk]at hown1 HF;rw[hall,hkk];clear hV1 hV2 hfin hal hown HM hp1 hp2 hall hkk;go_wp2_with fail
    clear hia hjb hjb' hki hkj ha hb;go_region_held3 (fun _=>True) (trivial)
     (first
      |(refine Hv (by rfl) (.tmp 51) (.tmp 54) (by rfl) w.heap.size kk uc uo (AB al) (by rfl) hown1 so1 p1 sc1 (a.drop ki) (by rfl) (HV1.out _ hbd) (by omega) hbd.size ?_;intro vo1 cap1 w3 hown3 hg3;have hb3:=hbd.grown hg3 hbd.size (fun q hq=>(hown1.lt q hq).1))
      |(refine Hv (by rfl) (.tmp 55) (.tmp 58) (by rfl) w.heap.size (kk+p1) cap1 vo1 (AB al++AB (a.drop ki)) (by rfl) hown3 so2 p2 sc2 (b.drop kj) (by rfl) (HV2.out _ hb3) (by omega) hb3.size ?_;intro vo2 cap2 w4 hown4 hg4;have hb4:=hb3.grown hg4 hb3.size (fun q hq=>(hown3.lt q hq).1)))
    obtain⟨hO4,hL4⟩:=HF.out _ _ hown4;go_wp2_with fail
    go_ret;exact⟨vo2,cap2,by rw[hL4];rfl,hb4,by rw[hL4];exact hO4⟩
  .have hia':ki=an:=by omega
   have hfin:mg a b=al++a.drop ki++b.drop kj:=by rw[<-hal];rw[show a.drop ki=[]from v8 (by rw[HAn.out];omega),Sq,vT]
   obtain⟨so1,sc1,hsl1,hV1⟩:=Hr HA.out (k:=ki) (by omega);obtain⟨so2,sc2,hsl2,hV2⟩:=Hr HB.out (k:=kj) (by omega);have HV1:T (∀w1,X w.heap.size w w1->IntsVU w1 (Z so1 (an-ki) sc1) (a.drop ki)):=fun w1 h=>hV1.below h;have HV2:T (∀w1,X w.heap.size w w1->IntsVU w1 (Z so2 (bn-kj) sc2) (b.drop kj)):=fun w1 h=>hV2.below h;have hown1:wr.drew.ownsRow w.heap.size 3 1 (Z uo (ki+kj) uc) (ki+kj) (AB al):=by unfold AZ at hown;rw[hall]at hown;exact hown.drew
   have hbd:X w.heap.size w wr.drew:=hbel.drew;have HF:T (∀(w':U) (v:J),w'.ownsRow w.heap.size 3 1 v (ki+kj+(an-ki)+(bn-kj)) (AB al++AB (a.drop ki)++AB (b.drop kj))->AZ w' w.heap.size v (mg a b)/\(mg a b).length=ki+kj+(an-ki)+(bn-kj)):=fun w' v h=>by
    have e:(mg a b).length=ki+kj+(an-ki)+(bn-kj):=by rw[hfin,qF,qF,qO,qO,hall,HAn.out,HBn.out]
    refine⟨?_,e⟩;unfold AZ;rw[e,hfin,Fp,Fp];exact h
   obtain⟨p1,hp1⟩:∃p1,an-ki=p1:=⟨_,rfl⟩;obtain⟨p2,hp2⟩:∃p2,bn-kj=p2:=⟨_,rfl⟩;have hq1:p1<=100000:=by omega
   have hq2:p2<=100000:=by omega
   obtain⟨kk,hkk⟩:∃kk,ki+kj=kk:=⟨_,rfl⟩;have hq3:kk<=200000:=by omega
   rw[hp1]at hsl1 HV1 HF;rw[hp2]at hsl2 HV2 HF;rw[hkk]at hown1 HF;rw[hall,hkk];clear hV1 hV2 hfin hal hown HM hp1 hp2 hall hkk;go_wp2_with fail
   clear hia hia' hki hkj ha hb;go_region_held3 (fun _=>True) (trivial)
    (first
     |(refine Hv (by rfl) (.tmp 51) (.tmp 54) (by rfl) w.heap.size kk uc uo (AB al) (by rfl) hown1 so1 p1 sc1 (a.drop ki) (by rfl) (HV1.out _ hbd) (by omega) hbd.size ?_;intro vo1 cap1 w3 hown3 hg3;have hb3:=hbd.grown hg3 hbd.size (fun q hq=>(hown1.lt q hq).1))
     |(refine Hv (by rfl) (.tmp 55) (.tmp 58) (by rfl) w.heap.size (kk+p1) cap1 vo1 (AB al++AB (a.drop ki)) (by rfl) hown3 so2 p2 sc2 (b.drop kj) (by rfl) (HV2.out _ hb3) (by omega) hb3.size ?_;intro vo2 cap2 w4 hown4 hg4;have hb4:=hb3.grown hg4 hb3.size (fun q hq=>(hown3.lt q hq).1)))
   obtain⟨hO4,hL4⟩:=HF.out _ _ hown4;go_wp2_with fail
   go_ret;exact⟨vo2,cap2,by rw[hL4];rfl,hb4,by rw[hL4];exact hO4⟩
def IQ(xo:Option Addr)(w:U)(ls:List (List Int))(e:Ending)(w':U):Prop:=
 ∃ao cap,e=V (Z ao (tog ls).length cap)/\X w.heap.size w w'/\T (IntsVU w' (Z ao (tog ls).length cap) (tog ls))/\T ((ls.length=1/\∃b off,xo=S ⟨b,off,Y⟩/\w.cell? ⟨b,off,Y⟩=S (Z ao (tog ls).length cap))\/AZ w' w.heap.size (Z ao (tog ls).length cap) (tog ls))
theorem J8(ls:List (List Int)):(tog ls).length=ls.flatten.length:=(FQ _ _ (qB _)).length_eq
theorem Nv:∀(N:Nat) (ao:Option Addr) (cap:Nat) (ls:List (List Int)) (w:U),ls.length<=N->0<ls.length->ls.flatten.length<=100000->ls.length<=100000->LisVU w (Z ao ls.length cap) ls->
  I qA 159 #[Z ao ls.length cap] w (IQ ao w ls):=by
 intro N;induction N with
 |zero=>intro ao cap ls w h1 h2;omega
 |succ N ih=>
  intro ao cap ls w hN h0 hf hn hV;by_cases h1:ls.length=1
  .obtain ⟨b,off,rfl,hb,u,c1,hu⟩:=hV.at (i:=0) h0;obtain⟨l,rfl⟩:∃l,ls=[l]:=by
    rcases G4 (yZ h1)with rfl|h
    .simp at h0
    .exact h
   rw[Nat.add_zero]at c1;have e:tog [l]=l:=by rw[FO (by simp)];rfl
   have hu':IntsVU w u l:=hu;obtain⟨uo,uc,rfl⟩:=hu'.shape;have HP:T (IQ (S ⟨b,off,Y⟩) w [l] (V (Z uo l.length uc)) w):=⟨uo,uc,by rw[e],qD _ _,by rw[e];exact hu',.inl ⟨rfl,b,off,rfl,by rw[e];exact c1⟩⟩;clear hV hu hu';rw[h1];go_enter iz,iL;go_wp2;go_ret;exact HP.out
  .obtain ⟨n,hnn⟩:∃n,ls.length=n:=⟨_,rfl⟩;have hh1:n / 2<=n:=by omega
   have hh2:1<=n / 2:=by omega
   have hh3:n / 2<n:=by omega
   rw[hnn]at hV hN h0 hn h1⊢;obtain⟨so1,sc1,hsl1,hV1⟩:=J2 hV hh1;obtain⟨so2,sc2,hsl2,hV2⟩:=J3 hV hh1;have hl1:(ls.take (n / 2)).length=n / 2:=by rw[qP];omega
   have hl2:(ls.drop (n / 2)).length=n-n / 2:=by rw[qO];omega
   have hfl:(ls.take (n / 2)).flatten.length+(ls.drop (n / 2)).flatten.length=ls.flatten.length:=by rw[<-qF,<-vX,vC]
   have et:tog ls=mg (tog (ls.take (n / 2))) (tog (ls.drop (n / 2))):=by have:=H7 (ls:=ls) (by omega);rw[hnn]at this;exact this
   have H1:T (∀w1,X w.heap.size w w1->I qA 159 #[Z so1 (n / 2) sc1] w1 fun e w'=>∃xo xc,e=V (Z xo (tog (ls.take (n / 2))).length xc)/\X w1.heap.size w1 w'/\T (IntsVU w' (Z xo (tog (ls.take (n / 2))).length xc) (tog (ls.take (n / 2))))):=fun w1 hb=>by
    have:=ih so1 sc1 (ls.take (n / 2)) w1 (by omega) (by omega) (by omega) (by omega) (by rw[hl1];exact hV1.below hb);rw[hl1]at this;exact this.mono fun e w' ⟨xo,xc,h1,h2,h3,_⟩=>⟨xo,xc,h1,h2,h3⟩
   have H2:T (∀w1,X w.heap.size w w1->I qA 159 #[Z so2 (n-n / 2) sc2] w1 fun e w'=>∃xo xc,e=V (Z xo (tog (ls.drop (n / 2))).length xc)/\X w1.heap.size w1 w'/\T (IntsVU w' (Z xo (tog (ls.drop (n / 2))).length xc) (tog (ls.drop (n / 2))))):=fun w1 hb=>by
    have:=ih so2 sc2 (ls.drop (n / 2)) w1 (by omega) (by omega) (by omega) (by omega) (by rw[hl2];exact hV2.below hb);rw[hl2]at this;exact this.mono fun e w' ⟨xo,xc,h1,h2,h3,_⟩=>⟨xo,xc,h1,h2,h3⟩
   have H3:T (∀(va vb:J) (w1:U),IntsVU w1 va (tog (ls.take (n / 2)))->IntsVU w1 vb (tog (ls.drop (n / 2)))->I qA 180 #[va,vb] w1 fun e w'=>∃ao cap,e=V (Z ao (tog ls).length cap)/\X w1.heap.size w1 w'/\T (AZ w' w1.heap.size (Z ao (tog ls).length cap) (tog ls))):=fun va vb w1 h1 h2=>by
    have:=Sg va vb _ _ w1 (by rw[J8];omega) (by rw[J8];omega) h1 h2;rw[<-et]at this;exact this
   have HP:T (∀(xo:Option Addr) (xc:Nat) (w1 w2:U),X w.heap.size w w1->X w1.heap.size w1 w2->AZ w2 w1.heap.size (Z xo (tog ls).length xc) (tog ls)->IQ ao w ls (V (Z xo (tog ls).length xc)) w2):=fun xo xc w1 w2 hb1 hb2 ho=>⟨xo,xc,rfl,ae hb1 hb2,ho.v,.inr (ho.mono hb1.size)⟩;obtain⟨m2,hm2⟩:∃m2,n-n / 2=m2:=⟨_,rfl⟩;rw[hm2]at hsl2 H2;have hq:(n:Int).tdiv 2=((n / 2:Nat):Int):=by rw[Int.tdiv_eq_ediv_of_nonneg (by omega)];omega
   have hB0:X w.heap.size w w:=qD _ _;generalize(tog (ls.take (n / 2))).length=k1 at *;generalize(tog (ls.drop (n / 2))).length=k2 at *;have hn1:¬(n:Int)=1:=by omega
   obtain⟨hf2,hhf⟩:∃hf2,n / 2=hf2:=⟨_,rfl⟩;rw[hhf]at hsl1 hsl2 H1 H2 H3 hq;have hwr:wrap64 (hf2:Int)=(hf2:Int):=gH _ (by omega);clear hV hV1 hV2 hl1 hl2 hfl et ih hm2 hh1 hh2 hh3 hhf;go_enter iz,iL;go_wp2_with fail
   clear hN h0 hf h1 hn;rw[hwr];go_region_held3 (fun _=>True) (trivial)
    (first
     |(go_at_call_of 159 so1;refine(H1.out _ hB0.drew).mono ?_;rintro e w1 ⟨xo1,xc1,rfl,hb1,hx1⟩;have hw1:=hB0.drew.trans (hb1.mono hB0.drew.size))
     |(go_at_call_of 159 so2;refine(H2.out _ hw1).mono ?_;rintro e w2 ⟨xo2,xc2,rfl,hb2,hx2⟩;have hw2:=ae hw1 hb2;have hm:=H3.out _ _ w2 (hx1.out.below hb2) hx2.out)
     |(go_at_call 180;refine hm.mono ?_;rintro e w3 ⟨xo3,xc3,rfl,hb3,hx3⟩))
   go_wp2_with fail
   go_ret;exact HP.out _ _ _ _ hw2 hb3 hx3.out
theorem Qk(rs:List (List Int))(k:Nat):(rs.take k).flatten.length<=rs.flatten.length:=by
 have e:rs.flatten=(rs.take k).flatten++(rs.drop k).flatten:=by rw[<-vX,vC]
 rw[e,qF];omega
theorem Qj{rs:List (List Int)}{k:Nat}(h:k<rs.length):(rs.take (k+1)).flatten.length=(rs.take k).flatten.length+(rs.getD k []).length:=by rw[F3 h [],Ee,qF]
theorem GR(lo:List Int)(rs:List (List Int))(la ra:Option Addr)(lc rc:Nat)(w:U)(hz:StSzU lo rs)(hR:LisVU w (Z ra rs.length rc) rs) :
  I qA 167 #[t #[Z la lo.length lc,Z ra rs.length rc]] w fun e w'=>∃q:Nat,e=V (M L q)/\X w.heap.size w w'/\(lo.length<=20000->lo.length+rs.flatten.length<=20000->q=lo.length+rs.flatten.length)/\(¬lo.length+rs.flatten.length<=20000->lo.length<=20000->20000<q):=by
 obtain⟨hbA,hcA⟩:=Bc.arg w (Z la lo.length lc) (Z ra rs.length rc) 161;obtain⟨_,a0,a1⟩:=id hcA;have hR1:=hR.below hbA;obtain⟨n,hn⟩:∃n,rs.length=n:=⟨_,rfl⟩;obtain⟨W0,hW0⟩:∃W0,W0=w.alloc (O #[Z la lo.length lc,Z ra rs.length rc] 161):=⟨_,rfl⟩;rw[<-hW0]at hR1 a0 a1 hbA;have H:T (LisVU W0 (Z ra rs.length rc) rs):=hR1;have HZ:T (StSzU lo rs):=hz;have hl1:=hz.loose;have hl2:=hz.runs;rw[hn]at H a1 hl2 hW0⊢;have HN:T (rs.length=n):=hn;obtain⟨m,hm⟩:∃m,lo.length=m:=⟨_,rfl⟩;have HM:T (lo.length=m):=hm;rw[hm]at hl1 a0 hW0⊢;clear hR hcA hR1 hn hm hz;go_enter Tryz.func167,Tryz.ntmps167;go_wp2_with fail
 rw[<-hW0];clear hW0;go_wp2;go_loopw [3,5,12] (fun s u i wr=>∃k:Nat,k<=n/\i=M L k/\s=M L ((m+(rs.take k).flatten.length:Nat):Int)/\T (k=0\/m+(rs.take k).flatten.length<=20000)/\wr=W0) (fun _ _ i _=>n-(intOf i).toNat)
 case atStart=>exact⟨0,qJ _,rfl,rfl,.inl rfl,rfl⟩
 case round=>
  obtain⟨k,hk,rfl,rfl,HT,rfl⟩:=hrel;by_cases hlt:k<n
  .have hlt2:k<rs.length:=by rw[HN.out];exact hlt
   obtain⟨b,off,rfl,_,u,c1,hu⟩:=H.out.at hlt2;obtain⟨uo,uc,rfl⟩:=hu.shape;have hr:=HZ.out.each k hlt2;have HS:T (m+(rs.take (k+1)).flatten.length=m+(rs.take k).flatten.length+(rs.getD k []).length):=by show _=_;rw[Qj hlt2];omega
   have hLe:=Qk rs (k+1);have HL:T (m+(rs.take k).flatten.length+(rs.getD k []).length<=m+rs.flatten.length):=by show _<=_;have:=HS.out;omega
   have hsm:m+(rs.take k).flatten.length<=20000+m:=by
    rcases HT.out with h|h
    .subst h;simp
    .omega
   clear hu hLe HT;generalize hrr:(rs.getD k []).length=r at *;clear hrr;generalize hss:m+(rs.take k).flatten.length=s at *;clear hss
   by_cases hbig:20000<s+r
   .have hbi:(20000:Int)<(s:Int)+(r:Int):=by omega
    go_wp2;go_ret;exact⟨s+r,by simp,hbA,fun h1 h2=>by have:=HL.out;omega,fun _ _=>hbig⟩
   .have hbi:¬(20000:Int)<(s:Int)+(r:Int):=by omega
    go_wp2;go_roundw
    case rel=>exact⟨k+1,by omega,by go_num,by rw[HS.out];simp,.inr (by rw[HS.out];omega),by trivial⟩
    case measure=>simp[intOf];omega
  .obtain rfl:k=n:=by omega
   have HF:T (rs.take k=rs):=by show _=_;rw[qN];rw[HN.out];omega
   rw[HF.out];clear HT HF;go_wp2;go_ret;exact⟨m+rs.flatten.length,rfl,hbA,fun _ _=>rfl,fun h _=>by omega⟩
theorem LD(rs:List (List Int)):rs.any Bo=F↔∀r∈rs,r≠[]:=by
 rw[List.any_eq_false];constructor
 .intro h r hr e;exact h r hr (by simp[Bo,e])
 .intro h r hr e;have h2:r.length=0:=by simpa[Bo]using e
  exact h r hr (jH.1 h2)
def OZ(lo:List Int)(rs:List (List Int))(w:U)(e:Ending)(w':U):Prop:=∃s:Bool,e=V (A s)/\X w.heap.size w w'/\(s=true↔SizeOk lo rs)
theorem VU(lo:List Int)(rs:List (List Int))(la ra:Option Addr)(lc rc:Nat)(w:U)(hz:StSzU lo rs)(hR:LisVU w (Z ra rs.length rc) rs) :
  I qA 157 #[t #[Z la lo.length lc,Z ra rs.length rc]] w (OZ lo rs w):=by
 obtain⟨hbA,hcA⟩:=Bc.arg w (Z la lo.length lc) (Z ra rs.length rc) 161;obtain⟨_,a0,a1⟩:=id hcA;have hE:=Py ra rc rs _ (by have:=hz.runs;omega) (hR.below hbA);have hC:=GR lo rs la ra lc rc _ hz (hR.below hbA);have HB:T (∀w1,X (w.alloc (O #[Z la lo.length lc,Z ra rs.length rc] 161)).heap.size (w.alloc (O #[Z la lo.length lc,Z ra rs.length rc] 161)) w1->X w.heap.size w w1):=fun w1 h=>ae hbA h;by_cases h8:lo.length<8
 .have h8i:(lo.length:Int)<8:=by omega
  cases hem:rs.any Bo with
  |true=>
   have HF:T (¬SizeOk lo rs):=fun h=>by have:=(LD rs).2 h.full;rw[hem]at this;cases this
   rw[hem]at hE;generalize lo.length=m at *;generalize rs.length=n at *;clear hR hz hC hcA
   go_enter iy,iK;go_wp2_with (first|(go_at_call 177;refine hE.mono ?_;rintro e w1 ⟨rfl,rfl⟩))
   go_ret;exact⟨F,rfl,hbA,by simp;exact HF.out⟩
  |false=>
   have HF:T (∀r∈rs,r≠[]):=(LD rs).1 hem;by_cases hm:lo.length+rs.flatten.length<=20000
   .have HS:T (SizeOk lo rs):=⟨h8,HF.out,hm⟩;have hC':I qA 167 #[t #[Z la lo.length lc,Z ra rs.length rc]] (w.alloc (O #[Z la lo.length lc,Z ra rs.length rc] 161)) fun e w'=>∃q:Nat,e=V (M L q)/\X (w.alloc (O #[Z la lo.length lc,Z ra rs.length rc] 161)).heap.size (w.alloc (O #[Z la lo.length lc,Z ra rs.length rc] 161)) w'/\q<=20000:=hC.mono fun e w' ⟨q,h1,h2,h3,_⟩=>⟨q,h1,h2,by rw[h3 (by omega) hm];exact hm⟩;rw[hem]at hE;generalize lo.length=m at *;generalize rs.length=n at *;clear hR hz hC hcA hm
    go_enter iy,iK;go_wp2_with (first|(go_at_call 177;refine hE.mono ?_;rintro e w1 ⟨rfl,rfl⟩)|(go_at_call 167;refine hC'.mono ?_;rintro e w2 ⟨q,rfl,hb2,hq⟩;have hqi:(q:Int)<=20000:=by omega))
    go_ret;exact⟨true,by rfl,HB.out _ hb2,by simp;exact HS.out⟩
   .have HS:T (¬SizeOk lo rs):=fun h=>hm h.many;have hC':I qA 167 #[t #[Z la lo.length lc,Z ra rs.length rc]] (w.alloc (O #[Z la lo.length lc,Z ra rs.length rc] 161)) fun e w'=>∃q:Nat,e=V (M L q)/\X (w.alloc (O #[Z la lo.length lc,Z ra rs.length rc] 161)).heap.size (w.alloc (O #[Z la lo.length lc,Z ra rs.length rc] 161)) w'/\20000<q:=hC.mono fun e w' ⟨q,h1,h2,_,h3⟩=>⟨q,h1,h2,h3 hm (by omega)⟩;rw[hem]at hE;generalize lo.length=m at *;generalize rs.length=n at *;clear hR hz hC hcA hm
    go_enter iy,iK;go_wp2_with (first|(go_at_call 177;refine hE.mono ?_;rintro e w1 ⟨rfl,rfl⟩)|(go_at_call 167;refine hC'.mono ?_;rintro e w2 ⟨q,rfl,hb2,hq⟩;have hqi:¬(q:Int)<=20000:=by omega))
    go_ret;exact⟨decide ((q:Int)<=20000),rfl,HB.out _ hb2,fun h=>absurd (of_decide_eq_true h) (by omega),fun h=>absurd h HS.out⟩
 .have HS:T (¬SizeOk lo rs):=fun h=>h8 h.loose;have h8i:¬(lo.length:Int)<8:=by omega
  generalize lo.length=m at *;generalize rs.length=n at *;clear hR hz hC hcA hE
  go_enter iy,iK;go_wp2;go_ret;exact⟨F,rfl,hbA,by simp;exact HS.out⟩
theorem Px(g g1:Nat)(sv u:J)(ss:List (List Int))(l:List Int)(w0 w:U)(hb0:X w0.heap.size w0 w)(h1:ss.length<=20000)(hS:LisVU w0 sv ss)(hu:IntsVU w0 u l)(c0:w.cell? ⟨g,0,Y⟩=S sv)(c1:w.cell? ⟨g,1,Y⟩=S (Z (S ⟨g1,0,Y⟩) 1 1))(c2:w.cell? ⟨g1,0,Y⟩=S u)(hg1:g1<w.heap.size) :
  I qA 160 #[Z (S ⟨g,0,Y⟩) 2 2] w fun e w'=>∃ao cap,e=V (Z ao (ss++[l]).length cap)/\X w.heap.size w w'/\T (LisVU w' (Z ao (ss++[l]).length cap) (ss++[l])/\((ss++[l]).length=1->∀b off,ao=S ⟨b,off,Y⟩->w'.cell? ⟨b,off,Y⟩=S u)):=by
 have hL:Cd (fun v l=>IntsVU w v l/\((ss++[l]).length=1->v=u)) w (Z (S ⟨g1,0,Y⟩) 1 1) [l]:=⟨[u],_,1,rfl,⟨by simp,fun h=>by simp at h⟩,rfl,fun i hi=>by simp at hi;subst hi;exact⟨hu.below hb0,fun _=>rfl⟩,fun _=>⟨g1,0,rfl,hg1,fun i hi=>by simp at hi;subst hi;exact c2⟩⟩;have hS':Cd (fun v l=>IntsVU w v l/\((ss++[l]).length=1->v=u)) w sv ss:=by
  obtain⟨us,ao,cap,q1,q2,q3,q4,q5⟩:=hS.below hb0;exact⟨us,ao,cap,q1,q2,q3,fun i hi=>⟨q4 i hi,fun h=>by simp at h;subst h;simp at hi⟩,q5⟩
 refine(Ip _ (fun _ _ h=>h.1.shape) g sv _ ss [l] w w (qD _ _) h1 (by simp) (by simp) hS' hL c0 c1).mono fun e w' ⟨C,cap,e1,e2,e3⟩=>?_;obtain⟨us,e4,e5⟩:=e3.out;refine⟨_,cap,by rw[qF];exact e1,e2,?_⟩;show LisVU _ _ _/\_;rw[qF];refine⟨JC e4 ⟨e5.1,fun i hi=>(e5.2 i hi).1.below e2⟩,fun h b off e=>?_⟩;injection e with e;injection e with e6 e7;subst e6 e7;have hn:us.length=1:=by rw[e5.1,qF];exact h
 have e4':=e4;rw[show us.length=ss.length + [l].length by rw[e5.1,qF]]at e4';rw[e4'.cellAt 0 (by simp)];have h9:=(e5.2 0 (by rw[qF];omega)).2 (by simpa using h);rw[qC,qH (by omega),Option.getD_some]at h9;rw[qH (by omega),h9]
theorem KD(w1:U)(u sv:J)(t1 t2:TypeId):X w1.heap.size w1 ((w1.alloc (O #[u] t1)).alloc (O #[sv,Z (S ⟨w1.heap.size,0,Y⟩) 1 1] t2))/\w1.heap.size<((w1.alloc (O #[u] t1)).alloc (O #[sv,Z (S ⟨w1.heap.size,0,Y⟩) 1 1] t2)).heap.size/\((w1.alloc (O #[u] t1)).alloc (O #[sv,Z (S ⟨w1.heap.size,0,Y⟩) 1 1] t2)).cell? ⟨w1.heap.size,0,Y⟩=S u/\((w1.alloc (O #[u] t1)).alloc (O #[sv,Z (S ⟨w1.heap.size,0,Y⟩) 1 1] t2)).cell? ⟨w1.heap.size+1,0,Y⟩=S sv/\((w1.alloc (O #[u] t1)).alloc (O #[sv,Z (S ⟨w1.heap.size,0,Y⟩) 1 1] t2)).cell? ⟨w1.heap.size+1,1,Y⟩=S (Z (S ⟨w1.heap.size,0,Y⟩) 1 1):=by
 refine⟨(ai).alloc (by simp) _,by simp;omega,?_,?_,?_⟩<;>simp[go_sem]
theorem SizeOk.flat{lo:List Int}{rs:List (List Int)}(h:SizeOk lo rs):(rs++[up lo]).flatten.length<=20000:=by rw[Ee,qF,F6];have:=h.many;omega
theorem Lr(lo:List Int)(rs:List (List Int))(la ra:Option Addr)(lc rc:Nat)(w:U)(hs:SizeOk lo rs)(hL:IntsVU w (Z la lo.length lc) lo)(hR:LisVU w (Z ra rs.length rc) rs) :
  I qA 130 #[t #[Z la lo.length lc,Z ra rs.length rc]] w fun e w'=>∃ao cap,e=V (Z ao (tog (rs++[up lo])).length cap)/\X w.heap.size w w'/\T (Ac w' w.heap.size (Z ao (tog (rs++[up lo])).length cap) (tog (rs++[up lo]))):=by
 obtain⟨hbA,hcA⟩:=Bc.arg w (Z la lo.length lc) (Z ra rs.length rc) 161;obtain⟨W0,hW0⟩:∃W0,W0=w.alloc (O #[Z la lo.length lc,Z ra rs.length rc] 161):=⟨_,rfl⟩;rw[<-hW0]at hbA hcA;have hr20:=hs.runs;have HSt:T (∀w1,X W0.heap.size W0 w1->w1.cell? ⟨w.heap.size,0,Y⟩=S (Z la lo.length lc)/\w1.cell? ⟨w.heap.size,1,Y⟩=S (Z ra rs.length rc)):=fun w1 h=>(hcA.later h).2;have HRi:T (∀w1,X W0.heap.size W0 w1->I qA 161 #[Z la lo.length lc] w1 fun e w'=>∃ao cap,e=V (Z ao lo.length cap)/\X w1.heap.size w1 w'/\T (Ac w' w.heap.size (Z ao lo.length cap) (up lo))):=fun w1 h=>(NL _ lo w1 (by have:=hs.loose;omega) (hL.below (ae hbA h))).mono fun e w' ⟨ao,cap,h1,h2,h3⟩=>⟨ao,cap,h1,h2,(AZ.n (show AZ w' w1.heap.size (Z ao lo.length cap) (up lo)from h3.out)).mono (qI hbA.size h.size)⟩;have HCo:T (∀(w1 w2:U) (g g1:Nat) (u:J),X W0.heap.size W0 w1->X w1.heap.size w1 w2->Ac w1 w.heap.size u (up lo)->g1<w2.heap.size->w2.cell? ⟨g1,0,Y⟩=S u->w2.cell? ⟨g,0,Y⟩=S (Z ra rs.length rc)->w2.cell? ⟨g,1,Y⟩=S (Z (S ⟨g1,0,Y⟩) 1 1)->I qA 160 #[Z (S ⟨g,0,Y⟩) 2 2] w2 fun e w'=>∃ao cap,e=V (Z ao (rs++[up lo]).length cap)/\X w2.heap.size w2 w'/\T (LisVU w' (Z ao (rs++[up lo]).length cap) (rs++[up lo])/\((rs++[up lo]).length=1->∀b off,ao=S ⟨b,off,Y⟩->w'.cell? ⟨b,off,Y⟩=S u))):=fun w1 w2 g g1 u hb1 hb2 hu hg c2 c0 c1=>Px g g1 _ u rs (up lo) w1 w2 hb2 hr20 (hR.below (ae hbA hb1)) hu.1 c0 c1 c2 hg;have HTo:T (∀(ao:Option Addr) (cap:Nat) (u:J) (w1 w2:U),LisVU w2 (Z ao (rs++[up lo]).length cap) (rs++[up lo])/\((rs++[up lo]).length=1->∀b off,ao=S ⟨b,off,Y⟩->w2.cell? ⟨b,off,Y⟩=S u)->Ac w1 w.heap.size u (up lo)->X w1.heap.size w1 w2->w.heap.size<=w2.heap.size->I qA 159 #[Z ao (rs++[up lo]).length cap] w2 fun e w'=>∃ao cap,e=V (Z ao (tog (rs++[up lo])).length cap)/\X w2.heap.size w2 w'/\T (Ac w' w.heap.size (Z ao (tog (rs++[up lo])).length cap) (tog (rs++[up lo])))):=fun ao cap u w1 w2 h hu hbu hw2=>by
  refine(Nv _ ao cap (rs++[up lo]) w2 (qB _) (by simp) (by have:=hs.flat;omega) (by simp;omega) h.1).mono fun e w' ⟨xo,xc,h1,h2,h3,h4⟩=>⟨xo,xc,h1,h2,?_⟩;rcases h4.out with⟨h5,b,off,e5,c5⟩|h5
  .have h6:=h.2 h5 b off e5;rw[c5]at h6;injection h6 with h6;have h0:rs=[]:=by rw[qF]at h5;exact jH.1 (by simpa using h5)
   have e8:tog (rs++[up lo])=up lo:=by rw[FO (yZ h5),h0];rfl
   show Ac _ _ _ _;rw[h6,e8];exact(hu.below hbu).below h2
  .exact h5.n.mono hw2
 have hB0:X W0.heap.size W0 W0:=qD _ _;generalize(tog (rs++[up lo])).length=tn at *;generalize(rs++[up lo]).length=cn at *;generalize rs.length=n at *;generalize lo.length=m at *;clear hL hR hs hcA hr20
 go_enter Tryz.func130,Tryz.ntmps130;go_wp2_with fail
 rw[<-hW0];clear hW0;go_region_held3 (fun w'=>w'.cell? ⟨w.heap.size,0,Y⟩=S (Z la m lc)/\w'.cell? ⟨w.heap.size,1,Y⟩=S (Z ra n rc))
  (first|exact HSt.out _ (by first|exact hB0|exact hB0.drew|exact hb01|exact hb02|exact hb03)|exact HSt.out _ (by first|exact hB0|exact hB0.drew|exact hb01|exact hb02)|exact HSt.out _ (by first|exact hB0|exact hB0.drew|exact hb01)|exact HSt.out _ (by first|exact hB0|exact hB0.drew)|exact HSt.out _ (hb01.trans (hbx.1.mono hb01.size))|exact HSt.out _ (hb01.alloc hb01.size _))
  (first
   |(go_at_call 161;refine(HRi.out _ hB0.drew).mono ?_;rintro e w1 ⟨xo1,xc1,rfl,hb1,hx1⟩;have hb01:=hB0.drew.trans (hb1.mono hB0.drew.size);have hbx:=KD w1 (Z xo1 m xc1) (Z ra n rc) 43 42)
   |(go_at_call 160;refine(HCo.out w1 _ (w1.heap.size+1) w1.heap.size _ hb01 hbx.1 hx1.out hbx.2.1 hbx.2.2.1 hbx.2.2.2.1 hbx.2.2.2.2).mono ?_;rintro e w2 ⟨xo2,xc2,rfl,hb2,hx2⟩;have hb01b:=hb01.trans (hbx.1.mono hb01.size);have hb02:=ae hb01b hb2;have hb12:=hbx.1.trans (hb2.mono hbx.1.size))
   |(go_at_call 159;refine(HTo.out _ _ _ w1 _ hx2.out hx1.out hb12 (qI hbA.size hb02.size)).mono ?_;rintro e w3 ⟨xo3,xc3,rfl,hb3,hx3⟩;have hb03:=ae hb02 hb3))
 go_wp2_with fail
 go_ret;exact⟨xo3,xc3,rfl,ae hbA hb03,hx3⟩
theorem K1(lo:List Int)(rs:List (List Int))(la ra:Option Addr)(lc rc:Nat)(w:U)(hz:StSzU lo rs)(hL:IntsVU w (Z la lo.length lc) lo)(hR:LisVU w (Z ra rs.length rc) rs) :
  I qA 129 #[t #[Z la lo.length lc,Z ra rs.length rc]] w fun e w'=>e=V (M L (sC lo rs))/\X w.heap.size w w':=by
 obtain⟨hbA,hcA⟩:=Bc.arg w (Z la lo.length lc) (Z ra rs.length rc) 161;obtain⟨_,a0,a1⟩:=id hcA;have hS:=VU lo rs la ra lc rc _ hz (hR.below hbA);have HB:T (∀w1,X (w.alloc (O #[Z la lo.length lc,Z ra rs.length rc] 161)).heap.size (w.alloc (O #[Z la lo.length lc,Z ra rs.length rc] 161)) w1->X w.heap.size w w1/\w1.cell? ⟨w.heap.size,0,Y⟩=S (Z la lo.length lc)/\w1.cell? ⟨w.heap.size,1,Y⟩=S (Z ra rs.length rc)):=fun w1 h=>⟨ae hbA h,(hcA.later h).2⟩;by_cases hs:SizeOk lo rs
 .have hS':I qA 157 #[t #[Z la lo.length lc,Z ra rs.length rc]] (w.alloc (O #[Z la lo.length lc,Z ra rs.length rc] 161)) fun e w'=>e=V (A true)/\X (w.alloc (O #[Z la lo.length lc,Z ra rs.length rc] 161)).heap.size (w.alloc (O #[Z la lo.length lc,Z ra rs.length rc] 161)) w':=hS.mono fun e w' ⟨s,h1,h2,h3⟩=>⟨by rw[h1,h3.2 hs],h2⟩;have HK:T (∀w1,X w.heap.size w w1->I qA 130 #[t #[Z la lo.length lc,Z ra rs.length rc]] w1 fun e w'=>∃ao cap,e=V (Z ao (tog (rs++[up lo])).length cap)/\X w1.heap.size w1 w'/\T (IntsVU w' (Z ao (tog (rs++[up lo])).length cap) (tog (rs++[up lo])))):=fun w1 h=>(Lr lo rs la ra lc rc w1 hs (hL.below h) (hR.below h)).mono fun e w' ⟨a,c,q1,q2,q3⟩=>⟨a,c,q1,q2,q3.out.1⟩;have hlen:(tog (rs++[up lo])).length<=140737488355328:=by rw[J8];have:=hs.flat;omega
  have HN:T (∀(ao:Option Addr) (cap:Nat) (w1:U),IntsVU w1 (Z ao (tog (rs++[up lo])).length cap) (tog (rs++[up lo]))->I qA 158 #[Z ao (tog (rs++[up lo])).length cap] w1 fun e w'=>e=V (A (nrB (-1) (tog (rs++[up lo]))))/\X w1.heap.size w1 w'):=fun ao cap w1 h=>TL ao cap _ w1 hlen h;have hcode:sC lo rs=if nrB (-1) (tog (rs++[up lo]))=true then 9 else 0:=by
   cases hb:nrB (-1) (tog (rs++[up lo]))with
   |true=>rw[Ho (fun h=>by rw[(JF hs).2 h]at hb;cases hb)];rfl
   |false=>rw[F1 ((JF hs).1 hb)];rfl
  rw[hcode];generalize nrB (-1) (tog (rs++[up lo]))=o at *;generalize(tog (rs++[up lo])).length=tn at *;generalize rs.length=n at *;generalize lo.length=m at *;clear hL hR hS hcA hz hcode hlen
  cases o
  all_goals
   go_enter iw,iJ;go_wp2_with (first|(go_at_call 157;refine hS'.mono ?_;rintro e w1 ⟨rfl,hb1⟩;obtain⟨hw1,q0,q1⟩:=HB.out w1 hb1;have hk:=HK.out w1 hw1)|(go_at_call 130;refine hk.mono ?_;rintro e w2 ⟨ko,kc,rfl,hb2,hx2⟩;have hw2:=ae hw1 hb2;have hnr:=HN.out ko kc w2 hx2.out)|(go_at_call 158;refine hnr.mono ?_;rintro e w3 ⟨rfl,hb3⟩;have hw3:=ae hw2 hb3))
   go_ret;exact⟨by rfl,hw3⟩
 .have hS':I qA 157 #[t #[Z la lo.length lc,Z ra rs.length rc]] (w.alloc (O #[Z la lo.length lc,Z ra rs.length rc] 161)) fun e w'=>e=V (A F)/\X (w.alloc (O #[Z la lo.length lc,Z ra rs.length rc] 161)).heap.size (w.alloc (O #[Z la lo.length lc,Z ra rs.length rc] 161)) w':=hS.mono fun e w' ⟨s,h1,h2,h3⟩=>⟨by cases s with|false=>exact h1|true=>exact absurd (h3.1 rfl) hs,h2⟩;have HC:T (sC lo rs=9):=Ho fun h=>hs h.size;generalize rs.length=n at *;generalize lo.length=m at *;clear hL hR hS hcA hz;rw[HC.out]
  go_enter iw,iJ;go_wp2_with (first|(go_at_call 157;refine hS'.mono ?_;rintro e w1 ⟨rfl,hb1⟩;obtain⟨hw1,q0,q1⟩:=HB.out w1 hb1))
  go_ret;exact⟨rfl,hw1⟩
def FT(w:U)(l:List Int)(c:Int)(e:Ending)(w':U):Prop:=∃ao cap,e=V (ZY #[Z ao l.length cap,M L c])/\X w.heap.size w w'/\T (Ac w' w.heap.size (Z ao l.length cap) l)
open Classical in
noncomputable def Fb(lo:List Int)(rs:List (List Int)):List Int:=if May lo rs then up (AR lo rs)else []
theorem IU{lo:List Int}{rs:List (List Int)}(h:May lo rs):Fb lo rs=up (AR lo rs):=by unfold Fb;rw[aj h]
theorem Ol{lo:List Int}{rs:List (List Int)}(h:¬May lo rs):Fb lo rs=[]:=by unfold Fb;rw[ak h]
theorem Kh(lo:List Int)(rs:List (List Int))(la ra:Option Addr)(lc rc:Nat)(w:U)(hz:StSzU lo rs)(hL:IntsVU w (Z la lo.length lc) lo)(hR:LisVU w (Z ra rs.length rc) rs) :
    I qA 97 #[t #[Z la lo.length lc,Z ra rs.length rc]] w (FT w (Fb lo rs) (sC lo rs)):=by
  obtain⟨hbA,hcA⟩:=Bc.arg w (Z la lo.length lc) (Z ra rs.length rc) 161;obtain⟨_,a0,a1⟩:=id hcA;have hC:=K1 lo rs la ra lc rc _ hz (hL.below hbA) (hR.below hbA);have HB:T (∀w1,X (w.alloc (O #[Z la lo.length lc,Z ra rs.length rc] 161)).heap.size (w.alloc (O #[Z la lo.length lc,Z ra rs.length rc] 161)) w1->X w.heap.size w w1/\w1.cell? ⟨w.heap.size,0,Y⟩=S (Z la lo.length lc)/\w1.cell? ⟨w.heap.size,1,Y⟩=S (Z ra rs.length rc)):=fun w1 h=>⟨ae hbA h,(hcA.later h).2⟩;by_cases hm:May lo rs
  . have HK:T (∀w1,X w.heap.size w w1->I qA 130 #[t #[Z la lo.length lc,Z ra rs.length rc]] w1 fun e w'=>∃ao cap,e=V (Z ao (up (AR lo rs)).length cap)/\X w1.heap.size w1 w'/\T (Ac w' w.heap.size (Z ao (up (AR lo rs)).length cap) (up (AR lo rs)))):=fun w1 h=>by
      have:=Lr lo rs la ra lc rc w1 hm.size (hL.below h) (hR.below h);rw[WK hm]at this;exact this.mono fun e w' ⟨a,c,q1,q2,q3⟩=>⟨a,c,q1,q2,q3.out.mono h.size⟩
    rw[F1 hm]at hC⊢;rw[IU hm];have HP:T (∀(ao:Option Addr) (cap:Nat) (w2:U),X w.heap.size w w2->Ac w2 w.heap.size (Z ao (up (AR lo rs)).length cap) (up (AR lo rs))->FT w (up (AR lo rs)) 0 (V (ZY #[Z ao (up (AR lo rs)).length cap,M L 0])) w2):=fun ao cap w2 h1 h2=>⟨ao,cap,rfl,h1,h2⟩;generalize(up (AR lo rs)).length=kn at *;generalize rs.length=n at *;generalize lo.length=m at *;clear hL hR hcA hz hm
    go_enter iI,iU;go_wp2_with (first|(go_at_call 129;refine hC.mono ?_;rintro e w1 ⟨rfl,hb1⟩;obtain⟨hw1,q0,q1⟩:=HB.out w1 hb1;have hk:=HK.out w1 hw1)|(go_at_call 130;refine hk.mono ?_;rintro e w2 ⟨ko,kc,rfl,hb2,hx2⟩;have hw2:=ae hw1 hb2))
    go_ret2;exact HP.out ko kc w2 hw2 hx2.out
  . rw[Ho hm]at hC⊢
    rw[Ol hm];have HP:T (∀(w2:U),X w.heap.size w w2->FT w [] 9 (V (ZY #[Z Y 0 0,M L 9])) w2):=fun w2 h1=>⟨Y,0,rfl,h1,Ac.nil _ _⟩;generalize rs.length=n at *;generalize lo.length=m at *;clear hL hR hcA hz hm
    go_enter iI,iU;go_wp2_with (first|(go_at_call 129;refine hC.mono ?_;rintro e w1 ⟨rfl,hb1⟩;obtain⟨hw1,q0,q1⟩:=HB.out w1 hb1))
    go_ret2;exact HP.out w1 hw1
theorem Oq(x:Int)(rs:List (List Int)):rs.any (Ch x)=decide (x∈rs.flatten):=by
 rw[jS,vD,decide_eq_true_eq,List.mem_flatten];simp[Ch]
theorem RK(lo:List Int)(rs:List (List Int))(x:Int)(la ra:Option Addr)(lc rc:Nat)(w:U)(hm:May lo rs)(hL:IntsVU w (Z la lo.length lc) lo)(hR:LisVU w (Z ra rs.length rc) rs) :
  I qA 183 #[t #[Z la lo.length lc,Z ra rs.length rc],M L x] w fun e w'=>e=V (A (decide (x∈AR lo rs)))/\X w.heap.size w w':=by
 obtain⟨hbA,hcA⟩:=Bc.arg w (Z la lo.length lc) (Z ra rs.length rc) 161;have hbB:X w.heap.size w ((w.alloc (O #[Z la lo.length lc,Z ra rs.length rc] 161)).alloc (O #[M L x] 3)):=hbA.alloc hbA.size _;obtain⟨_,a0,a1⟩:=hcA.later ((qD _ _).alloc (qB _) (O #[M L x] 3));have hcx:Bt ((w.alloc (O #[Z la lo.length lc,Z ra rs.length rc] 161)).alloc (O #[M L x] 3)) (w.heap.size+1) x:=⟨by simp,by simp[go_sem],by simp[go_sem]⟩;have hK:=P3 la lc lo x _ (by have:=hm.size.loose;omega) (hL.below hbB);have hH:=P2 (w.heap.size+1) x ra rc rs _ (by have:=hm.size.runs;omega) (fun r hr=>⟨by have:=El hr;have:=hm.size.many;omega,Js (hm.rise r hr)⟩) (hR.below hbB) hcx;have hxc:w.heap.size+1<((w.alloc (O #[Z la lo.length lc,Z ra rs.length rc] 161)).alloc (O #[M L x] 3)).heap.size:=hcx.1;obtain⟨_,x0,_⟩:=hcx;rw[Oq]at hH;have HB:T (∀w1,X ((w.alloc (O #[Z la lo.length lc,Z ra rs.length rc] 161)).alloc (O #[M L x] 3)).heap.size ((w.alloc (O #[Z la lo.length lc,Z ra rs.length rc] 161)).alloc (O #[M L x] 3)) w1->X w.heap.size w w1):=fun w1 h=>ae hbB h;have hdec:decide (x∈AR lo rs)=(decide (x∈lo)||decide (x∈rs.flatten)):=by
  rw[jS,decide_eq_true_eq,jI,decide_eq_true_eq,decide_eq_true_eq,AR,qL,or_comm]
 rw[hdec];generalize decide (x∈lo)=o1 at *;generalize decide (x∈rs.flatten)=o2 at *;generalize rs.length=n at *;generalize lo.length=m at *;clear hL hR hm hdec
 cases o1
 .go_enter iF,iR;go_wp2_with (first|(go_at_call 195;refine hK.mono ?_;rintro e w1 ⟨rfl,rfl⟩)|(go_at_call 177;refine hH.mono ?_;rintro e w2 ⟨rfl,hb2⟩))
  go_ret;exact⟨by first|rfl|simp,HB.out _ hb2⟩
 .go_enter iF,iR;go_wp2_with (first|(go_at_call 195;refine hK.mono ?_;rintro e w1 ⟨rfl,rfl⟩))
  go_ret;exact⟨by first|rfl|simp,hbB⟩
open Classical in
noncomputable def Bq(lo:List Int)(rs:List (List Int))(x:Int):Bool×Int:=if May lo rs then(if 0<=x/\x<=2147483647 then(decide (x∈AR lo rs),0)else(F,2))else(F,9)
theorem Fk(lo:List Int)(rs:List (List Int))(x:Int)(la ra:Option Addr)(lc rc:Nat)(w:U)(hz:StSzU lo rs)(hL:IntsVU w (Z la lo.length lc) lo)(hR:LisVU w (Z ra rs.length rc) rs) :
  I qA 164 #[t #[Z la lo.length lc,Z ra rs.length rc],M L x] w fun e w'=>e=V (ZY #[A (Bq lo rs x).1,M L (Bq lo rs x).2])/\X w.heap.size w w':=by
 obtain⟨hbA,hcA⟩:=Bc.arg w (Z la lo.length lc) (Z ra rs.length rc) 161;obtain⟨_,a0,a1⟩:=id hcA;have hC:=K1 lo rs la ra lc rc _ hz (hL.below hbA) (hR.below hbA);have HB:T (∀w1,X (w.alloc (O #[Z la lo.length lc,Z ra rs.length rc] 161)).heap.size (w.alloc (O #[Z la lo.length lc,Z ra rs.length rc] 161)) w1->X w.heap.size w w1/\w1.cell? ⟨w.heap.size,0,Y⟩=S (Z la lo.length lc)/\w1.cell? ⟨w.heap.size,1,Y⟩=S (Z ra rs.length rc)):=fun w1 h=>⟨ae hbA h,(hcA.later h).2⟩;by_cases hm:May lo rs
 .rw[F1 hm]at hC;by_cases hx0:x<0
  .rw[show Bq lo rs x=(F,2) by unfold Bq;rw[aj hm,ak (by omega)]];generalize rs.length=n at *;generalize lo.length=m at *;clear hL hR hcA hz hm
   go_enter iA,iM;go_wp2_with (first|(go_at_call 129;refine hC.mono ?_;rintro e w1 ⟨rfl,hb1⟩;obtain⟨hw1,q0,q1⟩:=HB.out w1 hb1))
   go_ret2;exact⟨rfl,hw1⟩
  .by_cases hx1:2147483647<x
   .rw[show Bq lo rs x=(F,2) by unfold Bq;rw[aj hm,ak (by omega)]];generalize rs.length=n at *;generalize lo.length=m at *;clear hL hR hcA hz hm
    go_enter iA,iM;go_wp2_with (first|(go_at_call 129;refine hC.mono ?_;rintro e w1 ⟨rfl,hb1⟩;obtain⟨hw1,q0,q1⟩:=HB.out w1 hb1))
    go_ret2;exact⟨rfl,hw1⟩
   .rw[show Bq lo rs x=(decide (x∈AR lo rs),0) by unfold Bq;rw[aj hm,aj (by omega)]];have HH:T (∀w1,X w.heap.size w w1->I qA 183 #[t #[Z la lo.length lc,Z ra rs.length rc],M L x] w1 fun e w'=>e=V (A (decide (x∈AR lo rs)))/\X w1.heap.size w1 w'):=fun w1 h=>RK lo rs x la ra lc rc w1 hm (hL.below h) (hR.below h);generalize decide (x∈AR lo rs)=o at *;generalize rs.length=n at *;generalize lo.length=m at *;clear hL hR hcA hz hm
    go_enter iA,iM;go_wp2_with (first|(go_at_call 129;refine hC.mono ?_;rintro e w1 ⟨rfl,hb1⟩;obtain⟨hw1,q0,q1⟩:=HB.out w1 hb1;have hh:=HH.out w1 hw1)|(go_at_call 183;refine hh.mono ?_;rintro e w2 ⟨rfl,hb2⟩))
    go_ret2;exact⟨rfl,ae hw1 hb2⟩
 .rw[Ho hm]at hC;rw[show Bq lo rs x=(F,9) by unfold Bq;rw[ak hm]];generalize rs.length=n at *;generalize lo.length=m at *;clear hL hR hcA hz hm
  go_enter iA,iM;go_wp2_with (first|(go_at_call 129;refine hC.mono ?_;rintro e w1 ⟨rfl,hb1⟩;obtain⟨hw1,q0,q1⟩:=HB.out w1 hb1))
  go_ret2;exact⟨rfl,hw1⟩
section
variable{W:U}
theorem M4{ops:Array Oper}{rest:List Oper}{o:Oper}{a:Act}{Q:Exit->Act->U->Prop}(y:Int)(hgd:o.guard=Y)(s x:Operand)
  (ho:o.op=.call { callee:=.builtin .append,args:=#[s,x],argTypes:=#[43,43]})
  (base n cap:Nat) (vo:Option Addr) (xs:List J) (hs:a.eval s=Z vo n cap) (hown:W.ownsRow base 3 1 (Z vo n cap) n xs) (hx:a.eval x=Z (S ⟨W.heap.size,0,Y⟩) 1 1)
  (hsz:(n+1)*8<=140737488355328) (hbase:base<=W.heap.size)
  (h:∀vo' cap' w',w'.ownsRow base 3 1 (Z vo' (n+1) cap') (n+1) (xs++[M L y])->X base W w'->(W.alloc (O #[M L y] 3)).grownBy w' (Value.slice vo n cap).ownBlock->wpList qA ops Q rest (a.put o.dst (Z vo' (n+1) cap')) w'):wpList qA ops Q (o::rest) a (W.alloc (O #[M L y] 3)):=by
 obtain⟨i0,hi,hz0,hz1,hz2⟩:=info_parts BS;refine wpList_append_own _ hgd s x 43 ho base 3 i0 (M L 0) 1 8 aD hi hz0 hz1 hz2 rfl (by decide) (Z vo n cap) n xs hs (hown.alloc _) ⟨W.heap.size,0,Y⟩ 1 1 [M L y] hx rfl (FH _ _ _) (by simp[Value.oneCell']) (by unfold maxLen;omega) hsz (qI hbase (by simp)) ?_;intro v' w4 hown' hgrow _;obtain⟨a4,c4,rfl⟩:=Au hown';exact h a4 c4 w4 hown' (((qD base W).alloc hbase _).grown hgrow (qI hbase (by simp)) (fun q hq=>(hown.lt q hq).1)) hgrow
end
theorem AZ.shape{w:U}{base:Nat}{v:J}{l:List Int}(h:AZ w base v l):∃ao cap,v=Z ao l.length cap:=h.v.shape
theorem LisO.len{w:U}{base n cap:Nat}{ao:Option Addr}{rs:List (List Int)}(h:LisO w base (Z ao n cap) rs):rs.length=n:=h.v.len
section
variable{W:U}
theorem UA{ops:Array Oper}{rest:List Oper}{o:Oper}{a:Act}{Q:Exit->Act->U->Prop}(u:J)(rs:List (List Int))(l:List Int)(hgd:o.guard=Y)(s x:Operand)
  (ho:o.op=.call { callee:=.builtin .append,args:=#[s,x],argTypes:=#[42,42]})
  (base n cap:Nat) (vo:Option Addr) (hs:a.eval s=Z vo n cap) (hL:LisO W base (Z vo n cap) rs) (hu:AZ W base u l) (hx:a.eval x=Z (S ⟨W.heap.size,0,Y⟩) 1 1)
  (hsz:(n+1)*24<=140737488355328) (hbase:base<=W.heap.size)
  (h:∀vo' cap' w',LisO w' base (Z vo' (n+1) cap') (rs++[l])->X base W w'->wpList qA ops Q rest (a.put o.dst (Z vo' (n+1) cap')) w'):wpList qA ops Q (o::rest) a (W.alloc (O #[u] 43)):=by
 obtain⟨i0,hi,hz0,hz1,hz2⟩:=info_parts D7;obtain⟨us,h1,h2,h3⟩:=id hL;have hn:=hL.len;subst hn;obtain⟨uo,uc,rfl⟩:=hu.shape;refine wpList_append_own _ hgd s x 42 ho base 43 i0 (Z Y 0 0) 1 24 iV hi hz0 hz1 hz2 rfl (by decide) (Z vo rs.length cap) rs.length us hs (h1.alloc _) ⟨W.heap.size,0,Y⟩ 1 1 [Z uo l.length uc] hx rfl (FH _ _ _) (by simp[Value.oneCell']) (by unfold maxLen;omega) hsz (qI hbase (by simp)) ?_;intro v' w4 hown' hgrow _;obtain⟨a4,c4,rfl⟩:=Au hown';exact h a4 c4 w4 (LisO.snoc (w:=W.alloc (O #[Z uo l.length uc] 43)) (h1.alloc _) h2 (fun i hi=>(h3 i hi).alloc _) (fk.alloc hu _) hown' hgrow) (((qD base W).alloc hbase _).grown hgrow (qI hbase (by simp)) (fun q hq=>(h1.lt q hq).1))
end
theorem IntsVU.setBox{w:U}{v:J}{l:List Int}{p:Addr}{a:Option Addr}{n c:Nat}(h:IntsVU w v l)(hc:w.cell? p=S (Z a n c))(u:J):IntsVU (w.setCell p u) v l:=by
 obtain⟨ao,cap,rfl,h0,h⟩:=h;refine⟨ao,cap,rfl,h0,fun hne=>?_⟩;obtain⟨b,off,rfl,hlt,hat⟩:=h hne;refine⟨b,off,rfl,by simpa using hlt,fun i hi=>?_⟩;have hne:(⟨b,off+i,Y⟩:Addr)≠p:=by
  rintro rfl;rw[hat i hi]at hc;cases hc
 rw[World.cell?_setCell_other _ _ _ _ hne.symm];exact hat i hi
theorem Ac.setBox{w:U}{B:Nat}{v:J}{l:List Int}{p:Addr}{a:Option Addr}{n c:Nat}(h:Ac w B v l)(hc:w.cell? p=S (Z a n c))(u:J):Ac (w.setCell p u) B v l:=⟨h.1.setBox hc u,h.2⟩
def Bd(w:U)(base:Nat)(v:J)(rs:List (List Int)):Prop:=∃us,w.ownsRow base 43 1 v rs.length us/\Ba (Ac w base) us rs
theorem LisO.x{w:U}{base:Nat}{v:J}{rs:List (List Int)}(h:LisO w base v rs):Bd w base v rs:=by
 obtain⟨us,h1,h2,h3⟩:=h;exact⟨us,h1,h2,fun i hi=>(show AZ w base _ _ from h3 i hi).n⟩
theorem Bd.mono{w:U}{base base':Nat}{v:J}{rs:List (List Int)}(h:Bd w base v rs)(hb:base'<=base):Bd w base' v rs:=by
 obtain⟨us,h1,h2,h3⟩:=h;exact⟨us,Az h1 hb,h2,fun i hi=>(h3 i hi).mono hb⟩
theorem Bd.nil(w:U)(base:Nat):Bd w base (Z Y 0 0) []:=(LisO.nil w base).x
theorem Bd.setBox{w:U}{base:Nat}{v:J}{rs:List (List Int)}{p:Addr}{a:Option Addr}{n c:Nat}(h:Bd w base v rs)(hp:p.block<base)(hc:w.cell? p=S (Z a n c))(u:J):Bd (w.setCell p u) base v rs:=by
 obtain⟨us,h1,h2,h3⟩:=h;exact⟨us,Tq h1 hp u,h2,fun i hi=>(h3 i hi).setBox hc u⟩
section
variable{W:U}
theorem M6{ops:Array Oper}{rest:List Oper}{o:Oper}{a:Act}{Q:Exit->Act->U->Prop}(u:J)(rs:List (List Int))(l:List Int)(w0:U)(hgd:o.guard=Y)(s x:Operand)
  (ho:o.op=.call { callee:=.builtin .append,args:=#[s,x],argTypes:=#[42,42]})
  (base n cap:Nat) (vo:Option Addr) (hs:a.eval s=Z vo n cap) (hL:LisO W base (Z vo n cap) rs) (B:Nat) (hBb:B<=base) (hu:Ac w0 B u l) (hw0:w0.heap.size<=base) (hb0:X w0.heap.size w0 W) (hx:a.eval x=Z (S ⟨W.heap.size,0,Y⟩) 1 1)
  (hsz:(n+1)*24<=140737488355328) (hbase:base<=W.heap.size)
  (h:∀vo' cap' w',Bd w' B (Z vo' (n+1) cap') (rs++[l])->X base W w'->wpList qA ops Q rest (a.put o.dst (Z vo' (n+1) cap')) w'):wpList qA ops Q (o::rest) a (W.alloc (O #[u] 43)):=by
 obtain⟨i0,hi,hz0,hz1,hz2⟩:=info_parts D7;obtain⟨us,h1,h2,h3⟩:=id hL;have hn:=hL.len;subst hn;obtain⟨uo,uc,rfl⟩:=hu.v.shape;refine wpList_append_own _ hgd s x 42 ho base 43 i0 (Z Y 0 0) 1 24 iV hi hz0 hz1 hz2 rfl (by decide) (Z vo rs.length cap) rs.length us hs (h1.alloc _) ⟨W.heap.size,0,Y⟩ 1 1 [Z uo l.length uc] hx rfl (FH _ _ _) (by simp[Value.oneCell']) (by unfold maxLen;omega) hsz (qI hbase (by simp)) ?_;intro v' w4 hown' hgrow _;obtain⟨a4,c4,rfl⟩:=Au hown';have hb4:X base W w4:=((qD base W).alloc hbase _).grown hgrow (qI hbase (by simp)) (fun q hq=>(h1.lt q hq).1);refine h a4 c4 w4 ⟨us++[Z uo l.length uc],by rw[qF];exact Az hown' hBb,by simp[h2],fun i hi=>?_⟩ hb4;rw[E8,E8,h2];by_cases hlt:i<rs.length
 .rw[aj hlt,aj hlt];exact(show AZ w4 base _ _ from fk.kept (fk.alloc (h3 i hlt) _) hgrow (En (by decide) (fk.alloc (h3 i hlt) (O #[Z uo l.length uc] 43)) (h1.alloc _))).n.mono hBb
 .rw[ak hlt,ak hlt];have:i=rs.length:=by simp at hi;omega
  subst this;rw[Nat.sub_self];exact hu.below (hb0.trans (hb4.mono hw0))
end
theorem Ff(ra:Option Addr)(rc:Nat)(rs:List (List Int))(w:U)(hl:rs.length<=20000)(hr:∀i,i<rs.length->(rs.getD i []).length<=20000)(hR:LisVU w (Z ra rs.length rc) rs) :
  I qA 166 #[Z ra rs.length rc] w fun e w'=>∃yo yc,e=V (Z yo rs.length yc)/\X w.heap.size w w'/\T (LisO w' w.heap.size (Z yo rs.length yc) rs):=by
 obtain⟨i0,hi,hz0,hz1,hz2⟩:=info_parts D7;obtain⟨n,hn⟩:∃n,rs.length=n:=⟨_,rfl⟩;have H:T (LisVU w (Z ra rs.length rc) rs):=hR;have HN:T (rs.length=n):=hn;have HCo:T (∀(i:Nat) (v:J) (w1:U),i<rs.length->IntsVU w1 v (rs.getD i [])->I qA 165 #[v] w1 fun e w'=>∃ao cap,e=V (Z ao (rs.getD i []).length cap)/\X w1.heap.size w1 w'/\T (w'.ownsRow w1.heap.size 3 1 (Z ao (rs.getD i []).length cap) (rs.getD i []).length (AB (rs.getD i [])))):=fun i v w1 h1 h2=>E5 v _ w1 (by have:=hr i h1;omega) h2;have HTk:T (∀k,k<rs.length->rs.take (k+1)=rs.take k++[rs.getD k []]):=fun k h=>F3 h [];have HAll:T (rs.take rs.length=rs):=vI;rw[hn]at hl H HAll⊢;clear hR hn hr;have hmk:∀w1:U,(Instr.makeSlice 42 (M L 0) (M L ((n:Int)+1))).run qA w1=.ok (Z (S ⟨w1.heap.size,0,Y⟩) 0 (n+1)) (w1.alloc (O (madeCells #[Z Y 0 0] (n+1)) 43)):=fun w1=>by
  have:=run_make (P:=qA) w1 42 43 i0 (Z Y 0 0) iV hi hz0 .i64 .i64 0 ((n:Int)+1) (xT _) (by omega) (by rw[hz2];omega) (by omega);have e:((n:Int)+1).toNat=n+1:=by omega
  rw[e]at this;simpa[hz1,Value.cells]using this
 have hO0:LisO (w.alloc (O (madeCells #[Z Y 0 0] (n+1)) 43)) w.heap.size (Z (S ⟨w.heap.size,0,Y⟩) 0 (n+1)) []:=⟨[],iq w _ (n+1) (qB _) (by unfold maxLen;omega) (by simp[size_madeCells]),rfl,fun i hi=>by simp at hi⟩;have HO0:T (LisO (w.alloc (O (madeCells #[Z Y 0 0] (n+1)) 43)) w.heap.size (Z (S ⟨w.heap.size,0,Y⟩) 0 (n+1)) []):=hO0;have HB0:T (X w.heap.size w (w.alloc (O (madeCells #[Z Y 0 0] (n+1)) 43))):=ai;clear hO0;go_enter Tryz.func166,Tryz.ntmps166;go_wp2;go_loopw [3,5,12] (fun u z i wr=>∃k:Nat,k<=n/\i=M L k/\(∃yo yc,u=Z yo k yc/\T (LisO wr w.heap.size (Z yo k yc) (rs.take k)))/\X w.heap.size w wr) (fun _ _ i _=>n-(intOf i).toNat)
 case atStart=>exact⟨0,qJ _,rfl,⟨_,_,rfl,HO0⟩,HB0.out⟩
 case round=>
  obtain⟨k,hk,rfl,⟨yo,yc,rfl,HO⟩,hB⟩:=hrel;by_cases hlt:k<n
  .have hlt2:k<rs.length:=by rw[HN.out];exact hlt
   obtain⟨b,off,rfl,hb,u,c1,hu⟩:=H.out.at hlt2;obtain⟨uo,uc,rfl⟩:=hu.shape;have c2:=(hB.cell (p:=⟨b,off+k,Y⟩) hb).trans c1;have hco:=HCo.out k _ wr hlt2 (hu.below hB);have HTk2:T (rs.take (k+1)=rs.take k++[rs.getD k []]):=HTk.out k hlt2;clear hu c1;generalize rs.getD k []=r at *
   have HRow:T (∀(w1:U) (b1:Nat) (v:J),w1.ownsRow b1 3 1 v r.length (AB r)->AZ w1 b1 v r):=fun w1 b1 v h=>h;generalize hrr:r.length=rn at *;clear hrr;have hsz:=hB.size
   go_wp2_with (first|(go_at_call 165;refine hco.mono ?_;rintro e w4 ⟨zo,zc,rfl,hb4,HZ⟩;have hl4:=HO.out.later hb4 (qB _);have hB4:=hB.trans (hb4.mono hsz))|(at_builtin;refine UA (Z zo rn zc) (rs.take k) r rfl _ _ rfl w.heap.size k yc yo rfl hl4 ((HRow.out _ _ _ HZ.out).mono hsz) rfl (by omega) hB4.size ?_;intro vo' cap' w5 hl5 hb5;rw[<-HTk2.out]at hl5;have HL5:T (LisO w5 w.heap.size (Z vo' (k+1) cap') (rs.take (k+1))):=hl5;have hB5:=hB4.trans hb5;clear hl5 hl4))
   go_roundw
   case rel=>exact⟨k+1,by omega,by go_num,⟨vo',cap',rfl,HL5⟩,hB5⟩
   case measure=>simp[intOf];omega
  .obtain rfl:k=n:=by omega
   rw[HAll.out]at HO;go_wp2;go_ret;exact⟨yo,yc,rfl,hB,HO⟩
theorem Ww(B:Nat)(ra uo:Option Addr)(rc uc:Nat)(rs:List (List Int))(run:List Int)(w:U)(hl:rs.length<=20000)(hf:rs.flatten.length+run.length<=20000)(hr:∀r∈rs,r.Pairwise (· < ·))(hd:(rs.flatten++run).Nodup)(hR:LisVU w (Z ra rs.length rc) rs)(hBw:B<=w.heap.size)(hU:Ac w B (Z uo run.length uc) (up run)) :
  I qA 168 #[Z ra rs.length rc,Z uo run.length uc] w fun e w'=>∃yo yc,e=V (Z yo (Cm rs run).length yc)/\X w.heap.size w w'/\T (Bd w' B (Z yo (Cm rs run).length yc) (Cm rs run)):=by
 obtain⟨n,hn⟩:∃n,rs.length=n:=⟨_,rfl⟩;obtain⟨m,hm⟩:∃m,run.length=m:=⟨_,rfl⟩;have HN:T (rs.length=n):=hn;have HM:T (run.length=m):=hm;have H:T (LisVU w (Z ra rs.length rc) rs):=hR;have HU:T (Ac w B (Z uo run.length uc) (up run)):=hU;have hstl:=Nk rs rs.length run.length;have hst:FL rs run.length=stay rs rs.length run.length:=rfl;obtain⟨st,hstE⟩:∃st,FL rs run.length=st:=⟨_,rfl⟩;have hst2:st<=n:=by rw[<-hstE,hst,<-hn];exact hstl
 have HS0:T (stay rs rs.length run.length=st):=hstE;have hlast:tog (rs.drop st++[up run])=up ((rs.drop st).flatten++run):=WJ hr hd st;have hra:Cm rs run=rs.take st++[tog (rs.drop st++[up run])]:=by unfold Cm;rw[hstE,hlast]
 have hfd:(rs.drop st).flatten.length+(rs.take st).flatten.length=rs.flatten.length:=by rw[Nat.add_comm,<-qF,<-vX,vC]
 have hlr:∀i,i<rs.length->(rs.getD i []).length<=20000:=fun i hi=>by have:=El (Dc hi []);omega
 have HLr:T (∀i,i<rs.length->(rs.getD i []).length<=20000):=hlr;have HTo:T (∀(g cap:Nat) (w1:U),w.heap.size<=w1.heap.size->(∃us,w1.ownsRow w.heap.size 43 1 (Z (S ⟨g,0,Y⟩) (rs.drop st++[up run]).length cap) us.length us/\Ba (fun v l=>IntsVU w1 v l/\(st=n->Ac w1 B v l)) us (rs.drop st++[up run]))->I qA 159 #[Z (S ⟨g,0,Y⟩) (rs.drop st++[up run]).length cap] w1 fun e w'=>∃ao cap,e=V (Z ao (tog (rs.drop st++[up run])).length cap)/\X w1.heap.size w1 w'/\T (Ac w' B (Z ao (tog (rs.drop st++[up run])).length cap) (tog (rs.drop st++[up run])))):=fun g cap w1 hw1 ⟨us,ho,hp⟩=>by
  have hul:us.length=(rs.drop st++[up run]).length:=hp.1;rw[hul]at ho;refine(Nv _ (S ⟨g,0,Y⟩) cap _ w1 (qB _) (by simp) (by rw[Ee,qF,F6];omega) (by simp;omega) (JC ho ⟨hp.1,fun i hi=>(hp.2 i hi).1⟩)).mono fun e w' ⟨xo,xc,h1,h2,h3,h4⟩=>⟨xo,xc,h1,h2,?_⟩;rcases h4.out with⟨h5,b,off,e5,c5⟩|h5
  .injection e5 with e5;injection e5 with e6 e7;subst e6 e7;have hst1:st=n:=by rw[qF,qO]at h5;simp at h5;omega
   have hc:=ho.cellAt 0 (by omega);rw[c5]at hc;have hu0:us.getD 0 DO=Z xo (tog (rs.drop st++[up run])).length xc:=by
    rw[qC,<-hc];rfl
   have h6:=(hp.2 0 (by omega)).2 hst1;rw[hu0]at h6;have e8:(rs.drop st++[up run]).getD 0 []=tog (rs.drop st++[up run]):=(FO (yZ h5)).symm;rw[e8]at h6;exact h6.below h2
  .exact h5.n.mono (qI hBw hw1)
 have HCp:T (∀(ao:Option Addr) (cap:Nat) (w1:U),LisVU w1 (Z ao (rs.take st).length cap) (rs.take st)->I qA 166 #[Z ao (rs.take st).length cap] w1 fun e w'=>∃yo yc,e=V (Z yo (rs.take st).length yc)/\X w1.heap.size w1 w'/\T (LisO w' w1.heap.size (Z yo (rs.take st).length yc) (rs.take st))):=fun ao cap w1 h=>Ff ao cap _ w1 (by rw[qP];omega) (fun i hi=>by rw[qP]at hi;rw[Gm _ (by omega)];exact hlr i (by omega)) h;have HFl:T (∀k,k<rs.length->(rs.drop k).flatten.length=(rs.getD k []).length+(rs.drop (k+1)).flatten.length):=fun k h=>by rw[Qi h,qF]
 have HTot:T (∀k,(rs.drop k).flatten.length<=rs.flatten.length):=fun k=>by
  have:(rs.take k).flatten.length+(rs.drop k).flatten.length=rs.flatten.length:=by rw[<-qF,<-vX,vC]
  omega
 have hB0:X w.heap.size w w:=qD _ _;rw[hra];have hl1:(rs.take st).length=st:=by rw[qP];omega
 have hl2:(rs.take st++[tog (rs.drop st++[up run])]).length=st+1:=by rw[qF,hl1];rfl
 rw[hl2];rw[hl1]at HCp;rw[hm]at HS0 HU hf⊢;rw[hn]at HS0 H hl⊢;have HDl:T ((rs.drop n).flatten.length=0):=by show _=_;rw[<-hn,List.drop_length];rfl
 clear hR hU hn hm hst hstE hstl hlast hra hd hr hlr hl1 hl2 hfd;go_enter Tryz.func168,Tryz.ntmps168;go_wp2;go_loopw [5,6] (fun i s wr=>∃k:Nat,k<=n/\i=M L k/\s=M L ((m+(rs.drop k).flatten.length:Nat):Int)/\T (stay rs k (m+(rs.drop k).flatten.length)=st)/\wr=w) (fun i _ _=>(intOf i).toNat)
 case atStart=>exact⟨n,qB _,rfl,by rw[HDl.out];rfl,by rw[HDl.out];exact HS0,rfl⟩
 case round=>
  obtain⟨k,hk,rfl,rfl,HT,rfl⟩:=hrel;have hst24:(st+1)*24<=140737488355328:=by omega
  have hk2:m+(rs.drop k).flatten.length<=20000:=by have:=HTot.out k;omega
  rcases jG k with h0|h0
  .have hst0:0=st:=by have h:=HT.out;rw[h0]at h;exact h
   have hks:k=st:=by omega
   have i0:¬(0:Int)<(k:Int):=by omega
   have i0n:decide (0<k)=false:=decide_eq_false (by omega);have i0m:¬0<k:=by omega
   clear HT HS0 h0 hst0;generalize m+(rs.drop k).flatten.length=ms at *;subst hks;obtain⟨so1,sc1,hsl1,hV1⟩:=J3 H.out (k:=k) (by omega)
   obtain⟨so2,sc2,hsl2,hV2⟩:=J2 H.out (k:=k) (by omega);obtain⟨q1,hq1⟩:∃q1,n-k=q1:=⟨_,rfl⟩;have hdl:(rs.drop k).length=q1:=by rw[qO,HN.out,hq1]
   have HV2:T (∀w1,X wr.heap.size wr w1->LisVU w1 (Z so2 k sc2) (rs.take k)):=fun w1 h=>hV2.below h;rw[hq1]at hsl1 hV1;have HCo:T (I qA 160 #[Z (S ⟨wr.heap.size+1,0,Y⟩) 2 2] ((wr.alloc (O #[Z uo m uc] 43)).alloc (O #[Z so1 q1 sc1,Z (S ⟨wr.heap.size,0,Y⟩) 1 1] 42)) fun e w'=>∃g cap,e=V (Z (S ⟨g,0,Y⟩) (rs.drop k++[up run]).length cap)/\X wr.heap.size wr w'/\T (∃us,w'.ownsRow wr.heap.size 43 1 (Z (S ⟨g,0,Y⟩) (rs.drop k++[up run]).length cap) us.length us/\Ba (fun v l=>IntsVU w' v l/\(k=n->Ac w' B v l)) us (rs.drop k++[up run]))):=by
    have hbx:=KD wr (Z uo m uc) (Z so1 q1 sc1) 43 42;obtain⟨vs1,bo1,bc1,j1,j2,j3,j4,j5⟩:=id hV1;have hLu:Cd (fun v l=>IntsVU wr v l/\(k=n->Ac wr B v l)) ((wr.alloc (O #[Z uo m uc] 43)).alloc (O #[Z so1 q1 sc1,Z (S ⟨wr.heap.size,0,Y⟩) 1 1] 42)) (Z (S ⟨wr.heap.size,0,Y⟩) 1 1) [up run]:=⟨[Z uo m uc],_,1,rfl,⟨by simp,fun h=>by simp at h⟩,rfl,fun i hi=>by simp at hi;subst hi;exact⟨HU.out.v,fun _=>HU.out⟩,fun _=>⟨wr.heap.size,0,rfl,hbx.2.1,fun i hi=>by simp at hi;subst hi;exact hbx.2.2.1⟩⟩;have hS2:Cd (fun v l=>IntsVU wr v l/\(k=n->Ac wr B v l)) ((wr.alloc (O #[Z uo m uc] 43)).alloc (O #[Z so1 q1 sc1,Z (S ⟨wr.heap.size,0,Y⟩) 1 1] 42)) (Z so1 q1 sc1) (rs.drop k):=by
     refine⟨vs1,bo1,bc1,j1,j2,j3,fun i hi=>⟨j4 i hi,fun h=>by rw[qO,HN.out]at hi;omega⟩,fun hne=>?_⟩;obtain⟨b',off',e6,hlt',hat'⟩:=j5 hne;exact⟨b',off',e6,qE hlt' hbx.1.size,fun i hi=>(hbx.1.cell (p:=⟨b',off'+i,Y⟩) hlt').trans (hat' i hi)⟩
    refine(Ip (fun v l=>IntsVU wr v l/\(k=n->Ac wr B v l)) (fun _ _ h=>h.1.shape) (wr.heap.size+1) _ _ (rs.drop k) [up run] _ _ (qD _ _) (by rw[hdl];omega) (by simp) (by simp) hS2 hLu hbx.2.2.2.1 hbx.2.2.2.2).mono fun e w' ⟨g,cap,h1,h2,h3⟩=>?_;have hww:=hbx.1.trans (h2.mono hbx.1.size);obtain⟨us,h4,h5⟩:=h3.out;exact⟨g,cap,by rw[qF];exact h1,hww,us,by rw[qF];exact Az h4 hbx.1.size,h5.1,fun i hi=>⟨(h5.2 i hi).1.below hww,fun hk=>((h5.2 i hi).2 hk).below hww⟩⟩
   have hco:=HCo.out;clear hV1 hV2 hdl HCo;generalize(rs.drop k++[up run]).length=cn at *;generalize(tog (rs.drop k++[up run])).length=tn at *
   go_wp2_with fail
   clear hst2 hl hf hq1;go_wp2_with (first|(go_at_call 160;refine hco.mono ?_;rintro e w1 ⟨g1,ac1,rfl,hb1,hx1⟩;have hto:=HTo.out g1 ac1 w1 hb1.size hx1.out)|(go_at_call 159;refine hto.mono ?_;rintro e w2 ⟨ao2,ac2,rfl,hb2,hx2⟩;have hB2:=ae hb1 hb2;have hcp:=HCp.out so2 sc2 w2 (HV2.out w2 hB2))|(go_at_call 166;refine hcp.mono ?_;rintro e w3 ⟨ao3,ac3,rfl,hb3,hx3⟩;have hB3:=ae hB2 hb3)|(at_builtin;refine M6 (Z ao2 tn ac2) (rs.take k) (tog (rs.drop k++[up run])) w2 rfl _ _ rfl w2.heap.size k ac3 ao3 rfl hx3.out B (qI hBw hB2.size) hx2.out (qB _) hb3 rfl hst24 hb3.size ?_;intro vo4 cap4 w4 hl4 hb4;have HL4:T (Bd w4 B (Z vo4 (k+1) cap4) (rs.take k++[tog (rs.drop k++[up run])])):=hl4;have hB4:=hB3.trans (hb4.mono hB2.size);clear hl4))
   go_ret;exact⟨vo4,cap4,rfl,hB4,HL4⟩
  .obtain ⟨j,hj⟩:∃j,j+1=k:=⟨k-1,by omega⟩;have hjr:j<rs.length:=by rw[HN.out];omega
   obtain⟨b,off,rfl,hb,u,c1,hu⟩:=H.out.at hjr;obtain⟨vo,vc,rfl⟩:=hu.shape;have hfl:=HFl.out j hjr;have hjl:=HLr.out j hjr;have HStp:T (stay rs k (m+(rs.drop k).flatten.length)=if(rs.getD j []).length<=m+(rs.drop k).flatten.length then stay rs j (m+(rs.drop k).flatten.length+(rs.getD j []).length)else k):=by show _=_;rw[<-hj];rfl
   rw[hj]at hfl;have HNx:T ((rs.getD j []).length<=m+(rs.drop k).flatten.length->stay rs j (m+(rs.drop j).flatten.length)=st):=fun h=>by
    have h2:=HStp.out;rw[HT.out,aj h]at h2;rw[hfl,h2];congr 1
    omega
   have HEx:T (¬(rs.getD j []).length<=m+(rs.drop k).flatten.length->k=st):=fun h=>by
    have h2:=HStp.out;rw[HT.out,ak h]at h2;exact h2.symm
   have HSm:T (m+(rs.drop j).flatten.length=m+(rs.drop k).flatten.length+(rs.getD j []).length):=by show _=_;omega
   have i0:(0:Int)<(k:Int):=by omega
   have i0n:decide (0<k)=true:=decide_eq_true h0;have i2:(j:Int)<(n:Int):=by omega
   have i4:(k:Int)-1=(j:Int):=by omega
   have i5:IntKind.i64.wrap ((k:Int)-1)=(j:Int):=by rw[i4,IntWalk.i64_left];exact gH _ (by omega)
   have i6:wrap64 ((k:Int)-1)=(j:Int):=by rw[i4];exact gH _ (by omega)
   have hjn:j<=n:=by omega
   have hjk:j<k:=by omega
   clear HStp hfl hu hjr HT HFl HLr hj i4;generalize hcc:(rs.getD j []).length=c at *;clear hcc;obtain⟨ms,hms⟩:∃ms,m+(rs.drop k).flatten.length=ms:=⟨_,rfl⟩
   rw[hms]at HNx HEx HSm hk2⊢;clear hms;by_cases hcm:c<=ms
   .have hnx:=HNx.out hcm;have HNx2:T (stay rs j (m+(rs.drop j).flatten.length)=st):=hnx;have hcmi:(c:Int)<=(ms:Int):=by omega
    clear hnx HNx HEx;go_wp2;refine⟨⟨j,hjn,rfl,by rw[HSm.out];simp,HNx2,by trivial⟩,by simp[intOf];exact hjk⟩
   .have hks:=HEx.out hcm;have hcmi:¬(c:Int)<=(ms:Int):=by omega
    clear HNx HEx HSm HS0;subst hks;obtain⟨so1,sc1,hsl1,hV1⟩:=J3 H.out (k:=k) (by omega);obtain⟨so2,sc2,hsl2,hV2⟩:=J2 H.out (k:=k) (by omega);obtain⟨q1,hq1⟩:∃q1,n-k=q1:=⟨_,rfl⟩;have hdl:(rs.drop k).length=q1:=by rw[qO,HN.out,hq1]
    have HV2:T (∀w1,X wr.heap.size wr w1->LisVU w1 (Z so2 k sc2) (rs.take k)):=fun w1 h=>hV2.below h;rw[hq1]at hsl1 hV1;have HCo:T (I qA 160 #[Z (S ⟨wr.heap.size+1,0,Y⟩) 2 2] ((wr.alloc (O #[Z uo m uc] 43)).alloc (O #[Z so1 q1 sc1,Z (S ⟨wr.heap.size,0,Y⟩) 1 1] 42)) fun e w'=>∃g cap,e=V (Z (S ⟨g,0,Y⟩) (rs.drop k++[up run]).length cap)/\X wr.heap.size wr w'/\T (∃us,w'.ownsRow wr.heap.size 43 1 (Z (S ⟨g,0,Y⟩) (rs.drop k++[up run]).length cap) us.length us/\Ba (fun v l=>IntsVU w' v l/\(k=n->Ac w' B v l)) us (rs.drop k++[up run]))):=by
     have hbx:=KD wr (Z uo m uc) (Z so1 q1 sc1) 43 42;obtain⟨vs1,bo1,bc1,j1,j2,j3,j4,j5⟩:=id hV1;have hLu:Cd (fun v l=>IntsVU wr v l/\(k=n->Ac wr B v l)) ((wr.alloc (O #[Z uo m uc] 43)).alloc (O #[Z so1 q1 sc1,Z (S ⟨wr.heap.size,0,Y⟩) 1 1] 42)) (Z (S ⟨wr.heap.size,0,Y⟩) 1 1) [up run]:=⟨[Z uo m uc],_,1,rfl,⟨by simp,fun h=>by simp at h⟩,rfl,fun i hi=>by simp at hi;subst hi;exact⟨HU.out.v,fun _=>HU.out⟩,fun _=>⟨wr.heap.size,0,rfl,hbx.2.1,fun i hi=>by simp at hi;subst hi;exact hbx.2.2.1⟩⟩;have hS2:Cd (fun v l=>IntsVU wr v l/\(k=n->Ac wr B v l)) ((wr.alloc (O #[Z uo m uc] 43)).alloc (O #[Z so1 q1 sc1,Z (S ⟨wr.heap.size,0,Y⟩) 1 1] 42)) (Z so1 q1 sc1) (rs.drop k):=by
      refine⟨vs1,bo1,bc1,j1,j2,j3,fun i hi=>⟨j4 i hi,fun h=>by rw[qO,HN.out]at hi;omega⟩,fun hne=>?_⟩;obtain⟨b',off',e6,hlt',hat'⟩:=j5 hne;exact⟨b',off',e6,qE hlt' hbx.1.size,fun i hi=>(hbx.1.cell (p:=⟨b',off'+i,Y⟩) hlt').trans (hat' i hi)⟩
     refine(Ip (fun v l=>IntsVU wr v l/\(k=n->Ac wr B v l)) (fun _ _ h=>h.1.shape) (wr.heap.size+1) _ _ (rs.drop k) [up run] _ _ (qD _ _) (by rw[hdl];omega) (by simp) (by simp) hS2 hLu hbx.2.2.2.1 hbx.2.2.2.2).mono fun e w' ⟨g,cap,h1,h2,h3⟩=>?_;have hww:=hbx.1.trans (h2.mono hbx.1.size);obtain⟨us,h4,h5⟩:=h3.out;exact⟨g,cap,by rw[qF];exact h1,hww,us,by rw[qF];exact Az h4 hbx.1.size,h5.1,fun i hi=>⟨(h5.2 i hi).1.below hww,fun hk=>((h5.2 i hi).2 hk).below hww⟩⟩
    have hco:=HCo.out;clear hV1 hV2 hdl HCo;generalize(rs.drop k++[up run]).length=cn at *;generalize(tog (rs.drop k++[up run])).length=tn at *
    go_wp2_with fail
    clear hst2 hl hf hq1;go_wp2_with (first|(go_at_call 160;refine hco.mono ?_;rintro e w1 ⟨g1,ac1,rfl,hb1,hx1⟩;have hto:=HTo.out g1 ac1 w1 hb1.size hx1.out)|(go_at_call 159;refine hto.mono ?_;rintro e w2 ⟨ao2,ac2,rfl,hb2,hx2⟩;have hB2:=ae hb1 hb2;have hcp:=HCp.out so2 sc2 w2 (HV2.out w2 hB2))|(go_at_call 166;refine hcp.mono ?_;rintro e w3 ⟨ao3,ac3,rfl,hb3,hx3⟩;have hB3:=ae hB2 hb3)|(at_builtin;refine M6 (Z ao2 tn ac2) (rs.take k) (tog (rs.drop k++[up run])) w2 rfl _ _ rfl w2.heap.size k ac3 ao3 rfl hx3.out B (qI hBw hB2.size) hx2.out (qB _) hb3 rfl hst24 hb3.size ?_;intro vo4 cap4 w4 hl4 hb4;have HL4:T (Bd w4 B (Z vo4 (k+1) cap4) (rs.take k++[tog (rs.drop k++[up run])])):=hl4;have hB4:=hB3.trans (hb4.mono hB2.size);clear hl4))
    go_ret;exact⟨vo4,cap4,rfl,hB4,HL4⟩
