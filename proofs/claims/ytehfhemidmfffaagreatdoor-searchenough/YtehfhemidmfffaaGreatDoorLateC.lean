/- Joined texts. -/
import Derived.Test.YtehfhemidmfffaaGreatDoorLateB
import Derived.Deep.RegionHeld2
import Derived.Shelf.Slices.Clone
import Derived.Laws.OwnMore
open Go renaming World→S,Value→K,Calls→J
open Go.Ending renaming returned→O
open Go.IntKind renaming i64→T
open Go.Obj renaming cells→E
open Go.RowKit renaming Below→U,Hid→Q
open Go.Value renaming slice→V,agg→A,tuple→H,pointer→I,int→ZZ
open _root_.Bool renaming false→G
open _root_.Option renaming none→Y,some→W
namespace Go.Proofs.YtehfhemidmfffaaGreatDoor
open _root_.Array renaming getElem?_eq_some_iff→qG
open Go.RowKit.Below renaming refl→qD
open _root_.Bool renaming and_eq_true→qK
open _root_.List renaming any_eq_false→xN,append_inj→kC,ext_getElem?→jK,filterMap_append→yG,getD_eq_getElem?_getD→qC,getElem_take→yU,length_append→qF,length_cons→qV,length_eq_zero_iff→jB,length_map→qO,length_nil→vC,length_range→q8,length_take→qP,mem_iff_getElem→xB,take_succ_eq_append_getElem→q7
open _root_.Nat renaming eq_zero_or_pos→jE,le_refl→qB,le_trans→qI,lt_of_lt_of_le→qE,pow_le_pow_right→vG,zero_add→qW,zero_le→qJ
open Go.Proofs.Tryz renaming prog→qA
open Go.ChangeShapes Go.WideShapes Go.ChangeAt Go.RowKit Go.Deep
open Terms Tm
set_option maxHeartbeats 6400000
set_option maxRecDepth 20000
attribute [local go_sem ↓] Go.wp_at_zero Go.wp_at_succ
theorem Calls.pan{f:FuncId}{args:Array K}{w:S}{X:Ending->S->Prop}(x:Int)(h:J qA f args w (BM Y w))
  (hX:∀w',U w.heap.size w w'->X (.panicked [{ v:=.iface 46 (.int T 8),recovered:=G}]) w') (_:∀w',U w.heap.size w w'->Q False->X (O (.int T x)) w'):J qA f args w X:=
 h.mono fun e w' ⟨hb,he⟩=>by subst he;exact hX w' hb
theorem OM(b off n cap B:Nat)(eao:Option Addr)(en ecap M place E1 F:Nat)(k x y z:Int)(w:S)(hob:b<w.heap.size)(hBB:B<w.heap.size)(hp:place+1<n)(P1:Nat)(hP1:P1=place+1)(h60:n<=60)(hk3:3<=k)(hk9:k<=9)(c0:w.cell? ⟨b,off+place*2,Y⟩=W (.int T k))(c1:w.cell? ⟨b,off+place*2+1,Y⟩=W (.int T 0))(cE:w.cell? ⟨B,P1,Y⟩=W (.int T E1))
  (hlook:∀w',U w.heap.size w w'->(Instr.lookup 222 (.map (W M)) (.int T k) G).run qA w'=.ok (.func (.func F) #[] #[]) w')
  (hent:∀args w,(callFunc F args).run qA w=.ok (.enter F args) w)
  (hpair:∀w',J qA F #[ZZ T x,.int T y] w' fun e w''=>e=O (.int T z)/\w''=w')
  (hra:∀w',U w.heap.size w w'->J qA 118 #[workV b off n cap B eao en ecap M,.int T P1] w' (BM Y w'))
  (hrb:Q False->∀w',U w.heap.size w w'->J qA 118 #[workV b off n cap B eao en ecap M,.int T E1] w' (BM (W y) w')) :
  J qA 118 #[workV b off n cap B eao en ecap M,.int T place] w (BM Y w):=by
 have hne:¬b=w.heap.size:=by omega
 have hneB:¬B=w.heap.size:=by omega
 have e1:¬k=1:=by omega
 have e2:¬k=2:=by omega
 have e3:¬k=10:=by omega
 have e4:¬k=11:=by omega
 have e5:¬k=12:=by omega
 obtain⟨W2,hW2⟩:∃W2,W2=((w.alloc (E #[V (W ⟨b,off,Y⟩) n cap,V (W ⟨B,0,Y⟩) n n,V eao en ecap,.map (W M)] 225)).alloc (E #[ZZ T k,.int T 0] 100)):=⟨_,rfl⟩;have hb2:U w.heap.size w W2:=by rw[hW2];exact((qD _ _).alloc (qB _) _).alloc (by simp) _
 have hsz:W2.heap.size=w.heap.size+1+1:=by rw[hW2];simp
 have d0:W2.cell? ⟨w.heap.size,0,Y⟩=W (V (W ⟨b,off,Y⟩) n cap):=by rw[hW2];simp[go_sem]
 have d1:W2.cell? ⟨w.heap.size,1,Y⟩=W (V (W ⟨B,0,Y⟩) n n):=by rw[hW2];simp[go_sem]
 have d2:W2.cell? ⟨w.heap.size,2,Y⟩=W (V eao en ecap):=by rw[hW2];simp[go_sem]
 have d3:W2.cell? ⟨w.heap.size,3,Y⟩=W (.map (W M)):=by rw[hW2];simp[go_sem]
 have d4:W2.cell? ⟨w.heap.size+1,0,Y⟩=W (.int T k):=by rw[hW2];simp[go_sem]
 have d5:W2.cell? ⟨B,P1,Y⟩=W (.int T E1):=(hb2.cell (p:=⟨B,P1,Y⟩) hBB).trans cE;have HW2:=(show Q _ from hW2);have hS:∀w',U W2.heap.size W2 w'->w'.cell? ⟨w.heap.size,0,Y⟩=W (V (W ⟨b,off,Y⟩) n cap)/\w'.cell? ⟨w.heap.size,1,Y⟩=W (V (W ⟨B,0,Y⟩) n n)/\w'.cell? ⟨w.heap.size,2,Y⟩=W (V eao en ecap)/\w'.cell? ⟨w.heap.size,3,Y⟩=W (.map (W M))/\w'.cell? ⟨w.heap.size+1,0,Y⟩=W (.int T k)/\w'.cell? ⟨B,P1,Y⟩=W (.int T E1)/\(Instr.lookup 222 (.map (W M)) (.int T k) G).run qA w'=.ok (.func (.func F) #[] #[]) w':=fun w' hw'=>
  ⟨(hw'.cell (p:=⟨w.heap.size,0,Y⟩) (by simp only;omega)).trans d0,(hw'.cell (p:=⟨w.heap.size,1,Y⟩) (by simp only;omega)).trans d1,(hw'.cell (p:=⟨w.heap.size,2,Y⟩) (by simp only;omega)).trans d2,(hw'.cell (p:=⟨w.heap.size,3,Y⟩) (by simp only;omega)).trans d3,(hw'.cell (p:=⟨w.heap.size+1,0,Y⟩) (by simp only;omega)).trans d4,(hw'.cell (p:=⟨B,P1,Y⟩) (by simp only;omega)).trans d5,hlook w' (hb2.trans (hw'.mono hb2.size))⟩
 have hra':∀w',U W2.heap.size W2 w'->J qA 118 #[workV b off n cap B eao en ecap M,.int T P1] w' (BM Y w'):=fun w' hw'=>hra w' (hb2.trans (hw'.mono hb2.size));have hrb':Q False->∀w',U W2.heap.size W2 w'->J qA 118 #[workV b off n cap B eao en ecap M,.int T E1] w' (BM (W y) w'):=fun hF w' hw'=>hrb hF w' (hb2.trans (hw'.mono hb2.size));have hB0:U W2.heap.size W2 W2:=qD _ _;have HB2:Q (U w.heap.size w W2):=hb2;have hp0:place<n:=by omega
 have hi0:(0:Int)<=(P1:Int):=by omega
 have hi1:(P1:Int)<(n:Int):=by omega
 have hpp:(place:Int)+1=(P1:Int):=by omega
 have hwr:IntKind.i64.wrap (P1:Int)=(P1:Int):=J0 (by omega) (by omega);have hwr2:IntKind.i64.wrap ((place:Int)+1)=(P1:Int):=by rw[hpp];exact hwr
 clear hW2 hb2 hra hrb hlook hP1 hp hsz d0 d1 d2 d3 d4 d5;go_enter Tryz.func118,Tryz.ntmps118;go_wp2_with fail
 rw[<-HW2.out];clear c0 c1 cE;go_region_held2 (fun w'=>w'.cell? ⟨w.heap.size,0,Y⟩=W (V (W ⟨b,off,Y⟩) n cap)/\w'.cell? ⟨w.heap.size,1,Y⟩=W (V (W ⟨B,0,Y⟩) n n)/\w'.cell? ⟨w.heap.size,2,Y⟩=W (V eao en ecap)/\w'.cell? ⟨w.heap.size,3,Y⟩=W (.map (W M))/\w'.cell? ⟨w.heap.size+1,0,Y⟩=W (.int T k)/\w'.cell? ⟨B,P1,Y⟩=W (.int T E1)/\(Instr.lookup 222 (.map (W M)) (.int T k) G).run qA w'=.ok (.func (.func F) #[] #[]) w')
  (exact hS _ (by first|exact hB0|exact hB0.drew|exact hB0.drew.trans hb1|exact(hB0.drew.trans hb1).trans (hb3.mono (hB0.drew.trans hb1).size)))
  (first|(go_at_call_of 118 E1;refine(hrb' hF _ (hB0.drew.trans hb1)).mono ?_;rintro e w3 ⟨hb3,rfl⟩)|(go_at_call 118;refine Calls.pan x (hra' _ hB0.drew) (fun w1 hb1=>⟨rfl,HB2.out.trans ((hB0.drew.trans hb1).mono HB2.out.size),rfl⟩) (fun w1 hb1 hF=>?_))|(refine(hpair _).mono ?_;rintro e w4 ⟨rfl,rfl⟩))
 all_goals exact hF.out.elim
theorem ON(b off n cap B:Nat)(eao:Option Addr)(en ecap M place E1 F:Nat)(k x y z:Int)(w:S)(hob:b<w.heap.size)(hBB:B<w.heap.size)(hp:place+1<n)(P1:Nat)(hP1:P1=place+1)(h60:n<=60)(hk3:3<=k)(hk9:k<=9)(c0:w.cell? ⟨b,off+place*2,Y⟩=W (.int T k))(c1:w.cell? ⟨b,off+place*2+1,Y⟩=W (.int T 0))(cE:w.cell? ⟨B,P1,Y⟩=W (.int T E1))
  (hlook:∀w',U w.heap.size w w'->(Instr.lookup 222 (.map (W M)) (.int T k) G).run qA w'=.ok (.func (.func F) #[] #[]) w')
  (hent:∀args w,(callFunc F args).run qA w=.ok (.enter F args) w)
  (hpair:∀w',J qA F #[ZZ T x,.int T y] w' fun e w''=>e=O (.int T z)/\w''=w')
  (hra:∀w',U w.heap.size w w'->J qA 118 #[workV b off n cap B eao en ecap M,.int T P1] w' (BM (W x) w'))
  (hrb:∀w',U w.heap.size w w'->J qA 118 #[workV b off n cap B eao en ecap M,.int T E1] w' (BM Y w')) :
  J qA 118 #[workV b off n cap B eao en ecap M,.int T place] w (BM Y w):=by
 have hne:¬b=w.heap.size:=by omega
 have hneB:¬B=w.heap.size:=by omega
 have e1:¬k=1:=by omega
 have e2:¬k=2:=by omega
 have e3:¬k=10:=by omega
 have e4:¬k=11:=by omega
 have e5:¬k=12:=by omega
 obtain⟨W2,hW2⟩:∃W2,W2=((w.alloc (E #[V (W ⟨b,off,Y⟩) n cap,V (W ⟨B,0,Y⟩) n n,V eao en ecap,.map (W M)] 225)).alloc (E #[ZZ T k,.int T 0] 100)):=⟨_,rfl⟩;have hb2:U w.heap.size w W2:=by rw[hW2];exact((qD _ _).alloc (qB _) _).alloc (by simp) _
 have hsz:W2.heap.size=w.heap.size+1+1:=by rw[hW2];simp
 have d0:W2.cell? ⟨w.heap.size,0,Y⟩=W (V (W ⟨b,off,Y⟩) n cap):=by rw[hW2];simp[go_sem]
 have d1:W2.cell? ⟨w.heap.size,1,Y⟩=W (V (W ⟨B,0,Y⟩) n n):=by rw[hW2];simp[go_sem]
 have d2:W2.cell? ⟨w.heap.size,2,Y⟩=W (V eao en ecap):=by rw[hW2];simp[go_sem]
 have d3:W2.cell? ⟨w.heap.size,3,Y⟩=W (.map (W M)):=by rw[hW2];simp[go_sem]
 have d4:W2.cell? ⟨w.heap.size+1,0,Y⟩=W (.int T k):=by rw[hW2];simp[go_sem]
 have d5:W2.cell? ⟨B,P1,Y⟩=W (.int T E1):=(hb2.cell (p:=⟨B,P1,Y⟩) hBB).trans cE;have HW2:=(show Q _ from hW2);have hS:∀w',U W2.heap.size W2 w'->w'.cell? ⟨w.heap.size,0,Y⟩=W (V (W ⟨b,off,Y⟩) n cap)/\w'.cell? ⟨w.heap.size,1,Y⟩=W (V (W ⟨B,0,Y⟩) n n)/\w'.cell? ⟨w.heap.size,2,Y⟩=W (V eao en ecap)/\w'.cell? ⟨w.heap.size,3,Y⟩=W (.map (W M))/\w'.cell? ⟨w.heap.size+1,0,Y⟩=W (.int T k)/\w'.cell? ⟨B,P1,Y⟩=W (.int T E1)/\(Instr.lookup 222 (.map (W M)) (.int T k) G).run qA w'=.ok (.func (.func F) #[] #[]) w':=fun w' hw'=>
  ⟨(hw'.cell (p:=⟨w.heap.size,0,Y⟩) (by simp only;omega)).trans d0,(hw'.cell (p:=⟨w.heap.size,1,Y⟩) (by simp only;omega)).trans d1,(hw'.cell (p:=⟨w.heap.size,2,Y⟩) (by simp only;omega)).trans d2,(hw'.cell (p:=⟨w.heap.size,3,Y⟩) (by simp only;omega)).trans d3,(hw'.cell (p:=⟨w.heap.size+1,0,Y⟩) (by simp only;omega)).trans d4,(hw'.cell (p:=⟨B,P1,Y⟩) (by simp only;omega)).trans d5,hlook w' (hb2.trans (hw'.mono hb2.size))⟩
 have hra':∀w',U W2.heap.size W2 w'->J qA 118 #[workV b off n cap B eao en ecap M,.int T P1] w' (BM (W x) w'):=fun w' hw'=>hra w' (hb2.trans (hw'.mono hb2.size));have hrb':∀w',U W2.heap.size W2 w'->J qA 118 #[workV b off n cap B eao en ecap M,.int T E1] w' (BM Y w'):=fun w' hw'=>hrb w' (hb2.trans (hw'.mono hb2.size));have hB0:U W2.heap.size W2 W2:=qD _ _;have HB2:Q (U w.heap.size w W2):=hb2;have hp0:place<n:=by omega
 have hi0:(0:Int)<=(P1:Int):=by omega
 have hi1:(P1:Int)<(n:Int):=by omega
 have hpp:(place:Int)+1=(P1:Int):=by omega
 have hwr:IntKind.i64.wrap (P1:Int)=(P1:Int):=J0 (by omega) (by omega);have hwr2:IntKind.i64.wrap ((place:Int)+1)=(P1:Int):=by rw[hpp];exact hwr
 clear hW2 hb2 hra hrb hlook hP1 hp hsz d0 d1 d2 d3 d4 d5;go_enter Tryz.func118,Tryz.ntmps118;go_wp2_with fail
 rw[<-HW2.out];clear c0 c1 cE;go_region_held2 (fun w'=>w'.cell? ⟨w.heap.size,0,Y⟩=W (V (W ⟨b,off,Y⟩) n cap)/\w'.cell? ⟨w.heap.size,1,Y⟩=W (V (W ⟨B,0,Y⟩) n n)/\w'.cell? ⟨w.heap.size,2,Y⟩=W (V eao en ecap)/\w'.cell? ⟨w.heap.size,3,Y⟩=W (.map (W M))/\w'.cell? ⟨w.heap.size+1,0,Y⟩=W (.int T k)/\w'.cell? ⟨B,P1,Y⟩=W (.int T E1)/\(Instr.lookup 222 (.map (W M)) (.int T k) G).run qA w'=.ok (.func (.func F) #[] #[]) w')
  (exact hS _ (by first|exact hB0|exact hB0.drew|exact hB0.drew.trans hb1|exact(hB0.drew.trans hb1).trans (hb3.mono (hB0.drew.trans hb1).size)))
  (first|(go_at_call_of 118 E1;refine Calls.pan y (hrb' _ (hB0.drew.trans hb1)) (fun w3 hb3=>⟨rfl,HB2.out.trans (((hB0.drew.trans hb1).trans (hb3.mono (hB0.drew.trans hb1).size)).mono HB2.out.size),rfl⟩) (fun w3 hb3 hF=>?_))|(go_at_call 118;refine(hra' _ hB0.drew).mono ?_;rintro e w1 ⟨hb1,rfl⟩)|(refine(hpair _).mono ?_;rintro e w4 ⟨rfl,rfl⟩))
 all_goals exact hF.out.elim
theorem OK(b off n cap B:Nat)(eao:Option Addr)(en ecap M vars:Nat)(t:Tm)(env:List Int)(hn:n=t.size)(h60:n<=60)(hg:t.Good vars)(hty:t.typed=true)(hev:EnvOk env)(hen:env.length=vars)(hen2:en=vars)(d:Nat) :
  ∀(place:Nat) (w:S),place<n->(t.sub place).size<=d->WorkAt w b off B eao M t env->
  J qA 118 #[workV b off n cap B eao en ecap M,.int T place] w (BM ((t.sub place).eval env) w):=by
 induction d with
 |zero=>intro place w _ hd;have:=(t.sub place).size_pos;omega
 |succ d ih=>
  intro place w hp hd hW;have hpt:place<t.size:=by omega
  obtain⟨s,hs⟩:∃s,s=t.sub place:=⟨_,rfl⟩;have hsg:s.Good vars:=by rw[hs];exact hg.sub _
  have hst:s.typed=true:=by
   rw[hs];refine(typed_iff _).2 fun q hq=>?_;rw[<-t.sub_sub place q hpt hq];exact(typed_iff _).1 hty _ (by have:=t.sub_fits hpt;omega)
  obtain⟨c0,c1⟩:=hW.ops place (by rw[ops_length];exact hpt);rw[op_at t hpt,<-hs]at c0 c1;simp only at c0 c1;have HKI:∀i,i<s.kids.length->place+s.koff i<n/\t.sub (place+s.koff i)=s.kids.getD i s/\Am (t.ops.map Prod.fst) (place+s.koff i)=place+s.koff (i+1):=fun i hi=>by
   subst hs;obtain⟨h1,h2,h3,_⟩:=kid_in hg.wf hpt hi;exact⟨by omega,h2,h3⟩
  rw[<-hs]at hd⊢;cases s with
  |leaf k v=>
   rcases hsg with⟨rfl,h1,h2⟩|⟨rfl,h1,h2⟩|⟨hk,rfl⟩
   .exact OQ b off n cap B eao en ecap M place v w hW.ob hp c0 c1
   .obtain ⟨j,rfl⟩:=Int.eq_ofNat_of_zero_le h1;obtain⟨eb,eoff,rfl,e2,e3⟩:=hW.env j (by omega);exact OR b off n cap B eb eoff en ecap M place j _ w hW.ob hp (by omega) c0 c1 e2 e3
   .have he:(Tm.leaf k 0).eval env=W (if k=11 then 1 else 0):=by
     simp only[Tm.eval];rw[if_neg (by omega),if_neg (by omega)]
    rw[he];exact OO b off n cap B eao en ecap M place k hk w hW.ob hp c0 c1
  |un k v a=>
   obtain⟨rfl,rfl,ha⟩:=hsg;obtain⟨p1,p2,_⟩:=HKI 0 (by simp[kids]);rw[koff_zero]at p1 p2;have hsz:a.size<=d:=by simp only[Tm.size]at hd;omega
   have hta:a.typed=true:=by simp only[Tm.typed,qK]at hst;exact hst.2
   have hrec:∀w',U w.heap.size w w'->J qA 118 #[workV b off n cap B eao en ecap M,.int T ((place:Int)+1)] w' (BM (a.eval env) w'):=fun w' hw'=>by
    have h:=ih (place+1) w' p1 (by rw[p2];exact hsz) (hW.later hw');rw[p2]at h;exact h
   have h:=OP b off n cap B eao en ecap M place (a.eval env) w hW.ob hp h60 c0 c1 (fun x hx=>(eval_le hev hen ha hta x hx).1) hrec;have he:(Tm.un 10 0 a).eval env=(a.eval env).map (1 - ·):=by
    simp only[Tm.eval];cases a.eval env<;>rfl
   rw[he];exact h
  |bi k v a b'=>
   obtain⟨h3,h9,rfl,ha,hb⟩:=hsg;obtain⟨p1,p2,p3⟩:=HKI 0 (by simp[kids]);obtain⟨q1,q2,_⟩:=HKI 1 (by simp[kids]);rw[koff_zero]at p1 p2 p3;rw[qW]at p3;have hsa:a.size<=d:=by simp only[Tm.size]at hd;omega
   have hsb:b'.size<=d:=by simp only[Tm.size]at hd;omega
   simp only[Tm.typed,qK,beq_iff_eq]at hst;obtain⟨⟨ka,hta⟩,kb,htb⟩:=hst;have hra:∀w',U w.heap.size w w'->J qA 118 #[workV b off n cap B eao en ecap M,.int T (place+1:Nat)] w' (BM (a.eval env) w'):=fun w' hw'=>by
    have h:=ih (place+1) w' p1 (by rw[p2];exact hsa) (hW.later hw');rw[p2]at h;exact h
   have hrb:∀w',U w.heap.size w w'->J qA 118 #[workV b off n cap B eao en ecap M,.int T (place+(Tm.bi k 0 a b').koff 1:Nat)] w' (BM (b'.eval env) w'):=fun w' hw'=>by
    have h:=ih (place+(Tm.bi k 0 a b').koff 1) w' q1 (by rw[q2];exact hsb) (hW.later hw');rw[q2]at h;exact h
   have cE:=hW.ends.cell (i:=place+1) (by omega);rw[p3]at cE;have hlook:=fun w' (hw':U w.heap.size w w')=>(hW.pairs.later hw').look h3 h9;have hent:=S6 k h3 h9;have hae:=eval_le hev hen ha hta;have hbe:=eval_le hev hen hb htb;simp only[Tm.eval];cases hx:a.eval env with
   |none=>
    rw[hx]at hra;exact OM b off n cap B eao en ecap M place _ (Db k) k 0 0 (bin k 0 0) w hW.ob hW.ends.lt (by omega) (place+1) rfl h60 h3 h9 c0 c1 cE hlook hent (fun w'=>JG k 0 0 w' h3 h9 (by omega) (by omega) (fun _=>⟨.inl rfl,.inl rfl⟩)) hra
     (fun h=>h.out.elim)
   |some x=>
    rw[hx]at hra;have hxl:=hae x hx;cases hy:b'.eval env with
    |none=>
     rw[hy]at hrb;exact ON b off n cap B eao en ecap M place _ (Db k) k x 0 (bin k x 0) w hW.ob hW.ends.lt (by omega) (place+1) rfl h60 h3 h9 c0 c1 cE hlook hent (fun w'=>JG k x 0 w' h3 h9 hxl.1 (by omega) (fun h8=>⟨hxl.2 (by rw[ka];simp[tkT];omega),.inl rfl⟩)) hra hrb
    |some y=>
     rw[hy]at hrb;have hyl:=hbe y hy;exact OL b off n cap B eao en ecap M place _ (Db k) k x y (bin k x y) w hW.ob hW.ends.lt (by omega) (place+1) rfl h60 h3 h9 c0 c1 cE hlook hent (fun w'=>JG k x y w' h3 h9 hxl.1 hyl.1 (fun h8=>⟨hxl.2 (by rw[ka];simp[tkT];omega),hyl.2 (by rw[kb];simp[tkT];omega)⟩)) hra hrb
theorem PU(s:Nat)(x:Int)(v0 v1:K)(w:S)(hc0:w.cell? ⟨s,0,Y⟩=W v0)(hc1:w.cell? ⟨s+1,0,Y⟩=W v1)(hz0:w.frozen? ⟨s,0,Y⟩=G)(hz1:w.frozen? ⟨s+1,0,Y⟩=G) :
  CallsD qA 114 #[I (W ⟨s,0,Y⟩),I (W ⟨s+1,0,Y⟩)] (.panicking [{ v:=.iface 46 (.int T x),recovered:=G}]) w fun e u' w'=>
   e=O (H #[])/\u'=.panicking [{ v:=.iface 46 (.int T x),recovered:=true}]/\w'=((w.setCell ⟨s,0,Y⟩ (.int T 0)).setCell ⟨s+1,0,Y⟩ (.int T x)).drew:=by
 have hta:∀w:S,(Instr.typeAssert (.iface 46 (.int T x)) 20 46 G).run qA w=.ok (.int T x) w:=fun _=>by kernel_rfl
 refine callsD_of_wpS Tryz.func114 rfl fun c₀ cs hu=>?_;rw[Tryz.ntmps114];show Code.wpS _ _ _ { tmps:=#[I (W ⟨s,0,Y⟩),I (W ⟨s+1,0,Y⟩),undef,undef,undef,undef,undef,undef],defers:=[]} _ _;apply wpS_seq;apply wpS_region;simp[wpOpsS,go_sem,recoverD,hu,Exit.thenS];refine wpS_of_wp ?_;go_wp2;go_region
 go_wp2;simp[bodyPostS,results,Tryz.results114]
theorem IQ(s:Nat)(w:S) :
  CallsD qA 114 #[I (W ⟨s,0,Y⟩),I (W ⟨s+1,0,Y⟩)] .returning w fun e u' w'=>
   e=O (H #[])/\u'=.returning/\w'=w:=by
 refine callsD_of_wpS Tryz.func114 rfl fun c₀ cs hu=>?_;rw[Tryz.ntmps114];show Code.wpS _ _ _ { tmps:=#[I (W ⟨s,0,Y⟩),I (W ⟨s+1,0,Y⟩),undef,undef,undef,undef,undef,undef],defers:=[]} _ _;apply wpS_seq;apply wpS_region;simp[wpOpsS,go_sem,recoverD,hu,Exit.thenS];refine wpS_of_wp ?_;go_wp2;cases c₀
 simp_all[bodyPostS,results,Tryz.results114]
def Cs(env:List Int):Bool:=env.any fun x=>decide (¬(-1000000<=x/\x<=1000000))
def GL(l:List (Int×Int))(t:Tm)(env:List Int):Int:=
 if Az env.length l t≠0 then 0 else if Cs env=true then 0 else match t.eval env with
  |some x=>x
  |none=>0
def GK(l:List (Int×Int))(t:Tm)(env:List Int):Int:=
 if Az env.length l t≠0 then Az env.length l t else if Cs env=true then 2 else match t.eval env with
  |some _=>0
  |none=>8
theorem Pc{env:List Int}(h:Cs env=G):EnvOk env:=fun i hi=>by
 unfold Cs at h;rw[xN]at h;have:=h (env.getD i 0) (by simp[qC,hi]);generalize env.getD i 0=x at *;simp at this
 omega
theorem Pd{env:List Int}(h:∀j,j<env.length->-1000000<=env.getD j 0/\env.getD j 0<=1000000):Cs env=false:=by
 unfold Cs;rw[xN];intro x hx;obtain⟨i,hi,rfl⟩:=List.getElem_of_mem hx;have:=h i hi;simp[qC,hi]at this;simp;omega
theorem Pb{env:List Int}{i:Nat}(hi:i<env.length)(h:¬(-1000000<=env.getD i 0/\env.getD i 0<=1000000)):Cs env=true:=by
 unfold Cs;rw[List.any_eq_true];refine⟨env[i],List.getElem_mem hi,?_⟩;simp[qC,hi]at h;simp;omega
def e0(w:S):World:=(w.alloc (E #[ZZ T 0] 3)).alloc (E #[ZZ T 0] 46)
theorem IP(w:S):U w.heap.size w (e0 w):=((qD _ _).alloc (qB _) _).alloc (by simp) _
theorem Ks(w:S){w':S}(h:U (e0 w).heap.size (e0 w) w') :
  w'.cell? ⟨w.heap.size,0,Y⟩=W (.int T 0)/\w'.cell? ⟨w.heap.size+1,0,Y⟩=W (.int T 0)/\w'.frozen? ⟨w.heap.size,0,Y⟩=G/\w'.frozen? ⟨w.heap.size+1,0,Y⟩=G/\w.heap.size+1<w'.heap.size/\U w.heap.size w w':=by
 have hs:=h.size;have hz:(e0 w).heap.size=w.heap.size+1+1:=by simp[e0]
 refine⟨?_,?_,?_,?_,by omega,(IP w).trans (h.mono (IP w).size)⟩
 .rw[h.cell (p:=⟨w.heap.size,0,Y⟩) (by simp only;omega)];simp[e0,go_sem]
 .rw[h.cell (p:=⟨w.heap.size+1,0,Y⟩) (by simp only;omega)];simp[e0,go_sem]
 .rw[h.frozen (p:=⟨w.heap.size,0,Y⟩) (by simp only;omega)];simp[e0,go_sem]
 .rw[h.frozen (p:=⟨w.heap.size+1,0,Y⟩) (by simp only;omega)];simp[e0,go_sem]
theorem Pi(ao:Option Addr)(n cap:Nat)(eao:Option Addr)(en ecap:Nat)(x:Int)(w:S)(hx:x≠0)
  (heo:J qA 115 #[V ao n cap,.int T en] (e0 w) fun e w''=>e=O (H #[V Y 0 0,.int T x])/\U (e0 w).heap.size (e0 w) w'') :
  J qA 85 #[V ao n cap,V eao en ecap] w fun e w'=>e=O (H #[ZZ T 0,.int T x])/\U w.heap.size w w':=by
 have hmf:=Fe;go_enter_defers Tryz.func85,Tryz.ntmps85;go_wp2_with (go_at_call 115;refine heo.mono ?_;rintro e w2 ⟨rfl,hb2⟩;obtain⟨c0,c1,f0,f1,hsz,hbw⟩:=Ks w hb2)
 go_region
 all_goals go_wp2_with fail
 all_goals
  refine leaves_cons (f:=114) (args:=#[I (W ⟨w.heap.size,0,Y⟩),I (W ⟨w.heap.size+1,0,Y⟩)]) (by simp) (by simp[go_sem]) ?_;refine(IQ w.heap.size _).mono ?_;rintro e u' w'' ⟨rfl,rfl,rfl⟩;simp[Leaves,settle,results,Tryz.results85,go_sem,c0,c1];first
   |exact(((hbw.setCell (p:=⟨w.heap.size+1,0,Y⟩) (by simp) _).drew).setCell (p:=⟨w.heap.size,0,Y⟩) (qB _) _).setCell (p:=⟨w.heap.size+1,0,Y⟩) (by simp) _
   |exact(((hbw.setCell (p:=⟨w.heap.size+1,0,Y⟩) (by simp) _).drew).setCell (p:=⟨w.heap.size+1,0,Y⟩) (by simp) _).setCell (p:=⟨w.heap.size,0,Y⟩) (qB _) _
noncomputable def exN(l:List (Int×Int))(env:List Int):Int:=GL l (Cy l) env
noncomputable def exC(l:List (Int×Int))(env:List Int):Int:=GK l (Cy l) env
noncomputable def CW(l:List (Int×Int))(env:List Int):Bool:=decide (exC l env=0)&&decide (exN l env=1)
noncomputable def Cn(env:List Int)(sets:List St):Nat->List Int
 |0=>env
 |k+1=>(Cn env sets k).set (sets.getD k st0).var.toNat (exN (sets.getD k st0).val env)
theorem Ja(env:List Int)(sets:List St)(k:Nat):(Cn env sets k).length=env.length:=by
 induction k with
 |zero=>rfl
 |succ k ih=>simp[Cn,ih]
noncomputable def Bt(env:List Int)(r:Ru):List Int:=Cn env r.sets r.sets.length
def Jb(env:List Int)(r:Ru):Prop:=∀j,j<r.sets.length->exC (r.sets.getD j st0).val env=0
open Classical in
noncomputable def BV(vars:List Vr)(env:List Int)(r:Ru):Option Int:=
 if CW r.guard env=true/\Jb env r/\∀i,i<vars.length->inB vars (Bt env r) i then W (Bk vars (Bt env r) vars.length)else Y
def Gq:Option Int->Int
 |some x=>x
 |none=>0
def Gp:Option Int->Int
 |some _=>0
 |none=>11
theorem Tz{vars:List Vr}{env:List Int}{r:Ru}(h:CW r.guard env=G):BV vars env r=none:=by
 unfold BV;rw[if_neg (fun h2=>by rw[h]at h2;cases h2.1)]
theorem T0{vars:List Vr}{env:List Int}{r:Ru}{j:Nat}(hj:j<r.sets.length)(h:exC (r.sets.getD j st0).val env≠0):BV vars env r=none:=by
 unfold BV;rw[if_neg (fun h2=>h (h2.2.1 j hj))]
theorem Ty{vars:List Vr}{env:List Int}{r:Ru}(h1:CW r.guard env=true)(h2:Jb env r)(hl:env.length=vars.length){m:Mo}(hm:mcode m=0)(hv:m.vars=vars) :
  (B0 m (Bt env r)=0->BV vars env r=W (Cf m (Bt env r)))/\(B0 m (Bt env r)≠0->BV vars env r=Y):=by
 have hb:(Bt env r).length=m.vars.length:=by unfold Bt;rw[Ja,hl,hv]
 subst hv;by_cases hin:∀i,i<m.vars.length->inB m.vars (Bt env r) i
 .have hc:=Kd hm ⟨hb,hin⟩;refine⟨fun _=>?_,fun h=>absurd hc h⟩;unfold BV;rw[if_pos ⟨h1,h2,hin⟩];unfold Cf;rw[if_pos hc]
 .have hc:=IF hm (vals:=Bt env r) (fun h=>hin h.2);refine⟨fun h=>(by rw[hc]at h;cases h),fun _=>?_⟩;unfold BV;rw[if_neg (fun h=>hin h.2.2)]
theorem T2{vars:Int}{r:Ru}(h:BE vars r=0):r.sets.length<=6/\∀j,j<r.sets.length->0<=(r.sets.getD j st0).var/\(r.sets.getD j st0).var<vars:=by
 unfold BE at h;split at h
 .simp at h
 .rename_i h6;refine⟨by omega,fun j hj=>?_⟩;split at h
  .have h1:=IV h j hj;unfold sAt at h1;split at h1
   .simp at h1
   .rename_i h2;omega
  .rename_i h2;exact absurd h h2
theorem Rv{m:Mo}(h:mcode m=0):m.rules.length<=12/\∀j,j<m.rules.length->BE m.vars.length (m.rules.getD j ru0)=0:=by
 unfold mcode at h;split at h
 .split at h
  .simp at h
  .rename_i h1;exact⟨by omega,IV h⟩
 .rename_i h0;exact absurd h h0
theorem Ln{m:Mo}(h:mcode m=0):mcode ⟨m.vars,[]⟩=0:=by
 have hv:vcode m.vars=0:=by
  unfold mcode at h;split at h
  .assumption
  .rename_i h0;exact absurd h h0
 unfold mcode;rw[if_pos hv];rfl
theorem Js(l:List Vr)(c:Int):(A7 l c).length=l.length:=by simp[A7]
open Go.Shelf Go.RowKit Go.Lib
def RP:Go.Shelf.Ren:=⟨fun|15=>173|n=>n,fun|22=>43|3=>3|4=>4|n=>n,fun|n=>n⟩
theorem RO:Go.Proofs.Lays2.n15 qA RP:={
 mixed:=by kernel_rfl
 f15:=Tryz.func173.trans (congrArg W (by kernel_rfl))
 t3:=Tryz.underlying3
 a3:=Tryz.isAgg3
 z3:=Tryz.sizeOf3
 v3:=Tryz.zeroValue3
 t4:=Tryz.underlying4
 a4:=Tryz.isAgg4
 z4:=Tryz.sizeOf4
 v4:=Tryz.zeroValue4
 t22:=Tryz.underlying43
 a22:=Tryz.isAgg43
 z22:=Tryz.sizeOf43
 v22:=Tryz.zeroValue43
 i3:=by kernel_rfl}
theorem O8(B:Nat)(l:List Int)(w:S)(hl:l.length<=10000)(hr:w.rowIs B 3 l.length (fun j=>.int T (l.getD j 0))) :
    J qA 173 #[V (W ⟨B,0,Y⟩) l.length l.length] w fun e w'=>∃g cap,e=O (V (W ⟨g,0,Y⟩) l.length cap)/\w.heap.size<=g/\U w.heap.size w w'/\w'.ownsRow w.heap.size 3 1 (V (W ⟨g,0,Y⟩) l.length cap) l.length (AB l):=by
  have h:J qA 173 #[V (W ⟨B,0,Y⟩) l.length l.length] w fun e w'=>∃v',e=O v'/\w'.ownsRow w.heap.size 3 1 v' l.length ((l.take l.length).map (Value.int .i64))/\v'≠V Y 0 0/\U w.heap.size w w':=
    Any.slices_Clone_int RO B 0 l.length l.length l w (qB _) (by omega) (fun j hj=>by rw[qW];exact hr.cell hj)
  refine h.mono fun e w' ⟨v',he,ho,hn,hb⟩=>?_;rw[List.take_length]at ho;obtain⟨g,cap,rfl,hg,_⟩:=Lib.holds_of_ownsRow ho hn;exact⟨g,cap,he,hg,hb,ho⟩
def Ei(w:S)(eao:Option Addr)(env:List Int):Prop:=∀i,i<env.length->∃eb eoff,eao=W ⟨eb,eoff,Y⟩/\eb<w.heap.size/\w.cell? ⟨eb,eoff+i,Y⟩=W (.int T (env.getD i 0))
theorem Ei.later{w w':S}{eao:Option Addr}{env:List Int}(h:Ei w eao env)(hb:U w.heap.size w w'):Ei w' eao env:=fun i hi=>by
 obtain⟨eb,eoff,e1,e2,e3⟩:=h i hi;exact⟨eb,eoff,e1,qE e2 hb.size,(hb.cell (p:=⟨eb,eoff+i,Y⟩) e2).trans e3⟩
def GM(env:List Int)(t:Tm)(w:S)(e:Ending)(w':S):Prop:=
 e=O (H #[ZZ T (if Cs env=true then 0 else match t.eval env with|some x=>x|none=>0),.int T (if Cs env=true then 2 else match t.eval env with|some _=>0|none=>8)])/\U w.heap.size w w'
theorem Pj(b off n cap:Nat)(eao:Option Addr)(en ecap:Nat)(t:Tm)(env:List Int)(w:S)(hn:n=t.size)(h60:n<=60)(hen:en=env.length)(hen6:en<=6)(hg:t.Good env.length)(hty:t.typed=true)(hbB:b<w.heap.size)(hA:BN w b off t.ops)(hE:Ei w eao env)
  (heo:J qA 115 #[V (W ⟨b,off,Y⟩) n cap,.int T en] (e0 w) fun e w'=>U (e0 w).heap.size (e0 w) w'/\∃B,(e0 w).heap.size<=B/\e=O (H #[V (W ⟨B,0,Y⟩) n n,.int T 0])/\w'.rowIs B 3 n (fun q=>.int T (Am (t.ops.map Prod.fst) q))) :
  J qA 85 #[V (W ⟨b,off,Y⟩) n cap,V eao en ecap] w (GM env t w):=by
 have hmf:=Fe;have HE:Q (Ei w eao env):=hE;have HA:Q (BN w b off t.ops):=hA;have HN:Q (n=t.size/\t.Good env.length/\t.typed=true/\en=env.length):=⟨hn,hg,hty,hen⟩;have hn1:0<n:=by rw[hn];exact t.size_pos
 have hzs:(e0 w).heap.size=w.heap.size+1+1:=by simp[e0]
 clear hE hA hn hg hty hen;go_enter_defers Tryz.func85,Tryz.ntmps85;go_wp2_with (go_at_call 115;refine heo.mono ?_;rintro e w2 ⟨hb2,B,hBw,rfl,hrow⟩;obtain⟨c0,c1,f0,f1,hsz,hbw⟩:=Ks w hb2)
 obtain⟨W3,hW3⟩:∃W3,W3=w2.setCell ⟨w.heap.size+1,0,Y⟩ (.int T 0):=⟨_,rfl⟩;have hb3:U w.heap.size w W3:=by rw[hW3];exact hbw.setCell (p:=⟨w.heap.size+1,0,Y⟩) (by simp) _
 have d0:W3.cell? ⟨w.heap.size,0,Y⟩=W (.int T 0):=by rw[hW3];simp[go_sem,c0]
 have d1:W3.cell? ⟨w.heap.size+1,0,Y⟩=W (.int T 0):=by rw[hW3];simp[go_sem,c1]
 have g0:W3.frozen? ⟨w.heap.size,0,Y⟩=false:=by rw[hW3];simp[go_sem,f0]
 have g1:W3.frozen? ⟨w.heap.size+1,0,Y⟩=false:=by rw[hW3];simp[go_sem,f1]
 have hrow3:W3.rowIs B 3 n (fun q=>.int T (Am (t.ops.map Prod.fst) q)):=by rw[hW3];exact hrow.setOther (by simp;omega) _
 have hsz3:w.heap.size+1<W3.heap.size:=by rw[hW3];simpa using hsz
 have HW3:=(show Q _ from hW3);have HR:Q (W3.rowIs B 3 n (fun q=>.int T (Am (t.ops.map Prod.fst) q))):=hrow3;rw[<-hW3];clear hW3 hrow3 hrow heo hb2 c0 c1 f0 f1 hsz hbw HW3;go_loop [23] (fun c=>∃i:Nat,i<=en/\c=.int T i/\Q (∀j,j<i->-1000000<=env.getD j 0/\env.getD j 0<=1000000)) (fun c=>en-(intOf c).toNat)
 case atStart=>exact⟨0,qJ _,rfl,fun j hj=>by omega⟩
 case round=>
  obtain⟨i,hi,rfl,HJ⟩:=hrel;by_cases hlt:i<en
  .obtain ⟨eb,eoff,rfl,e2,e3⟩:=(HE.out.later hb3) i (by rw[<-HN.out.2.2.2];exact hlt);have htg:=fun w=>NQ (env.getD i 0) w;by_cases hz:-1000000<=env.getD i 0/\env.getD i 0<=1000000
   .rw[show decide (¬(-1000000<=env.getD i 0/\env.getD i 0<=1000000))=G by simpa using hz]at htg;have HJ2:Q (∀j,j<i+1->-1000000<=env.getD j 0/\env.getD j 0<=1000000):=fun j hj=>by
     by_cases hji:j<i
     .exact HJ.out j hji
     .obtain rfl:j=i:=by omega
      exact hz
    clear hz;generalize env.getD i 0=x at e3 htg;go_wp2_with (go_at_call 116;refine(htg _).mono ?_;rintro e w5 ⟨rfl,rfl⟩)
    go_round
    case rel=>exact⟨i+1,by omega,by go_num,HJ2⟩
    case measure=>simp[intOf];omega
   .have HX:Q (Cs env=true):=Pb (by rw[<-HN.out.2.2.2];exact hlt) hz;generalize env.getD i 0=x at e3 htg hz;rw[show decide (¬(-1000000<=x/\x<=1000000))=true by simp;omega]at htg;clear hz;go_wp2_with (go_at_call 116;refine(htg _).mono ?_;rintro e w5 ⟨rfl,rfl⟩)
    refine leaves_cons (f:=114) (args:=#[I (W ⟨w.heap.size,0,Y⟩),I (W ⟨w.heap.size+1,0,Y⟩)]) (by simp) (by simp[go_sem]) ?_;refine(IQ w.heap.size _).mono ?_;rintro e u' w'' ⟨rfl,rfl,rfl⟩;simp[Leaves,settle,results,Tryz.results85,go_sem,d0,d1];unfold GM;rw[if_pos HX.out,if_pos HX.out];exact⟨rfl,(hb3.setCell (p:=⟨w.heap.size,0,Y⟩) (qB _) _).setCell (p:=⟨w.heap.size+1,0,Y⟩) (by simp) _⟩
  .have hin:i=en:=by omega
   subst hin;have hok:Cs env=false:=Pd (fun j hj=>HJ.out j (by rw[HN.out.2.2.2];exact hj));have HX:Q (Cs env=G):=hok;have hpm:=S5 W3;clear hlt hi;go_wp2_with (go_at_call 117;refine hpm.mono ?_;rintro e W4 ⟨M,hM,rfl,hpa,hb4⟩)
   have hb5:U W3.heap.size W3 (W4.alloc (E #[V (W ⟨b,off,Y⟩) n cap,V (W ⟨B,0,Y⟩) n n,V eao i ecap,.map (W M)] 225)):=hb4.alloc hb4.size _;have hpa5:Dk (W4.alloc (E #[V (W ⟨b,off,Y⟩) n cap,V (W ⟨B,0,Y⟩) n n,V eao i ecap,.map (W M)] 225)) M:=World.ownsMap.alloc hpa _;have hwk:WorkAt (W4.alloc (E #[V (W ⟨b,off,Y⟩) n cap,V (W ⟨B,0,Y⟩) n n,V eao i ecap,.map (W M)] 225)) b off B eao M t env:=by
    have hbb:=hb3.trans (hb5.mono hb3.size);refine⟨qE hbB hbb.size,HA.out.below hbb hbB,?_,HE.out.later hbb,hpa5⟩;have hr:=HR.out;rw[HN.out.1]at hr;exact hr.of_block (hb5.block B hr.lt)
   generalize W4.alloc (E #[V (W ⟨b,off,Y⟩) n cap,V (W ⟨B,0,Y⟩) n n,V eao i ecap,.map (W M)] 225)=W5 at *;have hat:=OK b off n cap B eao i ecap M env.length t env HN.out.1 h60 HN.out.2.1 HN.out.2.2.1 (Pc hok) rfl HN.out.2.2.2 t.size 0 W5 hn1 (by rw[sub_zero];omega) hwk
   rw[sub_zero]at hat;have hs3:=hb3.size;have hs5:=hb5.size;clear hwk hpa hpa5 hok hpm hb4 HR;cases hx:t.eval env with
   |none=>
    rw[hx]at hat;have HXN:Q (t.eval env=Y):=hx;clear hx;refine hat.mono ?_;rintro e w6 ⟨hb6,rfl⟩;have hb36:=hb5.trans (hb6.mono hb5.size);have k0:=(hb36.cell (p:=⟨w.heap.size,0,Y⟩) (by simp only;omega)).trans d0;have k1:=(hb36.cell (p:=⟨w.heap.size+1,0,Y⟩) (by simp only;omega)).trans d1;have z0:=(hb36.frozen (p:=⟨w.heap.size,0,Y⟩) (by simp only;omega)).trans g0;have z1:=(hb36.frozen (p:=⟨w.heap.size+1,0,Y⟩) (by simp only;omega)).trans g1;have hbf:=hb3.trans (hb36.mono hb3.size);refine leaves_cons (f:=114) (args:=#[I (W ⟨w.heap.size,0,Y⟩),I (W ⟨w.heap.size+1,0,Y⟩)]) (by simp) (by simp[go_sem]) ?_;refine(PU w.heap.size 8 _ _ w6 k0 k1 z0 z1).mono ?_;rintro e u' w'' ⟨rfl,rfl,rfl⟩;simp[Leaves,settle,results,Tryz.results85,go_sem,k0,k1];unfold GM;rw[if_neg (by rw[HX.out];simp),if_neg (by rw[HX.out];simp),HXN.out];exact⟨rfl,(((hbf.setCell (p:=⟨w.heap.size,0,Y⟩) (qB _) _).setCell (p:=⟨w.heap.size+1,0,Y⟩) (by simp) _)).drew⟩
   |some x=>
    rw[hx]at hat;have HXN:Q (t.eval env=W x):=hx;clear hx;refine hat.mono ?_;rintro e w6 ⟨hb6,rfl⟩;have hb36:=hb5.trans (hb6.mono hb5.size);have k0:=(hb36.cell (p:=⟨w.heap.size,0,Y⟩) (by simp only;omega)).trans d0;have k1:=(hb36.cell (p:=⟨w.heap.size+1,0,Y⟩) (by simp only;omega)).trans d1;have z0:=(hb36.frozen (p:=⟨w.heap.size,0,Y⟩) (by simp only;omega)).trans g0;have z1:=(hb36.frozen (p:=⟨w.heap.size+1,0,Y⟩) (by simp only;omega)).trans g1;have hbf:=hb3.trans (hb36.mono hb3.size);clear d0 d1 g0 g1 hat;go_wp2_with fail
    refine leaves_cons (f:=114) (args:=#[I (W ⟨w.heap.size,0,Y⟩),I (W ⟨w.heap.size+1,0,Y⟩)]) (by simp) (by simp[go_sem]) ?_;refine(IQ w.heap.size _).mono ?_;rintro e u' w'' ⟨rfl,rfl,rfl⟩;simp[Leaves,settle,results,Tryz.results85,go_sem,k0,k1];unfold GM;rw[if_neg (by rw[HX.out];simp),if_neg (by rw[HX.out];simp),HXN.out];exact⟨rfl,(hbf.setCell (p:=⟨w.heap.size,0,Y⟩) (qB _) _).setCell (p:=⟨w.heap.size+1,0,Y⟩) (by simp) _⟩
theorem IntsV.env{w:S}{v:K}{env:List Int}(h:IntsV w v env):∃eao ecap,v=.slice eao env.length ecap/\Ei w eao env:=by
 obtain⟨ao,cap,rfl,h⟩:=h;refine⟨ao,cap,rfl,fun i hi=>?_⟩;obtain⟨b,off,rfl,hlt,hat⟩:=h (by intro h;subst h;simp at hi);exact⟨b,off,rfl,hlt,hat i hi⟩
theorem Ph(v ev:K)(l:List (Int×Int))(env:List Int)(t:Tm)(w:S)(hB:0<w.heap.size)(hT:AH w)(hV:OpsV w v l)(hE:IntsV w ev env)(ht:AR (l.map Prod.fst)=0->t.Wf/\t.ops=l) :
  J qA 85 #[v,ev] w fun e w'=>e=O (H #[ZZ T (GL l t env),.int T (GK l t env)])/\U w.heap.size w w':=by
 have hb0:=IP w;have heo:=Kx v l env.length t (e0 w) (qE hB hb0.size) (hT.below hb0 hB) (hV.below hb0) ht;obtain⟨eao,ecap,rfl,hEA⟩:=hE.env;by_cases hx:Az env.length l t=0
 .obtain ⟨h0,h6,hops,hg,htt,h60⟩:=Nm hx ht;subst hops;obtain⟨ao,cap,rfl,_,h⟩:=hV;obtain⟨b,off,rfl,hlt,hat⟩:=h t.ops_ne;refine(Pj b off _ cap eao _ ecap t env w t.ops_length (by rw[ops_length];exact h60) rfl (by omega) hg htt hlt hat hEA (heo.mono fun e w' ⟨h1,_,h3⟩=>⟨h1,?_⟩)).mono fun e w' ⟨h1,h2⟩=>⟨?_,h2⟩
  .obtain ⟨B,p1,p2,p3⟩:=h3 hx;exact⟨B,p1,p2,p3⟩
  .rw[h1];simp only[GL,GK,hx,ne_eq,not_true_eq_false,if_false];all_goals (cases t.eval env<;>rfl)
 .obtain ⟨ao,cap,rfl,_,h⟩:=hV;refine(Pi ao _ cap eao _ ecap _ w hx (heo.mono fun e w' ⟨h1,h2,_⟩=>⟨h2 hx,h1⟩)).mono fun e w' ⟨h1,h2⟩=>⟨?_,h2⟩;rw[h1];unfold GL GK;rw[if_pos hx,if_pos hx]
theorem K0(v ev:K)(l:List (Int×Int))(env:List Int)(w:S)(hB:0<w.heap.size)(hT:AH w)(hV:OpsV w v l)(hE:IntsV w ev env) :
  J qA 85 #[v,ev] w fun e w'=>e=O (H #[ZZ T (exN l env),.int T (exC l env)])/\U w.heap.size w w':=
 Ph v ev l env (Cy l) w hB hT hV hE (Jn l)
theorem M8(v ev:K)(l:List (Int×Int))(env:List Int)(w:S)(hB:0<w.heap.size)(hT:AH w)(hV:OpsV w v l)(hE:IntsV w ev env) :
  J qA 59 #[v,ev] w fun e w'=>e=O (.bool (CW l env))/\U w.heap.size w w':=by
 have hx:=K0 v ev l env w hB hT hV hE;unfold CW;generalize exN l env=n at hx⊢;generalize exC l env=c at hx⊢;clear hV hE hT;go_enter Tryz.func59,Tryz.ntmps59;go_wp2_with (go_at_call 85;refine hx.mono ?_;rintro e w1 ⟨rfl,hb1⟩)
 all_goals go_ret
 all_goals exact⟨by first|(simp[*];done)|(simp[*];by_cases h1:n=1<;>simp[h1]),hb1⟩
theorem Hz(ao ro:Option Addr)(n cap rn rc:Nat)(w:S) :
  J qA 58 #[A #[V ao n cap,V ro rn rc]] w fun e w'=>e=O (A #[V ao n cap,V Y 0 0])/\U w.heap.size w w':=by
 go_enter Tryz.func58,Tryz.ntmps58;go_wp2_with fail
 exact bodyPost_ret (v:=A #[V ao n cap,V Y 0 0]) (by simp[results,Tryz.results58,go_sem]) rfl ⟨rfl,((qD _ _).alloc (qB _) _).alloc (by simp) _⟩
theorem PR(va vr gv sv:K)(B:Nat)(m:Mo)(env:List Int)(r:Ru)(w:S)(hB:0<w.heap.size)(hT:AH w)(hV:Av w va vr m)(hm:mcode m=0)(hr:BE m.vars.length r=0)(he:env.length=m.vars.length)
  (hrow:w.rowIs B 3 env.length (fun j=>.int T (env.getD j 0))) (hg:OpsV w gv r.guard) (hs:SetsV w sv r.sets) :
  J qA 150 #[A #[va,vr],V (W ⟨B,0,Y⟩) env.length env.length,A #[gv,sv]] w fun e w'=>e=O (H #[ZZ T (Gq (BV m.vars env r)),.int T (Gp (BV m.vars env r))])/\U w.heap.size w w':=by
 obtain⟨h6,hsv⟩:=T2 hr;have hv6:=(Cu hm).1;obtain⟨ao,cap,rfl⟩:=hV.1.shape;obtain⟨ro,rc,rfl⟩:=hV.2.shape;obtain⟨go,gc,rfl⟩:=hg.shape;obtain⟨so,sc,rfl⟩:=hs.shape;have hA2:∀o o',U w.heap.size w ((w.alloc o).alloc o'):=fun o o'=>((qD _ _).alloc (qB _) o).alloc (by simp) o';have hI:IntsV w (V (W ⟨B,0,Y⟩) env.length env.length) env:=by
  have h1:=Gd hrow;have e1:(List.range env.length).map (fun j=>env.getD j 0)=env:=by
   apply jK;intro i;by_cases hi:i<env.length
   .simp[hi,qC]
   .simp[hi]
  rwa[e1]at h1
 have hho:=fun w' (hb:U w.heap.size w w')=>M8 (.slice go r.guard.length gc) (V (W ⟨B,0,Y⟩) env.length env.length) r.guard env w' (qE hB hb.size) (hT.below hb hB) (hg.below hb) (hI.below hb);have hcl:=fun w' (hb:U w.heap.size w w')=>O8 B env w' (by omega) (B6 hrow hb);have HEx:Q (∀w' (_:U w.heap.size w w') v l,OpsV w' v l->J qA 85 #[v,V (W ⟨B,0,Y⟩) env.length env.length] w' fun e w2=>e=O (H #[ZZ T (exN l env),.int T (exC l env)])/\U w'.heap.size w' w2):=fun w' hb v l hv=>K0 v _ l env w' (qE hB hb.size) (hT.below hb hB) hv (hI.below hb);have HCo:Q (∀w' (_:U w.heap.size w w') vv vals,IntsV w' vv vals->J qA 174 #[A #[.slice ao m.vars.length cap,V Y 0 0],vv] w' fun e w2=>e=O (H #[ZZ T (Cf ⟨m.vars,[]⟩ vals),.int T (B0 ⟨m.vars,[]⟩ vals)])/\U w'.heap.size w' w2):=fun w' hb vv vals hi=>
  Rw _ _ vv ⟨m.vars,[]⟩ vals w' (qE hB hb.size) (hT.below hb hB) ⟨hV.1.below hb,⟨Y,0,rfl,⟨by simp,fun _=>⟨rfl,rfl⟩⟩,fun h=>by simp at h⟩⟩ hi
 have HS:Q (SetsV w (.slice so r.sets.length sc) r.sets):=hs;have HSV:Q (∀j,j<r.sets.length->0<=(r.sets.getD j st0).var/\(r.sets.getD j st0).var<m.vars.length):=hsv;have HE:Q (env.length=m.vars.length):=he;have HM0:Q (mcode ⟨m.vars,[]⟩=0):=Ln hm;clear hV hT hg hs hsv hm hr hI hrow he;by_cases hgd:CW r.guard env=true
 .rw [hgd] at hho;go_enter Tryz.func150,Tryz.ntmps150;go_wp2_with (go_at_call 59;refine(hho _ (hA2 _ _)).mono ?_;rintro e w1 ⟨rfl,hb1⟩;have hbw1:=(hA2 _ _).trans (hb1.mono (hA2 _ _).size))
  have hs1:w.heap.size+1<w1.heap.size:=by have:=hb1.size;simp at this;omega
  have k10:w1.cell? ⟨w.heap.size,0,Y⟩=W (.slice ao m.vars.length cap):=(hb1.cell (p:=⟨w.heap.size,0,Y⟩) (by simp;omega)).trans (by simp[go_sem]);have k11:w1.cell? ⟨w.heap.size,1,Y⟩=W (.slice ro m.rules.length rc):=(hb1.cell (p:=⟨w.heap.size,1,Y⟩) (by simp;omega)).trans (by simp[go_sem]);have k12:w1.cell? ⟨w.heap.size+1,1,Y⟩=W (.slice so r.sets.length sc):=(hb1.cell (p:=⟨w.heap.size+1,1,Y⟩) (by simp)).trans (by simp[go_sem]);have HC1:Q (∀w',U w1.heap.size w1 w'->w'.cell? ⟨w.heap.size,0,Y⟩=W (.slice ao m.vars.length cap)/\w'.cell? ⟨w.heap.size,1,Y⟩=W (.slice ro m.rules.length rc)/\w'.cell? ⟨w.heap.size+1,1,Y⟩=W (.slice so r.sets.length sc)):=fun w' hb=>⟨(hb.cell (p:=⟨w.heap.size,0,Y⟩) (by simp only;omega)).trans k10,(hb.cell (p:=⟨w.heap.size,1,Y⟩) (by simp only;omega)).trans k11,(hb.cell (p:=⟨w.heap.size+1,1,Y⟩) hs1).trans k12⟩;have HBW1:Q (U w.heap.size w w1):=hbw1;have hcl1:=hcl w1 hbw1;clear hho hcl hb1 hbw1;go_wp2_with (go_at_call 173;refine hcl1.mono ?_;rintro e w2 ⟨g,gcap,rfl,hgl,hb2,ho2⟩;obtain⟨k20,k21,k22⟩:=HC1.out w2 hb2)
  have HO2:Q (w2.ownsRow w1.heap.size 3 1 (V (W ⟨g,0,Y⟩) env.length gcap) env.length (AB env)):=ho2;have HB2:Q (U w1.heap.size w1 w2):=hb2;have HRS:Q (∀j,j<r.sets.length->exC (r.sets.getD j st0).val env≠0->BV m.vars env r=Y):=fun j hj h=>T0 hj h;have HRC:Q (Jb env r->(B0 ⟨m.vars,[]⟩ (Bt env r)=0->BV m.vars env r=W (Cf ⟨m.vars,[]⟩ (Bt env r)))/\(B0 ⟨m.vars,[]⟩ (Bt env r)≠0->BV m.vars env r=Y)):=fun h=>Ty hgd h HE.out HM0.out rfl;have HBL:Q (Bt env r=Cn env r.sets r.sets.length):=rfl;obtain⟨sn,hsn⟩:∃sn,sn=r.sets.length:=⟨_,rfl⟩;have HSN:Q (sn=r.sets.length):=hsn;rw[<-hsn]at h6 HS HC1 k22⊢;obtain⟨res,hres⟩:∃res,BV m.vars env r=res:=⟨_,rfl⟩;rw[hres]at HRS HRC;have HRes:Q (BV m.vars env r=res):=hres;clear hcl1 ho2 hb2 hsn hres hgd;go_loopw [25] (fun i wr=>∃k:Nat,k<=sn/\i=.int T k/\Q (∀j,j<k->exC (r.sets.getD j st0).val env=0)/\Q (wr.ownsRow w1.heap.size 3 1 (V (W ⟨g,0,Y⟩) env.length gcap) env.length (AB (Cn env r.sets k)))/\Q (U w1.heap.size w1 wr)) (fun i _=>sn-(intOf i).toNat)
  case atStart=>exact⟨0,qJ _,rfl,fun j hj=>by omega,HO2.out,HB2.out⟩
  case round=>
   obtain⟨k,hk,rfl,HOK,HOwn,HBel⟩:=hrel;have hbel:=HBel.out;have hbw:=HBW1.out.trans (hbel.mono HBW1.out.size);obtain⟨kr0,kr1,kr2⟩:=HC1.out wr hbel;by_cases hlt:k<sn
   .obtain ⟨b,off,rfl,hblt,hat⟩:=HS.out.at (i:=k) (by rw[<-HSN.out];exact hlt);obtain⟨c0,u,c1,hou⟩:=hat.below hbw hblt;obtain⟨uo,uc,rfl⟩:=hou.shape;have HSk:=HSV.out k (by rw[<-HSN.out];exact hlt);have HRk:Q (exC (r.sets.getD k st0).val env≠0->res=Y):=HRS.out k (by rw[<-HSN.out];exact hlt);have HStep:Q (Cn env r.sets (k+1)=(Cn env r.sets k).set (r.sets.getD k st0).var.toNat (exN (r.sets.getD k st0).val env)):=rfl;have HOK2:Q (exC (r.sets.getD k st0).val env=0->∀j,j<k+1->exC (r.sets.getD j st0).val env=0):=fun h j hj=>by
     by_cases hjk:j=k
     .subst hjk;exact h
     .exact HOK.out j (by omega)
    have hAr:∀o,U w.heap.size w (wr.alloc o):=fun o=>hbw.alloc hbw.size o;have hex:=fun o=>HEx.out (wr.alloc o) (hAr o) _ _ (hou.below ((qD _ _).alloc (qB _) o));obtain⟨hv0,hv1⟩:=HSk;obtain⟨vn,hvn⟩:∃vn:Nat,(r.sets.getD k st0).var=vn:=⟨(r.sets.getD k st0).var.toNat,by omega⟩;rw[hvn]at hv0 hv1 c0 HStep;rw[Int.toNat_natCast]at HStep;have hvn2:vn<env.length:=by rw[HE.out];omega
    generalize exN (r.sets.getD k st0).val env=N at hex HStep;generalize exC (r.sets.getD k st0).val env=C at hex HRk HOK2;generalize(r.sets.getD k st0).val.length=ul at hex c1 hou;have HBr:Q (∀o w4,U (wr.alloc o).heap.size (wr.alloc o) w4->U w1.heap.size w1 w4/\w4.ownsRow w1.heap.size 3 1 (V (W ⟨g,0,Y⟩) env.length gcap) env.length (AB (Cn env r.sets k))/\w4.cell? ⟨wr.heap.size,0,Y⟩=(wr.alloc o).cell? ⟨wr.heap.size,0,Y⟩):=fun o w4 hb=>
     ⟨(hbel.alloc hbel.size o).trans (hb.mono (hbel.alloc hbel.size o).size),As (As HOwn.out ((qD _ _).alloc (qB _) o) (qB _)) hb (qB _),hb.cell (p:=⟨wr.heap.size,0,Y⟩) (by simp)⟩
    clear hat hou hvn hAr HRS HEx HCo HS HSV HRC kr0 kr1 kr2 k20 k21 k22 k10 k11 k12 hbel hbw;by_cases hC:C=0
    .subst hC;go_wp2_with (go_at_call 85;refine(hex _).mono ?_;rintro e w4 ⟨rfl,hb4⟩;obtain⟨hb14,ho4,hcv⟩:=HBr.out _ w4 hb4;have hcell:=ho4.cellAt vn (by omega);rw[show(AB (Cn env r.sets k))[vn]? = W (.int T ((Cn env r.sets k).getD vn 0)) by simp[AB,qC,Ja,hvn2]]at hcell;have hfz:=ho4.frozenAt vn;have hcv2:w4.cell? ⟨wr.heap.size,0,Y⟩=W (.int T vn):=(by rw[hcv];simp[go_sem]))
     refine⟨⟨k+1,hlt,by first|rfl|simp,HOK2.out trivial,?_,hb14.setCell hgl _⟩,by simp[intOf];omega⟩;have hst:=(ho4.stored vn (.int T N)).1;rw[show(AB (Cn env r.sets k)).set vn (.int T N)=AB (Cn env r.sets (k+1)) by rw[HStep.out];simp[AB,List.map_set]]at hst;exact hst
    .have HRN:Q (res=Y):=HRk.out hC;go_wp2_with (go_at_call 85;refine(hex _).mono ?_;rintro e w4 ⟨rfl,hb4⟩;obtain⟨hb14,ho4,hcv⟩:=HBr.out _ w4 hb4)
     go_ret2;exact⟨by rw[HRes.out,HRN.out];rfl,HBW1.out.trans (hb14.mono HBW1.out.size)⟩
   .have hkn:k=sn:=by omega
    subst hkn;have hbe:Bt env r=Cn env r.sets k:=by rw[HBL.out,HSN.out]
    have hrc:=HRC.out (fun j hj=>HOK.out j (by rw[HSN.out];exact hj));have ho:=HOwn.out;rw[<-hbe]at ho;have hlb:(Bt env r).length=env.length:=by rw[hbe,Ja]
    rw[<-hlb]at ho;have hba:=Hz ao ro m.vars.length cap m.rules.length rc wr;have HI:Q (∀w',U wr.heap.size wr w'->IntsV w' (V (W ⟨g,0,Y⟩) (Bt env r).length gcap) (Bt env r)):=fun w' hb=>(Dv ho).below hb;rw[hlb]at HI;have hco:=fun w' (hb:U wr.heap.size wr w')=>HCo.out w' (hbw.trans (hb.mono hbw.size)) _ _ (HI.out w' hb);have HBWr:Q (U w.heap.size w wr):=hbw;generalize Cf ⟨m.vars,[]⟩ (Bt env r)=cv at hco hrc;generalize B0 ⟨m.vars,[]⟩ (Bt env r)=cc at hco hrc;obtain⟨hrc0,hrc1⟩:=hrc;clear hbe ho hlb HI HRC HRS HEx HCo HS HSV k20 k21 k22 k10 k11 k12 hbel hbw hlt hk HOK HOwn;by_cases hcc:cc=0
    .have hrn:=hrc0 hcc;subst hcc;have HRN:Q (res=W cv):=hrn;clear hrc0 hrc1 hrn;go_wp2_with (first|(go_at_call 58;refine hba.mono ?_;rintro e w5 ⟨rfl,hb5⟩)|(go_at_call 174;refine(hco _ hb5).mono ?_;rintro e w6 ⟨rfl,hb6⟩))
     go_ret2;exact⟨by rw[HRes.out,HRN.out];rfl,HBWr.out.trans ((hb5.trans (hb6.mono hb5.size)).mono HBWr.out.size)⟩
    .have HRN:Q (res=Y):=hrc1 hcc;clear hrc0 hrc1;go_wp2_with (first|(go_at_call 58;refine hba.mono ?_;rintro e w5 ⟨rfl,hb5⟩)|(go_at_call 174;refine(hco _ hb5).mono ?_;rintro e w6 ⟨rfl,hb6⟩))
     go_ret2;exact⟨by rw[HRes.out,HRN.out];rfl,HBWr.out.trans ((hb5.trans (hb6.mono hb5.size)).mono HBWr.out.size)⟩
 .have hgd2:CW r.guard env=false:=by simpa using hgd
  rw[hgd2]at hho;rw[Tz hgd2];go_enter Tryz.func150,Tryz.ntmps150;go_wp2_with (go_at_call 59;refine(hho _ (hA2 _ _)).mono ?_;rintro e w1 ⟨rfl,hb1⟩)
  go_ret2;exact⟨rfl,(hA2 _ _).trans (hb1.mono (hA2 _ _).size)⟩
theorem Vl{m:Mo}{code:Int}(h:Ao m code=0):mcode m=0/\0<=code/\code<AK m.vars m.vars.length:=by
 unfold Ao at h;split at h
 .rename_i h1;split at h
  .rename_i h2;exact⟨h1,h2⟩
  .cases h
 .rename_i h1;exact absurd h h1
theorem NH(va vr:K)(m:Mo)(code:Int)(w:S)(hB:0<w.heap.size)(hT:AH w)(hV:Av w va vr m)(h:Ao m code=0) :
  J qA 57 #[A #[va,vr],.int T code] w fun e w'=>∃B,e=O (H #[V (W ⟨B,0,Y⟩) (A7 m.vars code).length (A7 m.vars code).length,.int T 0])/\w.heap.size<=B/\U w.heap.size w w'/\w'.rowIs B 3 (A7 m.vars code).length (fun j=>.int T ((A7 m.vars code).getD j 0)):=by
 obtain⟨h1,h2⟩:=Vl h;refine(Ly va vr m code w hB hT hV h1 h2).mono fun e w' ⟨B,he,hl,hb,hr⟩=>?_;rw[<-Js m.vars code]at he hr;refine⟨B,he,hl,hb,hr.congr fun j hj=>?_⟩;rw[Js]at hj;simp[A7,qC,hj]
noncomputable def Ci(m:Mo)(ps:List (List (Int×Int)))(code:Int):Int:=if CM m ps=0 then Ao m code else CM m ps
noncomputable def AJ(m:Mo)(ps:List (List (Int×Int)))(code:Int):List Bool:=if Ci m ps code=0 then ps.map (fun p=>CW p (A7 m.vars code))else []
def Ae(w:S)(v:K)(t:TypeId):Prop:=∀a n c,v=.slice (W a) n c->∃cs fr,w.heap[a.block]? = W (E cs t fr)
theorem Ae.nil(w:S)(t:TypeId):Ae w (V Y 0 0) t:=fun a n c e=>by simp at e
theorem Ck{m:Mo}{ps:List (List (Int×Int))}(h:CM m ps=0):mcode m=0/\ps.length<=6:=by
 unfold CM at h;split at h
 .rename_i h1;split at h
  .simp at h
  .exact ⟨h1,by omega⟩
 .rename_i h1;exact absurd h h1
theorem Hj{m:Mo}(code:Int)(h:mcode m=0):Ao ⟨m.vars,[]⟩ code=Ao m code:=by
 unfold Ao;rw[if_pos h,if_pos (Ln h)]
theorem Lg(va vr pv:K)(m:Mo)(ps:List (List (Int×Int)))(code:Int)(w:S)(hB:0<w.heap.size)(hT:AH w)(hV:Av w va vr m)(hP:TermsV w pv ps) :
  J qA 31 #[A #[va,vr],pv,.int T code] w fun e w'=>∃v,e=O (H #[v,.int T (Ci m ps code)])/\U w.heap.size w w'/\BoolsV w' v (AJ m ps code)/\Ae w' v 4:=by
 have hA:∀o,U w.heap.size w (w.alloc o):=fun o=>(qD _ _).alloc (qB _) o;have hpr:=fun o=>Lw va vr pv m ps (w.alloc o) (qE hB (hA o).size) (hT.below (hA o) hB) (hV.below (hA o)) (hP.below (hA o));obtain⟨ao,cap,rfl⟩:=hV.1.shape;obtain⟨ro,rc,rfl⟩:=hV.2.shape;obtain⟨po,pc,rfl,hPa⟩:=hP;have hba:=fun w=>Hz ao ro m.vars.length cap m.rules.length rc w;by_cases hp:CM m ps=0
 .obtain ⟨hm,hp6⟩:=Ck hp;rw[hp]at hpr;have hVb:∀w',U w.heap.size w w'->Av w' (.slice ao m.vars.length cap) (V Y 0 0) ⟨m.vars,[]⟩:=fun w' hb=>⟨hV.1.below hb,⟨Y,0,rfl,⟨by simp,fun _=>⟨rfl,rfl⟩⟩,fun h=>by simp at h⟩⟩;by_cases hw:Ao m code=0
  .have hlc:Ci m ps code=0:=by unfold Ci;rw[if_pos hp,hw]
   have hll:AJ m ps code=ps.map (fun p=>CW p (A7 m.vars code)):=by unfold AJ;rw[if_pos hlc]
   rw[hlc,hll];have hvl:=fun w' (hb:U w.heap.size w w')=>NH _ _ ⟨m.vars,[]⟩ code w' (qE hB hb.size) (hT.below hb hB) (hVb w' hb) (by rw[Hj _ hm];exact hw);have hvl2:∀w',U w.heap.size w w'->J qA 57 #[A #[.slice ao m.vars.length cap,V Y 0 0],.int T code] w' fun e w2=>∃B,e=O (H #[V (W ⟨B,0,Y⟩) (A7 m.vars code).length (A7 m.vars code).length,.int T 0])/\w'.heap.size<=B/\U w'.heap.size w' w2/\w2.rowIs B 3 (A7 m.vars code).length (fun j=>.int T ((A7 m.vars code).getD j 0)):=hvl;generalize A7 m.vars code=env at hvl2⊢;have HHo:Q (∀w' (_:U w.heap.size w w') v ev l,OpsV w' v l->IntsV w' ev env->J qA 59 #[v,ev] w' fun e w2=>e=O (.bool (CW l env))/\U w'.heap.size w' w2):=fun w' hb v ev l h1 h2=>M8 v ev l env w' (qE hB hb.size) (hT.below hb hB) h1 h2;have HP:Q (ps≠[]->∃b off,po=W ⟨b,off,Y⟩/\b<w.heap.size/\∀i,i<ps.length->∃u,w.cell? ⟨b,off+i,Y⟩=W u/\OpsV w u (ps.getD i [])):=hPa;have HML:Q ((ps.map (fun p=>CW p env)).length=ps.length/\∀i,i<ps.length->(ps.map (fun p=>CW p env)).getD i G=CW (ps.getD i []) env):=⟨by simp,fun i hi=>by simp[qC,hi]⟩;generalize ps.map (fun p=>CW p env)=lt at HML⊢;obtain⟨pn,hpn⟩:∃pn,pn=ps.length:=⟨_,rfl⟩;have HPN:Q (pn=ps.length):=hpn;rw[<-hpn]at hpr hp6 HP HML⊢;generalize m.vars.length=n at *;generalize m.rules.length=rn at *;have hmk:=run_make_row' (P:=qA) 111 4 (.bool G) 1 Tryz.underlying111 Gc rfl .i64 .i64 pn (by omega) (by omega)
   clear hV hT hVb hlc hll hPa hvl hpn hw hm hp;go_enter Tryz.func31,Tryz.ntmps31;go_wp2_with (first|(go_at_call 52;refine(hpr _).mono ?_;rintro e w1 ⟨rfl,hb1⟩;have hbw1:=(hA _).trans (hb1.mono (hA _).size);have k10:w1.cell? ⟨w.heap.size,0,Y⟩=W (V ao n cap):=(hb1.cell (p:=⟨w.heap.size,0,Y⟩) (by simp)).trans (by simp[go_sem]);have k11:w1.cell? ⟨w.heap.size,1,Y⟩=W (V ro rn rc):=(hb1.cell (p:=⟨w.heap.size,1,Y⟩) (by simp)).trans (by simp[go_sem]))|(go_at_call 58;refine(hba _).mono ?_;rintro e w2 ⟨rfl,hb2⟩;have hbw2:=hbw1.trans (hb2.mono hbw1.size))|(go_at_call 57;refine(hvl2 _ hbw2).mono ?_;rintro e w3 ⟨B,rfl,hBl,hb3,hr3⟩))
   have hbw3:=hbw2.trans (hb3.mono hbw2.size);have hrow0:=World.rowIs_made w3 (.bool G) pn 4;have HI3:Q (∀w',U w3.heap.size w3 w'->IntsV w' (V (W ⟨B,0,Y⟩) env.length env.length) env):=fun w' hb=>by
    have h1:=Gd hr3;have e1:(List.range env.length).map (fun j=>env.getD j 0)=env:=by
     apply jK;intro i;by_cases hi:i<env.length
     .simp[hi,qC]
     .simp[hi]
    rw[e1]at h1;exact h1.below hb
   have HB3:Q (U w.heap.size w w3):=hbw3;clear hpr hvl2 hba hmk hb1 hbw1 k10 k11 hb2 hbw2 hb3 hr3 hbw3 hBl;go_loopw [35] (fun i wr=>∃k:Nat,k<=pn/\i=.int T k/\Q (wr.rowIs w3.heap.size 4 pn (fun j=>if j<k then .bool (lt.getD j G)else .bool G))/\Q (U w3.heap.size w3 wr)) (fun i _=>pn-(intOf i).toNat)
   case atStart=>exact⟨0,qJ _,rfl,hrow0.congr (fun i hi=>by rw[if_neg (by omega)]),(qD _ _).alloc (qB _) _⟩
   case round=>
    obtain⟨k,hk,rfl,HRow,HBel⟩:=hrel;have hbel:=HBel.out;have hbw:=HB3.out.trans (hbel.mono HB3.out.size);by_cases hlt:k<pn
    .obtain ⟨b,off,rfl,hblt,hat⟩:=HP.out (by intro h;have:=HPN.out;subst h;simp at this;omega);obtain⟨u,hu,hou⟩:=hat k hlt;have c0:=(hbel.cell (p:=⟨b,off+k,Y⟩) (qE hblt HB3.out.size)).trans ((HB3.out.cell (p:=⟨b,off+k,Y⟩) hblt).trans hu);obtain⟨uo,uc,rfl⟩:=hou.shape;have hho:=HHo.out wr hbw _ _ _ (hou.below hbw) (HI3.out wr hbel);have HLk:=(show Q _ from HML.out.2 k hlt);generalize CW (ps.getD k []) env=tv at hho HLk;generalize(ps.getD k []).length=ul at *;have HWr:Q (∀w4,U wr.heap.size wr w4->w4.rowIs w3.heap.size 4 pn (fun j=>if j<k then .bool (lt.getD j G)else .bool G)/\U w3.heap.size w3 w4):=fun w4 hb=>⟨B6 HRow.out hb,hbel.trans (hb.mono hbel.size)⟩
     clear hat hu hou hbel hbw HHo HI3 HP HML;go_wp2_with (go_at_call 59;refine hho.mono ?_;rintro e w4 ⟨rfl,hb4⟩;obtain⟨hr4,hb34⟩:=HWr.out w4 hb4;have hf:=hr4.frozen k;have hc:w4.cell? ⟨w3.heap.size,k,Y⟩=W (.bool G):=(by rw[hr4.cell hlt,if_neg (by omega)]);have HR4:Q (w4.rowIs w3.heap.size 4 pn (fun j=>if j<k then .bool (lt.getD j G)else .bool G)):=hr4;clear hr4)
     refine⟨⟨k+1,hlt,by first|rfl|simp,(HR4.out.set k (.bool tv)).congr fun i hi=>?_,hb34.setCell (qB _) _⟩,by simp[intOf];omega⟩;by_cases hik:i=k
     .subst hik;rw[if_pos rfl,if_pos (by omega),HLk.out]
     .rw[if_neg hik];by_cases hlk:i<k
      .rw[if_pos hlk,if_pos (by omega)]
      .rw[if_neg hlk,if_neg (by omega)]
    .have hkn:k=pn:=by omega
     subst hkn;have hrow:=HRow.out.congr (g:=fun j=>.bool (lt.getD j G)) (fun i hi=>by rw[if_pos hi]);rw[<-HML.out.1]at hrow;have hbo:=IB hrow;rw[HML.out.1]at hbo;have HBO:=(show Q _ from hbo);have HTy:Q (Ae wr (V (W ⟨w3.heap.size,0,Y⟩) k k) 4):=by
      intro a n c e;injection e with e _ _;injection e with e;subst e;obtain⟨cs,hcs,_⟩:=HRow.out;exact⟨cs,(0,0),hcs⟩
     clear hrow hbo;go_wp2_with fail
     go_ret2;exact⟨_,rfl,hbw,HBO.out,HTy.out⟩
  .have hlc:Ci m ps code=Ao m code:=by unfold Ci;rw[if_pos hp]
   have hll:AJ m ps code=[]:=by unfold AJ;rw[if_neg (by rw[hlc];exact hw)]
   rw[hlc,hll];have hvl:=fun w' (hb:U w.heap.size w w')=>Lx _ _ ⟨m.vars,[]⟩ code w' (qE hB hb.size) (hT.below hb hB) (hVb w' hb);rw[Hj _ hm]at hvl;generalize Ao m code=c at *;generalize FI ⟨m.vars,[]⟩ code=vs at *;generalize m.vars.length=n at *;generalize m.rules.length=rn at *;generalize ps.length=pn at *;clear hV hT hVb hlc hll hPa
   go_enter Tryz.func31,Tryz.ntmps31;go_wp2_with (first|(go_at_call 52;refine(hpr _).mono ?_;rintro e w1 ⟨rfl,hb1⟩;have hbw1:=(hA _).trans (hb1.mono (hA _).size);have k10:w1.cell? ⟨w.heap.size,0,Y⟩=W (V ao n cap):=(hb1.cell (p:=⟨w.heap.size,0,Y⟩) (by simp)).trans (by simp[go_sem]);have k11:w1.cell? ⟨w.heap.size,1,Y⟩=W (V ro rn rc):=(hb1.cell (p:=⟨w.heap.size,1,Y⟩) (by simp)).trans (by simp[go_sem]))|(go_at_call 58;refine(hba _).mono ?_;rintro e w2 ⟨rfl,hb2⟩;have hbw2:=hbw1.trans (hb2.mono hbw1.size))|(go_at_call 57;refine(hvl _ hbw2).mono ?_;rintro e w3 ⟨v,rfl,hb3,_⟩))
   go_ret2;exact⟨_,rfl,hbw2.trans (hb3.mono hbw2.size),⟨Y,0,rfl,fun h=>absurd rfl h⟩,Ae.nil _ _⟩
 .have hlc:Ci m ps code=CM m ps:=by unfold Ci;rw[if_neg hp]
  have hll:AJ m ps code=[]:=by unfold AJ;rw[if_neg (by rw[hlc];exact hp)]
  rw[hlc,hll];generalize CM m ps=c at *;generalize m.vars.length=n at *;generalize m.rules.length=rn at *;generalize ps.length=pn at *;clear hV hT hlc hll hPa
  go_enter Tryz.func31,Tryz.ntmps31;go_wp2_with (go_at_call 52;refine(hpr _).mono ?_;rintro e w1 ⟨rfl,hb1⟩)
  go_ret2;exact⟨_,rfl,(hA _).trans (hb1.mono (hA _).size),⟨Y,0,rfl,fun h=>absurd rfl h⟩,Ae.nil _ _⟩
theorem Lf(va vr pv:K)(m:Mo)(ps:List (List (Int×Int)))(code:Int)(w:S)(hB:0<w.heap.size)(hT:AH w)(hV:Av w va vr m)(hP:TermsV w pv ps) :
  J qA 31 #[A #[va,vr],pv,.int T code] w fun e w'=>∃v,e=O (H #[v,.int T (Ci m ps code)])/\U w.heap.size w w'/\BoolsV w' v (AJ m ps code):=
 (Lg va vr pv m ps code w hB hT hV hP).mono fun _ _ ⟨v,h1,h2,h3,_⟩=>⟨v,h1,h2,h3⟩
def B9(m:Mo):Int:=Bk m.vars (Bd m.vars) m.vars.length
noncomputable def CA(m:Mo)(ps:List (List (Int×Int)))(l:List (Int×Int)):Nat->List (Int×Int)
 |0=>[]
 |k+1=>if tru l (AJ m ps (B9 m)) (k:Int) 0=true then CA m ps l k else CA m ps l k++[(B9 m,(k:Int))]
noncomputable def AC(m:Mo)(ps:List (List (Int×Int)))(l:List (Int×Int)):List (Int×Int):=CA m ps l (2^(AA l).length)
theorem H8(m:Mo)(ps:List (List (Int×Int)))(l:List (Int×Int)):∀k,(CA m ps l k).length<=k
 |0=>qB _
 |k+1=>by
  rw[CA];have:=H8 m ps l k;split
  .omega
  .rw[qF,List.length_singleton];omega
theorem H7{m:Mo}{ps:List (List (Int×Int))}{l:List (Int×Int)}(h:Ad m ps l=0):(AC m ps l).length<=64:=by
 have h6:=(CC (BX h).2).2.2.2.2;have:=H8 m ps l (2^(AA l).length);have h2:2^(AA l).length<=2^6:=vG (by decide) h6;unfold AC;omega
theorem FD{m:Mo}{ps:List (List (Int×Int))}{l:List (Int×Int)}(h:Ad m ps l=0){c:Int}(hc:0<=c/\c<AK m.vars m.vars.length):Ci m ps c=0/\(AJ m ps c).length=ps.length:=by
 obtain⟨hp,_⟩:=BX h;obtain⟨hm,_⟩:=Ck hp;have h1:Ci m ps c=0:=by unfold Ci;rw[if_pos hp,D7 hm hc]
 refine⟨h1,?_⟩;unfold AJ;rw[if_pos h1,qO]
theorem Jk{m:Mo}{ps:List (List (Int×Int))}{l:List (Int×Int)}(h:Ad m ps l=0):0<=B9 m/\B9 m<AK m.vars m.vars.length:=by
 obtain⟨hp,_⟩:=BX h;obtain⟨hm,_⟩:=Ck hp;exact IK (Cu hm) (qB _) (fun i hi=>LN (Cu hm) i hi)
theorem NO{m:Mo}{ps:List (List (Int×Int))}{l:List (Int×Int)}(h:Ad m ps l=0){c:Int}(hc:0<=c/\c<AK m.vars m.vars.length){k:Nat}(hk:k<2^(AA l).length) :
  BF l (AJ m ps c) (k:Int)=0/\DI l (AJ m ps c) (k:Int)=(List.range l.length).map (tru l (AJ m ps c) (k:Int)):=by
 have h1:=(FD h hc).2;have h2:BF l (AJ m ps c) (k:Int)=0:=by
  refine D6 (by rw[h1];exact(BX h).2) fun hn=>?_;unfold B8 at hn;have:((2^(AA l).length:Nat):Int)=(2:Int)^(AA l).length:=by push_cast;rfl
  rcases hn with hn|hn
  .omega
  .rw[<-this]at hn;omega
 exact⟨h2,by unfold DI;rw[if_pos h2]⟩
theorem NN{m:Mo}{ps:List (List (Int×Int))}{l:List (Int×Int)}(h:Ad m ps l=0):0<l.length:=by
 obtain⟨_,_,hz,_,_⟩:=CC (BX h).2;have:=(Dn hz).1;rcases jE l.length with h0|h0
 .rw[jB.1 h0]at this;simp at this
 .exact h0
theorem OY(B:Nat)(va vr pv fv:K)(m:Mo)(ps:List (List (Int×Int)))(l:List (Int×Int))(ho:Option Addr)(hcp bs bl:Nat)(w:S)(hB:0<w.heap.size)(hT:AH w)(hV:TaskV w va vr pv fv m ps l)(hc:Ad m ps l=0)
  (hS:SurvAt w B va vr pv fv (.slice ho (AA l).length hcp) bs bl) :
  J qA 17 #[I (W ⟨B,0,Y⟩)] w fun e w'=>∃so sc,e=O (H #[.slice so (AC m ps l).length sc,.int T 0])/\U w.heap.size w w'/\Q (SpO w' w.heap.size (.slice so (AC m ps l).length sc) (AC m ps l)):=by
 obtain⟨hp0,hl0⟩:=BX hc;obtain⟨hm0,_⟩:=Ck hp0;have h6:=(CC hl0).2.2.2.2;have hne:=NN hc;have hnei:(0:Int)<(l.length:Int):=by omega
 obtain⟨ao,ac,rfl⟩:=hV.mo.1.shape;obtain⟨ro,rc,rfl⟩:=hV.mo.2.shape;obtain⟨po,pc,rfl⟩:=hV.ps.shape;obtain⟨fo,fc,rfl,_⟩:=id hV.fo;have hfi:J qA 30 #[A #[.slice ao m.vars.length ac,.slice ro m.rules.length rc]] w fun e w'=>e=O (H #[ZZ T (B9 m),.int T 0])/\U w.heap.size w w':=by
  have:=R5 _ _ m w hB hT hV.mo;rw[if_pos hm0,hm0]at this;exact this
 have HLe:Q (∀w1,U w.heap.size w w1->J qA 31 #[A #[.slice ao m.vars.length ac,.slice ro m.rules.length rc],.slice po ps.length pc,.int T (B9 m)] w1 fun e w'=>∃lo lc,e=O (H #[.slice lo ps.length lc,.int T 0])/\U w1.heap.size w1 w'/\Q (BoolsV w' (.slice lo ps.length lc) (AJ m ps (B9 m)))):=fun w1 h=>by
  refine(Lf _ _ _ m ps (B9 m) w1 (qE hB h.size) (hT.below h hB) (hV.mo.below h) (hV.ps.below h)).mono fun e w' ⟨v,h1,h2,h3⟩=>?_;obtain⟨t1,t2⟩:=FD hc (Jk hc);obtain⟨lo,lc,rfl,hx⟩:=h3;rw[t2]at h1;exact⟨lo,lc,by rw[h1,t1],h2,⟨lo,lc,by rw[t2],hx⟩⟩
 have HTr:Q (∀(k:Nat) (lv:K) (w1:S),k<2^(AA l).length->U w.heap.size w w1->BoolsV w1 lv (AJ m ps (B9 m))->J qA 33 #[.slice fo l.length fc,lv,.int T (k:Int)] w1 fun e w'=>∃b off c,e=O (H #[V (W ⟨b,off,Y⟩) l.length c,.int T 0])/\U w1.heap.size w1 w'/\w'.cell? ⟨b,off,Y⟩=W (.bool (tru l (AJ m ps (B9 m)) (k:Int) 0))):=fun k lv w1 hk h hl=>by
  refine(Lj _ lv l (AJ m ps (B9 m)) (k:Int) w1 (qE hB h.size) (hT.below h hB) (hV.fo.below h) hl).mono fun e w' ⟨v,h1,h2,h3⟩=>?_;obtain⟨t1,t2⟩:=NO hc (Jk hc) hk;rw[t2]at h3;have hn:=NN hc;obtain⟨lo,lc,rfl,hx⟩:=h3;obtain⟨b,off,rfl,_,hat⟩:=hx (by intro h0;have:=congrArg List.length h0;rw[qO,q8,vC]at this;omega);have c0:=hat 0 (by simpa using hn);refine⟨b,off,lc,by rw[h1,t1];simp,h2,?_⟩;rw[Nat.add_zero]at c0;rw[c0];simp[qC,hn]
 have HS:Q (∀w1,U w.heap.size w w1->SurvAt w1 B (.slice ao m.vars.length ac) (.slice ro m.rules.length rc) (.slice po ps.length pc) (.slice fo l.length fc) (.slice ho (AA l).length hcp) bs bl):=fun w1 h=>hS.later h;have hcl:=fun w1 (h:U w.heap.size w w1)=>II B _ _ _ _ ho _ hcp bs bl w1 h6 (hS.later h);have HCl:Q (∀w1,U w.heap.size w w1->J qA 32 #[I (W ⟨B,0,Y⟩)] w1 fun e w'=>e=O (.int T ((2^(AA l).length:Nat):Int))/\w'=w1):=hcl;obtain⟨_,s0,s1,s2,s3,s4,s5,s6⟩:=id hS;have hq64:2^(AA l).length<=64:=vG (show 0<2 by decide) h6;have HNil:Q (CA m ps l 0=[]):=rfl;have HSt:Q (∀k,CA m ps l (k+1)=if tru l (AJ m ps (B9 m)) (k:Int) 0=true then CA m ps l k else CA m ps l k++[(B9 m,(k:Int))]):=fun k=>rfl;have HLen:Q (∀k,(CA m ps l k).length<=k):=H8 m ps l;unfold AC;generalize CA m ps l=bg at *;generalize AJ m ps (B9 m)=lt at *;generalize B9 m=first at *;generalize m.vars.length=vn at *;generalize m.rules.length=rn at *;generalize ps.length=pn at *;generalize(AA l).length=an at *;generalize 2^an=N at *
 have HTru:Q (∀k:Nat,tru l lt (k:Int) 0=true\/tru l lt (k:Int) 0=G):=fun k=>by cases tru l lt (k:Int) 0<;>simp
 generalize hfn:l.length=fn at *;clear hV hT hc hl0 hp0 hm0 hS hcl h6 hfn
 go_enter Tryz.func17,Tryz.ntmps17;go_wp2_with (first|(go_at_call 30;refine hfi.mono ?_;rintro e w1 ⟨rfl,hb1⟩;obtain⟨_,p0,p1,p2,p3,p4,p5,p6⟩:=HS.out w1 hb1;have hle:=HLe.out _ hb1.drew))
 have HSB:Q (∀w2,U w1.heap.size w1 w2->w2.cell? ⟨B,0,Y⟩=W (V ao vn ac)/\w2.cell? ⟨B,1,Y⟩=W (V ro rn rc)/\w2.cell? ⟨B,2,Y⟩=W (V po pn pc)):=fun w2 h=>by
  obtain⟨_,q0,q1,q2,_,_,_,_⟩:=HS.out w2 (hb1.trans (h.mono hb1.size));exact⟨q0,q1,q2⟩
 have hB0:U w1.heap.size w1 w1:=qD _ _;have hBw:=hB0.drew;go_region_held3 (fun w'=>w'.cell? ⟨B,0,Y⟩=W (V ao vn ac)/\w'.cell? ⟨B,1,Y⟩=W (V ro rn rc)/\w'.cell? ⟨B,2,Y⟩=W (V po pn pc))
  (first|exact HSB.out _ hb12|exact HSB.out _ hBw|exact HSB.out _ hB0)
  (first
   |(go_at_call 31;refine hle.mono ?_;rintro e w2 ⟨lo,lc,rfl,hb2,HLv⟩;have hb12:=hBw.trans (hb2.mono hBw.size)))
 have hw2:=hb1.trans (hb12.mono hb1.size);have hcl:=HCl.out w2 hw2;clear hle hfi HLe HSB p0 p1 p2 p3 p4 p5 p6 s0 s1 s2 s3 s4 s5 s6;have HLet:Q (∀w3,U w2.heap.size w2 w3->BoolsV w3 (V lo pn lc) lt):=fun w3 h=>HLv.out.below h;go_wp2_with (first|(go_at_call 32;refine hcl.mono ?_;rintro e w3 ⟨rfl,rfl⟩))
 go_loopw [7,43] (fun u i wr=>∃k:Nat,k<=N/\i=.int T k/\(∃so sn sc,u=V so sn sc/\sn<=k/\Q ((bg k).length=sn/\SpO wr w3.heap.size (V so sn sc) (bg k)))/\U w3.heap.size w3 wr) (fun _ i _=>N-(intOf i).toNat)
 case atStart=>exact⟨0,qJ _,rfl,⟨Y,0,0,rfl,qB _,by rw[HNil.out];rfl,by rw[HNil.out];exact SpO.nil _ _⟩,qD _ _⟩
 case round=>
  obtain⟨k,hk,rfl,⟨so,sn,sc,rfl,hsn,HSp⟩,hbr3⟩:=hrel;have hbr:=hw2.trans (hbr3.mono hw2.size);have HBo:=(show Q _ from HLet.out wr hbr3);obtain⟨_,p0,p1,p2,p3,p4,p5,p6⟩:=HS.out wr hbr;by_cases hkN:k<N
  .have htr:=HTr.out k _ wr hkN hbr HBo.out;have hst:=HSt.out k;have HSk:Q (∀w4,U wr.heap.size wr w4->SpO w4 w3.heap.size (V so sn sc) (bg k)):=fun w4 h=>HSp.out.2.later h (qB _);have HSl:Q ((bg k).length=sn):=HSp.out.1;rcases HTru.out k with ht|ht
   .rw[ht]at htr hst;rw[if_pos rfl]at hst;have HE:Q (bg (k+1)=bg k):=hst;clear hst ht HBo HSp;go_wp2_with (first|(go_at_call 33;refine htr.mono ?_;rintro e w4 ⟨b,off,c,rfl,hb4,d0⟩;have hbw4:=hbr3.trans (hb4.mono hbr3.size)))
    go_roundw
    case rel=>exact⟨k+1,by omega,by go_num,⟨so,sn,sc,rfl,by omega,by rw[HE.out];exact HSl.out,by rw[HE.out];exact HSk.out _ hb4⟩,hbw4⟩
    case measure=>simp[intOf];omega
   .rw[ht]at htr hst;rw[if_neg (by simp)]at hst;have HE:Q (bg (k+1)=bg k++[(first,(k:Int))]):=hst;have hsz:w.heap.size<=wr.heap.size:=hbr.size;clear hst ht HBo HSp;go_wp2_with (first|(go_at_call 33;refine htr.mono ?_;rintro e w4 ⟨b,off,c,rfl,hb4,d0⟩;have hbw4:=hbr3.trans (hb4.mono hbr3.size);have hsp:=HSk.out _ hb4;have hs4:=hbw4.size)|(at_builtin;refine MZ first (k:Int) rfl _ _ rfl w3.heap.size sn sc so (bg k) HSl.out rfl hsp rfl (by omega) hs4 ?_;intro vo5 cap5 w5 ho5 hb5 hg5;have HO5:Q (SpO w5 w3.heap.size (.slice vo5 (sn+1) cap5) (bg k++[(first,(k:Int))])):=ho5;have hbw5:=hbw4.trans hb5;clear ho5 hg5 hsp))
    go_roundw
    case rel=>exact⟨k+1,by omega,by go_num,⟨vo5,sn+1,cap5,rfl,by omega,by rw[HE.out,qF,HSl.out];rfl,by rw[HE.out];exact HO5.out⟩,hbw5⟩
    case measure=>simp[intOf];omega
  .obtain rfl:k=N:=by omega
   have HSl:Q ((bg k).length=sn):=HSp.out.1;have HSk:Q (SpO wr w.heap.size (V so sn sc) (bg k)):=A0 HSp.out.2 hw2.size;clear HSp HBo;go_wp2_with fail
   go_ret2;refine⟨so,sc,by rw[HSl.out];rfl,hbr,by rw[HSl.out];exact HSk.out⟩
noncomputable def BC(vars:List Vr)(env:List Int)(rules:List Ru)(k:Nat):List Int:=(rules.take k).filterMap (BV vars env)
theorem TX{vars:List Vr}{env:List Int}{rules:List Ru}{k:Nat}(hk:k<rules.length){x:Int}(h:BV vars env (rules.getD k ru0)=W x):BC vars env rules (k+1)=BC vars env rules k++[x]:=by
 unfold BC;rw[q7 hk,yG,show rules[k]=rules.getD k ru0 by simp[qC,hk]];generalize rules.getD k ru0=r at h;simp[h]
theorem TW{vars:List Vr}{env:List Int}{rules:List Ru}{k:Nat}(hk:k<rules.length)(h:BV vars env (rules.getD k ru0)=Y):BC vars env rules (k+1)=BC vars env rules k:=by
 unfold BC;rw[q7 hk,yG,show rules[k]=rules.getD k ru0 by simp[qC,hk]];generalize rules.getD k ru0=r at h;simp[h]
theorem Mc(vars:List Vr)(env:List Int)(rules:List Ru)(k:Nat):(BC vars env rules k).length<=k:=by
 unfold BC;exact qI (List.length_filterMap_le _ _) (by simp;omega)
noncomputable def G1(m:Mo)(code:Int):List Int:=if BC m.vars (A7 m.vars code) m.rules m.rules.length=[]then [code]else BC m.vars (A7 m.vars code) m.rules m.rules.length
noncomputable def AL(m:Mo)(code:Int):List Int:=upL (G1 m code)
noncomputable def Cw(m:Mo)(code:Int):List Int:=if Ao m code=0 then AL m code else []
theorem TV{vars:List Vr}{env:List Int}{rules:List Ru}{k:Nat}(hk:k<=rules.length)(x:Int):x∈BC vars env rules k↔∃j,j<k/\BV vars env (rules.getD j ru0)=W x:=by
 unfold BC;rw[List.mem_filterMap];constructor
 .rintro ⟨r,hr,e⟩;obtain⟨j,hj,rfl⟩:=xB.1 hr;rw[qP]at hj;refine⟨j,by omega,?_⟩;rw[yU]at e;rw[show rules.getD j ru0=rules[j]'(by omega) by simp[qC,show j<rules.length by omega]];exact e
 .rintro ⟨j,hj,e⟩;refine⟨rules.getD j ru0,?_,e⟩;rw[xB];exact⟨j,by rw[qP];omega,by rw[yU];simp[qC,show j<rules.length by omega]⟩
theorem T1{vars:List Vr}{env:List Int}{r:Ru}{x:Int}(hv:Br vars)(h:BV vars env r=W x):0<=x/\x<AK vars vars.length:=by
 unfold BV at h;split at h
 .rename_i hc;injection h with h;subst h;exact IK hv (qB _) hc.2.2
 .cases h
def En(base:Nat)(w:S)(v:K)(l:List Int):Prop:=w.ownsRow base 3 1 v l.length (AB l)/\v≠V Y 0 0
theorem En.form{base:Nat}{w:S}{v:K}{l:List Int}(h:En base w v l):∃g cap,v=V (W ⟨g,0,Y⟩) l.length cap/\base<=g/\g<w.heap.size:=by
 rcases h.1.2 with⟨e0,_⟩|⟨g,cap,cur,rfl,hb,hg,_⟩
 .exact absurd e0 h.2
 .exact ⟨g,cap,rfl,hb,(qG.1 hg).1⟩
theorem SW (va vr:K) (m:Mo) (code:Int) (w:S) (hB:0 < w.heap.size) (hT:AH w) (hV:Av w va vr m) (hm:mcode m=0) :
    J qA 122 #[A #[va,vr],.int T code] w fun e w'=>∃v,e=O (H #[v,.int T (Ao m code)])/\U w.heap.size w w'/\IntsV w' v (Cw m code)/\w'.ownsRow w.heap.size 3 1 v (Cw m code).length (AB (Cw m code)):=by
  have hA:∀o,U w.heap.size w (w.alloc o):=fun o=>(qD _ _).alloc (qB _) o;have hVb:∀w',U w.heap.size w w'->∀ao cap,va=.slice ao m.vars.length cap->Av w' (.slice ao m.vars.length cap) (V Y 0 0) ⟨m.vars,[]⟩:=fun w' hb ao cap e=>⟨e▸hV.1.below hb,⟨Y,0,rfl,⟨by simp,fun _=>⟨rfl,rfl⟩⟩,fun h=>by simp at h⟩⟩;obtain⟨ao,cap,rfl⟩:=hV.1.shape;obtain⟨ro,rc,hro⟩:=hV.2.shape;have hba:=fun w=>Hz ao ro m.vars.length cap m.rules.length rc w;by_cases hw:Ao m code=0
  . have hvl:∀w',U w.heap.size w w'->J qA 57 #[A #[.slice ao m.vars.length cap,V Y 0 0],.int T code] w' fun e w2=>∃B,e=O (H #[V (W ⟨B,0,Y⟩) (A7 m.vars code).length (A7 m.vars code).length,.int T 0])/\w'.heap.size<=B/\U w'.heap.size w' w2/\w2.rowIs B 3 (A7 m.vars code).length (fun j=>.int T ((A7 m.vars code).getD j 0)):=fun w' hb=>
      NH _ _ ⟨m.vars,[]⟩ code w' (qE hB hb.size) (hT.below hb hB) (hVb w' hb ao cap rfl) (by rw[Hj _ hm];exact hw)
    obtain⟨hr12,hrs⟩:=Rv hm;have HDo:Q (∀w' (_:U w.heap.size w w') B k gv sv,k<m.rules.length->w'.rowIs B 3 (A7 m.vars code).length (fun j=>.int T ((A7 m.vars code).getD j 0))->OpsV w' gv (m.rules.getD k ru0).guard->SetsV w' sv (m.rules.getD k ru0).sets->J qA 150 #[A #[.slice ao m.vars.length cap,vr],V (W ⟨B,0,Y⟩) (A7 m.vars code).length (A7 m.vars code).length,A #[gv,sv]] w' fun e w2=>e=O (H #[ZZ T (Gq (BV m.vars (A7 m.vars code) (m.rules.getD k ru0))),.int T (Gp (BV m.vars (A7 m.vars code) (m.rules.getD k ru0)))])/\U w'.heap.size w' w2):=fun w' hb B k gv sv hk hrow hg hs=>
      PR _ vr gv sv B m (A7 m.vars code) (m.rules.getD k ru0) w' (qE hB hb.size) (hT.below hb hB) (hV.below hb) hm (hrs k hk) (Js _ _) hrow hg hs
    have HR:Q (RulesV w vr m.rules):=hV.2;have HNL:Q (Cw m code=upL (if BC m.vars (A7 m.vars code) m.rules m.rules.length=[]then [code]else BC m.vars (A7 m.vars code) m.rules m.rules.length)):=by show _=_;unfold Cw AL G1;rw[if_pos hw]
    rw[hw];generalize Cw m code=res at *;generalize A7 m.vars code=env at *;subst hro;obtain⟨rn,hrn⟩:∃rn,rn=m.rules.length:=⟨_,rfl⟩
    have HRN:Q (rn=m.rules.length):=hrn;rw[<-hrn]at hba HDo HR HNL hr12⊢;obtain⟨i0,hi,hz0,hz1,hz2⟩:=info_parts Ba;clear hV hT hVb hw hm hrs hrn;generalize m.vars.length=n at *
    go_enter Tryz.func122,Tryz.ntmps122;go_wp2_with (first|(go_at_call 58;refine(hba _).mono ?_;rintro e w1 ⟨rfl,hb1⟩;have hbw1:=(hA _).trans (hb1.mono (hA _).size);have k10:w1.cell? ⟨w.heap.size,0,Y⟩=W (V ao n cap):=(hb1.cell (p:=⟨w.heap.size,0,Y⟩) (by simp)).trans (by simp[go_sem]);have k11:w1.cell? ⟨w.heap.size,1,Y⟩=W (V ro rn rc):=(hb1.cell (p:=⟨w.heap.size,1,Y⟩) (by simp)).trans (by simp[go_sem]);have hs1:w.heap.size<w1.heap.size:=(by have:=hb1.size;simp at this;omega))|(go_at_call 57;refine(hvl _ hbw1).mono ?_;rintro e w2 ⟨B,rfl,hBl,hb2,hr2⟩;have k20:=(hb2.cell (p:=⟨w.heap.size,0,Y⟩) hs1).trans k10;have k21:=(hb2.cell (p:=⟨w.heap.size,1,Y⟩) hs1).trans k11;have hs2:=qE hs1 hb2.size;have kA1:∀o,(w2.alloc o).cell? ⟨w.heap.size,1,Y⟩=W (V ro rn rc):=fun o=>(((qD w2.heap.size w2).alloc (qB _) o).cell (p:=⟨w.heap.size,1,Y⟩) hs2).trans k21))
    have hbw2:=hbw1.trans (hb2.mono hbw1.size);have hA2:∀o,U w2.heap.size w2 (w2.alloc o):=fun o=>(qD _ _).alloc (qB _) o;have HRow:Q (w2.rowIs B 3 env.length (fun j=>.int T (env.getD j 0))):=hr2;have HB2:Q (U w.heap.size w w2):=hbw2;have HK2:Q (∀w',U w2.heap.size w2 w'->w'.cell? ⟨w.heap.size,0,Y⟩=W (V ao n cap)/\w'.cell? ⟨w.heap.size,1,Y⟩=W (V ro rn rc)):=fun w' hb=>⟨(hb.cell (p:=⟨w.heap.size,0,Y⟩) hs2).trans k20,(hb.cell (p:=⟨w.heap.size,1,Y⟩) hs2).trans k21⟩;have HO0:Q (En w2.heap.size (w2.alloc (E #[] 3)) (V (W ⟨w2.heap.size,0,Y⟩) 0 0) (BC m.vars env m.rules 0)):=⟨World.ownsRow_lit w2 #[] 0 (qB _) (by decide) rfl,by simp⟩;clear hvl hba hb1 hbw1 k10 k11 hs1 hb2 hr2 k20 k21 kA1 hbw2;go_loopw [8,27] (fun nx i wr=>∃k:Nat,k<=rn/\i=.int T k/\Q (En w2.heap.size wr nx (BC m.vars env m.rules k))/\Q (U w2.heap.size w2 wr)) (fun _ i _=>rn-(intOf i).toNat)
    case atStart=>exact⟨0,qJ _,rfl,HO0.out,hA2 _⟩
    case round=>
      obtain⟨k,hk,rfl,HOwn,HBel⟩:=hrel;have hbel:=HBel.out;have hbw:=HB2.out.trans (hbel.mono HB2.out.size);obtain⟨kr0,kr1⟩:=HK2.out wr hbel;obtain⟨g,gc,rfl,hg,hgl⟩:=HOwn.out.form;have hown:=HOwn.out.1;by_cases hlt:k<rn
      . obtain⟨b,off,rfl,hblt,hat⟩:=HR.out.at (i:=k) (by rw[<-HRN.out];exact hlt)
        obtain⟨⟨u,c0,hou⟩,u',c1,hsu⟩:=hat.below hbw hblt;obtain⟨uo,uc,rfl⟩:=hou.shape;obtain⟨so,sc,rfl⟩:=hsu.shape;have hAr:∀o,U wr.heap.size wr (wr.alloc o):=fun o=>(qD _ _).alloc (qB _) o;have hkA0:∀o,(wr.alloc o).cell? ⟨w.heap.size,0,Y⟩=W (V ao n cap):=fun o=>(HK2.out _ (hbel.trans ((hAr o).mono hbel.size))).1;have hkA1:∀o,(wr.alloc o).cell? ⟨w.heap.size,1,Y⟩=W (V (W ⟨b,off,Y⟩) rn rc):=fun o=>(HK2.out _ (hbel.trans ((hAr o).mono hbel.size))).2;have hdo:=fun o=>HDo.out (wr.alloc o) (hbw.trans ((hAr o).mono hbw.size)) B k _ _ hlt (B6 (B6 HRow.out hbel) (hAr o)) (hou.below (hAr o)) (hsu.below (hAr o));have HRl:Q ((BC m.vars env m.rules k).length<=k):=Mc _ _ _ _;have hk':k<m.rules.length:=by rw[<-HRN.out];exact hlt
        generalize(m.rules.getD k ru0).guard.length=gl at *;generalize(m.rules.getD k ru0).sets.length=sl at *;obtain⟨L,hL⟩:∃L,L=(BC m.vars env m.rules k).length:=⟨_,rfl⟩
        have HL:Q (L=(BC m.vars env m.rules k).length):=hL;rw[<-hL]at hown HRl⊢;cases hres:BV m.vars env (m.rules.getD k ru0)with
        |none=>
          rw[hres]at hdo;simp only[Gq,Gp]at hdo;have HN:Q (BC m.vars env m.rules (k+1)=BC m.vars env m.rules k):=TW hk' hres;have HW4:Q (∀o w4,U (wr.alloc o).heap.size (wr.alloc o) w4->U w2.heap.size w2 w4/\En w2.heap.size w4 (V (W ⟨g,0,Y⟩) L gc) (BC m.vars env m.rules k)):=fun o w4 hb=>⟨(hbel.alloc hbel.size o).trans (hb.mono (hbel.alloc hbel.size o).size),by
            refine⟨?_,by simp⟩;rw[<-HL.out];exact As (As hown (hAr o) (qB _)) hb (qB _)⟩
          clear hat hou hsu HDo HR hres hk' hown hL;go_wp2_with (go_at_call 150;refine(hdo _).mono ?_;rintro e w4 ⟨rfl,hb4⟩;obtain⟨hb24,ho4⟩:=HW4.out _ w4 hb4)
          exact⟨⟨k+1,hlt,by first|rfl|simp,by rw[HN.out];exact ho4,hb24⟩,by simp[intOf];omega⟩
        |some x=>
          rw[hres]at hdo;simp only[Gq,Gp]at hdo;have HN:Q (BC m.vars env m.rules (k+1)=BC m.vars env m.rules k++[x]):=TX hk' hres;have h63:L+1<=maxLen:=by have:=HRl.out;unfold maxLen;omega
          have hkb:(L+1)*8<=140737488355328:=by have:=HRl.out;omega
          clear hat hou hsu HDo HR hres hk' hL;go_wp2_with (first|(go_at_call 150;refine(hdo _).mono ?_;rintro e w4 ⟨rfl,hb4⟩;have hb24:=(hbel.alloc hbel.size _).trans (hb4.mono (hbel.alloc hbel.size _).size);have hown4:=fun o=>(As (As hown (hAr _) (qB _)) hb4 (qB _)).alloc o;have hbase:∀o,w2.heap.size<=(w4.alloc o).heap.size:=(fun o=>by have:=hb24.size;simp;omega))|(at_builtin;refine wpList_append_lies _ rfl (.tmp 40) (.tmp 42) 43 rfl w2.heap.size 3 i0 (.int T 0) 1 8 Tryz.underlying43 hi hz0 hz1 hz2 rfl (by decide) (V (W ⟨g,0,Y⟩) L gc) L _ rfl (hown4 _) ⟨w4.heap.size,0,Y⟩ 1 1 [.int T x] rfl rfl (cell_one_new _ _ _) (by intro u hu;simp at hu;subst hu;rfl) (by decide) h63 hkb (hbase _) _ rfl ?_;intro g5 cp5 w5 hown5 hgrow5 hat5 hgl5))
          have hb25:U w2.heap.size w2 w5:=(hb24.alloc hb24.size _).grown hgrow5 (hbase _) (fun z hz=>by have hgz:g=z:=(by simpa[Value.ownBlock]using hz);rw[<-hgz];exact hg);have ho5:En w2.heap.size w5 (V (W ⟨g5,0,Y⟩) (L+1) cp5) (BC m.vars env m.rules (k+1)):=by
            refine⟨?_,by simp⟩;rw[HN.out,qF,<-HL.out];rw[show AB (BC m.vars env m.rules k++[x])=AB (BC m.vars env m.rules k)++[.int T x] by simp[AB]];exact hown5
          exact⟨⟨k+1,hlt,by first|rfl|simp,ho5,hb25⟩,by simp[intOf];omega⟩
      . have hkn:k=rn:=by omega
        subst hkn;have HRl:Q ((BC m.vars env m.rules k).length<=k):=Mc _ _ _ _;generalize BC m.vars env m.rules k=raw at *;clear HDo HR HOwn kr0 kr1 hlt hk
        by_cases hraw:raw=[]
        . have HRes:Q (res=upL [code]):=by show _=_;rw[HNL.out,if_pos hraw]
          subst hraw;have hown0:wr.ownsRow w2.heap.size 3 1 (V (W ⟨g,0,Y⟩) 0 gc) 0 []:=hown;have hown4:=fun o=>hown0.alloc o;have hbase:∀o,w2.heap.size<=(wr.alloc o).heap.size:=fun o=>by have:=hbel.size;simp;omega
          have hAr:∀o,U wr.heap.size wr (wr.alloc o):=fun o=>(qD _ _).alloc (qB _) o;clear hown HNL HRl;simp only[vC];have hso:=fun(w5:S) g5 cp5 (ho:w5.ownsRow w2.heap.size 3 1 (V (W ⟨g5,0,Y⟩) 1 cp5) 1 (AB [code]))=>NB g5 cp5 w2.heap.size [code] w5 (by simp) ho;have hms:[code].mergeSort leB=[code]:=List.mergeSort_singleton _;have HUp:Q (Lib.compact [code]=upL [code]):=by show _=Lib.compact _;rw[hms]
          rw[hms]at hso;simp only[qV,vC,qW]at hso;have hco:=fun(w5:S) g5 cp5 (ho:w5.ownsRow w2.heap.size 3 1 (V (W ⟨g5,0,Y⟩) 1 cp5) 1 (AB [code]))=>Kn g5 cp5 w2.heap.size [code] w5 (by simp) ho;simp only[qV,vC,qW]at hco;rw[HUp.out]at hco;go_wp2_with (first|(at_builtin;refine wpList_append_lies _ rfl (.tmp 48) (.tmp 50) 43 rfl w2.heap.size 3 i0 (.int T 0) 1 8 Tryz.underlying43 hi hz0 hz1 hz2 rfl (by decide) (V (W ⟨g,0,Y⟩) 0 gc) 0 _ rfl (hown4 _) ⟨wr.heap.size,0,Y⟩ 1 1 [.int T code] rfl rfl (cell_one_new _ _ _) (by intro u hu;simp at hu;subst hu;rfl) (by decide) (by decide) (by decide) (hbase _) _ rfl ?_;intro g5 cp5 w5 hown5 hgrow5 hat5 hgl5;have hg5:w2.heap.size<=g5:=(by rcases hat5 with h5|h5;(have hgz:g=g5:=(by simpa[Value.ownBlock]using h5));(rw[<-hgz];exact hg);(rw[h5];exact hbase _)))|(go_at_call 151;refine(hso _ _ _ hown5).mono ?_;rintro e w6 ⟨rfl,hgr6,ho6⟩)|(go_at_call 152;refine(hco _ _ _ ho6).mono ?_;rintro e w7 ⟨rfl,hgr7,ho7⟩))
          have hb5:U w2.heap.size w2 w5:=(hbel.alloc hbel.size _).grown hgrow5 (hbase _) (fun z hz=>by have hgz:g=z:=(by simpa[Value.ownBlock]using hz);rw[<-hgz];exact hg);have hb7:U w2.heap.size w2 w7:=(hb5.grown hgr6 hb5.size (fun z hz=>by rw[<-Option.some.inj hz];exact hg5)).grown hgr7 (qI hb5.size hgr6.size) (fun z hz=>by rw[<-Option.some.inj hz];exact hg5);have hI7:IntsV w7 (V (W ⟨g5,0,Y⟩) (upL [code]).length cp5) (upL [code]):=Dv ho7;go_ret2;exact⟨_,rfl,HB2.out.trans (hb7.mono HB2.out.size),by rw[HRes.out];exact⟨hI7,A0 ho7 HB2.out.size⟩⟩
        . have HRes:Q (res=upL raw):=by show _=_;rw[HNL.out,if_neg hraw]
          have hpos:0<raw.length:=List.length_pos_iff.2 hraw;have hso:=NB g gc w2.heap.size raw wr (by have:=HRl.out;omega) hown;obtain⟨L,hL⟩:∃L,L=raw.length:=⟨_,rfl⟩;have HL:Q (L=raw.length):=hL;have HLs:Q ((raw.mergeSort leB).length=L):=by show _=_;rw[List.length_mergeSort,hL]
          have hL12:L<=12:=by have:=HRl.out;omega
          rw[<-hL]at hso hpos⊢;clear hown HNL HRl hraw hL;have HCo:Q (∀w5:S,w5.ownsRow w2.heap.size 3 1 (V (W ⟨g,0,Y⟩) L gc) L (AB (raw.mergeSort leB))->J qA 152 #[V (W ⟨g,0,Y⟩) L gc] w5 fun e w'=>e=O (V (W ⟨g,0,Y⟩) (upL raw).length gc)/\w5.grownBy w' (W g)/\w'.ownsRow w2.heap.size 3 1 (V (W ⟨g,0,Y⟩) (upL raw).length gc) (upL raw).length (AB (upL raw))):=fun w5 ho=>by
            rw[<-HLs.out]at ho⊢;exact Kn g gc w2.heap.size (raw.mergeSort leB) w5 (by rw[HLs.out];omega) ho
          go_wp2_with (first|(go_at_call 151;refine hso.mono ?_;rintro e w6 ⟨rfl,hgr6,ho6⟩;have hco:=HCo.out w6 ho6)|(go_at_call 152;refine hco.mono ?_;rintro e w7 ⟨rfl,hgr7,ho7⟩))
          have hb7:U w2.heap.size w2 w7:=(hbel.grown hgr6 hbel.size (fun z hz=>by rw[<-Option.some.inj hz];exact hg)).grown hgr7 (qI hbel.size hgr6.size) (fun z hz=>by rw[<-Option.some.inj hz];exact hg);have hI7:IntsV w7 (V (W ⟨g,0,Y⟩) (upL raw).length gc) (upL raw):=Dv ho7;go_ret2;exact⟨_,rfl,HB2.out.trans (hb7.mono HB2.out.size),by rw[HRes.out];exact⟨hI7,A0 ho7 HB2.out.size⟩⟩
  . have hvl:=fun w' (hb:U w.heap.size w w')=>Lx _ _ ⟨m.vars,[]⟩ code w' (qE hB hb.size) (hT.below hb hB) (hVb w' hb ao cap rfl)
    rw[Hj _ hm]at hvl;have hnl:Cw m code=[]:=by unfold Cw;rw[if_neg hw]
    rw[hnl];subst hro;generalize Ao m code=c at *;generalize FI ⟨m.vars,[]⟩ code=vs at *;generalize m.vars.length=n at *;generalize m.rules.length=rn at *;clear hV hT hVb hnl hm
    go_enter Tryz.func122,Tryz.ntmps122;go_wp2_with (first|(go_at_call 58;refine(hba _).mono ?_;rintro e w2 ⟨rfl,hb2⟩;have hbw2:=(hA _).trans (hb2.mono (hA _).size))|(go_at_call 57;refine(hvl _ hbw2).mono ?_;rintro e w3 ⟨v,rfl,hb3,_⟩))
    go_ret2;exact⟨_,rfl,hbw2.trans (hb3.mono hbw2.size),⟨Y,0,rfl,fun h=>absurd rfl h⟩,World.ownsRow_nil _ _ _ _⟩
theorem SX(va vr:K)(m:Mo)(code:Int)(w:S)(hB:0<w.heap.size)(hT:AH w)(hV:Av w va vr m)(hm:mcode m=0) :
  J qA 89 #[A #[va,vr],.int T code] w fun e w'=>∃v,e=O (H #[v,.int T (Ao m code)])/\U w.heap.size w w'/\w'.ownsRow w.heap.size 3 1 v (Cw m code).length (AB (Cw m code)):=by
 have hA:∀o,U w.heap.size w (w.alloc o):=fun o=>(qD _ _).alloc (qB _) o;have hch:=fun o=>C5 va vr m (w.alloc o) (qE hB (hA o).size) (hT.below (hA o) hB) (hV.below (hA o));have hne:=fun w' (hb:U w.heap.size w w')=>SW va vr m code w' (qE hB hb.size) (hT.below hb hB) (hV.below hb) hm;rw[hm]at hch;obtain⟨ao,cap,rfl⟩:=hV.1.shape;obtain⟨ro,rc,rfl⟩:=hV.2.shape;generalize Ao m code=c at *;generalize Cw m code=res at *;generalize m.vars.length=n at *;generalize m.rules.length=rn at *;clear hV hT hm
 go_enter Tryz.func89,Tryz.ntmps89;go_wp2_with (first|(go_at_call 55;refine(hch _).mono ?_;rintro e w1 ⟨rfl,hb1⟩;have hbw1:=(hA _).trans (hb1.mono (hA _).size);have k10:w1.cell? ⟨w.heap.size,0,Y⟩=W (V ao n cap):=(hb1.cell (p:=⟨w.heap.size,0,Y⟩) (by simp)).trans (by simp[go_sem]);have k11:w1.cell? ⟨w.heap.size,1,Y⟩=W (V ro rn rc):=(hb1.cell (p:=⟨w.heap.size,1,Y⟩) (by simp)).trans (by simp[go_sem]))|(go_at_call 122;refine(hne _ hbw1).mono ?_;rintro e w2 ⟨v,rfl,hb2,hI2,ho2⟩))
 go_ret2;exact⟨_,rfl,hbw1.trans (hb2.mono hbw1.size),A0 ho2 hbw1.size⟩
open Go.ChangeShapes Go.WideShapes Go.ChangeAt Go.RowKit Go.Deep Go.Maps
variable{Pz:Nat -> Prop}
noncomputable def Df(l:List (Int×Int))(lt:List Bool)(c:Nat):Int:=EZ l (tru l lt (c:Int))
noncomputable def sgL(l:List (Int×Int))(lt:List Bool):List Int:=(List.range (2^(AA l).length)).map fun(c:Nat)=>Df l lt c
theorem M7(l:List (Int×Int))(lt:List Bool):(sgL l lt).length=2^(AA l).length:=by simp[sgL]
theorem UW{l:List (Int×Int)}{lt:List Bool}{c:Nat}(h:c<2^(AA l).length):(sgL l lt).getD c 0=Df l lt c:=by simp[sgL,qC,h]
theorem BoolsV.sk{bs bl:Nat}{w w':S}{v:K}{x:List Bool}(h:BoolsV w v x)(hs:Sk bs bl w w')(hm:Ce w bs bl):BoolsV w' v x:=by
 obtain⟨ao,cap,rfl,h⟩:=h;refine⟨ao,cap,rfl,fun hne=>?_⟩;obtain⟨b,off,rfl,hlt,hat⟩:=h hne;exact⟨b,off,rfl,qE hlt hs.size,fun i hi=>hs.cell hm (hat i hi)⟩
theorem IntsV.sk{bs bl:Nat}{w w':S}{v:K}{x:List Int}(h:IntsV w v x)(hs:Sk bs bl w w')(hm:Ce w bs bl):IntsV w' v x:=by
 obtain⟨ao,cap,rfl,h⟩:=h;refine⟨ao,cap,rfl,fun hne=>?_⟩;obtain⟨b,off,rfl,hlt,hat⟩:=h hne;exact⟨b,off,rfl,qE hlt hs.size,fun i hi=>hs.cell hm (hat i hi)⟩
theorem SurvAt.sk{bs bl:Nat}{w w':S}{B:Nat}{va vr pv fv av:K}(h:SurvAt w B va vr pv fv av bs bl)(hs:Sk bs bl w w')(hm:Ce w bs bl):SurvAt w' B va vr pv fv av bs bl:=
 ⟨qE h.lt hs.size,hs.cell hm h.c0,hs.cell hm h.c1,hs.cell hm h.c2,hs.cell hm h.c3,hs.cell hm h.c4,hs.cell hm h.c5,hs.cell hm h.c6⟩
theorem SpO.sk{bs bl:Nat}{w w':S}{base:Nat}{v:K}{x:List (Int×Int)}(h:SpO w base v x)(hs:Sk bs bl w w')(hm:Ce w bs bl):SpO w' base v x:=by
 refine⟨h.1,?_⟩;rcases h.2 with h0|⟨g,cap,cur,h1,h2,h3,h4⟩
 .exact .inl h0
 .refine .inr ⟨g,cap,cur,h1,h2,?_,h4⟩;obtain⟨⟨es,c,e1⟩,⟨es',c',e2⟩⟩:=hm;rw[hs.block g (qG.1 h3).1 (fun e=>by subst e;rw[e1]at h3;simp at h3) (fun e=>by subst e;rw[e2]at h3;simp at h3)];exact h3
theorem Ae.sk{bs bl:Nat}{w w':S}{v:K}{t:TypeId}(h:Ae w v t)(hs:Sk bs bl w w')(hm:Ce w bs bl):Ae w' v t:=by
 intro a n c e;obtain⟨cs,fr,h1⟩:=h a n c e;obtain⟨⟨es,cl,e1⟩,⟨es',cl',e2⟩⟩:=hm;refine⟨cs,fr,?_⟩;rw[hs.block a.block (qG.1 h1).1 (fun e=>by rw[e,e1]at h1;simp at h1) (fun e=>by rw[e,e2]at h1;simp at h1)];exact h1
theorem Ae.below{w w':S}{v:K}{t:TypeId}(h:Ae w v t)(hb:U w.heap.size w w'):Ae w' v t:=by
 intro a n c e;obtain⟨cs,fr,h1⟩:=h a n c e;exact⟨cs,fr,(hb.block _ (qG.1 h1).1).trans h1⟩
theorem Ae.setCell{w:S}{v:K}{t:TypeId}(h:Ae w v t)(b i:Nat)(u:K):Ae (w.setCell ⟨b,i,Y⟩ u) v t:=by
 intro a n c e;obtain⟨cs,fr,h1⟩:=h a n c e;by_cases hp:a.block=b
 .refine ⟨cs.setIfInBounds i u,fr,?_⟩;simp[World.setCell,Array.getElem?_modify,<-hp,h1]
 .exact ⟨cs,fr,(RowKit.Below.heap_setCell _ _ _ _ hp).trans h1⟩
theorem Ae.grown{w w':S}{v:K}{t t':TypeId}{own:Option Nat}(h:Ae w v t)(hg:w.grownBy w' own)(ht:t≠t')(ho:∀g,own=W g->∃cs fr,w.heap[g]? = W (E cs t' fr)):Ae w' v t:=by
 intro a n c e;obtain⟨cs,fr,h1⟩:=h a n c e;refine⟨cs,fr,(hg.block _ (qG.1 h1).1 (fun e2=>?_)).trans h1⟩;obtain⟨cs',fr',h2⟩:=ho _ e2.symm;rw[h1]at h2;injection h2 with h2;injection h2 with _ h3 _;exact ht h3
theorem Ae.owns{w:S}{base n:Nat}{v:K}{t:TypeId}{s:Nat}{xs:List K}(h:w.ownsRow base t s v n xs):Ae w v t:=by
 intro a k c e;rcases h.2 with⟨h0,_⟩|⟨g,cap,cur,h1,_,h3,_⟩
 .rw[h0]at e;simp at e
 .rw[h1]at e;injection e with e _ _;injection e with e;subst e;exact⟨cur,_,h3⟩
theorem BoolsV.grown{w w':S}{v:K}{x:List Bool}{own:Option Nat}(h:BoolsV w v x)(hty:Ae w v 4)(hg:w.grownBy w' own)(ho:∀g,own=W g->∃cs fr,w.heap[g]? = W (E cs 82 fr)):BoolsV w' v x:=by
 obtain⟨ao,cap,rfl,h⟩:=h;refine⟨ao,cap,rfl,fun hne=>?_⟩;obtain⟨b,off,rfl,hlt,hat⟩:=h hne;refine⟨b,off,rfl,qE hlt hg.size,fun i hi=>?_⟩;obtain⟨cs,fr,h1⟩:=hty _ _ _ rfl;rw[World.cell?_of_block (hg.block b hlt (fun e2=>by
  obtain⟨cs',fr',h2⟩:=ho _ e2.symm;rw[h1]at h2;injection h2 with h2;injection h2 with _ h3 _;exact absurd h3 (by decide)))]
 exact hat i hi
theorem IntsV.grown{w w':S}{v:K}{x:List Int}{own:Option Nat}(h:IntsV w v x)(hty:Ae w v 3)(hg:w.grownBy w' own)(ho:∀g,own=W g->∃cs fr,w.heap[g]? = W (E cs 82 fr)):IntsV w' v x:=by
 obtain⟨ao,cap,rfl,h⟩:=h;refine⟨ao,cap,rfl,fun hne=>?_⟩;obtain⟨b,off,rfl,hlt,hat⟩:=h hne;refine⟨b,off,rfl,qE hlt hg.size,fun i hi=>?_⟩;obtain⟨cs,fr,h1⟩:=hty _ _ _ rfl;rw[World.cell?_of_block (hg.block b hlt (fun e2=>by
  obtain⟨cs',fr',h2⟩:=ho _ e2.symm;rw[h1]at h2;injection h2 with h2;injection h2 with _ h3 _;exact absurd h3 (by decide)))]
 exact hat i hi
def Al(Pz:Nat->Prop)(w:S)(m:Mo)(ps:List (List (Int×Int)))(l:List (Int×Int))(code:Int)(v:K):Prop:=
 ∃lo lc no nc so sc,v=A #[.slice lo ps.length lc,.slice no (AL m code).length nc,.slice so (2^(AA l).length) sc]/\BoolsV w (.slice lo ps.length lc) (AJ m ps code)/\IntsV w (.slice no (AL m code).length nc) (AL m code)/\IntsV w (.slice so (2^(AA l).length) sc) (sgL l (AJ m ps code))/\Ae w (.slice lo ps.length lc) 4/\Ae w (.slice no (AL m code).length nc) 3/\Ae w (.slice so (2^(AA l).length) sc) 3/\(∀a,no=W a->Pz a.block)/\(∀a,so=W a->Pz a.block)
theorem Al.sk{bs bl:Nat}{w w':S}{m:Mo}{ps:List (List (Int×Int))}{l:List (Int×Int)}{code:Int}{v:K}(h:Al Pz w m ps l code v)(hs:Sk bs bl w w')(hm:Ce w bs bl):Al Pz w' m ps l code v:=by
 obtain⟨lo,lc,no,nc,so,sc,h1,h2,h3,h4,h5,h6,h7,h8⟩:=h;exact⟨lo,lc,no,nc,so,sc,h1,h2.sk hs hm,h3.sk hs hm,h4.sk hs hm,h5.sk hs hm,h6.sk hs hm,h7.sk hs hm,h8⟩
theorem Al.below{w w':S}{m:Mo}{ps:List (List (Int×Int))}{l:List (Int×Int)}{code:Int}{v:K}(h:Al Pz w m ps l code v)(hb:U w.heap.size w w'):Al Pz w' m ps l code v:=by
 obtain⟨lo,lc,no,nc,so,sc,h1,h2,h3,h4,h5,h6,h7,h8⟩:=h;exact⟨lo,lc,no,nc,so,sc,h1,h2.below hb,h3.below hb,h4.below hb,h5.below hb,h6.below hb,h7.below hb,h8⟩
theorem Al.grown{w w':S}{m:Mo}{ps:List (List (Int×Int))}{l:List (Int×Int)}{code:Int}{v:K}{own:Option Nat}(h:Al Pz w m ps l code v)(hg:w.grownBy w' own)(ho:∀g,own=W g->∃cs fr,w.heap[g]? = W (E cs 82 fr)):Al Pz w' m ps l code v:=by
 obtain⟨lo,lc,no,nc,so,sc,h1,h2,h3,h4,h5,h6,h7,h8⟩:=h;exact⟨lo,lc,no,nc,so,sc,h1,h2.grown h5 hg ho,h3.grown h6 hg ho,h4.grown h7 hg ho,h5.grown hg (by decide) ho,h6.grown hg (by decide) ho,h7.grown hg (by decide) ho,h8⟩
def six(x:List Bool):List Bool:=x++List.replicate (6-x.length) G
def E3(x:List Bool)(c sg:Int):Value:=.agg ((six x).map Value.bool++[Value.int .i64 c,Value.int .i64 sg]).toArray
theorem Ra{x y:List Bool}{c d s t:Int}(hl:x.length=y.length)(h:E3 x c s=E3 y d t):x=y/\c=d/\s=t:=by
 unfold E3 at h;injection h with h;have h1:=congrArg Array.toList h;have hs:((six x).map Value.bool).length=((six y).map Value.bool).length:=by simp[six,hl]
 obtain⟨h2,h3⟩:=kC h1 hs;have h4:six x=six y:=by
  have:=List.map_inj_right (f:=Value.bool) (fun a b hab=>by injection hab) |>.1 h2;exact this
 unfold six at h4;have h5:=(kC h4 hl).1;simp at h3;exact⟨h5,h3.1,h3.2⟩
def F2(ps:List (List (Int×Int)))(l:List (Int×Int))(kl:Lit)(v:K):Prop:=
 ∃(x:List Bool) (c sg:Int) (b:Bool),x.length=ps.length/\keyOf qA 193 (E3 x c sg)=W kl/\v=A #[.bool b]/\∀(y:List Bool) (d:Int),y.length=ps.length->BF l y d=0->EZ l (tru l y d)=sg->A8 l x c y d=b
structure SvOk(Pz:Nat->Prop)(w0 w:S)(B bs bl n:Nat)(va vr pv fv:K)(m:Mo)(ps:List (List (Int×Int)))(l:List (Int×Int))(ho:Option Addr)(hc:Nat):Prop where
 box:SurvAt w B va vr pv fv (.slice ho (AA l).length hc) bs bl
 bel:U w0.heap.size w0 w
 lo1:w0.heap.size<=bs
 lo2:w0.heap.size<=bl
 ne:bs≠bl
 ah:IntsV w (.slice ho (AA l).length hc) (AA l)
 aty:Ae w (.slice ho (AA l).length hc) 3
 up:∀b,w.heap.size<=b->Pz b
 aP:∀a,ho=W a->Pz a.block
 st:∃f,MapIs w 3 bs n f/\∀kl v,f kl=W v->∃code,kl=.int T code/\(0<=code/\code<AK m.vars m.vars.length)/\Al Pz w m ps l code v
 li:∃f,MapIs w 193 bl n f/\∀kl v,f kl=W v->F2 ps l kl v
section
variable{w0 w w':S}{B bs bl n:Nat}{va vr pv fv:K}{m:Mo}{ps:List (List (Int×Int))}{l:List (Int×Int)}{ho:Option Addr}{hc:Nat}
theorem SvOk.two(h:SvOk Pz w0 w B bs bl n va vr pv fv m ps l ho hc):Ce w bs bl:=by
 obtain⟨f,h1,_⟩:=h.st;obtain⟨g,h2,_⟩:=h.li;exact⟨h1.isMap,h2.isMap⟩
theorem SvOk.below(h:SvOk Pz w0 w B bs bl n va vr pv fv m ps l ho hc)(hb:U w.heap.size w w'):SvOk Pz w0 w' B bs bl n va vr pv fv m ps l ho hc:=by
 obtain⟨f,h1,h2⟩:=h.st;obtain⟨g,h3,h4⟩:=h.li;refine⟨h.box.later hb,h.bel.trans (hb.mono h.bel.size),h.lo1,h.lo2,h.ne,h.ah.below hb,h.aty.below hb,fun b hb2=>h.up b (qI hb.size hb2),h.aP,⟨f,h1.kept (hb.block _ h1.lt),fun kl v hv=>?_⟩,⟨g,h3.kept (hb.block _ h3.lt),h4⟩⟩;obtain⟨code,e1,e2,e3⟩:=h2 kl v hv;exact⟨code,e1,e2,e3.below hb⟩
theorem MapIs.mono{w:S}{kt:TypeId}{b n n':Nat}{f:Lit->Option K}(h:MapIs w kt b n f)(hn:n<=n'):MapIs w kt b n' f:=by
 obtain⟨D,h1,h2⟩:=h;exact⟨D,h1.mono hn,h2⟩
theorem SvOk.mono{n':Nat}(h:SvOk Pz w0 w B bs bl n va vr pv fv m ps l ho hc)(hn:n<=n'):SvOk Pz w0 w B bs bl n' va vr pv fv m ps l ho hc:=by
 obtain⟨f,h1,h2⟩:=h.st;obtain⟨g,h3,h4⟩:=h.li;exact⟨h.box,h.bel,h.lo1,h.lo2,h.ne,h.ah,h.aty,h.up,h.aP,⟨f,h1.mono hn,h2⟩,⟨g,h3.mono hn,h4⟩⟩
theorem SvOk.putL(h:SvOk Pz w0 w B bs bl n va vr pv fv m ps l ho hc){f:Lit->Option K}{kl:Lit}{v:K}(hg:w.grownBy w' (W bl))(h2:∀kl v,f kl=W v->F2 ps l kl v)
  (hm:MapIs w' 193 bl (n+1) (DZ f kl v)) (hv:F2 ps l kl v):SvOk Pz w0 w' B bs bl (n+1) va vr pv fv m ps l ho hc:=by
 have hs:Sk bs bl w w':=Sk.grown hg (.inr rfl);have ht:=h.two;obtain⟨g,h3,h4⟩:=h.st;refine⟨h.box.sk hs ht,h.bel.trans (hs.below h.lo1 h.lo2 h.bel.size),h.lo1,h.lo2,h.ne,h.ah.sk hs ht,h.aty.sk hs ht,fun b hb2=>h.up b (qI hs.size hb2),h.aP,⟨g,(h3.kept (hg.block _ h3.lt (by intro e;injection e with e;exact h.ne e))).mono (Nat.le_succ _),fun k u hu=>?_⟩,⟨_,hm,fun k u hu=>?_⟩⟩
 .obtain ⟨c,e1,e2,e3⟩:=h4 k u hu;exact⟨c,e1,e2,e3.sk hs ht⟩
 .by_cases hk:k=kl
  .subst hk;rw[GW]at hu;cases hu
   exact hv
  .rw[GU hk]at hu;exact h2 k u hu
theorem SvOk.spots{own:Option Nat}(h:SvOk Pz w0 w B bs bl n va vr pv fv m ps l ho hc)(hg:w.grownBy w' own)(hown:∀g,own=W g->B<g/\w0.heap.size<=g/\∃cs fr,w.heap[g]? = W (E cs 82 fr)):SvOk Pz w0 w' B bs bl n va vr pv fv m ps l ho hc:=by
 have hty:∀g,own=W g->∃cs fr,w.heap[g]? = W (E cs 82 fr):=fun g e=>(hown g e).2.2;have hbx:∀i v,w.cell? ⟨B,i,Y⟩=W v->w'.cell? ⟨B,i,Y⟩=W v:=fun i v hv=>by
  rw[World.cell?_of_block (hg.block B h.box.lt (fun e=>by have:=(hown B e.symm).1;omega))];exact hv
 obtain⟨f,h1,h2⟩:=h.st;obtain⟨q,h3,h4⟩:=h.li;have hms:∀b es c,w.heap[b]? = W (.map es c)->b<w.heap.size->w'.heap[b]? = w.heap[b]?:=fun b es c e hlt=>hg.block b hlt (fun e2=>by
  obtain⟨cs,fr,e3⟩:=hty b e2.symm;rw[e]at e3;simp at e3)
 obtain⟨es1,c1,m1⟩:=h1.isMap;obtain⟨es2,c2,m2⟩:=h3.isMap;refine⟨⟨qE h.box.lt hg.size,hbx _ _ h.box.c0,hbx _ _ h.box.c1,hbx _ _ h.box.c2,hbx _ _ h.box.c3,hbx _ _ h.box.c4,hbx _ _ h.box.c5,hbx _ _ h.box.c6⟩,?_,h.lo1,h.lo2,h.ne,h.ah.grown h.aty hg hty,h.aty.grown hg (by decide) hty,fun b hb2=>h.up b (qI hg.size hb2),h.aP,⟨f,h1.kept (hms bs _ _ m1 h1.lt),fun kl v hv=>?_⟩,⟨q,h3.kept (hms bl _ _ m2 h3.lt),h4⟩⟩
 .refine h.bel.trans ⟨hg.os,hg.tape,hg.output,hg.size,fun i hi=>hg.block i (qE hi h.bel.size) (fun e=>by have:=(hown i e.symm).2.1;omega)⟩
 .obtain ⟨code,e1,e2,e3⟩:=h2 kl v hv;exact⟨code,e1,e2,e3.grown hg hty⟩
end
structure Chg(Z:Nat->Prop)(w w':S):Prop where
 os:w'.os=w.os
 tape:w'.tape=w.tape
 output:w'.output=w.output
 size:w.heap.size<=w'.heap.size
 block:∀i,i<w.heap.size->¬Z i->w'.heap[i]? = w.heap[i]?
theorem Chg.refl(Z:Nat->Prop)(w:S):Chg Z w w:=⟨rfl,rfl,rfl,qB _,fun _ _ _=>rfl⟩
theorem Chg.trans{Z:Nat->Prop}{a b c:S}(h:Chg Z a b)(k:Chg Z b c):Chg Z a c:=
 ⟨k.os.trans h.os,k.tape.trans h.tape,k.output.trans h.output,qI h.size k.size,fun i hi hz=>(k.block i (qE hi h.size) hz).trans (h.block i hi hz)⟩
theorem Chg.trans2{Z Z':Nat->Prop}{a b c:S}(h:Chg Z a b)(k:Chg Z' b c)(hz:∀i,i<a.heap.size->Z' i->Z i):Chg Z a c:=
 ⟨k.os.trans h.os,k.tape.trans h.tape,k.output.trans h.output,qI h.size k.size,fun i hi hn=>(k.block i (qE hi h.size) (fun h2=>hn (hz i hi h2))).trans (h.block i hi hn)⟩
theorem Chg.weaken{Z Z':Nat->Prop}{a b:S}(h:Chg Z a b)(hz:∀i,i<a.heap.size->Z i->Z' i):Chg Z' a b:=
 ⟨h.os,h.tape,h.output,h.size,fun i hi hn=>h.block i hi (fun h2=>hn (hz i hi h2))⟩
theorem Chg.of{Z:Nat->Prop}{w w':S}(h:U w.heap.size w w'):Chg Z w w':=⟨h.os,h.tape,h.output,h.size,fun i hi _=>h.block i hi⟩
theorem Chg.grown{w w':S}{own:Option Nat}(h:w.grownBy w' own):Chg (fun i=>own=W i) w w':=
 ⟨h.os,h.tape,h.output,h.size,fun i hi hz=>h.block i hi (fun e=>hz e.symm)⟩
theorem Chg.setCell(w:S)(p:Addr)(v:K):Chg (fun i=>i=p.block) w (w.setCell p v):=
 ⟨rfl,rfl,rfl,by simp,fun i _ hz=>RowKit.Below.heap_setCell _ _ _ _ hz⟩
theorem Chg.below{Z:Nat->Prop}{base:Nat}{w w':S}(h:Chg Z w w')(hz:∀i,Z i->base<=i)(hb:base<=w.heap.size):U base w w':=
 ⟨h.os,h.tape,h.output,h.size,fun i hi=>h.block i (by omega) (fun h2=>by have:=hz i h2;omega)⟩
theorem Chg.cell{Z:Nat->Prop}{w w':S}(h:Chg Z w w'){p:Addr}{v:K}(hp:w.cell? p=W v)(hz:¬Z p.block):w'.cell? p=W v:=by
 rw[World.cell?_of_block (h.block p.block (World.block_lt_of_cell? w p hp) hz)];exact hp
theorem Sk.chg{bs bl:Nat}{w w':S}(h:Sk bs bl w w'):Chg (fun i=>i=bs\/i=bl) w w':=
 ⟨h.os,h.tape,h.output,h.size,fun i hi hz=>h.block i hi (fun e=>hz (.inl e)) (fun e=>hz (.inr e))⟩
def TyB(w:S)(i:Nat)(t:TypeId):Prop:=∃cs fr,w.heap[i]? = W (E cs t fr)
theorem TyB.lt{w:S}{i:Nat}{t:TypeId}(h:TyB w i t):i<w.heap.size:=by
 obtain⟨cs,fr,h⟩:=h;exact(qG.1 h).1
theorem TyB.eq{w:S}{i:Nat}{t t':TypeId}(h:TyB w i t)(h':TyB w i t'):t=t':=by
 obtain⟨cs,fr,h⟩:=h;obtain⟨cs',fr',h'⟩:=h';rw[h]at h';injection h' with h';injection h' with _ h' _
theorem TyB.no_map{w:S}{i:Nat}{t:TypeId}(h:TyB w i t){es:Array MapEntry}{c:Nat}:w.heap[i]?≠W (.map es c):=by
 obtain⟨cs,fr,h⟩:=h;rw[h];simp
theorem Ae.ty{w:S}{t:TypeId}{a:Addr}{n c:Nat}(h:Ae w (.slice (W a) n c) t):TyB w a.block t:=h a n c rfl
theorem IntsV.chg{Z:Nat->Prop}{w w':S}{ao:Option Addr}{n c:Nat}{x:List Int}(h:IntsV w (V ao n c) x)(hs:Chg Z w w')(hz:∀a,ao=W a->¬Z a.block):IntsV w' (V ao n c) x:=by
 obtain⟨ao',cap,e,h⟩:=h;injection e with e1 e2 e3;subst e1 e2 e3;refine⟨ao,c,rfl,fun hne=>?_⟩;obtain⟨b,off,rfl,hlt,hat⟩:=h hne;exact⟨b,off,rfl,qE hlt hs.size,fun i hi=>hs.cell (hat i hi) (hz ⟨b,off,Y⟩ rfl)⟩
theorem BoolsV.chg{Z:Nat->Prop}{w w':S}{ao:Option Addr}{n c:Nat}{x:List Bool}(h:BoolsV w (V ao n c) x)(hs:Chg Z w w')(hz:∀a,ao=W a->¬Z a.block):BoolsV w' (V ao n c) x:=by
 obtain⟨ao',cap,e,h⟩:=h;injection e with e1 e2 e3;subst e1 e2 e3;refine⟨ao,c,rfl,fun hne=>?_⟩;obtain⟨b,off,rfl,hlt,hat⟩:=h hne;exact⟨b,off,rfl,qE hlt hs.size,fun i hi=>hs.cell (hat i hi) (hz ⟨b,off,Y⟩ rfl)⟩
theorem Ae.chg{Z:Nat->Prop}{w w':S}{ao:Option Addr}{n c:Nat}{t:TypeId}(h:Ae w (V ao n c) t)(hs:Chg Z w w')(hz:∀a,ao=W a->¬Z a.block):Ae w' (V ao n c) t:=by
 intro a k c' e;injection e with e1 e2 e3;subst e1 e2 e3;obtain⟨cs,fr,h1⟩:=h a n c rfl;exact⟨cs,fr,(hs.block _ (qG.1 h1).1 (hz a rfl)).trans h1⟩
theorem BT{Z:Nat->Prop}{w w':S}{base:Nat}{e:TypeId}{s n:Nat}{v:K}{xs:List K}(h:w.ownsRow base e s v n xs)(hs:Chg Z w w')(hz:∀g,v.ownBlock=W g->¬Z g):w'.ownsRow base e s v n xs:=by
 refine⟨h.1,?_⟩;rcases h.2 with h0|⟨g,cap,cur,h1,h2,h3,h4⟩
 .exact .inl h0
 .refine .inr ⟨g,cap,cur,h1,h2,?_,h4⟩;rw[hs.block g (qG.1 h3).1 (hz g (by rw[h1];simp[Value.ownBlock]))];exact h3
theorem Au{w:S}{base:Nat}{e:TypeId}{s n:Nat}{v:K}{xs:List K}(h:w.ownsRow base e s v n xs){g:Nat}(hg:v.ownBlock=W g):base<=g/\TyB w g e:=by
 rcases h.2 with⟨h0,_⟩|⟨g',cap',cur,h1,h2,h3,_⟩
 .rw[h0]at hg;simp[Value.ownBlock]at hg
 .rw[h1]at hg;simp[Value.ownBlock]at hg;subst hg;exact⟨h2,cur,_,h3⟩
theorem MapIs.chg{Z:Nat->Prop}{w w':S}{kt:TypeId}{b n:Nat}{f:Lit->Option K}(h:MapIs w kt b n f)(hs:Chg Z w w')(hz:¬Z b):MapIs w' kt b n f:=h.kept (hs.block b h.lt hz)
section
variable{Pz:Nat -> Prop}{w0 w w':S}{B bs bl n:Nat}{va vr pv fv:K}{m:Mo}{ps:List (List (Int×Int))}{l:List (Int×Int)}{ho:Option Addr}{hc:Nat}
theorem Al.chg{Z:Nat->Prop}{code:Int}{v:K}(h:Al Pz w m ps l code v)(hs:Chg Z w w')(hz:∀i,Z i->¬TyB w i 4/\(TyB w i 3->¬Pz i)):Al Pz w' m ps l code v:=by
 obtain⟨lo,lc,no,nc,so,sc,h1,h2,h3,h4,h5,h6,h7,h8,h9⟩:=h;have z1:∀a,lo=W a->¬Z a.block:=fun a e z=>by subst e;exact(hz _ z).1 h5.ty
 have z2:∀a,no=W a->¬Z a.block:=fun a e z=>by subst e;exact(hz _ z).2 h6.ty (h8 a rfl)
 have z3:∀a,so=W a->¬Z a.block:=fun a e z=>by subst e;exact(hz _ z).2 h7.ty (h9 a rfl)
 exact⟨lo,lc,no,nc,so,sc,h1,h2.chg hs z1,h3.chg hs z2,h4.chg hs z3,h5.chg hs z1,h6.chg hs z2,h7.chg hs z3,h8,h9⟩
theorem SvOk.chg{Z:Nat->Prop}(h:SvOk Pz w0 w B bs bl n va vr pv fv m ps l ho hc)(hs:Chg Z w w')(hz:∀i,Z i->w0.heap.size<=i/\i≠B/\i≠bs/\i≠bl/\¬TyB w i 4/\(TyB w i 3->¬Pz i)):SvOk Pz w0 w' B bs bl n va vr pv fv m ps l ho hc:=by
 have zB:¬Z B:=fun z=>(hz _ z).2.1 rfl;have zs:¬Z bs:=fun z=>(hz _ z).2.2.1 rfl;have zl:¬Z bl:=fun z=>(hz _ z).2.2.2.1 rfl;have za:∀a,ho=W a->¬Z a.block:=fun a e z=>(hz _ z).2.2.2.2.2 (by have:=h.aty;rw[e]at this;exact this.ty) (h.aP a e);obtain⟨f,h1,h2⟩:=h.st;obtain⟨q,h3,h4⟩:=h.li;refine⟨⟨qE h.box.lt hs.size,hs.cell h.box.c0 zB,hs.cell h.box.c1 zB,hs.cell h.box.c2 zB,hs.cell h.box.c3 zB,hs.cell h.box.c4 zB,hs.cell h.box.c5 zB,hs.cell h.box.c6 zB⟩,h.bel.trans (hs.below (fun i z=>(hz i z).1) h.bel.size),h.lo1,h.lo2,h.ne,h.ah.chg hs za,h.aty.chg hs za,fun b hb=>h.up b (qI hs.size hb),h.aP,⟨f,h1.chg hs zs,fun kl v hv=>?_⟩,⟨q,h3.chg hs zl,h4⟩⟩;obtain⟨code,e1,e2,e3⟩:=h2 kl v hv;exact⟨code,e1,e2,e3.chg hs fun i z=>(hz i z).2.2.2.2⟩
theorem Al.re{Pz':Nat->Prop}{code:Int}{v:K}(h:Al Pz w m ps l code v)(hp:∀b,b<w.heap.size->Pz b->Pz' b):Al Pz' w m ps l code v:=by
 obtain⟨lo,lc,no,nc,so,sc,h1,h2,h3,h4,h5,h6,h7,h8,h9⟩:=h;exact⟨lo,lc,no,nc,so,sc,h1,h2,h3,h4,h5,h6,h7,fun a e=>by subst e;exact hp _ h6.ty.lt (h8 a rfl),fun a e=>by subst e;exact hp _ h7.ty.lt (h9 a rfl)⟩
theorem SvOk.re{Pz':Nat->Prop}(h:SvOk Pz w0 w B bs bl n va vr pv fv m ps l ho hc)(hp:∀b,b<w.heap.size->Pz b->Pz' b)(hup:∀b,w.heap.size<=b->Pz' b):SvOk Pz' w0 w B bs bl n va vr pv fv m ps l ho hc:=by
 obtain⟨f,h1,h2⟩:=h.st;refine⟨h.box,h.bel,h.lo1,h.lo2,h.ne,h.ah,h.aty,hup,fun a e=>hp _ (by have:=h.aty;rw[e]at this;exact this.ty.lt) (h.aP a e),⟨f,h1,fun kl v hv=>?_⟩,h.li⟩;obtain⟨code,e1,e2,e3⟩:=h2 kl v hv;exact⟨code,e1,e2,e3.re hp⟩
end
theorem Ud(B:Nat)(va vr pv fv lv:K)(l:List (Int×Int))(lt:List Bool)(c:Nat)(ho:Option Addr)(hcp bs bl:Nat)(w:S)(hB:0<w.heap.size)(hT:AH w)(hF:OpsV w fv l)(hL:BoolsV w lv lt)
  (hz:AR (l.map Prod.fst)=0) (h6:(AA l).length<=6) (htc:BF l lt (c:Int)=0) (hS:SurvAt w B va vr pv fv (.slice ho (AA l).length hcp) bs bl) (hA:IntsV w (.slice ho (AA l).length hcp) (AA l)) :
  J qA 90 #[I (W ⟨B,0,Y⟩),lv,.int T (c:Int)] w fun e w'=>e=O (H #[ZZ T (Df l lt c),.int T 0])/\U w.heap.size w w':=by
 obtain⟨hne,h60⟩:=Dn hz;rw[qO]at h60;have hl0:0<l.length:=by
  rcases jE l.length with h0|h0
  .rw[jB.1 h0]at hne;simp at hne
  .exact h0
 have htr:J qA 33 #[fv,lv,.int T (c:Int)] w fun e w'=>∃b off cp,e=O (H #[V (W ⟨b,off,Y⟩) l.length cp,.int T 0])/\U w.heap.size w w'/\b<w'.heap.size/\Q (∀j,j<l.length->w'.cell? ⟨b,off+j,Y⟩=W (.bool (tru l lt (c:Int) j))):=by
  refine(Lj fv lv l lt (c:Int) w hB hT hF hL).mono fun e w' ⟨v,h1,h2,h3⟩=>?_;have t2:DI l lt (c:Int)=(List.range l.length).map (tru l lt (c:Int)):=by unfold DI;rw[if_pos htc]
  rw[t2]at h3;obtain⟨lo,lc,rfl,hx⟩:=h3;obtain⟨b,off,rfl,hb,hat⟩:=hx (by intro h0;have:=congrArg List.length h0;rw[qO,q8,vC]at this;omega);refine⟨b,off,lc,by rw[h1,htc];simp,h2,hb,fun j hj=>?_⟩;have c0:=hat j (by simpa using hj);rw[c0];simp[qC,hj]
 obtain⟨fo,fc,rfl,_,hfv⟩:=id hF;obtain⟨fb,foff,rfl,hfb,hfat⟩:=hfv (by intro h0;rw[h0]at hl0;simp at hl0);obtain⟨lo,lc,rfl,_⟩:=id hL;have HP:Q (∀k,k<(AA l).length->∃p:Nat,(∃ab aoff,ho=W ⟨ab,aoff,Y⟩/\ab<w.heap.size/\w.cell? ⟨ab,aoff+k,Y⟩=W (.int T (p:Int)))/\p<l.length/\C8 l p<l.length/\w.cell? ⟨fb,foff+p*2,Y⟩=W (.int T (l.getD p (0,0)).1)/\((AA l).getD k 0).toNat=p):=fun k hk=>by
  obtain⟨p,h1,h2,h3,_⟩:=F9 l l.length k hk;obtain⟨ao2,c2,e1,hah⟩:=hA;injection e1 with e2 e3 e4;subst e2;obtain⟨ab,aoff,rfl,hab,haat⟩:=hah (by intro h0;rw[h0]at hk;simp at hk);have h1':(AA l).getD k 0=(p:Int):=h1;refine⟨p,⟨ab,aoff,rfl,hab,by rw[haat k hk,h1']⟩,h2,?_,(hfat p h2).1,by rw[h1'];rfl⟩;unfold C8;split
  .refine (Gt hz h2).1 ?_;have hk':14<=(l.getD p (0,0)).1/\(l.getD p (0,0)).1<=18:=by simpa[Af]using h3
   unfold pn;split
   .omega
   .split<;>omega
  .exact h2
 have HSt:Q (∀k,CF l (tru l lt (c:Int)) (k+1)=CF l (tru l lt (c:Int)) k+if tru l lt (c:Int) (C8 l ((AA l).getD k 0).toNat)=true then 2^k else 0):=fun _=>rfl;have HSb:Q (∀k,0<=CF l (tru l lt (c:Int)) k/\CF l (tru l lt (c:Int)) k<2^k):=G4 _ _;have HS0:Q (CF l (tru l lt (c:Int)) 0=0):=rfl;unfold Df EZ;generalize CF l (tru l lt (c:Int))=sg at *;generalize hth:tru l lt (c:Int)=th at *;obtain⟨_,s0,s1,s2,s3,s4,s5,s6⟩:=id hS
 have HS:Q (∀w1,U w.heap.size w w1->w1.cell? ⟨B,3,Y⟩=W (V (W ⟨fb,foff,Y⟩) l.length fc)/\w1.cell? ⟨B,4,Y⟩=W (.slice ho (AA l).length hcp)):=fun w1 h=>⟨(hS.later h).c3,(hS.later h).c4⟩;have HFb:Q (fb<w.heap.size):=hfb;generalize(AA l).length=an at *;generalize lt.length=ltn at *;generalize hnn:l.length=n at *;clear hT hF hL hz htc hA hfv hfat hnn hth hS hne hfb
 go_enter Tryz.func90,Tryz.ntmps90;go_wp2_with (first|(go_at_call 33;refine htr.mono ?_;rintro e w1 ⟨b,off,cp,rfl,hb1,hblt,HTb⟩;obtain⟨q3,q4⟩:=HS.out w1 hb1))
 clear htr;go_loopw [10,33] (fun x i wr=>∃k:Nat,k<=an/\i=.int T (k:Int)/\x=.int T (sg k)/\wr=w1) (fun _ i _=>an-(intOf i).toNat)
 case atStart=>exact⟨0,qJ _,rfl,by rw[HS0.out],rfl⟩
 case round=>
  obtain⟨k,hk,rfl,rfl,rfl⟩:=hrel;by_cases hlt:k<an
  .obtain ⟨p,⟨ab,aoff,rfl,hab,hca⟩,hpn,hpa,hpc,hpi⟩:=HP.out k hlt;have HSk:=(show Q _ from HSt.out k);rw[hpi]at HSk;have d0:=(hb1.cell (p:=⟨ab,aoff+k,Y⟩) hab).trans hca;have d1:=(hb1.cell (p:=⟨fb,foff+p*2,Y⟩) HFb.out).trans hpc;have d2:=HTb.out (C8 l p) hpa;obtain⟨hm0,hm1⟩:=HSb.out k;have hk6:k<6:=by omega
   have hps:=MV (k:=k) (by omega);have h2k:(0:Int)<2^k:=Int.pow_pos (by decide);have HOr:Q (bits BinOp.or IntKind.i64 (sg k) (2^k)=sg k+2^k):=MF hk6 hm0 hm1;have hpi2:(p:Int)<(n:Int):=by omega
   unfold C8 at d2 hpa HSk;clear HP HSt HSb hca hpc hpi;by_cases h14:(l.getD p (0,0)).1=14
   .rw[if_pos h14]at d2 hpa HSk;rw[h14]at d1;have hpa2:(p:Int)+1<(n:Int):=by omega
    clear h14;generalize th (p+1)=tv at *
    cases tv with
    |true=>
     have HS2:Q (sg (k+1)=sg k+2^k):=by show _=_;rw[HSk.out];simp
     clear HSk;go_wp2_with fail
     exact⟨⟨k+1,hlt,by first|rfl|simp,by rw[HS2.out,<-HOr.out],by trivial⟩,by simp[intOf];omega⟩
    |false=>
     have HS2:Q (sg (k+1)=sg k):=by show _=_;rw[HSk.out];simp
     clear HSk;go_wp2_with fail
     exact⟨⟨k+1,hlt,by first|rfl|simp,by rw[HS2.out],by trivial⟩,by simp[intOf];omega⟩
   .rw[if_neg h14]at d2 hpa HSk;generalize(l.getD p (0,0)).1=kx at *;generalize th p=tv at *
    cases tv with
    |true=>
     have HS2:Q (sg (k+1)=sg k+2^k):=by show _=_;rw[HSk.out];simp
     clear HSk;go_wp2_with fail
     exact⟨⟨k+1,hlt,by first|rfl|simp,by rw[HS2.out,<-HOr.out],by trivial⟩,by simp[intOf];omega⟩
    |false=>
     have HS2:Q (sg (k+1)=sg k):=by show _=_;rw[HSk.out];simp
     clear HSk;go_wp2_with fail
     exact⟨⟨k+1,hlt,by first|rfl|simp,by rw[HS2.out],by trivial⟩,by simp[intOf];omega⟩
  .obtain rfl:k=an:=by omega
   go_wp2_with fail
   go_ret2;exact⟨rfl,hb1⟩
