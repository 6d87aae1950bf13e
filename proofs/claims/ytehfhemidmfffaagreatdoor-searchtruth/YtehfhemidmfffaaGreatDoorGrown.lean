import Derived.Test.YtehfhemidmfffaaGreatDoorRow
import Derived.Deep.RegionWith
open Go renaming World→V,Value→W,Calls→O
open Go.Ending renaming returned→S
open Go.IntKind renaming i64→Y
open Go.Obj renaming cells→U
open Go.RowKit renaming Below→Q
open Go.Value renaming pointer→P,int→Z
open _root_.Option renaming none→X,some→T
namespace Go.Proofs.YtehfhemidmfffaaGreatDoor
open _root_.Array renaming getElem?_eq_some_iff→qG,getElem?_modify→qS
open Go.RowKit.Below renaming refl→qD
open _root_.Int renaming emod_lt_of_pos→zO,emod_nonneg→yH
open _root_.List renaming getD_eq_getElem?_getD→qC,getElem?_eq_none→vF
open _root_.Nat renaming le_of_lt→qU,le_refl→qB,mul_comm→jK,pow_succ→jL,two_pow_pos→zH
open Go.Proofs.Tryz renaming prog→qA
open Go.ChangeShapes Go.WideShapes Go.ChangeAt Go.RowKit Go.Deep
open Terms
open Go.Proofs.Tryz renaming func21→aZ,func49→a8,func50→bd,ntmps21→be,ntmps49→bj,ntmps50→bk,results50→bq
open IntKind renaming i64→aY
open World renaming cell?→br,setCell→bu
open Go.Addr renaming mk→N
set_option maxHeartbeats 6400000
set_option maxRecDepth 20000
def I64(n:Int):Prop:=-9223372036854775808<=n/\n<=9223372036854775807
theorem TF{x m:Int}(hx:x<=0)(hm:0<m):0 <= -(x.tmod m)/\-(x.tmod m)<m:=by
 rw[<-Int.neg_tmod,Int.tmod_eq_emod_of_nonneg (by omega)];exact⟨yH _ (by omega),zO _ hm⟩
def pk(n m:Int):Int:=if n<0 then -((n+1).tmod m)else n % m
theorem BJ{n m:Int}(hm:0<m):0<=pk n m/\pk n m<m:=by
 unfold pk;split
 .exact TF (by omega) hm
 .exact ⟨yH _ (by omega),zO _ hm⟩
theorem B9(n many:Int)(w:V)(hn:I64 n)(hm:0<many)(hm2:many<=10000) :
  O qA 21 #[Z Y n,Z Y many] w fun e w'=>e=S (Z Y (pk n many))/\w'=w:=by
 obtain⟨h1,h2⟩:=hn;by_cases h0:n<0
 .have hne:¬many=0:=by omega
  rw[show pk n many=-((n+1).tmod many) by unfold pk;rw[aj h0]];go_enter aZ,be;go_wp2;go_ret;exact⟨rfl,rfl⟩
 .have hne:¬many=0:=by omega
  rw[show pk n many=n % many by unfold pk;rw[ak h0]];go_enter aZ,be;go_wp2;go_ret;exact⟨rfl,rfl⟩
theorem FJ(n many:Int)(w:V)(hn:I64 n)(hm:0<many)(hm2:many<=100) :
  O qA 21 #[Z Y n,Z Y many] w fun e w'=>∃r,0<=r/\r<many/\e=S (Z Y r)/\w'=w:=
 (B9 n many w hn hm (by omega)).mono fun _ _ ⟨h1,h2⟩=>⟨_,(BJ hm).1,(BJ hm).2,h1,h2⟩
structure Raws(w:V)(G:Nat)(v:W)(rs:am):Prop where
 shape:∃ao cap,v=.slice ao rs.length cap/\(rs≠[]->∃b off,ao=T (N b off X)/\b<G/\BR w b off rs)
 len:rs.length<=140737488355328
 range:∀i,i<rs.length->I64 (rs.getD i (0,0)).1/\I64 (rs.getD i (0,0)).2
theorem Raws.below{w w':V}{G:Nat}{v:W}{rs:am}(h:Raws w G v rs)(hb:Q G w w'):Raws w' G v rs:=by
 obtain⟨⟨ao,cap,hv,h1⟩,h2,h3⟩:=h;refine⟨⟨ao,cap,hv,fun hne=>?_⟩,h2,h3⟩;obtain⟨b,off,ha,hlt,hat⟩:=h1 hne;exact⟨b,off,ha,hlt,hat.below hb hlt⟩
def GrownAt(w:V)(G:Nat)(rawv:W)(at':Nat)(vars props tempo:Int)(l:am):Prop:=
 ∃outv,w.heap[G]? = T (U #[rawv,Z Y at',Z Y vars,Z Y props,Z Y tempo,outv] 104 (0,0))/\w.ownsRow (G+1) 100 2 outv l.length (flat l)
theorem D5{w:V}{G:Nat}{rawv outv:W}{at':Nat}{vars props tempo:Int}(hh:w.heap[G]? = T (U #[rawv,Z Y at',Z Y vars,Z Y props,Z Y tempo,outv] 104 (0,0))) :
  w.cell? (N G 0 X)=T rawv/\w.cell? (N G 1 X)=T (Z Y at')/\w.cell? (N G 2 X)=T (Z Y vars)/\w.cell? (N G 5 X)=T outv/\(∀i,w.frozen? (N G i X)=false)/\G<w.heap.size:=by
 refine⟨?_,?_,?_,?_,fun i=>?_,(qG.1 hh).1⟩
 .simp[br,hh]
 .simp[br,hh]
 .simp[br,hh]
 .simp[br,hh]
 .simp[World.frozen?,hh]
theorem GrownAt.later{w w':V}{G:Nat}{rawv:W}{at':Nat}{vars props tempo:Int}{l:am}(h:GrownAt w G rawv at' vars props tempo l)(hb:Q w.heap.size w w'):GrownAt w' G rawv at' vars props tempo l:=by
 obtain⟨outv,hh,ho⟩:=h;have hlt:=(qG.1 hh).1;refine⟨outv,(hb.block G hlt).trans hh,ho.1,?_⟩;rcases ho.2 with h2|⟨g,cap,cur,hv,hg,hhh,r⟩
 .exact .inl h2
 .exact .inr ⟨g,cap,cur,hv,hg,(hb.block g ((qG.1 hhh).1)).trans hhh,r⟩
theorem UB{w wa w':V}{G:Nat}{rawv:W}{at':Nat}{vars props tempo:Int}{n:Nat}{xs:List W}{outv:W}(hh:w.heap[G]? = T (U #[rawv,Z Y at',Z Y vars,Z Y props,Z Y tempo,outv] 104 (0,0)))
  (ho:w.ownsRow (G+1) 100 2 outv n xs) (ha:∃o,wa=w.alloc o) (hg:wa.grownBy w' outv.ownBlock) :
  w'.heap[G]? = T (U #[rawv,Z Y at',Z Y vars,Z Y props,Z Y tempo,outv] 104 (0,0))/\Q G w w':=by
 obtain⟨o,rfl⟩:=ha;have hlt:=(qG.1 hh).1;have hrow:∀k,outv.ownBlock=T k->G+1<=k:=fun k hk=>(ho.lt k hk).1;constructor
 .rw[hg.block G (by simp;omega) (fun e=>by have:=hrow G e.symm;omega)];rw[Below.heap_alloc _ _ _ hlt];exact hh
 .exact ((qD G w).alloc (by omega) _).grown hg (by simp;omega) (fun k hk=>by have:=hrow k hk;omega)
theorem UC{w':V}{G:Nat}{rawv:W}{at':Nat}{vars props tempo:Int}{l:am}{outv v':W}{x:Int×Int}(hh':w'.heap[G]? = T (U #[rawv,Z Y at',Z Y vars,Z Y props,Z Y tempo,outv] 104 (0,0)))
  (ho':w'.ownsRow (G+1) 100 2 v' (l.length+1) (flat l++[Z Y x.1,Z Y x.2])):GrownAt (w'.setCell (N G 5 X) v') G rawv at' vars props tempo (l++[x]):=by
 refine⟨v',by simp[bu,qS,hh'],?_⟩;refine ownsRow_setCell_below ?_ (by simp) _;have e:flat (l++[x])=flat l++[Z Y x.1,Z Y x.2]:=by simp[flat]
 rw[e];simpa using ho'
theorem CS(G:Nat)(rawv:W)(at':Nat)(vars props tempo kind value:Int)(l:am)(w:V)(hl:l.length<=100)(h:GrownAt w G rawv at' vars props tempo l) :
  O qA 51 #[P (T (N G 0 X)),Z Y kind,Z Y value] w fun e w'=>e=S (.tuple #[])/\GrownAt w' G rawv at' vars props tempo (l++[(kind,value)])/\Q G w w':=by
 obtain⟨i0,hi,hz0,hz1,hz2⟩:=info_parts Ll;obtain⟨outv,hh,ho⟩:=h;obtain⟨ao,cap,rfl⟩:∃ao cap,outv=.slice ao l.length cap:=by
  rcases ho.2 with⟨rfl,h0⟩|⟨g,cap,cur,rfl,_⟩
  .exact ⟨X,0,by rw[h0]⟩
  .exact ⟨_,_,rfl⟩
 obtain⟨_,_,_,c5,hf,hlt⟩:=D5 hh;have hf5:=hf 5;have HH:Hid (w.heap[G]? = T (U #[rawv,Z Y at',Z Y vars,Z Y props,Z Y tempo,.slice ao l.length cap] 104 (0,0))):=hh;clear hh hf;go_enter Tryz.func51,Tryz.ntmps51;go_wp2_with (at_builtin;refine wpList_append_own _ rfl (.tmp 10) (.tmp 14) 33 rfl (G+1) 100 i0 (.agg #[Z Y 0,Z Y 0]) 2 16 Tryz.underlying33 hi hz0 hz1 hz2 rfl (by decide) _ _ _ rfl (ho.alloc _) ⟨_,0,X⟩ 1 1 [Z Y kind,Z Y value] rfl rfl (DS _ _ _ _) ?c2 ?c3 ?c4 ?c5 ?_)
 case c2=>intro u hu;simp at hu;rcases hu with rfl|rfl<;>rfl
 case c3=>unfold maxLen;omega
 case c4=>omega
 case c5=>simp;omega
 intro v' w4 hown' hgrow _;obtain⟨hh4,hb4⟩:=UB HH.out ho ⟨_,rfl⟩ hgrow;obtain⟨_,_,_,d5,df,_⟩:=D5 hh4;have df5:=df 5;obtain⟨ao',cap',rfl⟩:∃ao cap,v'=.slice ao (l.length+1) cap:=by
  rcases hown'.2 with⟨rfl,h0⟩|⟨g,cap,cur,rfl,_⟩
  .omega
  .exact ⟨_,_,rfl⟩
 have hend:=UC (x:=(kind,value)) hh4 hown';clear hown' hgrow ho hh4 df;go_wp2;go_end0
 exact⟨rfl,hend,hb4.setCell (qB _) _⟩
theorem Np{w w5:V}{G:Nat}{rawv:W}{at':Nat}{vars props tempo:Int}{l:am}(h:GrownAt w G rawv at' vars props tempo l)(hb:Q w.heap.size w w5)(x y:W) :
  GrownAt (((w5.setCell (N G 1 X) (Z Y ((at':Int)+1))).setCell (N w.heap.size 0 X) x).setCell (N w.heap.size 1 X) y) G rawv (at'+1) vars props tempo l/\Q G w (((w5.setCell (N G 1 X) (Z Y ((at':Int)+1))).setCell (N w.heap.size 0 X) x).setCell (N w.heap.size 1 X) y):=by
 have h5:=h.later hb;obtain⟨outv,hh,ho⟩:=h;obtain⟨outv',hh5,ho5⟩:=h5;have hlt:=(qG.1 hh).1;have e:outv'=outv:=by
  rw[hb.block G hlt,hh]at hh5;simp at hh5;exact hh5.symm
 subst e;refine⟨⟨outv',?_,?_⟩,?_⟩
 .rw[Below.heap_setCell _ _ _ _ (by simp;omega),Below.heap_setCell _ _ _ _ (by simp;omega)];simp[bu,qS,hh5]
 .refine ⟨ho.1,?_⟩;rcases ho.2 with h2|⟨g,cap,cur,hv,hg,hhh,r⟩
  .exact .inl h2
  .have hgl:=(qG.1 hhh).1;refine .inr ⟨g,cap,cur,hv,hg,?_,r⟩;rw[Below.heap_setCell _ _ _ _ (by simp;omega),Below.heap_setCell _ _ _ _ (by simp;omega),Below.heap_setCell _ _ _ _ (by simp;omega),hb.block g hgl];exact hhh
 .exact (((hb.mono (B':=G) (by omega)).setCell (p:=(N G 1 X)) (qB _) _).setCell (p:=(N w.heap.size 0 X)) (by simp;omega) _).setCell (p:=(N w.heap.size 1 X)) (by simp;omega) _
theorem Nq(G:Nat)(rawv:W)(rs:am)(at':Nat)(vars props tempo:Int)(l:am)(w:V)(hat:at'<=100)(hR:Raws w G rawv rs)(h:GrownAt w G rawv at' vars props tempo l) :
  O qA 50 #[P (T (N G 0 X))] w fun e w'=>∃k v,Hid (rs.getD at' (0,0)=(k,v))/\I64 k/\I64 v/\e=S (.agg #[Z Y k,Z Y v])/\GrownAt w' G rawv (at'+1) vars props tempo l/\Q G w w':=by
 have H:Hid (GrownAt w G rawv at' vars props tempo l):=h;obtain⟨outv,hh,ho⟩:=h;obtain⟨⟨rao,rcap,rfl,hcells⟩,hlen,hrange⟩:=hR;obtain⟨c0,c1,_,_,hf,hlt⟩:=D5 hh;have hf1:=hf 1;obtain⟨n,hn⟩:∃n,rs.length=n:=⟨_,rfl⟩;rw[hn]at c0 hlen;clear hh ho hf;by_cases hin:at'<n
 .obtain ⟨b,off,rfl,hbG,hat2⟩:=hcells (by intro h;subst h;simp at hn;omega);obtain⟨d0,d1⟩:=hat2 at' (by omega);obtain⟨k1,k2⟩:=hrange at' (by omega);obtain⟨x,y,hxy⟩:∃x y,rs.getD at' (0,0)=(x,y):=⟨_,_,rfl⟩;rw[hxy]at d0 d1 k1 k2;have HXY:Hid (rs.getD at' (0,0)=(x,y)):=hxy;simp only at d0 d1 k1 k2;clear hxy;clear hcells hrange hat2;have hbs:b<w.heap.size:=by omega
  go_enter bd,bk;go_wp2_with fail
  go_quiet (fail)
  go_wp2_with fail
  go_region
  go_wp2_with fail
  have hb5:=(((((qD w.heap.size w).alloc (qB _) (U #[Z Y 0,Z Y 0] 132)).alloc (by simp) (U #[Z Y 0,Z Y 0] 132))));obtain⟨e1,e2⟩:=Np H.out (((below_drewN hb5 (nq+1)).setCell (p:=⟨w.heap.size+1,0,X⟩) (by simp) (Z Y x)).setCell (p:=⟨w.heap.size+1,1,X⟩) (by simp) (Z Y y)) (Z Y x) (Z Y y);exact bodyPost_ret (v:=.agg #[Z Y x,Z Y y]) (by simp[results,bq,go_sem]) rfl ⟨x,y,HXY,k1,k2,rfl,e1,e2⟩
 .clear hcells hrange;have HXY:Hid (rs.getD at' (0,0)=(0,0)):=by
   show rs.getD at' (0,0)=(0,0);rw[qC,vF (by omega)];rfl
  go_enter bd,bk;go_wp2_with fail
  go_quiet (fail)
  go_wp2_with fail
  have hb5:=(((((qD w.heap.size w).alloc (qB _) (U #[Z Y 0,Z Y 0] 132)).alloc (by simp) (U #[Z Y 0,Z Y 0] 132))));obtain⟨e1,e2⟩:=Np H.out (below_drewN hb5 nq) (Z Y 0) (Z Y 0);exact bodyPost_ret (v:=.agg #[Z Y 0,Z Y 0]) (by simp[results,bq,go_sem]) rfl ⟨0,0,HXY,by unfold I64;omega,by unfold I64;omega,rfl,e1,e2⟩
theorem Nn(G:Nat)(rawv:W)(rs:am)(at':Nat)(vars props tempo:Int)(l:am)(w:V)(hat:at'<=100)(hR:Raws w G rawv rs)(h:GrownAt w G rawv at' vars props tempo l) :
  O qA 50 #[P (T (N G 0 X))] w fun e w'=>∃k v,I64 k/\I64 v/\e=S (.agg #[Z Y k,Z Y v])/\GrownAt w' G rawv (at'+1) vars props tempo l/\Q G w w':=
 (Nq G rawv rs at' vars props tempo l w hat hR h).mono fun _ _ ⟨k,v,_,h1⟩=>⟨k,v,h1⟩
theorem Hx(G:Nat)(rawv:W)(rs:am)(at':Nat)(vars props tempo:Int)(l:am)(w:V)(hat:at'<=100)(hR:Raws w G rawv rs)(h:GrownAt w G rawv at' vars props tempo l){k v:Int}(hkv:rs.getD at' (0,0)=(k,v)) :
  O qA 50 #[P (T (N G 0 X))] w fun e w'=>e=S (.agg #[Z Y k,Z Y v])/\GrownAt w' G rawv (at'+1) vars props tempo l/\Q G w w':=
 (Nq G rawv rs at' vars props tempo l w hat hR h).mono fun _ _ ⟨k',v',h0,_,_,h1⟩=>by
  have e:=h0.out;rw[hkv]at e;injection e with e1 e2;subst e1 e2;exact h1
theorem Raws.I64{w:V}{G:Nat}{rawv:W}{rs:am}(hR:Raws w G rawv rs){at':Nat}{k v:Int}(hkv:rs.getD at' (0,0)=(k,v)):I64 k/\I64 v:=by
 by_cases h:at'<rs.length
 .have:=hR.range at' h;rw[hkv]at this;exact this
 .rw[qC,vF (by omega)]at hkv;injection hkv with e1 e2;subst e1 e2;unfold Go.Proofs.YtehfhemidmfffaaGreatDoor.I64;omega
inductive NumT(vars:Int):Nat->am->Prop
 |var (d:Nat) (v:Int):0<=v->v<vars->NumT vars d [(2,v)]
 |num (d:Nat) (v:Int):-4<=v->v<=4->NumT vars d [(1,v)]
 |bin (d:Nat) (k:Int) (a b:am):3<=k->k<=5->NumT vars d a->NumT vars d b->NumT vars (d+1) ((k,0)::(a++b))
inductive TruT(vars:Int):Nat->am->Prop
 |lit (d:Nat) (k:Int):11<=k->k<=12->TruT vars d [(k,0)]
 |cmp (d:Nat) (k:Int) (a b:am):6<=k->k<=7->NumT vars 1 a->NumT vars 1 b->TruT vars d ((k,0)::(a++b))
 |not (d:Nat) (a:am):TruT vars d a->TruT vars (d+1) ((10,0)::a)
 |bin (d:Nat) (k:Int) (a b:am):8<=k->k<=9->TruT vars d a->TruT vars d b->TruT vars (d+1) ((k,0)::(a++b))
theorem NumT.len{vars:Int}{d:Nat}{t:am}(h:NumT vars d t):1<=t.length/\t.length+1<=2^(d+1):=by
  induction h with
  | var d v _ _ => have : 2 ^ (d + 1) = 2 * 2 ^ d := by rw [jL, jK]
                   have:0<2^d:=zH d;simp;omega
  | num d v _ _ => have : 2 ^ (d + 1) = 2 * 2 ^ d := by rw [jL, jK]
                   have:0<2^d:=zH d;simp;omega
  |bin d k a b _ _ _ _ iha ihb=>
    have:2^(d+1+1)=2*2^(d+1):=by rw[jL,jK]
    simp;omega
def gkN(rs:am)(d at':Nat):Int:=if d=0\/14<=at' then pk (rs.getD at' (0,0)).1 2 else pk (rs.getD at' (0,0)).1 5
def BM(rs:am)(vars:Int):Nat->Nat->am
 |0,at'=>if gkN rs 0 at'=1 then [(2,pk (rs.getD at' (0,0)).2 vars)]else [(1,pk (rs.getD at' (0,0)).2 9-4)]
 |d+1,at'=>if gkN rs (d+1) at'=1 then [(2,pk (rs.getD at' (0,0)).2 vars)]else if gkN rs (d+1) at'<2 then [(1,pk (rs.getD at' (0,0)).2 9-4)]else(3+gkN rs (d+1) at'-2,0)::(BM rs vars d (at'+1)++BM rs vars d (at'+1+(BM rs vars d (at'+1)).length))
theorem Q8{rs:am}{vars:Int}{d at':Nat}{k v:Int}(hleaf:d=0\/14<=at')(hkv:rs.getD at' (0,0)=(k,v)):BM rs vars d at'=if pk k 2=1 then [(2,pk v vars)]else [(1,pk v 9-4)]:=by
 have hk:gkN rs d at'=pk k 2:=by unfold gkN;rw[aj hleaf,hkv]
 have:=BJ (n:=k) (m:=2) (by decide);cases d with
 |zero=>rw[BM,hk,hkv]
 |succ d=>rw[BM,hk,hkv,aj (show pk k 2<2 by omega)]
theorem Q9{rs:am}{vars:Int}{d at':Nat}{k v:Int}(hat:¬14<=at')(hkv:rs.getD at' (0,0)=(k,v)):BM rs vars (d+1) at'=if pk k 5=1 then [(2,pk v vars)]else if pk k 5<2 then [(1,pk v 9-4)]else(3+pk k 5-2,0)::(BM rs vars d (at'+1)++BM rs vars d (at'+1+(BM rs vars d (at'+1)).length)):=by
 have hk:gkN rs (d+1) at'=pk k 5:=by unfold gkN;rw[ak (by omega),hkv]
 rw[BM,hk,hkv]
def KY(G:Nat)(rawv:W)(rs:am)(at':Nat)(vars props tempo:Int)(l:am)(d:Nat)(w:V)(e:Ending)(w':V):Prop:=
 ∃t,e=S (.tuple #[])/\NumT vars d t/\(14<=at'->t.length=1)/\GrownAt w' G rawv (at'+t.length) vars props tempo (l++t)/\Q G w w'/\Hid (t=BM rs vars d at')
theorem GrownAt.facts{w:V}{G:Nat}{rawv:W}{at':Nat}{vars props tempo:Int}{l:am}(h:GrownAt w G rawv at' vars props tempo l) :
  w.cell? (N G 1 X)=T (Z Y at')/\w.cell? (N G 2 X)=T (Z Y vars)/\G<w.heap.size:=by
 obtain⟨outv,hh,ho⟩:=h;obtain⟨_,a,b,_,_,c⟩:=D5 hh;exact⟨a,b,c⟩
theorem GrownAt.alloc{w:V}{G:Nat}{rawv:W}{at':Nat}{vars props tempo:Int}{l:am}(h:GrownAt w G rawv at' vars props tempo l)(o:Obj):GrownAt (w.alloc o) G rawv at' vars props tempo l:=h.later (ai)
theorem MZ(G:Nat)(rawv:W)(rs:am)(at':Nat)(vars props tempo:Int)(l:am)(d:Nat)(w:V)(hat:at'<=98)(hl:l.length<=98)(hv1:1<=vars)(hv2:vars<=100)(hd:d<=100)(hleaf:d=0\/14<=at')
  (hR:Raws w G rawv rs) (h:GrownAt w G rawv at' vars props tempo l) :
  O qA 49 #[P (T (N G 0 X)),Z Y d] w (KY G rawv rs at' vars props tempo l d w):=by
 obtain⟨k,v,hkv⟩:∃k v,rs.getD at' (0,0)=(k,v):=⟨_,_,rfl⟩;have htake:=Hx G rawv rs at' vars props tempo l w (by omega) hR h hkv;have hlt:G<w.heap.size:=h.facts.2.2;obtain⟨ik,iv⟩:=hR.I64 hkv;have HF:Hid (BM rs vars d at'=if pk k 2=1 then [(2,pk v vars)]else [(1,pk v 9-4)]):=Q8 hleaf hkv;have hp5:=fun w=>B9 k 5 w ik (by decide) (by decide);have hp2:=fun w=>B9 k 2 w ik (by decide) (by decide);have hp9:=fun w=>B9 v 9 w iv (by decide) (by decide);have hpv:=fun w=>B9 v vars w iv (by omega) (by omega);have r5:=BJ (n:=k) (m:=5) (by decide);have r2:=BJ (n:=k) (m:=2) (by decide);have r9:=BJ (n:=v) (m:=9) (by decide);have rv:=BJ (n:=v) (m:=vars) (by omega);generalize pk k 5=p5 at *;generalize pk k 2=p2 at *;generalize pk v 9=p9 at *;generalize pk v vars=pv at *;clear hR h hkv
 by_cases hd0:d=0
 .subst hd0;clear hleaf;go_enter a8,bj;go_wp2_with (first|(go_at_call 50;refine htake.mono ?_;rintro e w1 ⟨rfl,hg1,hb1⟩;obtain⟨d1,d2,dlt⟩:=hg1.facts;have hg2:=hg1.alloc (U #[Z Y k,Z Y v] 132))|(go_at_call_of 21 (Value.int aY 5);refine(hp5 _).mono ?_;rintro e w2 ⟨rfl,rfl⟩)|(go_at_call_of 21 (Value.int aY 2);refine(hp2 _).mono ?_;rintro e w2 ⟨rfl,rfl⟩)|(go_at_call_of 21 (Value.int aY 9);refine(hp9 _).mono ?_;rintro e w2 ⟨rfl,rfl⟩)|(go_at_call 51;refine(CS G rawv (at'+1) vars props tempo _ _ l _ (by omega) hg2).mono ?_;rintro e w3 ⟨rfl,hg3,hb3⟩))
  .have hgd:GrownAt (w1.alloc (U #[Z Y k,Z Y v] 132)).drew G rawv (at'+1) vars props tempo l:=hg2;clear hg1 hg2 htake;go_region_with (first|(go_at_call 21;refine(hpv _).mono ?_;rintro e w2 ⟨rfl,rfl⟩)|(go_at_call 51;refine(CS G rawv (at'+1) vars props tempo _ _ l _ (by omega) hgd).mono ?_;rintro e w3 ⟨rfl,hg3,hb3⟩))
   all_goals
    go_wp2_with fail
    go_end0
    exact⟨[(2,pv)],rfl,.var _ _ rv.1 rv.2,fun _=>rfl,hg3,(hb1.alloc (qU dlt) _).drew.trans hb3,by show _=_;rw[HF.out,aj (by omega)]⟩
  .go_end0
   exact⟨[(1,p9-4)],rfl,.num _ _ (by omega) (by omega),fun _=>rfl,hg3,(hb1.alloc (qU dlt) _).trans hb3,by show _=_;rw[HF.out,ak (by omega)]⟩
 .have hleaf':14<=at':=by omega
  clear hleaf;go_enter a8,bj;go_wp2_with (first|(go_at_call 50;refine htake.mono ?_;rintro e w1 ⟨rfl,hg1,hb1⟩;obtain⟨d1,d2,dlt⟩:=hg1.facts;have hg2:=hg1.alloc (U #[Z Y k,Z Y v] 132))|(go_at_call_of 21 (Value.int aY 5);refine(hp5 _).mono ?_;rintro e w2 ⟨rfl,rfl⟩)|(go_at_call_of 21 (Value.int aY 2);refine(hp2 _).mono ?_;rintro e w2 ⟨rfl,rfl⟩)|(go_at_call_of 21 (Value.int aY 9);refine(hp9 _).mono ?_;rintro e w2 ⟨rfl,rfl⟩)|(go_at_call 51;refine(CS G rawv (at'+1) vars props tempo _ _ l _ (by omega) hg2).mono ?_;rintro e w3 ⟨rfl,hg3,hb3⟩))
  .have hgd:GrownAt (w1.alloc (U #[Z Y k,Z Y v] 132)).drew G rawv (at'+1) vars props tempo l:=hg2;clear hg1 hg2 htake;go_region_with (first|(go_at_call 21;refine(hpv _).mono ?_;rintro e w2 ⟨rfl,rfl⟩)|(go_at_call 51;refine(CS G rawv (at'+1) vars props tempo _ _ l _ (by omega) hgd).mono ?_;rintro e w3 ⟨rfl,hg3,hb3⟩))
   all_goals
    go_wp2_with fail
    go_end0
    exact⟨[(2,pv)],rfl,.var _ _ rv.1 rv.2,fun _=>rfl,hg3,(hb1.alloc (qU dlt) _).drew.trans hb3,by show _=_;rw[HF.out,aj (by omega)]⟩
  .go_end0
   exact⟨[(1,p9-4)],rfl,.num _ _ (by omega) (by omega),fun _=>rfl,hg3,(hb1.alloc (qU dlt) _).trans hb3,by show _=_;rw[HF.out,ak (by omega)]⟩
