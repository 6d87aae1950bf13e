import Derived.Test.YtehfhemidmfffaaGreatDoorExpr2
import Derived.Test.YtehfhemidmfffaaGreatDoorCodes
open Go renaming World→P,Calls→Q
open Go.Ending renaming returned→X
open Go.IntKind renaming i64→Y
open Go.RowKit renaming Below→U,Hid→V
open Go.Value renaming slice→W,tuple→T,int→Z
open _root_.Option renaming none→S
namespace Go.Proofs.YtehfhemidmfffaaGreatDoor
open Go.RowKit.Below renaming refl→qD
open _root_.List renaming length_map→qM
open _root_.Nat renaming zero_le→qJ
open Go.Proofs.Tryz renaming prog→qA
open Go.ChangeShapes Go.WideShapes Go.ChangeAt Go.RowKit Go.Deep
open Terms Tm
open Go.Proofs.Tryz renaming func109→cK,func115→cL,ntmps109→cM,ntmps115→cN
open _root_.Prod renaming fst→aW
set_option maxHeartbeats 6400000
set_option maxRecDepth 20000
def KV(x:Int)(l:am)(w:P)(e:Ending)(w':P):Prop:=
 U w.heap.size w w'/\(x≠0->e=X (T #[W S 0 0,Z Y x]))/\
 (x=0->∃B,w.heap.size<=B/\e=X (T #[W (some ⟨B,0,S⟩) l.length l.length,Z Y 0])/\w'.rowIs B 3 l.length (fun q=>Z Y (An (l.map aW) q)))
theorem QK(ao:Option Addr)(n cap:Nat)(vars:Int)(w:P)(h:vars<0\/6<vars) :
  Q qA 115 #[W ao n cap,Z Y vars] w fun e w'=>e=X (T #[W S 0 0,Z Y 2])/\U w.heap.size w w':=by
 rcases h with h|h;all_goals
  go_enter cL,cN;go_wp2;all_goals go_ret2
  all_goals exact⟨rfl,qD _ _⟩
theorem QJ(v:Value)(ks:List Int)(vars:Int)(w:P)(h0:0<=vars)(h6:vars<=6)(hB:0<w.heap.size)(hT:AF w)(hK:DW w v ks)(hz:AU ks≠0) :
  Q qA 115 #[v,Z Y vars] w fun e w'=>e=X (T #[W S 0 0,Z Y (AU ks)])/\U w.heap.size w w':=by
 have hends:Q qA 78 #[v] w fun e w'=>e=X (T #[W S 0 0,Z Y (AU ks)])/\U w.heap.size w w':=(GU v ks w hB hT hK).mono fun e w' ⟨h1,h2,_⟩=>⟨h2 hz,h1⟩;generalize AU ks=x at *;obtain⟨ao,cap,rfl,_⟩:=hK;clear hT
 go_enter cL,cN;go_wp2_with (go_at_call 78;refine hends.mono ?_;rintro e w1 ⟨rfl,hb1⟩)
 go_ret2;exact⟨rfl,hb1⟩
theorem QL (b off n cap:Nat) (vars:Int) (t:Tm) (w:P) (hn:n=t.size) (h60:n <= 60) (h0:0 <= vars) (h6:vars <= 6) (hwf:t.Wf) (hbB:b < w.heap.size) (hB:0 < w.heap.size) (hT:AF w) (hA:BR w b off t.ops) :
    Q qA 115 #[W (some ⟨b,off,S⟩) n cap,Z Y vars] w (KV (A5 vars t.ops t) t.ops w):=by
  have hz:AU (t.ops.map aW)=0:=KB hwf (by omega);have hK:DW w (W (some ⟨b,off,S⟩) n cap) (t.ops.map aW):=(show OpsV w _ t.ops from⟨_,max n cap,by rw[ops_length],⟨by rw[ops_length];omega,fun h=>by simp at h⟩,fun _=>⟨b,off,rfl,hbB,hA⟩⟩).kinds |> fun h=>by
    obtain⟨ao,c,he,h⟩:=h;refine⟨some ⟨b,off,S⟩,cap,by rw[qM,ops_length,hn],fun hne=>?_⟩;obtain⟨b',off',hb',r⟩:=h hne;injection he with h1 h2 h3;exact⟨b',off',h1.trans hb',r⟩
  have hlk:(t.ops.map aW).length=n:=by rw[qM,ops_length,hn]
  have hends:Q qA 78 #[W (some ⟨b,off,S⟩) n cap] w fun e w'=>U w.heap.size w w'/\∃B,w.heap.size<=B/\e=X (T #[W (some ⟨B,0,S⟩) n n,Z Y 0])/\w'.rowIs B 3 n (fun q=>Z Y (An (t.ops.map aW) q)):=
    (GU _ _ w hB hT hK).mono fun e w' ⟨h1,_,h3⟩=>⟨h1,by have:=h3 hz;rwa[hlk]at this⟩
  have hnr:¬(vars<0\/6<vars):=by omega
  have HO:V (∀i,i<n->(∀j,j<i->opErr vars (t.ops.getD j (0,0))=0)->opErr vars (t.ops.getD i (0,0))≠0->A5 vars t.ops t=opErr vars (t.ops.getD i (0,0))):=fun i hi hj hne=>by
    have hx:=firstErr_at (by rw[ops_length,<-hn];exact hi) hj hne;rw[OJ hnr hz (by rw[hx];exact hne),hx]
  have HT2:V ((∀j,j<n->opErr vars (t.ops.getD j (0,0))=0)->t.Good vars/\A5 vars t.ops t=if t.typed=true then 0 else 5):=fun hj=>by
    have hf:firstErr vars t.ops=0:=firstErr_none (by rw[ops_length,<-hn];exact hj);exact⟨good_of hwf (firstErr_all hf),KN hnr hz hf⟩
  have HTI:=(show V _ from t.typed_iff);have HA:V (BR w b off t.ops):=hA;have HN:V (n=t.size):=hn;clear hz hK hlk hT hA hwf hn hnr;go_enter cL,cN;go_wp2_with (go_at_call 78;refine hends.mono ?_;rintro e w1 ⟨hb1,B,hBw,rfl,hrow⟩)
  have HR1:V (w1.rowIs B 3 n (fun q=>Z Y (An (t.ops.map aW) q))):=hrow;clear hrow hends;go_loopw [28] (fun c wr=>∃i:Nat,i<=n/\c=Z Y i/\U w1.heap.size w1 wr/\V (∀j,j<i->opErr vars (t.ops.getD j (0,0))=0)) (fun c _=>n-(intOf c).toNat)
  case atStart=>exact⟨0,qJ _,rfl,qD _ _,fun j hj=>by omega⟩
  case round=>
    obtain⟨i,hi,rfl,hbel,HJ⟩:=hrel;have hsz1:=hb1.size;have hsz2:=hbel.size;by_cases hlt:i<n
    . have hbw:=ae hb1 hbel
      obtain⟨c0,c1⟩:=(HA.out.below hbw hbB) i (by rw[ops_length,<-HN.out];exact hlt);have HOi:=(show V _ from HO.out i hlt HJ.out);have HJ2:V (opErr vars (t.ops.getD i (0,0))=0->∀j,j<i+1->opErr vars (t.ops.getD j (0,0))=0):=fun h j hj=>by
        by_cases hji:j<i
        . exact HJ.out j hji
        . obtain rfl:j=i:=by omega
          exact h
      generalize t.ops.getD i (0,0)=xy at c0 c1 HOi HJ2;obtain⟨x,y⟩:=xy;simp only at c0 c1;have hco:=fun w=>Pg x y vars w h0 h6;by_cases hz:opErr vars (x,y)=0
      . rw[hz]at hco
        have HJ3:V (∀j,j<i+1->opErr vars (t.ops.getD j (0,0))=0):=HJ2.out hz;clear hz hbw;go_wp2_with (go_at_call 140;refine(hco _).mono ?_;rintro e w2 ⟨rfl,hb2⟩)
        go_roundw
        case rel=>exact⟨i+1,by omega,by go_num,by first|exact((hbel.alloc (by omega) _).setCell (by simp;omega) _).trans (hb2.mono (by simp;omega))|exact(hbel.alloc (by omega) _).trans (hb2.mono (by simp;omega)),HJ3⟩
        case measure=>simp[intOf];omega
      . have hx:=HOi.out hz
        have HX:V (A5 vars t.ops t=opErr vars (x,y)):=hx;generalize opErr vars (x,y)=err at hco hz HX;clear hx HOi HJ2;go_wp2_with (go_at_call 140;refine(hco _).mono ?_;rintro e w2 ⟨rfl,hb2⟩)
        go_ret2;rw[HX.out];refine⟨?_,fun _=>rfl,fun h=>absurd h hz⟩;have hbf:U w1.heap.size w1 w2:=by first|exact((hbel.alloc (by omega) _).setCell (by simp;omega) _).trans (hb2.mono (by simp;omega))|exact(hbel.alloc (by omega) _).trans (hb2.mono (by simp;omega))
        exact ae hb1 hbf
    . have hin:i=n:=by omega
      subst hin;obtain⟨hg,hx⟩:=HT2.out HJ.out;have HG:V (t.Good vars):=hg;have HX:=(show V _ from hx);have HR2:V (wr.rowIs B 3 i (fun q=>Z Y (An (t.ops.map aW) q))):=CA HR1.out hbel;have hbw:=ae hb1 hbel;have HA2:V (BR wr b off t.ops):=HA.out.below hbw hbB;clear hlt hi hg hx HT2 HO HJ;generalize wr=wo at *
      go_wp2_with fail
      go_loopw [41] (fun c wr=>∃p:Nat,p<=i/\c=Z Y p/\V (∃q,wr=wo.drewN q)/\V (∀j,j<p->(t.sub j).headFit=true)) (fun c _=>i-(intOf c).toNat)
      case atStart=>exact⟨0,qJ _,rfl,⟨0,rfl⟩,fun j hj=>by omega⟩
      case round=>
        obtain⟨p,hp,rfl,HW,HF⟩:=hrel;have hbd:U wo.heap.size wo wr:=by obtain⟨q,hq⟩:=HW.out;rw[hq];exact below_drewN (qD _ _) q
        by_cases hlt:p<i
        . have hpf:=Tu b off i cap B vars t wr HN.out h60 HG.out (HA2.out.below hbd (by omega)) (CA HR2.out hbd) p hlt
          by_cases hff:(t.sub p).headFit=true
          . have HF2:V (∀j,j<p+1->(t.sub j).headFit=true):=fun j hj=>by
              by_cases hji:j<p
              . exact HF.out j hji
              . obtain rfl:j=p:=by omega
                exact hff
            rw[hff]at hpf;clear hff hbd;go_wp2_with (go_at_call 141;refine hpf.mono ?_;rintro e w2 ⟨rfl,q2,hw2⟩)
            go_roundw
            case rel=>exact⟨p+1,by omega,by go_num,by obtain⟨q,hq⟩:=HW.out;exact⟨_,by first|rw[hq,World.drewN_drewN]|rw[hw2,hq,World.drewN_drewN]⟩,HF2⟩
            case measure=>simp[intOf];omega
          . have hff':(t.sub p).headFit=false:=by simpa using hff
            have ht:t.typed≠true:=fun h=>hff (HTI.out.1 h p (by rw[<-HN.out];exact hlt));have HX2:V (A5 vars t.ops t=5):=by
              show _=_;rw[HX.out,ak ht]
            rw[hff']at hpf;have HBD:V (U w.heap.size w wr):=ae hbw hbd;clear hff hff' ht hbd;go_wp2_with (go_at_call 141;refine hpf.mono ?_;rintro e w2 ⟨rfl,q2,hw2⟩)
            go_ret2;rw[HX2.out];exact⟨by first|exact below_drewN HBD.out _|(rw[hw2];exact below_drewN HBD.out _),fun _=>rfl,fun h=>absurd h (by decide)⟩
        . have hpi:p=i:=by omega
          have ht:t.typed=true:=HTI.out.2 (fun j hj=>HF.out j (by rw[hpi,HN.out];exact hj));have HX2:V (A5 vars t.ops t=0):=by
            show _=_;rw[HX.out,aj ht]
          have HBD:V (U w.heap.size w wr):=ae hbw hbd;have HR3:V (wr.rowIs B 3 i (fun q=>Z Y (An (t.ops.map aW) q))):=CA HR2.out hbd;subst hpi;clear ht hbd hp;go_wp2_with fail
          go_ret2;rw[HX2.out];refine⟨HBD.out,fun h=>absurd rfl h,fun _=>⟨B,hBw,?_,?_⟩⟩
          . rw[ops_length,<-HN.out];rfl
          . rw[ops_length,<-HN.out];exact HR3.out
theorem LE(v:Value)(l:am)(vars:Int)(t:Tm)(w:P)(hB:0<w.heap.size)(hT:AF w)(hV:OpsV w v l)(ht:AU (l.map aW)=0->t.Wf/\t.ops=l) :
  Q qA 115 #[v,Z Y vars] w (KV (A5 vars l t) l w):=by
 by_cases hr:vars<0\/6<vars
 .rw[OK hr];obtain⟨ao,cap,rfl,_⟩:=hV;exact(QK ao _ cap vars w hr).mono fun e w' ⟨h1,h2⟩=>⟨h2,fun _=>h1,fun h=>absurd h (by decide)⟩
 .by_cases hz:AU (l.map aW)=0
  .obtain ⟨hwf,hops⟩:=ht hz;obtain⟨h60,_⟩:=Fe hz;rw[qM]at h60;subst hops;obtain⟨ao,cap,rfl,_,h⟩:=hV;obtain⟨b,off,rfl,hlt,hat⟩:=h t.ops_ne;exact QL b off _ cap vars t w t.ops_length h60 (by omega) (by omega) hwf hlt hB hT hat
  .rw[OI hr hz];exact(QJ v _ vars w (by omega) (by omega) hB hT hV.kinds hz).mono fun e w' ⟨h1,h2⟩=>⟨h2,fun _=>h1,fun h=>absurd h hz⟩
theorem Po(v:Value)(l:am)(vars:Int)(t:Tm)(w:P)(hB:0<w.heap.size)(hT:AF w)(hV:OpsV w v l)(ht:AU (l.map aW)=0->t.Wf/\t.ops=l) :
    Q qA 109 #[v,Z Y vars] w fun e w'=>e=X (T #[.bool (decide (A5 vars l t=0)&&mkT t.kind),Z Y (A5 vars l t)])/\U w.heap.size w w':=by
  have heo:=LE v l vars t w hB hT hV ht;by_cases hx:A5 vars l t=0
  . obtain⟨h0,h6,hops,hg,htt,h60⟩:=OL hx ht
    have heo2:Q qA 115 #[v,Z Y vars] w fun e w'=>U w.heap.size w w'/\∃B n,e=X (T #[W (some ⟨B,0,S⟩) n n,Z Y 0]):=
      heo.mono fun e w' ⟨h1,_,h3⟩=>⟨h1,by obtain⟨B,_,he,_⟩:=h3 hx;exact⟨B,_,he⟩⟩
    subst hops;obtain⟨ao,cap,rfl,_,h⟩:=hV;obtain⟨b,off,rfl,hlt,hat⟩:=h t.ops_ne;have hc:=(hat 0 (by rw[ops_length];exact t.size_pos)).1;rw[t.ops_head,Nat.zero_mul,Nat.add_zero]at hc;have hmk:=fun w=>MC t.kind w hg.kind.1 hg.kind.2;have hlen:0<t.ops.length:=by rw[ops_length];exact t.size_pos
    rw[show(decide (A5 vars t.ops t=0)&&mkT t.kind)=mkT t.kind by simp[hx],hx];generalize mkT t.kind=bb at hmk⊢;generalize t.kind=k at hmk hc;generalize t.ops.length=n at *;clear heo h hat hg htt ht hT;simp only at hc
    go_enter cK,cM;go_wp2_with (first|(go_at_call 115;refine heo2.mono ?_;rintro e w1 ⟨hb1,B,n,rfl⟩;have hc1:=(hb1.cell (p:=⟨b,off,S⟩) hlt).trans hc)|(go_at_call 137;refine(hmk _).mono ?_;rintro e w2 ⟨rfl,rfl⟩))
    go_ret2;exact⟨rfl,hb1⟩
  . have heo2:Q qA 115 #[v,Z Y vars] w fun e w'=>e=X (T #[W S 0 0,Z Y (A5 vars l t)])/\U w.heap.size w w':=
      heo.mono fun e w' ⟨h1,h2,_⟩=>⟨h2 hx,h1⟩
    rw[show(decide (A5 vars l t=0)&&mkT t.kind)=false by simp[hx]];clear heo ht hT hV;generalize A5 vars l t=x at *
    go_enter cK,cM;go_wp2_with (go_at_call 115;refine heo2.mono ?_;rintro e w1 ⟨rfl,hb1⟩)
    go_ret2;exact⟨rfl,hb1⟩
