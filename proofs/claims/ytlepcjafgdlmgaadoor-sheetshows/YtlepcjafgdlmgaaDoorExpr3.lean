import Derived.Test.YtlepcjafgdlmgaaDoorExpr2
import Derived.Test.YtlepcjafgdlmgaaDoorCodes
namespace Go.Proofs.YtlepcjafgdlmgaaDoor
open Go.ChangeShapes Go.WideShapes Go.ChangeAt Go.RowKit Go.Deep
open Terms Tm
set_option maxHeartbeats 6400000
set_option maxRecDepth 20000
def EoPost (x:Int) (l:List (Int × Int)) (w:World) (e:Ending) (w':World):Prop:=
 Below w.heap.size w w'/\(x≠0->e=.returned (.tuple #[.slice none 0 0,.int .i64 x]))/\
 (x=0->∃ B,w.heap.size <= B/\e=.returned (.tuple #[.slice (some ⟨B,0,none⟩) l.length l.length,.int .i64 0])/\w'.rowIs B 3 l.length (fun q=>.int .i64 (endAt (l.map Prod.fst) q)))
theorem eo_range (ao:Option Addr) (n cap:Nat) (vars:Int) (w:World) (h:vars < 0\/6 < vars) :
  Calls Tryd.prog 61 #[.slice ao n cap,.int .i64 vars] w fun e w'=>e=.returned (.tuple #[.slice none 0 0,.int .i64 2])/\Below w.heap.size w w':=by
 rcases h with h | h
 all_goals
  go_enter Tryd.func61,Tryd.ntmps61
  go_wp2
  all_goals go_ret2
  all_goals exact ⟨rfl,Below.refl _ _⟩
theorem eo_ends (v:Value) (ks:List Int) (vars:Int) (w:World) (h0:0 <= vars) (h6:vars <= 6) (hB:0 < w.heap.size) (hT:TabAt w) (hK:Kinds w v ks) (hz:endsCode ks≠0) :
  Calls Tryd.prog 61 #[v,.int .i64 vars] w fun e w'=>e=.returned (.tuple #[.slice none 0 0,.int .i64 (endsCode ks)])/\Below w.heap.size w w':=by
 have hends:Calls Tryd.prog 49 #[v] w fun e w'=>e=.returned (.tuple #[.slice none 0 0,.int .i64 (endsCode ks)])/\Below w.heap.size w w':=(ends_any v ks w hB hT hK).mono fun e w' ⟨h1,h2,_⟩=>⟨h2 hz,h1⟩
 generalize endsCode ks=x at *;obtain ⟨ao,cap,rfl,_⟩:=hK;clear hT
 go_enter Tryd.func61,Tryd.ntmps61
 go_wp2_with (go_at_call 49;refine hends.mono ?_;rintro e w1 ⟨rfl,hb1⟩)
 go_ret2
 exact ⟨rfl,hb1⟩
theorem eo_tree (b off n cap:Nat) (vars:Int) (t:Tm) (w:World) (hn:n=t.size) (h60:n <= 60) (h0:0 <= vars) (h6:vars <= 6) (hwf:t.Wf) (hbB:b < w.heap.size) (hB:0 < w.heap.size) (hT:TabAt w) (hA:OpsAt w b off t.ops) :
    Calls Tryd.prog 61 #[.slice (some ⟨b,off,none⟩) n cap,.int .i64 vars] w (EoPost (xcode vars t.ops t) t.ops w):=by
  have hz:endsCode (t.ops.map Prod.fst)=0:=tree_code hwf (by omega)
  have hK:Kinds w (.slice (some ⟨b,off,none⟩) n cap) (t.ops.map Prod.fst):=(show OpsV w _ t.ops from ⟨_,max n cap,by rw [ops_length],⟨by rw [ops_length];omega,fun h=>by simp at h⟩,fun _=>⟨b,off,rfl,hbB,hA⟩⟩).kinds |> fun h=>by
    obtain ⟨ao,c,he,h⟩:=h;refine ⟨some ⟨b,off,none⟩,cap,by rw [List.length_map,ops_length,hn],fun hne=>?_⟩
    obtain ⟨b',off',hb',r⟩:=h hne
    injection he with h1 h2 h3
    exact ⟨b',off',h1.trans hb',r⟩
  have hlk:(t.ops.map Prod.fst).length=n:=by rw [List.length_map,ops_length,hn]
  have hends:Calls Tryd.prog 49 #[.slice (some ⟨b,off,none⟩) n cap] w fun e w'=>Below w.heap.size w w'/\∃ B,w.heap.size <= B/\e=.returned (.tuple #[.slice (some ⟨B,0,none⟩) n n,.int .i64 0])/\w'.rowIs B 3 n (fun q=>.int .i64 (endAt (t.ops.map Prod.fst) q)):=
    (ends_any _ _ w hB hT hK).mono fun e w' ⟨h1,_,h3⟩=>⟨h1,by have:=h3 hz;rwa [hlk] at this⟩
  have hnr:¬ (vars < 0\/6 < vars):=by omega
  have HO:Hid (∀ i,i < n->(∀ j,j < i->opErr vars (t.ops.getD j (0,0))=0)->opErr vars (t.ops.getD i (0,0))≠0->xcode vars t.ops t=opErr vars (t.ops.getD i (0,0))):=fun i hi hj hne=>by
    have hx:=firstErr_at (by rw [ops_length,<- hn];exact hi) hj hne
    rw [xcode_op hnr hz (by rw [hx];exact hne),hx]
  have HT2:Hid ((∀ j,j < n->opErr vars (t.ops.getD j (0,0))=0)->t.Good vars/\xcode vars t.ops t=if t.typed=true then 0 else 5):=fun hj=>by
    have hf:firstErr vars t.ops=0:=firstErr_none (by rw [ops_length,<- hn];exact hj)
    exact ⟨good_of hwf (firstErr_all hf),xcode_type hnr hz hf⟩
  have HTI:=(show Hid _ from t.typed_iff)
  have HA:Hid (OpsAt w b off t.ops):=hA;have HN:Hid (n=t.size):=hn;clear hz hK hlk hT hA hwf hn hnr
  go_enter Tryd.func61,Tryd.ntmps61
  go_wp2_with (go_at_call 49;refine hends.mono ?_;rintro e w1 ⟨hb1,B,hBw,rfl,hrow⟩)
  have HR1:Hid (w1.rowIs B 3 n (fun q=>.int .i64 (endAt (t.ops.map Prod.fst) q))):=hrow
  clear hrow hends
  go_loopw [28] (fun c wr=>∃ i:Nat,i <= n/\c=.int .i64 i/\Below w1.heap.size w1 wr/\Hid (∀ j,j < i->opErr vars (t.ops.getD j (0,0))=0)) (fun c _=>n - (intOf c).toNat)
  case atStart=>exact ⟨0,Nat.zero_le _,rfl,Below.refl _ _,fun j hj=>by omega⟩
  case round=>
    obtain ⟨i,hi,rfl,hbel,HJ⟩:=hrel;have hsz1:=hb1.size;have hsz2:=hbel.size
    by_cases hlt:i < n
    · have hbw:=hb1.trans (hbel.mono hb1.size)
      obtain ⟨c0,c1⟩:=(HA.out.below hbw hbB) i (by rw [ops_length,<- HN.out];exact hlt)
      have HOi:=(show Hid _ from HO.out i hlt HJ.out)
      have HJ2:Hid (opErr vars (t.ops.getD i (0,0))=0->∀ j,j < i+1->opErr vars (t.ops.getD j (0,0))=0):=fun h j hj=>by
        by_cases hji:j < i
        · exact HJ.out j hji
        · obtain rfl:j=i:=by omega
          exact h
      generalize t.ops.getD i (0,0)=xy at c0 c1 HOi HJ2;obtain ⟨x,y⟩:=xy;simp only at c0 c1
      have hco:=fun w=>checkOp_any x y vars w h0 h6
      by_cases hz:opErr vars (x,y)=0
      · rw [hz] at hco
        have HJ3:Hid (∀ j,j < i+1->opErr vars (t.ops.getD j (0,0))=0):=HJ2.out hz
        clear hz hbw
        go_wp2_with (go_at_call 74;refine (hco _).mono ?_;rintro e w2 ⟨rfl,hb2⟩)
        go_roundw
        case rel=>exact ⟨i+1,by omega,by go_num,by first | exact ((hbel.alloc (by omega) _).setCell (by simp;omega) _).trans (hb2.mono (by simp;omega)) | exact (hbel.alloc (by omega) _).trans (hb2.mono (by simp;omega)),HJ3⟩
        case measure=>simp [intOf];omega
      · have hx:=HOi.out hz
        have HX:Hid (xcode vars t.ops t=opErr vars (x,y)):=hx;generalize opErr vars (x,y)=err at hco hz HX;clear hx HOi HJ2
        go_wp2_with (go_at_call 74;refine (hco _).mono ?_;rintro e w2 ⟨rfl,hb2⟩)
        go_ret2
        rw [HX.out];refine ⟨?_,fun _=>rfl,fun h=>absurd h hz⟩
        have hbf:Below w1.heap.size w1 w2:=by first | exact ((hbel.alloc (by omega) _).setCell (by simp;omega) _).trans (hb2.mono (by simp;omega)) | exact (hbel.alloc (by omega) _).trans (hb2.mono (by simp;omega))
        exact hb1.trans (hbf.mono hb1.size)
    · have hin:i=n:=by omega
      subst hin;obtain ⟨hg,hx⟩:=HT2.out HJ.out;have HG:Hid (t.Good vars):=hg;have HX:=(show Hid _ from hx)
      have HR2:Hid (wr.rowIs B 3 i (fun q=>.int .i64 (endAt (t.ops.map Prod.fst) q))):=row_later HR1.out hbel
      have hbw:=hb1.trans (hbel.mono hb1.size);have HA2:Hid (OpsAt wr b off t.ops):=HA.out.below hbw hbB;clear hlt hi hg hx HT2 HO HJ;generalize wr=wo at *
      go_wp2_with fail
      go_loopw [41] (fun c wr=>∃ p:Nat,p <= i/\c=.int .i64 p/\Hid (∃ q,wr=wo.drewN q)/\Hid (∀ j,j < p->(t.sub j).headFit=true)) (fun c _=>i - (intOf c).toNat)
      case atStart=>exact ⟨0,Nat.zero_le _,rfl,⟨0,rfl⟩,fun j hj=>by omega⟩
      case round=>
        obtain ⟨p,hp,rfl,HW,HF⟩:=hrel;have hbd:Below wo.heap.size wo wr:=by obtain ⟨q,hq⟩:=HW.out;rw [hq];exact below_drewN (Below.refl _ _) q
        by_cases hlt:p < i
        · have hpf:=partsFit_any b off i cap B vars t wr HN.out h60 HG.out (HA2.out.below hbd (by omega)) (row_later HR2.out hbd) p hlt
          by_cases hff:(t.sub p).headFit=true
          · have HF2:Hid (∀ j,j < p+1->(t.sub j).headFit=true):=fun j hj=>by
              by_cases hji:j < p
              · exact HF.out j hji
              · obtain rfl:j=p:=by omega
                exact hff
            rw [hff] at hpf;clear hff hbd
            go_wp2_with (go_at_call 75;refine hpf.mono ?_;rintro e w2 ⟨rfl,q2,hw2⟩)
            go_roundw
            case rel=>exact ⟨p+1,by omega,by go_num,by obtain ⟨q,hq⟩:=HW.out;exact ⟨_,by first | rw [hq,World.drewN_drewN] | rw [hw2,hq,World.drewN_drewN]⟩,HF2⟩
            case measure=>simp [intOf];omega
          · have hff':(t.sub p).headFit=false:=by simpa using hff
            have ht:t.typed≠true:=fun h=>hff (HTI.out.1 h p (by rw [<- HN.out];exact hlt))
            have HX2:Hid (xcode vars t.ops t=5):=by
              show _=_
              rw [HX.out,if_neg ht]
            rw [hff'] at hpf;have HBD:Hid (Below w.heap.size w wr):=hbw.trans (hbd.mono hbw.size);clear hff hff' ht hbd
            go_wp2_with (go_at_call 75;refine hpf.mono ?_;rintro e w2 ⟨rfl,q2,hw2⟩)
            go_ret2
            rw [HX2.out];exact ⟨by first | exact below_drewN HBD.out _ | (rw [hw2];exact below_drewN HBD.out _),fun _=>rfl,fun h=>absurd h (by decide)⟩
        · have hpi:p=i:=by omega
          have ht:t.typed=true:=HTI.out.2 (fun j hj=>HF.out j (by rw [hpi,HN.out];exact hj))
          have HX2:Hid (xcode vars t.ops t=0):=by
            show _=_
            rw [HX.out,if_pos ht]
          have HBD:Hid (Below w.heap.size w wr):=hbw.trans (hbd.mono hbw.size);have HR3:Hid (wr.rowIs B 3 i (fun q=>.int .i64 (endAt (t.ops.map Prod.fst) q))):=row_later HR2.out hbd
          subst hpi;clear ht hbd hp
          go_wp2_with fail
          go_ret2
          rw [HX2.out];refine ⟨HBD.out,fun h=>absurd rfl h,fun _=>⟨B,hBw,?_,?_⟩⟩
          · rw [ops_length,<- HN.out];rfl
          · rw [ops_length,<- HN.out];exact HR3.out
theorem eo_any (v:Value) (l:List (Int × Int)) (vars:Int) (t:Tm) (w:World) (hB:0 < w.heap.size) (hT:TabAt w) (hV:OpsV w v l) (ht:endsCode (l.map Prod.fst)=0->t.Wf/\t.ops=l) :
  Calls Tryd.prog 61 #[v,.int .i64 vars] w (EoPost (xcode vars l t) l w):=by
 by_cases hr:vars < 0\/6 < vars
 ·rw [xcode_range hr]
  obtain ⟨ao,cap,rfl,_⟩:=hV;exact (eo_range ao _ cap vars w hr).mono fun e w' ⟨h1,h2⟩=>⟨h2,fun _=>h1,fun h=>absurd h (by decide)⟩
 ·by_cases hz:endsCode (l.map Prod.fst)=0
  ·obtain ⟨hwf,hops⟩:=ht hz
   obtain ⟨h60,_⟩:=code_zero hz;rw [List.length_map] at h60;subst hops;obtain ⟨ao,cap,rfl,_,h⟩:=hV;obtain ⟨b,off,rfl,hlt,hat⟩:=h t.ops_ne;exact eo_tree b off _ cap vars t w t.ops_length h60 (by omega) (by omega) hwf hlt hB hT hat
  ·rw [xcode_ends hr hz]
   exact (eo_ends v _ vars w (by omega) (by omega) hB hT hV.kinds hz).mono fun e w' ⟨h1,h2⟩=>⟨h2,fun _=>h1,fun h=>absurd h hz⟩
theorem check_any (v:Value) (l:List (Int × Int)) (vars:Int) (t:Tm) (w:World) (hB:0 < w.heap.size) (hT:TabAt w) (hV:OpsV w v l) (ht:endsCode (l.map Prod.fst)=0->t.Wf/\t.ops=l) :
    Calls Tryd.prog 48 #[v,.int .i64 vars] w fun e w'=>e=.returned (.tuple #[.bool (decide (xcode vars l t=0)&&mkT t.kind),.int .i64 (xcode vars l t)])/\Below w.heap.size w w':=by
  have heo:=eo_any v l vars t w hB hT hV ht
  by_cases hx:xcode vars l t=0
  · obtain ⟨h0,h6,hops,hg,htt,h60⟩:=xcode_zero hx ht
    have heo2:Calls Tryd.prog 61 #[v,.int .i64 vars] w fun e w'=>Below w.heap.size w w'/\∃ B n,e=.returned (.tuple #[.slice (some ⟨B,0,none⟩) n n,.int .i64 0]):=
      heo.mono fun e w' ⟨h1,_,h3⟩=>⟨h1,by obtain ⟨B,_,he,_⟩:=h3 hx;exact ⟨B,_,he⟩⟩
    subst hops;obtain ⟨ao,cap,rfl,_,h⟩:=hV;obtain ⟨b,off,rfl,hlt,hat⟩:=h t.ops_ne;have hc:=(hat 0 (by rw [ops_length];exact t.size_pos)).1
    rw [t.ops_head,Nat.zero_mul,Nat.add_zero] at hc;have hmk:=fun w=>makesTruth_any t.kind w hg.kind.1 hg.kind.2
    have hlen:0 < t.ops.length:=by rw [ops_length];exact t.size_pos
    rw [show (decide (xcode vars t.ops t=0)&&mkT t.kind)=mkT t.kind by simp [hx],hx]
    generalize mkT t.kind=bb at hmk ⊢;generalize t.kind=k at hmk hc;generalize t.ops.length=n at *;clear heo h hat hg htt ht hT;simp only at hc
    go_enter Tryd.func48,Tryd.ntmps48
    go_wp2_with (first | (go_at_call 61;refine heo2.mono ?_;rintro e w1 ⟨hb1,B,n,rfl⟩;have hc1:=(hb1.cell (p:=⟨b,off,none⟩) hlt).trans hc) | (go_at_call 62;refine (hmk _).mono ?_;rintro e w2 ⟨rfl,rfl⟩))
    go_ret2
    exact ⟨rfl,hb1⟩
  · have heo2:Calls Tryd.prog 61 #[v,.int .i64 vars] w fun e w'=>e=.returned (.tuple #[.slice none 0 0,.int .i64 (xcode vars l t)])/\Below w.heap.size w w':=
      heo.mono fun e w' ⟨h1,h2,_⟩=>⟨h2 hx,h1⟩
    rw [show (decide (xcode vars l t=0)&&mkT t.kind)=false by simp [hx]]
    clear heo ht hT hV;generalize xcode vars l t=x at *
    go_enter Tryd.func48,Tryd.ntmps48
    go_wp2_with (go_at_call 61;refine heo2.mono ?_;rintro e w1 ⟨rfl,hb1⟩)
    go_ret2
    exact ⟨rfl,hb1⟩
