import Derived.Test.YtehfhemidmfffaaGreatDoorExpr
open Go.RowKit renaming Hid→Z
namespace Go.Proofs.YtehfhemidmfffaaGreatDoor
open Go.ChangeShapes Go.WideShapes Go.ChangeAt Go.RowKit Go.Deep
open Terms Tm
set_option maxHeartbeats 6400000
set_option maxRecDepth 20000
theorem Tu (b off n cap B:Nat) (vars:Int) (t:Tm) (w:World) (hn:n=t.size) (h60:n <= 60) (hg:t.Good vars) (hA:BR w b off t.ops) (hrow:w.rowIs B 3 n (fun q=>.int .i64 (An (t.ops.map Prod.fst) q))) (place:Nat) (hp:place < n) :
    Calls Tryz.prog 141 #[.slice (some ⟨b,off,none⟩) n cap,.slice (some ⟨B,0,none⟩) n n,.int .i64 place] w fun e w'=>e=.returned (.bool (t.sub place).headFit)/\∃q,w'=w.drewN q:=by
  have hpt:place<t.size:=by omega
  obtain⟨s,hs⟩:∃s,s=t.sub place:=⟨_,rfl⟩;have HK:Z (∀i,i<s.kids.length->place+s.koff i<n/\(t.ops.getD (place+s.koff i) (0,0)).1=(s.kids.getD i s).kind/\An (t.ops.map Prod.fst) (place+s.koff i)=place+s.koff (i+1)/\s.koff i<s.koff (i+1)/\place+s.koff (i+1)<=n/\s.koff i<s.size):=fun i hi=>by
    subst hs;obtain⟨h1,h2,h3,h4,h5,h6⟩:=kid_in hg.wf hpt hi;refine⟨by omega,?_,h3,h4,by omega,h6⟩;rw[op_at t h1,h2]
  have hek:An (t.ops.map Prod.fst) place=place+s.size:=by rw[hs];exact(end_at hg.wf hpt).1
  have hkk:(t.ops.getD place (0,0)).1=s.kind:=by rw[hs,op_at t hpt]
  have hsg:s.Good vars:=by rw[hs];exact hg.sub _
  have HG:Z (s.Good vars):=hsg;have HL:Z (s.koff s.kids.length=s.size):=s.koff_last;have HF:=(show Z _ from s.headFit_iff);have hce:=hrow.cell (i:=place) hp;rw[hek]at hce;have hfit:=t.sub_fits hpt;rw[<-hs]at hfit⊢;have hck:=(hA place (by rw[ops_length];omega)).1;rw[hkk]at hck;have HR:Z (w.rowIs B 3 n (fun q=>.int .i64 (An (t.ops.map Prod.fst) q))):=hrow;have HA:Z (BR w b off t.ops):=hA;have HN:Z (n=t.size):=hn;have hsn:place+s.size<=n:=by omega
  obtain⟨m,hm⟩:∃m,m=s.size:=⟨_,rfl⟩;have HM:Z (m=s.size):=hm;rw[<-hm]at hce hsn;clear hs hg hA hrow hn hpt hek hkk hsg hfit hm;go_enter Tryz.func141,Tryz.ntmps141;go_wp2_with fail
  go_loopw [7] (fun pt wr=>∃i:Nat,i<=s.kids.length/\pt=.int .i64 ((place+s.koff i:Nat):Int)/\Z (∃q,wr=w.drewN q)/\Z (∀j,j<i->mkT (s.kids.getD j s).kind=tkT s.kind)) (fun pt _=>place+m-(intOf pt).toNat)
  case atStart=>exact⟨0,Nat.zero_le _,by rw[koff_zero];go_num,⟨0,rfl⟩,fun j hj=>by omega⟩
  case round=>
    obtain⟨i,hi,rfl,HW,HJ⟩:=hrel;have hcw:∀a:Addr,wr.cell? a=w.cell? a:=by obtain⟨q,hq⟩:=HW.out;intro a;rw[hq];simp
    have hce':=(hcw _).trans hce;have hck':=(hcw _).trans hck;by_cases hlt:i<s.kids.length
    . obtain⟨h1,h2,h3,h4,h5,h6⟩:=HK.out i hlt
      have hci:=(hcw _).trans (HR.out.cell (i:=place+s.koff i) h1);rw[h3]at hci;have hco:=(hcw _).trans (HA.out (place+s.koff i) (by rw[ops_length,<-HN.out];exact h1)).1;rw[h2]at hco;have hkr:=(HG.out.kid hlt).kind;have hkr0:=HG.out.kind;have h6':s.koff i<m:=by rw[HM.out];exact h6
      have h5':place+s.koff (i+1)<=place+m:=by
        by_cases hl2:i+1<s.kids.length
        . have:=(HK.out (i+1) hl2).2.2.2.2.2
          rw[HM.out];omega
        . have:i+1=s.kids.length:=by omega
          rw[this,HL.out,HM.out];omega
      have HK1:Z (mkT (s.kids.getD i s).kind=mkT (s.kids.getD i s).kind):=rfl;obtain⟨k1,hk1⟩:∃k1,k1=(s.kids.getD i s).kind:=⟨_,rfl⟩;have HK2:Z (k1=(s.kids.getD i s).kind):=hk1;rw[<-hk1]at hco hkr;obtain⟨k0,hk0⟩:∃k0,k0=s.kind:=⟨_,rfl⟩;have HK0:Z (k0=s.kind):=hk0;rw[<-hk0]at hck' hkr0;obtain⟨p',hp'⟩:∃p',p'=s.koff (i+1):=⟨_,rfl⟩;have HP':Z (p'=s.koff (i+1)):=hp';rw[<-hp']at hci h4 h5 h5';obtain⟨P0,hP0⟩:∃P0,P0=place+s.koff i:=⟨_,rfl⟩;have HP0:Z (P0=place+s.koff i):=hP0;obtain⟨P1,hP1⟩:∃P1,P1=place+p':=⟨_,rfl⟩;have HP1:Z (P1=place+s.koff (i+1)):=by rw[<-HP'.out];exact hP1
      have hlt01:P0<P1:=by omega
      have hP1n:P1<=place+m:=by omega
      have hP0m:P0<place+m:=by omega
      rw[<-hP0]at hci h1 hco;rw[<-hP1]at hci;rw[<-hP0];obtain⟨hkl,hkh⟩:=hkr;clear hcw hce hck hk1 hk0 hp' hP0 hP1 h2 h3 h4 h5 h5' h6 h6' HK1 HP' p';have hmk:=fun w=>MC k1 w hkl hkh;have htk:=fun w=>V5 k0 w;by_cases hfit:mkT k1=tkT k0
      . have HJ':Z (∀j,j<i+1->mkT (s.kids.getD j s).kind=tkT s.kind):=fun j hj=>by
          by_cases hji:j<i
          . exact HJ.out j hji
          . obtain rfl:j=i:=by omega
            rw[<-HK2.out,<-HK0.out];exact hfit
        rw[hfit]at hmk;clear hfit;generalize tkT k0=bb at hmk htk;go_wp2_with fail
        go_quiet ((first|(go_at_call 137;exact Calls.quiet_of_same (hmk _))|(go_at_call 172;exact Calls.quiet_of_same (htk _))))
        go_wp2_with fail
        go_roundw
        case rel=>exact⟨i+1,by omega,by rw[HP1.out],by obtain⟨q,hq⟩:=HW.out;exact⟨_,by rw[hq,World.drewN_drewN]⟩,HJ'⟩
        case measure=>simp[intOf];omega
      . have hf:s.headFit=false:=by
          cases hh:s.headFit with
          |false=>rfl
          |true=>exact absurd (by rw[HK2.out,HK0.out];exact HF.out.1 hh i hlt) hfit
        have HF2:Z (s.headFit=false):=hf;have hne:(mkT k1 == tkT k0)=false:=by simpa using hfit
        clear hf;generalize tkT k0=bb at hmk htk hfit hne;generalize mkT k1=ba at hmk hfit hne;go_wp2_with fail
        go_quiet ((first|(go_at_call 137;exact Calls.quiet_of_same (hmk _))|(go_at_call 172;exact Calls.quiet_of_same (htk _))))
        go_wp2_with fail
        go_ret;exact⟨NJ HF2.out.symm,by obtain⟨q,hq⟩:=HW.out;exact⟨_,by rw[hq,World.drewN_drewN]⟩⟩
    . have hin:i=s.kids.length:=by omega
      have hl:=HL.out;rw[<-hin,<-HM.out]at hl;have hf:s.headFit=true:=HF.out.2 (fun j hj=>HJ.out j (by omega));have HF2:Z (s.headFit=true):=hf;rw[hl];clear hlt hi hin hl hf hcw hce hck;go_wp2_with fail
      go_ret;exact⟨NJ HF2.out.symm,HW.out⟩
