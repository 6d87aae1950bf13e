import Derived.Test.YtehfhemidmfffaaGreatDoorMVars
open Go renaming World→X
open Go.IntKind renaming i64→Z
open Go.RowKit renaming Hid→Y
namespace Go.Proofs.YtehfhemidmfffaaGreatDoor
open Go.RowKit.Below renaming refl→qD
open _root_.Int renaming mul_le_mul→jE
open _root_.Nat renaming le_refl→qB,lt_of_lt_of_le→qE
open Go.Proofs.Tryz renaming prog→qA
open Go.ChangeShapes Go.WideShapes Go.ChangeAt Go.RowKit Go.Deep Go.Maps
open Terms Tm
open Go.Proofs.Tryz renaming func81→ct,ntmps81→cu,underlying219→cy,underlying3→bI,underlying9→cz
set_option maxHeartbeats 6400000
set_option maxRecDepth 20000
theorem Ej:Keyed qA 9:=string_keyed cz
theorem De(w:X):(zeroValue 3).run qA w=.ok (.int Z 0) w:=by kernel_rfl
def Cq(w:X)(b:Nat)(l:List Vr)(k:Nat):Prop:=
 ∃D:DataW Unit,w.ownsMap qA 9 (plainElem qA 3) b k D/\∀s:ByteArray,Maps.has D (.string s.data.toList)=Cj l k s
theorem PU{a b:ByteArray}(h:a.data.toList=b.data.toList):a=b:=by
 cases a;cases b
 simp only[ByteArray.mk.injEq];exact Array.toList_inj.1 h
theorem Sh(l:List Vr)(k:Nat)(s:ByteArray):Cj l (k+1) s=(Cj l k s||decide ((l.getD k vr0).name=s)):=by
 simp[Cj,List.range_succ]
theorem TB(w:X)(l:List Vr):Cq (w.alloc (.map #[] 0)) w.heap.size l 0:=
 ⟨.map [],World.ownsMap_made _ _ _ _,fun _=>rfl⟩
theorem Cq.later{w w':X}{b:Nat}{l:List Vr}{k:Nat}(h:Cq w b l k)(hb:Below w.heap.size w w'):Cq w' b l k:=by
 obtain⟨D,h1,h2⟩:=h;exact⟨D,h1.kept (row:=none) ⟨hb.os,hb.tape,hb.output,hb.size,fun i hi _=>hb.block i hi⟩ (by simp),h2⟩
theorem S9{D:DataW Unit}{l:List Vr}{k:Nat}{s:ByteArray}(d:DataW Unit)(hD:IsMap D)(hs:(l.getD k vr0).name=s)(h:∀s:ByteArray,Maps.has D (.string s.data.toList)=Cj l k s) :
  ∀s':ByteArray,Maps.has (D.put (.string s.data.toList) d) (.string s'.data.toList)=Cj l (k+1) s':=by
 intro s';rw[Sh,hs];by_cases he:s=s'
 .subst he;rw[has_put_same hD (show WideAt.IsKeyLit (.string _)from trivial)];simp
 .rw[has_put_other (fun h=>he (PU (by injection h with h;exact h.symm))),h s'];simp[he]
theorem Pn(va:Value)(l:List Vr)(w:X)(h6:l.length<=6)(hV:VarsV w va l) :
  Calls qA 81 #[va] w fun e w'=>e=.returned (.int Z (A2 (vAt l) l.length))/\Below w.heap.size w w':=by
 obtain⟨ao,cap,rfl⟩:=hV.shape;have HV:Y (VarsV w (.slice ao l.length cap) l):=hV;obtain⟨n,hn⟩:∃n,n=l.length:=⟨_,rfl⟩;have HN:Y (n=l.length):=hn;rw[<-hn]at h6 HV⊢;clear hV hn;have hmm:=@run_makeMap qA;go_enter ct,cu;go_wp2;go_loopw [4,15] (fun st i wr=>∃k:Nat,k<=n/\i=.int Z k/\st=.int Z (AL l k)/\Y (∀j,j<k->vAt l j=0)/\Y (Cq wr w.heap.size l k)/\Below w.heap.size w wr/\w.heap.size<wr.heap.size) (fun _ i _=>n-(intOf i).toNat)
 case atStart=>exact⟨0,Nat.zero_le _,rfl,rfl,fun j hj=>by omega,TB _ _,ai,by simp⟩
 case round=>
  obtain⟨k,hk,rfl,rfl,HJ,HM,hbel,hsz⟩:=hrel;clear hmm;by_cases hlt:k<n
  .obtain ⟨b,off,rfl,hblt,hat⟩:=HV.out.at (i:=k) (by rw[<-HN.out];exact hlt);obtain⟨c0,c1,c2,c3⟩:=hat.below hbel hblt;clear hat;have hpb:=M3 HJ.out;have HHit:Y (∀c,vAt l k=c->c≠0->A2 (vAt l) n=c):=fun c h1 h2=>by rw[Gc hlt HJ.out (by rw[h1];exact h2),h1]
   have HStep:Y (vAt l k=0->∀j,j<k+1->vAt l j=0):=fun h0 j hj=>by
    by_cases hjk:j=k
    .subst hjk;exact h0
    .exact HJ.out j (by omega)
   have HPr:Y (AL l (k+1)=AL l k*AN (l.getD k vr0)):=rfl;have HNm:Y (∃s,(l.getD k vr0).name=s):=⟨_,rfl⟩;have HX:Y (∃x,l.getD k vr0=x):=⟨_,rfl⟩;obtain⟨x,hx⟩:=HX.out;have HX2:Y (l.getD k vr0=x):=hx;rw[hx]at c0 c1 c2 c3 HPr;obtain⟨st,hst⟩:∃st,AL l k=st:=⟨_,rfl⟩;have HAt:=(show Y _ from KE hx hst);rw[hst]at hpb HPr⊢;clear hst hx HX HNm HJ;obtain⟨s,lo,hi,ini⟩:=x;simp only[AN]at c0 c1 c2 c3 HPr;have hnm:=fun w=>Rd s w;obtain⟨D,hown,hhas⟩:=HM.out;have hbA:=hbel.alloc (Nat.le_of_lt hsz) (.cells #[.string s,.int Z lo,.int Z hi,.int Z ini] 90);cases hok:BO s with
   |false=>
    rw[hok]at hnm;have HR:Y (A2 (vAt l) n=6):=HHit.out 6 (HAt.out.1 hok) (by decide);clear HAt HStep HHit HPr hhas hown hok HM;go_wp2_with (go_at_call 112;refine(hnm _).mono ?_;rintro e w1 ⟨rfl,rfl⟩)
    go_ret;rw[HR.out];exact⟨rfl,hbA⟩
   |true=>
    rw[hok]at hnm;have hs8:s.size<=maxLen:=by
     simp only[BO,CZ,Bool.and_eq_true,decide_eq_true_eq]at hok;unfold maxLen;omega
    have hkey:=WideMaps.keyOf_string_mk (P:=qA) cz hs8;have hownA:=hown.alloc (.cells #[.string s,.int Z lo,.int Z hi,.int Z ini] 90);have hhs:=hhas s;cases hmet:Cj l k s with
    |true=>
     have HR:Y (A2 (vAt l) n=7):=HHit.out 7 (HAt.out.2.1 hok hmet) (by decide);rw[hmet]at hhs;clear HAt HStep HHit HPr hhas hown hok HM hmet;go_wp2_with (first|(go_at_call 112;refine(hnm _).mono ?_;rintro e w1 ⟨rfl,rfl⟩)|(at_lookup;refine wpList_lookup_own_ok_int _ rfl _ _ 219 rfl 9 3 .i64 Ej cy bI (De _) w.heap.size k _ rfl hownA _ _ rfl hkey ?_;intro c hat hwc;rw[hhs]))
     go_ret;rw[HR.out];exact⟨rfl,hbA⟩
    |false=>
     rw[hmet]at hhs;have HP:=(show Y _ from fun d=>S9 (s:=s) d hown.isMap (by rw[HX2.out]) hhas);have hbf:=fun w=>PP s lo hi ini w;have hne:some wr.heap.size≠some w.heap.size:=by intro h;have:=Option.some.inj h;omega
     have hcs:∀w',(wr.alloc (.cells #[.string s,.int Z lo,.int Z hi,.int Z ini] 90)).grownBy w' (some w.heap.size)->EX w' wr.heap.size 0 ⟨s,lo,hi,ini⟩:=fun w' hg=>
      ⟨hg.cell (a:=⟨wr.heap.size,0,none⟩) (by simp[go_sem]) hne,hg.cell (a:=⟨wr.heap.size,1,none⟩) (by simp[go_sem]) hne,hg.cell (a:=⟨wr.heap.size,2,none⟩) (by simp[go_sem]) hne,hg.cell (a:=⟨wr.heap.size,3,none⟩) (by simp[go_sem]) hne⟩
     have hszA:w.heap.size<=(wr.alloc (.cells #[.string s,.int Z lo,.int Z hi,.int Z ini] 90)).heap.size:=by simp;omega
     have hown0:∀q,some w.heap.size=some q->w.heap.size<=q:=fun q hq=>by obtain rfl:=Option.some.inj hq;exact qB _
     have hkm:k<maxLen:=by unfold maxLen;omega
     have hwk:(Lit.int .i64 (k:Int)).wf=true:=WalkArith.wf_i64 (by omega);have hVA:∀w2 w3,EX w2 wr.heap.size 0 ⟨s,lo,hi,ini⟩->Below w2.heap.size w2 w3->wr.heap.size<w2.heap.size->EX w3 wr.heap.size 0 ⟨s,lo,hi,ini⟩:=fun w2 w3 h hb hl=>h.below hb hl;cases hvb:CJ ⟨s,lo,hi,ini⟩with
     |false=>
      have HR:Y (A2 (vAt l) n=2):=HHit.out 2 (HAt.out.2.2.1 hok hmet hvb) (by decide);rw[hvb]at hbf;clear HAt HStep HHit HPr hhas hown hok HM hmet HP hvb hVA;go_wp2_with (first|(go_at_call 112;refine(hnm _).mono ?_;rintro e w1 ⟨rfl,rfl⟩)|(at_lookup;refine wpList_lookup_own_ok_int _ rfl _ _ 219 rfl 9 3 .i64 Ej cy bI (De _) w.heap.size k _ rfl hownA _ _ rfl hkey ?_;intro c hat hwc;rw[hhs])|(at_mapUpdate;refine wpList_mapUpdate_own _ rfl _ _ _ 219 rfl 9 3 Ej cy _ w.heap.size k _ rfl hownA hkm _ _ _ rfl rfl hkey _ [] (plainElem_int bI hwk) ?_;intro w1 hown1 hgrow1;obtain⟨d0,d1,d2,d3⟩:=hcs w1 hgrow1;have hb1:=hbA.grown hgrow1 hszA hown0;have HO1:=(show Y _ from hown1);clear hown1)|(go_at_call 113;refine(hbf _).mono ?_;rintro e w2 ⟨rfl,hb2⟩))
      go_ret;rw[HR.out];exact⟨rfl,ae hb1 hb2⟩
     |true=>
      obtain⟨hv1,hv2,hv3,hv4,hv5,hv6,hv7⟩:=KG hvb;simp only[AN]at hv1 hv2;have hsp:=fun w=>Hs s lo hi ini w hv3 hv4 hv5;rw[hvb]at hbf;obtain⟨sp,hspe⟩:∃sp,hi-lo+1=sp:=⟨_,rfl⟩;have HSp:Y (hi-lo+1=sp):=hspe;rw[hspe]at hv1 hv2 hsp HPr;clear hspe;have hm1:1<=st*sp:=by have:=jE hpb.1 hv1 (by omega) (by omega);simpa using this
      have hm2:st*sp<=8196096:=by have:=jE hpb.2 hv2 (by omega) (by omega);simpa using this
      have hlA:wr.heap.size<(wr.alloc (.cells #[.string s,.int Z lo,.int Z hi,.int Z ini] 90)).heap.size:=by simp
      by_cases hbig:64<sp\/4096<st*sp
      .have HR:Y (A2 (vAt l) n=1):=HHit.out 1 (HAt.out.2.2.2.1 hok hmet hvb (by simp only[AN];rw[HSp.out];exact hbig)) (by decide);clear HAt HStep HHit HPr hhas hown hok HM hmet hvb;go_wp2_with (first|(go_at_call 112;refine(hnm _).mono ?_;rintro e w1 ⟨rfl,rfl⟩)|(at_lookup;refine wpList_lookup_own_ok_int _ rfl _ _ 219 rfl 9 3 .i64 Ej cy bI (De _) w.heap.size k _ rfl hownA _ _ rfl hkey ?_;intro c hat hwc;rw[hhs])|(at_mapUpdate;refine wpList_mapUpdate_own _ rfl _ _ _ 219 rfl 9 3 Ej cy _ w.heap.size k _ rfl hownA hkm _ _ _ rfl rfl hkey _ [] (plainElem_int bI hwk) ?_;intro w1 hown1 hgrow1;obtain⟨d0,d1,d2,d3⟩:=hcs w1 hgrow1;have hb1:=hbA.grown hgrow1 hszA hown0;have HO1:Y (Cq w1 w.heap.size l (k+1)):=⟨_,hown1,HP.out _⟩;clear hown1;have hl:=qE hlA hgrow1.size)|(go_at_call 113;refine(hbf _).mono ?_;rintro e w2 ⟨rfl,hb2⟩;obtain⟨d0,d1,d2,d3⟩:=hVA _ w2 ⟨d0,d1,d2,d3⟩ hb2 hl;have hb12:=ae hb1 hb2;have hl2:=qE hl hb2.size;have HO2:Y (Cq w2 w.heap.size l (k+1)):=HO1.out.later hb2)|(go_at_call 83;refine(hsp _).mono ?_;rintro e w3 ⟨rfl,hb3⟩;obtain⟨d0,d1,d2,d3⟩:=hVA _ w3 ⟨d0,d1,d2,d3⟩ hb3 (by first|exact hl3|exact hl2);have hb13:=Below.trans (by first|exact hb13|exact hb12) (hb3.mono (by first|exact hb13.size|exact hb12.size));have hl3:=qE (by first|exact hl3|exact hl2) hb3.size;have HO3:Y (Cq w3 w.heap.size l (k+1)):=Cq.later (by first|exact HO3.out|exact HO2.out) hb3))
       all_goals go_ret
       all_goals rw[HR.out]
       all_goals exact⟨rfl,hb13⟩
      .have H0:vAt l k=0:=HAt.out.2.2.2.2 hok hmet hvb (by simp only[AN];rw[HSp.out];exact hbig);have HJ2:=(show Y _ from HStep.out H0);obtain⟨hs1,hs2⟩:sp<=64/\st*sp<=4096:=by omega
       clear HAt HStep HHit hhas hown hok HM hmet hvb H0 hbig;go_wp2_with (first|(go_at_call 112;refine(hnm _).mono ?_;rintro e w1 ⟨rfl,rfl⟩)|(at_lookup;refine wpList_lookup_own_ok_int _ rfl _ _ 219 rfl 9 3 .i64 Ej cy bI (De _) w.heap.size k _ rfl hownA _ _ rfl hkey ?_;intro c hat hwc;rw[hhs])|(at_mapUpdate;refine wpList_mapUpdate_own _ rfl _ _ _ 219 rfl 9 3 Ej cy _ w.heap.size k _ rfl hownA hkm _ _ _ rfl rfl hkey _ [] (plainElem_int bI hwk) ?_;intro w1 hown1 hgrow1;obtain⟨d0,d1,d2,d3⟩:=hcs w1 hgrow1;have hb1:=hbA.grown hgrow1 hszA hown0;have HO1:Y (Cq w1 w.heap.size l (k+1)):=⟨_,hown1,HP.out _⟩;clear hown1;have hl:=qE hlA hgrow1.size)|(go_at_call 113;refine(hbf _).mono ?_;rintro e w2 ⟨rfl,hb2⟩;obtain⟨d0,d1,d2,d3⟩:=hVA _ w2 ⟨d0,d1,d2,d3⟩ hb2 hl;have hb12:=ae hb1 hb2;have hl2:=qE hl hb2.size;have HO2:Y (Cq w2 w.heap.size l (k+1)):=HO1.out.later hb2)|(go_at_call 83;refine(hsp _).mono ?_;rintro e w3 ⟨rfl,hb3⟩;obtain⟨d0,d1,d2,d3⟩:=hVA _ w3 ⟨d0,d1,d2,d3⟩ hb3 (by first|exact hl3|exact hl2);have hb13:=Below.trans (by first|exact hb13|exact hb12) (hb3.mono (by first|exact hb13.size|exact hb12.size));have hl3:=qE (by first|exact hl3|exact hl2) hb3.size;have HO3:Y (Cq w3 w.heap.size l (k+1)):=Cq.later (by first|exact HO3.out|exact HO2.out) hb3))
       go_roundw
       case rel=>exact⟨k+1,hlt,by go_num,by rw[HPr.out],HJ2,HO3.out,hb13,Nat.lt_trans hsz hl3⟩
       case measure=>simp[intOf];omega
  .have hkn:k=n:=by omega
   have HR:Y (A2 (vAt l) n=0):=Da (fun j hj=>HJ.out j (by omega));clear HM;go_wp2;go_ret;rw[HR.out];exact⟨rfl,hbel⟩
theorem Pm(ao:Option Addr)(n cap:Nat)(w:X)(h:6<n) :
  Calls qA 81 #[.slice ao n cap] w fun e w'=>e=.returned (.int Z 1)/\Below w.heap.size w w':=by
 go_enter ct,cu;go_wp2;go_ret;exact⟨rfl,qD _ _⟩
theorem Ij(va:Value)(l:List Vr)(w:X)(hV:VarsV w va l) :
  Calls qA 81 #[va] w fun e w'=>e=.returned (.int Z (vcode l))/\Below w.heap.size w w':=by
 unfold vcode;split
 .rename_i h;obtain⟨ao,cap,rfl⟩:=hV.shape;exact Pm ao _ cap w h
 .rename_i h;exact Pn va l w (by omega) hV
