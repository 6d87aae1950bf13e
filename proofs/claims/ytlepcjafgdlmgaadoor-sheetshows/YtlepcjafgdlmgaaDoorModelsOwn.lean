import Derived.Test.YtlepcjafgdlmgaaDoorModelsOf
namespace Go.Proofs.YtlepcjafgdlmgaaDoor
open Go.ChangeShapes Go.WideShapes Go.ChangeAt Go.RowKit Go.Deep
open Terms Tm
set_option maxHeartbeats 6400000
set_option maxRecDepth 20000
def ModelOwn (w:World) (base:Nat) (va vr:Value) (m:Mo):Prop:=∃ b1 b2,base <= b1/\base <= b2/\w.ownsRow b1 57 4 va m.vars.length (vflat m.vars)/\RulesOwn w b2 vr m.rules
theorem ModelOwn.modelV {w:World} {base:Nat} {va vr:Value} {m:Mo} (h:ModelOwn w base va vr m):ModelV w va vr m:=by
 obtain ⟨b1,b2,_,_,h1,h2⟩:=h;exact ⟨varsV_of_owns h1,h2.rulesV⟩
theorem ModelOwn.low {w:World} {base:Nat} {va vr:Value} {m:Mo} (h:ModelOwn w base va vr m) {b o:Nat} (hb:b < base) (u:Value):ModelOwn (w.setCell ⟨b,o,none⟩ u) base va vr m:=by
 obtain ⟨b1,b2,k1,k2,h1,h2⟩:=h;exact ⟨b1,b2,k1,k2,owns_setCell h1 (by omega) u,h2.setCell (by omega) u⟩
theorem ModelOwn.later {w w':World} {base:Nat} {va vr:Value} {m:Mo} (h:ModelOwn w base va vr m) (hb:Below w.heap.size w w'):ModelOwn w' base va vr m:=by
 obtain ⟨b1,b2,k1,k2,h1,h2⟩:=h;exact ⟨b1,b2,k1,k2,owns_later h1 hb (Nat.le_refl _),h2.later hb (Nat.le_refl _)⟩
theorem ModelOwn.down {w:World} {base base':Nat} {va vr:Value} {m:Mo} (h:ModelOwn w base va vr m) (hb:base' <= base):ModelOwn w base' va vr m:=by
 obtain ⟨b1,b2,k1,k2,h1,h2⟩:=h;exact ⟨b1,b2,by omega,by omega,h1,h2⟩
theorem models_own (va vr:Value) (m:Mo) (w:World) (hsz:MoSz m) (hV:ModelV w va vr m) :
  Calls Tryd.prog 8 #[.agg #[va,vr]] w fun e w'=>∃ va' vr',e=.returned (.agg #[va',vr'])/\Below w.heap.size w w'/\ModelOwn w' (w.heap.size+2) va' vr' m:=by
 obtain ⟨hsv,hsr,hsz⟩:=hsz;obtain ⟨⟨ao,cap,rfl,hcap,hvat⟩,hR⟩:=hV;obtain ⟨ro,rc,rfl⟩:=hR.shape;obtain ⟨vs,l⟩:=m;simp only at *
 have HR:Hid (RulesV w (.slice ro l.length rc) l):=hR;have HSZ:=(show Hid _ from hsz)
 obtain ⟨n,hn⟩:∃ n,n=l.length:=⟨_,rfl⟩
 have HN:Hid (n=l.length):=hn;rw [<- hn] at hsr HR ⊢;have hA:∀ o o',Below w.heap.size w ((w.alloc o).alloc o'):=fun o o'=>((Below.refl _ _).alloc (Nat.le_refl _) o).alloc (by simp) o'
 have hnews:∀ o o' ad,ao=some ad->∀ j u,(vflat vs)[j]? = some u->((w.alloc o).alloc o').cell? (ad.add j)=some u:=fun o o' ad had j u hj=>by
  have hlt:0 < vs.length:=by
   rcases Nat.eq_zero_or_pos vs.length with h0 | h0
   ·have:=(List.getElem?_eq_some_iff.1 hj).1;rw [vflat_length] at this;omega
   ·exact h0
  obtain ⟨b,off,e,hb,hat⟩:=hvat hlt;rw [had] at e;obtain rfl:=Option.some.inj e;exact vflat_cells (fun i hi=>(hat i hi).below (hA o o') hb) j u hj
 have HNews:=(show Hid _ from hnews)
 have HOwn:Hid (∀ (w':World) (base:Nat) (v:Value),w'.ownsRow base 57 4 v vs.length (vflat vs)->VarsV w' v vs):=fun w' base v h=>varsV_of_owns h
 obtain ⟨iv,hiv,hv0,hv1,hv2⟩:=info_parts infoVar;obtain ⟨is,his,hsa0,hsa1,hsa2⟩:=info_parts infoSet;obtain ⟨ir,hir,hr0,hr1,hr2⟩:=info_parts infoRule;have hvl:=vflat_length vs;have hvo:=vflat_one vs;generalize hcl:vflat vs=cells at *;have HCL:Hid (vflat vs=cells):=hcl;clear hcl;obtain ⟨vn,hvn⟩:∃ vn,vn=vs.length:=⟨_,rfl⟩
 have HVN:Hid (vn=vs.length):=hvn;rw [<- hvn] at hsv hcap hvl HOwn ⊢;clear hR hn hnews hvat hsz hvn
 go_enter Tryd.func8,Tryd.ntmps8
 go_wp2_with (at_builtin;refine wpList_copy rfl _ _ 22 rfl (w.heap.size+2) 57 iv _ 4 40 Tryd.underlying22 hiv hv0 hv1 hv2 rfl (by decide) rfl ao vn cap cells rfl hcap.2 hvl (HNews.out _ _) hvo ?c3 hsv ?c5 ?_)
 case c3=>unfold maxLen;omega
 case c5=>simp
 intro va' w1 hown1 hgrow1;obtain ⟨va1,vc1,rfl⟩:=owns_slice hown1;have hb01:Below (w.heap.size+2) ((w.alloc (.cells #[.slice ao vn cap,.slice ro n rc] 25)).alloc (.cells #[.slice none 0 0,.slice none 0 0] 25)) w1:=(Below.refl _ _).grown hgrow1 (by simp) (fun q hq=>by cases hq)
 have hs1:w.heap.size+2 <= w1.heap.size:=by have:=hb01.size;simp at this;omega
 have hb1:Below w.heap.size w w1:=(hA _ _).trans (hb01.mono (by omega))
 have HBx:Hid (∀ wr,Below w1.heap.size w1 wr->wr.cell? ⟨w.heap.size,1,none⟩=some (.slice ro n rc)/\wr.cell? ⟨w.heap.size+1,0,none⟩=some (.slice none 0 0)/\wr.cell? ⟨w.heap.size+1,1,none⟩=some (.slice none 0 0)/\wr.frozen? ⟨w.heap.size+1,0,none⟩=false/\wr.frozen? ⟨w.heap.size+1,1,none⟩=false):=fun wr hb=>by
  refine ⟨?_,?_,?_,?_,?_⟩
  ·rw [hb.cell (p:=⟨w.heap.size,1,none⟩) (by simp only;omega),hb01.cell (p:=⟨w.heap.size,1,none⟩) (by simp)];simp [go_sem]
  ·rw [hb.cell (p:=⟨w.heap.size+1,0,none⟩) (by simp only;omega),hb01.cell (p:=⟨w.heap.size+1,0,none⟩) (by simp)];simp [go_sem]
  ·rw [hb.cell (p:=⟨w.heap.size+1,1,none⟩) (by simp only;omega),hb01.cell (p:=⟨w.heap.size+1,1,none⟩) (by simp)];simp [go_sem]
  ·rw [hb.frozen (p:=⟨w.heap.size+1,0,none⟩) (by simp only;omega),hb01.frozen (p:=⟨w.heap.size+1,0,none⟩) (by simp)];simp [go_sem]
  ·rw [hb.frozen (p:=⟨w.heap.size+1,1,none⟩) (by simp only;omega),hb01.frozen (p:=⟨w.heap.size+1,1,none⟩) (by simp)];simp [go_sem]
 have HO1:Hid (w1.ownsRow (w.heap.size+2) 57 4 (.slice va1 vn vc1) vn cells):=hown1;have HB1:Hid (Below w.heap.size w w1):=hb1;clear hgrow1 hown1 hb01 hA HNews hvl hvo hiv hv0 hv1 hv2 hcap hb1
 go_wp2
 go_loopw [4] (fun i wr=>∃ (k:Nat) (vR:Value),k <= n/\i=.int .i64 k/\Hid (RulesCur w1 wr (.slice va1 vn vc1) vR (l.take k))) (fun i _=>n - (intOf i).toNat)
 case atStart=>exact ⟨0,.slice none 0 0,Nat.zero_le _,rfl,by simp [go_sem],by simp [go_sem],by simp [go_sem],RulesOwn.nil _ _,(Below.refl _ _).alloc (Nat.le_refl _) _,by simp⟩
 case round=>
  obtain ⟨k,vR,hk,rfl,HC⟩:=hrel;obtain ⟨e0,e1,ef,hro,hbel,hlt1⟩:=HC.out;have HRO:=(show Hid _ from hro)
  have HBel:=(show Hid _ from hbel)
  have hbw:=HB1.out.trans (hbel.mono HB1.out.size);obtain ⟨cB,cr0,cr1,fr0,fr1⟩:=HBx.out wr hbel
  by_cases hlt:k < n
  ·obtain ⟨b,off,rfl,hblt,hat⟩:=HR.out.at (i:=k) (by rw [<- HN.out];exact hlt)
   obtain ⟨⟨u,c0',hO⟩,sv,c1',hS⟩:=hat;have hrsz:=HSZ.out k (by rw [<- HN.out];exact hlt)
   have HTk:=(show Hid _ from take_snocR l (q:=k) (by rw [<- HN.out];exact hlt))
   generalize l.getD k ru0=r at *;obtain ⟨gd,ss⟩:=r;obtain ⟨hgz,hsz2,hsz3⟩:=hrsz;simp only at hO hS hgz hsz2 hsz3
   obtain ⟨ua,uc,rfl⟩:=hO.shape;obtain ⟨sa,sc,rfl⟩:=hS.shape;have c0:=(hbw.cell (p:=⟨b,off+k*2,none⟩) hblt).trans c0';have hops:=ops_any _ gd wr hgz (hO.below hbw);have HS:Hid (SetsV w (.slice sa ss.length sc) ss):=hS;have HSz3:=(show Hid _ from hsz3)
   obtain ⟨gn,hgn⟩:∃ gn,gn=gd.length:=⟨_,rfl⟩
   have HGN:Hid (gn=gd.length):=hgn;rw [<- hgn] at hgz c0 c0' hops;clear hgn;obtain ⟨sn,hsn⟩:∃ sn,sn=ss.length:=⟨_,rfl⟩
   have HSN:Hid (sn=ss.length):=hsn;rw [<- hsn] at hsz2 HS c1';clear hO hS hsn hsz3 hbel hro
   go_wp2_with (go_at_call 10;refine hops.mono ?_;rintro e w2 ⟨gv,rfl,hb2,ho2⟩;obtain ⟨ga,gc,rfl⟩:=owns_slice ho2)
   generalize wr=wo at *;have hwo:w.heap.size < wo.heap.size:=by omega
   have HB2:Hid (Below wo.heap.size wo w2):=hb2;have HO2:=(show Hid _ from ho2)
   have HBw:Hid (Below w.heap.size w wo):=hbw;clear hops hb2 ho2 hbw
   go_loopw [6] (fun i wr=>∃ (q:Nat) (vS:Value),q <= sn/\i=.int .i64 q/\Hid (RuleCur w2 wr (.slice ga gn gc) vS (ss.take q))) (fun i _=>sn - (intOf i).toNat)
   case atStart=>exact ⟨0,.slice none 0 0,Nat.zero_le _,rfl,by simp [go_sem],by simp [go_sem],by simp [go_sem],SetsOwn.nil _ _,(Below.refl _ _).alloc (Nat.le_refl _) _,by simp⟩
   case round=>
    obtain ⟨q,vS,hq,rfl,HC2⟩:=hrel;obtain ⟨d0,d1,df,hso,hbel2,hlt2⟩:=HC2.out;have hbo2:Below wo.heap.size wo wr:=HB2.out.trans (hbel2.mono HB2.out.size);have hbw2:Below w.heap.size w wr:=HBw.out.trans (hbo2.mono HBw.out.size);have cB2:=(hbo2.cell (p:=⟨w.heap.size,1,none⟩) hwo).trans cB
    have c12:=(hbw2.cell (p:=⟨b,off+k*2+1,none⟩) hblt).trans c1'
    by_cases hqs:q < sn
    ·obtain ⟨sb,soff,rfl,hsb,hsat⟩:=HS.out.at (i:=q) (by rw [<- HSN.out];exact hqs)
     obtain ⟨f0',uu,f1',hOu⟩:=hsat;have hvz:=HSz3.out q (by rw [<- HSN.out];exact hqs)
     have HTq:=(show Hid _ from take_snocS ss (q:=q) (by rw [<- HSN.out];exact hqs))
     generalize ss.getD q st0=x at *;obtain ⟨y,val⟩:=x;simp only [StSz] at f0' hOu hvz;obtain ⟨ua2,uc2,rfl⟩:=hOu.shape;have f0:=(hbw2.cell (p:=⟨sb,soff+q*2,none⟩) hsb).trans f0';have f1:=(hbw2.cell (p:=⟨sb,soff+q*2+1,none⟩) hsb).trans f1';have hops2:=fun o=>ops_any _ val ((wr.alloc o).drew) hvz (hOu.below (hbw2.alloc hbw2.size o).drew)
     obtain ⟨us,hus,hts⟩:=hso;have hlq:(ss.take q).length=q:=by rw [List.length_take,<- HSN.out];omega
     have HUS:=(show Hid _ from hus)
     have HTS:=(show Hid _ from hts)
     rw [hlq] at hus;obtain ⟨vl,hvl⟩:∃ vl,vl=val.length:=⟨_,rfl⟩
     have HVL:Hid (vl=val.length):=hvl;rw [<- hvl] at f1 hops2 hvz;have HLQ:Hid ((ss.take q).length=q):=hlq;have h63:q+1 <= maxLen:=by unfold maxLen;omega
     have hby:(q+1)*32 <= 140737488355328:=by omega
     clear hOu f0' f1' hts hbel2 hbo2 hbw2 hlq hvl HC e0 e1 ef HRO HBel cr0 cr1 fr0 fr1 HR HBx HSZ HO1 HOwn HS HSz3 HO2 HB2 HBw cB c0 c0' c1' HB1 hir hr0 hr1 hr2 hgz
     go_wp2_with fail
     clear cB2 c12 f0 f1
     go_region_law (first
       | (refine step_append_lies _ (by rfl) (.tmp 48) (.tmp 55) 59 (by rfl) (w2.heap.size+1) 64 is _ 2 32 Tryd.underlying59 his hsa0 hsa1 hsa2 (by rfl) (by decide) vS q us (by rfl) (hus3 _) ⟨w3.heap.size,0,none⟩ 1 1 [.int .i64 y,.slice a3 vl c3] (by rfl) (by rfl) (two_new _ _ _ _) (by intro u hu;simp at hu;rcases hu with rfl | rfl <;> rfl) (by decide) h63 hby (hbase3 _) (w3.heap.size+1) (by simp) ?_;intro g cp w4 ho4 hg4 hat4 hl4;obtain ⟨g0,g1,gf⟩:=HC2.out.at4 HUS.out hb3 hg4)
       | (go_simp;go_at_call 10;refine (hops2 _).mono ?_;rintro e w3 ⟨v3,rfl,hb3,ho3⟩;obtain ⟨a3,c3,rfl⟩:=owns_slice ho3;obtain ⟨p0,p1,pf,psz,hbw3⟩:=HC2.out.at3 hb3;obtain ⟨⟨hk3,hk3'⟩,hk3a,hkk,hus3,hbase3⟩:=sb_facts hus hlt2 hb3))
     all_goals
      have hst:RuleCur w2 (w4.setCell ⟨w2.heap.size,1,none⟩ (.slice (some ⟨g,0,none⟩) (q+1) cp)) (.slice ga gn gc) (.slice (some ⟨g,0,none⟩) (q+1) cp) (ss.take (q+1)):=by
       rw [HTq.out];exact RuleCur.step (x:=⟨y,val⟩) HC2.out HUS.out HTS.out hb3 (by rw [<- HVL.out];exact ho3) hg4 (by rw [HLQ.out];exact ho4)
      have HST:=(show Hid _ from hst)
      clear hst ho4 hg4 ho3 hb3 hus3 hbase3 hkk hk3a HUS HTS HC2 hus
      go_wp2_with fail
      go_roundw
      case rel=>exact ⟨q+1,_,hqs,by go_num,HST.out⟩
      case measure=>simp [intOf];omega
    ·have hqe:q=sn:=by omega
     have hso':SetsOwn wr (w2.heap.size+1) vS ss:=by rwa [List.take_of_length_le (by rw [<- HSN.out];omega)] at hso
     obtain ⟨sa3,sc3,hvs⟩:∃ a c,vS=.slice a sn c:=by
      obtain ⟨us,h1,_⟩:=hso';rw [<- HSN.out] at h1;exact owns_slice h1
     subst hvs;have e1':=(hbo2.cell (p:=⟨w1.heap.size,1,none⟩) hlt1).trans e1;have ef':=(hbo2.frozen (p:=⟨w1.heap.size,1,none⟩) hlt1).trans ef
     have hgu:wr.ownsRow (w1.heap.size+1) 77 2 (.slice ga gn gc) gd.length (flat gd):=by
      have:=HO2.out;rw [HGN.out] at this;have:=owns_mono (owns_later this hbel2 (Nat.le_refl _)) (show w1.heap.size+1 <= wo.heap.size from hlt1)
      rwa [<- HGN.out] at this ⊢
     have hsu:SetsOwn wr (w1.heap.size+1) (.slice sa3 sn sc3) ss:=hso'.mono (by have:=HB2.out.size;omega)
     obtain ⟨us,hus,hts⟩:=HRO.out;have HUS:=(show Hid _ from hus)
     have HTS:=(show Hid _ from hts)
     have hlk:(l.take k).length=k:=by rw [List.length_take,<- HN.out];omega
     have HLK:Hid ((l.take k).length=k):=hlk;rw [hlk] at hus;have hus2:=owns_later hus hbo2 (Nat.le_refl _);have HGU:=(show Hid _ from hgu)
     have HSU:=(show Hid _ from hsu)
     have HBO:Hid (Below wo.heap.size wo wr):=hbo2;have h63:k+1 <= maxLen:=by unfold maxLen;omega
     have hby:(k+1)*48 <= 140737488355328:=by omega
     have hbase:∀ o,w1.heap.size+1 <= (wr.alloc o).heap.size:=fun o=>by have:=hbo2.size;simp;omega
     have hus3:=fun o=>hus2.alloc o
     clear hso hso' hgu hsu hts hlk hus hus2 hbel2 hbw2 hbo2 HC2 HO2 HB2 HBw HO1 HOwn HBx HR HS HSz3 HSZ HB1 c0 c0' c1' cB cr0 cr1 fr0 fr1 e0 e1 ef
     go_wp2_with (at_builtin;refine wpList_append_lies _ rfl (.tmp 59) (.tmp 61) 23 rfl (w1.heap.size+1) 61 ir _ 2 48 Tryd.underlying23 hir hr0 hr1 hr2 rfl (by decide) vR k us rfl (hus3 _) ⟨wr.heap.size,0,none⟩ 1 1 [.slice ga gn gc,.slice sa3 sn sc3] rfl rfl (two_new _ _ _ _) (by intro u hu;simp at hu;rcases hu with rfl | rfl <;> rfl) (by decide) h63 hby (hbase _) (wr.heap.size+1) (by simp) ?_;intro g cp w4 ho4 hg4 hat4 hl4;obtain ⟨g0,g1,gf⟩:=HC.out.at4 HUS.out HBO.out hg4)
     have hst:RulesCur w1 (w4.setCell ⟨w1.heap.size,1,none⟩ (.slice (some ⟨g,0,none⟩) (k+1) cp)) (.slice va1 vn vc1) (.slice (some ⟨g,0,none⟩) (k+1) cp) (l.take (k+1)):=by
      rw [HTk.out];exact RulesCur.step (x:=⟨gd,ss⟩) HC.out HUS.out HTS.out HBO.out HGU.out HSU.out hg4 (by rw [HLK.out];exact ho4)
     have HST:=(show Hid _ from hst)
     clear hst
     go_roundw
     case rel=>exact ⟨k+1,_,hlt,by go_num,HST.out⟩
     case measure=>simp [intOf];omega
  ·have hkn:k=n:=by omega
   obtain ⟨ra,rcap,hvr⟩:∃ ra rcap,vR=.slice ra n rcap:=by
    obtain ⟨us,h1,_⟩:=hro;obtain ⟨a,c,rfl⟩:=owns_slice h1;exact ⟨a,c,by rw [List.length_take,<- HN.out,hkn,Nat.min_self]⟩
   subst hvr
   have hfin:ModelOwn ((wr.setCell ⟨w.heap.size+1,0,none⟩ (.slice va1 vn vc1)).setCell ⟨w.heap.size+1,1,none⟩ (.slice ra n rcap)) (w.heap.size+2) (.slice va1 vn vc1) (.slice ra n rcap) ⟨vs,l⟩:=by
    refine ⟨w.heap.size+2,w1.heap.size+1,Nat.le_refl _,by omega,?_,?_⟩
    ·show World.ownsRow _ _ _ _ _ vs.length (vflat vs)
     rw [HCL.out,<- HVN.out];exact owns_setCell (owns_setCell (owns_later HO1.out hbel (Nat.le_refl _)) (by omega) _) (by omega) _
    ·have:=(hro.setCell (b:=w.heap.size+1) (o:=0) (by omega) (.slice va1 vn vc1)).setCell (b:=w.heap.size+1) (o:=1) (by omega) (.slice ra n rcap)
     rwa [List.take_of_length_le (by rw [<- HN.out];omega)] at this
   have HFin:=(show Hid _ from hfin)
   clear hfin hro HC HRO
   go_wp2
   refine bodyPost_ret (v:=.agg #[.slice va1 vn vc1,.slice ra n rcap]) (by simp [results,Tryd.results8,go_sem,cr0,cr1]) rfl ⟨_,_,rfl,?_,HFin.out⟩
   exact (hbw.setCell (by simp) _).setCell (by simp) _
