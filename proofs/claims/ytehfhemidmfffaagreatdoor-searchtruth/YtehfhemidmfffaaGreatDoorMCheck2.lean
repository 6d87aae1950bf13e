import Derived.Test.YtehfhemidmfffaaGreatDoorMCheck
open Go.RowKit renaming Below→Y
open Go.Value renaming slice→Z
namespace Go.Proofs.YtehfhemidmfffaaGreatDoor
open Go.RowKit.Below renaming refl→qD
open _root_.Nat renaming le_refl→qB,le_succ→vE
open Go.Proofs.Tryz renaming prog→qA
open Go.ChangeShapes Go.WideShapes Go.ChangeAt Go.RowKit Go.Deep Go.Maps
open Terms Tm
open Go.Proofs.Tryz renaming func55→cT,ntmps55→cU
set_option maxHeartbeats 6400000
set_option maxRecDepth 20000
theorem SX(va vr:Value)(m:Mo)(w:World)(hV:A1 w va vr m)(h:vcode m.vars≠0) :
  Calls qA 55 #[.agg #[va,vr]] w fun e w'=>e=.returned (.int .i64 (vcode m.vars))/\Y w.heap.size w w':=by
 have hA:∀o,Y w.heap.size w (w.alloc o):=fun o=>(qD _ _).alloc (qB _) o;have hcv:=fun o=>Ij va m.vars (w.alloc o) (hV.1.below (hA o));generalize vcode m.vars=x at *;obtain⟨ao,cap,rfl⟩:=hV.1.shape;obtain⟨ro,rc,rfl⟩:=hV.2.shape;clear hV
 go_enter cT,cU;go_wp2_with (go_at_call 81;refine(hcv _).mono ?_;rintro e w1 ⟨rfl,hb1⟩)
 go_ret;exact⟨rfl,(hA _).trans (hb1.mono (hA _).size)⟩
theorem SV(va vr:Value)(m:Mo)(w:World)(hV:A1 w va vr m)(h:vcode m.vars=0)(h12:12<m.rules.length) :
  Calls qA 55 #[.agg #[va,vr]] w fun e w'=>e=.returned (.int .i64 1)/\Y w.heap.size w w':=by
 have hA:∀o,Y w.heap.size w (w.alloc o):=fun o=>(qD _ _).alloc (qB _) o;have hcv:=fun o=>Ij va m.vars (w.alloc o) (hV.1.below (hA o));rw[h]at hcv;obtain⟨ao,cap,rfl⟩:=hV.1.shape;obtain⟨ro,rc,rfl⟩:=hV.2.shape;generalize m.rules.length=rn at *;clear hV
 go_enter cT,cU;go_wp2_with (go_at_call 81;refine(hcv _).mono ?_;rintro e w1 ⟨rfl,hb1⟩;have hcb:w1.cell? ⟨w.heap.size,1,none⟩=some (Z ro rn rc):=(hb1.cell (p:=⟨w.heap.size,1,none⟩) (by simp)).trans (by simp[go_sem]))
 go_ret;exact⟨rfl,(hA _).trans (hb1.mono (hA _).size)⟩
theorem SW(va vr:Value)(m:Mo)(w:World)(hB:0<w.heap.size)(hT:AF w)(hV:A1 w va vr m)(h:vcode m.vars=0)(h12:m.rules.length<=12) :
  Calls qA 55 #[.agg #[va,vr]] w fun e w'=>e=.returned (.int .i64 (A2 (fun i=>BH m.vars.length (m.rules.getD i ru0)) m.rules.length))/\Y w.heap.size w w':=by
 have hA:∀o,Y w.heap.size w (w.alloc o):=fun o=>(qD _ _).alloc (qB _) o;have hcv:=fun o=>Ij va m.vars (w.alloc o) (hV.1.below (hA o));have h6:=(N5 h).1;rw[h]at hcv;obtain⟨ao,cap,rfl⟩:=hV.1.shape;obtain⟨ro,rc,rfl⟩:=hV.2.shape;generalize hl:m.rules=l at *;have HS:Hid (RulesV w (Z ro l.length rc) l):=by show RulesV _ _ _;rw[<-hl];rw[<-hl]at hV;exact hV.2
 have HT:Hid (AF w):=hT;obtain⟨n,hn⟩:∃n,n=l.length:=⟨_,rfl⟩;have HN:Hid (n=l.length):=hn;rw[<-hn]at h12 HS⊢;obtain⟨vn,hvn⟩:∃vn,vn=m.vars.length:=⟨_,rfl⟩;rw[<-hvn]at hcv h6⊢;clear hV hT hn hl h hvn;obtain⟨f,hf⟩:∃f:Nat->Int,f=fun i=>BH vn (l.getD i ru0):=⟨_,rfl⟩;rw[<-hf];have HF:Hid (f=fun i=>BH vn (l.getD i ru0)):=hf;clear hf;go_enter cT,cU;go_wp2_with (go_at_call 81;refine(hcv _).mono ?_;rintro e w1 ⟨rfl,hb1⟩;have hcb:w1.cell? ⟨w.heap.size,1,none⟩=some (Z ro n rc):=(hb1.cell (p:=⟨w.heap.size,1,none⟩) (by simp)).trans (by simp[go_sem]))
 have hb1':Y (w.heap.size+1) (w.alloc (.cells #[Z ao vn cap,Z ro n rc] 31)) w1:=hb1.mono (by simp);clear hcv hcb hb1;go_loopw [20] (fun i wr=>∃k:Nat,k<=n/\i=.int .i64 k/\Hid (∀j,j<k->f j=0)/\Y (w.heap.size+1) (w.alloc (.cells #[Z ao vn cap,Z ro n rc] 31)) wr) (fun i _=>n-(intOf i).toNat)
 case atStart=>exact⟨0,Nat.zero_le _,rfl,fun j hj=>by omega,hb1'⟩
 case round=>
  obtain⟨k,hk,rfl,HJ,hbel⟩:=hrel;have hbw:=(hA (.cells #[Z ao vn cap,Z ro n rc] 31)).trans (hbel.mono (vE _));by_cases hlt:k<n
  .obtain ⟨b,off,rfl,hblt,hat⟩:=HS.out.at (i:=k) (by rw[<-HN.out];exact hlt);have HHit:Hid (∀c,f k=c->c≠0->A2 f n=c):=fun c h1 h2=>by rw[Gc hlt HJ.out (by rw[h1];exact h2),h1]
   have HStep:Hid (f k=0->∀j,j<k+1->f j=0):=fun h0 j hj=>by
    by_cases hjk:j=k
    .subst hjk;exact h0
    .exact HJ.out j (by omega)
   obtain⟨⟨u,c0',hO⟩,s,c1',hS⟩:=hat;have HFk:Hid (f k=BH vn (l.getD k ru0)):=by show _=_;rw[HF.out]
   generalize l.getD k ru0=r at *;obtain⟨ua,uc,rfl⟩:=hO.shape;obtain⟨sa,sc,rfl⟩:=hS.shape;have c0:=(hbw.cell (p:=⟨b,off+k*2,none⟩) hblt).trans c0';have c1:=(hbw.cell (p:=⟨b,off+k*2+1,none⟩) hblt).trans c1';have hszb:w.heap.size+1<=wr.heap.size:=by have:=hbel.size;simp at this;omega
   have hlb:w.heap.size<wr.heap.size:=by omega
   have cb:=(hbel.cell (p:=⟨w.heap.size,0,none⟩) (by simp)).trans (show _=some (Z ao vn cap) by simp[go_sem]);have hbA:=hbel.alloc hszb (.cells #[Z ua r.guard.length uc,Z sa r.sets.length sc] 96);have hbwA:=(hA _).trans (hbA.mono (vE _));have hcr:=Ph _ _ r vn _ (by omega) (Nat.lt_of_lt_of_le hB hbwA.size) (HT.out.below hbwA hB) (hO.below hbwA) (hS.below hbwA);generalize r.guard.length=gn at *;generalize r.sets.length=sn at *;obtain⟨x,hx⟩:∃x,BH vn r=x:=⟨_,rfl⟩
   rw[hx]at hcr HFk;clear HJ c0' c1' hO hS hx hA;by_cases hx0:x=0
   .subst hx0;have HJ2:=(show Hid _ from HStep.out HFk.out);clear HStep HHit HFk HF;go_wp2_with (go_at_call 82;refine hcr.mono ?_;rintro e w3 ⟨rfl,hb3⟩)
    go_roundw
    case rel=>exact⟨k+1,hlt,by go_num,HJ2,hbA.trans (hb3.mono (by have:=hbA.size;simp at this⊢;omega))⟩
    case measure=>simp[intOf];omega
   .have HR:Hid (A2 f n=x):=HHit.out x HFk.out hx0;clear HStep HHit HFk HF;go_wp2_with (go_at_call 82;refine hcr.mono ?_;rintro e w3 ⟨rfl,hb3⟩)
    go_ret;rw[HR.out];exact⟨rfl,ae hbwA hb3⟩
  .have hkn:k=n:=by omega
   have HR:Hid (A2 f n=0):=Da (fun j hj=>HJ.out j (by omega));go_wp2;go_ret;rw[HR.out];exact⟨rfl,hbw⟩
theorem C8(va vr:Value)(m:Mo)(w:World)(hB:0<w.heap.size)(hT:AF w)(hV:A1 w va vr m) :
  Calls qA 55 #[.agg #[va,vr]] w fun e w'=>e=.returned (.int .i64 (mcode m))/\Y w.heap.size w w':=by
 unfold mcode;by_cases h:vcode m.vars=0
 .rw[aj h];by_cases h12:12<m.rules.length
  .rw[aj h12];exact SV va vr m w hV h h12
  .rw[ak h12];exact SW va vr m w hB hT hV h (by omega)
 .rw[ak h];exact SX va vr m w hV h
