import Derived.Test.YtehfhemidmfffaaGreatDoorMCheckVars
import Derived.Test.YtehfhemidmfffaaGreatDoorExpr3
open Go renaming World→U
open Go.Ending renaming returned→V
open Go.IntKind renaming i64→Z
open Go.RowKit renaming Below→X,Hid→Y
open Go.Value renaming slice→W
open _root_.Option renaming none→T
namespace Go.Proofs.YtehfhemidmfffaaGreatDoor
open Go.RowKit.Below renaming refl→qD
open _root_.Nat renaming le_refl→qB,lt_of_lt_of_le→qE
open Go.Proofs.Tryz renaming prog→qA
open Go.ChangeShapes Go.WideShapes Go.ChangeAt Go.RowKit Go.Deep Go.Maps
open Terms Tm
open Go.Proofs.Tryz renaming func77→cO,func82→cP,ntmps77→cQ,ntmps82→cR,underlying170→cS,underlying3→bI
set_option maxHeartbeats 6400000
set_option maxRecDepth 20000
theorem GP(v:Value)(l:am)(vars:Int)(tr:Bool)(w:U)(hB:0<w.heap.size)(hT:AF w)(hV:OpsV w v l) :
  Calls qA 77 #[v,.int Z vars,.bool tr] w fun e w'=>e=V (.int Z (kcode vars l tr))/\X w.heap.size w w':=by
 have hch:=Po v l vars (C0 l) w hB hT hV (KA l);obtain⟨ao,cap,rfl⟩:=hV.shape;unfold kcode;generalize A5 vars l (C0 l)=x at *;generalize mkT (C0 l).kind=mk at *;clear hV hT
 by_cases hx:x=0
 .subst hx;rw[aj rfl];rw[show(decide ((0:Int)=0)&&mk)=mk by simp]at hch;by_cases hm:mk=tr
  .rw[aj hm];subst hm;go_enter cO,cQ;go_wp2_with (go_at_call 109;refine hch.mono ?_;rintro e w1 ⟨rfl,hb1⟩)
   all_goals go_ret
   all_goals exact⟨rfl,hb1⟩
  .rw[ak hm];have hne:(mk == tr)=false:=by simpa using hm
   go_enter cO,cQ;go_wp2_with (go_at_call 109;refine hch.mono ?_;rintro e w1 ⟨rfl,hb1⟩)
   all_goals go_ret
   all_goals exact⟨rfl,hb1⟩
 .rw[ak hx];rw[show(decide (x=0)&&mk)=false by simp[hx]]at hch;go_enter cO,cQ;go_wp2_with (go_at_call 109;refine hch.mono ?_;rintro e w1 ⟨rfl,hb1⟩)
  all_goals go_ret
  all_goals exact⟨rfl,hb1⟩
theorem Fr:Keyed qA 3:=int_keyed bI
def EV(w:U)(b:Nat)(l:List St)(k:Nat):Prop:=
 ∃D:DataW Unit,w.ownsMap qA 3 (plainElem qA 3) b k D/\∀x:Int,Maps.has D (.int Z x)=CN l k x
theorem Si(l:List St)(k:Nat)(x:Int):CN l (k+1) x=(CN l k x||decide ((l.getD k st0).var=x)):=by
 simp[CN,List.range_succ]
theorem VE(w:U)(l:List St):EV (w.alloc (.map #[] 0)) w.heap.size l 0:=
 ⟨.map [],World.ownsMap_made _ _ _ _,fun _=>rfl⟩
theorem EV.later{w w':U}{b:Nat}{l:List St}{k:Nat}(h:EV w b l k)(hb:X w.heap.size w w'):EV w' b l k:=by
 obtain⟨D,h1,h2⟩:=h;exact⟨D,h1.kept (row:=T) ⟨hb.os,hb.tape,hb.output,hb.size,fun i hi _=>hb.block i hi⟩ (by simp),h2⟩
theorem VD{D:DataW Unit}{l:List St}{k:Nat}{x:Int}(d:DataW Unit)(hD:IsMap D)(hx:(l.getD k st0).var=x)(h:∀x:Int,Maps.has D (.int Z x)=CN l k x) :
  ∀y:Int,Maps.has (D.put (.int Z x) d) (.int Z y)=CN l (k+1) y:=by
 intro y;rw[Si,hx];by_cases he:x=y
 .subst he;rw[has_put_same hD (show WideAt.IsKeyLit (.int _ _)from trivial)];simp
 .rw[has_put_other (fun h=>he (by injection h with _ h;exact h.symm)),h y];simp[he]
theorem Uv{vars:Int}{l:List St}{k:Nat}{x:St}(hx:l.getD k st0=x) :
  (x.var<0\/vars<=x.var->sAt vars l k=2)/\(¬(x.var<0\/vars<=x.var)->CN l k x.var=true->sAt vars l k=7)/\(¬(x.var<0\/vars<=x.var)->CN l k x.var=false->sAt vars l k=kcode vars x.val false):=by
 subst hx;refine⟨fun h1=>?_,fun h1 h2=>?_,fun h1 h2=>?_⟩;all_goals unfold sAt
 .rw[aj h1]
 .rw[ak h1,aj h2]
 .rw[ak h1,ak (by rw[h2];decide)]
theorem Pj(gv:Value)(so:Option Addr)(n cap:Nat)(vars:Int)(w:U)(h:6<n) :
  Calls qA 82 #[.agg #[gv,W so n cap],.int Z vars] w fun e w'=>e=V (.int Z 1)/\X w.heap.size w w':=by
 go_enter cP,cR;go_wp2;go_ret;exact⟨rfl,ai⟩
theorem Pi(gv sv:Value)(r:Ru)(vars:Int)(w:U)(hB:0<w.heap.size)(hT:AF w)(h6:r.sets.length<=6)(hG:OpsV w gv r.guard)(hS:SetsV w sv r.sets)(h:kcode vars r.guard true≠0) :
  Calls qA 82 #[.agg #[gv,sv],.int Z vars] w fun e w'=>e=V (.int Z (kcode vars r.guard true))/\X w.heap.size w w':=by
 have hA:∀o,X w.heap.size w (w.alloc o):=fun o=>(qD _ _).alloc (qB _) o;have hcm:=fun o=>GP gv r.guard vars true (w.alloc o) (qE hB (hA o).size) (hT.below (hA o) hB) (hG.below (hA o));generalize kcode vars r.guard true=x at *;obtain⟨ga,gc,rfl⟩:=hG.shape;obtain⟨so,sc,rfl⟩:=hS.shape;clear hG hS hT
 go_enter cP,cR;go_wp2_with (go_at_call 77;refine(hcm _).mono ?_;rintro e w1 ⟨rfl,hb1⟩)
 go_ret;exact⟨rfl,(hA _).trans (hb1.mono (hA _).size)⟩
theorem Pk(gv sv:Value)(r:Ru)(vars:Int)(w:U)(hv6:vars<=6)(hB:0<w.heap.size)(hT:AF w)(h6:r.sets.length<=6)(hG:OpsV w gv r.guard)(hS:SetsV w sv r.sets)(h:kcode vars r.guard true=0) :
  Calls qA 82 #[.agg #[gv,sv],.int Z vars] w fun e w'=>e=V (.int Z (A2 (sAt vars r.sets) r.sets.length))/\X w.heap.size w w':=by
 have hA:∀o,X w.heap.size w (w.alloc o):=fun o=>(qD _ _).alloc (qB _) o;have hcm:=fun o=>GP gv r.guard vars true (w.alloc o) (qE hB (hA o).size) (hT.below (hA o) hB) (hG.below (hA o));rw[h]at hcm;obtain⟨ga,gc,rfl⟩:=hG.shape;obtain⟨so,sc,rfl⟩:=hS.shape;generalize hl:r.sets=l at *;have HS:Y (SetsV w (.slice so l.length sc) l):=hS;have HT:Y (AF w):=hT;obtain⟨n,hn⟩:∃n,n=l.length:=⟨_,rfl⟩
 have HN:Y (n=l.length):=hn;rw[<-hn]at h6 HS⊢;clear hG hS hT hn hl h;have hmm:=@run_makeMap qA;go_enter cP,cR;go_wp2_with (go_at_call 77;refine(hcm _).mono ?_;rintro e w1 ⟨rfl,hb1⟩;have hsz1:w.heap.size<w1.heap.size:=(by have:=hb1.size;simp at this;omega);have hcb:w1.cell? ⟨w.heap.size,1,T⟩=some (W so n sc):=(hb1.cell (p:=⟨w.heap.size,1,T⟩) (by simp)).trans (by simp[go_sem]);have hcb2:(w1.alloc (.map #[] 0)).cell? ⟨w.heap.size,1,T⟩=some (W so n sc):=(((qD w1.heap.size w1).alloc (qB _) _).cell (p:=⟨w.heap.size,1,T⟩) hsz1).trans hcb)
 have hbw1:X w.heap.size w w1:=(hA _).trans (hb1.mono (hA _).size);clear hcm hcb hcb2 hb1 hA;go_loopw [27] (fun i wr=>∃k:Nat,k<=n/\i=.int Z k/\Y (∀j,j<k->sAt vars l j=0)/\Y (EV wr w1.heap.size l k)/\X w.heap.size w wr/\w1.heap.size<wr.heap.size) (fun i _=>n-(intOf i).toNat)
 case atStart=>exact⟨0,Nat.zero_le _,rfl,fun j hj=>by omega,VE _ _,hbw1.alloc hbw1.size _,by simp⟩
 case round=>
  obtain⟨k,hk,rfl,HJ,HM,hbel,hsz⟩:=hrel;clear hmm;by_cases hlt:k<n
  .obtain ⟨b,off,rfl,hblt,hat⟩:=HS.out.at (i:=k) (by rw[<-HN.out];exact hlt);have HAt:=(show Y _ from Uv (vars:=vars) (l:=l) (k:=k) rfl);have HHit:Y (∀c,sAt vars l k=c->c≠0->A2 (sAt vars l) n=c):=fun c h1 h2=>by rw[Gc hlt HJ.out (by rw[h1];exact h2),h1]
   have HStep:Y (sAt vars l k=0->∀j,j<k+1->sAt vars l j=0):=fun h0 j hj=>by
    by_cases hjk:j=k
    .subst hjk;exact h0
    .exact HJ.out j (by omega)
   have HX:Y (∃x,l.getD k st0=x):=⟨_,rfl⟩;obtain⟨x,hx⟩:=HX.out;have HX2:Y (l.getD k st0=x):=hx;rw[hx]at hat HAt;obtain⟨y,val⟩:=x;obtain⟨c0',u,c1',hOu⟩:=hat;obtain⟨ua,uc,rfl⟩:=hOu.shape;have c0:=(hbel.cell (p:=⟨b,off+k*2,T⟩) hblt).trans c0';have c1:=(hbel.cell (p:=⟨b,off+k*2+1,T⟩) hblt).trans c1';simp only at c0 HAt hOu;have hcm0:=(fun w2 (hb2:X w.heap.size w w2)=>GP _ val vars false w2 (qE hB hb2.size) (HT.out.below hb2 hB) (hOu.below hb2));have HCM:=(show Y _ from hcm0);obtain⟨D,hown,hhas⟩:=HM.out;have hszw:w.heap.size<=wr.heap.size:=hbel.size;have hbA:=hbel.alloc hszw (.cells #[.int Z y,.slice ua val.length uc] 98);generalize val.length=vn at *;clear hx HX HJ HM c0' c1' hOu hcm0
   by_cases hy:y<0\/vars<=y
   .have HR:Y (A2 (sAt vars l) n=2):=HHit.out 2 (HAt.out.1 hy) (by decide);clear HAt HStep HHit HX2 hhas hown HCM;by_cases hy0:y<0;all_goals
     go_wp2;all_goals go_ret
     all_goals rw[HR.out]
     all_goals exact⟨rfl,hbA⟩
   .have hy1:0<=y:=by omega
    have hy2:y<vars:=by omega
    have hwf:(Lit.int .i64 y).wf=true:=WalkArith.wf_i64 (by omega);have hkey:=keyOf_int_mk (P:=qA) bI hwf;have hownA:=hown.alloc (.cells #[.int Z y,W ua vn uc] 98);have hhs:=hhas y;cases hmet:CN l k y with
    |true=>
     have HR:Y (A2 (sAt vars l) n=7):=HHit.out 7 (HAt.out.2.1 hy hmet) (by decide);rw[hmet]at hhs;clear HAt HStep HHit HX2 hhas hown hmet hy HCM;go_wp2_with (at_lookup;refine wpList_lookup_own_ok_int _ rfl _ _ 170 rfl 3 3 .i64 Fr cS bI (De _) w1.heap.size k _ rfl hownA _ _ rfl hkey ?_;intro c hat hwc;rw[hhs])
     go_ret;rw[HR.out];exact⟨rfl,hbA⟩
    |false=>
     rw[hmet]at hhs;have HP:=(show Y _ from fun d=>VD (x:=y) d hown.isMap (by rw[HX2.out]) hhas);have hne:some wr.heap.size≠some w1.heap.size:=by intro h;have:=Option.some.inj h;omega
     have hcs:∀w',(wr.alloc (.cells #[.int Z y,W ua vn uc] 98)).grownBy w' (some w1.heap.size)->w'.cell? ⟨wr.heap.size,1,T⟩=some (W ua vn uc):=fun w' hg=>
      hg.cell (a:=⟨wr.heap.size,1,T⟩) (by simp[go_sem]) hne
     have hszA:w.heap.size<=(wr.alloc (.cells #[.int Z y,W ua vn uc] 98)).heap.size:=by simp;omega
     have hown0:∀q,some w1.heap.size=some q->w.heap.size<=q:=fun q hq=>by obtain rfl:=Option.some.inj hq;omega
     have hkm:k<maxLen:=by unfold maxLen;omega
     have hwk:(Lit.int .i64 (k:Int)).wf=true:=WalkArith.wf_i64 (by omega);have HA2:=(show Y _ from HAt.out.2.2 hy hmet);have hcm0:=HCM.out;have HsA:Y (w1.heap.size<(wr.alloc (.cells #[.int Z y,W ua vn uc] 98)).heap.size):=by show _<_;simp;omega
     obtain⟨x,hx⟩:∃x,kcode vars val false=x:=⟨_,rfl⟩;rw[hx]at hcm0 HA2;clear HAt HX2 hhas hown hmet hy HCM hx;by_cases hx0:x=0
     .subst hx0;have HJ2:=(show Y _ from HStep.out HA2.out);clear HStep HHit HA2;go_wp2_with (first|(at_lookup;refine wpList_lookup_own_ok_int _ rfl _ _ 170 rfl 3 3 .i64 Fr cS bI (De _) w1.heap.size k _ rfl hownA _ _ rfl hkey ?_;intro c hat hwc;rw[hhs])|(at_mapUpdate;refine wpList_mapUpdate_own _ rfl _ _ _ 170 rfl 3 3 Fr cS _ w1.heap.size k _ rfl hownA hkm _ _ _ rfl rfl hkey _ [] (plainElem_int bI hwk) ?_;intro w2 hown1 hgrow1;have d1:=hcs w2 hgrow1;have hb2:=hbA.grown hgrow1 hszA hown0;have HO2:Y (EV w2 w1.heap.size l (k+1)):=⟨_,hown1,HP.out _⟩;clear hown1;have hcm:=hcm0 w2 hb2)|(go_at_call 77;refine hcm.mono ?_;rintro e w3 ⟨rfl,hb3⟩))
      go_roundw
      case rel=>exact⟨k+1,hlt,by go_num,HJ2,HO2.out.later hb3,ae hb2 hb3,qE (qE HsA.out hgrow1.size) hb3.size⟩
      case measure=>simp[intOf];omega
     .have HR:Y (A2 (sAt vars l) n=x):=HHit.out x HA2.out hx0;clear HStep HHit HA2;go_wp2_with (first|(at_lookup;refine wpList_lookup_own_ok_int _ rfl _ _ 170 rfl 3 3 .i64 Fr cS bI (De _) w1.heap.size k _ rfl hownA _ _ rfl hkey ?_;intro c hat hwc;rw[hhs])|(at_mapUpdate;refine wpList_mapUpdate_own _ rfl _ _ _ 170 rfl 3 3 Fr cS _ w1.heap.size k _ rfl hownA hkm _ _ _ rfl rfl hkey _ [] (plainElem_int bI hwk) ?_;intro w2 hown1 hgrow1;have d1:=hcs w2 hgrow1;have hb2:=hbA.grown hgrow1 hszA hown0;have HO2:Y (EV w2 w1.heap.size l (k+1)):=⟨_,hown1,HP.out _⟩;clear hown1;have hcm:=hcm0 w2 hb2)|(go_at_call 77;refine hcm.mono ?_;rintro e w3 ⟨rfl,hb3⟩))
      go_ret;rw[HR.out];exact⟨rfl,ae hb2 hb3⟩
  .have hkn:k=n:=by omega
   have HR:Y (A2 (sAt vars l) n=0):=Da (fun j hj=>HJ.out j (by omega));clear HM;go_wp2;go_ret;rw[HR.out];exact⟨rfl,hbel⟩
theorem Ph(gv sv:Value)(r:Ru)(vars:Int)(w:U)(hv6:vars<=6)(hB:0<w.heap.size)(hT:AF w)(hG:OpsV w gv r.guard)(hS:SetsV w sv r.sets) :
  Calls qA 82 #[.agg #[gv,sv],.int Z vars] w fun e w'=>e=V (.int Z (BH vars r))/\X w.heap.size w w':=by
 unfold BH;by_cases h6:6<r.sets.length
 .rw[aj h6];obtain⟨so,cap,rfl⟩:=hS.shape;exact Pj gv so _ cap vars w h6
 .rw[ak h6];by_cases hk:kcode vars r.guard true=0
  .rw[aj hk];exact Pk gv sv r vars w hv6 hB hT (by omega) hG hS hk
  .rw[ak hk];exact Pi gv sv r vars w hB hT (by omega) hG hS hk
