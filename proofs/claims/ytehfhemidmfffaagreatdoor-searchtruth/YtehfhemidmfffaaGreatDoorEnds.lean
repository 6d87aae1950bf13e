import Derived.Test.YtehfhemidmfffaaGreatDoorPolish
open Go renaming World→W
open Go.Ending renaming returned→S
open Go.IntKind renaming i64→U
open Go.Value renaming slice→T,pointer→Y,int→V
open _root_.Bool renaming false→Q
open _root_.Option renaming none→Z,some→X
namespace Go.Proofs.YtehfhemidmfffaaGreatDoor
open Go.RowKit.Below renaming refl→qD
open _root_.Nat renaming le_refl→qB
open Go.Proofs.Tryz renaming prog→qA
open Go.RowKit Go.Deep
open Terms
open Go.Proofs.Tryz renaming func110→ax,func78→ay,ntmps110→az,ntmps78→aA,results110→aB,results78→aC,underlying43→aD
open Go.Addr renaming mk→O
set_option maxHeartbeats 6400000
set_option maxRecDepth 20000
theorem Kv(s:Nat)(x:Int)(v0 v1:Value)(w:W)(hc0:w.cell? (O s 0 Z)=X v0)(hc1:w.cell? ⟨s+1,0,Z⟩=X v1)(hz0:w.frozen? (O s 0 Z)=Q)(hz1:w.frozen? ⟨s+1,0,Z⟩=Q) :
  CallsD qA 110 #[Y (X (O s 0 Z)),Y (X ⟨s+1,0,Z⟩)] (.panicking [{ v:=.iface 46 (V U x),recovered:=Q}]) w fun e u' w'=>
   e=S (.tuple #[])/\u'=.panicking [{ v:=.iface 46 (V U x),recovered:=true}]/\w'=((w.setCell (O s 0 Z) (T Z 0 0)).setCell ⟨s+1,0,Z⟩ (V U x)).drew:=by
 have hta:∀w:W,(Instr.typeAssert (.iface 46 (V U x)) 20 46 Q).run qA w=.ok (V U x) w:=fun _=>by kernel_rfl
 refine callsD_of_wpS ax rfl fun c₀ cs hu=>?_;rw[az];show Code.wpS _ _ _ { tmps:=#[Y (X (O s 0 Z)),Y (X ⟨s+1,0,Z⟩),undef,undef,undef,undef,undef,undef],defers:=[]} _ _;apply wpS_seq;apply wpS_region;simp[wpOpsS,go_sem,recoverD,hu,Exit.thenS];refine wpS_of_wp ?_;go_wp2;go_region
 go_wp2;simp[bodyPostS,results,aB]
theorem Ih(s:Nat)(w:W) :
  CallsD qA 110 #[Y (X (O s 0 Z)),Y (X ⟨s+1,0,Z⟩)] .returning w fun e u' w'=>
   e=S (.tuple #[])/\u'=.returning/\w'=w:=by
 refine callsD_of_wpS ax rfl fun c₀ cs hu=>?_;rw[az];show Code.wpS _ _ _ { tmps:=#[Y (X (O s 0 Z)),Y (X ⟨s+1,0,Z⟩),undef,undef,undef,undef,undef,undef],defers:=[]} _ _;apply wpS_seq;apply wpS_region;simp[wpOpsS,go_sem,recoverD,hu,Exit.thenS];refine wpS_of_wp ?_;go_wp2;cases c₀
 simp_all[bodyPostS,results,aB]
theorem BS:(qA.info? 3).map (fun i=>(i.zero,i.size,i.bytes))=X (X (V U 0),1,8):=by kernel_rfl
theorem Fm(fn:Fn)(first cap:Array Value)(w:W):(Instr.makeFunc fn first cap).run qA w=.ok (.func fn first cap) w:=rfl
theorem QE(ao:Option Addr)(n cap:Nat)(w:W)(hn:60<n) :
  Calls qA 78 #[T ao n cap] w fun e w'=>e=S (.tuple #[T Z 0 0,V U 1])/\Below w.heap.size w w':=by
 have hmf:=Fm;go_enter_defers ay,aA;go_wp2;refine leaves_cons (f:=110) (args:=#[Y (X (O w.heap.size 0 Z)),Y (X ⟨w.heap.size+1,0,Z⟩)]) (by simp) (by simp[go_sem]) ?_;refine(Ih w.heap.size _).mono ?_;rintro e u' w'' ⟨rfl,rfl,rfl⟩;simp[Leaves,settle,results,aC,go_sem];exact((qD _ _).alloc (qB _) _).alloc (by simp) _
def AU(ks:List Int):Int:=if 60<ks.length then 1 else match cnt ks 1 with
 | .no x=>x
 | .ok m=>if m<ks.length then 3 else 0
def II(ks:List Int)(w:W)(e:Ending)(w':W):Prop:=
 Below w.heap.size w w'/\
 (AU ks≠0->e=S (.tuple #[T Z 0 0,V U (AU ks)]))/\
 (AU ks=0->∃B,w.heap.size<=B/\e=S (.tuple #[T (X (O B 0 Z)) ks.length ks.length,V U 0])/\w'.rowIs B 3 ks.length (fun q=>V U (An ks q)))
def C7(w:W)(n:Nat):World:=
 ((w.alloc (.cells #[T (X ⟨w.heap.size+1+1,0,Z⟩) n n] 43)).alloc (.cells #[V U 0] 46)).alloc (.cells (madeCells #[V U 0] n) 3)
theorem FC(w:W)(n:Nat):Below w.heap.size w (C7 w n):=
 (((qD _ _).alloc (qB _) _).alloc (by simp) _).alloc (by simp;omega) _
theorem Rv(w:W)(n:Nat):(C7 w n).rowIs (w.heap.size+1+1) 3 n (fun _=>V U 0):=by
 have:=World.rowIs_made ((w.alloc (.cells #[T (X ⟨w.heap.size+1+1,0,Z⟩) n n] 43)).alloc (.cells #[V U 0] 46)) (V U 0) n 3;simpa[C7]using this
theorem Gx(w:W)(n:Nat){w':W}(h:Below (w.heap.size+1+1) (C7 w n) w') :
  w'.cell? (O w.heap.size 0 Z)=X (T (X ⟨w.heap.size+1+1,0,Z⟩) n n)/\w'.cell? ⟨w.heap.size+1,0,Z⟩=X (V U 0)/\
   w'.frozen? (O w.heap.size 0 Z)=Q/\w'.frozen? ⟨w.heap.size+1,0,Z⟩=Q/\w.heap.size+1+1<w'.heap.size:=by
 have hs:=h.size;refine⟨?_,?_,?_,?_,?_⟩
 .rw[h.cell (p:=(O w.heap.size 0 Z)) (by simp;omega)];simp[C7,go_sem]
 .rw[h.cell (p:=⟨w.heap.size+1,0,Z⟩) (by simp)];simp[C7,go_sem]
 .rw[h.frozen (p:=(O w.heap.size 0 Z)) (by simp;omega)];simp[C7,go_sem]
 .rw[h.frozen (p:=⟨w.heap.size+1,0,Z⟩) (by simp)];simp[C7,go_sem]
 .simp[C7]at hs;omega
theorem QF(b off cap:Nat)(ks:List Int)(w:W)(hn:ks.length<=60)(hbB:b<w.heap.size)(hB:0<w.heap.size)(hT:AF w)(hK:ES w b off ks) :
  Calls qA 78 #[T (X (O b off Z)) ks.length cap] w (II ks w):=by
 obtain⟨n,hks⟩:∃n,ks.length=n:=⟨_,rfl⟩;rw[hks]at hn⊢;have hread:=UL (w.heap.size+1+1) b off n cap ks hn hks (by omega) (by omega) n 0 (fun _=>V U 0) (C7 w n) (by omega) (by omega) (hT.below (FC w n) hB) (hK.below (FC w n) hbB) (Rv w n);have HL:Hid (ks.length=n):=hks;clear hT hK hks;have hmf:=Fm;have hmk:=run_make_row' (P:=qA) 43 3 (V U 0) 8 aD BS rfl .i64 .i64 n (by omega) (by omega);rw[List.drop_zero]at hread;have HC:Hid (AU ks=match cnt ks 1 with
  | .no x=>x
  | .ok m=>if m<n then 3 else 0):=by
  show AU ks=_;unfold AU;rw[HL.out,if_neg (by omega)]
 cases hr:cnt ks 1 with
 |no x=>
  rw[hr]at hread HC;have hx:=K2 _ _ _ hr;clear hr;go_enter_defers ay,aA;go_wp2_with (go_at_call 111;refine hread.mono ?_;rintro e w2 ⟨rfl,hbel2,g,hrow2⟩)
  obtain⟨c0,c1,f0,f1,hsz⟩:=Gx w n hbel2;refine leaves_cons (f:=110) (args:=#[Y (X (O w.heap.size 0 Z)),Y (X ⟨w.heap.size+1,0,Z⟩)]) (by simp) (by simp[go_sem]) ?_;refine(Kv w.heap.size x _ _ w2 c0 c1 f0 f1).mono ?_;rintro e u' w'' ⟨rfl,rfl,rfl⟩;have hne:AU ks≠0:=by rw[HC.out];show x≠0;omega
  simp[Leaves,settle,results,aC,go_sem,c0,c1];have hb:=(FC w n).trans (hbel2.mono (B':=w.heap.size) (by omega));refine⟨(((hb.setCell (p:=(O w.heap.size 0 Z)) (qB _) _).setCell (p:=⟨w.heap.size+1,0,Z⟩) (by simp) _)).drew,fun _=>by rw[HC.out],fun h=>absurd h hne⟩
 |ok m=>
  rw[hr]at hread HC;have hr':Hid (cnt ks 1=.ok m):=hr;clear hr;by_cases hm:m<n
  .have hne:AU ks≠0:=by rw[HC.out];simp[hm]
   go_enter_defers ay,aA;go_wp2_with (go_at_call 111;refine hread.mono ?_;rintro e w2 ⟨rfl,hbel2,hrow2⟩;obtain⟨c0,c1,f0,f1,hsz⟩:=Gx w n hbel2)
   refine leaves_cons (f:=110) (args:=#[Y (X (O w.heap.size 0 Z)),Y (X ⟨w.heap.size+1,0,Z⟩)]) (by simp) (by simp[go_sem]) ?_;refine(Ih w.heap.size _).mono ?_;rintro e u' w'' ⟨rfl,rfl,rfl⟩;have hb:=(FC w n).trans (hbel2.mono (B':=w.heap.size) (by omega));simp[Leaves,settle,results,aC,go_sem,c0,c1];refine⟨(hb.setCell (p:=(O w.heap.size 0 Z)) (qB _) _).setCell (p:=⟨w.heap.size+1,0,Z⟩) (by simp) _,fun _=>by rw[HC.out];simp[hm],fun h=>absurd h hne⟩
  .have he:AU ks=0:=by rw[HC.out];simp[hm]
   have hmn:m=n:=by have:=(DK _ _ _ hr'.out).2;rw[HL.out]at this;omega
   subst hmn;clear hr' hm;go_enter_defers ay,aA;go_wp2_with (go_at_call 111;refine hread.mono ?_;rintro e w2 ⟨rfl,hbel2,hrow2⟩;obtain⟨c0,c1,f0,f1,hsz⟩:=Gx w m hbel2)
   refine leaves_cons (f:=110) (args:=#[Y (X (O w.heap.size 0 Z)),Y (X ⟨w.heap.size+1,0,Z⟩)]) (by simp) (by simp[go_sem]) ?_;refine(Ih w.heap.size _).mono ?_;rintro e u' w'' ⟨rfl,rfl,rfl⟩;have hb:=(FC w m).trans (hbel2.mono (B':=w.heap.size) (by omega));simp[Leaves,settle,results,aC,go_sem,c0,c1];refine⟨(hb.setCell (p:=(O w.heap.size 0 Z)) (qB _) _).setCell (p:=⟨w.heap.size+1,0,Z⟩) (by simp) _,fun h=>absurd he h,fun _=>⟨w.heap.size+1+1,by omega,by rw[HL.out],?_⟩⟩;rw[HL.out];refine((hrow2.congr fun i hi=>?_).setOther (by simp;omega) _).setOther (by simp) _;rw[if_pos (by omega)]
theorem QD(ao:Option Addr)(n cap:Nat)(HN:Hid (n=0))(h60:n<=60)(w:W) :
  Calls qA 78 #[T ao n cap] w (II [] w):=by
 have hread:=Jp ao n cap 0 (T (X ⟨w.heap.size+1+1,0,Z⟩) n n) (C7 w n) (by rw[HN.out];omega) |>.mono (R':=fun e w'=>e=.panicked [{ v:=.iface 46 (V U 4),recovered:=Q}]/\Below (w.heap.size+1+1) (C7 w n) w') fun e w' ⟨he,hw⟩=>⟨he,hw▸qD _ _⟩;have hmf:=Fm;have hmk:=run_make_row' (P:=qA) 43 3 (V U 0) 8 aD BS rfl .i64 .i64 n (by omega) (by omega);go_enter_defers ay,aA;go_wp2_with (go_at_call 111;refine hread.mono ?_;rintro e w2 ⟨rfl,hbel2⟩)
 obtain⟨c0,c1,f0,f1,hsz⟩:=Gx w n hbel2;refine leaves_cons (f:=110) (args:=#[Y (X (O w.heap.size 0 Z)),Y (X ⟨w.heap.size+1,0,Z⟩)]) (by simp) (by simp[go_sem]) ?_;refine(Kv w.heap.size 4 _ _ w2 c0 c1 f0 f1).mono ?_;rintro e u' w'' ⟨rfl,rfl,rfl⟩;have hb:=(FC w n).trans (hbel2.mono (B':=w.heap.size) (by omega));simp[Leaves,settle,results,aC,go_sem,c0,c1];refine⟨(((hb.setCell (p:=(O w.heap.size 0 Z)) (qB _) _).setCell (p:=⟨w.heap.size+1,0,Z⟩) (by simp) _)).drew,fun _=>rfl,fun h=>absurd h (by decide)⟩
def DW(w:W)(v:Value)(ks:List Int):Prop:=∃ao cap,v=T ao ks.length cap/\(ks≠[]->∃b off,ao=X (O b off Z)/\b<w.heap.size/\ES w b off ks)
theorem DW.below{w w':W}{v:Value}{ks:List Int}(h:DW w v ks)(hb:Below w.heap.size w w'):DW w' v ks:=by
 obtain⟨ao,cap,rfl,h⟩:=h;refine⟨ao,cap,rfl,fun hne=>?_⟩;obtain⟨b,off,rfl,hlt,hk⟩:=h hne;exact⟨b,off,rfl,Nat.lt_of_lt_of_le hlt hb.size,hk.below hb hlt⟩
theorem GU(v:Value)(ks:List Int)(w:W)(hB:0<w.heap.size)(hT:AF w)(hK:DW w v ks) :
  Calls qA 78 #[v] w (II ks w):=by
 obtain⟨ao,cap,rfl,hk⟩:=hK;by_cases h60:60<ks.length
 .have hc:AU ks=1:=by unfold AU;rw[if_pos h60]
  exact(QE ao _ cap w h60).mono fun e w' ⟨he,hb⟩=>⟨hb,fun _=>by rw[hc];exact he,fun h=>by rw[hc]at h;omega⟩
 .by_cases hne:ks=[]
  .subst hne;exact QD ao 0 cap rfl (by omega) w
  .obtain ⟨b,off,rfl,hlt,hK⟩:=hk hne;exact QF b off cap ks w (by omega) hlt hB hT hK
