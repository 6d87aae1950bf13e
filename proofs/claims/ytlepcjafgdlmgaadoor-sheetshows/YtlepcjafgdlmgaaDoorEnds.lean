import Derived.Test.YtlepcjafgdlmgaaDoorPolish
namespace Go.Proofs.YtlepcjafgdlmgaaDoor
open Go.RowKit Go.Deep
open Terms
set_option maxHeartbeats 6400000
set_option maxRecDepth 20000
theorem catch_panicking (s:Nat) (x:Int) (v0 v1:Value) (w:World) (hc0:w.cell? ⟨s,0,none⟩=some v0) (hc1:w.cell? ⟨s+1,0,none⟩=some v1) (hz0:w.frozen? ⟨s,0,none⟩=false) (hz1:w.frozen? ⟨s+1,0,none⟩=false) :
  CallsD Tryd.prog 63 #[.pointer (some ⟨s,0,none⟩),.pointer (some ⟨s+1,0,none⟩)] (.panicking [{ v:=.iface 31 (.int .i64 x),recovered:=false}]) w fun e u' w'=>
   e=.returned (.tuple #[])/\u'=.panicking [{ v:=.iface 31 (.int .i64 x),recovered:=true}]/\w'=((w.setCell ⟨s,0,none⟩ (.slice none 0 0)).setCell ⟨s+1,0,none⟩ (.int .i64 x)).drew:=by
 have hta:∀ w:World,(Instr.typeAssert (.iface 31 (.int .i64 x)) 20 31 false).run Tryd.prog w=.ok (.int .i64 x) w:=fun _=>by kernel_rfl
 refine callsD_of_wpS Tryd.func63 rfl fun c₀ cs hu=>?_
 rw [Tryd.ntmps63]
 show Code.wpS _ _ _ { tmps:=#[.pointer (some ⟨s,0,none⟩),.pointer (some ⟨s+1,0,none⟩),undef,undef,undef,undef,undef,undef],defers:=[]} _ _
 apply wpS_seq
 apply wpS_region
 simp [wpOpsS,go_sem,recoverD,hu,Exit.thenS]
 refine wpS_of_wp ?_
 go_wp2
 go_region
 go_wp2
 simp [bodyPostS,results,Tryd.results63]
theorem catch_idle (s:Nat) (w:World) :
  CallsD Tryd.prog 63 #[.pointer (some ⟨s,0,none⟩),.pointer (some ⟨s+1,0,none⟩)] .returning w fun e u' w'=>
   e=.returned (.tuple #[])/\u'=.returning/\w'=w:=by
 refine callsD_of_wpS Tryd.func63 rfl fun c₀ cs hu=>?_
 rw [Tryd.ntmps63]
 show Code.wpS _ _ _ { tmps:=#[.pointer (some ⟨s,0,none⟩),.pointer (some ⟨s+1,0,none⟩),undef,undef,undef,undef,undef,undef],defers:=[]} _ _
 apply wpS_seq
 apply wpS_region
 simp [wpOpsS,go_sem,recoverD,hu,Exit.thenS]
 refine wpS_of_wp ?_
 go_wp2
 cases c₀
 simp_all [bodyPostS,results,Tryd.results63]
theorem infoInt:(Tryd.prog.info? 3).map (fun i=>(i.zero,i.size,i.bytes))=some (some (.int .i64 0),1,8):=by kernel_rfl
theorem hmakeFunc (fn:Fn) (first cap:Array Value) (w:World):(Instr.makeFunc fn first cap).run Tryd.prog w=.ok (.func fn first cap) w:=rfl
theorem ends_size (ao:Option Addr) (n cap:Nat) (w:World) (hn:60 < n) :
  Calls Tryd.prog 49 #[.slice ao n cap] w fun e w'=>e=.returned (.tuple #[.slice none 0 0,.int .i64 1])/\Below w.heap.size w w':=by
 have hmf:=hmakeFunc
 go_enter_defers Tryd.func49,Tryd.ntmps49
 go_wp2
 refine leaves_cons (f:=63) (args:=#[.pointer (some ⟨w.heap.size,0,none⟩),.pointer (some ⟨w.heap.size+1,0,none⟩)]) (by simp) (by simp [go_sem]) ?_
 refine (catch_idle w.heap.size _).mono ?_
 rintro e u' w'' ⟨rfl,rfl,rfl⟩
 simp [Leaves,settle,results,Tryd.results49,go_sem]
 exact ((Below.refl _ _).alloc (Nat.le_refl _) _).alloc (by simp) _
def endsCode (ks:List Int):Int:=if 60 < ks.length then 1 else match cnt ks 1 with
 | .no x=>x
 | .ok m=>if m < ks.length then 3 else 0
def EndsPost (ks:List Int) (w:World) (e:Ending) (w':World):Prop:=
 Below w.heap.size w w'/\
 (endsCode ks≠0->e=.returned (.tuple #[.slice none 0 0,.int .i64 (endsCode ks)]))/\
 (endsCode ks=0->∃ B,w.heap.size <= B/\e=.returned (.tuple #[.slice (some ⟨B,0,none⟩) ks.length ks.length,.int .i64 0])/\w'.rowIs B 3 ks.length (fun q=>.int .i64 (endAt ks q)))
def laid3 (w:World) (n:Nat):World:=
 ((w.alloc (.cells #[.slice (some ⟨w.heap.size+1+1,0,none⟩) n n] 80)).alloc (.cells #[.int .i64 0] 31)).alloc (.cells (madeCells #[.int .i64 0] n) 3)
theorem laid3_below (w:World) (n:Nat):Below w.heap.size w (laid3 w n):=
 (((Below.refl _ _).alloc (Nat.le_refl _) _).alloc (by simp) _).alloc (by simp;omega) _
theorem laid3_row (w:World) (n:Nat):(laid3 w n).rowIs (w.heap.size+1+1) 3 n (fun _=>.int .i64 0):=by
 have:=World.rowIs_made ((w.alloc (.cells #[.slice (some ⟨w.heap.size+1+1,0,none⟩) n n] 80)).alloc (.cells #[.int .i64 0] 31)) (.int .i64 0) n 3;simpa [laid3] using this
theorem laid3_cells (w:World) (n:Nat) {w':World} (h:Below (w.heap.size+1+1) (laid3 w n) w') :
  w'.cell? ⟨w.heap.size,0,none⟩=some (.slice (some ⟨w.heap.size+1+1,0,none⟩) n n)/\w'.cell? ⟨w.heap.size+1,0,none⟩=some (.int .i64 0)/\
   w'.frozen? ⟨w.heap.size,0,none⟩=false/\w'.frozen? ⟨w.heap.size+1,0,none⟩=false/\w.heap.size+1+1 < w'.heap.size:=by
 have hs:=h.size;refine ⟨?_,?_,?_,?_,?_⟩
 ·rw [h.cell (p:=⟨w.heap.size,0,none⟩) (by simp;omega)];simp [laid3,go_sem]
 ·rw [h.cell (p:=⟨w.heap.size+1,0,none⟩) (by simp)];simp [laid3,go_sem]
 ·rw [h.frozen (p:=⟨w.heap.size,0,none⟩) (by simp;omega)];simp [laid3,go_sem]
 ·rw [h.frozen (p:=⟨w.heap.size+1,0,none⟩) (by simp)];simp [laid3,go_sem]
 ·simp [laid3] at hs;omega
theorem ends_some (b off cap:Nat) (ks:List Int) (w:World) (hn:ks.length <= 60) (hbB:b < w.heap.size) (hB:0 < w.heap.size) (hT:TabAt w) (hK:KindsAt w b off ks) :
  Calls Tryd.prog 49 #[.slice (some ⟨b,off,none⟩) ks.length cap] w (EndsPost ks w):=by
 obtain ⟨n,hks⟩:∃ n,ks.length=n:=⟨_,rfl⟩
 rw [hks] at hn ⊢;have h3:=hT.lt3;have hread:=read_any (w.heap.size+1+1) b off n cap ks hn hks (by omega) (by omega) n 0 (fun _=>.int .i64 0) (laid3 w n) (by omega) (by omega) (hT.below (laid3_below w n) hB) (hK.below (laid3_below w n) hbB) (laid3_row w n)
 have HL:Hid (ks.length=n):=hks;clear hT hK hks;have hmf:=hmakeFunc;have hmk:=run_make_row' (P:=Tryd.prog) 80 3 (.int .i64 0) 8 Tryd.underlying80 infoInt rfl .i64 .i64 n (by omega) (by omega)
 rw [List.drop_zero] at hread
 have HC:Hid (endsCode ks=match cnt ks 1 with
  | .no x=>x
  | .ok m=>if m < n then 3 else 0):=by
  show endsCode ks=_
  unfold endsCode;rw [HL.out,if_neg (by omega)]
 cases hr:cnt ks 1 with
 | no x=>
  rw [hr] at hread HC;have hx:=cnt_err _ _ _ hr;clear hr
  go_enter_defers Tryd.func49,Tryd.ntmps49
  go_wp2_with (go_at_call 64;refine hread.mono ?_;rintro e w2 ⟨rfl,hbel2,g,hrow2⟩)
  obtain ⟨c0,c1,f0,f1,hsz⟩:=laid3_cells w n hbel2;refine leaves_cons (f:=63) (args:=#[.pointer (some ⟨w.heap.size,0,none⟩),.pointer (some ⟨w.heap.size+1,0,none⟩)]) (by simp) (by simp [go_sem]) ?_
  refine (catch_panicking w.heap.size x _ _ w2 c0 c1 f0 f1).mono ?_
  rintro e u' w'' ⟨rfl,rfl,rfl⟩
  have hne:endsCode ks≠0:=by rw [HC.out];show x≠0;omega
  simp [Leaves,settle,results,Tryd.results49,go_sem,c0,c1]
  have hb:=(laid3_below w n).trans (hbel2.mono (B':=w.heap.size) (by omega))
  refine ⟨(((hb.setCell (p:=⟨w.heap.size,0,none⟩) (Nat.le_refl _) _).setCell (p:=⟨w.heap.size+1,0,none⟩) (by simp) _)).drew,fun _=>by rw [HC.out],fun h=>absurd h hne⟩
 | ok m=>
  rw [hr] at hread HC;have hr':Hid (cnt ks 1=.ok m):=hr;clear hr
  by_cases hm:m < n
  ·have hne:endsCode ks≠0:=by rw [HC.out];simp [hm]
   go_enter_defers Tryd.func49,Tryd.ntmps49
   go_wp2_with (go_at_call 64;refine hread.mono ?_;rintro e w2 ⟨rfl,hbel2,hrow2⟩;obtain ⟨c0,c1,f0,f1,hsz⟩:=laid3_cells w n hbel2)
   refine leaves_cons (f:=63) (args:=#[.pointer (some ⟨w.heap.size,0,none⟩),.pointer (some ⟨w.heap.size+1,0,none⟩)]) (by simp) (by simp [go_sem]) ?_
   refine (catch_idle w.heap.size _).mono ?_
   rintro e u' w'' ⟨rfl,rfl,rfl⟩
   have hb:=(laid3_below w n).trans (hbel2.mono (B':=w.heap.size) (by omega))
   simp [Leaves,settle,results,Tryd.results49,go_sem,c0,c1]
   refine ⟨(hb.setCell (p:=⟨w.heap.size,0,none⟩) (Nat.le_refl _) _).setCell (p:=⟨w.heap.size+1,0,none⟩) (by simp) _,fun _=>by rw [HC.out];simp [hm],fun h=>absurd h hne⟩
  ·have he:endsCode ks=0:=by rw [HC.out];simp [hm]
   have hmn:m=n:=by have:=(cnt_le _ _ _ hr'.out).2;rw [HL.out] at this;omega
   subst hmn;clear hr' hm
   go_enter_defers Tryd.func49,Tryd.ntmps49
   go_wp2_with (go_at_call 64;refine hread.mono ?_;rintro e w2 ⟨rfl,hbel2,hrow2⟩;obtain ⟨c0,c1,f0,f1,hsz⟩:=laid3_cells w m hbel2)
   refine leaves_cons (f:=63) (args:=#[.pointer (some ⟨w.heap.size,0,none⟩),.pointer (some ⟨w.heap.size+1,0,none⟩)]) (by simp) (by simp [go_sem]) ?_
   refine (catch_idle w.heap.size _).mono ?_
   rintro e u' w'' ⟨rfl,rfl,rfl⟩
   have hb:=(laid3_below w m).trans (hbel2.mono (B':=w.heap.size) (by omega))
   simp [Leaves,settle,results,Tryd.results49,go_sem,c0,c1]
   refine ⟨(hb.setCell (p:=⟨w.heap.size,0,none⟩) (Nat.le_refl _) _).setCell (p:=⟨w.heap.size+1,0,none⟩) (by simp) _,fun h=>absurd he h,fun _=>⟨w.heap.size+1+1,by omega,by rw [HL.out],?_⟩⟩
   rw [HL.out];refine ((hrow2.congr fun i hi=>?_).setOther (by simp;omega) _).setOther (by simp) _
   rw [if_pos (by omega)]
theorem ends_none (ao:Option Addr) (n cap:Nat) (HN:Hid (n=0)) (h60:n <= 60) (w:World) :
  Calls Tryd.prog 49 #[.slice ao n cap] w (EndsPost [] w):=by
 have hread:=read_past ao n cap 0 (.slice (some ⟨w.heap.size+1+1,0,none⟩) n n) (laid3 w n) (by rw [HN.out];omega) |>.mono (R':=fun e w'=>e=.panicked [{ v:=.iface 31 (.int .i64 4),recovered:=false}]/\Below (w.heap.size+1+1) (laid3 w n) w') fun e w' ⟨he,hw⟩=>⟨he,hw ▸ Below.refl _ _⟩
 have hmf:=hmakeFunc;have hmk:=run_make_row' (P:=Tryd.prog) 80 3 (.int .i64 0) 8 Tryd.underlying80 infoInt rfl .i64 .i64 n (by omega) (by omega)
 go_enter_defers Tryd.func49,Tryd.ntmps49
 go_wp2_with (go_at_call 64;refine hread.mono ?_;rintro e w2 ⟨rfl,hbel2⟩)
 obtain ⟨c0,c1,f0,f1,hsz⟩:=laid3_cells w n hbel2;refine leaves_cons (f:=63) (args:=#[.pointer (some ⟨w.heap.size,0,none⟩),.pointer (some ⟨w.heap.size+1,0,none⟩)]) (by simp) (by simp [go_sem]) ?_
 refine (catch_panicking w.heap.size 4 _ _ w2 c0 c1 f0 f1).mono ?_
 rintro e u' w'' ⟨rfl,rfl,rfl⟩
 have hb:=(laid3_below w n).trans (hbel2.mono (B':=w.heap.size) (by omega))
 simp [Leaves,settle,results,Tryd.results49,go_sem,c0,c1]
 refine ⟨(((hb.setCell (p:=⟨w.heap.size,0,none⟩) (Nat.le_refl _) _).setCell (p:=⟨w.heap.size+1,0,none⟩) (by simp) _)).drew,fun _=>rfl,fun h=>absurd h (by decide)⟩
def Kinds (w:World) (v:Value) (ks:List Int):Prop:=∃ ao cap,v=.slice ao ks.length cap/\(ks≠[]->∃ b off,ao=some ⟨b,off,none⟩/\b < w.heap.size/\KindsAt w b off ks)
theorem Kinds.below {w w':World} {v:Value} {ks:List Int} (h:Kinds w v ks) (hb:Below w.heap.size w w'):Kinds w' v ks:=by
 obtain ⟨ao,cap,rfl,h⟩:=h;refine ⟨ao,cap,rfl,fun hne=>?_⟩
 obtain ⟨b,off,rfl,hlt,hk⟩:=h hne;exact ⟨b,off,rfl,Nat.lt_of_lt_of_le hlt hb.size,hk.below hb hlt⟩
theorem ends_any (v:Value) (ks:List Int) (w:World) (hB:0 < w.heap.size) (hT:TabAt w) (hK:Kinds w v ks) :
  Calls Tryd.prog 49 #[v] w (EndsPost ks w):=by
 obtain ⟨ao,cap,rfl,hk⟩:=hK
 by_cases h60:60 < ks.length
 ·have hc:endsCode ks=1:=by unfold endsCode;rw [if_pos h60]
  exact (ends_size ao _ cap w h60).mono fun e w' ⟨he,hb⟩=>⟨hb,fun _=>by rw [hc];exact he,fun h=>by rw [hc] at h;omega⟩
 ·by_cases hne:ks=[]
  ·subst hne
   exact ends_none ao 0 cap rfl (by omega) w
  ·obtain ⟨b,off,rfl,hlt,hK⟩:=hk hne
   exact ends_some b off cap ks w (by omega) hlt hB hT hK
