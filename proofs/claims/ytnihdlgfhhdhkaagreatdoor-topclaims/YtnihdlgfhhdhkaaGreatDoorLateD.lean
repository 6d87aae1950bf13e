/- Joined texts. -/
import Derived.Test.YtnihdlgfhhdhkaaGreatDoorLateC
import Derived.Deep.RegionHeld2
import Derived.Ground.Names2Prog
import Derived.Shelf.Slices.Clone
import Derived.Lib.OwnBridge
import Derived.Laws.OwnMore
import Derived.Shelf.Sort.Plain
import Derived.Shelf.Slices.CompactI
import Derived.Shelf.Slices.SearchI
import Derived.Shelf.Slices.In.SortNone
import Derived.Sort.OwnSortedInts
import Derived.Lib.RowBridge
namespace Go.Proofs.YtnihdlgfhhdhkaaGreatDoor
open Go.ChangeShapes Go.WideShapes Go.ChangeAt Go.RowKit Go.Deep
open Terms Tm
set_option maxHeartbeats 6400000
set_option maxRecDepth 20000
structure WorkAt (w:World) (b off B:Nat) (eao:Option Addr) (M:Nat) (t:Tm) (env:List Int):Prop where
 ob:b < w.heap.size
 ops:zAu w b off t.ops
 ends : w.rowIs B 3 t.size (fun q => .int .i64 (zAa (t.ops.map Prod.fst) q))
 env:∀ i,i < env.length->∃ eb eoff,eao=some ⟨eb,eoff,none⟩/\eb < w.heap.size/\w.cell? ⟨eb,eoff+i,none⟩=some (.int .i64 (env.getD i 0))
 pairs:zCs w M
theorem WorkAt.later {w w':World} {b off B:Nat} {eao:Option Addr} {M:Nat} {t:Tm} {env:List Int} (h:WorkAt w b off B eao M t env) (hb:Below w.heap.size w w'):WorkAt w' b off B eao M t env:=by
 obtain ⟨h1,h2,h3,h4,h5⟩:=h;refine ⟨Nat.lt_of_lt_of_le h1 hb.size,h2.below hb h1,h3.of_block (hb.block B h3.lt),fun i hi=>?_,h5.later hb⟩
 obtain ⟨eb,eoff,e1,e2,e3⟩:=h4 i hi;exact ⟨eb,eoff,e1,Nat.lt_of_lt_of_le e2 hb.size,(hb.cell (p:=⟨eb,eoff+i,none⟩) e2).trans e3⟩
def zAw (r:Option Int) (w:World) (e:Ending) (w':World):Prop:=
 Below w.heap.size w w'/\match r with
  | some x=>e=.returned (.int .i64 x)
  | none=>e=.panicked [{ v:=.iface 45 (.int .i64 8),recovered:=false}]
abbrev workV (b off n cap B:Nat) (eao:Option Addr) (en ecap M:Nat):Value:=.agg #[.slice (some ⟨b,off,none⟩) n cap,.slice (some ⟨B,0,none⟩) n n,.slice eao en ecap,.map (some M)]
theorem zPP (b off n cap B:Nat) (eao:Option Addr) (en ecap M place:Nat) (x:Int) (w:World) (hob:b < w.heap.size) (hp:place < n) (c0:w.cell? ⟨b,off+place*2,none⟩=some (.int .i64 1)) (c1:w.cell? ⟨b,off+place*2+1,none⟩=some (.int .i64 x)) :
  Calls Tryz.prog 77 #[workV b off n cap B eao en ecap M,.int .i64 place] w (zAw (some x) w):=by
 have hne:¬ b=w.heap.size:=by omega
 go_enter Tryz.func77,Tryz.ntmps77
 go_wp2_with fail
 go_ret
 exact ⟨((Below.refl _ _).alloc (Nat.le_refl _) _).alloc (by simp) _,rfl⟩
theorem zPQ (b off n cap B eb eoff en ecap M place j:Nat) (x:Int) (w:World) (hob:b < w.heap.size) (hp:place < n) (hj:j < en) (c0:w.cell? ⟨b,off+place*2,none⟩=some (.int .i64 2)) (c1:w.cell? ⟨b,off+place*2+1,none⟩=some (.int .i64 j)) (hbl:eb < w.heap.size) (c2:w.cell? ⟨eb,eoff+j,none⟩=some (.int .i64 x)) :
  Calls Tryz.prog 77 #[workV b off n cap B (some ⟨eb,eoff,none⟩) en ecap M,.int .i64 place] w (zAw (some x) w):=by
 have hne:¬ b=w.heap.size:=by omega
 go_enter Tryz.func77,Tryz.ntmps77
 go_wp2_with fail
 go_ret
 exact ⟨((Below.refl _ _).alloc (Nat.le_refl _) _).alloc (by simp) _,rfl⟩
theorem zPT (b off n cap B:Nat) (eao:Option Addr) (en ecap M place:Nat) (k:Int) (hk:k=11\/k=12) (w:World) (hob:b < w.heap.size) (hp:place < n) (c0:w.cell? ⟨b,off+place*2,none⟩=some (.int .i64 k)) (c1:w.cell? ⟨b,off+place*2+1,none⟩=some (.int .i64 0)) :
  Calls Tryz.prog 77 #[workV b off n cap B eao en ecap M,.int .i64 place] w (zAw (some (if k=11 then 1 else 0)) w):=by
 rcases hk with rfl | rfl
 ·rw [if_pos rfl]
  have hne:¬ b=w.heap.size:=by omega
  go_enter Tryz.func77,Tryz.ntmps77
  go_wp2_with fail
  go_ret
  exact ⟨((Below.refl _ _).alloc (Nat.le_refl _) _).alloc (by simp) _,rfl⟩
 ·rw [if_neg (by decide)]
  have hne:¬ b=w.heap.size:=by omega
  go_enter Tryz.func77,Tryz.ntmps77
  go_wp2_with fail
  go_ret
  exact ⟨((Below.refl _ _).alloc (Nat.le_refl _) _).alloc (by simp) _,rfl⟩
theorem zPc (b off n cap B:Nat) (eao:Option Addr) (en ecap M place:Nat) (r:Option Int) (w:World) (hob:b < w.heap.size) (hp:place < n) (h60:n <= 60) (c0:w.cell? ⟨b,off+place*2,none⟩=some (.int .i64 10)) (c1:w.cell? ⟨b,off+place*2+1,none⟩=some (.int .i64 0))
  (hr:∀ x,r=some x->-1000000 <= x/\x <= 1000000)
  (hrec:∀ w',Below w.heap.size w w'->Calls Tryz.prog 77 #[workV b off n cap B eao en ecap M,.int .i64 ((place:Int)+1)] w' (zAw r w')) :
  Calls Tryz.prog 77 #[workV b off n cap B eao en ecap M,.int .i64 place] w (zAw (r.map (1 - ·)) w):=by
 have hne:¬ b=w.heap.size:=by omega
 have hb2:Below w.heap.size w ((w.alloc (.cells #[.slice (some ⟨b,off,none⟩) n cap,.slice (some ⟨B,0,none⟩) n n,.slice eao en ecap,.map (some M)] 168)).alloc (.cells #[.int .i64 10,.int .i64 0] 106)):=((Below.refl _ _).alloc (Nat.le_refl _) _).alloc (by simp) _
 have hrec':=hrec _ hb2;have HB2:=(show Hid _ from hb2)
 clear hrec hb2
 cases r with
 | none=>
  go_enter Tryz.func77,Tryz.ntmps77
  go_wp2_with (go_at_call 77;refine hrec'.mono ?_;rintro e w1 ⟨hb1,rfl⟩)
  exact ⟨rfl,HB2.out.trans (hb1.mono HB2.out.size),rfl⟩
 | some x=>
  obtain ⟨hx1,hx2⟩:=hr x rfl;clear hr
  go_enter Tryz.func77,Tryz.ntmps77
  go_wp2_with (go_at_call 77;refine hrec'.mono ?_;rintro e w1 ⟨hb1,rfl⟩)
  go_ret
  exact ⟨HB2.out.trans (hb1.mono HB2.out.size),rfl⟩
attribute [local go_sem ↓] Go.wp_at_zero Go.wp_at_succ
theorem zJG (k:Int) (h3:3 <= k) (h9:k <= 9) (args:Array Value) (w:World):(callFunc (zCv k) args).run Tryz.prog w=.ok (.enter (zCv k) args) w:=by
 have hk:k=3\/k=4\/k=5\/k=6\/k=7\/k=8\/k=9:=by omega
 rcases hk with rfl | rfl | rfl | rfl | rfl | rfl | rfl
 ·show (callFunc 113 args).run Tryz.prog w=.ok (.enter 113 args) w;simp [go_sem]
 ·show (callFunc 114 args).run Tryz.prog w=.ok (.enter 114 args) w;simp [go_sem]
 ·show (callFunc 115 args).run Tryz.prog w=.ok (.enter 115 args) w;simp [go_sem]
 ·show (callFunc 116 args).run Tryz.prog w=.ok (.enter 116 args) w;simp [go_sem]
 ·show (callFunc 118 args).run Tryz.prog w=.ok (.enter 118 args) w;simp [go_sem]
 ·show (callFunc 119 args).run Tryz.prog w=.ok (.enter 119 args) w;simp [go_sem]
 ·show (callFunc 120 args).run Tryz.prog w=.ok (.enter 120 args) w;simp [go_sem]
theorem zEX {x:Int} (h1:0 <= x) (h2:x <= 1000):IntKind.i64.wrap x=x:=by
 simp [IntKind.wrap,IntKind.bits,IntKind.signed];omega
theorem zPp (b off n cap B:Nat) (eao:Option Addr) (en ecap M place E1 F:Nat) (k x y z:Int) (w:World) (hob:b < w.heap.size) (hBB:B < w.heap.size) (hp:place+1 < n) (P1:Nat) (hP1:P1=place+1) (h60:n <= 60) (hk3:3 <= k) (hk9:k <= 9) (c0:w.cell? ⟨b,off+place*2,none⟩=some (.int .i64 k)) (c1:w.cell? ⟨b,off+place*2+1,none⟩=some (.int .i64 0)) (cE:w.cell? ⟨B,P1,none⟩=some (.int .i64 E1))
  (hlook:∀ w',Below w.heap.size w w'->(Instr.lookup 165 (.map (some M)) (.int .i64 k) false).run Tryz.prog w'=.ok (.func (.func F) #[] #[]) w')
  (hent:∀ args w,(callFunc F args).run Tryz.prog w=.ok (.enter F args) w)
  (hpair:∀ w',Calls Tryz.prog F #[.int .i64 x,.int .i64 y] w' fun e w''=>e=.returned (.int .i64 z)/\w''=w')
  (hra:∀ w',Below w.heap.size w w'->Calls Tryz.prog 77 #[workV b off n cap B eao en ecap M,.int .i64 P1] w' (zAw (some x) w'))
  (hrb:∀ w',Below w.heap.size w w'->Calls Tryz.prog 77 #[workV b off n cap B eao en ecap M,.int .i64 E1] w' (zAw (some y) w')) :
  Calls Tryz.prog 77 #[workV b off n cap B eao en ecap M,.int .i64 place] w (zAw (lid z) w):=by
 have hne:¬ b=w.heap.size:=by omega
 have hneB:¬ B=w.heap.size:=by omega
 have e1:¬ k=1:=by omega
 have e2:¬ k=2:=by omega
 have e3:¬ k=10:=by omega
 have e4:¬ k=11:=by omega
 have e5:¬ k=12:=by omega
 obtain ⟨W2,hW2⟩:∃ W2,W2=((w.alloc (.cells #[.slice (some ⟨b,off,none⟩) n cap,.slice (some ⟨B,0,none⟩) n n,.slice eao en ecap,.map (some M)] 168)).alloc (.cells #[.int .i64 k,.int .i64 0] 106)):=⟨_,rfl⟩
 have hb2:Below w.heap.size w W2:=by rw [hW2];exact ((Below.refl _ _).alloc (Nat.le_refl _) _).alloc (by simp) _
 have hsz:W2.heap.size=w.heap.size+1+1:=by rw [hW2];simp
 have d0:W2.cell? ⟨w.heap.size,0,none⟩=some (.slice (some ⟨b,off,none⟩) n cap):=by rw [hW2];simp [go_sem]
 have d1:W2.cell? ⟨w.heap.size,1,none⟩=some (.slice (some ⟨B,0,none⟩) n n):=by rw [hW2];simp [go_sem]
 have d2:W2.cell? ⟨w.heap.size,2,none⟩=some (.slice eao en ecap):=by rw [hW2];simp [go_sem]
 have d3:W2.cell? ⟨w.heap.size,3,none⟩=some (.map (some M)):=by rw [hW2];simp [go_sem]
 have d4:W2.cell? ⟨w.heap.size+1,0,none⟩=some (.int .i64 k):=by rw [hW2];simp [go_sem]
 have d5:W2.cell? ⟨B,P1,none⟩=some (.int .i64 E1):=(hb2.cell (p:=⟨B,P1,none⟩) hBB).trans cE;have HW2:=(show Hid _ from hW2)
 have hS:∀ w',Below W2.heap.size W2 w'->w'.cell? ⟨w.heap.size,0,none⟩=some (.slice (some ⟨b,off,none⟩) n cap)/\w'.cell? ⟨w.heap.size,1,none⟩=some (.slice (some ⟨B,0,none⟩) n n)/\w'.cell? ⟨w.heap.size,2,none⟩=some (.slice eao en ecap)/\w'.cell? ⟨w.heap.size,3,none⟩=some (.map (some M))/\w'.cell? ⟨w.heap.size+1,0,none⟩=some (.int .i64 k)/\w'.cell? ⟨B,P1,none⟩=some (.int .i64 E1)/\(Instr.lookup 165 (.map (some M)) (.int .i64 k) false).run Tryz.prog w'=.ok (.func (.func F) #[] #[]) w':=fun w' hw'=>
  ⟨(hw'.cell (p:=⟨w.heap.size,0,none⟩) (by simp only;omega)).trans d0,(hw'.cell (p:=⟨w.heap.size,1,none⟩) (by simp only;omega)).trans d1,(hw'.cell (p:=⟨w.heap.size,2,none⟩) (by simp only;omega)).trans d2,(hw'.cell (p:=⟨w.heap.size,3,none⟩) (by simp only;omega)).trans d3,(hw'.cell (p:=⟨w.heap.size+1,0,none⟩) (by simp only;omega)).trans d4,(hw'.cell (p:=⟨B,P1,none⟩) (by simp only;omega)).trans d5,hlook w' (hb2.trans (hw'.mono hb2.size))⟩
 have hra':∀ w',Below W2.heap.size W2 w'->Calls Tryz.prog 77 #[workV b off n cap B eao en ecap M,.int .i64 P1] w' (zAw (some x) w'):=fun w' hw'=>hra w' (hb2.trans (hw'.mono hb2.size))
 have hrb':∀ w',Below W2.heap.size W2 w'->Calls Tryz.prog 77 #[workV b off n cap B eao en ecap M,.int .i64 E1] w' (zAw (some y) w'):=fun w' hw'=>hrb w' (hb2.trans (hw'.mono hb2.size))
 have hB0:Below W2.heap.size W2 W2:=Below.refl _ _;have HB2:Hid (Below w.heap.size w W2):=hb2;have hp0:place < n:=by omega
 have hi0:(0:Int) <= (P1:Int):=by omega
 have hi1:(P1:Int) < (n:Int):=by omega
 have hpp:(place:Int)+1=(P1:Int):=by omega
 have hwr:IntKind.i64.wrap (P1:Int)=(P1:Int):=zEX (by omega) (by omega)
 have hwr2:IntKind.i64.wrap ((place:Int)+1)=(P1:Int):=by rw [hpp];exact hwr
 have htg:=fun w=>zFA z w
 clear hW2 hb2 hra hrb hlook hP1 hp hsz d0 d1 d2 d3 d4 d5
 by_cases hz:-1000000 <= z/\z <= 1000000
 ·rw [show decide (¬ (-1000000 <= z/\z <= 1000000))=false by simpa using hz] at htg
  rw [show lid z=some z by unfold lid;rw [if_pos hz]]
  clear hz
  go_enter Tryz.func77,Tryz.ntmps77
  go_wp2_with fail
  rw [<- HW2.out];clear c0 c1 cE
  go_region_held3 (fun w'=>w'.cell? ⟨w.heap.size,0,none⟩=some (.slice (some ⟨b,off,none⟩) n cap)/\w'.cell? ⟨w.heap.size,1,none⟩=some (.slice (some ⟨B,0,none⟩) n n)/\w'.cell? ⟨w.heap.size,2,none⟩=some (.slice eao en ecap)/\w'.cell? ⟨w.heap.size,3,none⟩=some (.map (some M))/\w'.cell? ⟨w.heap.size+1,0,none⟩=some (.int .i64 k)/\w'.cell? ⟨B,P1,none⟩=some (.int .i64 E1)/\(Instr.lookup 165 (.map (some M)) (.int .i64 k) false).run Tryz.prog w'=.ok (.func (.func F) #[] #[]) w')
   (exact hS _ (by first | exact hB0 | exact hB0.drew | exact hB0.drew.trans hb1 | exact (hB0.drew.trans hb1).trans (hb3.mono (hB0.drew.trans hb1).size)))
   (first | (go_at_call_of 77 E1;refine (hrb' _ (hB0.drew.trans hb1)).mono ?_;rintro e w3 ⟨hb3,rfl⟩) | (go_at_call 77;refine (hra' _ hB0.drew).mono ?_;rintro e w1 ⟨hb1,rfl⟩) | (refine (hpair _).mono ?_;rintro e w4 ⟨rfl,rfl⟩))
  all_goals
   go_wp2_with (go_at_call 75;refine (htg _).mono ?_;rintro e w5 ⟨rfl,rfl⟩)
   go_ret
   exact ⟨HB2.out.trans (((hB0.drew.trans hb1).trans (hb3.mono (hB0.drew.trans hb1).size)).mono HB2.out.size),rfl⟩
 ·rw [show decide (¬ (-1000000 <= z/\z <= 1000000))=true by simp;omega] at htg
  rw [show lid z=none by unfold lid;rw [if_neg hz]]
  clear hz
  go_enter Tryz.func77,Tryz.ntmps77
  go_wp2_with fail
  rw [<- HW2.out];clear c0 c1 cE
  go_region_held3 (fun w'=>w'.cell? ⟨w.heap.size,0,none⟩=some (.slice (some ⟨b,off,none⟩) n cap)/\w'.cell? ⟨w.heap.size,1,none⟩=some (.slice (some ⟨B,0,none⟩) n n)/\w'.cell? ⟨w.heap.size,2,none⟩=some (.slice eao en ecap)/\w'.cell? ⟨w.heap.size,3,none⟩=some (.map (some M))/\w'.cell? ⟨w.heap.size+1,0,none⟩=some (.int .i64 k)/\w'.cell? ⟨B,P1,none⟩=some (.int .i64 E1)/\(Instr.lookup 165 (.map (some M)) (.int .i64 k) false).run Tryz.prog w'=.ok (.func (.func F) #[] #[]) w')
   (exact hS _ (by first | exact hB0 | exact hB0.drew | exact hB0.drew.trans hb1 | exact (hB0.drew.trans hb1).trans (hb3.mono (hB0.drew.trans hb1).size)))
   (first | (go_at_call_of 77 E1;refine (hrb' _ (hB0.drew.trans hb1)).mono ?_;rintro e w3 ⟨hb3,rfl⟩) | (go_at_call 77;refine (hra' _ hB0.drew).mono ?_;rintro e w1 ⟨hb1,rfl⟩) | (refine (hpair _).mono ?_;rintro e w4 ⟨rfl,rfl⟩))
  all_goals
   go_wp2_with (go_at_call 75;refine (htg _).mono ?_;rintro e w5 ⟨rfl,rfl⟩)
   exact ⟨rfl,HB2.out.trans (((hB0.drew.trans hb1).trans (hb3.mono (hB0.drew.trans hb1).size)).mono HB2.out.size),rfl⟩
end Go.Proofs.YtnihdlgfhhdhkaaGreatDoor
namespace Go.Proofs.YtnihdlgfhhdhkaaGreatDoor
open Go.ChangeShapes Go.WideShapes Go.ChangeAt Go.RowKit Go.Deep
open Terms Tm
set_option maxHeartbeats 6400000
set_option maxRecDepth 20000
attribute [local go_sem ↓] Go.wp_at_zero Go.wp_at_succ
theorem Calls.pan {f:FuncId} {args:Array Value} {w:World} {X:Ending->World->Prop} (x:Int) (h:Calls Tryz.prog f args w (zAw none w))
  (hX:∀ w',Below w.heap.size w w'->X (.panicked [{ v:=.iface 45 (.int .i64 8),recovered:=false}]) w') (_:∀ w',Below w.heap.size w w'->Hid False->X (.returned (.int .i64 x)) w'):Calls Tryz.prog f args w X:=
 h.mono fun e w' ⟨hb,he⟩=>by subst he;exact hX w' hb
theorem zOb (b off n cap B:Nat) (eao:Option Addr) (en ecap M place E1 F:Nat) (k x y z:Int) (w:World) (hob:b < w.heap.size) (hBB:B < w.heap.size) (hp:place+1 < n) (P1:Nat) (hP1:P1=place+1) (h60:n <= 60) (hk3:3 <= k) (hk9:k <= 9) (c0:w.cell? ⟨b,off+place*2,none⟩=some (.int .i64 k)) (c1:w.cell? ⟨b,off+place*2+1,none⟩=some (.int .i64 0)) (cE:w.cell? ⟨B,P1,none⟩=some (.int .i64 E1))
  (hlook:∀ w',Below w.heap.size w w'->(Instr.lookup 165 (.map (some M)) (.int .i64 k) false).run Tryz.prog w'=.ok (.func (.func F) #[] #[]) w')
  (hent:∀ args w,(callFunc F args).run Tryz.prog w=.ok (.enter F args) w)
  (hpair:∀ w',Calls Tryz.prog F #[.int .i64 x,.int .i64 y] w' fun e w''=>e=.returned (.int .i64 z)/\w''=w')
  (hra:∀ w',Below w.heap.size w w'->Calls Tryz.prog 77 #[workV b off n cap B eao en ecap M,.int .i64 P1] w' (zAw none w'))
  (hrb:Hid False->∀ w',Below w.heap.size w w'->Calls Tryz.prog 77 #[workV b off n cap B eao en ecap M,.int .i64 E1] w' (zAw (some y) w')) :
  Calls Tryz.prog 77 #[workV b off n cap B eao en ecap M,.int .i64 place] w (zAw none w):=by
 have hne:¬ b=w.heap.size:=by omega
 have hneB:¬ B=w.heap.size:=by omega
 have e1:¬ k=1:=by omega
 have e2:¬ k=2:=by omega
 have e3:¬ k=10:=by omega
 have e4:¬ k=11:=by omega
 have e5:¬ k=12:=by omega
 obtain ⟨W2,hW2⟩:∃ W2,W2=((w.alloc (.cells #[.slice (some ⟨b,off,none⟩) n cap,.slice (some ⟨B,0,none⟩) n n,.slice eao en ecap,.map (some M)] 168)).alloc (.cells #[.int .i64 k,.int .i64 0] 106)):=⟨_,rfl⟩
 have hb2:Below w.heap.size w W2:=by rw [hW2];exact ((Below.refl _ _).alloc (Nat.le_refl _) _).alloc (by simp) _
 have hsz:W2.heap.size=w.heap.size+1+1:=by rw [hW2];simp
 have d0:W2.cell? ⟨w.heap.size,0,none⟩=some (.slice (some ⟨b,off,none⟩) n cap):=by rw [hW2];simp [go_sem]
 have d1:W2.cell? ⟨w.heap.size,1,none⟩=some (.slice (some ⟨B,0,none⟩) n n):=by rw [hW2];simp [go_sem]
 have d2:W2.cell? ⟨w.heap.size,2,none⟩=some (.slice eao en ecap):=by rw [hW2];simp [go_sem]
 have d3:W2.cell? ⟨w.heap.size,3,none⟩=some (.map (some M)):=by rw [hW2];simp [go_sem]
 have d4:W2.cell? ⟨w.heap.size+1,0,none⟩=some (.int .i64 k):=by rw [hW2];simp [go_sem]
 have d5:W2.cell? ⟨B,P1,none⟩=some (.int .i64 E1):=(hb2.cell (p:=⟨B,P1,none⟩) hBB).trans cE;have HW2:=(show Hid _ from hW2)
 have hS:∀ w',Below W2.heap.size W2 w'->w'.cell? ⟨w.heap.size,0,none⟩=some (.slice (some ⟨b,off,none⟩) n cap)/\w'.cell? ⟨w.heap.size,1,none⟩=some (.slice (some ⟨B,0,none⟩) n n)/\w'.cell? ⟨w.heap.size,2,none⟩=some (.slice eao en ecap)/\w'.cell? ⟨w.heap.size,3,none⟩=some (.map (some M))/\w'.cell? ⟨w.heap.size+1,0,none⟩=some (.int .i64 k)/\w'.cell? ⟨B,P1,none⟩=some (.int .i64 E1)/\(Instr.lookup 165 (.map (some M)) (.int .i64 k) false).run Tryz.prog w'=.ok (.func (.func F) #[] #[]) w':=fun w' hw'=>
  ⟨(hw'.cell (p:=⟨w.heap.size,0,none⟩) (by simp only;omega)).trans d0,(hw'.cell (p:=⟨w.heap.size,1,none⟩) (by simp only;omega)).trans d1,(hw'.cell (p:=⟨w.heap.size,2,none⟩) (by simp only;omega)).trans d2,(hw'.cell (p:=⟨w.heap.size,3,none⟩) (by simp only;omega)).trans d3,(hw'.cell (p:=⟨w.heap.size+1,0,none⟩) (by simp only;omega)).trans d4,(hw'.cell (p:=⟨B,P1,none⟩) (by simp only;omega)).trans d5,hlook w' (hb2.trans (hw'.mono hb2.size))⟩
 have hra':∀ w',Below W2.heap.size W2 w'->Calls Tryz.prog 77 #[workV b off n cap B eao en ecap M,.int .i64 P1] w' (zAw none w'):=fun w' hw'=>hra w' (hb2.trans (hw'.mono hb2.size))
 have hrb':Hid False->∀ w',Below W2.heap.size W2 w'->Calls Tryz.prog 77 #[workV b off n cap B eao en ecap M,.int .i64 E1] w' (zAw (some y) w'):=fun hF w' hw'=>hrb hF w' (hb2.trans (hw'.mono hb2.size))
 have hB0:Below W2.heap.size W2 W2:=Below.refl _ _;have HB2:Hid (Below w.heap.size w W2):=hb2;have hp0:place < n:=by omega
 have hi0:(0:Int) <= (P1:Int):=by omega
 have hi1:(P1:Int) < (n:Int):=by omega
 have hpp:(place:Int)+1=(P1:Int):=by omega
 have hwr:IntKind.i64.wrap (P1:Int)=(P1:Int):=zEX (by omega) (by omega)
 have hwr2:IntKind.i64.wrap ((place:Int)+1)=(P1:Int):=by rw [hpp];exact hwr
 clear hW2 hb2 hra hrb hlook hP1 hp hsz d0 d1 d2 d3 d4 d5
 go_enter Tryz.func77,Tryz.ntmps77
 go_wp2_with fail
 rw [<- HW2.out];clear c0 c1 cE
 go_region_held2 (fun w'=>w'.cell? ⟨w.heap.size,0,none⟩=some (.slice (some ⟨b,off,none⟩) n cap)/\w'.cell? ⟨w.heap.size,1,none⟩=some (.slice (some ⟨B,0,none⟩) n n)/\w'.cell? ⟨w.heap.size,2,none⟩=some (.slice eao en ecap)/\w'.cell? ⟨w.heap.size,3,none⟩=some (.map (some M))/\w'.cell? ⟨w.heap.size+1,0,none⟩=some (.int .i64 k)/\w'.cell? ⟨B,P1,none⟩=some (.int .i64 E1)/\(Instr.lookup 165 (.map (some M)) (.int .i64 k) false).run Tryz.prog w'=.ok (.func (.func F) #[] #[]) w')
  (exact hS _ (by first | exact hB0 | exact hB0.drew | exact hB0.drew.trans hb1 | exact (hB0.drew.trans hb1).trans (hb3.mono (hB0.drew.trans hb1).size)))
  (first | (go_at_call_of 77 E1;refine (hrb' hF _ (hB0.drew.trans hb1)).mono ?_;rintro e w3 ⟨hb3,rfl⟩) | (go_at_call 77;refine Calls.pan x (hra' _ hB0.drew) (fun w1 hb1=>⟨rfl,HB2.out.trans ((hB0.drew.trans hb1).mono HB2.out.size),rfl⟩) (fun w1 hb1 hF=>?_)) | (refine (hpair _).mono ?_;rintro e w4 ⟨rfl,rfl⟩))
 all_goals exact hF.out.elim
theorem zO6 (b off n cap B:Nat) (eao:Option Addr) (en ecap M place E1 F:Nat) (k x y z:Int) (w:World) (hob:b < w.heap.size) (hBB:B < w.heap.size) (hp:place+1 < n) (P1:Nat) (hP1:P1=place+1) (h60:n <= 60) (hk3:3 <= k) (hk9:k <= 9) (c0:w.cell? ⟨b,off+place*2,none⟩=some (.int .i64 k)) (c1:w.cell? ⟨b,off+place*2+1,none⟩=some (.int .i64 0)) (cE:w.cell? ⟨B,P1,none⟩=some (.int .i64 E1))
  (hlook:∀ w',Below w.heap.size w w'->(Instr.lookup 165 (.map (some M)) (.int .i64 k) false).run Tryz.prog w'=.ok (.func (.func F) #[] #[]) w')
  (hent:∀ args w,(callFunc F args).run Tryz.prog w=.ok (.enter F args) w)
  (hpair:∀ w',Calls Tryz.prog F #[.int .i64 x,.int .i64 y] w' fun e w''=>e=.returned (.int .i64 z)/\w''=w')
  (hra:∀ w',Below w.heap.size w w'->Calls Tryz.prog 77 #[workV b off n cap B eao en ecap M,.int .i64 P1] w' (zAw (some x) w'))
  (hrb:∀ w',Below w.heap.size w w'->Calls Tryz.prog 77 #[workV b off n cap B eao en ecap M,.int .i64 E1] w' (zAw none w')) :
  Calls Tryz.prog 77 #[workV b off n cap B eao en ecap M,.int .i64 place] w (zAw none w):=by
 have hne:¬ b=w.heap.size:=by omega
 have hneB:¬ B=w.heap.size:=by omega
 have e1:¬ k=1:=by omega
 have e2:¬ k=2:=by omega
 have e3:¬ k=10:=by omega
 have e4:¬ k=11:=by omega
 have e5:¬ k=12:=by omega
 obtain ⟨W2,hW2⟩:∃ W2,W2=((w.alloc (.cells #[.slice (some ⟨b,off,none⟩) n cap,.slice (some ⟨B,0,none⟩) n n,.slice eao en ecap,.map (some M)] 168)).alloc (.cells #[.int .i64 k,.int .i64 0] 106)):=⟨_,rfl⟩
 have hb2:Below w.heap.size w W2:=by rw [hW2];exact ((Below.refl _ _).alloc (Nat.le_refl _) _).alloc (by simp) _
 have hsz:W2.heap.size=w.heap.size+1+1:=by rw [hW2];simp
 have d0:W2.cell? ⟨w.heap.size,0,none⟩=some (.slice (some ⟨b,off,none⟩) n cap):=by rw [hW2];simp [go_sem]
 have d1:W2.cell? ⟨w.heap.size,1,none⟩=some (.slice (some ⟨B,0,none⟩) n n):=by rw [hW2];simp [go_sem]
 have d2:W2.cell? ⟨w.heap.size,2,none⟩=some (.slice eao en ecap):=by rw [hW2];simp [go_sem]
 have d3:W2.cell? ⟨w.heap.size,3,none⟩=some (.map (some M)):=by rw [hW2];simp [go_sem]
 have d4:W2.cell? ⟨w.heap.size+1,0,none⟩=some (.int .i64 k):=by rw [hW2];simp [go_sem]
 have d5:W2.cell? ⟨B,P1,none⟩=some (.int .i64 E1):=(hb2.cell (p:=⟨B,P1,none⟩) hBB).trans cE;have HW2:=(show Hid _ from hW2)
 have hS:∀ w',Below W2.heap.size W2 w'->w'.cell? ⟨w.heap.size,0,none⟩=some (.slice (some ⟨b,off,none⟩) n cap)/\w'.cell? ⟨w.heap.size,1,none⟩=some (.slice (some ⟨B,0,none⟩) n n)/\w'.cell? ⟨w.heap.size,2,none⟩=some (.slice eao en ecap)/\w'.cell? ⟨w.heap.size,3,none⟩=some (.map (some M))/\w'.cell? ⟨w.heap.size+1,0,none⟩=some (.int .i64 k)/\w'.cell? ⟨B,P1,none⟩=some (.int .i64 E1)/\(Instr.lookup 165 (.map (some M)) (.int .i64 k) false).run Tryz.prog w'=.ok (.func (.func F) #[] #[]) w':=fun w' hw'=>
  ⟨(hw'.cell (p:=⟨w.heap.size,0,none⟩) (by simp only;omega)).trans d0,(hw'.cell (p:=⟨w.heap.size,1,none⟩) (by simp only;omega)).trans d1,(hw'.cell (p:=⟨w.heap.size,2,none⟩) (by simp only;omega)).trans d2,(hw'.cell (p:=⟨w.heap.size,3,none⟩) (by simp only;omega)).trans d3,(hw'.cell (p:=⟨w.heap.size+1,0,none⟩) (by simp only;omega)).trans d4,(hw'.cell (p:=⟨B,P1,none⟩) (by simp only;omega)).trans d5,hlook w' (hb2.trans (hw'.mono hb2.size))⟩
 have hra':∀ w',Below W2.heap.size W2 w'->Calls Tryz.prog 77 #[workV b off n cap B eao en ecap M,.int .i64 P1] w' (zAw (some x) w'):=fun w' hw'=>hra w' (hb2.trans (hw'.mono hb2.size))
 have hrb':∀ w',Below W2.heap.size W2 w'->Calls Tryz.prog 77 #[workV b off n cap B eao en ecap M,.int .i64 E1] w' (zAw none w'):=fun w' hw'=>hrb w' (hb2.trans (hw'.mono hb2.size))
 have hB0:Below W2.heap.size W2 W2:=Below.refl _ _;have HB2:Hid (Below w.heap.size w W2):=hb2;have hp0:place < n:=by omega
 have hi0:(0:Int) <= (P1:Int):=by omega
 have hi1:(P1:Int) < (n:Int):=by omega
 have hpp:(place:Int)+1=(P1:Int):=by omega
 have hwr:IntKind.i64.wrap (P1:Int)=(P1:Int):=zEX (by omega) (by omega)
 have hwr2:IntKind.i64.wrap ((place:Int)+1)=(P1:Int):=by rw [hpp];exact hwr
 clear hW2 hb2 hra hrb hlook hP1 hp hsz d0 d1 d2 d3 d4 d5
 go_enter Tryz.func77,Tryz.ntmps77
 go_wp2_with fail
 rw [<- HW2.out];clear c0 c1 cE
 go_region_held2 (fun w'=>w'.cell? ⟨w.heap.size,0,none⟩=some (.slice (some ⟨b,off,none⟩) n cap)/\w'.cell? ⟨w.heap.size,1,none⟩=some (.slice (some ⟨B,0,none⟩) n n)/\w'.cell? ⟨w.heap.size,2,none⟩=some (.slice eao en ecap)/\w'.cell? ⟨w.heap.size,3,none⟩=some (.map (some M))/\w'.cell? ⟨w.heap.size+1,0,none⟩=some (.int .i64 k)/\w'.cell? ⟨B,P1,none⟩=some (.int .i64 E1)/\(Instr.lookup 165 (.map (some M)) (.int .i64 k) false).run Tryz.prog w'=.ok (.func (.func F) #[] #[]) w')
  (exact hS _ (by first | exact hB0 | exact hB0.drew | exact hB0.drew.trans hb1 | exact (hB0.drew.trans hb1).trans (hb3.mono (hB0.drew.trans hb1).size)))
  (first | (go_at_call_of 77 E1;refine Calls.pan y (hrb' _ (hB0.drew.trans hb1)) (fun w3 hb3=>⟨rfl,HB2.out.trans (((hB0.drew.trans hb1).trans (hb3.mono (hB0.drew.trans hb1).size)).mono HB2.out.size),rfl⟩) (fun w3 hb3 hF=>?_)) | (go_at_call 77;refine (hra' _ hB0.drew).mono ?_;rintro e w1 ⟨hb1,rfl⟩) | (refine (hpair _).mono ?_;rintro e w4 ⟨rfl,rfl⟩))
 all_goals exact hF.out.elim
end Go.Proofs.YtnihdlgfhhdhkaaGreatDoor
namespace Go.Proofs.YtnihdlgfhhdhkaaGreatDoor
open Go.ChangeShapes Go.WideShapes Go.ChangeAt Go.RowKit Go.Deep
open Terms Tm
set_option maxHeartbeats 6400000
set_option maxRecDepth 20000
theorem zPG (b off n cap B:Nat) (eao:Option Addr) (en ecap M vars:Nat) (t:Tm) (env:List Int) (hn:n=t.size) (h60:n <= 60) (hg:t.Good vars) (hty:t.typed=true) (hev:EnvOk env) (hen:env.length=vars) (hen2:en=vars) (d:Nat) :
  ∀ (place:Nat) (w:World),place < n->(t.sub place).size <= d->WorkAt w b off B eao M t env->
  Calls Tryz.prog 77 #[workV b off n cap B eao en ecap M,.int .i64 place] w (zAw ((t.sub place).eval env) w):=by
 induction d with
 | zero=>intro place w _ hd;have:=(t.sub place).size_pos;omega
 | succ d ih=>
  intro place w hp hd hW;have hpt:place < t.size:=by omega
  obtain ⟨s,hs⟩:∃ s,s=t.sub place:=⟨_,rfl⟩
  have hsg:s.Good vars:=by rw [hs];exact hg.sub _
  have hst:s.typed=true:=by
   rw [hs];refine (typed_iff _).2 fun q hq=>?_
   rw [<- t.sub_sub place q hpt hq];exact (typed_iff _).1 hty _ (by have:=t.sub_fits hpt;omega)
  obtain ⟨c0,c1⟩:=hW.ops place (by rw [ops_length];exact hpt)
  rw [op_at t hpt,<- hs] at c0 c1;simp only at c0 c1
  have HKI:∀ i,i < s.kids.length->place+s.koff i < n/\t.sub (place+s.koff i)=s.kids.getD i s/\zAa (t.ops.map Prod.fst) (place+s.koff i)=place+s.koff (i+1):=fun i hi=>by
   subst hs;obtain ⟨h1,h2,h3,_⟩:=kid_in hg.wf hpt hi;exact ⟨by omega,h2,h3⟩
  rw [<- hs] at hd ⊢
  cases s with
  | leaf k v=>
   rcases hsg with ⟨rfl,h1,h2⟩ | ⟨rfl,h1,h2⟩ | ⟨hk,rfl⟩
   ·exact zPP b off n cap B eao en ecap M place v w hW.ob hp c0 c1
   ·obtain ⟨j,rfl⟩:=Int.eq_ofNat_of_zero_le h1
    obtain ⟨eb,eoff,rfl,e2,e3⟩:=hW.env j (by omega)
    exact zPQ b off n cap B eb eoff en ecap M place j _ w hW.ob hp (by omega) c0 c1 e2 e3
   ·have he:(Tm.leaf k 0).eval env=some (if k=11 then 1 else 0):=by
     simp only [Tm.eval];rw [if_neg (by omega),if_neg (by omega)]
    rw [he];exact zPT b off n cap B eao en ecap M place k hk w hW.ob hp c0 c1
  | un k v a=>
   obtain ⟨rfl,rfl,ha⟩:=hsg;obtain ⟨p1,p2,_⟩:=HKI 0 (by simp [kids])
   rw [koff_zero] at p1 p2;have hsz:a.size <= d:=by simp only [Tm.size] at hd;omega
   have hta:a.typed=true:=by simp only [Tm.typed,Bool.and_eq_true] at hst;exact hst.2
   have hrec:∀ w',Below w.heap.size w w'->Calls Tryz.prog 77 #[workV b off n cap B eao en ecap M,.int .i64 ((place:Int)+1)] w' (zAw (a.eval env) w'):=fun w' hw'=>by
    have h:=ih (place+1) w' p1 (by rw [p2];exact hsz) (hW.later hw')
    rw [p2] at h;exact h
   have h:=zPc b off n cap B eao en ecap M place (a.eval env) w hW.ob hp h60 c0 c1 (fun x hx=>(eval_le hev hen ha hta x hx).1) hrec
   have he:(Tm.un 10 0 a).eval env=(a.eval env).map (1 - ·):=by
    simp only [Tm.eval]
    cases a.eval env <;> rfl
   rw [he];exact h
  | bi k v a b'=>
   obtain ⟨h3,h9,rfl,ha,hb⟩:=hsg;obtain ⟨p1,p2,p3⟩:=HKI 0 (by simp [kids])
   obtain ⟨q1,q2,_⟩:=HKI 1 (by simp [kids])
   rw [koff_zero] at p1 p2 p3;rw [Nat.zero_add] at p3;have hsa:a.size <= d:=by simp only [Tm.size] at hd;omega
   have hsb:b'.size <= d:=by simp only [Tm.size] at hd;omega
   simp only [Tm.typed,Bool.and_eq_true,beq_iff_eq] at hst;obtain ⟨⟨ka,hta⟩,kb,htb⟩:=hst
   have hra:∀ w',Below w.heap.size w w'->Calls Tryz.prog 77 #[workV b off n cap B eao en ecap M,.int .i64 (place+1:Nat)] w' (zAw (a.eval env) w'):=fun w' hw'=>by
    have h:=ih (place+1) w' p1 (by rw [p2];exact hsa) (hW.later hw')
    rw [p2] at h;exact h
   have hrb:∀ w',Below w.heap.size w w'->Calls Tryz.prog 77 #[workV b off n cap B eao en ecap M,.int .i64 (place+(Tm.bi k 0 a b').koff 1:Nat)] w' (zAw (b'.eval env) w'):=fun w' hw'=>by
    have h:=ih (place+(Tm.bi k 0 a b').koff 1) w' q1 (by rw [q2];exact hsb) (hW.later hw')
    rw [q2] at h;exact h
   have cE:=hW.ends.cell (i:=place+1) (by omega)
   rw [p3] at cE;have hlook:=fun w' (hw':Below w.heap.size w w')=>(hW.pairs.later hw').look h3 h9
   have hent:=zJG k h3 h9;have hae:=eval_le hev hen ha hta;have hbe:=eval_le hev hen hb htb;simp only [Tm.eval]
   cases hx:a.eval env with
   | none=>
    rw [hx] at hra
    exact zOb b off n cap B eao en ecap M place _ (zCv k) k 0 0 (bin k 0 0) w hW.ob hW.ends.lt (by omega) (place+1) rfl h60 h3 h9 c0 c1 cE hlook hent (fun w'=>zGC k 0 0 w' h3 h9 (by omega) (by omega) (fun _=>⟨.inl rfl,.inl rfl⟩)) hra
     (fun h=>h.out.elim)
   | some x=>
    rw [hx] at hra;have hxl:=hae x hx
    cases hy:b'.eval env with
    | none=>
     rw [hy] at hrb;exact zO6 b off n cap B eao en ecap M place _ (zCv k) k x 0 (bin k x 0) w hW.ob hW.ends.lt (by omega) (place+1) rfl h60 h3 h9 c0 c1 cE hlook hent (fun w'=>zGC k x 0 w' h3 h9 hxl.1 (by omega) (fun h8=>⟨hxl.2 (by rw [ka];simp [tkT];omega),.inl rfl⟩)) hra hrb
    | some y=>
     rw [hy] at hrb;have hyl:=hbe y hy;exact zPp b off n cap B eao en ecap M place _ (zCv k) k x y (bin k x y) w hW.ob hW.ends.lt (by omega) (place+1) rfl h60 h3 h9 c0 c1 cE hlook hent (fun w'=>zGC k x y w' h3 h9 hxl.1 hyl.1 (fun h8=>⟨hxl.2 (by rw [ka];simp [tkT];omega),hyl.2 (by rw [kb];simp [tkT];omega)⟩)) hra hrb
theorem zGT (s:Nat) (x:Int) (v0 v1:Value) (w:World) (hc0:w.cell? ⟨s,0,none⟩=some v0) (hc1:w.cell? ⟨s+1,0,none⟩=some v1) (hz0:w.frozen? ⟨s,0,none⟩=false) (hz1:w.frozen? ⟨s+1,0,none⟩=false) :
  CallsD Tryz.prog 73 #[.pointer (some ⟨s,0,none⟩),.pointer (some ⟨s+1,0,none⟩)] (.panicking [{ v:=.iface 45 (.int .i64 x),recovered:=false}]) w fun e u' w'=>
   e=.returned (.tuple #[])/\u'=.panicking [{ v:=.iface 45 (.int .i64 x),recovered:=true}]/\w'=((w.setCell ⟨s,0,none⟩ (.int .i64 0)).setCell ⟨s+1,0,none⟩ (.int .i64 x)).drew:=by
 have hta:∀ w:World,(Instr.typeAssert (.iface 45 (.int .i64 x)) 20 45 false).run Tryz.prog w=.ok (.int .i64 x) w:=fun _=>by kernel_rfl
 refine callsD_of_wpS Tryz.func73 rfl fun c₀ cs hu=>?_
 rw [Tryz.ntmps73]
 show Code.wpS _ _ _ { tmps:=#[.pointer (some ⟨s,0,none⟩),.pointer (some ⟨s+1,0,none⟩),undef,undef,undef,undef,undef,undef],defers:=[]} _ _
 apply wpS_seq
 apply wpS_region
 simp [wpOpsS,go_sem,recoverD,hu,Exit.thenS]
 refine wpS_of_wp ?_
 go_wp2
 go_region
 go_wp2
 simp [bodyPostS,results,Tryz.results73]
theorem zEJ (s:Nat) (w:World) :
  CallsD Tryz.prog 73 #[.pointer (some ⟨s,0,none⟩),.pointer (some ⟨s+1,0,none⟩)] .returning w fun e u' w'=>
   e=.returned (.tuple #[])/\u'=.returning/\w'=w:=by
 refine callsD_of_wpS Tryz.func73 rfl fun c₀ cs hu=>?_
 rw [Tryz.ntmps73]
 show Code.wpS _ _ _ { tmps:=#[.pointer (some ⟨s,0,none⟩),.pointer (some ⟨s+1,0,none⟩),undef,undef,undef,undef,undef,undef],defers:=[]} _ _
 apply wpS_seq
 apply wpS_region
 simp [wpOpsS,go_sem,recoverD,hu,Exit.thenS]
 refine wpS_of_wp ?_
 go_wp2
 cases c₀
 simp_all [bodyPostS,results,Tryz.results73]
def zB8 (env:List Int):Bool:=env.any fun x=>decide (¬ (-1000000 <= x/\x <= 1000000))
def zIC (l:List (Int × Int)) (t:Tm) (env:List Int):Int:=
 if zAq env.length l t≠0 then 0 else if zB8 env=true then 0 else match t.eval env with
  | some x=>x
  | none=>0
def zID (l:List (Int × Int)) (t:Tm) (env:List Int):Int:=
 if zAq env.length l t≠0 then zAq env.length l t else if zB8 env=true then 2 else match t.eval env with
  | some _=>0
  | none=>8
theorem zIM {env:List Int} (h:zB8 env=false):EnvOk env:=fun i hi=>by
 unfold zB8 at h;rw [List.any_eq_false] at h;have:=h (env.getD i 0) (by simp [List.getD_eq_getElem?_getD,hi])
 generalize env.getD i 0=x at *;simp at this
 omega
theorem zL3 {env:List Int} (h:∀ j,j < env.length->-1000000 <= env.getD j 0/\env.getD j 0 <= 1000000):zB8 env=false:=by
 unfold zB8;rw [List.any_eq_false];intro x hx;obtain ⟨i,hi,rfl⟩:=List.getElem_of_mem hx;have:=h i hi;simp [List.getD_eq_getElem?_getD,hi] at this
 simp
 omega
theorem zML {env:List Int} {i:Nat} (hi:i < env.length) (h:¬ (-1000000 <= env.getD i 0/\env.getD i 0 <= 1000000)):zB8 env=true:=by
 unfold zB8;rw [List.any_eq_true];refine ⟨env[i],List.getElem_mem hi,?_⟩
 simp [List.getD_eq_getElem?_getD,hi] at h
 simp
 omega
def e0 (w:World):World:=(w.alloc (.cells #[.int .i64 0] 3)).alloc (.cells #[.int .i64 0] 45)
theorem zGW (w:World):Below w.heap.size w (e0 w):=((Below.refl _ _).alloc (Nat.le_refl _) _).alloc (by simp) _
theorem zIV (w:World) {w':World} (h:Below (e0 w).heap.size (e0 w) w') :
  w'.cell? ⟨w.heap.size,0,none⟩=some (.int .i64 0)/\w'.cell? ⟨w.heap.size+1,0,none⟩=some (.int .i64 0)/\w'.frozen? ⟨w.heap.size,0,none⟩=false/\w'.frozen? ⟨w.heap.size+1,0,none⟩=false/\w.heap.size+1 < w'.heap.size/\Below w.heap.size w w':=by
 have hs:=h.size;have hz:(e0 w).heap.size=w.heap.size+1+1:=by simp [e0]
 refine ⟨?_,?_,?_,?_,by omega,(zGW w).trans (h.mono (zGW w).size)⟩
 ·rw [h.cell (p:=⟨w.heap.size,0,none⟩) (by simp only;omega)];simp [e0,go_sem]
 ·rw [h.cell (p:=⟨w.heap.size+1,0,none⟩) (by simp only;omega)];simp [e0,go_sem]
 ·rw [h.frozen (p:=⟨w.heap.size,0,none⟩) (by simp only;omega)];simp [e0,go_sem]
 ·rw [h.frozen (p:=⟨w.heap.size+1,0,none⟩) (by simp only;omega)];simp [e0,go_sem]
theorem zO7 (ao:Option Addr) (n cap:Nat) (eao:Option Addr) (en ecap:Nat) (x:Int) (w:World) (hx:x≠0)
  (heo:Calls Tryz.prog 74 #[.slice ao n cap,.int .i64 en] (e0 w) fun e w''=>e=.returned (.tuple #[.slice none 0 0,.int .i64 x])/\Below (e0 w).heap.size (e0 w) w'') :
  Calls Tryz.prog 49 #[.slice ao n cap,.slice eao en ecap] w fun e w'=>e=.returned (.tuple #[.int .i64 0,.int .i64 x])/\Below w.heap.size w w':=by
 have hmf:=zDR
 go_enter_defers Tryz.func49,Tryz.ntmps49
 go_wp2_with (go_at_call 74;refine heo.mono ?_;rintro e w2 ⟨rfl,hb2⟩;obtain ⟨c0,c1,f0,f1,hsz,hbw⟩:=zIV w hb2)
 go_region
 all_goals go_wp2_with fail
 all_goals
  refine leaves_cons (f:=73) (args:=#[.pointer (some ⟨w.heap.size,0,none⟩),.pointer (some ⟨w.heap.size+1,0,none⟩)]) (by simp) (by simp [go_sem]) ?_
  refine (zEJ w.heap.size _).mono ?_
  rintro e u' w'' ⟨rfl,rfl,rfl⟩
  simp [Leaves,settle,results,Tryz.results49,go_sem,c0,c1]
  first
   | exact (((hbw.setCell (p:=⟨w.heap.size+1,0,none⟩) (by simp) _).drew).setCell (p:=⟨w.heap.size,0,none⟩) (Nat.le_refl _) _).setCell (p:=⟨w.heap.size+1,0,none⟩) (by simp) _
   | exact (((hbw.setCell (p:=⟨w.heap.size+1,0,none⟩) (by simp) _).drew).setCell (p:=⟨w.heap.size+1,0,none⟩) (by simp) _).setCell (p:=⟨w.heap.size,0,none⟩) (Nat.le_refl _) _
end Go.Proofs.YtnihdlgfhhdhkaaGreatDoor
namespace Go.Proofs.YtnihdlgfhhdhkaaGreatDoor
open Terms Tm
set_option maxHeartbeats 6400000
set_option maxRecDepth 20000
noncomputable def exN (l:List (Int × Int)) (env:List Int):Int:=zIC l (zB9 l) env
noncomputable def exC (l:List (Int × Int)) (env:List Int):Int:=zID l (zB9 l) env
noncomputable def zBt (l:List (Int × Int)) (env:List Int):Bool:=decide (exC l env=0)&&decide (exN l env=1)
noncomputable def zCM (env:List Int) (sets:List St):Nat->List Int
 | 0=>env
 | k+1=>(zCM env sets k).set (sets.getD k st0).var.toNat (exN (sets.getD k st0).val env)
theorem zDv (env:List Int) (sets:List St) (k:Nat):(zCM env sets k).length=env.length:=by
 induction k with
 | zero=>rfl
 | succ k ih=>simp [zCM,ih]
noncomputable def zA5 (env:List Int) (r:Ru):List Int:=zCM env r.sets r.sets.length
def zI3 (env:List Int) (r:Ru):Prop:=∀ j,j < r.sets.length->exC (r.sets.getD j st0).val env=0
open Classical in
noncomputable def zA0 (vars:List Vr) (env:List Int) (r:Ru):Option Int:=
 if zBt r.guard env=true/\zI3 env r/\∀ i,i < vars.length->inB vars (zA5 env r) i then some (zA3 vars (zA5 env r) vars.length) else none
def zKb:Option Int->Int
 | some x=>x
 | none=>0
def zKx:Option Int->Int
 | some _=>0
 | none=>11
theorem zIv {vars:List Vr} {env:List Int} {r:Ru} (h:zBt r.guard env=false):zA0 vars env r=none:=by
 unfold zA0;rw [if_neg (fun h2=>by rw [h] at h2;cases h2.1)]
theorem zKg {vars:List Vr} {env:List Int} {r:Ru} {j:Nat} (hj:j < r.sets.length) (h:exC (r.sets.getD j st0).val env≠0):zA0 vars env r=none:=by
 unfold zA0;rw [if_neg (fun h2=>h (h2.2.1 j hj))]
theorem zJb {vars:List Vr} {env:List Int} {r:Ru} (h1:zBt r.guard env=true) (h2:zI3 env r) (hl:env.length=vars.length) {m:Mo} (hm:mcode m=0) (hv:m.vars=vars) :
  (zBv m (zA5 env r)=0->zA0 vars env r=some (zCw m (zA5 env r)))/\(zBv m (zA5 env r)≠0->zA0 vars env r=none):=by
 have hb:(zA5 env r).length=m.vars.length:=by unfold zA5;rw [zDv,hl,hv]
 subst hv
 by_cases hin:∀ i,i < m.vars.length->inB m.vars (zA5 env r) i
 ·have hc:=zHl hm ⟨hb,hin⟩
  refine ⟨fun _=>?_,fun h=>absurd hc h⟩
  unfold zA0;rw [if_pos ⟨h1,h2,hin⟩];unfold zCw;rw [if_pos hc]
 ·have hc:=zGX hm (vals:=zA5 env r) (fun h=>hin h.2)
  refine ⟨fun h=>(by rw [hc] at h;cases h),fun _=>?_⟩
  unfold zA0;rw [if_neg (fun h=>hin h.2.2)]
theorem zMU {vars:Int} {r:Ru} (h:zA1 vars r=0):r.sets.length <= 6/\∀ j,j < r.sets.length->0 <= (r.sets.getD j st0).var/\(r.sets.getD j st0).var < vars:=by
 unfold zA1 at h
 split at h
 ·simp at h
 ·rename_i h6
  refine ⟨by omega,fun j hj=>?_⟩
  split at h
  ·have h1:=zDs h j hj
   unfold sAt at h1
   split at h1
   ·simp at h1
   ·rename_i h2;omega
  ·rename_i h2;exact absurd h h2
theorem zEI {m:Mo} (h:mcode m=0):m.rules.length <= 12/\∀ j,j < m.rules.length->zA1 m.vars.length (m.rules.getD j ru0)=0:=by
 unfold mcode at h
 split at h
 ·split at h
  ·simp at h
  ·rename_i h1;exact ⟨by omega,zDs h⟩
 ·rename_i h0;exact absurd h h0
theorem zG5 {m:Mo} (h:mcode m=0):mcode ⟨m.vars,[]⟩=0:=by
 have hv:vcode m.vars=0:=by
  unfold mcode at h
  split at h
  ·assumption
  ·rename_i h0;exact absurd h h0
 unfold mcode;rw [if_pos hv];rfl
theorem zDl (l:List Vr) (c:Int):(zAt l c).length=l.length:=by simp [zAt]
end Go.Proofs.YtnihdlgfhhdhkaaGreatDoor
namespace Go.Proofs.YtnihdlgfhhdhkaaGreatDoor
open Go.Shelf Go.RowKit Go.Lib
set_option maxHeartbeats 6400000
set_option maxRecDepth 20000
def zH5:Go.Shelf.Ren:=⟨fun | 15=>98 | n=>n,fun | 22=>27 | 3=>3 | 4=>4 | n=>n,fun | n=>n⟩
theorem zMs:Go.Proofs.Lays2.n15 Tryz.prog zH5:={
 mixed:=by kernel_rfl
 f15:=Tryz.func98.trans (congrArg some (by kernel_rfl))
 t3:=Tryz.underlying3
 a3:=Tryz.isAgg3
 z3:=Tryz.sizeOf3
 v3:=Tryz.zeroValue3
 t4:=Tryz.underlying4
 a4:=Tryz.isAgg4
 z4:=Tryz.sizeOf4
 v4:=Tryz.zeroValue4
 t22:=Tryz.underlying27
 a22:=Tryz.isAgg27
 z22:=Tryz.sizeOf27
 v22:=Tryz.zeroValue27
 i3:=by kernel_rfl}
theorem zMx (B:Nat) (l:List Int) (w:World) (hl:l.length <= 10000) (hr:w.rowIs B 3 l.length (fun j=>.int .i64 (l.getD j 0))) :
    Calls Tryz.prog 98 #[.slice (some ⟨B,0,none⟩) l.length l.length] w fun e w'=>∃ g cap,e=.returned (.slice (some ⟨g,0,none⟩) l.length cap)/\w.heap.size <= g/\Below w.heap.size w w'/\w'.ownsRow w.heap.size 3 1 (.slice (some ⟨g,0,none⟩) l.length cap) l.length (zAE l):=by
  have h:Calls Tryz.prog 98 #[.slice (some ⟨B,0,none⟩) l.length l.length] w fun e w'=>∃ v',e=.returned v'/\w'.ownsRow w.heap.size 3 1 v' l.length ((l.take l.length).map (Value.int .i64))/\v'≠.slice none 0 0/\Below w.heap.size w w':=
    Any.slices_Clone_int zMs B 0 l.length l.length l w (Nat.le_refl _) (by omega) (fun j hj=>by rw [Nat.zero_add];exact hr.cell hj)
  refine h.mono fun e w' ⟨v',he,ho,hn,hb⟩=>?_
  rw [List.take_length] at ho;obtain ⟨g,cap,rfl,hg,_⟩:=Lib.holds_of_ownsRow ho hn;exact ⟨g,cap,he,hg,hb,ho⟩
end Go.Proofs.YtnihdlgfhhdhkaaGreatDoor
namespace Go.Proofs.YtnihdlgfhhdhkaaGreatDoor
open Go.ChangeShapes Go.WideShapes Go.ChangeAt Go.RowKit Go.Deep
open Terms Tm
set_option maxHeartbeats 6400000
set_option maxRecDepth 20000
def zFo (w:World) (eao:Option Addr) (env:List Int):Prop:=∀ i,i < env.length->∃ eb eoff,eao=some ⟨eb,eoff,none⟩/\eb < w.heap.size/\w.cell? ⟨eb,eoff+i,none⟩=some (.int .i64 (env.getD i 0))
theorem zFo.later {w w':World} {eao:Option Addr} {env:List Int} (h:zFo w eao env) (hb:Below w.heap.size w w'):zFo w' eao env:=fun i hi=>by
 obtain ⟨eb,eoff,e1,e2,e3⟩:=h i hi;exact ⟨eb,eoff,e1,Nat.lt_of_lt_of_le e2 hb.size,(hb.cell (p:=⟨eb,eoff+i,none⟩) e2).trans e3⟩
def zEd (env:List Int) (t:Tm) (w:World) (e:Ending) (w':World):Prop:=
 e=.returned (.tuple #[.int .i64 (if zB8 env=true then 0 else match t.eval env with | some x=>x | none=>0),.int .i64 (if zB8 env=true then 2 else match t.eval env with | some _=>0 | none=>8)])/\Below w.heap.size w w'
theorem zNt (b off n cap:Nat) (eao:Option Addr) (en ecap:Nat) (t:Tm) (env:List Int) (w:World) (hn:n=t.size) (h60:n <= 60) (hen:en=env.length) (hen6:en <= 6) (hg:t.Good env.length) (hty:t.typed=true) (hbB:b < w.heap.size) (hA:zAu w b off t.ops) (hE:zFo w eao env)
  (heo:Calls Tryz.prog 74 #[.slice (some ⟨b,off,none⟩) n cap,.int .i64 en] (e0 w) fun e w'=>Below (e0 w).heap.size (e0 w) w'/\∃ B,(e0 w).heap.size <= B/\e=.returned (.tuple #[.slice (some ⟨B,0,none⟩) n n,.int .i64 0])/\w'.rowIs B 3 n (fun q=>.int .i64 (zAa (t.ops.map Prod.fst) q))) :
  Calls Tryz.prog 49 #[.slice (some ⟨b,off,none⟩) n cap,.slice eao en ecap] w (zEd env t w):=by
 have hmf:=zDR;have HE:Hid (zFo w eao env):=hE;have HA:Hid (zAu w b off t.ops):=hA;have HN:Hid (n=t.size/\t.Good env.length/\t.typed=true/\en=env.length):=⟨hn,hg,hty,hen⟩;have hn1:0 < n:=by rw [hn];exact t.size_pos
 have hzs:(e0 w).heap.size=w.heap.size+1+1:=by simp [e0]
 clear hE hA hn hg hty hen
 go_enter_defers Tryz.func49,Tryz.ntmps49
 go_wp2_with (go_at_call 74;refine heo.mono ?_;rintro e w2 ⟨hb2,B,hBw,rfl,hrow⟩;obtain ⟨c0,c1,f0,f1,hsz,hbw⟩:=zIV w hb2)
 obtain ⟨W3,hW3⟩:∃ W3,W3=w2.setCell ⟨w.heap.size+1,0,none⟩ (.int .i64 0):=⟨_,rfl⟩
 have hb3:Below w.heap.size w W3:=by rw [hW3];exact hbw.setCell (p:=⟨w.heap.size+1,0,none⟩) (by simp) _
 have d0:W3.cell? ⟨w.heap.size,0,none⟩=some (.int .i64 0):=by rw [hW3];simp [go_sem,c0]
 have d1:W3.cell? ⟨w.heap.size+1,0,none⟩=some (.int .i64 0):=by rw [hW3];simp [go_sem,c1]
 have g0:W3.frozen? ⟨w.heap.size,0,none⟩=false:=by rw [hW3];simp [go_sem,f0]
 have g1:W3.frozen? ⟨w.heap.size+1,0,none⟩=false:=by rw [hW3];simp [go_sem,f1]
 have hrow3:W3.rowIs B 3 n (fun q=>.int .i64 (zAa (t.ops.map Prod.fst) q)):=by rw [hW3];exact hrow.setOther (by simp;omega) _
 have hsz3:w.heap.size+1 < W3.heap.size:=by rw [hW3];simpa using hsz
 have HW3:=(show Hid _ from hW3)
 have HR:Hid (W3.rowIs B 3 n (fun q=>.int .i64 (zAa (t.ops.map Prod.fst) q))):=hrow3
 rw [<- hW3];clear hW3 hrow3 hrow heo hb2 c0 c1 f0 f1 hsz hbw HW3
 go_loop [23] (fun c=>∃ i:Nat,i <= en/\c=.int .i64 i/\Hid (∀ j,j < i->-1000000 <= env.getD j 0/\env.getD j 0 <= 1000000)) (fun c=>en - (intOf c).toNat)
 case atStart=>exact ⟨0,Nat.zero_le _,rfl,fun j hj=>by omega⟩
 case round=>
  obtain ⟨i,hi,rfl,HJ⟩:=hrel
  by_cases hlt:i < en
  ·obtain ⟨eb,eoff,rfl,e2,e3⟩:=(HE.out.later hb3) i (by rw [<- HN.out.2.2.2];exact hlt)
   have htg:=fun w=>zFA (env.getD i 0) w
   by_cases hz:-1000000 <= env.getD i 0/\env.getD i 0 <= 1000000
   ·rw [show decide (¬ (-1000000 <= env.getD i 0/\env.getD i 0 <= 1000000))=false by simpa using hz] at htg
    have HJ2:Hid (∀ j,j < i+1->-1000000 <= env.getD j 0/\env.getD j 0 <= 1000000):=fun j hj=>by
     by_cases hji:j < i
     ·exact HJ.out j hji
     ·obtain rfl:j=i:=by omega
      exact hz
    clear hz;generalize env.getD i 0=x at e3 htg
    go_wp2_with (go_at_call 75;refine (htg _).mono ?_;rintro e w5 ⟨rfl,rfl⟩)
    go_round
    case rel=>exact ⟨i+1,by omega,by go_num,HJ2⟩
    case measure=>simp [intOf];omega
   ·have HX:Hid (zB8 env=true):=zML (by rw [<- HN.out.2.2.2];exact hlt) hz
    generalize env.getD i 0=x at e3 htg hz;rw [show decide (¬ (-1000000 <= x/\x <= 1000000))=true by simp;omega] at htg
    clear hz
    go_wp2_with (go_at_call 75;refine (htg _).mono ?_;rintro e w5 ⟨rfl,rfl⟩)
    refine leaves_cons (f:=73) (args:=#[.pointer (some ⟨w.heap.size,0,none⟩),.pointer (some ⟨w.heap.size+1,0,none⟩)]) (by simp) (by simp [go_sem]) ?_
    refine (zEJ w.heap.size _).mono ?_
    rintro e u' w'' ⟨rfl,rfl,rfl⟩
    simp [Leaves,settle,results,Tryz.results49,go_sem,d0,d1]
    unfold zEd;rw [if_pos HX.out,if_pos HX.out];exact ⟨rfl,(hb3.setCell (p:=⟨w.heap.size,0,none⟩) (Nat.le_refl _) _).setCell (p:=⟨w.heap.size+1,0,none⟩) (by simp) _⟩
  ·have hin:i=en:=by omega
   subst hin;have hok:zB8 env=false:=zL3 (fun j hj=>HJ.out j (by rw [HN.out.2.2.2];exact hj))
   have HX:Hid (zB8 env=false):=hok;have hpm:=zHI W3;clear hlt hi
   go_wp2_with (go_at_call 76;refine hpm.mono ?_;rintro e W4 ⟨M,hM,rfl,hpa,hb4⟩)
   have hb5:Below W3.heap.size W3 (W4.alloc (.cells #[.slice (some ⟨b,off,none⟩) n cap,.slice (some ⟨B,0,none⟩) n n,.slice eao i ecap,.map (some M)] 168)):=hb4.alloc hb4.size _;have hpa5:zCs (W4.alloc (.cells #[.slice (some ⟨b,off,none⟩) n cap,.slice (some ⟨B,0,none⟩) n n,.slice eao i ecap,.map (some M)] 168)) M:=World.ownsMap.alloc hpa _
   have hwk:WorkAt (W4.alloc (.cells #[.slice (some ⟨b,off,none⟩) n cap,.slice (some ⟨B,0,none⟩) n n,.slice eao i ecap,.map (some M)] 168)) b off B eao M t env:=by
    have hbb:=hb3.trans (hb5.mono hb3.size);refine ⟨Nat.lt_of_lt_of_le hbB hbb.size,HA.out.below hbb hbB,?_,HE.out.later hbb,hpa5⟩
    have hr:=HR.out;rw [HN.out.1] at hr;exact hr.of_block (hb5.block B hr.lt)
   generalize W4.alloc (.cells #[.slice (some ⟨b,off,none⟩) n cap,.slice (some ⟨B,0,none⟩) n n,.slice eao i ecap,.map (some M)] 168)=W5 at *;have hat:=zPG b off n cap B eao i ecap M env.length t env HN.out.1 h60 HN.out.2.1 HN.out.2.2.1 (zIM hok) rfl HN.out.2.2.2 t.size 0 W5 hn1 (by rw [sub_zero];omega) hwk
   rw [sub_zero] at hat;have hs3:=hb3.size;have hs5:=hb5.size;clear hwk hpa hpa5 hok hpm hb4 HR
   cases hx:t.eval env with
   | none=>
    rw [hx] at hat;have HXN:Hid (t.eval env=none):=hx;clear hx;refine hat.mono ?_
    rintro e w6 ⟨hb6,rfl⟩
    have hb36:=hb5.trans (hb6.mono hb5.size);have k0:=(hb36.cell (p:=⟨w.heap.size,0,none⟩) (by simp only;omega)).trans d0
    have k1:=(hb36.cell (p:=⟨w.heap.size+1,0,none⟩) (by simp only;omega)).trans d1
    have z0:=(hb36.frozen (p:=⟨w.heap.size,0,none⟩) (by simp only;omega)).trans g0
    have z1:=(hb36.frozen (p:=⟨w.heap.size+1,0,none⟩) (by simp only;omega)).trans g1
    have hbf:=hb3.trans (hb36.mono hb3.size);refine leaves_cons (f:=73) (args:=#[.pointer (some ⟨w.heap.size,0,none⟩),.pointer (some ⟨w.heap.size+1,0,none⟩)]) (by simp) (by simp [go_sem]) ?_
    refine (zGT w.heap.size 8 _ _ w6 k0 k1 z0 z1).mono ?_
    rintro e u' w'' ⟨rfl,rfl,rfl⟩
    simp [Leaves,settle,results,Tryz.results49,go_sem,k0,k1]
    unfold zEd;rw [if_neg (by rw [HX.out];simp),if_neg (by rw [HX.out];simp),HXN.out]
    exact ⟨rfl,(((hbf.setCell (p:=⟨w.heap.size,0,none⟩) (Nat.le_refl _) _).setCell (p:=⟨w.heap.size+1,0,none⟩) (by simp) _)).drew⟩
   | some x=>
    rw [hx] at hat;have HXN:Hid (t.eval env=some x):=hx;clear hx;refine hat.mono ?_
    rintro e w6 ⟨hb6,rfl⟩
    have hb36:=hb5.trans (hb6.mono hb5.size);have k0:=(hb36.cell (p:=⟨w.heap.size,0,none⟩) (by simp only;omega)).trans d0
    have k1:=(hb36.cell (p:=⟨w.heap.size+1,0,none⟩) (by simp only;omega)).trans d1
    have z0:=(hb36.frozen (p:=⟨w.heap.size,0,none⟩) (by simp only;omega)).trans g0
    have z1:=(hb36.frozen (p:=⟨w.heap.size+1,0,none⟩) (by simp only;omega)).trans g1
    have hbf:=hb3.trans (hb36.mono hb3.size);clear d0 d1 g0 g1 hat
    go_wp2_with fail
    refine leaves_cons (f:=73) (args:=#[.pointer (some ⟨w.heap.size,0,none⟩),.pointer (some ⟨w.heap.size+1,0,none⟩)]) (by simp) (by simp [go_sem]) ?_
    refine (zEJ w.heap.size _).mono ?_
    rintro e u' w'' ⟨rfl,rfl,rfl⟩
    simp [Leaves,settle,results,Tryz.results49,go_sem,k0,k1]
    unfold zEd;rw [if_neg (by rw [HX.out];simp),if_neg (by rw [HX.out];simp),HXN.out]
    exact ⟨rfl,(hbf.setCell (p:=⟨w.heap.size,0,none⟩) (Nat.le_refl _) _).setCell (p:=⟨w.heap.size+1,0,none⟩) (by simp) _⟩
theorem zAI.env {w:World} {v:Value} {env:List Int} (h:zAI w v env):∃ eao ecap,v=.slice eao env.length ecap/\zFo w eao env:=by
 obtain ⟨ao,cap,rfl,h⟩:=h;refine ⟨ao,cap,rfl,fun i hi=>?_⟩
 obtain ⟨b,off,rfl,hlt,hat⟩:=h (by intro h;subst h;simp at hi)
 exact ⟨b,off,rfl,hlt,hat i hi⟩
theorem zND (v ev:Value) (l:List (Int × Int)) (env:List Int) (t:Tm) (w:World) (hB:0 < w.heap.size) (hT:zAJ w) (hV:zAX w v l) (hE:zAI w ev env) (ht:zAD (l.map Prod.fst)=0->t.Wf/\t.ops=l) :
  Calls Tryz.prog 49 #[v,ev] w fun e w'=>e=.returned (.tuple #[.int .i64 (zIC l t env),.int .i64 (zID l t env)])/\Below w.heap.size w w':=by
 have hb0:=zGW w;have heo:=zMO v l env.length t (e0 w) (Nat.lt_of_lt_of_le hB hb0.size) (hT.below hb0 hB) (hV.below hb0) ht;obtain ⟨eao,ecap,rfl,hEA⟩:=hE.env
 by_cases hx:zAq env.length l t=0
 ·obtain ⟨h0,h6,hops,hg,htt,h60⟩:=zGx hx ht
  subst hops;obtain ⟨ao,cap,rfl,_,h⟩:=hV;obtain ⟨b,off,rfl,hlt,hat⟩:=h t.ops_ne;refine (zNt b off _ cap eao _ ecap t env w t.ops_length (by rw [ops_length];exact h60) rfl (by omega) hg htt hlt hat hEA (heo.mono fun e w' ⟨h1,_,h3⟩=>⟨h1,?_⟩)).mono fun e w' ⟨h1,h2⟩=>⟨?_,h2⟩
  ·obtain ⟨B,p1,p2,p3⟩:=h3 hx
   exact ⟨B,p1,p2,p3⟩
  ·rw [h1]
   simp only [zIC,zID,hx,ne_eq,not_true_eq_false,if_false]
   all_goals (cases t.eval env <;> rfl)
 ·obtain ⟨ao,cap,rfl,_,h⟩:=hV
  refine (zO7 ao _ cap eao _ ecap _ w hx (heo.mono fun e w' ⟨h1,h2,_⟩=>⟨h2 hx,h1⟩)).mono fun e w' ⟨h1,h2⟩=>⟨?_,h2⟩
  rw [h1];unfold zIC zID;rw [if_pos hx,if_pos hx]
theorem zLm (v ev:Value) (l:List (Int × Int)) (env:List Int) (w:World) (hB:0 < w.heap.size) (hT:zAJ w) (hV:zAX w v l) (hE:zAI w ev env) :
  Calls Tryz.prog 49 #[v,ev] w fun e w'=>e=.returned (.tuple #[.int .i64 (exN l env),.int .i64 (exC l env)])/\Below w.heap.size w w':=
 zND v ev l env (zB9 l) w hB hT hV hE (zEE l)
theorem zGi (v ev:Value) (l:List (Int × Int)) (env:List Int) (w:World) (hB:0 < w.heap.size) (hT:zAJ w) (hV:zAX w v l) (hE:zAI w ev env) :
  Calls Tryz.prog 27 #[v,ev] w fun e w'=>e=.returned (.bool (zBt l env))/\Below w.heap.size w w':=by
 have hx:=zLm v ev l env w hB hT hV hE;unfold zBt;generalize exN l env=n at hx ⊢;generalize exC l env=c at hx ⊢;clear hV hE hT
 go_enter Tryz.func27,Tryz.ntmps27
 go_wp2_with (go_at_call 49;refine hx.mono ?_;rintro e w1 ⟨rfl,hb1⟩)
 all_goals go_ret
 all_goals exact ⟨by first | (simp [*];done) | (simp [*];by_cases h1:n=1 <;> simp [h1]),hb1⟩
theorem zGR (ao ro:Option Addr) (n cap rn rc:Nat) (w:World) :
  Calls Tryz.prog 26 #[.agg #[.slice ao n cap,.slice ro rn rc]] w fun e w'=>e=.returned (.agg #[.slice ao n cap,.slice none 0 0])/\Below w.heap.size w w':=by
 go_enter Tryz.func26,Tryz.ntmps26
 go_wp2_with fail
 exact bodyPost_ret (v:=.agg #[.slice ao n cap,.slice none 0 0]) (by simp [results,Tryz.results26,go_sem]) rfl ⟨rfl,((Below.refl _ _).alloc (Nat.le_refl _) _).alloc (by simp) _⟩
theorem zK1 (va vr gv sv:Value) (B:Nat) (m:Mo) (env:List Int) (r:Ru) (w:World) (hB:0 < w.heap.size) (hT:zAJ w) (hV:zAU w va vr m) (hm:mcode m=0) (hr:zA1 m.vars.length r=0) (he:env.length=m.vars.length)
  (hrow:w.rowIs B 3 env.length (fun j=>.int .i64 (env.getD j 0))) (hg:zAX w gv r.guard) (hs:zCE w sv r.sets) :
  Calls Tryz.prog 62 #[.agg #[va,vr],.slice (some ⟨B,0,none⟩) env.length env.length,.agg #[gv,sv]] w fun e w'=>e=.returned (.tuple #[.int .i64 (zKb (zA0 m.vars env r)),.int .i64 (zKx (zA0 m.vars env r))])/\Below w.heap.size w w':=by
 obtain ⟨h6,hsv⟩:=zMU hr;have hv6:=(zAn hm).1;obtain ⟨ao,cap,rfl⟩:=hV.1.shape;obtain ⟨ro,rc,rfl⟩:=hV.2.shape;obtain ⟨go,gc,rfl⟩:=hg.shape;obtain ⟨so,sc,rfl⟩:=hs.shape;have hA2:∀ o o',Below w.heap.size w ((w.alloc o).alloc o'):=fun o o'=>((Below.refl _ _).alloc (Nat.le_refl _) o).alloc (by simp) o'
 have hI:zAI w (.slice (some ⟨B,0,none⟩) env.length env.length) env:=by
  have h1:=zCx hrow
  have e1:(List.range env.length).map (fun j=>env.getD j 0)=env:=by
   apply List.ext_getElem?
   intro i
   by_cases hi:i < env.length
   ·simp [hi,List.getD_eq_getElem?_getD]
   ·simp [hi]
  rwa [e1] at h1
 have hho:=fun w' (hb:Below w.heap.size w w')=>zGi (.slice go r.guard.length gc) (.slice (some ⟨B,0,none⟩) env.length env.length) r.guard env w' (Nat.lt_of_lt_of_le hB hb.size) (hT.below hb hB) (hg.below hb) (hI.below hb)
 have hcl:=fun w' (hb:Below w.heap.size w w')=>zMx B env w' (by omega) (zAh hrow hb)
 have HEx:Hid (∀ w' (_:Below w.heap.size w w') v l,zAX w' v l->Calls Tryz.prog 49 #[v,.slice (some ⟨B,0,none⟩) env.length env.length] w' fun e w2=>e=.returned (.tuple #[.int .i64 (exN l env),.int .i64 (exC l env)])/\Below w'.heap.size w' w2):=fun w' hb v l hv=>zLm v _ l env w' (Nat.lt_of_lt_of_le hB hb.size) (hT.below hb hB) hv (hI.below hb)
 have HCo:Hid (∀ w' (_:Below w.heap.size w w') vv vals,zAI w' vv vals->Calls Tryz.prog 99 #[.agg #[.slice ao m.vars.length cap,.slice none 0 0],vv] w' fun e w2=>e=.returned (.tuple #[.int .i64 (zCw ⟨m.vars,[]⟩ vals),.int .i64 (zBv ⟨m.vars,[]⟩ vals)])/\Below w'.heap.size w' w2):=fun w' hb vv vals hi=>
  zKV _ _ vv ⟨m.vars,[]⟩ vals w' (Nat.lt_of_lt_of_le hB hb.size) (hT.below hb hB) ⟨hV.1.below hb,⟨none,0,rfl,⟨by simp,fun _=>⟨rfl,rfl⟩⟩,fun h=>by simp at h⟩⟩ hi
 have HS:Hid (zCE w (.slice so r.sets.length sc) r.sets):=hs;have HSV:Hid (∀ j,j < r.sets.length->0 <= (r.sets.getD j st0).var/\(r.sets.getD j st0).var < m.vars.length):=hsv
 have HE:Hid (env.length=m.vars.length):=he;have HM0:Hid (mcode ⟨m.vars,[]⟩=0):=zG5 hm;clear hV hT hg hs hsv hm hr hI hrow he
 by_cases hgd:zBt r.guard env=true
 ·rw [hgd] at hho
  go_enter Tryz.func62,Tryz.ntmps62
  go_wp2_with (go_at_call 27;refine (hho _ (hA2 _ _)).mono ?_;rintro e w1 ⟨rfl,hb1⟩;have hbw1:=(hA2 _ _).trans (hb1.mono (hA2 _ _).size))
  have hs1:w.heap.size+1 < w1.heap.size:=by have:=hb1.size;simp at this;omega
  have k10:w1.cell? ⟨w.heap.size,0,none⟩=some (.slice ao m.vars.length cap):=(hb1.cell (p:=⟨w.heap.size,0,none⟩) (by simp;omega)).trans (by simp [go_sem])
  have k11:w1.cell? ⟨w.heap.size,1,none⟩=some (.slice ro m.rules.length rc):=(hb1.cell (p:=⟨w.heap.size,1,none⟩) (by simp;omega)).trans (by simp [go_sem])
  have k12:w1.cell? ⟨w.heap.size+1,1,none⟩=some (.slice so r.sets.length sc):=(hb1.cell (p:=⟨w.heap.size+1,1,none⟩) (by simp)).trans (by simp [go_sem])
  have HC1:Hid (∀ w',Below w1.heap.size w1 w'->w'.cell? ⟨w.heap.size,0,none⟩=some (.slice ao m.vars.length cap)/\w'.cell? ⟨w.heap.size,1,none⟩=some (.slice ro m.rules.length rc)/\w'.cell? ⟨w.heap.size+1,1,none⟩=some (.slice so r.sets.length sc)):=fun w' hb=>⟨(hb.cell (p:=⟨w.heap.size,0,none⟩) (by simp only;omega)).trans k10,(hb.cell (p:=⟨w.heap.size,1,none⟩) (by simp only;omega)).trans k11,(hb.cell (p:=⟨w.heap.size+1,1,none⟩) hs1).trans k12⟩
  have HBW1:Hid (Below w.heap.size w w1):=hbw1;have hcl1:=hcl w1 hbw1;clear hho hcl hb1 hbw1
  go_wp2_with (go_at_call 98;refine hcl1.mono ?_;rintro e w2 ⟨g,gcap,rfl,hgl,hb2,ho2⟩;obtain ⟨k20,k21,k22⟩:=HC1.out w2 hb2)
  have HO2:Hid (w2.ownsRow w1.heap.size 3 1 (.slice (some ⟨g,0,none⟩) env.length gcap) env.length (zAE env)):=ho2;have HB2:Hid (Below w1.heap.size w1 w2):=hb2;have HRS:Hid (∀ j,j < r.sets.length->exC (r.sets.getD j st0).val env≠0->zA0 m.vars env r=none):=fun j hj h=>zKg hj h
  have HRC:Hid (zI3 env r->(zBv ⟨m.vars,[]⟩ (zA5 env r)=0->zA0 m.vars env r=some (zCw ⟨m.vars,[]⟩ (zA5 env r)))/\(zBv ⟨m.vars,[]⟩ (zA5 env r)≠0->zA0 m.vars env r=none)):=fun h=>zJb hgd h HE.out HM0.out rfl
  have HBL:Hid (zA5 env r=zCM env r.sets r.sets.length):=rfl;obtain ⟨sn,hsn⟩:∃ sn,sn=r.sets.length:=⟨_,rfl⟩
  have HSN:Hid (sn=r.sets.length):=hsn;rw [<- hsn] at h6 HS HC1 k22 ⊢;obtain ⟨res,hres⟩:∃ res,zA0 m.vars env r=res:=⟨_,rfl⟩
  rw [hres] at HRS HRC;have HRes:Hid (zA0 m.vars env r=res):=hres;clear hcl1 ho2 hb2 hsn hres hgd
  go_loopw [25] (fun i wr=>∃ k:Nat,k <= sn/\i=.int .i64 k/\Hid (∀ j,j < k->exC (r.sets.getD j st0).val env=0)/\Hid (wr.ownsRow w1.heap.size 3 1 (.slice (some ⟨g,0,none⟩) env.length gcap) env.length (zAE (zCM env r.sets k)))/\Hid (Below w1.heap.size w1 wr)) (fun i _=>sn - (intOf i).toNat)
  case atStart=>exact ⟨0,Nat.zero_le _,rfl,fun j hj=>by omega,HO2.out,HB2.out⟩
  case round=>
   obtain ⟨k,hk,rfl,HOK,HOwn,HBel⟩:=hrel;have hbel:=HBel.out;have hbw:=HBW1.out.trans (hbel.mono HBW1.out.size);obtain ⟨kr0,kr1,kr2⟩:=HC1.out wr hbel
   by_cases hlt:k < sn
   ·obtain ⟨b,off,rfl,hblt,hat⟩:=HS.out.at (i:=k) (by rw [<- HSN.out];exact hlt)
    obtain ⟨c0,u,c1,hou⟩:=hat.below hbw hblt;obtain ⟨uo,uc,rfl⟩:=hou.shape;have HSk:=HSV.out k (by rw [<- HSN.out];exact hlt)
    have HRk:Hid (exC (r.sets.getD k st0).val env≠0->res=none):=HRS.out k (by rw [<- HSN.out];exact hlt)
    have HStep:Hid (zCM env r.sets (k+1)=(zCM env r.sets k).set (r.sets.getD k st0).var.toNat (exN (r.sets.getD k st0).val env)):=rfl
    have HOK2:Hid (exC (r.sets.getD k st0).val env=0->∀ j,j < k+1->exC (r.sets.getD j st0).val env=0):=fun h j hj=>by
     by_cases hjk:j=k
     ·subst hjk;exact h
     ·exact HOK.out j (by omega)
    have hAr:∀ o,Below w.heap.size w (wr.alloc o):=fun o=>hbw.alloc hbw.size o
    have hex:=fun o=>HEx.out (wr.alloc o) (hAr o) _ _ (hou.below ((Below.refl _ _).alloc (Nat.le_refl _) o))
    obtain ⟨hv0,hv1⟩:=HSk;obtain ⟨vn,hvn⟩:∃ vn:Nat,(r.sets.getD k st0).var=vn:=⟨(r.sets.getD k st0).var.toNat,by omega⟩
    rw [hvn] at hv0 hv1 c0 HStep;rw [Int.toNat_natCast] at HStep;have hvn2:vn < env.length:=by rw [HE.out];omega
    generalize exN (r.sets.getD k st0).val env=N at hex HStep;generalize exC (r.sets.getD k st0).val env=C at hex HRk HOK2;generalize (r.sets.getD k st0).val.length=ul at hex c1 hou
    have HBr:Hid (∀ o w4,Below (wr.alloc o).heap.size (wr.alloc o) w4->Below w1.heap.size w1 w4/\w4.ownsRow w1.heap.size 3 1 (.slice (some ⟨g,0,none⟩) env.length gcap) env.length (zAE (zCM env r.sets k))/\w4.cell? ⟨wr.heap.size,0,none⟩=(wr.alloc o).cell? ⟨wr.heap.size,0,none⟩):=fun o w4 hb=>
     ⟨(hbel.alloc hbel.size o).trans (hb.mono (hbel.alloc hbel.size o).size),zAR (zAR HOwn.out ((Below.refl _ _).alloc (Nat.le_refl _) o) (Nat.le_refl _)) hb (Nat.le_refl _),hb.cell (p:=⟨wr.heap.size,0,none⟩) (by simp)⟩
    clear hat hou hvn hAr HRS HEx HCo HS HSV HRC kr0 kr1 kr2 k20 k21 k22 k10 k11 k12 hbel hbw
    by_cases hC:C=0
    ·subst hC
     go_wp2_with (go_at_call 49;refine (hex _).mono ?_;rintro e w4 ⟨rfl,hb4⟩;obtain ⟨hb14,ho4,hcv⟩:=HBr.out _ w4 hb4;have hcell:=ho4.cellAt vn (by omega);rw [show (zAE (zCM env r.sets k))[vn]? = some (.int .i64 ((zCM env r.sets k).getD vn 0)) by simp [zAE,List.getD_eq_getElem?_getD,zDv,hvn2]] at hcell;have hfz:=ho4.frozenAt vn;have hcv2:w4.cell? ⟨wr.heap.size,0,none⟩=some (.int .i64 vn):=(by rw [hcv];simp [go_sem]))
     refine ⟨⟨k+1,hlt,by first | rfl | simp,HOK2.out trivial,?_,hb14.setCell hgl _⟩,by simp [intOf];omega⟩
     have hst:=(ho4.stored vn (.int .i64 N)).1;rw [show (zAE (zCM env r.sets k)).set vn (.int .i64 N)=zAE (zCM env r.sets (k+1)) by rw [HStep.out];simp [zAE,List.map_set]] at hst
     exact hst
    ·have HRN:Hid (res=none):=HRk.out hC
     go_wp2_with (go_at_call 49;refine (hex _).mono ?_;rintro e w4 ⟨rfl,hb4⟩;obtain ⟨hb14,ho4,hcv⟩:=HBr.out _ w4 hb4)
     go_ret2
     exact ⟨by rw [HRes.out,HRN.out];rfl,HBW1.out.trans (hb14.mono HBW1.out.size)⟩
   ·have hkn:k=sn:=by omega
    subst hkn;have hbe:zA5 env r=zCM env r.sets k:=by rw [HBL.out,HSN.out]
    have hrc:=HRC.out (fun j hj=>HOK.out j (by rw [HSN.out];exact hj))
    have ho:=HOwn.out;rw [<- hbe] at ho;have hlb:(zA5 env r).length=env.length:=by rw [hbe,zDv]
    rw [<- hlb] at ho;have hba:=zGR ao ro m.vars.length cap m.rules.length rc wr;have HI:Hid (∀ w',Below wr.heap.size wr w'->zAI w' (.slice (some ⟨g,0,none⟩) (zA5 env r).length gcap) (zA5 env r)):=fun w' hb=>(zA4 ho).below hb
    rw [hlb] at HI;have hco:=fun w' (hb:Below wr.heap.size wr w')=>HCo.out w' (hbw.trans (hb.mono hbw.size)) _ _ (HI.out w' hb)
    have HBWr:Hid (Below w.heap.size w wr):=hbw;generalize zCw ⟨m.vars,[]⟩ (zA5 env r)=cv at hco hrc;generalize zBv ⟨m.vars,[]⟩ (zA5 env r)=cc at hco hrc;obtain ⟨hrc0,hrc1⟩:=hrc;clear hbe ho hlb HI HRC HRS HEx HCo HS HSV k20 k21 k22 k10 k11 k12 hbel hbw hlt hk HOK HOwn
    by_cases hcc:cc=0
    ·have hrn:=hrc0 hcc
     subst hcc;have HRN:Hid (res=some cv):=hrn;clear hrc0 hrc1 hrn
     go_wp2_with (first | (go_at_call 26;refine hba.mono ?_;rintro e w5 ⟨rfl,hb5⟩) | (go_at_call 99;refine (hco _ hb5).mono ?_;rintro e w6 ⟨rfl,hb6⟩))
     go_ret2
     exact ⟨by rw [HRes.out,HRN.out];rfl,HBWr.out.trans ((hb5.trans (hb6.mono hb5.size)).mono HBWr.out.size)⟩
    ·have HRN:Hid (res=none):=hrc1 hcc
     clear hrc0 hrc1
     go_wp2_with (first | (go_at_call 26;refine hba.mono ?_;rintro e w5 ⟨rfl,hb5⟩) | (go_at_call 99;refine (hco _ hb5).mono ?_;rintro e w6 ⟨rfl,hb6⟩))
     go_ret2
     exact ⟨by rw [HRes.out,HRN.out];rfl,HBWr.out.trans ((hb5.trans (hb6.mono hb5.size)).mono HBWr.out.size)⟩
 ·have hgd2:zBt r.guard env=false:=by simpa using hgd
  rw [hgd2] at hho;rw [zIv hgd2]
  go_enter Tryz.func62,Tryz.ntmps62
  go_wp2_with (go_at_call 27;refine (hho _ (hA2 _ _)).mono ?_;rintro e w1 ⟨rfl,hb1⟩)
  go_ret2
  exact ⟨rfl,(hA2 _ _).trans (hb1.mono (hA2 _ _).size)⟩
theorem zKu {m:Mo} {code:Int} (h:zAk m code=0):mcode m=0/\0 <= code/\code < zAC m.vars m.vars.length:=by
 unfold zAk at h
 split at h
 ·rename_i h1
  split at h
  ·rename_i h2;exact ⟨h1,h2⟩
  ·cases h
 ·rename_i h1;exact absurd h h1
theorem zF7 (va vr:Value) (m:Mo) (code:Int) (w:World) (hB:0 < w.heap.size) (hT:zAJ w) (hV:zAU w va vr m) (h:zAk m code=0) :
  Calls Tryz.prog 25 #[.agg #[va,vr],.int .i64 code] w fun e w'=>∃ B,e=.returned (.tuple #[.slice (some ⟨B,0,none⟩) (zAt m.vars code).length (zAt m.vars code).length,.int .i64 0])/\w.heap.size <= B/\Below w.heap.size w w'/\w'.rowIs B 3 (zAt m.vars code).length (fun j=>.int .i64 ((zAt m.vars code).getD j 0)):=by
 obtain ⟨h1,h2⟩:=zKu h;refine (zFC va vr m code w hB hT hV h1 h2).mono fun e w' ⟨B,he,hl,hb,hr⟩=>?_
 rw [<- zDl m.vars code] at he hr;refine ⟨B,he,hl,hb,hr.congr fun j hj=>?_⟩
 rw [zDl] at hj;simp [zAt,List.getD_eq_getElem?_getD,hj]
noncomputable def zCR (m:Mo) (ps:List (List (Int × Int))) (code:Int):Int:=if zBz m ps=0 then zAk m code else zBz m ps
noncomputable def zAG (m:Mo) (ps:List (List (Int × Int))) (code:Int):List Bool:=if zCR m ps code=0 then ps.map (fun p=>zBt p (zAt m.vars code)) else []
def zAS (w:World) (v:Value) (t:TypeId):Prop:=∀ a n c,v=.slice (some a) n c->∃ cs fr,w.heap[a.block]? = some (.cells cs t fr)
theorem zAS.nil (w:World) (t:TypeId):zAS w (.slice none 0 0) t:=fun a n c e=>by simp at e
theorem zBA {m:Mo} {ps:List (List (Int × Int))} (h:zBz m ps=0):mcode m=0/\ps.length <= 6:=by
 unfold zBz at h
 split at h
 ·rename_i h1
  split at h
  ·simp at h
  ·exact ⟨h1,by omega⟩
 ·rename_i h1;exact absurd h h1
theorem zDd {m:Mo} (code:Int) (h:mcode m=0):zAk ⟨m.vars,[]⟩ code=zAk m code:=by
 unfold zAk;rw [if_pos h,if_pos (zG5 h)]
theorem zEt (va vr pv:Value) (m:Mo) (ps:List (List (Int × Int))) (code:Int) (w:World) (hB:0 < w.heap.size) (hT:zAJ w) (hV:zAU w va vr m) (hP:zBB w pv ps) :
  Calls Tryz.prog 8 #[.agg #[va,vr],pv,.int .i64 code] w fun e w'=>∃ v,e=.returned (.tuple #[v,.int .i64 (zCR m ps code)])/\Below w.heap.size w w'/\zAM w' v (zAG m ps code)/\zAS w' v 4:=by
 have hA:∀ o,Below w.heap.size w (w.alloc o):=fun o=>(Below.refl _ _).alloc (Nat.le_refl _) o
 have hpr:=fun o=>zGZ va vr pv m ps (w.alloc o) (Nat.lt_of_lt_of_le hB (hA o).size) (hT.below (hA o) hB) (hV.below (hA o)) (hP.below (hA o))
 obtain ⟨ao,cap,rfl⟩:=hV.1.shape;obtain ⟨ro,rc,rfl⟩:=hV.2.shape;obtain ⟨po,pc,rfl,hPa⟩:=hP;have hba:=fun w=>zGR ao ro m.vars.length cap m.rules.length rc w
 by_cases hp:zBz m ps=0
 ·obtain ⟨hm,hp6⟩:=zBA hp
  rw [hp] at hpr;have hVb:∀ w',Below w.heap.size w w'->zAU w' (.slice ao m.vars.length cap) (.slice none 0 0) ⟨m.vars,[]⟩:=fun w' hb=>⟨hV.1.below hb,⟨none,0,rfl,⟨by simp,fun _=>⟨rfl,rfl⟩⟩,fun h=>by simp at h⟩⟩
  by_cases hw:zAk m code=0
  ·have hlc:zCR m ps code=0:=by unfold zCR;rw [if_pos hp,hw]
   have hll:zAG m ps code=ps.map (fun p=>zBt p (zAt m.vars code)):=by unfold zAG;rw [if_pos hlc]
   rw [hlc,hll];have hvl:=fun w' (hb:Below w.heap.size w w')=>zF7 _ _ ⟨m.vars,[]⟩ code w' (Nat.lt_of_lt_of_le hB hb.size) (hT.below hb hB) (hVb w' hb) (by rw [zDd _ hm];exact hw)
   have hvl2:∀ w',Below w.heap.size w w'->Calls Tryz.prog 25 #[.agg #[.slice ao m.vars.length cap,.slice none 0 0],.int .i64 code] w' fun e w2=>∃ B,e=.returned (.tuple #[.slice (some ⟨B,0,none⟩) (zAt m.vars code).length (zAt m.vars code).length,.int .i64 0])/\w'.heap.size <= B/\Below w'.heap.size w' w2/\w2.rowIs B 3 (zAt m.vars code).length (fun j=>.int .i64 ((zAt m.vars code).getD j 0)):=hvl
   generalize zAt m.vars code=env at hvl2 ⊢;have HHo:Hid (∀ w' (_:Below w.heap.size w w') v ev l,zAX w' v l->zAI w' ev env->Calls Tryz.prog 27 #[v,ev] w' fun e w2=>e=.returned (.bool (zBt l env))/\Below w'.heap.size w' w2):=fun w' hb v ev l h1 h2=>zGi v ev l env w' (Nat.lt_of_lt_of_le hB hb.size) (hT.below hb hB) h1 h2
   have HP:Hid (ps≠[]->∃ b off,po=some ⟨b,off,none⟩/\b < w.heap.size/\∀ i,i < ps.length->∃ u,w.cell? ⟨b,off+i,none⟩=some u/\zAX w u (ps.getD i [])):=hPa
   have HML:Hid ((ps.map (fun p=>zBt p env)).length=ps.length/\∀ i,i < ps.length->(ps.map (fun p=>zBt p env)).getD i false=zBt (ps.getD i []) env):=⟨by simp,fun i hi=>by simp [List.getD_eq_getElem?_getD,hi]⟩
   generalize ps.map (fun p=>zBt p env)=lt at HML ⊢
   obtain ⟨pn,hpn⟩:∃ pn,pn=ps.length:=⟨_,rfl⟩
   have HPN:Hid (pn=ps.length):=hpn;rw [<- hpn] at hpr hp6 HP HML ⊢;generalize m.vars.length=n at *;generalize m.rules.length=rn at *;have hmk:=run_make_row' (P:=Tryz.prog) 53 4 (.bool false) 1 Tryz.underlying53 zGG rfl .i64 .i64 pn (by omega) (by omega)
   clear hV hT hVb hlc hll hPa hvl hpn hw hm hp
   go_enter Tryz.func8,Tryz.ntmps8
   go_wp2_with (first | (go_at_call 24;refine (hpr _).mono ?_;rintro e w1 ⟨rfl,hb1⟩;have hbw1:=(hA _).trans (hb1.mono (hA _).size);have k10:w1.cell? ⟨w.heap.size,0,none⟩=some (.slice ao n cap):=(hb1.cell (p:=⟨w.heap.size,0,none⟩) (by simp)).trans (by simp [go_sem]);have k11:w1.cell? ⟨w.heap.size,1,none⟩=some (.slice ro rn rc):=(hb1.cell (p:=⟨w.heap.size,1,none⟩) (by simp)).trans (by simp [go_sem])) | (go_at_call 26;refine (hba _).mono ?_;rintro e w2 ⟨rfl,hb2⟩;have hbw2:=hbw1.trans (hb2.mono hbw1.size)) | (go_at_call 25;refine (hvl2 _ hbw2).mono ?_;rintro e w3 ⟨B,rfl,hBl,hb3,hr3⟩))
   have hbw3:=hbw2.trans (hb3.mono hbw2.size);have hrow0:=World.rowIs_made w3 (.bool false) pn 4
   have HI3:Hid (∀ w',Below w3.heap.size w3 w'->zAI w' (.slice (some ⟨B,0,none⟩) env.length env.length) env):=fun w' hb=>by
    have h1:=zCx hr3
    have e1:(List.range env.length).map (fun j=>env.getD j 0)=env:=by
     apply List.ext_getElem?
     intro i
     by_cases hi:i < env.length
     ·simp [hi,List.getD_eq_getElem?_getD]
     ·simp [hi]
    rw [e1] at h1;exact h1.below hb
   have HB3:Hid (Below w.heap.size w w3):=hbw3;clear hpr hvl2 hba hmk hb1 hbw1 k10 k11 hb2 hbw2 hb3 hr3 hbw3 hBl
   go_loopw [35] (fun i wr=>∃ k:Nat,k <= pn/\i=.int .i64 k/\Hid (wr.rowIs w3.heap.size 4 pn (fun j=>if j < k then .bool (lt.getD j false) else .bool false))/\Hid (Below w3.heap.size w3 wr)) (fun i _=>pn - (intOf i).toNat)
   case atStart=>exact ⟨0,Nat.zero_le _,rfl,hrow0.congr (fun i hi=>by rw [if_neg (by omega)]),(Below.refl _ _).alloc (Nat.le_refl _) _⟩
   case round=>
    obtain ⟨k,hk,rfl,HRow,HBel⟩:=hrel;have hbel:=HBel.out;have hbw:=HB3.out.trans (hbel.mono HB3.out.size)
    by_cases hlt:k < pn
    ·obtain ⟨b,off,rfl,hblt,hat⟩:=HP.out (by intro h;have:=HPN.out;subst h;simp at this;omega)
     obtain ⟨u,hu,hou⟩:=hat k hlt;have c0:=(hbel.cell (p:=⟨b,off+k,none⟩) (Nat.lt_of_lt_of_le hblt HB3.out.size)).trans ((HB3.out.cell (p:=⟨b,off+k,none⟩) hblt).trans hu);obtain ⟨uo,uc,rfl⟩:=hou.shape;have hho:=HHo.out wr hbw _ _ _ (hou.below hbw) (HI3.out wr hbel);have HLk:=(show Hid _ from HML.out.2 k hlt)
     generalize zBt (ps.getD k []) env=tv at hho HLk;generalize (ps.getD k []).length=ul at *;have HWr:Hid (∀ w4,Below wr.heap.size wr w4->w4.rowIs w3.heap.size 4 pn (fun j=>if j < k then .bool (lt.getD j false) else .bool false)/\Below w3.heap.size w3 w4):=fun w4 hb=>⟨zAh HRow.out hb,hbel.trans (hb.mono hbel.size)⟩
     clear hat hu hou hbel hbw HHo HI3 HP HML
     go_wp2_with (go_at_call 27;refine hho.mono ?_;rintro e w4 ⟨rfl,hb4⟩;obtain ⟨hr4,hb34⟩:=HWr.out w4 hb4;have hf:=hr4.frozen k;have hc:w4.cell? ⟨w3.heap.size,k,none⟩=some (.bool false):=(by rw [hr4.cell hlt,if_neg (by omega)]);have HR4:Hid (w4.rowIs w3.heap.size 4 pn (fun j=>if j < k then .bool (lt.getD j false) else .bool false)):=hr4;clear hr4)
     refine ⟨⟨k+1,hlt,by first | rfl | simp,(HR4.out.set k (.bool tv)).congr fun i hi=>?_,hb34.setCell (Nat.le_refl _) _⟩,by simp [intOf];omega⟩
     by_cases hik:i=k
     ·subst hik;rw [if_pos rfl,if_pos (by omega),HLk.out]
     ·rw [if_neg hik]
      by_cases hlk:i < k
      ·rw [if_pos hlk,if_pos (by omega)]
      ·rw [if_neg hlk,if_neg (by omega)]
    ·have hkn:k=pn:=by omega
     subst hkn;have hrow:=HRow.out.congr (g:=fun j=>.bool (lt.getD j false)) (fun i hi=>by rw [if_pos hi])
     rw [<- HML.out.1] at hrow;have hbo:=zEz hrow;rw [HML.out.1] at hbo;have HBO:=(show Hid _ from hbo)
     have HTy:Hid (zAS wr (.slice (some ⟨w3.heap.size,0,none⟩) k k) 4):=by
      intro a n c e
      injection e with e _ _
      injection e with e
      subst e;obtain ⟨cs,hcs,_⟩:=HRow.out;exact ⟨cs,(0,0),hcs⟩
     clear hrow hbo
     go_wp2_with fail
     go_ret2
     exact ⟨_,rfl,hbw,HBO.out,HTy.out⟩
  ·have hlc:zCR m ps code=zAk m code:=by unfold zCR;rw [if_pos hp]
   have hll:zAG m ps code=[]:=by unfold zAG;rw [if_neg (by rw [hlc];exact hw)]
   rw [hlc,hll];have hvl:=fun w' (hb:Below w.heap.size w w')=>zFx _ _ ⟨m.vars,[]⟩ code w' (Nat.lt_of_lt_of_le hB hb.size) (hT.below hb hB) (hVb w' hb)
   rw [zDd _ hm] at hvl;generalize zAk m code=c at *;generalize zFg ⟨m.vars,[]⟩ code=vs at *;generalize m.vars.length=n at *;generalize m.rules.length=rn at *;generalize ps.length=pn at *;clear hV hT hVb hlc hll hPa
   go_enter Tryz.func8,Tryz.ntmps8
   go_wp2_with (first | (go_at_call 24;refine (hpr _).mono ?_;rintro e w1 ⟨rfl,hb1⟩;have hbw1:=(hA _).trans (hb1.mono (hA _).size);have k10:w1.cell? ⟨w.heap.size,0,none⟩=some (.slice ao n cap):=(hb1.cell (p:=⟨w.heap.size,0,none⟩) (by simp)).trans (by simp [go_sem]);have k11:w1.cell? ⟨w.heap.size,1,none⟩=some (.slice ro rn rc):=(hb1.cell (p:=⟨w.heap.size,1,none⟩) (by simp)).trans (by simp [go_sem])) | (go_at_call 26;refine (hba _).mono ?_;rintro e w2 ⟨rfl,hb2⟩;have hbw2:=hbw1.trans (hb2.mono hbw1.size)) | (go_at_call 25;refine (hvl _ hbw2).mono ?_;rintro e w3 ⟨v,rfl,hb3,_⟩))
   go_ret2
   exact ⟨_,rfl,hbw2.trans (hb3.mono hbw2.size),⟨none,0,rfl,fun h=>absurd rfl h⟩,zAS.nil _ _⟩
 ·have hlc:zCR m ps code=zBz m ps:=by unfold zCR;rw [if_neg hp]
  have hll:zAG m ps code=[]:=by unfold zAG;rw [if_neg (by rw [hlc];exact hp)]
  rw [hlc,hll];generalize zBz m ps=c at *;generalize m.vars.length=n at *;generalize m.rules.length=rn at *;generalize ps.length=pn at *;clear hV hT hlc hll hPa
  go_enter Tryz.func8,Tryz.ntmps8
  go_wp2_with (go_at_call 24;refine (hpr _).mono ?_;rintro e w1 ⟨rfl,hb1⟩)
  go_ret2
  exact ⟨_,rfl,(hA _).trans (hb1.mono (hA _).size),⟨none,0,rfl,fun h=>absurd rfl h⟩,zAS.nil _ _⟩
theorem zEa (va vr pv:Value) (m:Mo) (ps:List (List (Int × Int))) (code:Int) (w:World) (hB:0 < w.heap.size) (hT:zAJ w) (hV:zAU w va vr m) (hP:zBB w pv ps) :
  Calls Tryz.prog 8 #[.agg #[va,vr],pv,.int .i64 code] w fun e w'=>∃ v,e=.returned (.tuple #[v,.int .i64 (zCR m ps code)])/\Below w.heap.size w w'/\zAM w' v (zAG m ps code):=
 (zEt va vr pv m ps code w hB hT hV hP).mono fun _ _ ⟨v,h1,h2,h3,_⟩=>⟨v,h1,h2,h3⟩
def zB4 (m:Mo):Int:=zA3 m.vars (zAv m.vars) m.vars.length
noncomputable def zBk (m:Mo) (ps:List (List (Int × Int))) (l:List (Int × Int)):Nat->List (Int × Int)
 | 0=>[]
 | k+1=>if tru l (zAG m ps (zB4 m)) (k:Int) 0=true then zBk m ps l k else zBk m ps l k++[(zB4 m,(k:Int))]
noncomputable def zAd (m:Mo) (ps:List (List (Int × Int))) (l:List (Int × Int)):List (Int × Int):=zBk m ps l (2 ^ (zAA l).length)
theorem zFZ (m:Mo) (ps:List (List (Int × Int))) (l:List (Int × Int)):∀ k,(zBk m ps l k).length <= k
 | 0=>Nat.le_refl _
 | k+1=>by
  rw [zBk];have:=zFZ m ps l k
  split
  ·omega
  ·rw [List.length_append,List.length_singleton];omega
theorem zGE {m:Mo} {ps:List (List (Int × Int))} {l:List (Int × Int)} (h:zAO m ps l=0):(zAd m ps l).length <= 64:=by
 have h6:=(zAl (zAx h).2).2.2.2.2;have:=zFZ m ps l (2 ^ (zAA l).length);have h2:2 ^ (zAA l).length <= 2 ^ 6:=Nat.pow_le_pow_right (by decide) h6
 unfold zAd;omega
theorem zDX {m:Mo} {ps:List (List (Int × Int))} {l:List (Int × Int)} (h:zAO m ps l=0) {c:Int} (hc:0 <= c/\c < zAC m.vars m.vars.length):zCR m ps c=0/\(zAG m ps c).length=ps.length:=by
 obtain ⟨hp,_⟩:=zAx h;obtain ⟨hm,_⟩:=zBA hp;have h1:zCR m ps c=0:=by unfold zCR;rw [if_pos hp,zBT hm hc]
 refine ⟨h1,?_⟩
 unfold zAG;rw [if_pos h1,List.length_map]
theorem zGY {m:Mo} {ps:List (List (Int × Int))} {l:List (Int × Int)} (h:zAO m ps l=0):0 <= zB4 m/\zB4 m < zAC m.vars m.vars.length:=by
 obtain ⟨hp,_⟩:=zAx h;obtain ⟨hm,_⟩:=zBA hp;exact zDK (zAn hm) (Nat.le_refl _) (fun i hi=>zGP (zAn hm) i hi)
theorem zE4 {m:Mo} {ps:List (List (Int × Int))} {l:List (Int × Int)} (h:zAO m ps l=0) {c:Int} (hc:0 <= c/\c < zAC m.vars m.vars.length) {k:Nat} (hk:k < 2 ^ (zAA l).length) :
  zA2 l (zAG m ps c) (k:Int)=0/\zDk l (zAG m ps c) (k:Int)=(List.range l.length).map (tru l (zAG m ps c) (k:Int)):=by
 have h1:=(zDX h hc).2
 have h2:zA2 l (zAG m ps c) (k:Int)=0:=by
  refine zCW (by rw [h1];exact (zAx h).2) fun hn=>?_
  unfold zBF at hn;have:((2 ^ (zAA l).length:Nat):Int)=(2:Int) ^ (zAA l).length:=by push_cast;rfl
  rcases hn with hn | hn
  ·omega
  ·rw [<- this] at hn;omega
 exact ⟨h2,by unfold zDk;rw [if_pos h2]⟩
theorem zK0 {m:Mo} {ps:List (List (Int × Int))} {l:List (Int × Int)} (h:zAO m ps l=0):0 < l.length:=by
 obtain ⟨_,_,hz,_,_⟩:=zAl (zAx h).2;have:=(zB7 hz).1
 rcases Nat.eq_zero_or_pos l.length with h0 | h0
 ·rw [List.length_eq_zero_iff.1 h0] at this
  simp at this
 ·exact h0
theorem zMt (B:Nat) (va vr pv fv:Value) (m:Mo) (ps:List (List (Int × Int))) (l:List (Int × Int)) (ho:Option Addr) (hcp bs bl:Nat) (w:World) (hB:0 < w.heap.size) (hT:zAJ w) (hV:TaskV w va vr pv fv m ps l) (hc:zAO m ps l=0)
  (hS:SurvAt w B va vr pv fv (.slice ho (zAA l).length hcp) bs bl) :
  Calls Tryz.prog 17 #[.pointer (some ⟨B,0,none⟩)] w fun e w'=>∃ so sc,e=.returned (.tuple #[.slice so (zAd m ps l).length sc,.int .i64 0])/\Below w.heap.size w w'/\Hid (SpO w' w.heap.size (.slice so (zAd m ps l).length sc) (zAd m ps l)):=by
 obtain ⟨hp0,hl0⟩:=zAx hc;obtain ⟨hm0,_⟩:=zBA hp0;have h6:=(zAl hl0).2.2.2.2;have hne:=zK0 hc;have hnei:(0:Int) < (l.length:Int):=by omega
 obtain ⟨ao,ac,rfl⟩:=hV.mo.1.shape;obtain ⟨ro,rc,rfl⟩:=hV.mo.2.shape;obtain ⟨po,pc,rfl⟩:=hV.ps.shape;obtain ⟨fo,fc,rfl,_⟩:=id hV.fo
 have hfi:Calls Tryz.prog 13 #[.agg #[.slice ao m.vars.length ac,.slice ro m.rules.length rc]] w fun e w'=>e=.returned (.tuple #[.int .i64 (zB4 m),.int .i64 0])/\Below w.heap.size w w':=by
  have:=zDg _ _ m w hB hT hV.mo;rw [if_pos hm0,hm0] at this;exact this
 have HLe:Hid (∀ w1,Below w.heap.size w w1->Calls Tryz.prog 8 #[.agg #[.slice ao m.vars.length ac,.slice ro m.rules.length rc],.slice po ps.length pc,.int .i64 (zB4 m)] w1 fun e w'=>∃ lo lc,e=.returned (.tuple #[.slice lo ps.length lc,.int .i64 0])/\Below w1.heap.size w1 w'/\Hid (zAM w' (.slice lo ps.length lc) (zAG m ps (zB4 m)))):=fun w1 h=>by
  refine (zEa _ _ _ m ps (zB4 m) w1 (Nat.lt_of_lt_of_le hB h.size) (hT.below h hB) (hV.mo.below h) (hV.ps.below h)).mono fun e w' ⟨v,h1,h2,h3⟩=>?_
  obtain ⟨t1,t2⟩:=zDX hc (zGY hc);obtain ⟨lo,lc,rfl,hx⟩:=h3;rw [t2] at h1;exact ⟨lo,lc,by rw [h1,t1],h2,⟨lo,lc,by rw [t2],hx⟩⟩
 have HTr:Hid (∀ (k:Nat) (lv:Value) (w1:World),k < 2 ^ (zAA l).length->Below w.heap.size w w1->zAM w1 lv (zAG m ps (zB4 m))->Calls Tryz.prog 39 #[.slice fo l.length fc,lv,.int .i64 (k:Int)] w1 fun e w'=>∃ b off c,e=.returned (.tuple #[.slice (some ⟨b,off,none⟩) l.length c,.int .i64 0])/\Below w1.heap.size w1 w'/\w'.cell? ⟨b,off,none⟩=some (.bool (tru l (zAG m ps (zB4 m)) (k:Int) 0))):=fun k lv w1 hk h hl=>by
  refine (zFz _ lv l (zAG m ps (zB4 m)) (k:Int) w1 (Nat.lt_of_lt_of_le hB h.size) (hT.below h hB) (hV.fo.below h) hl).mono fun e w' ⟨v,h1,h2,h3⟩=>?_
  obtain ⟨t1,t2⟩:=zE4 hc (zGY hc) hk;rw [t2] at h3;have hn:=zK0 hc;obtain ⟨lo,lc,rfl,hx⟩:=h3;obtain ⟨b,off,rfl,_,hat⟩:=hx (by intro h0;have:=congrArg List.length h0;rw [List.length_map,List.length_range,List.length_nil] at this;omega)
  have c0:=hat 0 (by simpa using hn)
  refine ⟨b,off,lc,by rw [h1,t1];simp,h2,?_⟩
  rw [Nat.add_zero] at c0;rw [c0];simp [List.getD_eq_getElem?_getD,hn]
 have HS:Hid (∀ w1,Below w.heap.size w w1->SurvAt w1 B (.slice ao m.vars.length ac) (.slice ro m.rules.length rc) (.slice po ps.length pc) (.slice fo l.length fc) (.slice ho (zAA l).length hcp) bs bl):=fun w1 h=>hS.later h
 have hcl:=fun w1 (h:Below w.heap.size w w1)=>zEc B _ _ _ _ ho _ hcp bs bl w1 h6 (hS.later h)
 have HCl:Hid (∀ w1,Below w.heap.size w w1->Calls Tryz.prog 38 #[.pointer (some ⟨B,0,none⟩)] w1 fun e w'=>e=.returned (.int .i64 ((2 ^ (zAA l).length:Nat):Int))/\w'=w1):=hcl
 obtain ⟨_,s0,s1,s2,s3,s4,s5,s6⟩:=id hS;have hq64:2 ^ (zAA l).length <= 64:=Nat.pow_le_pow_right (show 0 < 2 by decide) h6
 have HNil:Hid (zBk m ps l 0=[]):=rfl;have HSt:Hid (∀ k,zBk m ps l (k+1)=if tru l (zAG m ps (zB4 m)) (k:Int) 0=true then zBk m ps l k else zBk m ps l k++[(zB4 m,(k:Int))]):=fun k=>rfl
 have HLen:Hid (∀ k,(zBk m ps l k).length <= k):=zFZ m ps l
 unfold zAd;generalize zBk m ps l=bg at *;generalize zAG m ps (zB4 m)=lt at *;generalize zB4 m=first at *;generalize m.vars.length=vn at *;generalize m.rules.length=rn at *;generalize ps.length=pn at *;generalize (zAA l).length=an at *;generalize 2 ^ an=N at *
 have HTru:Hid (∀ k:Nat,tru l lt (k:Int) 0=true\/tru l lt (k:Int) 0=false):=fun k=>by cases tru l lt (k:Int) 0 <;> simp
 generalize hfn:l.length=fn at *;clear hV hT hc hl0 hp0 hm0 hS hcl h6 hfn
 go_enter Tryz.func17,Tryz.ntmps17
 go_wp2_with (first | (go_at_call 13;refine hfi.mono ?_;rintro e w1 ⟨rfl,hb1⟩;obtain ⟨_,p0,p1,p2,p3,p4,p5,p6⟩:=HS.out w1 hb1;have hle:=HLe.out _ hb1.drew))
 have HSB:Hid (∀ w2,Below w1.heap.size w1 w2->w2.cell? ⟨B,0,none⟩=some (.slice ao vn ac)/\w2.cell? ⟨B,1,none⟩=some (.slice ro rn rc)/\w2.cell? ⟨B,2,none⟩=some (.slice po pn pc)):=fun w2 h=>by
  obtain ⟨_,q0,q1,q2,_,_,_,_⟩:=HS.out w2 (hb1.trans (h.mono hb1.size));exact ⟨q0,q1,q2⟩
 have hB0:Below w1.heap.size w1 w1:=Below.refl _ _;have hBw:=hB0.drew
 go_region_held3 (fun w'=>w'.cell? ⟨B,0,none⟩=some (.slice ao vn ac)/\w'.cell? ⟨B,1,none⟩=some (.slice ro rn rc)/\w'.cell? ⟨B,2,none⟩=some (.slice po pn pc))
  (first | exact HSB.out _ hb12 | exact HSB.out _ hBw | exact HSB.out _ hB0)
  (first
   | (go_at_call 8;refine hle.mono ?_;rintro e w2 ⟨lo,lc,rfl,hb2,HLv⟩;have hb12:=hBw.trans (hb2.mono hBw.size)))
 have hw2:=hb1.trans (hb12.mono hb1.size);have hcl:=HCl.out w2 hw2;clear hle hfi HLe HSB p0 p1 p2 p3 p4 p5 p6 s0 s1 s2 s3 s4 s5 s6;have HLet:Hid (∀ w3,Below w2.heap.size w2 w3->zAM w3 (.slice lo pn lc) lt):=fun w3 h=>HLv.out.below h
 go_wp2_with (first | (go_at_call 38;refine hcl.mono ?_;rintro e w3 ⟨rfl,rfl⟩))
 go_loopw [7,43] (fun u i wr=>∃ k:Nat,k <= N/\i=.int .i64 k/\(∃ so sn sc,u=.slice so sn sc/\sn <= k/\Hid ((bg k).length=sn/\SpO wr w3.heap.size (.slice so sn sc) (bg k)))/\Below w3.heap.size w3 wr) (fun _ i _=>N - (intOf i).toNat)
 case atStart=>exact ⟨0,Nat.zero_le _,rfl,⟨none,0,0,rfl,Nat.le_refl _,by rw [HNil.out];rfl,by rw [HNil.out];exact SpO.nil _ _⟩,Below.refl _ _⟩
 case round=>
  obtain ⟨k,hk,rfl,⟨so,sn,sc,rfl,hsn,HSp⟩,hbr3⟩:=hrel;have hbr:=hw2.trans (hbr3.mono hw2.size);have HBo:=(show Hid _ from HLet.out wr hbr3)
  obtain ⟨_,p0,p1,p2,p3,p4,p5,p6⟩:=HS.out wr hbr
  by_cases hkN:k < N
  ·have htr:=HTr.out k _ wr hkN hbr HBo.out
   have hst:=HSt.out k;have HSk:Hid (∀ w4,Below wr.heap.size wr w4->SpO w4 w3.heap.size (.slice so sn sc) (bg k)):=fun w4 h=>HSp.out.2.later h (Nat.le_refl _)
   have HSl:Hid ((bg k).length=sn):=HSp.out.1
   rcases HTru.out k with ht | ht
   ·rw [ht] at htr hst
    rw [if_pos rfl] at hst;have HE:Hid (bg (k+1)=bg k):=hst;clear hst ht HBo HSp
    go_wp2_with (first | (go_at_call 39;refine htr.mono ?_;rintro e w4 ⟨b,off,c,rfl,hb4,d0⟩;have hbw4:=hbr3.trans (hb4.mono hbr3.size)))
    go_roundw
    case rel=>exact ⟨k+1,by omega,by go_num,⟨so,sn,sc,rfl,by omega,by rw [HE.out];exact HSl.out,by rw [HE.out];exact HSk.out _ hb4⟩,hbw4⟩
    case measure=>simp [intOf];omega
   ·rw [ht] at htr hst
    rw [if_neg (by simp)] at hst
    have HE:Hid (bg (k+1)=bg k++[(first,(k:Int))]):=hst;have hsz:w.heap.size <= wr.heap.size:=hbr.size;clear hst ht HBo HSp
    go_wp2_with (first | (go_at_call 39;refine htr.mono ?_;rintro e w4 ⟨b,off,c,rfl,hb4,d0⟩;have hbw4:=hbr3.trans (hb4.mono hbr3.size);have hsp:=HSk.out _ hb4;have hs4:=hbw4.size) | (at_builtin;refine zJ9 first (k:Int) rfl _ _ rfl w3.heap.size sn sc so (bg k) HSl.out rfl hsp rfl (by omega) hs4 ?_;intro vo5 cap5 w5 ho5 hb5 hg5;have HO5:Hid (SpO w5 w3.heap.size (.slice vo5 (sn+1) cap5) (bg k++[(first,(k:Int))])):=ho5;have hbw5:=hbw4.trans hb5;clear ho5 hg5 hsp))
    go_roundw
    case rel=>exact ⟨k+1,by omega,by go_num,⟨vo5,sn+1,cap5,rfl,by omega,by rw [HE.out,List.length_append,HSl.out];rfl,by rw [HE.out];exact HO5.out⟩,hbw5⟩
    case measure=>simp [intOf];omega
  ·obtain rfl:k=N:=by omega
   have HSl:Hid ((bg k).length=sn):=HSp.out.1;have HSk:Hid (SpO wr w.heap.size (.slice so sn sc) (bg k)):=zAy HSp.out.2 hw2.size;clear HSp HBo
   go_wp2_with fail
   go_ret2
   refine ⟨so,sc,by rw [HSl.out];rfl,hbr,by rw [HSl.out];exact HSk.out⟩
end Go.Proofs.YtnihdlgfhhdhkaaGreatDoor
namespace Go.Proofs.YtnihdlgfhhdhkaaGreatDoor
open Go.Shelf
set_option maxHeartbeats 6400000
set_option maxRecDepth 20000
def zJg:Go.Shelf.Ren:=⟨fun | 189=>63 | 125=>101 | 257=>100 | 128=>132 | 129=>133 | 294=>123 | 295=>124 | 296=>125 | 297=>126 | 298=>127 | 299=>128 | 216=>129 | 300=>130 | 301=>131 | 328=>138 | 329=>139 | 330=>140 | 331=>141 | 332=>142 | 215=>143 | 343=>145 | n=>n,fun | 28=>27 | 3=>3 | 46=>181 | 0=>0 | 51=>211 | 53=>213 | 4=>4 | 183=>204 | 182=>203 | 131=>118 | 5=>5 | 9=>9 | 218=>216 | 222=>220 | 228=>222 | 229=>223 | n=>n,fun | n=>n⟩
theorem zOa:Go.Proofs.Lays.n189 Tryz.prog zJg:={
 mixed:=by kernel_rfl
 f125:=Tryz.func101.trans (congrArg some (by kernel_rfl))
 f128:=Tryz.func132.trans (congrArg some (by kernel_rfl))
 f129:=Tryz.func133.trans (congrArg some (by kernel_rfl))
 f189:=Tryz.func63.trans (congrArg some (by kernel_rfl))
 f215:=Tryz.func143.trans (congrArg some (by kernel_rfl))
 f216:=Tryz.func129.trans (congrArg some (by kernel_rfl))
 f257:=Tryz.func100.trans (congrArg some (by kernel_rfl))
 f294:=Tryz.func123.trans (congrArg some (by kernel_rfl))
 f295:=Tryz.func124.trans (congrArg some (by kernel_rfl))
 f296:=Tryz.func125.trans (congrArg some (by kernel_rfl))
 f297:=Tryz.func126.trans (congrArg some (by kernel_rfl))
 f298:=Tryz.func127.trans (congrArg some (by kernel_rfl))
 f299:=Tryz.func128.trans (congrArg some (by kernel_rfl))
 f300:=Tryz.func130.trans (congrArg some (by kernel_rfl))
 f301:=Tryz.func131.trans (congrArg some (by kernel_rfl))
 f328:=Tryz.func138.trans (congrArg some (by kernel_rfl))
 f329:=Tryz.func139.trans (congrArg some (by kernel_rfl))
 f330:=Tryz.func140.trans (congrArg some (by kernel_rfl))
 f331:=Tryz.func141.trans (congrArg some (by kernel_rfl))
 f332:=Tryz.func142.trans (congrArg some (by kernel_rfl))
 f343:=Tryz.func145.trans (congrArg some (by kernel_rfl))
 t0:=Tryz.underlying0
 a0:=Tryz.isAgg0
 z0:=Tryz.sizeOf0
 v0:=Tryz.zeroValue0
 t3:=Tryz.underlying3
 a3:=Tryz.isAgg3
 z3:=Tryz.sizeOf3
 v3:=Tryz.zeroValue3
 t4:=Tryz.underlying4
 a4:=Tryz.isAgg4
 z4:=Tryz.sizeOf4
 v4:=Tryz.zeroValue4
 t5:=Tryz.underlying5
 a5:=Tryz.isAgg5
 z5:=Tryz.sizeOf5
 v5:=Tryz.zeroValue5
 t9:=Tryz.underlying9
 a9:=Tryz.isAgg9
 z9:=Tryz.sizeOf9
 v9:=Tryz.zeroValue9
 t28:=Tryz.underlying27
 a28:=Tryz.isAgg27
 z28:=Tryz.sizeOf27
 v28:=Tryz.zeroValue27
 t46:=Tryz.underlying181
 a46:=Tryz.isAgg181
 z46:=Tryz.sizeOf181
 v46:=Tryz.zeroValue181
 t51:=Tryz.underlying211
 a51:=Tryz.isAgg211
 z51:=Tryz.sizeOf211
 v51:=Tryz.zeroValue211
 t53:=Tryz.underlying213
 a53:=Tryz.isAgg213
 z53:=Tryz.sizeOf213
 v53:=Tryz.zeroValue213
 t131:=Tryz.underlying118
 a131:=Tryz.isAgg118
 z131:=Tryz.sizeOf118
 v131:=Tryz.zeroValue118
 t182:=Tryz.underlying203
 a182:=Tryz.isAgg203
 z182:=Tryz.sizeOf203
 v182:=Tryz.zeroValue203
 t183:=Tryz.underlying204
 a183:=Tryz.isAgg204
 z183:=Tryz.sizeOf204
 v183:=Tryz.zeroValue204
 t218:=Tryz.underlying216
 a218:=Tryz.isAgg216
 z218:=Tryz.sizeOf216
 v218:=Tryz.zeroValue216
 t222:=Tryz.underlying220
 a222:=Tryz.isAgg220
 z222:=Tryz.sizeOf220
 v222:=Tryz.zeroValue220
 t228:=Tryz.underlying222
 a228:=Tryz.isAgg222
 z228:=Tryz.sizeOf222
 v228:=Tryz.zeroValue222
 t229:=Tryz.underlying223
 a229:=Tryz.isAgg223
 z229:=Tryz.sizeOf223
 v229:=Tryz.zeroValue223}
open Go.Sort Go.RowKit in
theorem slices_Sort_int (blk off cap:Nat) (zs:List Int) (w:World) (hH:Holds (Value.int .i64) w blk off zs.toArray) (hblk:blk < w.heap.size) (hsz:zs.length < 4611686018427387904) :
  Calls Tryz.prog 63 #[.slice (some ⟨blk,off,none⟩) zs.length cap] w fun e w'=>
   e=.returned (.tuple #[])/\∃ n os,w'=grow (putRow (Value.int .i64) (Sort.ahead w n) blk off (zs.mergeSort fun x y=>decide (x <= y)).toArray) os:=Any.slices_Sort_int zOa blk off cap zs w hH hblk hsz
def zH2:Go.Shelf.Ren:=⟨fun | 20=>64 | n=>n,fun | 22=>27 | 3=>3 | 4=>4 | 0=>0 | n=>n,fun | n=>n⟩
theorem zL4:Go.Proofs.Lays2.n20 Tryz.prog zH2:={
 mixed:=by kernel_rfl
 f20:=Tryz.func64.trans (congrArg some (by kernel_rfl))
 t0:=Tryz.underlying0
 a0:=Tryz.isAgg0
 z0:=Tryz.sizeOf0
 v0:=Tryz.zeroValue0
 t3:=Tryz.underlying3
 a3:=Tryz.isAgg3
 z3:=Tryz.sizeOf3
 v3:=Tryz.zeroValue3
 t4:=Tryz.underlying4
 a4:=Tryz.isAgg4
 z4:=Tryz.sizeOf4
 v4:=Tryz.zeroValue4
 t22:=Tryz.underlying27
 a22:=Tryz.isAgg27
 z22:=Tryz.sizeOf27
 v22:=Tryz.zeroValue27
 i3:=by kernel_rfl}
open Go.RowKit Go.Lib Go.Sort in
theorem slices_Compact_int (blk off cap:Nat) (zs:List Int) (w:World) (hH:Holds (Value.int .i64) w blk off zs.toArray) (hsz:zs.length <= 9223372036854775807) (hcap:zs.length <= cap) :
  Calls Tryz.prog 64 #[.slice (some ⟨blk,off,none⟩) zs.length cap] w fun e w'=>e=.returned (.slice (some ⟨blk,off,none⟩) (Lib.compact zs).length cap)/\∃ q,w'=putRow (Value.int .i64) (Sort.ahead w q) blk off (Lib.compact zs++List.replicate (zs.length - (Lib.compact zs).length) 0).toArray:=Any.slices_Compact_int zL4 blk off cap zs w hH hsz hcap
end Go.Proofs.YtnihdlgfhhdhkaaGreatDoor
namespace Go.Proofs.YtnihdlgfhhdhkaaGreatDoor
open Go.RowKit Go.Sort
set_option maxHeartbeats 6400000
set_option maxRecDepth 20000
def leB (x y:Int):Bool:=decide (x <= y)
theorem zIZ (g cap base:Nat) (zs:List Int) (w:World) (hz:zs.length <= 100000) (ho:w.ownsRow base 3 1 (.slice (some ⟨g,0,none⟩) zs.length cap) zs.length (zAE zs)) :
  Calls Tryz.prog 63 #[.slice (some ⟨g,0,none⟩) zs.length cap] w fun e w'=>e=.returned (.tuple #[])/\w.grownBy w' (some g)/\w'.ownsRow base 3 1 (.slice (some ⟨g,0,none⟩) zs.length cap) zs.length (zAE (zs.mergeSort leB)):=by
 have ho':w.ownsRow base 3 1 (.slice (some ⟨g,0,none⟩) zs.length cap) zs.length (zs.map (Value.int .i64)):=ho;obtain ⟨g',cap',hv,hbg,hlt,hn,hm,hl,hH⟩:=Lib.holds_of_ownsRow ho' (by simp)
 injection hv with h1 h2 h3
 injection h1 with h1
 injection h1 with h1
 subst h1 h3
 rcases ho.2 with ⟨e0,_⟩ | ⟨g2,cap2,cur,e0,hb,hg,hnc,hcm,hcs,ht⟩
 ·cases e0
 ·injection e0 with e1 _ e3
  injection e1 with e1
  injection e1 with e1
  subst e1 e3;refine (slices_Sort_int g 0 cap zs w hH hlt (by omega)).mono fun e w' ⟨he,n,os,hw⟩=>⟨he,?_,?_⟩
  ·rw [hw];exact grownBy_sortedI _
  ·rw [hw];exact ownsRow_sortedI (ts:=zs.mergeSort leB) (by simp) hbg hg hnc hcm hcs
theorem zFt (g cap base:Nat) (zs:List Int) (w:World) (hz:zs.length <= 100000) (ho:w.ownsRow base 3 1 (.slice (some ⟨g,0,none⟩) zs.length cap) zs.length (zAE zs)) :
  Calls Tryz.prog 64 #[.slice (some ⟨g,0,none⟩) zs.length cap] w fun e w'=>e=.returned (.slice (some ⟨g,0,none⟩) (Lib.compact zs).length cap)/\w.grownBy w' (some g)/\w'.ownsRow base 3 1 (.slice (some ⟨g,0,none⟩) (Lib.compact zs).length cap) (Lib.compact zs).length (zAE (Lib.compact zs)):=by
 have ho':w.ownsRow base 3 1 (.slice (some ⟨g,0,none⟩) zs.length cap) zs.length (zs.map (Value.int .i64)):=ho;obtain ⟨g',cap',hv,hbg,hlt,hn,hm,hl,hH⟩:=Lib.holds_of_ownsRow ho' (by simp)
 injection hv with h1 h2 h3
 injection h1 with h1
 injection h1 with h1
 subst h1 h3;have hcl:=Lib.compact_length_le zs;refine (slices_Compact_int g 0 cap zs w hH (by omega) hn).mono fun e w' ⟨he,q,hw⟩=>⟨he,?_,?_⟩
 ·rw [hw]
  refine ⟨rfl,rfl,rfl,by simp [putRow,mapBlock,Sort.ahead],fun k _ hne=>?_⟩
  have:g≠k:=fun e=>hne (by rw [e])
  simp [putRow,mapBlock,Sort.ahead,Array.getElem?_modify,this]
 ·rw [hw]
  have h:=Lib.ownsRow_putRow (q:=q) (k:=(Lib.compact zs).length) (ys:=Lib.compact zs++List.replicate (zs.length - (Lib.compact zs).length) 0) ho' (by simp;omega) hcl
  rw [List.take_left] at h;exact h
abbrev Rise (l:List Int):Prop:=l.Pairwise (· < ·)
theorem zIp {d:Array Int} {n:Nat} (hs:∀ i j,i <= j->j < n->d[i]! <= d[j]!):∀ m,m <= n->Rise (Lib.compactUpTo d m)/\∀ x,x∈Lib.compactUpTo d m↔∃ j,j < m/\d[j]! = x:=by
 intro m
 induction m with
 | zero=>intro _;exact ⟨by simp [Lib.compactUpTo],fun x=>by simp [Lib.compactUpTo]⟩
 | succ m ih=>
  intro hm;obtain ⟨h1,h2⟩:=ih (by omega)
  rw [Lib.compactUpTo_succ]
  by_cases hk:Lib.keeps d m=true
  ·rw [if_pos hk]
   refine ⟨List.pairwise_append.2 ⟨h1,by simp,fun x hx y hy=>?_⟩,fun x=>?_⟩
   ·simp at hy
    subst hy;obtain ⟨j,hj,rfl⟩:=(h2 x).1 hx;have h3:=hs j m (by omega) (by omega)
    have h4:=hs j (m - 1) (by omega) (by omega)
    have h5:=hs (m - 1) m (by omega) (by omega)
    have h6:d[m]!≠d[m - 1]!:=by
     have:m≠0:=by omega
     simpa [Lib.keeps,this] using hk
    omega
   ·simp only [List.mem_append,List.mem_singleton,h2]
    constructor
    ·rintro (⟨j,hj,e⟩ | e)
     ·exact ⟨j,by omega,e⟩
     ·exact ⟨m,by omega,e.symm⟩
    ·rintro ⟨j,hj,e⟩
     by_cases hjm:j=m
     ·subst hjm;exact .inr e.symm
     ·exact .inl ⟨j,by omega,e⟩
  ·rw [if_neg hk,List.append_nil]
   refine ⟨h1,fun x=>?_⟩
   rw [h2]
   constructor
   ·rintro ⟨j,hj,e⟩;exact ⟨j,by omega,e⟩
   ·rintro ⟨j,hj,e⟩
    by_cases hjm:j=m
    ·subst hjm
     have h7:j≠0/\d[j]! = d[j - 1]!:=by simpa [Lib.keeps] using hk
     exact ⟨j - 1,by omega,by rw [<- h7.2];exact e⟩
    ·exact ⟨j,by omega,e⟩
def upL (l:List Int):List Int:=Lib.compact (l.mergeSort leB)
theorem zEh (l:List Int):Rise (upL l)/\∀ x,x∈upL l↔x∈l:=by
 have hp:(l.mergeSort leB).Pairwise (fun x y=>leB x y=true):=List.pairwise_mergeSort (le:=leB) (by intro a b c;simp only [leB,decide_eq_true_eq];omega) (by intro a b;simp only [leB,Bool.or_eq_true,decide_eq_true_eq];omega) l
 have hs:∀ i j,i <= j->j < (l.mergeSort leB).length->(l.mergeSort leB).toArray[i]! <= (l.mergeSort leB).toArray[j]!:=fun i j hij hj=>by
  rw [getElem!_pos _ i (by simpa using (by omega:i < (l.mergeSort leB).length)),getElem!_pos _ j (by simpa using hj)]
  rcases Nat.lt_or_eq_of_le hij with h | h
  ·have:=List.pairwise_iff_getElem.1 hp i j (by omega) hj h
   simpa [leB] using this
  ·subst h;exact Int.le_refl _
 obtain ⟨h1,h2⟩:=zIp hs (l.mergeSort leB).length (Nat.le_refl _);refine ⟨h1,fun x=>?_⟩
 show x∈Lib.compactUpTo _ _↔_
 rw [h2,<- (List.mergeSort_perm l leB).mem_iff,List.mem_iff_getElem]
 constructor
 ·rintro ⟨j,hj,e⟩
  exact ⟨j,hj,by rw [<- e,getElem!_pos _ j (by simpa using hj)];rfl⟩
 ·rintro ⟨j,hj,e⟩
  exact ⟨j,hj,by rw [getElem!_pos _ j (by simpa using hj)];exact e⟩
end Go.Proofs.YtnihdlgfhhdhkaaGreatDoor
namespace Go.Proofs.YtnihdlgfhhdhkaaGreatDoor
open Terms Tm
set_option maxHeartbeats 6400000
set_option maxRecDepth 20000
noncomputable def zAz (vars:List Vr) (env:List Int) (rules:List Ru) (k:Nat):List Int:=(rules.take k).filterMap (zA0 vars env)
theorem zK2 {vars:List Vr} {env:List Int} {rules:List Ru} {k:Nat} (hk:k < rules.length) {x:Int} (h:zA0 vars env (rules.getD k ru0)=some x):zAz vars env rules (k+1)=zAz vars env rules k++[x]:=by
 unfold zAz;rw [List.take_succ_eq_append_getElem hk,List.filterMap_append,show rules[k]=rules.getD k ru0 by simp [List.getD_eq_getElem?_getD,hk]]
 generalize rules.getD k ru0=r at h;simp [h]
theorem zK9 {vars:List Vr} {env:List Int} {rules:List Ru} {k:Nat} (hk:k < rules.length) (h:zA0 vars env (rules.getD k ru0)=none):zAz vars env rules (k+1)=zAz vars env rules k:=by
 unfold zAz;rw [List.take_succ_eq_append_getElem hk,List.filterMap_append,show rules[k]=rules.getD k ru0 by simp [List.getD_eq_getElem?_getD,hk]]
 generalize rules.getD k ru0=r at h;simp [h]
theorem zDm (vars:List Vr) (env:List Int) (rules:List Ru) (k:Nat):(zAz vars env rules k).length <= k:=by
 unfold zAz;exact Nat.le_trans (List.length_filterMap_le _ _) (by simp;omega)
noncomputable def zEC (m:Mo) (code:Int):List Int:=if zAz m.vars (zAt m.vars code) m.rules m.rules.length=[] then [code] else zAz m.vars (zAt m.vars code) m.rules m.rules.length
noncomputable def zAB (m:Mo) (code:Int):List Int:=upL (zEC m code)
noncomputable def zCC (m:Mo) (code:Int):List Int:=if zAk m code=0 then zAB m code else []
theorem zHb {vars:List Vr} {env:List Int} {rules:List Ru} {k:Nat} (hk:k <= rules.length) (x:Int):x∈zAz vars env rules k↔∃ j,j < k/\zA0 vars env (rules.getD j ru0)=some x:=by
 unfold zAz;rw [List.mem_filterMap]
 constructor
 ·rintro ⟨r,hr,e⟩
  obtain ⟨j,hj,rfl⟩:=List.mem_iff_getElem.1 hr;rw [List.length_take] at hj;refine ⟨j,by omega,?_⟩
  rw [List.getElem_take] at e;rw [show rules.getD j ru0=rules[j]'(by omega) by simp [List.getD_eq_getElem?_getD,show j < rules.length by omega]]
  exact e
 ·rintro ⟨j,hj,e⟩
  refine ⟨rules.getD j ru0,?_,e⟩
  rw [List.mem_iff_getElem];exact ⟨j,by rw [List.length_take];omega,by rw [List.getElem_take];simp [List.getD_eq_getElem?_getD,show j < rules.length by omega]⟩
theorem zE1 {vars:List Vr} {env:List Int} {r:Ru} {x:Int} (hv:zBK vars) (h:zA0 vars env r=some x):0 <= x/\x < zAC vars vars.length:=by
 unfold zA0 at h
 split at h
 ·rename_i hc
  injection h with h
  subst h;exact zDK hv (Nat.le_refl _) hc.2.2
 ·cases h
theorem zKo (l:List Int):(upL l).length <= l.length:=Nat.le_trans (Lib.compact_length_le _) (by simp)
theorem zFu (m:Mo) (code:Int):(zCC m code).length <= 1+m.rules.length:=by
 unfold zCC zAB
 split
 ·refine Nat.le_trans (zKo _) ?_
  unfold zEC
  split
  ·simp
  ·exact Nat.le_trans (zDm _ _ _ _) (by omega)
 ·simp
end Go.Proofs.YtnihdlgfhhdhkaaGreatDoor
namespace Go.Proofs.YtnihdlgfhhdhkaaGreatDoor
open Go.ChangeShapes Go.WideShapes Go.ChangeAt Go.RowKit Go.Deep
open Terms Tm
set_option maxHeartbeats 6400000
set_option maxRecDepth 20000
def zHO (base:Nat) (w:World) (v:Value) (l:List Int):Prop:=w.ownsRow base 3 1 v l.length (zAE l)/\v≠.slice none 0 0
theorem zHO.form {base:Nat} {w:World} {v:Value} {l:List Int} (h:zHO base w v l):∃ g cap,v=.slice (some ⟨g,0,none⟩) l.length cap/\base <= g/\g < w.heap.size:=by
 rcases h.1.2 with ⟨e0,_⟩ | ⟨g,cap,cur,rfl,hb,hg,_⟩
 ·exact absurd e0 h.2
 ·exact ⟨g,cap,rfl,hb,(Array.getElem?_eq_some_iff.1 hg).1⟩
theorem zKd (va vr:Value) (m:Mo) (code:Int) (w:World) (hB:0 < w.heap.size) (hT:zAJ w) (hV:zAU w va vr m) (hm:mcode m=0) :
    Calls Tryz.prog 36 #[.agg #[va,vr],.int .i64 code] w fun e w'=>∃ v,e=.returned (.tuple #[v,.int .i64 (zAk m code)])/\Below w.heap.size w w'/\zAI w' v (zCC m code)/\w'.ownsRow w.heap.size 3 1 v (zCC m code).length (zAE (zCC m code)):=by
  have hA:∀ o,Below w.heap.size w (w.alloc o):=fun o=>(Below.refl _ _).alloc (Nat.le_refl _) o
  have hVb:∀ w',Below w.heap.size w w'->∀ ao cap,va=.slice ao m.vars.length cap->zAU w' (.slice ao m.vars.length cap) (.slice none 0 0) ⟨m.vars,[]⟩:=fun w' hb ao cap e=>⟨e ▸ hV.1.below hb,⟨none,0,rfl,⟨by simp,fun _=>⟨rfl,rfl⟩⟩,fun h=>by simp at h⟩⟩
  obtain ⟨ao,cap,rfl⟩:=hV.1.shape;obtain ⟨ro,rc,hro⟩:=hV.2.shape;have hba:=fun w=>zGR ao ro m.vars.length cap m.rules.length rc w
  by_cases hw:zAk m code=0
  · have hvl:∀ w',Below w.heap.size w w'->Calls Tryz.prog 25 #[.agg #[.slice ao m.vars.length cap,.slice none 0 0],.int .i64 code] w' fun e w2=>∃ B,e=.returned (.tuple #[.slice (some ⟨B,0,none⟩) (zAt m.vars code).length (zAt m.vars code).length,.int .i64 0])/\w'.heap.size <= B/\Below w'.heap.size w' w2/\w2.rowIs B 3 (zAt m.vars code).length (fun j=>.int .i64 ((zAt m.vars code).getD j 0)):=fun w' hb=>
      zF7 _ _ ⟨m.vars,[]⟩ code w' (Nat.lt_of_lt_of_le hB hb.size) (hT.below hb hB) (hVb w' hb ao cap rfl) (by rw [zDd _ hm];exact hw)
    obtain ⟨hr12,hrs⟩:=zEI hm
    have HDo:Hid (∀ w' (_:Below w.heap.size w w') B k gv sv,k < m.rules.length->w'.rowIs B 3 (zAt m.vars code).length (fun j=>.int .i64 ((zAt m.vars code).getD j 0))->zAX w' gv (m.rules.getD k ru0).guard->zCE w' sv (m.rules.getD k ru0).sets->Calls Tryz.prog 62 #[.agg #[.slice ao m.vars.length cap,vr],.slice (some ⟨B,0,none⟩) (zAt m.vars code).length (zAt m.vars code).length,.agg #[gv,sv]] w' fun e w2=>e=.returned (.tuple #[.int .i64 (zKb (zA0 m.vars (zAt m.vars code) (m.rules.getD k ru0))),.int .i64 (zKx (zA0 m.vars (zAt m.vars code) (m.rules.getD k ru0)))])/\Below w'.heap.size w' w2):=fun w' hb B k gv sv hk hrow hg hs=>
      zK1 _ vr gv sv B m (zAt m.vars code) (m.rules.getD k ru0) w' (Nat.lt_of_lt_of_le hB hb.size) (hT.below hb hB) (hV.below hb) hm (hrs k hk) (zDl _ _) hrow hg hs
    have HR:Hid (zCU w vr m.rules):=hV.2;have HNL:Hid (zCC m code=upL (if zAz m.vars (zAt m.vars code) m.rules m.rules.length=[] then [code] else zAz m.vars (zAt m.vars code) m.rules m.rules.length)):=by show _=_;unfold zCC zAB zEC;rw [if_pos hw]
    rw [hw];generalize zCC m code=res at *;generalize zAt m.vars code=env at *;subst hro;obtain ⟨rn,hrn⟩:∃ rn,rn=m.rules.length:=⟨_,rfl⟩
    have HRN:Hid (rn=m.rules.length):=hrn;rw [<- hrn] at hba HDo HR HNL hr12 ⊢;obtain ⟨i0,hi,hz0,hz1,hz2⟩:=info_parts zBd;clear hV hT hVb hw hm hrs hrn;generalize m.vars.length=n at *
    go_enter Tryz.func36,Tryz.ntmps36
    go_wp2_with (first | (go_at_call 26;refine (hba _).mono ?_;rintro e w1 ⟨rfl,hb1⟩;have hbw1:=(hA _).trans (hb1.mono (hA _).size);have k10:w1.cell? ⟨w.heap.size,0,none⟩=some (.slice ao n cap):=(hb1.cell (p:=⟨w.heap.size,0,none⟩) (by simp)).trans (by simp [go_sem]);have k11:w1.cell? ⟨w.heap.size,1,none⟩=some (.slice ro rn rc):=(hb1.cell (p:=⟨w.heap.size,1,none⟩) (by simp)).trans (by simp [go_sem]);have hs1:w.heap.size < w1.heap.size:=(by have:=hb1.size;simp at this;omega)) | (go_at_call 25;refine (hvl _ hbw1).mono ?_;rintro e w2 ⟨B,rfl,hBl,hb2,hr2⟩;have k20:=(hb2.cell (p:=⟨w.heap.size,0,none⟩) hs1).trans k10;have k21:=(hb2.cell (p:=⟨w.heap.size,1,none⟩) hs1).trans k11;have hs2:=Nat.lt_of_lt_of_le hs1 hb2.size;have kA1:∀ o,(w2.alloc o).cell? ⟨w.heap.size,1,none⟩=some (.slice ro rn rc):=fun o=>(((Below.refl w2.heap.size w2).alloc (Nat.le_refl _) o).cell (p:=⟨w.heap.size,1,none⟩) hs2).trans k21))
    have hbw2:=hbw1.trans (hb2.mono hbw1.size);have hA2:∀ o,Below w2.heap.size w2 (w2.alloc o):=fun o=>(Below.refl _ _).alloc (Nat.le_refl _) o
    have HRow:Hid (w2.rowIs B 3 env.length (fun j=>.int .i64 (env.getD j 0))):=hr2
    have HB2:Hid (Below w.heap.size w w2):=hbw2;have HK2:Hid (∀ w',Below w2.heap.size w2 w'->w'.cell? ⟨w.heap.size,0,none⟩=some (.slice ao n cap)/\w'.cell? ⟨w.heap.size,1,none⟩=some (.slice ro rn rc)):=fun w' hb=>⟨(hb.cell (p:=⟨w.heap.size,0,none⟩) hs2).trans k20,(hb.cell (p:=⟨w.heap.size,1,none⟩) hs2).trans k21⟩
    have HO0:Hid (zHO w2.heap.size (w2.alloc (.cells #[] 3)) (.slice (some ⟨w2.heap.size,0,none⟩) 0 0) (zAz m.vars env m.rules 0)):=⟨World.ownsRow_lit w2 #[] 0 (Nat.le_refl _) (by decide) rfl,by simp⟩
    clear hvl hba hb1 hbw1 k10 k11 hs1 hb2 hr2 k20 k21 kA1 hbw2
    go_loopw [8,27] (fun nx i wr=>∃ k:Nat,k <= rn/\i=.int .i64 k/\Hid (zHO w2.heap.size wr nx (zAz m.vars env m.rules k))/\Hid (Below w2.heap.size w2 wr)) (fun _ i _=>rn - (intOf i).toNat)
    case atStart=>exact ⟨0,Nat.zero_le _,rfl,HO0.out,hA2 _⟩
    case round=>
      obtain ⟨k,hk,rfl,HOwn,HBel⟩:=hrel;have hbel:=HBel.out;have hbw:=HB2.out.trans (hbel.mono HB2.out.size);obtain ⟨kr0,kr1⟩:=HK2.out wr hbel;obtain ⟨g,gc,rfl,hg,hgl⟩:=HOwn.out.form;have hown:=HOwn.out.1
      by_cases hlt:k < rn
      · obtain ⟨b,off,rfl,hblt,hat⟩:=HR.out.at (i:=k) (by rw [<- HRN.out];exact hlt)
        obtain ⟨⟨u,c0,hou⟩,u',c1,hsu⟩:=hat.below hbw hblt;obtain ⟨uo,uc,rfl⟩:=hou.shape;obtain ⟨so,sc,rfl⟩:=hsu.shape;have hAr:∀ o,Below wr.heap.size wr (wr.alloc o):=fun o=>(Below.refl _ _).alloc (Nat.le_refl _) o
        have hkA0:∀ o,(wr.alloc o).cell? ⟨w.heap.size,0,none⟩=some (.slice ao n cap):=fun o=>(HK2.out _ (hbel.trans ((hAr o).mono hbel.size))).1
        have hkA1:∀ o,(wr.alloc o).cell? ⟨w.heap.size,1,none⟩=some (.slice (some ⟨b,off,none⟩) rn rc):=fun o=>(HK2.out _ (hbel.trans ((hAr o).mono hbel.size))).2
        have hdo:=fun o=>HDo.out (wr.alloc o) (hbw.trans ((hAr o).mono hbw.size)) B k _ _ hlt (zAh (zAh HRow.out hbel) (hAr o)) (hou.below (hAr o)) (hsu.below (hAr o))
        have HRl:Hid ((zAz m.vars env m.rules k).length <= k):=zDm _ _ _ _;have hk':k < m.rules.length:=by rw [<- HRN.out];exact hlt
        generalize (m.rules.getD k ru0).guard.length=gl at *;generalize (m.rules.getD k ru0).sets.length=sl at *;obtain ⟨L,hL⟩:∃ L,L=(zAz m.vars env m.rules k).length:=⟨_,rfl⟩
        have HL:Hid (L=(zAz m.vars env m.rules k).length):=hL;rw [<- hL] at hown HRl ⊢
        cases hres:zA0 m.vars env (m.rules.getD k ru0) with
        | none=>
          rw [hres] at hdo;simp only [zKb,zKx] at hdo;have HN:Hid (zAz m.vars env m.rules (k+1)=zAz m.vars env m.rules k):=zK9 hk' hres
          have HW4:Hid (∀ o w4,Below (wr.alloc o).heap.size (wr.alloc o) w4->Below w2.heap.size w2 w4/\zHO w2.heap.size w4 (.slice (some ⟨g,0,none⟩) L gc) (zAz m.vars env m.rules k)):=fun o w4 hb=>⟨(hbel.alloc hbel.size o).trans (hb.mono (hbel.alloc hbel.size o).size),by
            refine ⟨?_,by simp⟩
            rw [<- HL.out]
            exact zAR (zAR hown (hAr o) (Nat.le_refl _)) hb (Nat.le_refl _)⟩
          clear hat hou hsu HDo HR hres hk' hown hL
          go_wp2_with (go_at_call 62;refine (hdo _).mono ?_;rintro e w4 ⟨rfl,hb4⟩;obtain ⟨hb24,ho4⟩:=HW4.out _ w4 hb4)
          exact ⟨⟨k+1,hlt,by first | rfl | simp,by rw [HN.out];exact ho4,hb24⟩,by simp [intOf];omega⟩
        | some x=>
          rw [hres] at hdo;simp only [zKb,zKx] at hdo;have HN:Hid (zAz m.vars env m.rules (k+1)=zAz m.vars env m.rules k++[x]):=zK2 hk' hres;have h63:L+1 <= maxLen:=by have:=HRl.out;unfold maxLen;omega
          have hkb:(L+1)*8 <= 140737488355328:=by have:=HRl.out;omega
          clear hat hou hsu HDo HR hres hk' hL
          go_wp2_with (first | (go_at_call 62;refine (hdo _).mono ?_;rintro e w4 ⟨rfl,hb4⟩;have hb24:=(hbel.alloc hbel.size _).trans (hb4.mono (hbel.alloc hbel.size _).size);have hown4:=fun o=>(zAR (zAR hown (hAr _) (Nat.le_refl _)) hb4 (Nat.le_refl _)).alloc o;have hbase:∀ o,w2.heap.size <= (w4.alloc o).heap.size:=(fun o=>by have:=hb24.size;simp;omega)) | (at_builtin;refine wpList_append_lies _ rfl (.tmp 40) (.tmp 42) 27 rfl w2.heap.size 3 i0 (.int .i64 0) 1 8 Tryz.underlying27 hi hz0 hz1 hz2 rfl (by decide) (.slice (some ⟨g,0,none⟩) L gc) L _ rfl (hown4 _) ⟨w4.heap.size,0,none⟩ 1 1 [.int .i64 x] rfl rfl (cell_one_new _ _ _) (by intro u hu;simp at hu;subst hu;rfl) (by decide) h63 hkb (hbase _) _ rfl ?_;intro g5 cp5 w5 hown5 hgrow5 hat5 hgl5))
          have hb25:Below w2.heap.size w2 w5:=(hb24.alloc hb24.size _).grown hgrow5 (hbase _) (fun z hz=>by have hgz:g=z:=(by simpa [Value.ownBlock] using hz);rw [<- hgz];exact hg)
          have ho5:zHO w2.heap.size w5 (.slice (some ⟨g5,0,none⟩) (L+1) cp5) (zAz m.vars env m.rules (k+1)):=by
            refine ⟨?_,by simp⟩
            rw [HN.out,List.length_append,<- HL.out];rw [show zAE (zAz m.vars env m.rules k++[x])=zAE (zAz m.vars env m.rules k)++[.int .i64 x] by simp [zAE]]
            exact hown5
          exact ⟨⟨k+1,hlt,by first | rfl | simp,ho5,hb25⟩,by simp [intOf];omega⟩
      · have hkn:k=rn:=by omega
        subst hkn;have HRl:Hid ((zAz m.vars env m.rules k).length <= k):=zDm _ _ _ _;generalize zAz m.vars env m.rules k=raw at *;clear HDo HR HOwn kr0 kr1 hlt hk
        by_cases hraw:raw=[]
        · have HRes:Hid (res=upL [code]):=by show _=_;rw [HNL.out,if_pos hraw]
          subst hraw;have hown0:wr.ownsRow w2.heap.size 3 1 (.slice (some ⟨g,0,none⟩) 0 gc) 0 []:=hown;have hown4:=fun o=>hown0.alloc o
          have hbase:∀ o,w2.heap.size <= (wr.alloc o).heap.size:=fun o=>by have:=hbel.size;simp;omega
          have hAr:∀ o,Below wr.heap.size wr (wr.alloc o):=fun o=>(Below.refl _ _).alloc (Nat.le_refl _) o
          clear hown HNL HRl;simp only [List.length_nil];have hso:=fun (w5:World) g5 cp5 (ho:w5.ownsRow w2.heap.size 3 1 (.slice (some ⟨g5,0,none⟩) 1 cp5) 1 (zAE [code]))=>zIZ g5 cp5 w2.heap.size [code] w5 (by simp) ho
          have hms:[code].mergeSort leB=[code]:=List.mergeSort_singleton _;have HUp:Hid (Lib.compact [code]=upL [code]):=by show _=Lib.compact _;rw [hms]
          rw [hms] at hso;simp only [List.length_cons,List.length_nil,Nat.zero_add] at hso;have hco:=fun (w5:World) g5 cp5 (ho:w5.ownsRow w2.heap.size 3 1 (.slice (some ⟨g5,0,none⟩) 1 cp5) 1 (zAE [code]))=>zFt g5 cp5 w2.heap.size [code] w5 (by simp) ho
          simp only [List.length_cons,List.length_nil,Nat.zero_add] at hco;rw [HUp.out] at hco
          go_wp2_with (first | (at_builtin;refine wpList_append_lies _ rfl (.tmp 48) (.tmp 50) 27 rfl w2.heap.size 3 i0 (.int .i64 0) 1 8 Tryz.underlying27 hi hz0 hz1 hz2 rfl (by decide) (.slice (some ⟨g,0,none⟩) 0 gc) 0 _ rfl (hown4 _) ⟨wr.heap.size,0,none⟩ 1 1 [.int .i64 code] rfl rfl (cell_one_new _ _ _) (by intro u hu;simp at hu;subst hu;rfl) (by decide) (by decide) (by decide) (hbase _) _ rfl ?_;intro g5 cp5 w5 hown5 hgrow5 hat5 hgl5;have hg5:w2.heap.size <= g5:=(by rcases hat5 with h5 | h5;(have hgz:g=g5:=(by simpa [Value.ownBlock] using h5));(rw [<- hgz];exact hg);(rw [h5];exact hbase _))) | (go_at_call 63;refine (hso _ _ _ hown5).mono ?_;rintro e w6 ⟨rfl,hgr6,ho6⟩) | (go_at_call 64;refine (hco _ _ _ ho6).mono ?_;rintro e w7 ⟨rfl,hgr7,ho7⟩))
          have hb5:Below w2.heap.size w2 w5:=(hbel.alloc hbel.size _).grown hgrow5 (hbase _) (fun z hz=>by have hgz:g=z:=(by simpa [Value.ownBlock] using hz);rw [<- hgz];exact hg)
          have hb7:Below w2.heap.size w2 w7:=(hb5.grown hgr6 hb5.size (fun z hz=>by rw [<- Option.some.inj hz];exact hg5)).grown hgr7 (Nat.le_trans hb5.size hgr6.size) (fun z hz=>by rw [<- Option.some.inj hz];exact hg5)
          have hI7:zAI w7 (.slice (some ⟨g5,0,none⟩) (upL [code]).length cp5) (upL [code]):=zA4 ho7
          go_ret2
          exact ⟨_,rfl,HB2.out.trans (hb7.mono HB2.out.size),by rw [HRes.out];exact ⟨hI7,zAy ho7 HB2.out.size⟩⟩
        · have HRes:Hid (res=upL raw):=by show _=_;rw [HNL.out,if_neg hraw]
          have hpos:0 < raw.length:=List.length_pos_iff.2 hraw;have hso:=zIZ g gc w2.heap.size raw wr (by have:=HRl.out;omega) hown
          obtain ⟨L,hL⟩:∃ L,L=raw.length:=⟨_,rfl⟩
          have HL:Hid (L=raw.length):=hL;have HLs:Hid ((raw.mergeSort leB).length=L):=by show _=_;rw [List.length_mergeSort,hL]
          have hL12:L <= 12:=by have:=HRl.out;omega
          rw [<- hL] at hso hpos ⊢;clear hown HNL HRl hraw hL
          have HCo:Hid (∀ w5:World,w5.ownsRow w2.heap.size 3 1 (.slice (some ⟨g,0,none⟩) L gc) L (zAE (raw.mergeSort leB))->Calls Tryz.prog 64 #[.slice (some ⟨g,0,none⟩) L gc] w5 fun e w'=>e=.returned (.slice (some ⟨g,0,none⟩) (upL raw).length gc)/\w5.grownBy w' (some g)/\w'.ownsRow w2.heap.size 3 1 (.slice (some ⟨g,0,none⟩) (upL raw).length gc) (upL raw).length (zAE (upL raw))):=fun w5 ho=>by
            rw [<- HLs.out] at ho ⊢;exact zFt g gc w2.heap.size (raw.mergeSort leB) w5 (by rw [HLs.out];omega) ho
          go_wp2_with (first | (go_at_call 63;refine hso.mono ?_;rintro e w6 ⟨rfl,hgr6,ho6⟩;have hco:=HCo.out w6 ho6) | (go_at_call 64;refine hco.mono ?_;rintro e w7 ⟨rfl,hgr7,ho7⟩))
          have hb7:Below w2.heap.size w2 w7:=(hbel.grown hgr6 hbel.size (fun z hz=>by rw [<- Option.some.inj hz];exact hg)).grown hgr7 (Nat.le_trans hbel.size hgr6.size) (fun z hz=>by rw [<- Option.some.inj hz];exact hg)
          have hI7:zAI w7 (.slice (some ⟨g,0,none⟩) (upL raw).length gc) (upL raw):=zA4 ho7
          go_ret2
          exact ⟨_,rfl,HB2.out.trans (hb7.mono HB2.out.size),by rw [HRes.out];exact ⟨hI7,zAy ho7 HB2.out.size⟩⟩
  · have hvl:=fun w' (hb:Below w.heap.size w w')=>zFx _ _ ⟨m.vars,[]⟩ code w' (Nat.lt_of_lt_of_le hB hb.size) (hT.below hb hB) (hVb w' hb ao cap rfl)
    rw [zDd _ hm] at hvl;have hnl:zCC m code=[]:=by unfold zCC;rw [if_neg hw]
    rw [hnl];subst hro;generalize zAk m code=c at *;generalize zFg ⟨m.vars,[]⟩ code=vs at *;generalize m.vars.length=n at *;generalize m.rules.length=rn at *;clear hV hT hVb hnl hm
    go_enter Tryz.func36,Tryz.ntmps36
    go_wp2_with (first | (go_at_call 26;refine (hba _).mono ?_;rintro e w2 ⟨rfl,hb2⟩;have hbw2:=(hA _).trans (hb2.mono (hA _).size)) | (go_at_call 25;refine (hvl _ hbw2).mono ?_;rintro e w3 ⟨v,rfl,hb3,_⟩))
    go_ret2
    exact ⟨_,rfl,hbw2.trans (hb3.mono hbw2.size),⟨none,0,rfl,fun h=>absurd rfl h⟩,World.ownsRow_nil _ _ _ _⟩
theorem zGS (va vr:Value) (m:Mo) (code:Int) (w:World) (hB:0 < w.heap.size) (hT:zAJ w) (hV:zAU w va vr m) (hm:mcode m=0) :
  Calls Tryz.prog 14 #[.agg #[va,vr],.int .i64 code] w fun e w'=>∃ v,e=.returned (.tuple #[v,.int .i64 (zAk m code)])/\Below w.heap.size w w'/\w'.ownsRow w.heap.size 3 1 v (zCC m code).length (zAE (zCC m code)):=by
 have hA:∀ o,Below w.heap.size w (w.alloc o):=fun o=>(Below.refl _ _).alloc (Nat.le_refl _) o
 have hch:=fun o=>zBD va vr m (w.alloc o) (Nat.lt_of_lt_of_le hB (hA o).size) (hT.below (hA o) hB) (hV.below (hA o))
 have hne:=fun w' (hb:Below w.heap.size w w')=>zKd va vr m code w' (Nat.lt_of_lt_of_le hB hb.size) (hT.below hb hB) (hV.below hb) hm
 rw [hm] at hch;obtain ⟨ao,cap,rfl⟩:=hV.1.shape;obtain ⟨ro,rc,rfl⟩:=hV.2.shape;generalize zAk m code=c at *;generalize zCC m code=res at *;generalize m.vars.length=n at *;generalize m.rules.length=rn at *;clear hV hT hm
 go_enter Tryz.func14,Tryz.ntmps14
 go_wp2_with (first | (go_at_call 34;refine (hch _).mono ?_;rintro e w1 ⟨rfl,hb1⟩;have hbw1:=(hA _).trans (hb1.mono (hA _).size);have k10:w1.cell? ⟨w.heap.size,0,none⟩=some (.slice ao n cap):=(hb1.cell (p:=⟨w.heap.size,0,none⟩) (by simp)).trans (by simp [go_sem]);have k11:w1.cell? ⟨w.heap.size,1,none⟩=some (.slice ro rn rc):=(hb1.cell (p:=⟨w.heap.size,1,none⟩) (by simp)).trans (by simp [go_sem])) | (go_at_call 36;refine (hne _ hbw1).mono ?_;rintro e w2 ⟨v,rfl,hb2,hI2,ho2⟩))
 go_ret2
 exact ⟨_,rfl,hbw1.trans (hb2.mono hbw1.size),zAy ho2 hbw1.size⟩
end Go.Proofs.YtnihdlgfhhdhkaaGreatDoor
namespace Go.Proofs.YtnihdlgfhhdhkaaGreatDoor
open Go.ChangeShapes Go.WideShapes Go.ChangeAt Go.RowKit Go.Deep Go.Maps
open Terms Tm
set_option maxHeartbeats 6400000
set_option maxRecDepth 20000
variable {Pz : Nat -> Prop}
noncomputable def zEo (l:List (Int × Int)) (lt:List Bool) (c:Nat):Int:=zEr l (tru l lt (c:Int))
noncomputable def sgL (l:List (Int × Int)) (lt:List Bool):List Int:=(List.range (2 ^ (zAA l).length)).map fun (c:Nat)=>zEo l lt c
theorem zKF (l:List (Int × Int)) (lt:List Bool):(sgL l lt).length=2 ^ (zAA l).length:=by simp [sgL]
theorem zPL {l:List (Int × Int)} {lt:List Bool} {c:Nat} (h:c < 2 ^ (zAA l).length):(sgL l lt).getD c 0=zEo l lt c:=by simp [sgL,List.getD_eq_getElem?_getD,h]
theorem zAM.sk {bs bl:Nat} {w w':World} {v:Value} {x:List Bool} (h:zAM w v x) (hs:Sk bs bl w w') (hm:zBe w bs bl):zAM w' v x:=by
 obtain ⟨ao,cap,rfl,h⟩:=h;refine ⟨ao,cap,rfl,fun hne=>?_⟩
 obtain ⟨b,off,rfl,hlt,hat⟩:=h hne;exact ⟨b,off,rfl,Nat.lt_of_lt_of_le hlt hs.size,fun i hi=>hs.cell hm (hat i hi)⟩
theorem zAI.sk {bs bl:Nat} {w w':World} {v:Value} {x:List Int} (h:zAI w v x) (hs:Sk bs bl w w') (hm:zBe w bs bl):zAI w' v x:=by
 obtain ⟨ao,cap,rfl,h⟩:=h;refine ⟨ao,cap,rfl,fun hne=>?_⟩
 obtain ⟨b,off,rfl,hlt,hat⟩:=h hne;exact ⟨b,off,rfl,Nat.lt_of_lt_of_le hlt hs.size,fun i hi=>hs.cell hm (hat i hi)⟩
theorem SurvAt.sk {bs bl:Nat} {w w':World} {B:Nat} {va vr pv fv av:Value} (h:SurvAt w B va vr pv fv av bs bl) (hs:Sk bs bl w w') (hm:zBe w bs bl):SurvAt w' B va vr pv fv av bs bl:=
 ⟨Nat.lt_of_lt_of_le h.lt hs.size,hs.cell hm h.c0,hs.cell hm h.c1,hs.cell hm h.c2,hs.cell hm h.c3,hs.cell hm h.c4,hs.cell hm h.c5,hs.cell hm h.c6⟩
theorem SpO.sk {bs bl:Nat} {w w':World} {base:Nat} {v:Value} {x:List (Int × Int)} (h:SpO w base v x) (hs:Sk bs bl w w') (hm:zBe w bs bl):SpO w' base v x:=by
 refine ⟨h.1,?_⟩
 rcases h.2 with h0 | ⟨g,cap,cur,h1,h2,h3,h4⟩
 ·exact .inl h0
 ·refine .inr ⟨g,cap,cur,h1,h2,?_,h4⟩
  obtain ⟨⟨es,c,e1⟩,⟨es',c',e2⟩⟩:=hm;rw [hs.block g (Array.getElem?_eq_some_iff.1 h3).1 (fun e=>by subst e;rw [e1] at h3;simp at h3) (fun e=>by subst e;rw [e2] at h3;simp at h3)]
  exact h3
theorem zAS.sk {bs bl:Nat} {w w':World} {v:Value} {t:TypeId} (h:zAS w v t) (hs:Sk bs bl w w') (hm:zBe w bs bl):zAS w' v t:=by
 intro a n c e;obtain ⟨cs,fr,h1⟩:=h a n c e;obtain ⟨⟨es,cl,e1⟩,⟨es',cl',e2⟩⟩:=hm;refine ⟨cs,fr,?_⟩
 rw [hs.block a.block (Array.getElem?_eq_some_iff.1 h1).1 (fun e=>by rw [e,e1] at h1;simp at h1) (fun e=>by rw [e,e2] at h1;simp at h1)]
 exact h1
theorem zAS.below {w w':World} {v:Value} {t:TypeId} (h:zAS w v t) (hb:Below w.heap.size w w'):zAS w' v t:=by
 intro a n c e;obtain ⟨cs,fr,h1⟩:=h a n c e;exact ⟨cs,fr,(hb.block _ (Array.getElem?_eq_some_iff.1 h1).1).trans h1⟩
theorem zAS.setCell {w:World} {v:Value} {t:TypeId} (h:zAS w v t) (b i:Nat) (u:Value):zAS (w.setCell ⟨b,i,none⟩ u) v t:=by
 intro a n c e;obtain ⟨cs,fr,h1⟩:=h a n c e
 by_cases hp:a.block=b
 ·refine ⟨cs.setIfInBounds i u,fr,?_⟩
  simp [World.setCell,Array.getElem?_modify,<- hp,h1]
 ·exact ⟨cs,fr,(RowKit.Below.heap_setCell _ _ _ _ hp).trans h1⟩
theorem zAS.grown {w w':World} {v:Value} {t t':TypeId} {own:Option Nat} (h:zAS w v t) (hg:w.grownBy w' own) (ht:t≠t') (ho:∀ g,own=some g->∃ cs fr,w.heap[g]? = some (.cells cs t' fr)):zAS w' v t:=by
 intro a n c e;obtain ⟨cs,fr,h1⟩:=h a n c e;refine ⟨cs,fr,(hg.block _ (Array.getElem?_eq_some_iff.1 h1).1 (fun e2=>?_)).trans h1⟩
 obtain ⟨cs',fr',h2⟩:=ho _ e2.symm;rw [h1] at h2
 injection h2 with h2
 injection h2 with _ h3 _
 exact ht h3
theorem zAS.owns {w:World} {base n:Nat} {v:Value} {t:TypeId} {s:Nat} {xs:List Value} (h:w.ownsRow base t s v n xs):zAS w v t:=by
 intro a k c e
 rcases h.2 with ⟨h0,_⟩ | ⟨g,cap,cur,h1,_,h3,_⟩
 ·rw [h0] at e;simp at e
 ·rw [h1] at e
  injection e with e _ _
  injection e with e
  subst e;exact ⟨cur,_,h3⟩
theorem zAM.grown {w w':World} {v:Value} {x:List Bool} {own:Option Nat} (h:zAM w v x) (hty:zAS w v 4) (hg:w.grownBy w' own) (ho:∀ g,own=some g->∃ cs fr,w.heap[g]? = some (.cells cs 59 fr)):zAM w' v x:=by
 obtain ⟨ao,cap,rfl,h⟩:=h;refine ⟨ao,cap,rfl,fun hne=>?_⟩
 obtain ⟨b,off,rfl,hlt,hat⟩:=h hne;refine ⟨b,off,rfl,Nat.lt_of_lt_of_le hlt hg.size,fun i hi=>?_⟩
 obtain ⟨cs,fr,h1⟩:=hty _ _ _ rfl
 rw [World.cell?_of_block (hg.block b hlt (fun e2=>by
  obtain ⟨cs',fr',h2⟩:=ho _ e2.symm;rw [h1] at h2
  injection h2 with h2
  injection h2 with _ h3 _
  exact absurd h3 (by decide)))]
 exact hat i hi
theorem zAI.grown {w w':World} {v:Value} {x:List Int} {own:Option Nat} (h:zAI w v x) (hty:zAS w v 3) (hg:w.grownBy w' own) (ho:∀ g,own=some g->∃ cs fr,w.heap[g]? = some (.cells cs 59 fr)):zAI w' v x:=by
 obtain ⟨ao,cap,rfl,h⟩:=h;refine ⟨ao,cap,rfl,fun hne=>?_⟩
 obtain ⟨b,off,rfl,hlt,hat⟩:=h hne;refine ⟨b,off,rfl,Nat.lt_of_lt_of_le hlt hg.size,fun i hi=>?_⟩
 obtain ⟨cs,fr,h1⟩:=hty _ _ _ rfl
 rw [World.cell?_of_block (hg.block b hlt (fun e2=>by
  obtain ⟨cs',fr',h2⟩:=ho _ e2.symm;rw [h1] at h2
  injection h2 with h2
  injection h2 with _ h3 _
  exact absurd h3 (by decide)))]
 exact hat i hi
def zAr (Pz:Nat->Prop) (w:World) (m:Mo) (ps:List (List (Int × Int))) (l:List (Int × Int)) (code:Int) (v:Value):Prop:=
 ∃ lo lc no nc so sc,v=.agg #[.slice lo ps.length lc,.slice no (zAB m code).length nc,.slice so (2 ^ (zAA l).length) sc]/\zAM w (.slice lo ps.length lc) (zAG m ps code)/\zAI w (.slice no (zAB m code).length nc) (zAB m code)/\zAI w (.slice so (2 ^ (zAA l).length) sc) (sgL l (zAG m ps code))/\zAS w (.slice lo ps.length lc) 4/\zAS w (.slice no (zAB m code).length nc) 3/\zAS w (.slice so (2 ^ (zAA l).length) sc) 3/\(∀ a,no=some a->Pz a.block)/\(∀ a,so=some a->Pz a.block)
theorem zAr.sk {bs bl:Nat} {w w':World} {m:Mo} {ps:List (List (Int × Int))} {l:List (Int × Int)} {code:Int} {v:Value} (h:zAr Pz w m ps l code v) (hs:Sk bs bl w w') (hm:zBe w bs bl):zAr Pz w' m ps l code v:=by
 obtain ⟨lo,lc,no,nc,so,sc,h1,h2,h3,h4,h5,h6,h7,h8⟩:=h;exact ⟨lo,lc,no,nc,so,sc,h1,h2.sk hs hm,h3.sk hs hm,h4.sk hs hm,h5.sk hs hm,h6.sk hs hm,h7.sk hs hm,h8⟩
theorem zAr.below {w w':World} {m:Mo} {ps:List (List (Int × Int))} {l:List (Int × Int)} {code:Int} {v:Value} (h:zAr Pz w m ps l code v) (hb:Below w.heap.size w w'):zAr Pz w' m ps l code v:=by
 obtain ⟨lo,lc,no,nc,so,sc,h1,h2,h3,h4,h5,h6,h7,h8⟩:=h;exact ⟨lo,lc,no,nc,so,sc,h1,h2.below hb,h3.below hb,h4.below hb,h5.below hb,h6.below hb,h7.below hb,h8⟩
theorem zAr.grown {w w':World} {m:Mo} {ps:List (List (Int × Int))} {l:List (Int × Int)} {code:Int} {v:Value} {own:Option Nat} (h:zAr Pz w m ps l code v) (hg:w.grownBy w' own) (ho:∀ g,own=some g->∃ cs fr,w.heap[g]? = some (.cells cs 59 fr)):zAr Pz w' m ps l code v:=by
 obtain ⟨lo,lc,no,nc,so,sc,h1,h2,h3,h4,h5,h6,h7,h8⟩:=h;exact ⟨lo,lc,no,nc,so,sc,h1,h2.grown h5 hg ho,h3.grown h6 hg ho,h4.grown h7 hg ho,h5.grown hg (by decide) ho,h6.grown hg (by decide) ho,h7.grown hg (by decide) ho,h8⟩
def six (x:List Bool):List Bool:=x++List.replicate (6 - x.length) false
def zFf (x:List Bool) (c sg:Int):Value:=.agg ((six x).map Value.bool++[Value.int .i64 c,Value.int .i64 sg]).toArray
theorem zMf {x y:List Bool} {c d s t:Int} (hl:x.length=y.length) (h:zFf x c s=zFf y d t):x=y/\c=d/\s=t:=by
 unfold zFf at h
 injection h with h
 have h1:=congrArg Array.toList h;have hs:((six x).map Value.bool).length=((six y).map Value.bool).length:=by simp [six,hl]
 obtain ⟨h2,h3⟩:=List.append_inj h1 hs
 have h4:six x=six y:=by
  have:=List.map_inj_right (f:=Value.bool) (fun a b hab=>by injection hab) |>.1 h2
  exact this
 unfold six at h4;have h5:=(List.append_inj h4 hl).1;simp at h3
 exact ⟨h5,h3.1,h3.2⟩
def zGt (ps:List (List (Int × Int))) (l:List (Int × Int)) (kl:Lit) (v:Value):Prop:=
 ∃ (x:List Bool) (c sg:Int) (b:Bool),x.length=ps.length/\keyOf Tryz.prog 191 (zFf x c sg)=some kl/\v=.agg #[.bool b]/\∀ (y:List Bool) (d:Int),y.length=ps.length->zA2 l y d=0->zEr l (tru l y d)=sg->zA7 l x c y d=b
structure SvOk (Pz:Nat->Prop) (w0 w:World) (B bs bl n:Nat) (va vr pv fv:Value) (m:Mo) (ps:List (List (Int × Int))) (l:List (Int × Int)) (ho:Option Addr) (hc:Nat):Prop where
 box:SurvAt w B va vr pv fv (.slice ho (zAA l).length hc) bs bl
 bel:Below w0.heap.size w0 w
 lo1:w0.heap.size <= bs
 lo2:w0.heap.size <= bl
 ne:bs≠bl
 ah:zAI w (.slice ho (zAA l).length hc) (zAA l)
 aty:zAS w (.slice ho (zAA l).length hc) 3
 up:∀ b,w.heap.size <= b->Pz b
 aP:∀ a,ho=some a->Pz a.block
 st:∃ f,zAZ w 3 bs n f/\∀ kl v,f kl=some v->∃ code,kl=.int .i64 code/\(0 <= code/\code < zAC m.vars m.vars.length)/\zAr Pz w m ps l code v
 li:∃ f,zAZ w 191 bl n f/\∀ kl v,f kl=some v->zGt ps l kl v
section
variable {w0 w w' : World} {B bs bl n : Nat} {va vr pv fv : Value} {m : Mo} {ps : List (List (Int × Int))} {l : List (Int × Int)} {ho : Option Addr} {hc : Nat}
theorem SvOk.two (h:SvOk Pz w0 w B bs bl n va vr pv fv m ps l ho hc):zBe w bs bl:=by
 obtain ⟨f,h1,_⟩:=h.st;obtain ⟨g,h2,_⟩:=h.li;exact ⟨h1.isMap,h2.isMap⟩
theorem SvOk.below (h:SvOk Pz w0 w B bs bl n va vr pv fv m ps l ho hc) (hb:Below w.heap.size w w'):SvOk Pz w0 w' B bs bl n va vr pv fv m ps l ho hc:=by
 obtain ⟨f,h1,h2⟩:=h.st;obtain ⟨g,h3,h4⟩:=h.li;refine ⟨h.box.later hb,h.bel.trans (hb.mono h.bel.size),h.lo1,h.lo2,h.ne,h.ah.below hb,h.aty.below hb,fun b hb2=>h.up b (Nat.le_trans hb.size hb2),h.aP,⟨f,h1.kept (hb.block _ h1.lt),fun kl v hv=>?_⟩,⟨g,h3.kept (hb.block _ h3.lt),h4⟩⟩
 obtain ⟨code,e1,e2,e3⟩:=h2 kl v hv;exact ⟨code,e1,e2,e3.below hb⟩
theorem zAZ.mono {w:World} {kt:TypeId} {b n n':Nat} {f:Lit->Option Value} (h:zAZ w kt b n f) (hn:n <= n'):zAZ w kt b n' f:=by
 obtain ⟨D,h1,h2⟩:=h;exact ⟨D,h1.mono hn,h2⟩
theorem SvOk.mono {n':Nat} (h:SvOk Pz w0 w B bs bl n va vr pv fv m ps l ho hc) (hn:n <= n'):SvOk Pz w0 w B bs bl n' va vr pv fv m ps l ho hc:=by
 obtain ⟨f,h1,h2⟩:=h.st;obtain ⟨g,h3,h4⟩:=h.li;exact ⟨h.box,h.bel,h.lo1,h.lo2,h.ne,h.ah,h.aty,h.up,h.aP,⟨f,h1.mono hn,h2⟩,⟨g,h3.mono hn,h4⟩⟩
theorem SvOk.putL (h:SvOk Pz w0 w B bs bl n va vr pv fv m ps l ho hc) {f:Lit->Option Value} {kl:Lit} {v:Value} (hg:w.grownBy w' (some bl)) (h2:∀ kl v,f kl=some v->zGt ps l kl v)
  (hm:zAZ w' 191 bl (n+1) (zDz f kl v)) (hv:zGt ps l kl v):SvOk Pz w0 w' B bs bl (n+1) va vr pv fv m ps l ho hc:=by
 have hs:Sk bs bl w w':=Sk.grown hg (.inr rfl);have ht:=h.two;obtain ⟨g,h3,h4⟩:=h.st
 refine ⟨h.box.sk hs ht,h.bel.trans (hs.below h.lo1 h.lo2 h.bel.size),h.lo1,h.lo2,h.ne,h.ah.sk hs ht,h.aty.sk hs ht,fun b hb2=>h.up b (Nat.le_trans hs.size hb2),h.aP,⟨g,(h3.kept (hg.block _ h3.lt (by intro e;injection e with e;exact h.ne e))).mono (Nat.le_succ _),fun k u hu=>?_⟩,⟨_,hm,fun k u hu=>?_⟩⟩
 ·obtain ⟨c,e1,e2,e3⟩:=h4 k u hu
  exact ⟨c,e1,e2,e3.sk hs ht⟩
 ·by_cases hk:k=kl
  ·subst hk
   rw [zDP] at hu
   cases hu
   exact hv
  ·rw [zC0 hk] at hu
   exact h2 k u hu
theorem SvOk.spots {own:Option Nat} (h:SvOk Pz w0 w B bs bl n va vr pv fv m ps l ho hc) (hg:w.grownBy w' own) (hown:∀ g,own=some g->B < g/\w0.heap.size <= g/\∃ cs fr,w.heap[g]? = some (.cells cs 59 fr)):SvOk Pz w0 w' B bs bl n va vr pv fv m ps l ho hc:=by
 have hty:∀ g,own=some g->∃ cs fr,w.heap[g]? = some (.cells cs 59 fr):=fun g e=>(hown g e).2.2
 have hbx:∀ i v,w.cell? ⟨B,i,none⟩=some v->w'.cell? ⟨B,i,none⟩=some v:=fun i v hv=>by
  rw [World.cell?_of_block (hg.block B h.box.lt (fun e=>by have:=(hown B e.symm).1;omega))]
  exact hv
 obtain ⟨f,h1,h2⟩:=h.st;obtain ⟨q,h3,h4⟩:=h.li
 have hms:∀ b es c,w.heap[b]? = some (.map es c)->b < w.heap.size->w'.heap[b]? = w.heap[b]?:=fun b es c e hlt=>hg.block b hlt (fun e2=>by
  obtain ⟨cs,fr,e3⟩:=hty b e2.symm;rw [e] at e3
  simp at e3)
 obtain ⟨es1,c1,m1⟩:=h1.isMap;obtain ⟨es2,c2,m2⟩:=h3.isMap
 refine ⟨⟨Nat.lt_of_lt_of_le h.box.lt hg.size,hbx _ _ h.box.c0,hbx _ _ h.box.c1,hbx _ _ h.box.c2,hbx _ _ h.box.c3,hbx _ _ h.box.c4,hbx _ _ h.box.c5,hbx _ _ h.box.c6⟩,?_,h.lo1,h.lo2,h.ne,h.ah.grown h.aty hg hty,h.aty.grown hg (by decide) hty,fun b hb2=>h.up b (Nat.le_trans hg.size hb2),h.aP,⟨f,h1.kept (hms bs _ _ m1 h1.lt),fun kl v hv=>?_⟩,⟨q,h3.kept (hms bl _ _ m2 h3.lt),h4⟩⟩
 ·refine h.bel.trans ⟨hg.os,hg.tape,hg.output,hg.size,fun i hi=>hg.block i (Nat.lt_of_lt_of_le hi h.bel.size) (fun e=>by have:=(hown i e.symm).2.1;omega)⟩
 ·obtain ⟨code,e1,e2,e3⟩:=h2 kl v hv
  exact ⟨code,e1,e2,e3.grown hg hty⟩
end
