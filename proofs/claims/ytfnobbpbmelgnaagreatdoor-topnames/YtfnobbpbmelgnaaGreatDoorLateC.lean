/- Joined texts. -/
import Derived.Test.YtfnobbpbmelgnaaGreatDoorLateB
import Derived.Shelf.Sort.Plain
import Derived.Shelf.Slices.Reverse
import Derived.Shelf.Slices.CompactI
import Derived.Shelf.Slices.SearchI
import Derived.Shelf.Slices.In.SortNone
import Derived.Sort.OwnSortedInts
import Derived.Lib.RowBridge
namespace Go.Proofs.YtfnobbpbmelgnaaGreatDoor
open Go.ChangeShapes Go.WideShapes Go.ChangeAt Go.RowKit Go.Deep Go.Maps
set_option maxHeartbeats 6400000
set_option maxRecDepth 20000
def heldR:Value->Option (DataW Value × List MemPlace):=fun v=>some (.held v,[])
def MapIs (w:World) (kt:TypeId) (b n:Nat) (f:Lit->Option Value):Prop:=
 ∃ D:DataW Value,w.ownsMap Tryz.prog kt heldR b n D/\∀ x,Maps.has D x=(f x).isSome/\∀ v,f x=some v->∀ z,D.atKey x z=.held v
theorem MapIs.lt {w:World} {kt:TypeId} {b n:Nat} {f:Lit->Option Value} (h:MapIs w kt b n f):b < w.heap.size:=by
 obtain ⟨D,h1,_⟩:=h;exact h1.lt
theorem MapIs.isMap {w:World} {kt:TypeId} {b n:Nat} {f:Lit->Option Value} (h:MapIs w kt b n f):∃ es c,w.heap[b]? = some (.map es c):=by
 obtain ⟨D,⟨es,c,h1,_⟩,_⟩:=h;exact ⟨es,c,h1⟩
theorem MapIs.new {w:World} (kt:TypeId) {b:Nat} (h:w.heap[b]? = some (.map #[] 0)):MapIs w kt b 0 (fun _=>none):=by
 obtain ⟨es,c,h1,h2,h3,h4⟩:=World.ownsMap_made w Tryz.prog kt heldR;rw [(MapKept.heap_alloc w _).1] at h1
 injection h1 with h1
 injection h1 with h5 h6
 subst h5 h6;exact ⟨.map [],⟨#[],0,h,h2,Nat.le_refl _,rfl⟩,fun x=>⟨by simp [Maps.has],fun v hv=>by simp at hv⟩⟩
theorem MapIs.kept {w w':World} {kt:TypeId} {b n:Nat} {f:Lit->Option Value} (h:MapIs w kt b n f) (e:w'.heap[b]? = w.heap[b]?):MapIs w' kt b n f:=by
 obtain ⟨D,⟨es,c,h1,h2⟩,h3⟩:=h;exact ⟨D,⟨es,c,e.trans h1,h2⟩,h3⟩
theorem MapIs.look {w:World} {kt:TypeId} {b n:Nat} {f:Lit->Option Value} (h:MapIs w kt b n f) (K:Keyed Tryz.prog kt) {t e:TypeId} (ht:Tryz.prog.underlying t=some (.map kt e)) {z:Value} (hz:(zeroValue e).run Tryz.prog w=.ok z w)
  {key:Value} {kl:Lit} (hkey:keyOf Tryz.prog kt key=some kl):(Instr.lookup t (.map (some b)) key true).run Tryz.prog w=.ok (.tuple #[(f kl).getD z,.bool (f kl).isSome]) w:=by
 obtain ⟨D,h1,h2⟩:=h;obtain ⟨v,ps,hrun,hR⟩:=h1.look_ok K ht hz (zd:=.held z) (zp:=[]) rfl hkey;obtain ⟨hs,hv⟩:=h2 kl;simp only [heldR,Option.some.injEq,Prod.mk.injEq] at hR;rw [hrun,hs]
 cases hf:f kl with
 | none=>
  rw [hf] at hs;have:=Maps.atKey_of_not_has (D:=D) (k:=kl) (by simpa using hs) (.held z)
  rw [this] at hR;have e1:=hR.1
  injection e1 with e1
  rw [e1];rfl
 | some u=>
  rw [hv u hf] at hR;have e1:=hR.1
  injection e1 with e1
  rw [e1];rfl
open Classical in
noncomputable def fput (f:Lit->Option Value) (kl:Lit) (val:Value):Lit->Option Value:=fun x=>if x=kl then some val else f x
theorem fput_same (f:Lit->Option Value) (kl:Lit) (val:Value):fput f kl val kl=some val:=by unfold fput;rw [if_pos rfl]
theorem fput_other {f:Lit->Option Value} {kl x:Lit} (h:x≠kl) (val:Value):fput f kl val x=f x:=by unfold fput;rw [if_neg h]
theorem MapIs.put {w:World} {kt:TypeId} {b n:Nat} {f:Lit->Option Value} (h:MapIs w kt b n f) (K:Keyed Tryz.prog kt) {t e:TypeId} (ht:Tryz.prog.underlying t=some (.map kt e)) (hn:n < maxLen)
  {key val:Value} {kl:Lit} (hkey:keyOf Tryz.prog kt key=some kl) (hlit:WideAt.IsKeyLit kl):∃ w',(Instr.mapUpdate t (.map (some b)) key val).run Tryz.prog w=.ok () w'/\MapIs w' kt b (n+1) (fput f kl val)/\w.grownBy w' (some b):=by
 obtain ⟨D,h1,h2⟩:=h;obtain ⟨w',hrun,h3,h4⟩:=h1.update K ht hn hkey (val:=val) (d:=.held val) (ps:=[]) rfl;refine ⟨w',hrun,⟨_,h3,fun x=>?_⟩,h4⟩
 by_cases hx:x=kl
 ·subst hx
  rw [fput_same];refine ⟨by rw [Maps.has_put_same h1.isMap hlit];rfl,fun v hv z=>?_⟩
  cases hv
  exact Maps.atKey_put_same h1.isMap hlit _ z
 ·rw [fput_other hx]
  refine ⟨by rw [Maps.has_put_other hx];exact (h2 x).1,fun v hv z=>?_⟩
  rw [Maps.atKey_put_other hx];exact (h2 x).2 v hv z
structure Sk (bs bl:Nat) (w w':World):Prop where
 os:w'.os=w.os
 tape:w'.tape=w.tape
 output:w'.output=w.output
 size:w.heap.size <= w'.heap.size
 block:∀ i,i < w.heap.size->i≠bs->i≠bl->w'.heap[i]? = w.heap[i]?
theorem Sk.refl (bs bl:Nat) (w:World):Sk bs bl w w:=⟨rfl,rfl,rfl,Nat.le_refl _,fun _ _ _ _=>rfl⟩
theorem Sk.trans {bs bl:Nat} {a b c:World} (h:Sk bs bl a b) (k:Sk bs bl b c):Sk bs bl a c:=
 ⟨k.os.trans h.os,k.tape.trans h.tape,k.output.trans h.output,Nat.le_trans h.size k.size,fun i hi h1 h2=>(k.block i (Nat.lt_of_lt_of_le hi h.size) h1 h2).trans (h.block i hi h1 h2)⟩
theorem Sk.of {bs bl:Nat} {w w':World} (h:Below w.heap.size w w'):Sk bs bl w w':=⟨h.os,h.tape,h.output,h.size,fun i hi _ _=>h.block i hi⟩
theorem Sk.grown {bs bl:Nat} {w w':World} {r:Nat} (h:w.grownBy w' (some r)) (hr:r=bs\/r=bl):Sk bs bl w w':=
 ⟨h.os,h.tape,h.output,h.size,fun i hi h1 h2=>h.block i hi (by intro e;injection e with e;omega)⟩
theorem Sk.below {bs bl base:Nat} {w w':World} (h:Sk bs bl w w') (h1:base <= bs) (h2:base <= bl) (h3:base <= w.heap.size):Below base w w':=
 ⟨h.os,h.tape,h.output,h.size,fun i hi=>h.block i (by omega) (by omega) (by omega)⟩
def TwoMaps (w:World) (bs bl:Nat):Prop:=(∃ es c,w.heap[bs]? = some (.map es c))/\∃ es c,w.heap[bl]? = some (.map es c)
theorem not_map {w:World} {p:Addr} {v:Value} (h:w.cell? p=some v) {es:Array MapEntry} {c:Nat}:w.heap[p.block]?≠some (.map es c):=by
 intro e;simp [World.cell?,e] at h
theorem Sk.cell {bs bl:Nat} {w w':World} (h:Sk bs bl w w') (hm:TwoMaps w bs bl) {p:Addr} {v:Value} (hp:w.cell? p=some v):w'.cell? p=some v:=by
 obtain ⟨⟨es,c,e1⟩,⟨es',c',e2⟩⟩:=hm;have hlt:=World.block_lt_of_cell? w p hp;rw [World.cell?_of_block (h.block p.block hlt (fun e=>not_map hp (by rw [e];exact e1)) (fun e=>not_map hp (by rw [e];exact e2)))]
 exact hp
end Go.Proofs.YtfnobbpbmelgnaaGreatDoor
namespace Go.Proofs.YtfnobbpbmelgnaaGreatDoor
open Go.ChangeShapes Go.WideShapes Go.ChangeAt Go.RowKit Go.Deep
open Terms
set_option maxHeartbeats 6400000
set_option maxRecDepth 20000
def waitB (k:Int) (a x y:Bool):Bool:=if k=17 then a&&!x else if k=18 then !a&&x else if k=15 then a&&!y else if k=16 then !a&&y else false
def comeB (k:Int) (x y z nx:Bool):Bool:=if k=17 then x||z else if k=18 then x&&z else if k=15 then y||(x&&z) else if k=16 then y&&(x||z) else nx
structure PlaceIn (w:World) (b off n cap B bH:Nat) (l:List (Int × Int)) (h:Nat->Bool) (p:Nat) (kx:Int):Prop where
 n60:n <= 60
 pl:p < n
 one:p+1 < n
 two:kx=15\/kx=16->sec l p < n
 kind:w.cell? ⟨b,off+p*2,none⟩=some (.int .i64 kx)
 bl:b < w.heap.size
 row:∀ j,j < n->w.cell? ⟨bH,j,none⟩=some (.bool (h j))
 hl:bH < w.heap.size
 ends : ∀ j, j < n -> w.cell? ⟨B, j, none⟩ = some (.int .i64 (endAt (l.map Prod.fst) j))
 el:B < w.heap.size
theorem waits_any (b off n cap B bH:Nat) (l:List (Int × Int)) (h:Nat->Bool) (p:Nat) (kx:Int) (aao:Option Addr) (an ac:Nat) (w:World) (hI:PlaceIn w b off n cap B bH l h p kx) :
  Calls Tryz.prog 87 #[.agg #[.slice (some ⟨b,off,none⟩) n cap,.slice (some ⟨B,0,none⟩) n n,.slice aao an ac],.int .i64 (p:Int),.slice (some ⟨bH,0,none⟩) n n] w fun e w'=>e=.returned (.bool (waitB kx (h p) (h (p+1)) (h (sec l p))))/\Below w.heap.size w w':=by
 obtain ⟨h60,hp,hp1,hp2,ck,hbl,hrow,hhl,hends,hel⟩:=hI;have hA:∀ o,Below w.heap.size w (w.alloc o):=fun o=>(Below.refl _ _).alloc (Nat.le_refl _) o
 have hpa:=fun o=>parts_any b off cap n B bH p _ h l aao an ac rfl (w.alloc o) (fun j hj=>((hA o).cell (p:=⟨bH,j,none⟩) hhl).trans (hrow j hj)) (Nat.lt_of_lt_of_le hhl (hA o).size) (fun j hj=>((hA o).cell (p:=⟨B,j,none⟩) hel).trans (hends j hj)) (Nat.lt_of_lt_of_le hel (hA o).size)
 have hpa:=hpa (.cells #[.slice (some ⟨b,off,none⟩) n cap,.slice (some ⟨B,0,none⟩) n n,.slice aao an ac] 130);simp only [World.size_alloc] at hpa
 have HP2:Hid (∀ w2,Below (w.heap.size+1) (w.alloc (.cells #[.slice (some ⟨b,off,none⟩) n cap,.slice (some ⟨B,0,none⟩) n n,.slice aao an ac] 130)) w2->Below w.heap.size w w2/\w2.cell? ⟨b,off+p*2,none⟩=some (.int .i64 kx)/\w2.cell? ⟨bH,p,none⟩=some (.bool (h p))/\w2.cell? ⟨w.heap.size,0,none⟩=some (.slice (some ⟨b,off,none⟩) n cap)):=fun w2 hb=>by
  have hb2:=(hA _).trans (hb.mono (Nat.le_succ _));exact ⟨hb2,(hb2.cell (p:=⟨b,_,none⟩) hbl).trans ck,(hb2.cell (p:=⟨bH,_,none⟩) hhl).trans (hrow p hp),(hb.cell (p:=⟨w.heap.size,0,none⟩) (by simp)).trans (by simp [go_sem])⟩
 have HF:Hid (∀ w2 bh bf bp,PartsAt w2 bh bf bp bH n B p h l->Calls Tryz.prog 100 #[.pointer (some ⟨bh,0,none⟩),.pointer (some ⟨bp,0,none⟩)] w2 fun e w'=>e=.returned (.bool (h (p+1)))/\w'=w2):=fun w2 bh bf bp hP=>first_any bh bp bH n p _ w2 h60 hp1 hP.holds hP.place (hP.row _ hp1)
 have HS:Hid ((kx=15\/kx=16)->∀ w2 bh bf bp,PartsAt w2 bh bf bp bH n B p h l->Calls Tryz.prog 101 #[.pointer (some ⟨bh,0,none⟩),.pointer (some ⟨bf,0,none⟩),.pointer (some ⟨bp,0,none⟩)] w2 fun e w'=>e=.returned (.bool (h (sec l p)))/\∃ r,w'=w2.drewN r):=fun hk w2 bh bf bp hP=>second_any bh bf bp bH n B p (sec l p) _ w2 h60 hp1 (hp2 hk) hP.holds hP.place hP.ends (hP.erow _ hp1) (hP.row _ (hp2 hk))
 generalize hx:h (p+1)=x at *;generalize hy:h (sec l p)=y at *;generalize hz:h p=z at *;clear hx hy hz hrow hends ck hp2 hA
 by_cases e17:kx=17
 ·subst e17
  rw [show waitB 17 z x y=(z&&!x) by simp [waitB]]
  clear HS
  cases z
  all_goals
   go_enter Tryz.func87,Tryz.ntmps87
   go_wp2_with (first | (go_at_call 82;refine hpa.mono ?_;rintro e w2 ⟨rfl,hb2,HP⟩;obtain ⟨hbw,d0,d1,d2⟩:=HP2.out w2 hb2;have hf:=HF.out w2 _ _ _ HP.out) | (go_at_call 100;refine hf.mono ?_;rintro e w3 ⟨rfl,hw3⟩;obtain rfl:=hw3.symm))
   go_ret
   exact ⟨by first | rfl | simp,by first | exact hbw | exact below_drewN hbw _⟩
 ·by_cases e18:kx=18
  ·subst e18
   rw [show waitB 18 z x y=(!z&&x) by simp [waitB]]
   clear HS
   cases z
   all_goals
    go_enter Tryz.func87,Tryz.ntmps87
    go_wp2_with (first | (go_at_call 82;refine hpa.mono ?_;rintro e w2 ⟨rfl,hb2,HP⟩;obtain ⟨hbw,d0,d1,d2⟩:=HP2.out w2 hb2;have hf:=HF.out w2 _ _ _ HP.out) | (go_at_call 100;refine hf.mono ?_;rintro e w3 ⟨rfl,hw3⟩;obtain rfl:=hw3.symm))
    go_ret
    exact ⟨by first | rfl | simp,by first | exact hbw | exact below_drewN hbw _⟩
  ·by_cases e15:kx=15
   ·subst e15
    rw [show waitB 15 z x y=(z&&!y) by simp [waitB]]
    have HS2:=(show Hid _ from HS.out (by decide))
    clear HS
    cases z
    all_goals
     go_enter Tryz.func87,Tryz.ntmps87
     go_wp2_with (first | (go_at_call 82;refine hpa.mono ?_;rintro e w2 ⟨rfl,hb2,HP⟩;obtain ⟨hbw,d0,d1,d2⟩:=HP2.out w2 hb2;have hs:=HS2.out w2 _ _ _ HP.out) | (go_at_call 101;refine hs.mono ?_;rintro e w3 ⟨rfl,r3,rfl⟩))
     go_ret
     exact ⟨by first | rfl | simp,by first | exact hbw | exact below_drewN hbw _⟩
   ·by_cases e16:kx=16
    ·subst e16
     rw [show waitB 16 z x y=(!z&&y) by simp [waitB]]
     have HS2:=(show Hid _ from HS.out (by decide))
     clear HS
     cases z
     all_goals
      go_enter Tryz.func87,Tryz.ntmps87
      go_wp2_with (first | (go_at_call 82;refine hpa.mono ?_;rintro e w2 ⟨rfl,hb2,HP⟩;obtain ⟨hbw,d0,d1,d2⟩:=HP2.out w2 hb2;have hs:=HS2.out w2 _ _ _ HP.out) | (go_at_call 101;refine hs.mono ?_;rintro e w3 ⟨rfl,r3,rfl⟩))
      go_ret
      exact ⟨by first | rfl | simp,by first | exact hbw | exact below_drewN hbw _⟩
    ·rw [show waitB kx z x y=false by simp [waitB,e17,e18,e15,e16]]
     clear HS
     go_enter Tryz.func87,Tryz.ntmps87
     go_wp2_with (first | (go_at_call 82;refine hpa.mono ?_;rintro e w2 ⟨rfl,hb2,HP⟩;obtain ⟨hbw,d0,d1,d2⟩:=HP2.out w2 hb2))
     go_ret
     exact ⟨rfl,hbw⟩
theorem itself_any (bn bp bN n pl:Nat) (x:Bool) (w:World) (hp:pl < n) (c0:w.cell? ⟨bn,0,none⟩=some (.slice (some ⟨bN,0,none⟩) n n)) (c1:w.cell? ⟨bp,0,none⟩=some (.int .i64 pl)) (c2:w.cell? ⟨bN,pl,none⟩=some (.bool x)) :
  Calls Tryz.prog 121 #[.pointer (some ⟨bn,0,none⟩),.pointer (some ⟨bp,0,none⟩)] w fun e w'=>e=.returned (.bool x)/\w'=w:=by
 go_enter Tryz.func121,Tryz.ntmps121
 go_wp2_with fail
 go_ret
 exact ⟨rfl,rfl⟩
def waitAt (l:List (Int × Int)) (h:Nat->Bool) (p:Nat):Bool:=waitB (l.getD p (0,0)).1 (h p) (h (p+1)) (h (sec l p))
def metTo (l:List (Int × Int)) (h:Nat->Bool):Nat->Int
 | 0=>0
 | k+1=>metTo l h k+if waitAt l h ((aheadL l).getD k 0).toNat=true then 0 else 2 ^ k
theorem metTo_bounds (l:List (Int × Int)) (h:Nat->Bool):∀ k,0 <= metTo l h k/\metTo l h k < 2 ^ k:=by
 intro k
 induction k with
 | zero=>simp [metTo]
 | succ k ih=>
  have h2:(0:Int) < 2 ^ k:=Int.pow_pos (by decide)
  simp only [metTo];rw [Int.pow_succ]
  split <;> omega
theorem or_small:∀ k,k < 6->∀ c,c < 2 ^ k->bits BinOp.or IntKind.i64 ((c:Nat):Int) (2 ^ k)=((c:Nat):Int)+2 ^ k:=by decide
theorem or_bit {c:Int} {k:Nat} (hk:k < 6) (h0:0 <= c) (h1:c < 2 ^ k):bits BinOp.or IntKind.i64 c (2 ^ k)=c+2 ^ k:=by
 obtain ⟨m,rfl⟩:∃ m:Nat,c=m:=⟨c.toNat,by omega⟩
 refine or_small k hk m ?_
 have e:((2 ^ k:Nat):Int)=2 ^ k:=by simp
 omega
theorem pow_small {k:Nat} (hk:k <= 6):(2:Int) ^ k <= 64:=by
 have hcase:k=0\/k=1\/k=2\/k=3\/k=4\/k=5\/k=6:=by omega
 rcases hcase with rfl | rfl | rfl | rfl | rfl | rfl | rfl <;> decide
noncomputable def metN (l:List (Int × Int)) (letter:List Bool) (claim:Int):Int:=if tcode l letter claim=0 then metTo l (tru l letter claim) (aheadL l).length else 0
theorem place_in {w:World} {b off cap B bH:Nat} {av:Value} {l:List (Int × Int)} {h:Nat->Bool} (hW:WholeAt w (.slice (some ⟨b,off,none⟩) l.length cap) B av l) (hz:endsCode (l.map Prod.fst)=0) (hr:w.rowIs bH 4 l.length (fun j=>.bool (h j))) {p:Nat} (hp:p < l.length) (hk:lookB (l.getD p (0,0)).1=true):PlaceIn w b off l.length cap B bH l h p (l.getD p (0,0)).1:=by
 obtain ⟨b',off',cap',hv,hbl,hat,hrow,_⟩:=hW
 injection hv with e1 e2 e3
 injection Option.some.inj e1 with e4 e5
 subst e4 e5;obtain ⟨hne,h60⟩:=ends_ne hz;rw [List.length_map] at h60;obtain ⟨h1,h2⟩:=part_in hz hp;have hk':14 <= (l.getD p (0,0)).1/\(l.getD p (0,0)).1 <= 18:=by simpa [lookB] using hk
 have hpn:1 <= pn (l.getD p (0,0)).1:=by
  unfold pn
  split
  ·omega
  ·split
   ·omega
   ·omega
 exact ⟨h60,hp,h1 hpn,fun e=>(h2 (by rcases e with e | e <;> rw [e] <;> rfl)).2,(hat p hp).1,hbl,fun j hj=>hr.cell hj,hr.lt,fun j hj=>hrow.cell hj,hrow.lt⟩
theorem lmeets_any (v lv:Value) (l:List (Int × Int)) (letter:List Bool) (claim:Int) (w:World) (hB:0 < w.heap.size) (hT:TabAt w) (hV:OpsV w v l) (hL:BoolsV w lv letter) :
  Calls Tryz.prog 68 #[v,lv,.int .i64 claim] w fun e w'=>e=.returned (.tuple #[.int .i64 (metN l letter claim),.int .i64 (tcode l letter claim)])/\Below w.heap.size w w':=by
 have hrd:=lread2 v l letter.length w hB hT hV;obtain ⟨lo,lc,rfl,hl⟩:=id hL;obtain ⟨oo,oc,rfl,_⟩:=id hV
 by_cases hc:lcode letter.length l=0
 ·obtain ⟨_,_,hz,_,h6⟩:=lcode_zero hc
  have hrd2:Calls Tryz.prog 59 #[.slice oo l.length oc,.int .i64 (letter.length:Int)] w fun e w'=>Below w.heap.size w w'/\∃ B aao ac,e=.returned (.tuple #[.agg #[.slice oo l.length oc,.slice (some ⟨B,0,none⟩) l.length l.length,.slice aao (aheadL l).length ac],.int .i64 0])/\Hid (WholeAt w' (.slice oo l.length oc) B (.slice aao (aheadL l).length ac) l):=hrd.mono fun e w' ⟨h1,_,h3⟩=>⟨h1,h3 hc⟩
  have HM:Hid (∀ w1 B aao ac,Below w.heap.size w w1->WholeAt w1 (.slice oo l.length oc) B (.slice aao (aheadL l).length ac) l->Calls Tryz.prog 65 #[.agg #[.slice oo l.length oc,.slice (some ⟨B,0,none⟩) l.length l.length,.slice aao (aheadL l).length ac],.slice lo letter.length lc,.int .i64 claim] (w1.alloc (.cells #[.slice oo l.length oc,.slice (some ⟨B,0,none⟩) l.length l.length,.slice aao (aheadL l).length ac] 130)) fun e w'=>Below (w1.heap.size+1) (w1.alloc (.cells #[.slice oo l.length oc,.slice (some ⟨B,0,none⟩) l.length l.length,.slice aao (aheadL l).length ac] 130)) w'/\(ClaimNo l claim->e=.returned (.tuple #[.slice none 0 0,.int .i64 2]))/\(¬ ClaimNo l claim->∃ bH,e=.returned (.tuple #[.slice (some ⟨bH,0,none⟩) l.length l.length,.int .i64 0])/\Hid (w'.rowIs bH 4 l.length (fun j=>.bool (tru l letter claim j))))):=fun w1 B aao ac hb hW=>by
   have hA:∀ o,Below w1.heap.size w1 (w1.alloc o):=fun o=>(Below.refl _ _).alloc (Nat.le_refl _) o
   refine (meth_any _ B _ _ l letter claim (w1.alloc _) hc (hW.below (hA _)) ((hL.below hb).below (hA _))).mono fun e w' ⟨h1,h2,h3⟩=>⟨?_,h2,h3⟩
   simpa using h1
  by_cases hcl:ClaimNo l claim
  ·have htc:tcode l letter claim=2:=tcode_no hc hcl
   rw [htc,show metN l letter claim=0 by unfold metN;rw [htc];rfl]
   have HM2:Hid (∀ w1 B aao ac,Below w.heap.size w w1->WholeAt w1 (.slice oo l.length oc) B (.slice aao (aheadL l).length ac) l->Calls Tryz.prog 65 #[.agg #[.slice oo l.length oc,.slice (some ⟨B,0,none⟩) l.length l.length,.slice aao (aheadL l).length ac],.slice lo letter.length lc,.int .i64 claim] (w1.alloc (.cells #[.slice oo l.length oc,.slice (some ⟨B,0,none⟩) l.length l.length,.slice aao (aheadL l).length ac] 130)) fun e w'=>e=.returned (.tuple #[.slice none 0 0,.int .i64 2])/\Below w1.heap.size w1 w'):=fun w1 B aao ac hb hW=>(HM.out w1 B aao ac hb hW).mono fun e w' ⟨h1,h2,_⟩=>⟨h2 hcl,((Below.refl _ _).alloc (Nat.le_refl _) _).trans (h1.mono (Nat.le_succ _))⟩
   generalize (aheadL l).length=an at *;generalize letter.length=ln at *;generalize l.length=n at *;clear hrd hT hV hL hl hc HM hcl htc hz h6
   go_enter Tryz.func68,Tryz.ntmps68
   go_wp2_with (first | (go_at_call 59;refine hrd2.mono ?_;rintro e w1 ⟨hb1,B,aao,ac,rfl,HW⟩;have hme:=HM2.out w1 B aao ac hb1 HW.out) | (go_at_call 65;refine hme.mono ?_;rintro e w2 ⟨rfl,hb2⟩))
   go_ret2
   exact ⟨rfl,hb1.trans (hb2.mono hb1.size)⟩
  ·have htc:tcode l letter claim=0:=tcode_ok hc hcl
   rw [htc,show metN l letter claim=metTo l (tru l letter claim) (aheadL l).length by unfold metN;rw [htc];rfl]
   have HM2:Hid (∀ w1 B aao ac,Below w.heap.size w w1->WholeAt w1 (.slice oo l.length oc) B (.slice aao (aheadL l).length ac) l->Calls Tryz.prog 65 #[.agg #[.slice oo l.length oc,.slice (some ⟨B,0,none⟩) l.length l.length,.slice aao (aheadL l).length ac],.slice lo letter.length lc,.int .i64 claim] (w1.alloc (.cells #[.slice oo l.length oc,.slice (some ⟨B,0,none⟩) l.length l.length,.slice aao (aheadL l).length ac] 130)) fun e w'=>∃ bH,e=.returned (.tuple #[.slice (some ⟨bH,0,none⟩) l.length l.length,.int .i64 0])/\Below w1.heap.size w1 w'/\w1.heap.size < w'.heap.size/\w'.cell? ⟨w1.heap.size,0,none⟩=some (.slice oo l.length oc)/\w'.cell? ⟨w1.heap.size,1,none⟩=some (.slice (some ⟨B,0,none⟩) l.length l.length)/\w'.cell? ⟨w1.heap.size,2,none⟩=some (.slice aao (aheadL l).length ac)/\Hid (WholeAt w' (.slice oo l.length oc) B (.slice aao (aheadL l).length ac) l/\w'.rowIs bH 4 l.length (fun j=>.bool (tru l letter claim j)))):=fun w1 B aao ac hb hW=>(HM.out w1 B aao ac hb hW).mono fun e w' ⟨h1,_,h3⟩=>by
    obtain ⟨bH,he,hr⟩:=h3 hcl;have hb':Below w1.heap.size w1 w':=((Below.refl _ _).alloc (Nat.le_refl _) _).trans (h1.mono (Nat.le_succ _))
    refine ⟨bH,he,hb',by have:=h1.size;simp at this;omega,(h1.cell (p:=⟨w1.heap.size,0,none⟩) (Nat.lt_succ_self _)).trans (by simp [go_sem]),(h1.cell (p:=⟨w1.heap.size,1,none⟩) (Nat.lt_succ_self _)).trans (by simp [go_sem]),(h1.cell (p:=⟨w1.heap.size,2,none⟩) (Nat.lt_succ_self _)).trans (by simp [go_sem]),hW.below hb',hr.out⟩
   have HWa:Hid (∀ w2 B bH aao ac p,WholeAt w2 (.slice oo l.length oc) B (.slice aao (aheadL l).length ac) l->w2.rowIs bH 4 l.length (fun j=>.bool (tru l letter claim j))->p < l.length->lookB (l.getD p (0,0)).1=true->Calls Tryz.prog 87 #[.agg #[.slice oo l.length oc,.slice (some ⟨B,0,none⟩) l.length l.length,.slice aao (aheadL l).length ac],.int .i64 (p:Int),.slice (some ⟨bH,0,none⟩) l.length l.length] w2 fun e w'=>e=.returned (.bool (waitAt l (tru l letter claim) p))/\Below w2.heap.size w2 w'):=fun w2 B bH aao ac p hW hr hp hk=>by
    obtain ⟨b,off,cap,hv,_⟩:=id hW
    injection hv with e1 e2 e3
    subst e1 e3;exact waits_any b off l.length oc B bH l _ p _ aao _ ac w2 (place_in hW hz hr hp hk)
   have HG:Hid (∀ w2 B aao ac k,WholeAt w2 (.slice oo l.length oc) B (.slice aao (aheadL l).length ac) l->k < (aheadL l).length->∃ p:Nat,(∃ ab aoff,aao=some ⟨ab,aoff,none⟩/\w2.cell? ⟨ab,aoff+k,none⟩=some (.int .i64 (p:Int)))/\p < l.length/\lookB (l.getD p (0,0)).1=true/\((aheadL l).getD k 0).toNat=p):=fun w2 B aao ac k hW hk=>by
    obtain ⟨_,_,_,_,_,_,_,ao',ac',hsl,hai⟩:=hW
    injection hsl with e1 e2 e3
    subst e1;obtain ⟨ab,aoff,rfl,habl,haat⟩:=hai (by intro h;rw [h] at hk;simp at hk)
    obtain ⟨p,h1,h2,h3,h4⟩:=aheadTo_get l l.length k hk;have h1':(aheadL l).getD k 0=(p:Int):=h1;exact ⟨p,⟨ab,aoff,rfl,by rw [haat k hk,h1']⟩,h2,h3,by rw [h1'];rfl⟩
   have HMS:Hid (∀ k,metTo l (tru l letter claim) (k+1)=metTo l (tru l letter claim) k+if waitAt l (tru l letter claim) ((aheadL l).getD k 0).toNat=true then 0 else 2 ^ k):=fun _=>rfl
   have HMB:Hid (∀ k,0 <= metTo l (tru l letter claim) k/\metTo l (tru l letter claim) k < 2 ^ k):=metTo_bounds _ _
   have HM0:Hid (metTo l (tru l letter claim) 0=0):=rfl;generalize metTo l (tru l letter claim)=mt at *;generalize hwt:waitAt l (tru l letter claim)=wt at *;clear hwt;obtain ⟨an,han⟩:∃ an,an=(aheadL l).length:=⟨_,rfl⟩
   rw [<- han] at hrd2 HM2 HWa HG h6 ⊢;generalize hnn:l.length=n at *;generalize letter.length=ln at *;clear hrd hT hV hL hl hc HM hcl htc hz hnn han
   go_enter Tryz.func68,Tryz.ntmps68
   go_wp2_with (first | (go_at_call 59;refine hrd2.mono ?_;rintro e w1 ⟨hb1,B,aao,ac,rfl,HW⟩;have hme:=HM2.out w1 B aao ac hb1 HW.out) | (go_at_call 65;refine hme.mono ?_;rintro e w2 ⟨bH,rfl,hb2,hs2,d0,d1,d2,HW2⟩))
   have hb12:=hb1.trans (hb2.mono hb1.size);clear hrd2 hme HM2 HW
   go_loopw [11,37] (fun mv i wr=>∃ k:Nat,k <= an/\i=.int .i64 (k:Int)/\mv=.int .i64 (mt k)/\Hid (Below w2.heap.size w2 wr)) (fun _ i _=>an - (intOf i).toNat)
   case atStart=>exact ⟨0,Nat.zero_le _,rfl,by rw [HM0.out],Below.refl _ _⟩
   case round=>
    obtain ⟨k,hk,rfl,rfl,HBel⟩:=hrel;have hbel:=HBel.out;have d0':=(hbel.cell (p:=⟨w1.heap.size,0,none⟩) hs2).trans d0;have d1':=(hbel.cell (p:=⟨w1.heap.size,1,none⟩) hs2).trans d1;have d2':=(hbel.cell (p:=⟨w1.heap.size,2,none⟩) hs2).trans d2
    by_cases hlt:k < an
    ·have hWr:=HW2.out.1.below hbel
     obtain ⟨p,⟨ab,aoff,rfl,hca⟩,hpn,hpk,hpi⟩:=HG.out wr B aao ac k hWr hlt;have hwa:=HWa.out wr B bH _ ac p hWr (row_later HW2.out.2 hbel) hpn hpk;have HS:=(show Hid _ from HMS.out k)
     rw [hpi] at HS;obtain ⟨hm0,hm1⟩:=HMB.out k;have hk6:k < 6:=by omega
     have hps:=pow_small (k:=k) (by omega)
     have h2k:(0:Int) < 2 ^ k:=Int.pow_pos (by decide)
     have HOr:Hid (bits BinOp.or IntKind.i64 (mt k) (2 ^ k)=mt k+2 ^ k):=or_bit hk6 hm0 hm1;generalize wt p=wv at *;clear HWa HG HMS HMB hpi hpk HW2 hWr
     cases wv with
     | true=>
      have HS2:Hid (mt (k+1)=mt k):=by show _=_;rw [HS.out];simp
      clear HS
      go_wp2_with (go_at_call 87;refine hwa.mono ?_;rintro e w3 ⟨rfl,hb3⟩)
      exact ⟨⟨k+1,hlt,by first | rfl | simp,by rw [HS2.out],hbel.trans (hb3.mono hbel.size)⟩,by simp [intOf];omega⟩
     | false=>
      have HS2:Hid (mt (k+1)=mt k+2 ^ k):=by show _=_;rw [HS.out];simp
      clear HS
      go_wp2_with (go_at_call 87;refine hwa.mono ?_;rintro e w3 ⟨rfl,hb3⟩)
      exact ⟨⟨k+1,hlt,by first | rfl | simp,by rw [HS2.out,<- HOr.out],hbel.trans (hb3.mono hbel.size)⟩,by simp [intOf];omega⟩
    ·obtain rfl:k=an:=by omega
     go_wp2_with fail
     go_ret2
     exact ⟨rfl,hb12.trans (hbel.mono hb12.size)⟩
 ·have htc:=tcode_bad (claim:=claim) hc
  rw [htc,show metN l letter claim=0 by unfold metN;rw [htc,if_neg hc]]
  have hrd2:Calls Tryz.prog 59 #[.slice oo l.length oc,.int .i64 (letter.length:Int)] w fun e w'=>Below w.heap.size w w'/\e=.returned (.tuple #[.agg #[.slice none 0 0,.slice none 0 0,.slice none 0 0],.int .i64 (lcode letter.length l)]):=hrd.mono fun e w' ⟨h1,h2,_⟩=>⟨h1,h2 hc⟩
  generalize lcode letter.length l=x at *;generalize letter.length=ln at *;generalize l.length=n at *;clear hrd hT hV hL hl htc
  go_enter Tryz.func68,Tryz.ntmps68
  go_wp2_with (go_at_call 59;refine hrd2.mono ?_;rintro e w1 ⟨hb1,rfl⟩)
  go_ret2
  exact ⟨rfl,by first | exact hb1 | exact hb1.alloc hb1.size _⟩
theorem comes_any (b off n cap B bH bN:Nat) (l:List (Int × Int)) (h g:Nat->Bool) (p:Nat) (kx:Int) (aao:Option Addr) (an ac:Nat) (w:World) (hI:PlaceIn w b off n cap B bH l h p kx) (hN:∀ j,j < n->w.cell? ⟨bN,j,none⟩=some (.bool (g j))) (hNl:bN < w.heap.size) :
  Calls Tryz.prog 103 #[.agg #[.slice (some ⟨b,off,none⟩) n cap,.slice (some ⟨B,0,none⟩) n n,.slice aao an ac],.int .i64 (p:Int),.slice (some ⟨bH,0,none⟩) n n,.slice (some ⟨bN,0,none⟩) n n] w fun e w'=>e=.returned (.bool (comeB kx (h (p+1)) (h (sec l p)) (g p) (g (p+1))))/\Below w.heap.size w w':=by
 obtain ⟨h60,hp,hp1,hp2,ck,hbl,hrow,hhl,hends,hel⟩:=hI;have hA:Below w.heap.size w (((w.alloc (.cells #[.slice (some ⟨b,off,none⟩) n cap,.slice (some ⟨B,0,none⟩) n n,.slice aao an ac] 130)).alloc (.cells #[.int .i64 (p:Int)] 3)).alloc (.cells #[.slice (some ⟨bN,0,none⟩) n n] 100)):=(((Below.refl _ _).alloc (Nat.le_refl _) _).alloc (by simp) _).alloc (by simp;omega) _
 have hpa:=parts_any b off cap n B bH p _ h l aao an ac rfl (((w.alloc (.cells #[.slice (some ⟨b,off,none⟩) n cap,.slice (some ⟨B,0,none⟩) n n,.slice aao an ac] 130)).alloc (.cells #[.int .i64 (p:Int)] 3)).alloc (.cells #[.slice (some ⟨bN,0,none⟩) n n] 100)) (fun j hj=>(hA.cell (p:=⟨bH,j,none⟩) hhl).trans (hrow j hj)) (Nat.lt_of_lt_of_le hhl hA.size) (fun j hj=>(hA.cell (p:=⟨B,j,none⟩) hel).trans (hends j hj)) (Nat.lt_of_lt_of_le hel hA.size)
 simp only [World.size_alloc] at hpa
 have HP2:Hid (∀ w2,Below (w.heap.size+1+1+1) (((w.alloc (.cells #[.slice (some ⟨b,off,none⟩) n cap,.slice (some ⟨B,0,none⟩) n n,.slice aao an ac] 130)).alloc (.cells #[.int .i64 (p:Int)] 3)).alloc (.cells #[.slice (some ⟨bN,0,none⟩) n n] 100)) w2->Below w.heap.size w w2/\w2.cell? ⟨b,off+p*2,none⟩=some (.int .i64 kx)/\w2.cell? ⟨w.heap.size,0,none⟩=some (.slice (some ⟨b,off,none⟩) n cap)/\w2.cell? ⟨w.heap.size,1,none⟩=some (.slice (some ⟨B,0,none⟩) n n)/\w2.cell? ⟨w.heap.size,2,none⟩=some (.slice aao an ac)/\w2.cell? ⟨w.heap.size+1,0,none⟩=some (.int .i64 (p:Int))/\w2.cell? ⟨w.heap.size+1+1,0,none⟩=some (.slice (some ⟨bN,0,none⟩) n n)):=fun w2 hb=>by
  have hb2:=hA.trans (hb.mono (by omega))
  refine ⟨hb2,(hb2.cell (p:=⟨b,_,none⟩) hbl).trans ck,(hb.cell (p:=⟨w.heap.size,0,none⟩) (by first | (simp;omega) | simp)).trans (by simp [go_sem]),(hb.cell (p:=⟨w.heap.size,1,none⟩) (by first | (simp;omega) | simp)).trans (by simp [go_sem]),(hb.cell (p:=⟨w.heap.size,2,none⟩) (by first | (simp;omega) | simp)).trans (by simp [go_sem]),(hb.cell (p:=⟨w.heap.size+1,0,none⟩) (by first | (simp;omega) | simp)).trans (by simp [go_sem]),(hb.cell (p:=⟨w.heap.size+1+1,0,none⟩) (by simp)).trans (by simp [go_sem])⟩
 have HF:Hid (∀ w2 bh bf bp,PartsAt w2 bh bf bp bH n B p h l->∀ w3,(∀ q,w3.cell? q=w2.cell? q)->Calls Tryz.prog 100 #[.pointer (some ⟨bh,0,none⟩),.pointer (some ⟨bp,0,none⟩)] w3 fun e w'=>e=.returned (.bool (h (p+1)))/\w'=w3):=fun w2 bh bf bp hP w3 hc=>first_any bh bp bH n p _ w3 h60 hp1 ((hc _).trans hP.holds) ((hc _).trans hP.place) ((hc _).trans (hP.row _ hp1))
 have HS:Hid ((kx=15\/kx=16)->∀ w2 bh bf bp,PartsAt w2 bh bf bp bH n B p h l->Calls Tryz.prog 101 #[.pointer (some ⟨bh,0,none⟩),.pointer (some ⟨bf,0,none⟩),.pointer (some ⟨bp,0,none⟩)] w2 fun e w'=>e=.returned (.bool (h (sec l p)))/\∃ r,w'=w2.drewN r):=fun hk w2 bh bf bp hP=>second_any bh bf bp bH n B p (sec l p) _ w2 h60 hp1 (hp2 hk) hP.holds hP.place hP.ends (hP.erow _ hp1) (hP.row _ (hp2 hk))
 have HZ:Hid (∀ w2,Below w.heap.size w w2->w2.cell? ⟨w.heap.size+1,0,none⟩=some (.int .i64 (p:Int))->w2.cell? ⟨w.heap.size+1+1,0,none⟩=some (.slice (some ⟨bN,0,none⟩) n n)->∀ w3,(∀ q,w3.cell? q=w2.cell? q)->Calls Tryz.prog 121 #[.pointer (some ⟨w.heap.size+1+1,0,none⟩),.pointer (some ⟨w.heap.size+1,0,none⟩)] w3 fun e w'=>e=.returned (.bool (g p))/\w'=w3):=fun w2 hb c1 c2 w3 hc=>itself_any _ _ bN n p _ w3 hp ((hc _).trans c2) ((hc _).trans c1) ((hc _).trans ((hb.cell (p:=⟨bN,p,none⟩) hNl).trans (hN p hp)))
 have HPN:Hid (∀ w2,Below w.heap.size w w2->Calls Tryz.prog 82 #[.agg #[.slice (some ⟨b,off,none⟩) n cap,.slice (some ⟨B,0,none⟩) n n,.slice aao an ac],.int .i64 (p:Int),.slice (some ⟨bN,0,none⟩) n n] w2 fun e w'=>e=.returned (.tuple #[.func (.func 100) #[] #[.pointer (some ⟨w2.heap.size+1+1,0,none⟩),.pointer (some ⟨w2.heap.size+1,0,none⟩)],.func (.func 101) #[] #[.pointer (some ⟨w2.heap.size+1+1,0,none⟩),.pointer (some ⟨w2.heap.size,0,none⟩),.pointer (some ⟨w2.heap.size+1,0,none⟩)]])/\Below w.heap.size w w'/\Hid (Calls Tryz.prog 100 #[.pointer (some ⟨w2.heap.size+1+1,0,none⟩),.pointer (some ⟨w2.heap.size+1,0,none⟩)] w' fun e w''=>e=.returned (.bool (g (p+1)))/\w''=w')):=fun w2 hb=>by
  refine (parts_any b off cap n B bN p _ g l aao an ac rfl w2 (fun j hj=>(hb.cell (p:=⟨bN,j,none⟩) hNl).trans (hN j hj)) (Nat.lt_of_lt_of_le hNl hb.size) (fun j hj=>(hb.cell (p:=⟨B,j,none⟩) hel).trans (hends j hj)) (Nat.lt_of_lt_of_le hel hb.size)).mono fun e w' ⟨h1,h2,h3⟩=>⟨h1,hb.trans (h2.mono hb.size),?_⟩
  exact first_any _ _ bN n p _ w' h60 hp1 h3.out.holds h3.out.place (h3.out.row _ hp1)
 generalize hx:h (p+1)=x at *;generalize hy:h (sec l p)=y at *;generalize hz:g p=z at *;generalize hnx:g (p+1)=nx at *;clear hx hy hz hnx hrow hends ck hp2 hN
 by_cases e17:kx=17
 ·subst e17
  rw [show comeB 17 x y z nx=(x||z) by simp [comeB]]
  clear HS HPN
  cases x
  all_goals
   go_enter Tryz.func103,Tryz.ntmps103
   go_wp2_with (first | (go_at_call 82;refine hpa.mono ?_;clear hpa;rintro e w2 ⟨rfl,hb2,HP⟩;obtain ⟨hbw,d0,d1,d2,d3,d4,d5⟩:=HP2.out w2 hb2;have hf:=HF.out w2 _ _ _ HP.out;have hit:=HZ.out w2 hbw d4 d5) | (go_at_call 100;refine (hf _ (by first | exact fun _=>rfl | (intro q;simp))).mono ?_;rintro e w3 ⟨rfl,hw3⟩;obtain rfl:=hw3.symm) | (go_at_call 121;refine (hit _ (by first | exact fun _=>rfl | (intro q;simp))).mono ?_;rintro e w3 ⟨rfl,hw3⟩;obtain rfl:=hw3.symm))
   go_ret
   exact ⟨by first | rfl | simp,by first | exact hbw | exact below_drewN hbw _⟩
 ·by_cases e18:kx=18
  ·subst e18
   rw [show comeB 18 x y z nx=(x&&z) by simp [comeB]]
   clear HS HPN
   cases x
   all_goals
    go_enter Tryz.func103,Tryz.ntmps103
    go_wp2_with (first | (go_at_call 82;refine hpa.mono ?_;clear hpa;rintro e w2 ⟨rfl,hb2,HP⟩;obtain ⟨hbw,d0,d1,d2,d3,d4,d5⟩:=HP2.out w2 hb2;have hf:=HF.out w2 _ _ _ HP.out;have hit:=HZ.out w2 hbw d4 d5) | (go_at_call 100;refine (hf _ (by first | exact fun _=>rfl | (intro q;simp))).mono ?_;rintro e w3 ⟨rfl,hw3⟩;obtain rfl:=hw3.symm) | (go_at_call 121;refine (hit _ (by first | exact fun _=>rfl | (intro q;simp))).mono ?_;rintro e w3 ⟨rfl,hw3⟩;obtain rfl:=hw3.symm))
    go_ret
    exact ⟨by first | rfl | simp,by first | exact hbw | exact below_drewN hbw _⟩
  ·by_cases e15:kx=15
   ·subst e15
    rw [show comeB 15 x y z nx=(y||(x&&z)) by simp [comeB]]
    have HS2:=(show Hid _ from HS.out (by decide))
    clear HS HPN
    cases x <;> cases y
    all_goals
     go_enter Tryz.func103,Tryz.ntmps103
     go_wp2_with (first | (go_at_call 82;refine hpa.mono ?_;clear hpa;rintro e w2 ⟨rfl,hb2,HP⟩;obtain ⟨hbw,d0,d1,d2,d3,d4,d5⟩:=HP2.out w2 hb2;have hf:=HF.out w2 _ _ _ HP.out;have hs:=HS2.out w2 _ _ _ HP.out;have hit:=HZ.out w2 hbw d4 d5) | (go_at_call 100;refine (hf _ (by first | exact fun _=>rfl | (intro q;simp))).mono ?_;rintro e w3 ⟨rfl,hw3⟩;obtain rfl:=hw3.symm) | (go_at_call 101;refine hs.mono ?_;rintro e w3 ⟨rfl,r3,rfl⟩) | (go_at_call 121;refine (hit _ (by first | exact fun _=>rfl | (intro q;simp))).mono ?_;rintro e w3 ⟨rfl,hw3⟩;obtain rfl:=hw3.symm))
     go_ret
     exact ⟨by first | rfl | simp,by first | exact hbw | exact below_drewN hbw _⟩
   ·by_cases e16:kx=16
    ·subst e16
     rw [show comeB 16 x y z nx=(y&&(x||z)) by simp [comeB]]
     have HS2:=(show Hid _ from HS.out (by decide))
     clear HS HPN
     cases x <;> cases y
     all_goals
      go_enter Tryz.func103,Tryz.ntmps103
      go_wp2_with (first | (go_at_call 82;refine hpa.mono ?_;clear hpa;rintro e w2 ⟨rfl,hb2,HP⟩;obtain ⟨hbw,d0,d1,d2,d3,d4,d5⟩:=HP2.out w2 hb2;have hf:=HF.out w2 _ _ _ HP.out;have hs:=HS2.out w2 _ _ _ HP.out;have hit:=HZ.out w2 hbw d4 d5) | (go_at_call 100;refine (hf _ (by first | exact fun _=>rfl | (intro q;simp))).mono ?_;rintro e w3 ⟨rfl,hw3⟩;obtain rfl:=hw3.symm) | (go_at_call 101;refine hs.mono ?_;rintro e w3 ⟨rfl,r3,rfl⟩) | (go_at_call 121;refine (hit _ (by first | exact fun _=>rfl | (intro q;simp))).mono ?_;rintro e w3 ⟨rfl,hw3⟩;obtain rfl:=hw3.symm))
      go_ret
      exact ⟨by first | rfl | simp,by first | exact hbw | exact below_drewN hbw _⟩
    ·rw [show comeB kx x y z nx=nx by simp [comeB,e17,e18,e15,e16]]
     clear HS HF HZ
     go_enter Tryz.func103,Tryz.ntmps103
     go_wp2_with (first | (go_at_call 82;refine hpa.mono ?_;clear hpa;rintro e w2 ⟨rfl,hb2,HP⟩;obtain ⟨hbw,d0,d1,d2,d3,d4,d5⟩:=HP2.out w2 hb2;have hpn:=HPN.out w2 hbw) | (go_at_call 82;refine hpn.mono ?_;rintro e w4 ⟨rfl,hb4,HF4⟩) | (go_at_call 100;refine HF4.out.mono ?_;rintro e w5 ⟨rfl,hw5⟩;obtain rfl:=hw5.symm))
     go_ret
     exact ⟨rfl,hb4⟩
def comeAt (l:List (Int × Int)) (h g:Nat->Bool) (p:Nat):Bool:=comeB (l.getD p (0,0)).1 (h (p+1)) (h (sec l p)) (g p) (g (p+1))
def Fol (l:List (Int × Int)) (h g:Nat->Bool):Prop:=∀ p,p < l.length->lookB (l.getD p (0,0)).1=true->h p=comeAt l h g p
noncomputable def fcode (l:List (Int × Int)) (now:List Bool) (claim:Int) (next:List Bool) (later:Int):Int:=if now.length≠next.length then 1 else if tcode l now claim≠0 then tcode l now claim else tcode l next later
open Classical in
noncomputable def folR (l:List (Int × Int)) (now:List Bool) (claim:Int) (next:List Bool) (later:Int):Bool:=if fcode l now claim next later=0 then decide (Fol l (tru l now claim) (tru l next later)) else false
theorem folR_bad {l:List (Int × Int)} {now:List Bool} {claim:Int} {next:List Bool} {later:Int} (h:fcode l now claim next later≠0):folR l now claim next later=false:=by unfold folR;rw [if_neg h]
open Classical in
theorem folR_yes {l:List (Int × Int)} {now:List Bool} {claim:Int} {next:List Bool} {later:Int} (h:fcode l now claim next later=0) (h2:Fol l (tru l now claim) (tru l next later)):folR l now claim next later=true:=by unfold folR;rw [if_pos h];exact decide_eq_true h2
open Classical in
theorem folR_no {l:List (Int × Int)} {now:List Bool} {claim:Int} {next:List Bool} {later:Int} (h2:¬ Fol l (tru l now claim) (tru l next later)):folR l now claim next later=false:=by
 unfold folR
 split
 ·exact decide_eq_false h2
 ·rfl
theorem fol_len (v:Value) (no xo:Option Addr) (nn nc xn xc:Nat) (claim later:Int) (oo:Option Addr) (on oc:Nat) (hv:v=.slice oo on oc) (w:World) (h:nn≠xn) :
  Calls Tryz.prog 86 #[v,.slice no nn nc,.int .i64 claim,.slice xo xn xc,.int .i64 later] w fun e w'=>e=.returned (.tuple #[.bool false,.int .i64 1])/\Below w.heap.size w w':=by
 subst hv;have hne:¬ (nn:Int)=xn:=by omega
 clear h
 go_enter Tryz.func86,Tryz.ntmps86
 go_wp2_with fail
 go_ret2
 exact ⟨rfl,Below.refl _ _⟩
theorem fol_main (oo:Option Addr) (oc:Nat) (l:List (Int × Int)) (no xo:Option Addr) (nc xc:Nat) (now next:List Bool) (claim later:Int) (w:World) (hB:0 < w.heap.size) (hT:TabAt w) (hV:OpsV w (.slice oo l.length oc) l) (hL:BoolsV w (.slice no now.length nc) now) (hX:BoolsV w (.slice xo next.length xc) next) (hlen:now.length=next.length) :
  Calls Tryz.prog 86 #[.slice oo l.length oc,.slice no now.length nc,.int .i64 claim,.slice xo next.length xc,.int .i64 later] w fun e w'=>e=.returned (.tuple #[.bool (folR l now claim next later),.int .i64 (fcode l now claim next later)])/\Below w.heap.size w w':=by
 have hrd:=lread2 _ l now.length w hB hT hV
 by_cases hc:lcode now.length l=0
 ·obtain ⟨_,_,hz,_,h6⟩:=lcode_zero hc
  have hcx:lcode next.length l=0:=by rw [<- hlen];exact hc
  have hrd2:Calls Tryz.prog 59 #[.slice oo l.length oc,.int .i64 (now.length:Int)] w fun e w'=>Below w.heap.size w w'/\∃ B aao ac,e=.returned (.tuple #[.agg #[.slice oo l.length oc,.slice (some ⟨B,0,none⟩) l.length l.length,.slice aao (aheadL l).length ac],.int .i64 0])/\Hid (WholeAt w' (.slice oo l.length oc) B (.slice aao (aheadL l).length ac) l):=hrd.mono fun e w' ⟨h1,_,h3⟩=>⟨h1,h3 hc⟩
  have HM:Hid (∀ w1 B aao ac,Below w.heap.size w w1->WholeAt w1 (.slice oo l.length oc) B (.slice aao (aheadL l).length ac) l->Calls Tryz.prog 65 #[.agg #[.slice oo l.length oc,.slice (some ⟨B,0,none⟩) l.length l.length,.slice aao (aheadL l).length ac],.slice no now.length nc,.int .i64 claim] w1 (MethPost l now claim w1)):=fun w1 B aao ac hb hW=>meth_any _ B _ _ l now claim w1 hc hW (hL.below hb)
  have HM2:Hid (∀ w1 B aao ac,Below w.heap.size w w1->WholeAt w1 (.slice oo l.length oc) B (.slice aao (aheadL l).length ac) l->Calls Tryz.prog 65 #[.agg #[.slice oo l.length oc,.slice (some ⟨B,0,none⟩) l.length l.length,.slice aao (aheadL l).length ac],.slice xo next.length xc,.int .i64 later] w1 (MethPost l next later w1)):=fun w1 B aao ac hb hW=>meth_any _ B _ _ l next later w1 hcx hW (hX.below hb)
  have HWA:Hid (∀ w1 B aao ac,WholeAt w1 (.slice oo l.length oc) B (.slice aao (aheadL l).length ac) l->∀ o,WholeAt (w1.alloc o) (.slice oo l.length oc) B (.slice aao (aheadL l).length ac) l):=fun w1 B aao ac hW o=>hW.below ((Below.refl _ _).alloc (Nat.le_refl _) o)
  by_cases hcl:ClaimNo l claim
  ·have hft:fcode l now claim next later=2:=by unfold fcode;rw [if_neg (by simpa using hlen),tcode_no hc hcl,if_pos (by decide)]
   rw [folR_bad (by rw [hft];decide),hft]
   have HM3:Hid (∀ w1 B aao ac,Below w.heap.size w w1->WholeAt w1 (.slice oo l.length oc) B (.slice aao (aheadL l).length ac) l->∀ o,Calls Tryz.prog 65 #[.agg #[.slice oo l.length oc,.slice (some ⟨B,0,none⟩) l.length l.length,.slice aao (aheadL l).length ac],.slice no now.length nc,.int .i64 claim] (w1.alloc o) fun e w'=>e=.returned (.tuple #[.slice none 0 0,.int .i64 2])/\Below w1.heap.size w1 w'):=fun w1 B aao ac hb hW o=>(HM.out _ B aao ac (hb.alloc hb.size o) (HWA.out _ B aao ac hW o)).mono fun e w' ⟨h1,h2,_⟩=>⟨h2 hcl,((Below.refl _ _).alloc (Nat.le_refl _) o).trans (h1.mono (by simp))⟩
   generalize (aheadL l).length=an at *;rw [<- hlen];generalize now.length=ln at *;generalize l.length=n at *;clear hrd hT hV hL hX hc hcx HM HM2 HWA hcl hft hz h6 hlen
   go_enter Tryz.func86,Tryz.ntmps86
   go_wp2_with (first | (go_at_call 59;refine hrd2.mono ?_;rintro e w1 ⟨hb1,B,aao,ac,rfl,HW⟩;have hme:=HM3.out w1 B aao ac hb1 HW.out) | (go_at_call 65;refine (hme _).mono ?_;rintro e w2 ⟨rfl,hb2⟩))
   go_ret2
   exact ⟨rfl,hb1.trans (hb2.mono hb1.size)⟩
  ·have ht1:tcode l now claim=0:=tcode_ok hc hcl
   have hft:fcode l now claim next later=tcode l next later:=by unfold fcode;rw [if_neg (by simpa using hlen),ht1];rfl
   have HM3:Hid (∀ w1 B aao ac,Below w.heap.size w w1->WholeAt w1 (.slice oo l.length oc) B (.slice aao (aheadL l).length ac) l->Calls Tryz.prog 65 #[.agg #[.slice oo l.length oc,.slice (some ⟨B,0,none⟩) l.length l.length,.slice aao (aheadL l).length ac],.slice no now.length nc,.int .i64 claim] (w1.alloc (.cells #[.slice oo l.length oc,.slice (some ⟨B,0,none⟩) l.length l.length,.slice aao (aheadL l).length ac] 130)) fun e w'=>∃ bH,e=.returned (.tuple #[.slice (some ⟨bH,0,none⟩) l.length l.length,.int .i64 0])/\Below w1.heap.size w1 w'/\w1.heap.size < w'.heap.size/\w'.cell? ⟨w1.heap.size,0,none⟩=some (.slice oo l.length oc)/\w'.cell? ⟨w1.heap.size,1,none⟩=some (.slice (some ⟨B,0,none⟩) l.length l.length)/\w'.cell? ⟨w1.heap.size,2,none⟩=some (.slice aao (aheadL l).length ac)/\Hid (WholeAt w' (.slice oo l.length oc) B (.slice aao (aheadL l).length ac) l/\w'.rowIs bH 4 l.length (fun j=>.bool (tru l now claim j)))):=fun w1 B aao ac hb hW=>(HM.out _ B aao ac (hb.alloc hb.size _) (HWA.out _ B aao ac hW _)).mono fun e w' ⟨h1,_,h3⟩=>by
    obtain ⟨bH,he,hr⟩:=h3 hcl;have h1':Below (w1.heap.size+1) (w1.alloc (.cells #[.slice oo l.length oc,.slice (some ⟨B,0,none⟩) l.length l.length,.slice aao (aheadL l).length ac] 130)) w':=by simpa using h1
    have hb':Below w1.heap.size w1 w':=((Below.refl _ _).alloc (Nat.le_refl _) _).trans (h1'.mono (Nat.le_succ _))
    refine ⟨bH,he,hb',by have:=h1'.size;simp at this;omega,(h1'.cell (p:=⟨w1.heap.size,0,none⟩) (Nat.lt_succ_self _)).trans (by simp [go_sem]),(h1'.cell (p:=⟨w1.heap.size,1,none⟩) (Nat.lt_succ_self _)).trans (by simp [go_sem]),(h1'.cell (p:=⟨w1.heap.size,2,none⟩) (Nat.lt_succ_self _)).trans (by simp [go_sem]),hW.below hb',hr⟩
   by_cases hcl2:ClaimNo l later
   ·have hft2:fcode l now claim next later=2:=by rw [hft,tcode_no hcx hcl2]
    rw [folR_bad (by rw [hft2];decide),hft2]
    have HM4:Hid (∀ w1 B aao ac,Below w.heap.size w w1->WholeAt w1 (.slice oo l.length oc) B (.slice aao (aheadL l).length ac) l->Calls Tryz.prog 65 #[.agg #[.slice oo l.length oc,.slice (some ⟨B,0,none⟩) l.length l.length,.slice aao (aheadL l).length ac],.slice xo next.length xc,.int .i64 later] w1 fun e w'=>e=.returned (.tuple #[.slice none 0 0,.int .i64 2])/\Below w1.heap.size w1 w'):=fun w1 B aao ac hb hW=>(HM2.out _ B aao ac hb hW).mono fun e w' ⟨h1,h2,_⟩=>⟨h2 hcl2,h1⟩
    generalize (aheadL l).length=an at *;rw [<- hlen] at HM4 ⊢;generalize now.length=ln at *;generalize hnn:l.length=n at *;clear hrd hT hV hL hX hc hcx HM HM2 HWA hcl hcl2 hft hft2 ht1 hz h6 hlen hnn
    go_enter Tryz.func86,Tryz.ntmps86
    go_wp2_with (first | (go_at_call 59;refine hrd2.mono ?_;rintro e w1 ⟨hb1,B,aao,ac,rfl,HW⟩;have hme:=HM3.out w1 B aao ac hb1 HW.out) | (go_at_call 65;refine hme.mono ?_;clear hme;rintro e w2 ⟨bH,rfl,hb2,hs2,d0,d1,d2,HW2⟩;have hb12:=hb1.trans (hb2.mono hb1.size);have hme2:=HM4.out w2 B aao ac hb12 HW2.out.1) | (go_at_call 65;refine hme2.mono ?_;rintro e w3 ⟨rfl,hb3⟩))
    go_ret2
    exact ⟨rfl,hb12.trans (hb3.mono hb12.size)⟩
   ·have hft2:fcode l now claim next later=0:=by rw [hft,tcode_ok hcx hcl2]
    have HM4:Hid (∀ w1 B aao ac,Below w.heap.size w w1->WholeAt w1 (.slice oo l.length oc) B (.slice aao (aheadL l).length ac) l->Calls Tryz.prog 65 #[.agg #[.slice oo l.length oc,.slice (some ⟨B,0,none⟩) l.length l.length,.slice aao (aheadL l).length ac],.slice xo next.length xc,.int .i64 later] w1 fun e w'=>∃ bN,e=.returned (.tuple #[.slice (some ⟨bN,0,none⟩) l.length l.length,.int .i64 0])/\Below w1.heap.size w1 w'/\Hid (w'.rowIs bN 4 l.length (fun j=>.bool (tru l next later j)))):=fun w1 B aao ac hb hW=>(HM2.out _ B aao ac hb hW).mono fun e w' ⟨h1,_,h3⟩=>by
     obtain ⟨bN,he,hr⟩:=h3 hcl2;exact ⟨bN,he,h1,hr⟩
    have HYes:Hid (Fol l (tru l now claim) (tru l next later)->folR l now claim next later=true):=folR_yes hft2;have HNot:Hid (¬ Fol l (tru l now claim) (tru l next later)->folR l now claim next later=false):=folR_no
    have HFol:Hid (Fol l (tru l now claim) (tru l next later)↔∀ p,p < l.length->lookB (l.getD p (0,0)).1=true->tru l now claim p=comeAt l (tru l now claim) (tru l next later) p):=Iff.rfl
    have HCo:Hid (∀ w2 B bH bN aao ac p,WholeAt w2 (.slice oo l.length oc) B (.slice aao (aheadL l).length ac) l->w2.rowIs bH 4 l.length (fun j=>.bool (tru l now claim j))->w2.rowIs bN 4 l.length (fun j=>.bool (tru l next later j))->p < l.length->lookB (l.getD p (0,0)).1=true->Calls Tryz.prog 103 #[.agg #[.slice oo l.length oc,.slice (some ⟨B,0,none⟩) l.length l.length,.slice aao (aheadL l).length ac],.int .i64 (p:Int),.slice (some ⟨bH,0,none⟩) l.length l.length,.slice (some ⟨bN,0,none⟩) l.length l.length] w2 fun e w'=>e=.returned (.bool (comeAt l (tru l now claim) (tru l next later) p))/\Below w2.heap.size w2 w'):=fun w2 B bH bN aao ac p hW hr hr2 hp hk=>by
     obtain ⟨b,off,cap,hv,_⟩:=id hW
     injection hv with e1 e2 e3
     subst e1 e3;exact comes_any b off l.length oc B bH bN l _ _ p _ aao _ ac w2 (place_in hW hz hr hp hk) (fun j hj=>hr2.cell hj) hr2.lt
    have HG:Hid (∀ w2 B aao ac k,WholeAt w2 (.slice oo l.length oc) B (.slice aao (aheadL l).length ac) l->k < (aheadL l).length->∃ p:Nat,(∃ ab aoff,aao=some ⟨ab,aoff,none⟩/\ab < w2.heap.size/\w2.cell? ⟨ab,aoff+k,none⟩=some (.int .i64 (p:Int)))/\p < l.length/\lookB (l.getD p (0,0)).1=true/\(aheadTo l p).length=k):=fun w2 B aao ac k hW hk=>by
     obtain ⟨_,_,_,_,_,_,_,ao',ac',hsl,hai⟩:=hW
     injection hsl with e1 e2 e3
     subst e1;obtain ⟨ab,aoff,rfl,habl,haat⟩:=hai (by intro h;rw [h] at hk;simp at hk)
     obtain ⟨p,h1,h2,h3,h4⟩:=aheadTo_get l l.length k hk;have h1':(aheadL l).getD k 0=(p:Int):=h1;exact ⟨p,⟨ab,aoff,rfl,habl,by rw [haat k hk,h1']⟩,h2,h3,h4⟩
    have HLt:Hid (∀ p,p < l.length->lookB (l.getD p (0,0)).1=true->(aheadTo l p).length < (aheadL l).length):=fun p hp hk=>aheadTo_lt l hp hk
    have HUq:Hid (∀ p q,lookB (l.getD p (0,0)).1=true->lookB (l.getD q (0,0)).1=true->(aheadTo l p).length=(aheadTo l q).length->p=q):=fun p q h1 h2 he=>by
     rcases Nat.lt_trichotomy p q with h | h | h
     ·have:=aheadTo_lt l h h1;omega
     ·exact h
     ·have:=aheadTo_lt l h h2;omega
    rw [hft2];generalize folR l now claim next later=fr at *;generalize comeAt l (tru l now claim) (tru l next later)=cm at *;generalize Fol l (tru l now claim) (tru l next later)=FP at *;generalize tru l now claim=tn at *;generalize tru l next later=tx at *;obtain ⟨an,han⟩:∃ an,an=(aheadL l).length:=⟨_,rfl⟩
    rw [<- han] at hrd2 HM3 HM4 HCo HG HLt h6;rw [<- hlen] at HM4 ⊢;generalize now.length=ln at *;generalize hnn:l.length=n at *;clear hrd hT hV hL hX hc hcx HM HM2 HWA hcl hcl2 hft hft2 ht1 hz hlen hnn han
    go_enter Tryz.func86,Tryz.ntmps86
    go_wp2_with (first | (go_at_call 59;refine hrd2.mono ?_;rintro e w1 ⟨hb1,B,aao,ac,rfl,HW⟩;have hme:=HM3.out w1 B aao ac hb1 HW.out) | (go_at_call 65;refine hme.mono ?_;clear hme;rintro e w2 ⟨bH,rfl,hb2,hs2,d0,d1,d2,HW2⟩;have hb12:=hb1.trans (hb2.mono hb1.size);have hme2:=HM4.out w2 B aao ac hb12 HW2.out.1) | (go_at_call 65;refine hme2.mono ?_;clear hme2;rintro e w3 ⟨bN,rfl,hb3,HN3⟩;have g0:=(hb3.cell (p:=⟨w1.heap.size,0,none⟩) hs2).trans d0;have g1:=(hb3.cell (p:=⟨w1.heap.size,1,none⟩) hs2).trans d1;have g2:=(hb3.cell (p:=⟨w1.heap.size,2,none⟩) hs2).trans d2))
    have hb13:=hb12.trans (hb3.mono hb12.size);have hs3:=Nat.lt_of_lt_of_le hs2 hb3.size;have HW3:Hid (WholeAt w3 (.slice oo n oc) B (.slice aao an ac) l/\w3.rowIs bH 4 n (fun j=>.bool (tn j))):=⟨HW2.out.1.below hb3,row_later HW2.out.2 hb3⟩
    clear hrd2 HM3 HM4 HW HW2 d0 d1 d2
    go_loopw [56] (fun i wr=>∃ k:Nat,k <= an/\i=.int .i64 (k:Int)/\Hid (∀ p,p < n->lookB (l.getD p (0,0)).1=true->(aheadTo l p).length < k->tn p=cm p)/\Hid (Below w3.heap.size w3 wr)) (fun i _=>an - (intOf i).toNat)
    case atStart=>exact ⟨0,Nat.zero_le _,rfl,fun p _ _ h=>absurd h (Nat.not_lt_zero _),Below.refl _ _⟩
    case round=>
     obtain ⟨k,hk,rfl,HAll,HBel⟩:=hrel;have hbel:=HBel.out
     by_cases hlt:k < an
     ·have hWr:=HW3.out.1.below hbel
      obtain ⟨p,⟨ab,aoff,rfl,habl,hca⟩,hpn,hpk,hpi⟩:=HG.out wr B aao ac k hWr hlt;have hco:=HCo.out
      have HSt:Hid (∀ w',Below wr.heap.size wr w'->w'.cell? ⟨w1.heap.size,0,none⟩=some (.slice oo n oc)/\w'.cell? ⟨w1.heap.size,1,none⟩=some (.slice (some ⟨B,0,none⟩) n n)/\w'.cell? ⟨w1.heap.size,2,none⟩=some (.slice (some ⟨ab,aoff,none⟩) an ac)/\w'.cell? ⟨bH,p,none⟩=some (.bool (tn p))/\Below wr.heap.size wr w'):=fun w' hb=>by
       have hbw:=hbel.trans (hb.mono hbel.size);have hr:=row_later HW3.out.2 hbw;exact ⟨(hbw.cell (p:=⟨w1.heap.size,0,none⟩) hs3).trans g0,(hbw.cell (p:=⟨w1.heap.size,1,none⟩) hs3).trans g1,(hbw.cell (p:=⟨w1.heap.size,2,none⟩) hs3).trans g2,hr.cell hpn,hb⟩
      have hcc:=fun w' (hb:Below wr.heap.size wr w')=>HCo.out w' B bH bN _ ac p (hWr.below hb) (row_later (row_later HW3.out.2 hbel) hb) (row_later (row_later HN3.out hbel) hb) hpn hpk
      have hS:=HSt.out;have hB0:Below wr.heap.size wr wr:=Below.refl _ _
      have HNext:Hid (tn p=cm p->∀ q,q < n->lookB (l.getD q (0,0)).1=true->(aheadTo l q).length < k+1->tn q=cm q):=fun he q hq hqk hql=>by
       by_cases h:(aheadTo l q).length < k
       ·exact HAll.out q hq hqk h
       ·have hqp:q=p:=HUq.out q p hqk hpk (by omega)
        rw [hqp];exact he
      have HBad:Hid (tn p≠cm p->fr=false):=fun h=>HNot.out fun hf=>h (HFol.out.1 hf p hpn hpk)
      have hp0:(0:Int) <= (p:Int):=Int.natCast_nonneg _;have hpI:(p:Int) < (n:Int):=by omega
      generalize tn p=tv at *;generalize cm p=cv at *;clear HG HCo HAll HNot HYes HFol HLt HUq hco HSt hWr hpk hpi
      by_cases htv:tv=cv
      ·have HNx:=(show Hid _ from HNext.out htv)
       subst htv;clear HNext HBad
       go_wp2_with fail
       go_region_held3 (fun w'=>w'.cell? ⟨w1.heap.size,0,none⟩=some (.slice oo n oc)/\w'.cell? ⟨w1.heap.size,1,none⟩=some (.slice (some ⟨B,0,none⟩) n n)/\w'.cell? ⟨w1.heap.size,2,none⟩=some (.slice (some ⟨ab,aoff,none⟩) an ac)/\w'.cell? ⟨bH,p,none⟩=some (.bool tv)/\Below wr.heap.size wr w')
        (exact hS _ (by first | exact hB0 | exact hB0.drew | exact hB0.drew.trans hb4))
        (first | (go_at_call 103;refine (hcc _ hB0.drew).mono ?_;rintro e w4 ⟨rfl,hb4⟩))
       go_wp2_with fail
       have hbf:=hbel.trans ((hB0.drew.trans hb4).mono hbel.size);exact ⟨⟨k+1,hlt,by first | rfl | simp,HNx.out,hbf⟩,by simp [intOf];omega⟩
      ·have HF:=(show Hid _ from HBad.out htv)
       clear HNext HBad
       cases tv <;> cases cv
       ·exact absurd rfl htv
       ·go_wp2_with fail
        go_region_held3 (fun w'=>w'.cell? ⟨w1.heap.size,0,none⟩=some (.slice oo n oc)/\w'.cell? ⟨w1.heap.size,1,none⟩=some (.slice (some ⟨B,0,none⟩) n n)/\w'.cell? ⟨w1.heap.size,2,none⟩=some (.slice (some ⟨ab,aoff,none⟩) an ac)/\w'.cell? ⟨bH,p,none⟩=some (.bool false)/\Below wr.heap.size wr w')
         (exact hS _ (by first | exact hB0 | exact hB0.drew | exact hB0.drew.trans hb4))
         (first | (go_at_call 103;refine (hcc _ hB0.drew).mono ?_;rintro e w4 ⟨rfl,hb4⟩))
        go_wp2_with fail
        have hbf:=hbel.trans ((hB0.drew.trans hb4).mono hbel.size)
        go_ret2
        rw [HF.out];exact ⟨rfl,hb13.trans (hbf.mono hb13.size)⟩
       ·go_wp2_with fail
        go_region_held3 (fun w'=>w'.cell? ⟨w1.heap.size,0,none⟩=some (.slice oo n oc)/\w'.cell? ⟨w1.heap.size,1,none⟩=some (.slice (some ⟨B,0,none⟩) n n)/\w'.cell? ⟨w1.heap.size,2,none⟩=some (.slice (some ⟨ab,aoff,none⟩) an ac)/\w'.cell? ⟨bH,p,none⟩=some (.bool true)/\Below wr.heap.size wr w')
         (exact hS _ (by first | exact hB0 | exact hB0.drew | exact hB0.drew.trans hb4))
         (first | (go_at_call 103;refine (hcc _ hB0.drew).mono ?_;rintro e w4 ⟨rfl,hb4⟩))
        go_wp2_with fail
        have hbf:=hbel.trans ((hB0.drew.trans hb4).mono hbel.size)
        go_ret2
        rw [HF.out];exact ⟨rfl,hb13.trans (hbf.mono hb13.size)⟩
       ·exact absurd rfl htv
     ·obtain rfl:k=an:=by omega
      have HFr:Hid (fr=true):=HYes.out (HFol.out.2 fun p hp hpk=>HAll.out p hp hpk (HLt.out p hp hpk))
      clear HG HCo HAll HNot HYes HFol HLt HUq
      go_wp2_with fail
      go_ret2
      rw [HFr.out];exact ⟨rfl,hb13.trans (hbel.mono hb13.size)⟩
 ·have hft:fcode l now claim next later=lcode now.length l:=by unfold fcode;rw [if_neg (by simpa using hlen),tcode_bad hc,if_pos hc]
  rw [folR_bad (by rw [hft];exact hc),hft]
  have hrd2:Calls Tryz.prog 59 #[.slice oo l.length oc,.int .i64 (now.length:Int)] w fun e w'=>Below w.heap.size w w'/\e=.returned (.tuple #[.agg #[.slice none 0 0,.slice none 0 0,.slice none 0 0],.int .i64 (lcode now.length l)]):=hrd.mono fun e w' ⟨h1,h2,_⟩=>⟨h1,h2 hc⟩
  rw [<- hlen];generalize lcode now.length l=x at *;generalize now.length=ln at *;generalize l.length=n at *;clear hrd hT hV hL hX hft hlen
  go_enter Tryz.func86,Tryz.ntmps86
  go_wp2_with (go_at_call 59;refine hrd2.mono ?_;rintro e w1 ⟨hb1,rfl⟩)
  go_ret2
  exact ⟨rfl,by first | exact hb1 | exact hb1.alloc hb1.size _⟩
theorem lfol_any (v nv xv:Value) (l:List (Int × Int)) (now next:List Bool) (claim later:Int) (w:World) (hB:0 < w.heap.size) (hT:TabAt w) (hV:OpsV w v l) (hL:BoolsV w nv now) (hX:BoolsV w xv next) :
  Calls Tryz.prog 86 #[v,nv,.int .i64 claim,xv,.int .i64 later] w fun e w'=>e=.returned (.tuple #[.bool (folR l now claim next later),.int .i64 (fcode l now claim next later)])/\Below w.heap.size w w':=by
 obtain ⟨oo,oc,rfl,_⟩:=id hV;obtain ⟨no,nc,rfl,_⟩:=id hL;obtain ⟨xo,xc,rfl,_⟩:=id hX
 by_cases hlen:now.length=next.length
 ·exact fol_main oo oc l no xo nc xc now next claim later w hB hT hV hL hX hlen
 ·have hf:fcode l now claim next later=1:=by unfold fcode;rw [if_pos hlen]
  rw [folR_bad (by rw [hf];decide),hf]
  exact fol_len _ no xo _ nc _ xc claim later oo l.length oc rfl w hlen
def askP (l:List (Int × Int)) (p:Nat):Nat:=if (l.getD p (0,0)).1=14 then p+1 else p
def signTo (l:List (Int × Int)) (g:Nat->Bool):Nat->Int
 | 0=>0
 | k+1=>signTo l g k+if g (askP l ((aheadL l).getD k 0).toNat)=true then 2 ^ k else 0
def signN (l:List (Int × Int)) (g:Nat->Bool):Int:=signTo l g (aheadL l).length
theorem signTo_bounds (l:List (Int × Int)) (g:Nat->Bool):∀ k,0 <= signTo l g k/\signTo l g k < 2 ^ k:=by
 intro k
 induction k with
 | zero=>simp [signTo]
 | succ k ih=>
  have h2:(0:Int) < 2 ^ k:=Int.pow_pos (by decide)
  rw [signTo,Int.pow_succ]
  split <;> omega
theorem sign_inj {l:List (Int × Int)} {g g':Nat->Bool}:∀ {k:Nat},signTo l g k=signTo l g' k->∀ j,j < k->g (askP l ((aheadL l).getD j 0).toNat)=g' (askP l ((aheadL l).getD j 0).toNat)
 | 0,_,j,hj=>by omega
 | k+1,h,j,hj=>by
  obtain ⟨a0,a1⟩:=signTo_bounds l g k;obtain ⟨b0,b1⟩:=signTo_bounds l g' k;have h2:(0:Int) < 2 ^ k:=Int.pow_pos (by decide)
  rw [signTo,signTo] at h
  rcases (show j < k\/j=k by omega) with h3 | h3
  ·refine sign_inj (k:=k) ?_ j h3
   split at h <;> split at h <;> omega
  ·subst h3
   generalize g (askP l ((aheadL l).getD j 0).toNat)=x at h ⊢;generalize g' (askP l ((aheadL l).getD j 0).toNat)=y at h ⊢
   cases x <;> cases y
   ·rfl
   ·rw [if_neg (by simp),if_pos rfl] at h;omega
   ·rw [if_pos rfl,if_neg (by simp)] at h;omega
   ·rfl
theorem ahead_pre (l:List (Int × Int)):∀ (d n:Nat),∃ r,aheadTo l (n+d)=aheadTo l n++r:=by
 intro d
 induction d with
 | zero=>exact fun n=>⟨[],by simp⟩
 | succ d ih=>
  intro n;obtain ⟨r,hr⟩:=ih n;refine ⟨r++(if lookB (l.getD (n+d) (0,0)).1=true then [((n+d:Nat):Int)] else []),?_⟩
  rw [show n+(d+1)=(n+d)+1 by omega,aheadTo,hr,List.append_assoc]
theorem ahead_spot {l:List (Int × Int)} {p:Nat} (hp:p < l.length) (hb:lookB (l.getD p (0,0)).1=true):(aheadTo l p).length < (aheadL l).length/\(aheadL l).getD (aheadTo l p).length 0=(p:Int):=by
 have h1:=aheadTo_lt l hp hb;refine ⟨h1,?_⟩
 obtain ⟨r,hr⟩:=ahead_pre l (l.length - (p+1)) (p+1);rw [show p+1+(l.length - (p+1))=l.length by omega,aheadTo_yes hb] at hr
 unfold aheadL;rw [hr,List.append_assoc];simp [List.getD_eq_getElem?_getD]
theorem fol_sign {l:List (Int × Int)} {h g g':Nat->Bool} (e:signN l g=signN l g'):Fol l h g↔Fol l h g':=by
 have key:∀ p,p < l.length->lookB (l.getD p (0,0)).1=true->comeAt l h g p=comeAt l h g' p:=by
  intro p hp hb;obtain ⟨h1,h2⟩:=ahead_spot hp hb;have h3:=sign_inj e (aheadTo l p).length h1;rw [h2] at h3;simp only [Int.toNat_natCast] at h3;unfold comeAt comeB;unfold askP at h3;have hk:14 <= (l.getD p (0,0)).1/\(l.getD p (0,0)).1 <= 18:=by simpa [lookB] using hb
  by_cases h14:(l.getD p (0,0)).1=14
  ·rw [if_pos h14] at h3
   rw [h14,h3]
   simp
  ·rw [if_neg h14] at h3
   rw [h3];have:(l.getD p (0,0)).1=15\/(l.getD p (0,0)).1=16\/(l.getD p (0,0)).1=17\/(l.getD p (0,0)).1=18:=by omega
   rcases this with h5 | h5 | h5 | h5 <;> rw [h5] <;> simp
 refine ⟨fun H p hp hb=>?_,fun H p hp hb=>?_⟩
 ·rw [H p hp hb,key p hp hb]
 ·rw [H p hp hb,key p hp hb]
end Go.Proofs.YtfnobbpbmelgnaaGreatDoor
namespace Go.Proofs.YtfnobbpbmelgnaaGreatDoor
open Go.Shelf
set_option maxHeartbeats 6400000
set_option maxRecDepth 20000
def lays189_ren:Go.Shelf.Ren:=⟨fun | 189=>119 | 125=>126 | 257=>125 | 128=>136 | 129=>137 | 294=>127 | 295=>128 | 296=>129 | 297=>130 | 298=>131 | 299=>132 | 216=>133 | 300=>134 | 301=>135 | 328=>138 | 329=>139 | 330=>140 | 331=>141 | 332=>142 | 215=>143 | 343=>144 | n=>n,fun | 28=>36 | 3=>3 | 46=>197 | 0=>0 | 51=>206 | 53=>208 | 4=>4 | 183=>200 | 182=>199 | 131=>118 | 5=>5 | 9=>9 | 218=>209 | 222=>213 | 228=>215 | 229=>216 | n=>n,fun | n=>n⟩
theorem lays189:Go.Proofs.Lays.n189 Tryz.prog lays189_ren:={
 mixed:=by kernel_rfl
 f125:=Tryz.func126.trans (congrArg some (by kernel_rfl))
 f128:=Tryz.func136.trans (congrArg some (by kernel_rfl))
 f129:=Tryz.func137.trans (congrArg some (by kernel_rfl))
 f189:=Tryz.func119.trans (congrArg some (by kernel_rfl))
 f215:=Tryz.func143.trans (congrArg some (by kernel_rfl))
 f216:=Tryz.func133.trans (congrArg some (by kernel_rfl))
 f257:=Tryz.func125.trans (congrArg some (by kernel_rfl))
 f294:=Tryz.func127.trans (congrArg some (by kernel_rfl))
 f295:=Tryz.func128.trans (congrArg some (by kernel_rfl))
 f296:=Tryz.func129.trans (congrArg some (by kernel_rfl))
 f297:=Tryz.func130.trans (congrArg some (by kernel_rfl))
 f298:=Tryz.func131.trans (congrArg some (by kernel_rfl))
 f299:=Tryz.func132.trans (congrArg some (by kernel_rfl))
 f300:=Tryz.func134.trans (congrArg some (by kernel_rfl))
 f301:=Tryz.func135.trans (congrArg some (by kernel_rfl))
 f328:=Tryz.func138.trans (congrArg some (by kernel_rfl))
 f329:=Tryz.func139.trans (congrArg some (by kernel_rfl))
 f330:=Tryz.func140.trans (congrArg some (by kernel_rfl))
 f331:=Tryz.func141.trans (congrArg some (by kernel_rfl))
 f332:=Tryz.func142.trans (congrArg some (by kernel_rfl))
 f343:=Tryz.func144.trans (congrArg some (by kernel_rfl))
 t0:=Tryz.underlying0
 a0:=Tryz.isAgg0
 z0:=Tryz.sizeOf0
 v0:=Tryz.zeroValue0
 t3:=Tryz.underlying3
 a3:=Tryz.isAgg3
 z3:=Tryz.sizeOf3
 v3:=Tryz.zeroValue3
 t4:=Tryz.underlying4
 a4:=Tryz.isAgg4
 z4:=Tryz.sizeOf4
 v4:=Tryz.zeroValue4
 t5:=Tryz.underlying5
 a5:=Tryz.isAgg5
 z5:=Tryz.sizeOf5
 v5:=Tryz.zeroValue5
 t9:=Tryz.underlying9
 a9:=Tryz.isAgg9
 z9:=Tryz.sizeOf9
 v9:=Tryz.zeroValue9
 t28:=Tryz.underlying36
 a28:=Tryz.isAgg36
 z28:=Tryz.sizeOf36
 v28:=Tryz.zeroValue36
 t46:=Tryz.underlying197
 a46:=Tryz.isAgg197
 z46:=Tryz.sizeOf197
 v46:=Tryz.zeroValue197
 t51:=Tryz.underlying206
 a51:=Tryz.isAgg206
 z51:=Tryz.sizeOf206
 v51:=Tryz.zeroValue206
 t53:=Tryz.underlying208
 a53:=Tryz.isAgg208
 z53:=Tryz.sizeOf208
 v53:=Tryz.zeroValue208
 t131:=Tryz.underlying118
 a131:=Tryz.isAgg118
 z131:=Tryz.sizeOf118
 v131:=Tryz.zeroValue118
 t182:=Tryz.underlying199
 a182:=Tryz.isAgg199
 z182:=Tryz.sizeOf199
 v182:=Tryz.zeroValue199
 t183:=Tryz.underlying200
 a183:=Tryz.isAgg200
 z183:=Tryz.sizeOf200
 v183:=Tryz.zeroValue200
 t218:=Tryz.underlying209
 a218:=Tryz.isAgg209
 z218:=Tryz.sizeOf209
 v218:=Tryz.zeroValue209
 t222:=Tryz.underlying213
 a222:=Tryz.isAgg213
 z222:=Tryz.sizeOf213
 v222:=Tryz.zeroValue213
 t228:=Tryz.underlying215
 a228:=Tryz.isAgg215
 z228:=Tryz.sizeOf215
 v228:=Tryz.zeroValue215
 t229:=Tryz.underlying216
 a229:=Tryz.isAgg216
 z229:=Tryz.sizeOf216
 v229:=Tryz.zeroValue216}
open Go.Sort Go.RowKit in
theorem slices_Sort_int (blk off cap:Nat) (zs:List Int) (w:World) (hH:Holds (Value.int .i64) w blk off zs.toArray) (hblk:blk < w.heap.size) (hsz:zs.length < 4611686018427387904) :
  Calls Tryz.prog 119 #[.slice (some ⟨blk,off,none⟩) zs.length cap] w fun e w'=>
   e=.returned (.tuple #[])/\∃ n os,w'=grow (putRow (Value.int .i64) (Sort.ahead w n) blk off (zs.mergeSort fun x y=>decide (x <= y)).toArray) os:=Any.slices_Sort_int lays189 blk off cap zs w hH hblk hsz
def laysNm220_ren:Go.Shelf.Ren:=⟨fun | 20=>120 | n=>n,fun | 22=>36 | 3=>3 | 4=>4 | 0=>0 | n=>n,fun | n=>n⟩
theorem laysNm220:Go.Proofs.Lays2.n20 Tryz.prog laysNm220_ren:={
 mixed:=by kernel_rfl
 f20:=Tryz.func120.trans (congrArg some (by kernel_rfl))
 t0:=Tryz.underlying0
 a0:=Tryz.isAgg0
 z0:=Tryz.sizeOf0
 v0:=Tryz.zeroValue0
 t3:=Tryz.underlying3
 a3:=Tryz.isAgg3
 z3:=Tryz.sizeOf3
 v3:=Tryz.zeroValue3
 t4:=Tryz.underlying4
 a4:=Tryz.isAgg4
 z4:=Tryz.sizeOf4
 v4:=Tryz.zeroValue4
 t22:=Tryz.underlying36
 a22:=Tryz.isAgg36
 z22:=Tryz.sizeOf36
 v22:=Tryz.zeroValue36
 i3:=by kernel_rfl}
open Go.RowKit Go.Lib Go.Sort in
theorem slices_Compact_int (blk off cap:Nat) (zs:List Int) (w:World) (hH:Holds (Value.int .i64) w blk off zs.toArray) (hsz:zs.length <= 9223372036854775807) (hcap:zs.length <= cap) :
  Calls Tryz.prog 120 #[.slice (some ⟨blk,off,none⟩) zs.length cap] w fun e w'=>e=.returned (.slice (some ⟨blk,off,none⟩) (Lib.compact zs).length cap)/\∃ q,w'=putRow (Value.int .i64) (Sort.ahead w q) blk off (Lib.compact zs++List.replicate (zs.length - (Lib.compact zs).length) 0).toArray:=Any.slices_Compact_int laysNm220 blk off cap zs w hH hsz hcap
end Go.Proofs.YtfnobbpbmelgnaaGreatDoor
namespace Go.Proofs.YtfnobbpbmelgnaaGreatDoor
open Go.RowKit Go.Sort
set_option maxHeartbeats 6400000
set_option maxRecDepth 20000
def leB (x y:Int):Bool:=decide (x <= y)
theorem sort_own (g cap base:Nat) (zs:List Int) (w:World) (hz:zs.length <= 100000) (ho:w.ownsRow base 3 1 (.slice (some ⟨g,0,none⟩) zs.length cap) zs.length (ivals zs)) :
  Calls Tryz.prog 119 #[.slice (some ⟨g,0,none⟩) zs.length cap] w fun e w'=>e=.returned (.tuple #[])/\w.grownBy w' (some g)/\w'.ownsRow base 3 1 (.slice (some ⟨g,0,none⟩) zs.length cap) zs.length (ivals (zs.mergeSort leB)):=by
 have ho':w.ownsRow base 3 1 (.slice (some ⟨g,0,none⟩) zs.length cap) zs.length (zs.map (Value.int .i64)):=ho;obtain ⟨g',cap',hv,hbg,hlt,hn,hm,hl,hH⟩:=Lib.holds_of_ownsRow ho' (by simp)
 injection hv with h1 h2 h3
 injection h1 with h1
 injection h1 with h1
 subst h1 h3
 rcases ho.2 with ⟨e0,_⟩ | ⟨g2,cap2,cur,e0,hb,hg,hnc,hcm,hcs,ht⟩
 ·cases e0
 ·injection e0 with e1 _ e3
  injection e1 with e1
  injection e1 with e1
  subst e1 e3;refine (slices_Sort_int g 0 cap zs w hH hlt (by omega)).mono fun e w' ⟨he,n,os,hw⟩=>⟨he,?_,?_⟩
  ·rw [hw];exact grownBy_sortedI _
  ·rw [hw];exact ownsRow_sortedI (ts:=zs.mergeSort leB) (by simp) hbg hg hnc hcm hcs
theorem compact_own (g cap base:Nat) (zs:List Int) (w:World) (hz:zs.length <= 100000) (ho:w.ownsRow base 3 1 (.slice (some ⟨g,0,none⟩) zs.length cap) zs.length (ivals zs)) :
  Calls Tryz.prog 120 #[.slice (some ⟨g,0,none⟩) zs.length cap] w fun e w'=>e=.returned (.slice (some ⟨g,0,none⟩) (Lib.compact zs).length cap)/\w.grownBy w' (some g)/\w'.ownsRow base 3 1 (.slice (some ⟨g,0,none⟩) (Lib.compact zs).length cap) (Lib.compact zs).length (ivals (Lib.compact zs)):=by
 have ho':w.ownsRow base 3 1 (.slice (some ⟨g,0,none⟩) zs.length cap) zs.length (zs.map (Value.int .i64)):=ho;obtain ⟨g',cap',hv,hbg,hlt,hn,hm,hl,hH⟩:=Lib.holds_of_ownsRow ho' (by simp)
 injection hv with h1 h2 h3
 injection h1 with h1
 injection h1 with h1
 subst h1 h3;have hcl:=Lib.compact_length_le zs;refine (slices_Compact_int g 0 cap zs w hH (by omega) hn).mono fun e w' ⟨he,q,hw⟩=>⟨he,?_,?_⟩
 ·rw [hw]
  refine ⟨rfl,rfl,rfl,by simp [putRow,mapBlock,Sort.ahead],fun k _ hne=>?_⟩
  have:g≠k:=fun e=>hne (by rw [e])
  simp [putRow,mapBlock,Sort.ahead,Array.getElem?_modify,this]
 ·rw [hw]
  have h:=Lib.ownsRow_putRow (q:=q) (k:=(Lib.compact zs).length) (ys:=Lib.compact zs++List.replicate (zs.length - (Lib.compact zs).length) 0) ho' (by simp;omega) hcl
  rw [List.take_left] at h;exact h
abbrev Rise (l:List Int):Prop:=l.Pairwise (· < ·)
theorem compact_step {d:Array Int} {n:Nat} (hs:∀ i j,i <= j->j < n->d[i]! <= d[j]!):∀ m,m <= n->Rise (Lib.compactUpTo d m)/\∀ x,x∈Lib.compactUpTo d m↔∃ j,j < m/\d[j]! = x:=by
 intro m
 induction m with
 | zero=>intro _;exact ⟨by simp [Lib.compactUpTo],fun x=>by simp [Lib.compactUpTo]⟩
 | succ m ih=>
  intro hm;obtain ⟨h1,h2⟩:=ih (by omega)
  rw [Lib.compactUpTo_succ]
  by_cases hk:Lib.keeps d m=true
  ·rw [if_pos hk]
   refine ⟨List.pairwise_append.2 ⟨h1,by simp,fun x hx y hy=>?_⟩,fun x=>?_⟩
   ·simp at hy
    subst hy;obtain ⟨j,hj,rfl⟩:=(h2 x).1 hx;have h3:=hs j m (by omega) (by omega)
    have h4:=hs j (m - 1) (by omega) (by omega)
    have h5:=hs (m - 1) m (by omega) (by omega)
    have h6:d[m]!≠d[m - 1]!:=by
     have:m≠0:=by omega
     simpa [Lib.keeps,this] using hk
    omega
   ·simp only [List.mem_append,List.mem_singleton,h2]
    constructor
    ·rintro (⟨j,hj,e⟩ | e)
     ·exact ⟨j,by omega,e⟩
     ·exact ⟨m,by omega,e.symm⟩
    ·rintro ⟨j,hj,e⟩
     by_cases hjm:j=m
     ·subst hjm;exact .inr e.symm
     ·exact .inl ⟨j,by omega,e⟩
  ·rw [if_neg hk,List.append_nil]
   refine ⟨h1,fun x=>?_⟩
   rw [h2]
   constructor
   ·rintro ⟨j,hj,e⟩;exact ⟨j,by omega,e⟩
   ·rintro ⟨j,hj,e⟩
    by_cases hjm:j=m
    ·subst hjm
     have h7:j≠0/\d[j]! = d[j - 1]!:=by simpa [Lib.keeps] using hk
     exact ⟨j - 1,by omega,by rw [<- h7.2];exact e⟩
    ·exact ⟨j,by omega,e⟩
def upL (l:List Int):List Int:=Lib.compact (l.mergeSort leB)
theorem upL_spec (l:List Int):Rise (upL l)/\∀ x,x∈upL l↔x∈l:=by
 have hp:(l.mergeSort leB).Pairwise (fun x y=>leB x y=true):=List.pairwise_mergeSort (le:=leB) (by intro a b c;simp only [leB,decide_eq_true_eq];omega) (by intro a b;simp only [leB,Bool.or_eq_true,decide_eq_true_eq];omega) l
 have hs:∀ i j,i <= j->j < (l.mergeSort leB).length->(l.mergeSort leB).toArray[i]! <= (l.mergeSort leB).toArray[j]!:=fun i j hij hj=>by
  rw [getElem!_pos _ i (by simpa using (by omega:i < (l.mergeSort leB).length)),getElem!_pos _ j (by simpa using hj)]
  rcases Nat.lt_or_eq_of_le hij with h | h
  ·have:=List.pairwise_iff_getElem.1 hp i j (by omega) hj h
   simpa [leB] using this
  ·subst h;exact Int.le_refl _
 obtain ⟨h1,h2⟩:=compact_step hs (l.mergeSort leB).length (Nat.le_refl _);refine ⟨h1,fun x=>?_⟩
 show x∈Lib.compactUpTo _ _↔_
 rw [h2,<- (List.mergeSort_perm l leB).mem_iff,List.mem_iff_getElem]
 constructor
 ·rintro ⟨j,hj,e⟩
  exact ⟨j,hj,by rw [<- e,getElem!_pos _ j (by simpa using hj)];rfl⟩
 ·rintro ⟨j,hj,e⟩
  exact ⟨j,hj,by rw [getElem!_pos _ j (by simpa using hj)];exact e⟩
end Go.Proofs.YtfnobbpbmelgnaaGreatDoor
namespace Go.Proofs.YtfnobbpbmelgnaaGreatDoor
open Terms Tm
set_option maxHeartbeats 6400000
set_option maxRecDepth 20000
noncomputable def rawTo (vars:List Vr) (env:List Int) (rules:List Ru) (k:Nat):List Int:=(rules.take k).filterMap (ruleDo vars env)
theorem rawTo_some {vars:List Vr} {env:List Int} {rules:List Ru} {k:Nat} (hk:k < rules.length) {x:Int} (h:ruleDo vars env (rules.getD k ru0)=some x):rawTo vars env rules (k+1)=rawTo vars env rules k++[x]:=by
 unfold rawTo;rw [List.take_succ_eq_append_getElem hk,List.filterMap_append,show rules[k]=rules.getD k ru0 by simp [List.getD_eq_getElem?_getD,hk]]
 generalize rules.getD k ru0=r at h;simp [h]
theorem rawTo_none {vars:List Vr} {env:List Int} {rules:List Ru} {k:Nat} (hk:k < rules.length) (h:ruleDo vars env (rules.getD k ru0)=none):rawTo vars env rules (k+1)=rawTo vars env rules k:=by
 unfold rawTo;rw [List.take_succ_eq_append_getElem hk,List.filterMap_append,show rules[k]=rules.getD k ru0 by simp [List.getD_eq_getElem?_getD,hk]]
 generalize rules.getD k ru0=r at h;simp [h]
theorem rawTo_length (vars:List Vr) (env:List Int) (rules:List Ru) (k:Nat):(rawTo vars env rules k).length <= k:=by
 unfold rawTo;exact Nat.le_trans (List.length_filterMap_le _ _) (by simp;omega)
noncomputable def rawL (m:Mo) (code:Int):List Int:=if rawTo m.vars (valsL m.vars code) m.rules m.rules.length=[] then [code] else rawTo m.vars (valsL m.vars code) m.rules m.rules.length
noncomputable def nextL (m:Mo) (code:Int):List Int:=upL (rawL m code)
noncomputable def nxtL (m:Mo) (code:Int):List Int:=if wcode m code=0 then nextL m code else []
theorem rawTo_mem {vars:List Vr} {env:List Int} {rules:List Ru} {k:Nat} (hk:k <= rules.length) (x:Int):x∈rawTo vars env rules k↔∃ j,j < k/\ruleDo vars env (rules.getD j ru0)=some x:=by
 unfold rawTo;rw [List.mem_filterMap]
 constructor
 ·rintro ⟨r,hr,e⟩
  obtain ⟨j,hj,rfl⟩:=List.mem_iff_getElem.1 hr;rw [List.length_take] at hj;refine ⟨j,by omega,?_⟩
  rw [List.getElem_take] at e;rw [show rules.getD j ru0=rules[j]'(by omega) by simp [List.getD_eq_getElem?_getD,show j < rules.length by omega]]
  exact e
 ·rintro ⟨j,hj,e⟩
  refine ⟨rules.getD j ru0,?_,e⟩
  rw [List.mem_iff_getElem];exact ⟨j,by rw [List.length_take];omega,by rw [List.getElem_take];simp [List.getD_eq_getElem?_getD,show j < rules.length by omega]⟩
theorem ruleDo_state {vars:List Vr} {env:List Int} {r:Ru} {x:Int} (hv:VarsOk vars) (h:ruleDo vars env r=some x):0 <= x/\x < prodTo vars vars.length:=by
 unfold ruleDo at h
 split at h
 ·rename_i hc
  injection h with h
  subst h;exact code_bounds hv (Nat.le_refl _) hc.2.2
 ·cases h
end Go.Proofs.YtfnobbpbmelgnaaGreatDoor
namespace Go.Proofs.YtfnobbpbmelgnaaGreatDoor
open Go.ChangeShapes Go.WideShapes Go.ChangeAt Go.RowKit Go.Deep
open Terms Tm
set_option maxHeartbeats 6400000
set_option maxRecDepth 20000
def OwnI (base:Nat) (w:World) (v:Value) (l:List Int):Prop:=w.ownsRow base 3 1 v l.length (ivals l)/\v≠.slice none 0 0
theorem OwnI.form {base:Nat} {w:World} {v:Value} {l:List Int} (h:OwnI base w v l):∃ g cap,v=.slice (some ⟨g,0,none⟩) l.length cap/\base <= g/\g < w.heap.size:=by
 rcases h.1.2 with ⟨e0,_⟩ | ⟨g,cap,cur,rfl,hb,hg,_⟩
 ·exact absurd e0 h.2
 ·exact ⟨g,cap,rfl,hb,(Array.getElem?_eq_some_iff.1 hg).1⟩
theorem nextOf_own (va vr:Value) (m:Mo) (code:Int) (w:World) (hB:0 < w.heap.size) (hT:TabAt w) (hV:ModelV w va vr m) (hm:mcode m=0) :
    Calls Tryz.prog 102 #[.agg #[va,vr],.int .i64 code] w fun e w'=>∃ v,e=.returned (.tuple #[v,.int .i64 (wcode m code)])/\Below w.heap.size w w'/\IntsV w' v (nxtL m code)/\w'.ownsRow w.heap.size 3 1 v (nxtL m code).length (ivals (nxtL m code)):=by
  have hA:∀ o,Below w.heap.size w (w.alloc o):=fun o=>(Below.refl _ _).alloc (Nat.le_refl _) o
  have hVb:∀ w',Below w.heap.size w w'->∀ ao cap,va=.slice ao m.vars.length cap->ModelV w' (.slice ao m.vars.length cap) (.slice none 0 0) ⟨m.vars,[]⟩:=fun w' hb ao cap e=>⟨e ▸ hV.1.below hb,⟨none,0,rfl,⟨by simp,fun _=>⟨rfl,rfl⟩⟩,fun h=>by simp at h⟩⟩
  obtain ⟨ao,cap,rfl⟩:=hV.1.shape;obtain ⟨ro,rc,hro⟩:=hV.2.shape;have hba:=fun w=>bare_any ao ro m.vars.length cap m.rules.length rc w
  by_cases hw:wcode m code=0
  · have hvl:∀ w',Below w.heap.size w w'->Calls Tryz.prog 62 #[.agg #[.slice ao m.vars.length cap,.slice none 0 0],.int .i64 code] w' fun e w2=>∃ B,e=.returned (.tuple #[.slice (some ⟨B,0,none⟩) (valsL m.vars code).length (valsL m.vars code).length,.int .i64 0])/\w'.heap.size <= B/\Below w'.heap.size w' w2/\w2.rowIs B 3 (valsL m.vars code).length (fun j=>.int .i64 ((valsL m.vars code).getD j 0)):=fun w' hb=>
      svalues_any _ _ ⟨m.vars,[]⟩ code w' (Nat.lt_of_lt_of_le hB hb.size) (hT.below hb hB) (hVb w' hb ao cap rfl) (by rw [wcode_bare _ hm];exact hw)
    obtain ⟨hr12,hrs⟩:=mcode_rules hm
    have HDo:Hid (∀ w' (_:Below w.heap.size w w') B k gv sv,k < m.rules.length->w'.rowIs B 3 (valsL m.vars code).length (fun j=>.int .i64 ((valsL m.vars code).getD j 0))->OpsV w' gv (m.rules.getD k ru0).guard->SetsV w' sv (m.rules.getD k ru0).sets->Calls Tryz.prog 118 #[.agg #[.slice ao m.vars.length cap,vr],.slice (some ⟨B,0,none⟩) (valsL m.vars code).length (valsL m.vars code).length,.agg #[gv,sv]] w' fun e w2=>e=.returned (.tuple #[.int .i64 (optN (ruleDo m.vars (valsL m.vars code) (m.rules.getD k ru0))),.int .i64 (optC (ruleDo m.vars (valsL m.vars code) (m.rules.getD k ru0)))])/\Below w'.heap.size w' w2):=fun w' hb B k gv sv hk hrow hg hs=>
      doRule_any _ vr gv sv B m (valsL m.vars code) (m.rules.getD k ru0) w' (Nat.lt_of_lt_of_le hB hb.size) (hT.below hb hB) (hV.below hb) hm (hrs k hk) (valsL_length _ _) hrow hg hs
    have HR:Hid (RulesV w vr m.rules):=hV.2;have HNL:Hid (nxtL m code=upL (if rawTo m.vars (valsL m.vars code) m.rules m.rules.length=[] then [code] else rawTo m.vars (valsL m.vars code) m.rules m.rules.length)):=by show _=_;unfold nxtL nextL rawL;rw [if_pos hw]
    rw [hw];generalize nxtL m code=res at *;generalize valsL m.vars code=env at *;subst hro;obtain ⟨rn,hrn⟩:∃ rn,rn=m.rules.length:=⟨_,rfl⟩
    have HRN:Hid (rn=m.rules.length):=hrn;rw [<- hrn] at hba HDo HR HNL hr12 ⊢;obtain ⟨i0,hi,hz0,hz1,hz2⟩:=info_parts infoInt;clear hV hT hVb hw hm hrs hrn;generalize m.vars.length=n at *
    go_enter Tryz.func102,Tryz.ntmps102
    go_wp2_with (first | (go_at_call 63;refine (hba _).mono ?_;rintro e w1 ⟨rfl,hb1⟩;have hbw1:=(hA _).trans (hb1.mono (hA _).size);have k10:w1.cell? ⟨w.heap.size,0,none⟩=some (.slice ao n cap):=(hb1.cell (p:=⟨w.heap.size,0,none⟩) (by simp)).trans (by simp [go_sem]);have k11:w1.cell? ⟨w.heap.size,1,none⟩=some (.slice ro rn rc):=(hb1.cell (p:=⟨w.heap.size,1,none⟩) (by simp)).trans (by simp [go_sem]);have hs1:w.heap.size < w1.heap.size:=(by have:=hb1.size;simp at this;omega)) | (go_at_call 62;refine (hvl _ hbw1).mono ?_;rintro e w2 ⟨B,rfl,hBl,hb2,hr2⟩;have k20:=(hb2.cell (p:=⟨w.heap.size,0,none⟩) hs1).trans k10;have k21:=(hb2.cell (p:=⟨w.heap.size,1,none⟩) hs1).trans k11;have hs2:=Nat.lt_of_lt_of_le hs1 hb2.size;have kA1:∀ o,(w2.alloc o).cell? ⟨w.heap.size,1,none⟩=some (.slice ro rn rc):=fun o=>(((Below.refl w2.heap.size w2).alloc (Nat.le_refl _) o).cell (p:=⟨w.heap.size,1,none⟩) hs2).trans k21))
    have hbw2:=hbw1.trans (hb2.mono hbw1.size);have hA2:∀ o,Below w2.heap.size w2 (w2.alloc o):=fun o=>(Below.refl _ _).alloc (Nat.le_refl _) o
    have HRow:Hid (w2.rowIs B 3 env.length (fun j=>.int .i64 (env.getD j 0))):=hr2
    have HB2:Hid (Below w.heap.size w w2):=hbw2;have HK2:Hid (∀ w',Below w2.heap.size w2 w'->w'.cell? ⟨w.heap.size,0,none⟩=some (.slice ao n cap)/\w'.cell? ⟨w.heap.size,1,none⟩=some (.slice ro rn rc)):=fun w' hb=>⟨(hb.cell (p:=⟨w.heap.size,0,none⟩) hs2).trans k20,(hb.cell (p:=⟨w.heap.size,1,none⟩) hs2).trans k21⟩
    have HO0:Hid (OwnI w2.heap.size (w2.alloc (.cells #[] 3)) (.slice (some ⟨w2.heap.size,0,none⟩) 0 0) (rawTo m.vars env m.rules 0)):=⟨World.ownsRow_lit w2 #[] 0 (Nat.le_refl _) (by decide) rfl,by simp⟩
    clear hvl hba hb1 hbw1 k10 k11 hs1 hb2 hr2 k20 k21 kA1 hbw2
    go_loopw [8,27] (fun nx i wr=>∃ k:Nat,k <= rn/\i=.int .i64 k/\Hid (OwnI w2.heap.size wr nx (rawTo m.vars env m.rules k))/\Hid (Below w2.heap.size w2 wr)) (fun _ i _=>rn - (intOf i).toNat)
    case atStart=>exact ⟨0,Nat.zero_le _,rfl,HO0.out,hA2 _⟩
    case round=>
      obtain ⟨k,hk,rfl,HOwn,HBel⟩:=hrel;have hbel:=HBel.out;have hbw:=HB2.out.trans (hbel.mono HB2.out.size);obtain ⟨kr0,kr1⟩:=HK2.out wr hbel;obtain ⟨g,gc,rfl,hg,hgl⟩:=HOwn.out.form;have hown:=HOwn.out.1
      by_cases hlt:k < rn
      · obtain ⟨b,off,rfl,hblt,hat⟩:=HR.out.at (i:=k) (by rw [<- HRN.out];exact hlt)
        obtain ⟨⟨u,c0,hou⟩,u',c1,hsu⟩:=hat.below hbw hblt;obtain ⟨uo,uc,rfl⟩:=hou.shape;obtain ⟨so,sc,rfl⟩:=hsu.shape;have hAr:∀ o,Below wr.heap.size wr (wr.alloc o):=fun o=>(Below.refl _ _).alloc (Nat.le_refl _) o
        have hkA0:∀ o,(wr.alloc o).cell? ⟨w.heap.size,0,none⟩=some (.slice ao n cap):=fun o=>(HK2.out _ (hbel.trans ((hAr o).mono hbel.size))).1
        have hkA1:∀ o,(wr.alloc o).cell? ⟨w.heap.size,1,none⟩=some (.slice (some ⟨b,off,none⟩) rn rc):=fun o=>(HK2.out _ (hbel.trans ((hAr o).mono hbel.size))).2
        have hdo:=fun o=>HDo.out (wr.alloc o) (hbw.trans ((hAr o).mono hbw.size)) B k _ _ hlt (row_later (row_later HRow.out hbel) (hAr o)) (hou.below (hAr o)) (hsu.below (hAr o))
        have HRl:Hid ((rawTo m.vars env m.rules k).length <= k):=rawTo_length _ _ _ _;have hk':k < m.rules.length:=by rw [<- HRN.out];exact hlt
        generalize (m.rules.getD k ru0).guard.length=gl at *;generalize (m.rules.getD k ru0).sets.length=sl at *;obtain ⟨L,hL⟩:∃ L,L=(rawTo m.vars env m.rules k).length:=⟨_,rfl⟩
        have HL:Hid (L=(rawTo m.vars env m.rules k).length):=hL;rw [<- hL] at hown HRl ⊢
        cases hres:ruleDo m.vars env (m.rules.getD k ru0) with
        | none=>
          rw [hres] at hdo;simp only [optN,optC] at hdo;have HN:Hid (rawTo m.vars env m.rules (k+1)=rawTo m.vars env m.rules k):=rawTo_none hk' hres
          have HW4:Hid (∀ o w4,Below (wr.alloc o).heap.size (wr.alloc o) w4->Below w2.heap.size w2 w4/\OwnI w2.heap.size w4 (.slice (some ⟨g,0,none⟩) L gc) (rawTo m.vars env m.rules k)):=fun o w4 hb=>⟨(hbel.alloc hbel.size o).trans (hb.mono (hbel.alloc hbel.size o).size),by
            refine ⟨?_,by simp⟩
            rw [<- HL.out]
            exact owns_later (owns_later hown (hAr o) (Nat.le_refl _)) hb (Nat.le_refl _)⟩
          clear hat hou hsu HDo HR hres hk' hown hL
          go_wp2_with (go_at_call 118;refine (hdo _).mono ?_;rintro e w4 ⟨rfl,hb4⟩;obtain ⟨hb24,ho4⟩:=HW4.out _ w4 hb4)
          exact ⟨⟨k+1,hlt,by first | rfl | simp,by rw [HN.out];exact ho4,hb24⟩,by simp [intOf];omega⟩
        | some x=>
          rw [hres] at hdo;simp only [optN,optC] at hdo;have HN:Hid (rawTo m.vars env m.rules (k+1)=rawTo m.vars env m.rules k++[x]):=rawTo_some hk' hres;have h63:L+1 <= maxLen:=by have:=HRl.out;unfold maxLen;omega
          have hkb:(L+1)*8 <= 140737488355328:=by have:=HRl.out;omega
          clear hat hou hsu HDo HR hres hk' hL
          go_wp2_with (first | (go_at_call 118;refine (hdo _).mono ?_;rintro e w4 ⟨rfl,hb4⟩;have hb24:=(hbel.alloc hbel.size _).trans (hb4.mono (hbel.alloc hbel.size _).size);have hown4:=fun o=>(owns_later (owns_later hown (hAr _) (Nat.le_refl _)) hb4 (Nat.le_refl _)).alloc o;have hbase:∀ o,w2.heap.size <= (w4.alloc o).heap.size:=(fun o=>by have:=hb24.size;simp;omega)) | (at_builtin;refine wpList_append_lies _ rfl (.tmp 40) (.tmp 42) 36 rfl w2.heap.size 3 i0 (.int .i64 0) 1 8 Tryz.underlying36 hi hz0 hz1 hz2 rfl (by decide) (.slice (some ⟨g,0,none⟩) L gc) L _ rfl (hown4 _) ⟨w4.heap.size,0,none⟩ 1 1 [.int .i64 x] rfl rfl (cell_one_new _ _ _) (by intro u hu;simp at hu;subst hu;rfl) (by decide) h63 hkb (hbase _) _ rfl ?_;intro g5 cp5 w5 hown5 hgrow5 hat5 hgl5))
          have hb25:Below w2.heap.size w2 w5:=(hb24.alloc hb24.size _).grown hgrow5 (hbase _) (fun z hz=>by have hgz:g=z:=(by simpa [Value.ownBlock] using hz);rw [<- hgz];exact hg)
          have ho5:OwnI w2.heap.size w5 (.slice (some ⟨g5,0,none⟩) (L+1) cp5) (rawTo m.vars env m.rules (k+1)):=by
            refine ⟨?_,by simp⟩
            rw [HN.out,List.length_append,<- HL.out];rw [show ivals (rawTo m.vars env m.rules k++[x])=ivals (rawTo m.vars env m.rules k)++[.int .i64 x] by simp [ivals]]
            exact hown5
          exact ⟨⟨k+1,hlt,by first | rfl | simp,ho5,hb25⟩,by simp [intOf];omega⟩
      · have hkn:k=rn:=by omega
        subst hkn;have HRl:Hid ((rawTo m.vars env m.rules k).length <= k):=rawTo_length _ _ _ _;generalize rawTo m.vars env m.rules k=raw at *;clear HDo HR HOwn kr0 kr1 hlt hk
        by_cases hraw:raw=[]
        · have HRes:Hid (res=upL [code]):=by show _=_;rw [HNL.out,if_pos hraw]
          subst hraw;have hown0:wr.ownsRow w2.heap.size 3 1 (.slice (some ⟨g,0,none⟩) 0 gc) 0 []:=hown;have hown4:=fun o=>hown0.alloc o
          have hbase:∀ o,w2.heap.size <= (wr.alloc o).heap.size:=fun o=>by have:=hbel.size;simp;omega
          have hAr:∀ o,Below wr.heap.size wr (wr.alloc o):=fun o=>(Below.refl _ _).alloc (Nat.le_refl _) o
          clear hown HNL HRl;simp only [List.length_nil];have hso:=fun (w5:World) g5 cp5 (ho:w5.ownsRow w2.heap.size 3 1 (.slice (some ⟨g5,0,none⟩) 1 cp5) 1 (ivals [code]))=>sort_own g5 cp5 w2.heap.size [code] w5 (by simp) ho
          have hms:[code].mergeSort leB=[code]:=List.mergeSort_singleton _;have HUp:Hid (Lib.compact [code]=upL [code]):=by show _=Lib.compact _;rw [hms]
          rw [hms] at hso;simp only [List.length_cons,List.length_nil,Nat.zero_add] at hso;have hco:=fun (w5:World) g5 cp5 (ho:w5.ownsRow w2.heap.size 3 1 (.slice (some ⟨g5,0,none⟩) 1 cp5) 1 (ivals [code]))=>compact_own g5 cp5 w2.heap.size [code] w5 (by simp) ho
          simp only [List.length_cons,List.length_nil,Nat.zero_add] at hco;rw [HUp.out] at hco
          go_wp2_with (first | (at_builtin;refine wpList_append_lies _ rfl (.tmp 48) (.tmp 50) 36 rfl w2.heap.size 3 i0 (.int .i64 0) 1 8 Tryz.underlying36 hi hz0 hz1 hz2 rfl (by decide) (.slice (some ⟨g,0,none⟩) 0 gc) 0 _ rfl (hown4 _) ⟨wr.heap.size,0,none⟩ 1 1 [.int .i64 code] rfl rfl (cell_one_new _ _ _) (by intro u hu;simp at hu;subst hu;rfl) (by decide) (by decide) (by decide) (hbase _) _ rfl ?_;intro g5 cp5 w5 hown5 hgrow5 hat5 hgl5;have hg5:w2.heap.size <= g5:=(by rcases hat5 with h5 | h5;(have hgz:g=g5:=(by simpa [Value.ownBlock] using h5));(rw [<- hgz];exact hg);(rw [h5];exact hbase _))) | (go_at_call 119;refine (hso _ _ _ hown5).mono ?_;rintro e w6 ⟨rfl,hgr6,ho6⟩) | (go_at_call 120;refine (hco _ _ _ ho6).mono ?_;rintro e w7 ⟨rfl,hgr7,ho7⟩))
          have hb5:Below w2.heap.size w2 w5:=(hbel.alloc hbel.size _).grown hgrow5 (hbase _) (fun z hz=>by have hgz:g=z:=(by simpa [Value.ownBlock] using hz);rw [<- hgz];exact hg)
          have hb7:Below w2.heap.size w2 w7:=(hb5.grown hgr6 hb5.size (fun z hz=>by rw [<- Option.some.inj hz];exact hg5)).grown hgr7 (Nat.le_trans hb5.size hgr6.size) (fun z hz=>by rw [<- Option.some.inj hz];exact hg5)
          have hI7:IntsV w7 (.slice (some ⟨g5,0,none⟩) (upL [code]).length cp5) (upL [code]):=intsV_of_owns ho7
          go_ret2
          exact ⟨_,rfl,HB2.out.trans (hb7.mono HB2.out.size),by rw [HRes.out];exact ⟨hI7,owns_mono ho7 HB2.out.size⟩⟩
        · have HRes:Hid (res=upL raw):=by show _=_;rw [HNL.out,if_neg hraw]
          have hpos:0 < raw.length:=List.length_pos_iff.2 hraw;have hso:=sort_own g gc w2.heap.size raw wr (by have:=HRl.out;omega) hown
          obtain ⟨L,hL⟩:∃ L,L=raw.length:=⟨_,rfl⟩
          have HL:Hid (L=raw.length):=hL;have HLs:Hid ((raw.mergeSort leB).length=L):=by show _=_;rw [List.length_mergeSort,hL]
          have hL12:L <= 12:=by have:=HRl.out;omega
          rw [<- hL] at hso hpos ⊢;clear hown HNL HRl hraw hL
          have HCo:Hid (∀ w5:World,w5.ownsRow w2.heap.size 3 1 (.slice (some ⟨g,0,none⟩) L gc) L (ivals (raw.mergeSort leB))->Calls Tryz.prog 120 #[.slice (some ⟨g,0,none⟩) L gc] w5 fun e w'=>e=.returned (.slice (some ⟨g,0,none⟩) (upL raw).length gc)/\w5.grownBy w' (some g)/\w'.ownsRow w2.heap.size 3 1 (.slice (some ⟨g,0,none⟩) (upL raw).length gc) (upL raw).length (ivals (upL raw))):=fun w5 ho=>by
            rw [<- HLs.out] at ho ⊢;exact compact_own g gc w2.heap.size (raw.mergeSort leB) w5 (by rw [HLs.out];omega) ho
          go_wp2_with (first | (go_at_call 119;refine hso.mono ?_;rintro e w6 ⟨rfl,hgr6,ho6⟩;have hco:=HCo.out w6 ho6) | (go_at_call 120;refine hco.mono ?_;rintro e w7 ⟨rfl,hgr7,ho7⟩))
          have hb7:Below w2.heap.size w2 w7:=(hbel.grown hgr6 hbel.size (fun z hz=>by rw [<- Option.some.inj hz];exact hg)).grown hgr7 (Nat.le_trans hbel.size hgr6.size) (fun z hz=>by rw [<- Option.some.inj hz];exact hg)
          have hI7:IntsV w7 (.slice (some ⟨g,0,none⟩) (upL raw).length gc) (upL raw):=intsV_of_owns ho7
          go_ret2
          exact ⟨_,rfl,HB2.out.trans (hb7.mono HB2.out.size),by rw [HRes.out];exact ⟨hI7,owns_mono ho7 HB2.out.size⟩⟩
  · have hvl:=fun w' (hb:Below w.heap.size w w')=>mvalues_any _ _ ⟨m.vars,[]⟩ code w' (Nat.lt_of_lt_of_le hB hb.size) (hT.below hb hB) (hVb w' hb ao cap rfl)
    rw [wcode_bare _ hm] at hvl;have hnl:nxtL m code=[]:=by unfold nxtL;rw [if_neg hw]
    rw [hnl];subst hro;generalize wcode m code=c at *;generalize wvals ⟨m.vars,[]⟩ code=vs at *;generalize m.vars.length=n at *;generalize m.rules.length=rn at *;clear hV hT hVb hnl hm
    go_enter Tryz.func102,Tryz.ntmps102
    go_wp2_with (first | (go_at_call 63;refine (hba _).mono ?_;rintro e w2 ⟨rfl,hb2⟩;have hbw2:=(hA _).trans (hb2.mono (hA _).size)) | (go_at_call 62;refine (hvl _ hbw2).mono ?_;rintro e w3 ⟨v,rfl,hb3,_⟩))
    go_ret2
    exact ⟨_,rfl,hbw2.trans (hb3.mono hbw2.size),⟨none,0,rfl,fun h=>absurd rfl h⟩,World.ownsRow_nil _ _ _ _⟩
theorem next_own (va vr:Value) (m:Mo) (code:Int) (w:World) (hB:0 < w.heap.size) (hT:TabAt w) (hV:ModelV w va vr m) (hm:mcode m=0) :
  Calls Tryz.prog 84 #[.agg #[va,vr],.int .i64 code] w fun e w'=>∃ v,e=.returned (.tuple #[v,.int .i64 (wcode m code)])/\Below w.heap.size w w'/\w'.ownsRow w.heap.size 3 1 v (nxtL m code).length (ivals (nxtL m code)):=by
 have hA:∀ o,Below w.heap.size w (w.alloc o):=fun o=>(Below.refl _ _).alloc (Nat.le_refl _) o
 have hch:=fun o=>mcheck_any va vr m (w.alloc o) (Nat.lt_of_lt_of_le hB (hA o).size) (hT.below (hA o) hB) (hV.below (hA o))
 have hne:=fun w' (hb:Below w.heap.size w w')=>nextOf_own va vr m code w' (Nat.lt_of_lt_of_le hB hb.size) (hT.below hb hB) (hV.below hb) hm
 rw [hm] at hch;obtain ⟨ao,cap,rfl⟩:=hV.1.shape;obtain ⟨ro,rc,rfl⟩:=hV.2.shape;generalize wcode m code=c at *;generalize nxtL m code=res at *;generalize m.vars.length=n at *;generalize m.rules.length=rn at *;clear hV hT hm
 go_enter Tryz.func84,Tryz.ntmps84
 go_wp2_with (first | (go_at_call 60;refine (hch _).mono ?_;rintro e w1 ⟨rfl,hb1⟩;have hbw1:=(hA _).trans (hb1.mono (hA _).size);have k10:w1.cell? ⟨w.heap.size,0,none⟩=some (.slice ao n cap):=(hb1.cell (p:=⟨w.heap.size,0,none⟩) (by simp)).trans (by simp [go_sem]);have k11:w1.cell? ⟨w.heap.size,1,none⟩=some (.slice ro rn rc):=(hb1.cell (p:=⟨w.heap.size,1,none⟩) (by simp)).trans (by simp [go_sem])) | (go_at_call 102;refine (hne _ hbw1).mono ?_;rintro e w2 ⟨v,rfl,hb2,hI2,ho2⟩))
 go_ret2
 exact ⟨_,rfl,hbw1.trans (hb2.mono hbw1.size),owns_mono ho2 hbw1.size⟩
end Go.Proofs.YtfnobbpbmelgnaaGreatDoor
namespace Go.Proofs.YtfnobbpbmelgnaaGreatDoor
open Go.ChangeShapes Go.WideShapes Go.ChangeAt Go.RowKit Go.Deep Go.Maps
open Terms Tm
set_option maxHeartbeats 6400000
set_option maxRecDepth 20000
variable {Pz : Nat -> Prop}
noncomputable def sgAt (l:List (Int × Int)) (lt:List Bool) (c:Nat):Int:=signN l (tru l lt (c:Int))
noncomputable def sgL (l:List (Int × Int)) (lt:List Bool):List Int:=(List.range (2 ^ (aheadL l).length)).map fun (c:Nat)=>sgAt l lt c
theorem sgL_len (l:List (Int × Int)) (lt:List Bool):(sgL l lt).length=2 ^ (aheadL l).length:=by simp [sgL]
theorem sgL_at {l:List (Int × Int)} {lt:List Bool} {c:Nat} (h:c < 2 ^ (aheadL l).length):(sgL l lt).getD c 0=sgAt l lt c:=by simp [sgL,List.getD_eq_getElem?_getD,h]
theorem BoolsV.sk {bs bl:Nat} {w w':World} {v:Value} {x:List Bool} (h:BoolsV w v x) (hs:Sk bs bl w w') (hm:TwoMaps w bs bl):BoolsV w' v x:=by
 obtain ⟨ao,cap,rfl,h⟩:=h;refine ⟨ao,cap,rfl,fun hne=>?_⟩
 obtain ⟨b,off,rfl,hlt,hat⟩:=h hne;exact ⟨b,off,rfl,Nat.lt_of_lt_of_le hlt hs.size,fun i hi=>hs.cell hm (hat i hi)⟩
theorem IntsV.sk {bs bl:Nat} {w w':World} {v:Value} {x:List Int} (h:IntsV w v x) (hs:Sk bs bl w w') (hm:TwoMaps w bs bl):IntsV w' v x:=by
 obtain ⟨ao,cap,rfl,h⟩:=h;refine ⟨ao,cap,rfl,fun hne=>?_⟩
 obtain ⟨b,off,rfl,hlt,hat⟩:=h hne;exact ⟨b,off,rfl,Nat.lt_of_lt_of_le hlt hs.size,fun i hi=>hs.cell hm (hat i hi)⟩
theorem SurvAt.sk {bs bl:Nat} {w w':World} {B:Nat} {va vr pv fv av:Value} (h:SurvAt w B va vr pv fv av bs bl) (hs:Sk bs bl w w') (hm:TwoMaps w bs bl):SurvAt w' B va vr pv fv av bs bl:=
 ⟨Nat.lt_of_lt_of_le h.lt hs.size,hs.cell hm h.c0,hs.cell hm h.c1,hs.cell hm h.c2,hs.cell hm h.c3,hs.cell hm h.c4,hs.cell hm h.c5,hs.cell hm h.c6⟩
theorem SpO.sk {bs bl:Nat} {w w':World} {base:Nat} {v:Value} {x:List (Int × Int)} (h:SpO w base v x) (hs:Sk bs bl w w') (hm:TwoMaps w bs bl):SpO w' base v x:=by
 refine ⟨h.1,?_⟩
 rcases h.2 with h0 | ⟨g,cap,cur,h1,h2,h3,h4⟩
 ·exact .inl h0
 ·refine .inr ⟨g,cap,cur,h1,h2,?_,h4⟩
  obtain ⟨⟨es,c,e1⟩,⟨es',c',e2⟩⟩:=hm;rw [hs.block g (Array.getElem?_eq_some_iff.1 h3).1 (fun e=>by subst e;rw [e1] at h3;simp at h3) (fun e=>by subst e;rw [e2] at h3;simp at h3)]
  exact h3
theorem RowTy.sk {bs bl:Nat} {w w':World} {v:Value} {t:TypeId} (h:RowTy w v t) (hs:Sk bs bl w w') (hm:TwoMaps w bs bl):RowTy w' v t:=by
 intro a n c e;obtain ⟨cs,fr,h1⟩:=h a n c e;obtain ⟨⟨es,cl,e1⟩,⟨es',cl',e2⟩⟩:=hm;refine ⟨cs,fr,?_⟩
 rw [hs.block a.block (Array.getElem?_eq_some_iff.1 h1).1 (fun e=>by rw [e,e1] at h1;simp at h1) (fun e=>by rw [e,e2] at h1;simp at h1)]
 exact h1
theorem RowTy.below {w w':World} {v:Value} {t:TypeId} (h:RowTy w v t) (hb:Below w.heap.size w w'):RowTy w' v t:=by
 intro a n c e;obtain ⟨cs,fr,h1⟩:=h a n c e;exact ⟨cs,fr,(hb.block _ (Array.getElem?_eq_some_iff.1 h1).1).trans h1⟩
theorem RowTy.setCell {w:World} {v:Value} {t:TypeId} (h:RowTy w v t) (b i:Nat) (u:Value):RowTy (w.setCell ⟨b,i,none⟩ u) v t:=by
 intro a n c e;obtain ⟨cs,fr,h1⟩:=h a n c e
 by_cases hp:a.block=b
 ·refine ⟨cs.setIfInBounds i u,fr,?_⟩
  simp [World.setCell,Array.getElem?_modify,<- hp,h1]
 ·exact ⟨cs,fr,(RowKit.Below.heap_setCell _ _ _ _ hp).trans h1⟩
theorem RowTy.grown {w w':World} {v:Value} {t t':TypeId} {own:Option Nat} (h:RowTy w v t) (hg:w.grownBy w' own) (ht:t≠t') (ho:∀ g,own=some g->∃ cs fr,w.heap[g]? = some (.cells cs t' fr)):RowTy w' v t:=by
 intro a n c e;obtain ⟨cs,fr,h1⟩:=h a n c e;refine ⟨cs,fr,(hg.block _ (Array.getElem?_eq_some_iff.1 h1).1 (fun e2=>?_)).trans h1⟩
 obtain ⟨cs',fr',h2⟩:=ho _ e2.symm;rw [h1] at h2
 injection h2 with h2
 injection h2 with _ h3 _
 exact ht h3
theorem RowTy.owns {w:World} {base n:Nat} {v:Value} {t:TypeId} {s:Nat} {xs:List Value} (h:w.ownsRow base t s v n xs):RowTy w v t:=by
 intro a k c e
 rcases h.2 with ⟨h0,_⟩ | ⟨g,cap,cur,h1,_,h3,_⟩
 ·rw [h0] at e;simp at e
 ·rw [h1] at e
  injection e with e _ _
  injection e with e
  subst e;exact ⟨cur,_,h3⟩
theorem BoolsV.grown {w w':World} {v:Value} {x:List Bool} {own:Option Nat} (h:BoolsV w v x) (hty:RowTy w v 4) (hg:w.grownBy w' own) (ho:∀ g,own=some g->∃ cs fr,w.heap[g]? = some (.cells cs 97 fr)):BoolsV w' v x:=by
 obtain ⟨ao,cap,rfl,h⟩:=h;refine ⟨ao,cap,rfl,fun hne=>?_⟩
 obtain ⟨b,off,rfl,hlt,hat⟩:=h hne;refine ⟨b,off,rfl,Nat.lt_of_lt_of_le hlt hg.size,fun i hi=>?_⟩
 obtain ⟨cs,fr,h1⟩:=hty _ _ _ rfl
 rw [World.cell?_of_block (hg.block b hlt (fun e2=>by
  obtain ⟨cs',fr',h2⟩:=ho _ e2.symm;rw [h1] at h2
  injection h2 with h2
  injection h2 with _ h3 _
  exact absurd h3 (by decide)))]
 exact hat i hi
theorem IntsV.grown {w w':World} {v:Value} {x:List Int} {own:Option Nat} (h:IntsV w v x) (hty:RowTy w v 3) (hg:w.grownBy w' own) (ho:∀ g,own=some g->∃ cs fr,w.heap[g]? = some (.cells cs 97 fr)):IntsV w' v x:=by
 obtain ⟨ao,cap,rfl,h⟩:=h;refine ⟨ao,cap,rfl,fun hne=>?_⟩
 obtain ⟨b,off,rfl,hlt,hat⟩:=h hne;refine ⟨b,off,rfl,Nat.lt_of_lt_of_le hlt hg.size,fun i hi=>?_⟩
 obtain ⟨cs,fr,h1⟩:=hty _ _ _ rfl
 rw [World.cell?_of_block (hg.block b hlt (fun e2=>by
  obtain ⟨cs',fr',h2⟩:=ho _ e2.symm;rw [h1] at h2
  injection h2 with h2
  injection h2 with _ h3 _
  exact absurd h3 (by decide)))]
 exact hat i hi
def StOk (Pz:Nat->Prop) (w:World) (m:Mo) (ps:List (List (Int × Int))) (l:List (Int × Int)) (code:Int) (v:Value):Prop:=
 ∃ lo lc no nc so sc,v=.agg #[.slice lo ps.length lc,.slice no (nextL m code).length nc,.slice so (2 ^ (aheadL l).length) sc]/\BoolsV w (.slice lo ps.length lc) (letL m ps code)/\IntsV w (.slice no (nextL m code).length nc) (nextL m code)/\IntsV w (.slice so (2 ^ (aheadL l).length) sc) (sgL l (letL m ps code))/\RowTy w (.slice lo ps.length lc) 4/\RowTy w (.slice no (nextL m code).length nc) 3/\RowTy w (.slice so (2 ^ (aheadL l).length) sc) 3/\(∀ a,no=some a->Pz a.block)/\(∀ a,so=some a->Pz a.block)
theorem StOk.sk {bs bl:Nat} {w w':World} {m:Mo} {ps:List (List (Int × Int))} {l:List (Int × Int)} {code:Int} {v:Value} (h:StOk Pz w m ps l code v) (hs:Sk bs bl w w') (hm:TwoMaps w bs bl):StOk Pz w' m ps l code v:=by
 obtain ⟨lo,lc,no,nc,so,sc,h1,h2,h3,h4,h5,h6,h7,h8⟩:=h;exact ⟨lo,lc,no,nc,so,sc,h1,h2.sk hs hm,h3.sk hs hm,h4.sk hs hm,h5.sk hs hm,h6.sk hs hm,h7.sk hs hm,h8⟩
theorem StOk.below {w w':World} {m:Mo} {ps:List (List (Int × Int))} {l:List (Int × Int)} {code:Int} {v:Value} (h:StOk Pz w m ps l code v) (hb:Below w.heap.size w w'):StOk Pz w' m ps l code v:=by
 obtain ⟨lo,lc,no,nc,so,sc,h1,h2,h3,h4,h5,h6,h7,h8⟩:=h;exact ⟨lo,lc,no,nc,so,sc,h1,h2.below hb,h3.below hb,h4.below hb,h5.below hb,h6.below hb,h7.below hb,h8⟩
theorem StOk.grown {w w':World} {m:Mo} {ps:List (List (Int × Int))} {l:List (Int × Int)} {code:Int} {v:Value} {own:Option Nat} (h:StOk Pz w m ps l code v) (hg:w.grownBy w' own) (ho:∀ g,own=some g->∃ cs fr,w.heap[g]? = some (.cells cs 97 fr)):StOk Pz w' m ps l code v:=by
 obtain ⟨lo,lc,no,nc,so,sc,h1,h2,h3,h4,h5,h6,h7,h8⟩:=h;exact ⟨lo,lc,no,nc,so,sc,h1,h2.grown h5 hg ho,h3.grown h6 hg ho,h4.grown h7 hg ho,h5.grown hg (by decide) ho,h6.grown hg (by decide) ho,h7.grown hg (by decide) ho,h8⟩
def six (x:List Bool):List Bool:=x++List.replicate (6 - x.length) false
def linkV (x:List Bool) (c sg:Int):Value:=.agg ((six x).map Value.bool++[Value.int .i64 c,Value.int .i64 sg]).toArray
theorem linkV_inj {x y:List Bool} {c d s t:Int} (hl:x.length=y.length) (h:linkV x c s=linkV y d t):x=y/\c=d/\s=t:=by
 unfold linkV at h
 injection h with h
 have h1:=congrArg Array.toList h;have hs:((six x).map Value.bool).length=((six y).map Value.bool).length:=by simp [six,hl]
 obtain ⟨h2,h3⟩:=List.append_inj h1 hs
 have h4:six x=six y:=by
  have:=List.map_inj_right (f:=Value.bool) (fun a b hab=>by injection hab) |>.1 h2
  exact this
 unfold six at h4;have h5:=(List.append_inj h4 hl).1;simp at h3
 exact ⟨h5,h3.1,h3.2⟩
def LinkOk (ps:List (List (Int × Int))) (l:List (Int × Int)) (kl:Lit) (v:Value):Prop:=
 ∃ (x:List Bool) (c sg:Int) (b:Bool),x.length=ps.length/\keyOf Tryz.prog 168 (linkV x c sg)=some kl/\v=.agg #[.bool b]/\∀ (y:List Bool) (d:Int),y.length=ps.length->tcode l y d=0->signN l (tru l y d)=sg->folR l x c y d=b
structure SvOk (Pz:Nat->Prop) (w0 w:World) (B bs bl n:Nat) (va vr pv fv:Value) (m:Mo) (ps:List (List (Int × Int))) (l:List (Int × Int)) (ho:Option Addr) (hc:Nat):Prop where
 box:SurvAt w B va vr pv fv (.slice ho (aheadL l).length hc) bs bl
 bel:Below w0.heap.size w0 w
 lo1:w0.heap.size <= bs
 lo2:w0.heap.size <= bl
 ne:bs≠bl
 ah:IntsV w (.slice ho (aheadL l).length hc) (aheadL l)
 aty:RowTy w (.slice ho (aheadL l).length hc) 3
 up:∀ b,w.heap.size <= b->Pz b
 aP:∀ a,ho=some a->Pz a.block
 st:∃ f,MapIs w 3 bs n f/\∀ kl v,f kl=some v->∃ code,kl=.int .i64 code/\(0 <= code/\code < prodTo m.vars m.vars.length)/\StOk Pz w m ps l code v
 li:∃ f,MapIs w 168 bl n f/\∀ kl v,f kl=some v->LinkOk ps l kl v
section
variable {w0 w w' : World} {B bs bl n : Nat} {va vr pv fv : Value} {m : Mo} {ps : List (List (Int × Int))} {l : List (Int × Int)} {ho : Option Addr} {hc : Nat}
theorem SvOk.two (h:SvOk Pz w0 w B bs bl n va vr pv fv m ps l ho hc):TwoMaps w bs bl:=by
 obtain ⟨f,h1,_⟩:=h.st;obtain ⟨g,h2,_⟩:=h.li;exact ⟨h1.isMap,h2.isMap⟩
theorem SvOk.below (h:SvOk Pz w0 w B bs bl n va vr pv fv m ps l ho hc) (hb:Below w.heap.size w w'):SvOk Pz w0 w' B bs bl n va vr pv fv m ps l ho hc:=by
 obtain ⟨f,h1,h2⟩:=h.st;obtain ⟨g,h3,h4⟩:=h.li;refine ⟨h.box.later hb,h.bel.trans (hb.mono h.bel.size),h.lo1,h.lo2,h.ne,h.ah.below hb,h.aty.below hb,fun b hb2=>h.up b (Nat.le_trans hb.size hb2),h.aP,⟨f,h1.kept (hb.block _ h1.lt),fun kl v hv=>?_⟩,⟨g,h3.kept (hb.block _ h3.lt),h4⟩⟩
 obtain ⟨code,e1,e2,e3⟩:=h2 kl v hv;exact ⟨code,e1,e2,e3.below hb⟩
theorem MapIs.mono {w:World} {kt:TypeId} {b n n':Nat} {f:Lit->Option Value} (h:MapIs w kt b n f) (hn:n <= n'):MapIs w kt b n' f:=by
 obtain ⟨D,h1,h2⟩:=h;exact ⟨D,h1.mono hn,h2⟩
theorem SvOk.mono {n':Nat} (h:SvOk Pz w0 w B bs bl n va vr pv fv m ps l ho hc) (hn:n <= n'):SvOk Pz w0 w B bs bl n' va vr pv fv m ps l ho hc:=by
 obtain ⟨f,h1,h2⟩:=h.st;obtain ⟨g,h3,h4⟩:=h.li;exact ⟨h.box,h.bel,h.lo1,h.lo2,h.ne,h.ah,h.aty,h.up,h.aP,⟨f,h1.mono hn,h2⟩,⟨g,h3.mono hn,h4⟩⟩
theorem SvOk.putL (h:SvOk Pz w0 w B bs bl n va vr pv fv m ps l ho hc) {f:Lit->Option Value} {kl:Lit} {v:Value} (hg:w.grownBy w' (some bl)) (h2:∀ kl v,f kl=some v->LinkOk ps l kl v)
  (hm:MapIs w' 168 bl (n+1) (fput f kl v)) (hv:LinkOk ps l kl v):SvOk Pz w0 w' B bs bl (n+1) va vr pv fv m ps l ho hc:=by
 have hs:Sk bs bl w w':=Sk.grown hg (.inr rfl);have ht:=h.two;obtain ⟨g,h3,h4⟩:=h.st
 refine ⟨h.box.sk hs ht,h.bel.trans (hs.below h.lo1 h.lo2 h.bel.size),h.lo1,h.lo2,h.ne,h.ah.sk hs ht,h.aty.sk hs ht,fun b hb2=>h.up b (Nat.le_trans hs.size hb2),h.aP,⟨g,(h3.kept (hg.block _ h3.lt (by intro e;injection e with e;exact h.ne e))).mono (Nat.le_succ _),fun k u hu=>?_⟩,⟨_,hm,fun k u hu=>?_⟩⟩
 ·obtain ⟨c,e1,e2,e3⟩:=h4 k u hu
  exact ⟨c,e1,e2,e3.sk hs ht⟩
 ·by_cases hk:k=kl
  ·subst hk
   rw [fput_same] at hu
   cases hu
   exact hv
  ·rw [fput_other hk] at hu
   exact h2 k u hu
theorem SvOk.spots {own:Option Nat} (h:SvOk Pz w0 w B bs bl n va vr pv fv m ps l ho hc) (hg:w.grownBy w' own) (hown:∀ g,own=some g->B < g/\w0.heap.size <= g/\∃ cs fr,w.heap[g]? = some (.cells cs 97 fr)):SvOk Pz w0 w' B bs bl n va vr pv fv m ps l ho hc:=by
 have hty:∀ g,own=some g->∃ cs fr,w.heap[g]? = some (.cells cs 97 fr):=fun g e=>(hown g e).2.2
 have hbx:∀ i v,w.cell? ⟨B,i,none⟩=some v->w'.cell? ⟨B,i,none⟩=some v:=fun i v hv=>by
  rw [World.cell?_of_block (hg.block B h.box.lt (fun e=>by have:=(hown B e.symm).1;omega))]
  exact hv
 obtain ⟨f,h1,h2⟩:=h.st;obtain ⟨q,h3,h4⟩:=h.li
 have hms:∀ b es c,w.heap[b]? = some (.map es c)->b < w.heap.size->w'.heap[b]? = w.heap[b]?:=fun b es c e hlt=>hg.block b hlt (fun e2=>by
  obtain ⟨cs,fr,e3⟩:=hty b e2.symm;rw [e] at e3
  simp at e3)
 obtain ⟨es1,c1,m1⟩:=h1.isMap;obtain ⟨es2,c2,m2⟩:=h3.isMap
 refine ⟨⟨Nat.lt_of_lt_of_le h.box.lt hg.size,hbx _ _ h.box.c0,hbx _ _ h.box.c1,hbx _ _ h.box.c2,hbx _ _ h.box.c3,hbx _ _ h.box.c4,hbx _ _ h.box.c5,hbx _ _ h.box.c6⟩,?_,h.lo1,h.lo2,h.ne,h.ah.grown h.aty hg hty,h.aty.grown hg (by decide) hty,fun b hb2=>h.up b (Nat.le_trans hg.size hb2),h.aP,⟨f,h1.kept (hms bs _ _ m1 h1.lt),fun kl v hv=>?_⟩,⟨q,h3.kept (hms bl _ _ m2 h3.lt),h4⟩⟩
 ·refine h.bel.trans ⟨hg.os,hg.tape,hg.output,hg.size,fun i hi=>hg.block i (Nat.lt_of_lt_of_le hi h.bel.size) (fun e=>by have:=(hown i e.symm).2.1;omega)⟩
 ·obtain ⟨code,e1,e2,e3⟩:=h2 kl v hv
  exact ⟨code,e1,e2,e3.grown hg hty⟩
end
end Go.Proofs.YtfnobbpbmelgnaaGreatDoor
namespace Go.Proofs.YtfnobbpbmelgnaaGreatDoor
open Go.ChangeShapes Go.WideShapes Go.ChangeAt Go.RowKit Go.Deep Go.Maps
open Terms Tm
set_option maxHeartbeats 6400000
set_option maxRecDepth 20000
structure Chg (Z:Nat->Prop) (w w':World):Prop where
 os:w'.os=w.os
 tape:w'.tape=w.tape
 output:w'.output=w.output
 size:w.heap.size <= w'.heap.size
 block:∀ i,i < w.heap.size->¬ Z i->w'.heap[i]? = w.heap[i]?
theorem Chg.trans {Z:Nat->Prop} {a b c:World} (h:Chg Z a b) (k:Chg Z b c):Chg Z a c:=
 ⟨k.os.trans h.os,k.tape.trans h.tape,k.output.trans h.output,Nat.le_trans h.size k.size,fun i hi hz=>(k.block i (Nat.lt_of_lt_of_le hi h.size) hz).trans (h.block i hi hz)⟩
theorem Chg.trans2 {Z Z':Nat->Prop} {a b c:World} (h:Chg Z a b) (k:Chg Z' b c) (hz:∀ i,i < a.heap.size->Z' i->Z i):Chg Z a c:=
 ⟨k.os.trans h.os,k.tape.trans h.tape,k.output.trans h.output,Nat.le_trans h.size k.size,fun i hi hn=>(k.block i (Nat.lt_of_lt_of_le hi h.size) (fun h2=>hn (hz i hi h2))).trans (h.block i hi hn)⟩
theorem Chg.weaken {Z Z':Nat->Prop} {a b:World} (h:Chg Z a b) (hz:∀ i,i < a.heap.size->Z i->Z' i):Chg Z' a b:=
 ⟨h.os,h.tape,h.output,h.size,fun i hi hn=>h.block i hi (fun h2=>hn (hz i hi h2))⟩
theorem Chg.of {Z:Nat->Prop} {w w':World} (h:Below w.heap.size w w'):Chg Z w w':=⟨h.os,h.tape,h.output,h.size,fun i hi _=>h.block i hi⟩
theorem Chg.grown {w w':World} {own:Option Nat} (h:w.grownBy w' own):Chg (fun i=>own=some i) w w':=
 ⟨h.os,h.tape,h.output,h.size,fun i hi hz=>h.block i hi (fun e=>hz e.symm)⟩
theorem Chg.setCell (w:World) (p:Addr) (v:Value):Chg (fun i=>i=p.block) w (w.setCell p v):=
 ⟨rfl,rfl,rfl,by simp,fun i _ hz=>RowKit.Below.heap_setCell _ _ _ _ hz⟩
theorem Chg.below {Z:Nat->Prop} {base:Nat} {w w':World} (h:Chg Z w w') (hz:∀ i,Z i->base <= i) (hb:base <= w.heap.size):Below base w w':=
 ⟨h.os,h.tape,h.output,h.size,fun i hi=>h.block i (by omega) (fun h2=>by have:=hz i h2;omega)⟩
theorem Chg.cell {Z:Nat->Prop} {w w':World} (h:Chg Z w w') {p:Addr} {v:Value} (hp:w.cell? p=some v) (hz:¬ Z p.block):w'.cell? p=some v:=by
 rw [World.cell?_of_block (h.block p.block (World.block_lt_of_cell? w p hp) hz)]
 exact hp
theorem Sk.chg {bs bl:Nat} {w w':World} (h:Sk bs bl w w'):Chg (fun i=>i=bs\/i=bl) w w':=
 ⟨h.os,h.tape,h.output,h.size,fun i hi hz=>h.block i hi (fun e=>hz (.inl e)) (fun e=>hz (.inr e))⟩
def TyB (w:World) (i:Nat) (t:TypeId):Prop:=∃ cs fr,w.heap[i]? = some (.cells cs t fr)
theorem TyB.lt {w:World} {i:Nat} {t:TypeId} (h:TyB w i t):i < w.heap.size:=by
 obtain ⟨cs,fr,h⟩:=h;exact (Array.getElem?_eq_some_iff.1 h).1
theorem TyB.eq {w:World} {i:Nat} {t t':TypeId} (h:TyB w i t) (h':TyB w i t'):t=t':=by
 obtain ⟨cs,fr,h⟩:=h;obtain ⟨cs',fr',h'⟩:=h';rw [h] at h'
 injection h' with h'
 injection h' with _ h' _
theorem TyB.no_map {w:World} {i:Nat} {t:TypeId} (h:TyB w i t) {es:Array MapEntry} {c:Nat}:w.heap[i]?≠some (.map es c):=by
 obtain ⟨cs,fr,h⟩:=h;rw [h]
 simp
theorem RowTy.ty {w:World} {t:TypeId} {a:Addr} {n c:Nat} (h:RowTy w (.slice (some a) n c) t):TyB w a.block t:=h a n c rfl
theorem IntsV.chg {Z:Nat->Prop} {w w':World} {ao:Option Addr} {n c:Nat} {x:List Int} (h:IntsV w (.slice ao n c) x) (hs:Chg Z w w') (hz:∀ a,ao=some a->¬ Z a.block):IntsV w' (.slice ao n c) x:=by
 obtain ⟨ao',cap,e,h⟩:=h
 injection e with e1 e2 e3
 subst e1 e2 e3;refine ⟨ao,c,rfl,fun hne=>?_⟩
 obtain ⟨b,off,rfl,hlt,hat⟩:=h hne;exact ⟨b,off,rfl,Nat.lt_of_lt_of_le hlt hs.size,fun i hi=>hs.cell (hat i hi) (hz ⟨b,off,none⟩ rfl)⟩
theorem BoolsV.chg {Z:Nat->Prop} {w w':World} {ao:Option Addr} {n c:Nat} {x:List Bool} (h:BoolsV w (.slice ao n c) x) (hs:Chg Z w w') (hz:∀ a,ao=some a->¬ Z a.block):BoolsV w' (.slice ao n c) x:=by
 obtain ⟨ao',cap,e,h⟩:=h
 injection e with e1 e2 e3
 subst e1 e2 e3;refine ⟨ao,c,rfl,fun hne=>?_⟩
 obtain ⟨b,off,rfl,hlt,hat⟩:=h hne;exact ⟨b,off,rfl,Nat.lt_of_lt_of_le hlt hs.size,fun i hi=>hs.cell (hat i hi) (hz ⟨b,off,none⟩ rfl)⟩
theorem RowTy.chg {Z:Nat->Prop} {w w':World} {ao:Option Addr} {n c:Nat} {t:TypeId} (h:RowTy w (.slice ao n c) t) (hs:Chg Z w w') (hz:∀ a,ao=some a->¬ Z a.block):RowTy w' (.slice ao n c) t:=by
 intro a k c' e
 injection e with e1 e2 e3
 subst e1 e2 e3;obtain ⟨cs,fr,h1⟩:=h a n c rfl;exact ⟨cs,fr,(hs.block _ (Array.getElem?_eq_some_iff.1 h1).1 (hz a rfl)).trans h1⟩
theorem owns_chg {Z:Nat->Prop} {w w':World} {base:Nat} {e:TypeId} {s n:Nat} {v:Value} {xs:List Value} (h:w.ownsRow base e s v n xs) (hs:Chg Z w w') (hz:∀ g,v.ownBlock=some g->¬ Z g):w'.ownsRow base e s v n xs:=by
 refine ⟨h.1,?_⟩
 rcases h.2 with h0 | ⟨g,cap,cur,h1,h2,h3,h4⟩
 ·exact .inl h0
 ·refine .inr ⟨g,cap,cur,h1,h2,?_,h4⟩
  rw [hs.block g (Array.getElem?_eq_some_iff.1 h3).1 (hz g (by rw [h1];simp [Value.ownBlock]))]
  exact h3
theorem owns_ty {w:World} {base:Nat} {e:TypeId} {s n:Nat} {v:Value} {xs:List Value} (h:w.ownsRow base e s v n xs) {g:Nat} (hg:v.ownBlock=some g):base <= g/\TyB w g e:=by
 rcases h.2 with ⟨h0,_⟩ | ⟨g',cap',cur,h1,h2,h3,_⟩
 ·rw [h0] at hg;simp [Value.ownBlock] at hg
 ·rw [h1] at hg
  simp [Value.ownBlock] at hg
  subst hg;exact ⟨h2,cur,_,h3⟩
theorem MapIs.chg {Z:Nat->Prop} {w w':World} {kt:TypeId} {b n:Nat} {f:Lit->Option Value} (h:MapIs w kt b n f) (hs:Chg Z w w') (hz:¬ Z b):MapIs w' kt b n f:=h.kept (hs.block b h.lt hz)
section
variable {Pz : Nat -> Prop} {w0 w w' : World} {B bs bl n : Nat} {va vr pv fv : Value} {m : Mo} {ps : List (List (Int × Int))} {l : List (Int × Int)} {ho : Option Addr} {hc : Nat}
theorem StOk.chg {Z:Nat->Prop} {code:Int} {v:Value} (h:StOk Pz w m ps l code v) (hs:Chg Z w w') (hz:∀ i,Z i->¬ TyB w i 4/\(TyB w i 3->¬ Pz i)):StOk Pz w' m ps l code v:=by
 obtain ⟨lo,lc,no,nc,so,sc,h1,h2,h3,h4,h5,h6,h7,h8,h9⟩:=h;have z1:∀ a,lo=some a->¬ Z a.block:=fun a e z=>by subst e;exact (hz _ z).1 h5.ty
 have z2:∀ a,no=some a->¬ Z a.block:=fun a e z=>by subst e;exact (hz _ z).2 h6.ty (h8 a rfl)
 have z3:∀ a,so=some a->¬ Z a.block:=fun a e z=>by subst e;exact (hz _ z).2 h7.ty (h9 a rfl)
 exact ⟨lo,lc,no,nc,so,sc,h1,h2.chg hs z1,h3.chg hs z2,h4.chg hs z3,h5.chg hs z1,h6.chg hs z2,h7.chg hs z3,h8,h9⟩
theorem SvOk.chg {Z:Nat->Prop} (h:SvOk Pz w0 w B bs bl n va vr pv fv m ps l ho hc) (hs:Chg Z w w') (hz:∀ i,Z i->w0.heap.size <= i/\i≠B/\i≠bs/\i≠bl/\¬ TyB w i 4/\(TyB w i 3->¬ Pz i)):SvOk Pz w0 w' B bs bl n va vr pv fv m ps l ho hc:=by
 have zB:¬ Z B:=fun z=>(hz _ z).2.1 rfl
 have zs:¬ Z bs:=fun z=>(hz _ z).2.2.1 rfl
 have zl:¬ Z bl:=fun z=>(hz _ z).2.2.2.1 rfl
 have za:∀ a,ho=some a->¬ Z a.block:=fun a e z=>(hz _ z).2.2.2.2.2 (by have:=h.aty;rw [e] at this;exact this.ty) (h.aP a e)
 obtain ⟨f,h1,h2⟩:=h.st;obtain ⟨q,h3,h4⟩:=h.li
 refine ⟨⟨Nat.lt_of_lt_of_le h.box.lt hs.size,hs.cell h.box.c0 zB,hs.cell h.box.c1 zB,hs.cell h.box.c2 zB,hs.cell h.box.c3 zB,hs.cell h.box.c4 zB,hs.cell h.box.c5 zB,hs.cell h.box.c6 zB⟩,h.bel.trans (hs.below (fun i z=>(hz i z).1) h.bel.size),h.lo1,h.lo2,h.ne,h.ah.chg hs za,h.aty.chg hs za,fun b hb=>h.up b (Nat.le_trans hs.size hb),h.aP,⟨f,h1.chg hs zs,fun kl v hv=>?_⟩,⟨q,h3.chg hs zl,h4⟩⟩
 obtain ⟨code,e1,e2,e3⟩:=h2 kl v hv;exact ⟨code,e1,e2,e3.chg hs fun i z=>(hz i z).2.2.2.2⟩
theorem StOk.re {Pz':Nat->Prop} {code:Int} {v:Value} (h:StOk Pz w m ps l code v) (hp:∀ b,b < w.heap.size->Pz b->Pz' b):StOk Pz' w m ps l code v:=by
 obtain ⟨lo,lc,no,nc,so,sc,h1,h2,h3,h4,h5,h6,h7,h8,h9⟩:=h;exact ⟨lo,lc,no,nc,so,sc,h1,h2,h3,h4,h5,h6,h7,fun a e=>by subst e;exact hp _ h6.ty.lt (h8 a rfl),fun a e=>by subst e;exact hp _ h7.ty.lt (h9 a rfl)⟩
theorem SvOk.re {Pz':Nat->Prop} (h:SvOk Pz w0 w B bs bl n va vr pv fv m ps l ho hc) (hp:∀ b,b < w.heap.size->Pz b->Pz' b) (hup:∀ b,w.heap.size <= b->Pz' b):SvOk Pz' w0 w B bs bl n va vr pv fv m ps l ho hc:=by
 obtain ⟨f,h1,h2⟩:=h.st;refine ⟨h.box,h.bel,h.lo1,h.lo2,h.ne,h.ah,h.aty,hup,fun a e=>hp _ (by have:=h.aty;rw [e] at this;exact this.ty.lt) (h.aP a e),⟨f,h1,fun kl v hv=>?_⟩,h.li⟩
 obtain ⟨code,e1,e2,e3⟩:=h2 kl v hv;exact ⟨code,e1,e2,e3.re hp⟩
end
end Go.Proofs.YtfnobbpbmelgnaaGreatDoor
namespace Go.Proofs.YtfnobbpbmelgnaaGreatDoor
open Go.ChangeShapes Go.WideShapes Go.ChangeAt Go.RowKit Go.Deep
open Terms Tm
set_option maxHeartbeats 6400000
set_option maxRecDepth 20000
theorem signOf_any (B:Nat) (va vr pv fv lv:Value) (l:List (Int × Int)) (lt:List Bool) (c:Nat) (ho:Option Addr) (hcp bs bl:Nat) (w:World) (hB:0 < w.heap.size) (hT:TabAt w) (hF:OpsV w fv l) (hL:BoolsV w lv lt)
  (hz:endsCode (l.map Prod.fst)=0) (h6:(aheadL l).length <= 6) (htc:tcode l lt (c:Int)=0) (hS:SurvAt w B va vr pv fv (.slice ho (aheadL l).length hcp) bs bl) (hA:IntsV w (.slice ho (aheadL l).length hcp) (aheadL l)) :
  Calls Tryz.prog 85 #[.pointer (some ⟨B,0,none⟩),lv,.int .i64 (c:Int)] w fun e w'=>e=.returned (.tuple #[.int .i64 (sgAt l lt c),.int .i64 0])/\Below w.heap.size w w':=by
 obtain ⟨hne,h60⟩:=ends_ne hz;rw [List.length_map] at h60
 have hl0:0 < l.length:=by
  rcases Nat.eq_zero_or_pos l.length with h0 | h0
  ·rw [List.length_eq_zero_iff.1 h0] at hne
   simp at hne
  ·exact h0
 have htr:Calls Tryz.prog 47 #[fv,lv,.int .i64 (c:Int)] w fun e w'=>∃ b off cp,e=.returned (.tuple #[.slice (some ⟨b,off,none⟩) l.length cp,.int .i64 0])/\Below w.heap.size w w'/\b < w'.heap.size/\Hid (∀ j,j < l.length->w'.cell? ⟨b,off+j,none⟩=some (.bool (tru l lt (c:Int) j))):=by
  refine (ltruths_any fv lv l lt (c:Int) w hB hT hF hL).mono fun e w' ⟨v,h1,h2,h3⟩=>?_
  have t2:truL l lt (c:Int)=(List.range l.length).map (tru l lt (c:Int)):=by unfold truL;rw [if_pos htc]
  rw [t2] at h3;obtain ⟨lo,lc,rfl,hx⟩:=h3;obtain ⟨b,off,rfl,hb,hat⟩:=hx (by intro h0;have:=congrArg List.length h0;rw [List.length_map,List.length_range,List.length_nil] at this;omega)
  refine ⟨b,off,lc,by rw [h1,htc];simp,h2,hb,fun j hj=>?_⟩
  have c0:=hat j (by simpa using hj)
  rw [c0];simp [List.getD_eq_getElem?_getD,hj]
 obtain ⟨fo,fc,rfl,_,hfv⟩:=id hF;obtain ⟨fb,foff,rfl,hfb,hfat⟩:=hfv (by intro h0;rw [h0] at hl0;simp at hl0)
 obtain ⟨lo,lc,rfl,_⟩:=id hL
 have HP:Hid (∀ k,k < (aheadL l).length->∃ p:Nat,(∃ ab aoff,ho=some ⟨ab,aoff,none⟩/\ab < w.heap.size/\w.cell? ⟨ab,aoff+k,none⟩=some (.int .i64 (p:Int)))/\p < l.length/\askP l p < l.length/\w.cell? ⟨fb,foff+p*2,none⟩=some (.int .i64 (l.getD p (0,0)).1)/\((aheadL l).getD k 0).toNat=p):=fun k hk=>by
  obtain ⟨p,h1,h2,h3,_⟩:=aheadTo_get l l.length k hk;obtain ⟨ao2,c2,e1,hah⟩:=hA
  injection e1 with e2 e3 e4
  subst e2;obtain ⟨ab,aoff,rfl,hab,haat⟩:=hah (by intro h0;rw [h0] at hk;simp at hk)
  have h1':(aheadL l).getD k 0=(p:Int):=h1;refine ⟨p,⟨ab,aoff,rfl,hab,by rw [haat k hk,h1']⟩,h2,?_,(hfat p h2).1,by rw [h1'];rfl⟩
  unfold askP
  split
  ·refine (part_in hz h2).1 ?_
   have hk':14 <= (l.getD p (0,0)).1/\(l.getD p (0,0)).1 <= 18:=by simpa [lookB] using h3
   unfold pn
   split
   ·omega
   ·split <;> omega
  ·exact h2
 have HSt:Hid (∀ k,signTo l (tru l lt (c:Int)) (k+1)=signTo l (tru l lt (c:Int)) k+if tru l lt (c:Int) (askP l ((aheadL l).getD k 0).toNat)=true then 2 ^ k else 0):=fun _=>rfl
 have HSb:Hid (∀ k,0 <= signTo l (tru l lt (c:Int)) k/\signTo l (tru l lt (c:Int)) k < 2 ^ k):=signTo_bounds _ _
 have HS0:Hid (signTo l (tru l lt (c:Int)) 0=0):=rfl;unfold sgAt signN;generalize signTo l (tru l lt (c:Int))=sg at *;generalize hth:tru l lt (c:Int)=th at *;obtain ⟨_,s0,s1,s2,s3,s4,s5,s6⟩:=id hS
 have HS:Hid (∀ w1,Below w.heap.size w w1->w1.cell? ⟨B,3,none⟩=some (.slice (some ⟨fb,foff,none⟩) l.length fc)/\w1.cell? ⟨B,4,none⟩=some (.slice ho (aheadL l).length hcp)):=fun w1 h=>⟨(hS.later h).c3,(hS.later h).c4⟩
 have HFb:Hid (fb < w.heap.size):=hfb;generalize (aheadL l).length=an at *;generalize lt.length=ltn at *;generalize hnn:l.length=n at *;clear hT hF hL hz htc hA hfv hfat hnn hth hS hne hfb
 go_enter Tryz.func85,Tryz.ntmps85
 go_wp2_with (first | (go_at_call 47;refine htr.mono ?_;rintro e w1 ⟨b,off,cp,rfl,hb1,hblt,HTb⟩;obtain ⟨q3,q4⟩:=HS.out w1 hb1))
 clear htr
 go_loopw [10,33] (fun x i wr=>∃ k:Nat,k <= an/\i=.int .i64 (k:Int)/\x=.int .i64 (sg k)/\wr=w1) (fun _ i _=>an - (intOf i).toNat)
 case atStart=>exact ⟨0,Nat.zero_le _,rfl,by rw [HS0.out],rfl⟩
 case round=>
  obtain ⟨k,hk,rfl,rfl,rfl⟩:=hrel
  by_cases hlt:k < an
  ·obtain ⟨p,⟨ab,aoff,rfl,hab,hca⟩,hpn,hpa,hpc,hpi⟩:=HP.out k hlt
   have HSk:=(show Hid _ from HSt.out k)
   rw [hpi] at HSk;have d0:=(hb1.cell (p:=⟨ab,aoff+k,none⟩) hab).trans hca;have d1:=(hb1.cell (p:=⟨fb,foff+p*2,none⟩) HFb.out).trans hpc;have d2:=HTb.out (askP l p) hpa;obtain ⟨hm0,hm1⟩:=HSb.out k;have hk6:k < 6:=by omega
   have hps:=pow_small (k:=k) (by omega)
   have h2k:(0:Int) < 2 ^ k:=Int.pow_pos (by decide)
   have HOr:Hid (bits BinOp.or IntKind.i64 (sg k) (2 ^ k)=sg k+2 ^ k):=or_bit hk6 hm0 hm1;have hpi2:(p:Int) < (n:Int):=by omega
   unfold askP at d2 hpa HSk;clear HP HSt HSb hca hpc hpi
   by_cases h14:(l.getD p (0,0)).1=14
   ·rw [if_pos h14] at d2 hpa HSk
    rw [h14] at d1;have hpa2:(p:Int)+1 < (n:Int):=by omega
    clear h14;generalize th (p+1)=tv at *
    cases tv with
    | true=>
     have HS2:Hid (sg (k+1)=sg k+2 ^ k):=by show _=_;rw [HSk.out];simp
     clear HSk
     go_wp2_with fail
     exact ⟨⟨k+1,hlt,by first | rfl | simp,by rw [HS2.out,<- HOr.out],by trivial⟩,by simp [intOf];omega⟩
    | false=>
     have HS2:Hid (sg (k+1)=sg k):=by show _=_;rw [HSk.out];simp
     clear HSk
     go_wp2_with fail
     exact ⟨⟨k+1,hlt,by first | rfl | simp,by rw [HS2.out],by trivial⟩,by simp [intOf];omega⟩
   ·rw [if_neg h14] at d2 hpa HSk
    generalize (l.getD p (0,0)).1=kx at *;generalize th p=tv at *
    cases tv with
    | true=>
     have HS2:Hid (sg (k+1)=sg k+2 ^ k):=by show _=_;rw [HSk.out];simp
     clear HSk
     go_wp2_with fail
     exact ⟨⟨k+1,hlt,by first | rfl | simp,by rw [HS2.out,<- HOr.out],by trivial⟩,by simp [intOf];omega⟩
    | false=>
     have HS2:Hid (sg (k+1)=sg k):=by show _=_;rw [HSk.out];simp
     clear HSk
     go_wp2_with fail
     exact ⟨⟨k+1,hlt,by first | rfl | simp,by rw [HS2.out],by trivial⟩,by simp [intOf];omega⟩
  ·obtain rfl:k=an:=by omega
   go_wp2_with fail
   go_ret2
   exact ⟨rfl,hb1⟩
