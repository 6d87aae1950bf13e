/- Joined texts. -/
import Derived.Test.YtiimhhjkgeepjaaGreatDoorLateA
import Derived.Maps.Own
import Derived.Deep.RegionHeld2
import Derived.Ground.Names2Prog
import Derived.Shelf.Slices.Clone
import Derived.Lib.OwnBridge
import Derived.Laws.OwnMore
namespace Go.Proofs.YtiimhhjkgeepjaaGreatDoor
open Go.ChangeShapes Go.WideShapes Go.ChangeAt Go.RowKit Go.Deep
open Terms
set_option maxHeartbeats 6400000
set_option maxRecDepth 20000
def zAo (w:World) (v:Value) (B:Nat) (av:Value) (l:List (Int × Int)):Prop:=
 ∃ b off cap,v=.slice (some ⟨b,off,none⟩) l.length cap/\b < w.heap.size/\zA4 w b off l/\w.rowIs B 3 l.length (fun q=>.int .i64 (zAi (l.map Prod.fst) q))/\zAD w av (zAA l)
theorem zAo.below {w w':World} {v:Value} {B:Nat} {av:Value} {l:List (Int × Int)} (h:zAo w v B av l) (hb:Below w.heap.size w w'):zAo w' v B av l:=by
 obtain ⟨b,off,cap,h1,h2,h3,h4,h5⟩:=h;exact ⟨b,off,cap,h1,Nat.lt_of_lt_of_le h2 hb.size,h3.below hb h2,zAp h4 hb,h5.below hb⟩
def zBW (l:List (Int × Int)) (claim:Int):Prop:=claim < 0\/2 ^ (zAA l).length <= claim
def zHS (l:List (Int × Int)) (letter:List Bool) (claim:Int) (w:World) (e:Ending) (w':World):Prop:=
 Below w.heap.size w w'/\(zBW l claim->e=.returned (.tuple #[.slice none 0 0,.int .i64 2]))/\(¬ zBW l claim->∃ bH,e=.returned (.tuple #[.slice (some ⟨bH,0,none⟩) l.length l.length,.int .i64 0])/\w'.rowIs bH 4 l.length (fun j=>.bool (tru l letter claim j)))
theorem zFW (v:Value) (B:Nat) (av lv:Value) (l:List (Int × Int)) (letter:List Bool) (claim:Int) (w:World) (hc:zAV letter.length l=0) (hV:zAo w v B av l) (hL:zAQ w lv letter) :
  Calls Tryz.prog 114 #[.agg #[v,.slice (some ⟨B,0,none⟩) l.length l.length,av],lv,.int .i64 claim] w (zHS l letter claim w):=by
 obtain ⟨hp0,hp6,hz,hlf,h6⟩:=zAv hc;obtain ⟨hne,h60⟩:=zCq hz;rw [List.length_map] at h60;obtain ⟨b,off,cap,rfl,hbl,hat,hrow,hav⟩:=hV;obtain ⟨aao,ac,rfl,ha⟩:=id hav;obtain ⟨lo,lc,rfl,hl⟩:=id hL
 by_cases hcl:zBW l claim
 ·exact (zNi _ _ _ _ aao _ ac claim lo _ lc (some ⟨b,off,none⟩) (some ⟨B,0,none⟩) l.length cap l.length l.length rfl rfl rfl rfl h6 w hcl).mono fun e w' ⟨h1,h2⟩=>⟨h2,fun _=>h1,fun h=>absurd hcl h⟩
 ·have h0n:0 < l.length:=by
   cases l with
   | nil=>exact absurd rfl hne
   | cons _ _=>simp
  refine (zO6 b off cap l.length B aao _ ac lo _ lc l letter claim w h0n h60 rfl hz hat hbl hrow rfl hav h6 rfl hL hlf (by unfold zBW at hcl;omega) (by unfold zBW at hcl;omega)).mono fun e w' ⟨bH,h1,h2,h3,_⟩=>⟨h2,fun h=>absurd h hcl,fun _=>⟨bH,h1,h3.out⟩⟩
noncomputable def zBE (l:List (Int × Int)) (letter:List Bool) (claim:Int):Int:=by classical exact if zAV letter.length l=0 then (if zBW l claim then 2 else 0) else zAV letter.length l
noncomputable def zEW (l:List (Int × Int)) (letter:List Bool) (claim:Int):List Bool:=if zBE l letter claim=0 then (List.range l.length).map (tru l letter claim) else []
theorem zEo {l:List (Int × Int)} {letter:List Bool} {claim:Int} (h:zAV letter.length l≠0):zBE l letter claim=zAV letter.length l:=by unfold zBE;rw [if_neg h]
theorem zEg {l:List (Int × Int)} {letter:List Bool} {claim:Int} (h:zAV letter.length l=0) (h2:zBW l claim):zBE l letter claim=2:=by unfold zBE;rw [if_pos h,if_pos h2]
theorem zC5 {l:List (Int × Int)} {letter:List Bool} {claim:Int} (h:zAV letter.length l=0) (h2:¬ zBW l claim):zBE l letter claim=0:=by unfold zBE;rw [if_pos h,if_neg h2]
theorem zNg {w:World} {bH:Nat} {l:List (Int × Int)} {letter:List Bool} {claim:Int} (h:w.rowIs bH 4 l.length (fun j=>.bool (tru l letter claim j))):zAQ w (.slice (some ⟨bH,0,none⟩) l.length l.length) ((List.range l.length).map (tru l letter claim)):=by
 have h2:=zF7 (w:=w) (B:=bH) (l:=(List.range l.length).map (tru l letter claim)) (by
  rw [List.length_map,List.length_range]
  exact h.congr fun j hj=>by simp [List.getD_eq_getElem?_getD,hj])
 rwa [List.length_map,List.length_range] at h2
theorem zKK (v:Value) (l:List (Int × Int)) (props:Int) (w:World) (hB:0 < w.heap.size) (hT:zAJ w) (hV:zAR w v l) :
  Calls Tryz.prog 63 #[v,.int .i64 props] w fun e w'=>Below w.heap.size w w'/\(zAV props l≠0->e=.returned (.tuple #[.agg #[.slice none 0 0,.slice none 0 0,.slice none 0 0],.int .i64 (zAV props l)]))/\(zAV props l=0->∃ B aao ac,e=.returned (.tuple #[.agg #[v,.slice (some ⟨B,0,none⟩) l.length l.length,.slice aao (zAA l).length ac],.int .i64 0])/\Hid (zAo w' v B (.slice aao (zAA l).length ac) l)):=by
 refine (zGJ v l props w hB hT hV).mono fun e w' ⟨h1,h2,h3⟩=>⟨h1,h2,fun hz=>?_⟩
 obtain ⟨B,av,_,he,hrow,ho⟩:=h3 hz;obtain ⟨aao,ac,rfl⟩:=zAU ho;obtain ⟨_,_,hze,_,_⟩:=zAv hz;obtain ⟨hne,_⟩:=zCq hze
 obtain ⟨b,off,hat⟩:∃ b off,(∃ cap,v=.slice (some ⟨b,off,none⟩) l.length cap)/\b < w'.heap.size/\zA4 w' b off l:=by
  obtain ⟨ao,cap,rfl,_,h⟩:=hV.below h1;obtain ⟨b,off,rfl,hlt,hat⟩:=h (by rintro rfl;exact hne rfl)
  exact ⟨b,off,⟨cap,rfl⟩,hlt,hat⟩
 obtain ⟨⟨cap,hv⟩,hlt,hat⟩:=hat;exact ⟨B,aao,ac,he,b,off,cap,hv,hlt,hat,hrow,zBH ho⟩
theorem zHF (v lv:Value) (l:List (Int × Int)) (letter:List Bool) (claim:Int) (w:World) (hB:0 < w.heap.size) (hT:zAJ w) (hV:zAR w v l) (hL:zAQ w lv letter) :
    Calls Tryz.prog 78 #[v,lv,.int .i64 claim] w fun e w'=>∃ v',e=.returned (.tuple #[v',.int .i64 (zBE l letter claim)])/\Below w.heap.size w w'/\zAQ w' v' (zEW l letter claim):=by
  have hrd:=zKK v l letter.length w hB hT hV;obtain ⟨lo,lc,rfl,hl⟩:=id hL;obtain ⟨oo,oc,rfl,_⟩:=id hV
  by_cases hc:zAV letter.length l=0
  · have HM:Hid (∀ w1 B aao ac,Below w.heap.size w w1->zAo w1 (.slice oo l.length oc) B (.slice aao (zAA l).length ac) l->∀ o,Calls Tryz.prog 114 #[.agg #[.slice oo l.length oc,.slice (some ⟨B,0,none⟩) l.length l.length,.slice aao (zAA l).length ac],.slice lo letter.length lc,.int .i64 claim] (w1.alloc o) fun e w'=>∃ ro rn rc,e=.returned (.tuple #[.slice ro rn rc,.int .i64 (zBE l letter claim)])/\Below w1.heap.size w1 w'/\Hid (zAQ w' (.slice ro rn rc) (zEW l letter claim))):=fun w1 B aao ac hb hW o=>by
      have hA:Below w1.heap.size w1 (w1.alloc o):=(Below.refl _ _).alloc (Nat.le_refl _) o;refine (zFW _ B _ _ l letter claim (w1.alloc o) hc (hW.below hA) ((hL.below hb).below hA)).mono fun e w' ⟨h1,h2,h3⟩=>?_
      have h1':=hA.trans (h1.mono hA.size)
      by_cases hn:zBW l claim
      · exact ⟨none,0,0,by rw [zEg hc hn];exact h2 hn,h1',by show zAQ _ _ _;unfold zEW;rw [zEg hc hn];exact ⟨none,0,rfl,fun h=>absurd rfl h⟩⟩
      · obtain ⟨bH,he,hr⟩:=h3 hn
        exact ⟨_,_,_,by rw [zC5 hc hn];exact he,h1',by show zAQ _ _ _;unfold zEW;rw [zC5 hc hn];exact zNg hr⟩
    have hrd2:Calls Tryz.prog 63 #[.slice oo l.length oc,.int .i64 (letter.length:Int)] w fun e w'=>Below w.heap.size w w'/\∃ B aao ac,e=.returned (.tuple #[.agg #[.slice oo l.length oc,.slice (some ⟨B,0,none⟩) l.length l.length,.slice aao (zAA l).length ac],.int .i64 0])/\Hid (zAo w' (.slice oo l.length oc) B (.slice aao (zAA l).length ac) l):=hrd.mono fun e w' ⟨h1,_,h3⟩=>⟨h1,h3 hc⟩
    generalize zBE l letter claim=x at *;generalize zEW l letter claim=res at *;generalize (zAA l).length=an at *;generalize letter.length=ln at *;generalize l.length=n at *;clear hrd hT hV hL hl hc
    go_enter Tryz.func78,Tryz.ntmps78
    go_wp2_with (first | (go_at_call 63;refine hrd2.mono ?_;rintro e w1 ⟨hb1,B,aao,ac,rfl,HW⟩;have hme:=HM.out w1 B aao ac hb1 HW.out) | (go_at_call 114;refine (hme _).mono ?_;rintro e w2 ⟨ro,rn,rc,rfl,hb2,HR⟩))
    go_ret2
    exact ⟨_,rfl,hb1.trans (hb2.mono hb1.size),HR.out⟩
  · have hrd2:Calls Tryz.prog 63 #[.slice oo l.length oc,.int .i64 (letter.length:Int)] w fun e w'=>Below w.heap.size w w'/\e=.returned (.tuple #[.agg #[.slice none 0 0,.slice none 0 0,.slice none 0 0],.int .i64 (zAV letter.length l)]):=hrd.mono fun e w' ⟨h1,h2,_⟩=>⟨h1,h2 hc⟩
    have HX:Hid (zBE l letter claim=zAV letter.length l/\zEW l letter claim=[]):=⟨zEo hc,by unfold zEW;rw [if_neg (by rw [zEo hc];exact hc)]⟩
    rw [HX.out.1,HX.out.2];generalize zAV letter.length l=x at *;generalize letter.length=ln at *;generalize l.length=n at *;clear hrd hT hV hL hl HX
    go_enter Tryz.func78,Tryz.ntmps78
    go_wp2_with (go_at_call 63;refine hrd2.mono ?_;rintro e w1 ⟨hb1,rfl⟩)
    go_ret2
    exact ⟨_,rfl,by first | exact hb1 | exact hb1.alloc hb1.size _,none,0,rfl,fun h=>absurd rfl h⟩
def zBT (k:Int) (a x y:Bool):Bool:=if k=17 then a&&!x else if k=18 then !a&&x else if k=15 then a&&!y else if k=16 then !a&&y else false
def zBm (k:Int) (x y z nx:Bool):Bool:=if k=17 then x||z else if k=18 then x&&z else if k=15 then y||(x&&z) else if k=16 then y&&(x||z) else nx
structure PlaceIn (w:World) (b off n cap B bH:Nat) (l:List (Int × Int)) (h:Nat->Bool) (p:Nat) (kx:Int):Prop where
 n60:n <= 60
 pl:p < n
 one:p+1 < n
 two:kx=15\/kx=16->sec l p < n
 kind:w.cell? ⟨b,off+p*2,none⟩=some (.int .i64 kx)
 bl:b < w.heap.size
 row:∀ j,j < n->w.cell? ⟨bH,j,none⟩=some (.bool (h j))
 hl:bH < w.heap.size
 ends : ∀ j, j < n -> w.cell? ⟨B, j, none⟩ = some (.int .i64 (zAi (l.map Prod.fst) j))
 el:B < w.heap.size
theorem zPL (b off n cap B bH:Nat) (l:List (Int × Int)) (h:Nat->Bool) (p:Nat) (kx:Int) (aao:Option Addr) (an ac:Nat) (w:World) (hI:PlaceIn w b off n cap B bH l h p kx) :
  Calls Tryz.prog 159 #[.agg #[.slice (some ⟨b,off,none⟩) n cap,.slice (some ⟨B,0,none⟩) n n,.slice aao an ac],.int .i64 (p:Int),.slice (some ⟨bH,0,none⟩) n n] w fun e w'=>e=.returned (.bool (zBT kx (h p) (h (p+1)) (h (sec l p))))/\Below w.heap.size w w':=by
 obtain ⟨h60,hp,hp1,hp2,ck,hbl,hrow,hhl,hends,hel⟩:=hI;have hA:∀ o,Below w.heap.size w (w.alloc o):=fun o=>(Below.refl _ _).alloc (Nat.le_refl _) o
 have hpa:=fun o=>zEy b off cap n B bH p _ h l aao an ac rfl (w.alloc o) (fun j hj=>((hA o).cell (p:=⟨bH,j,none⟩) hhl).trans (hrow j hj)) (Nat.lt_of_lt_of_le hhl (hA o).size) (fun j hj=>((hA o).cell (p:=⟨B,j,none⟩) hel).trans (hends j hj)) (Nat.lt_of_lt_of_le hel (hA o).size)
 have hpa:=hpa (.cells #[.slice (some ⟨b,off,none⟩) n cap,.slice (some ⟨B,0,none⟩) n n,.slice aao an ac] 141);simp only [World.size_alloc] at hpa
 have HP2:Hid (∀ w2,Below (w.heap.size+1) (w.alloc (.cells #[.slice (some ⟨b,off,none⟩) n cap,.slice (some ⟨B,0,none⟩) n n,.slice aao an ac] 141)) w2->Below w.heap.size w w2/\w2.cell? ⟨b,off+p*2,none⟩=some (.int .i64 kx)/\w2.cell? ⟨bH,p,none⟩=some (.bool (h p))/\w2.cell? ⟨w.heap.size,0,none⟩=some (.slice (some ⟨b,off,none⟩) n cap)):=fun w2 hb=>by
  have hb2:=(hA _).trans (hb.mono (Nat.le_succ _));exact ⟨hb2,(hb2.cell (p:=⟨b,_,none⟩) hbl).trans ck,(hb2.cell (p:=⟨bH,_,none⟩) hhl).trans (hrow p hp),(hb.cell (p:=⟨w.heap.size,0,none⟩) (by simp)).trans (by simp [go_sem])⟩
 have HF:Hid (∀ w2 bh bf bp,PartsAt w2 bh bf bp bH n B p h l->Calls Tryz.prog 164 #[.pointer (some ⟨bh,0,none⟩),.pointer (some ⟨bp,0,none⟩)] w2 fun e w'=>e=.returned (.bool (h (p+1)))/\w'=w2):=fun w2 bh bf bp hP=>zEu bh bp bH n p _ w2 h60 hp1 hP.holds hP.place (hP.row _ hp1)
 have HS:Hid ((kx=15\/kx=16)->∀ w2 bh bf bp,PartsAt w2 bh bf bp bH n B p h l->Calls Tryz.prog 165 #[.pointer (some ⟨bh,0,none⟩),.pointer (some ⟨bf,0,none⟩),.pointer (some ⟨bp,0,none⟩)] w2 fun e w'=>e=.returned (.bool (h (sec l p)))/\∃ r,w'=w2.drewN r):=fun hk w2 bh bf bp hP=>zFq bh bf bp bH n B p (sec l p) _ w2 h60 hp1 (hp2 hk) hP.holds hP.place hP.ends (hP.erow _ hp1) (hP.row _ (hp2 hk))
 generalize hx:h (p+1)=x at *;generalize hy:h (sec l p)=y at *;generalize hz:h p=z at *;clear hx hy hz hrow hends ck hp2 hA
 by_cases e17:kx=17
 ·subst e17
  rw [show zBT 17 z x y=(z&&!x) by simp [zBT]]
  clear HS
  cases z
  all_goals
   go_enter Tryz.func159,Tryz.ntmps159
   go_wp2_with (first | (go_at_call 155;refine hpa.mono ?_;rintro e w2 ⟨rfl,hb2,HP⟩;obtain ⟨hbw,d0,d1,d2⟩:=HP2.out w2 hb2;have hf:=HF.out w2 _ _ _ HP.out) | (go_at_call 164;refine hf.mono ?_;rintro e w3 ⟨rfl,hw3⟩;obtain rfl:=hw3.symm))
   go_ret
   exact ⟨by first | rfl | simp,by first | exact hbw | exact below_drewN hbw _⟩
 ·by_cases e18:kx=18
  ·subst e18
   rw [show zBT 18 z x y=(!z&&x) by simp [zBT]]
   clear HS
   cases z
   all_goals
    go_enter Tryz.func159,Tryz.ntmps159
    go_wp2_with (first | (go_at_call 155;refine hpa.mono ?_;rintro e w2 ⟨rfl,hb2,HP⟩;obtain ⟨hbw,d0,d1,d2⟩:=HP2.out w2 hb2;have hf:=HF.out w2 _ _ _ HP.out) | (go_at_call 164;refine hf.mono ?_;rintro e w3 ⟨rfl,hw3⟩;obtain rfl:=hw3.symm))
    go_ret
    exact ⟨by first | rfl | simp,by first | exact hbw | exact below_drewN hbw _⟩
  ·by_cases e15:kx=15
   ·subst e15
    rw [show zBT 15 z x y=(z&&!y) by simp [zBT]]
    have HS2:=(show Hid _ from HS.out (by decide))
    clear HS
    cases z
    all_goals
     go_enter Tryz.func159,Tryz.ntmps159
     go_wp2_with (first | (go_at_call 155;refine hpa.mono ?_;rintro e w2 ⟨rfl,hb2,HP⟩;obtain ⟨hbw,d0,d1,d2⟩:=HP2.out w2 hb2;have hs:=HS2.out w2 _ _ _ HP.out) | (go_at_call 165;refine hs.mono ?_;rintro e w3 ⟨rfl,r3,rfl⟩))
     go_ret
     exact ⟨by first | rfl | simp,by first | exact hbw | exact below_drewN hbw _⟩
   ·by_cases e16:kx=16
    ·subst e16
     rw [show zBT 16 z x y=(!z&&y) by simp [zBT]]
     have HS2:=(show Hid _ from HS.out (by decide))
     clear HS
     cases z
     all_goals
      go_enter Tryz.func159,Tryz.ntmps159
      go_wp2_with (first | (go_at_call 155;refine hpa.mono ?_;rintro e w2 ⟨rfl,hb2,HP⟩;obtain ⟨hbw,d0,d1,d2⟩:=HP2.out w2 hb2;have hs:=HS2.out w2 _ _ _ HP.out) | (go_at_call 165;refine hs.mono ?_;rintro e w3 ⟨rfl,r3,rfl⟩))
      go_ret
      exact ⟨by first | rfl | simp,by first | exact hbw | exact below_drewN hbw _⟩
    ·rw [show zBT kx z x y=false by simp [zBT,e17,e18,e15,e16]]
     clear HS
     go_enter Tryz.func159,Tryz.ntmps159
     go_wp2_with (first | (go_at_call 155;refine hpa.mono ?_;rintro e w2 ⟨rfl,hb2,HP⟩;obtain ⟨hbw,d0,d1,d2⟩:=HP2.out w2 hb2))
     go_ret
     exact ⟨rfl,hbw⟩
theorem zNm (bn bp bN n pl:Nat) (x:Bool) (w:World) (hp:pl < n) (c0:w.cell? ⟨bn,0,none⟩=some (.slice (some ⟨bN,0,none⟩) n n)) (c1:w.cell? ⟨bp,0,none⟩=some (.int .i64 pl)) (c2:w.cell? ⟨bN,pl,none⟩=some (.bool x)) :
  Calls Tryz.prog 168 #[.pointer (some ⟨bn,0,none⟩),.pointer (some ⟨bp,0,none⟩)] w fun e w'=>e=.returned (.bool x)/\w'=w:=by
 go_enter Tryz.func168,Tryz.ntmps168
 go_wp2_with fail
 go_ret
 exact ⟨rfl,rfl⟩
def zDk (l:List (Int × Int)) (h:Nat->Bool) (p:Nat):Bool:=zBT (l.getD p (0,0)).1 (h p) (h (p+1)) (h (sec l p))
def zCP (l:List (Int × Int)) (h:Nat->Bool):Nat->Int
 | 0=>0
 | k+1=>zCP l h k+if zDk l h ((zAA l).getD k 0).toNat=true then 0 else 2 ^ k
theorem zGG (l:List (Int × Int)) (h:Nat->Bool):∀ k,0 <= zCP l h k/\zCP l h k < 2 ^ k:=by
 intro k
 induction k with
 | zero=>simp [zCP]
 | succ k ih=>
  have h2:(0:Int) < 2 ^ k:=Int.pow_pos (by decide)
  simp only [zCP];rw [Int.pow_succ]
  split <;> omega
theorem zQO:∀ k,k < 6->∀ c,c < 2 ^ k->bits BinOp.or IntKind.i64 ((c:Nat):Int) (2 ^ k)=((c:Nat):Int)+2 ^ k:=by decide
theorem zPT {c:Int} {k:Nat} (hk:k < 6) (h0:0 <= c) (h1:c < 2 ^ k):bits BinOp.or IntKind.i64 c (2 ^ k)=c+2 ^ k:=by
 obtain ⟨m,rfl⟩:∃ m:Nat,c=m:=⟨c.toNat,by omega⟩
 refine zQO k hk m ?_
 have e:((2 ^ k:Nat):Int)=2 ^ k:=by simp
 omega
theorem zJE {k:Nat} (hk:k <= 6):(2:Int) ^ k <= 64:=by
 have hcase:k=0\/k=1\/k=2\/k=3\/k=4\/k=5\/k=6:=by omega
 rcases hcase with rfl | rfl | rfl | rfl | rfl | rfl | rfl <;> decide
noncomputable def zCW (l:List (Int × Int)) (letter:List Bool) (claim:Int):Int:=if zBE l letter claim=0 then zCP l (tru l letter claim) (zAA l).length else 0
theorem zJw {w:World} {b off cap B bH:Nat} {av:Value} {l:List (Int × Int)} {h:Nat->Bool} (hW:zAo w (.slice (some ⟨b,off,none⟩) l.length cap) B av l) (hz:zAE (l.map Prod.fst)=0) (hr:w.rowIs bH 4 l.length (fun j=>.bool (h j))) {p:Nat} (hp:p < l.length) (hk:zAP (l.getD p (0,0)).1=true):PlaceIn w b off l.length cap B bH l h p (l.getD p (0,0)).1:=by
 obtain ⟨b',off',cap',hv,hbl,hat,hrow,_⟩:=hW
 injection hv with e1 e2 e3
 injection Option.some.inj e1 with e4 e5
 subst e4 e5;obtain ⟨hne,h60⟩:=zCq hz;rw [List.length_map] at h60;obtain ⟨h1,h2⟩:=zDZ hz hp;have hk':14 <= (l.getD p (0,0)).1/\(l.getD p (0,0)).1 <= 18:=by simpa [zAP] using hk
 have hpn:1 <= pn (l.getD p (0,0)).1:=by
  unfold pn
  split
  ·omega
  ·split
   ·omega
   ·omega
 exact ⟨h60,hp,h1 hpn,fun e=>(h2 (by rcases e with e | e <;> rw [e] <;> rfl)).2,(hat p hp).1,hbl,fun j hj=>hr.cell hj,hr.lt,fun j hj=>hrow.cell hj,hrow.lt⟩
theorem zNT (v lv:Value) (l:List (Int × Int)) (letter:List Bool) (claim:Int) (w:World) (hB:0 < w.heap.size) (hT:zAJ w) (hV:zAR w v l) (hL:zAQ w lv letter) :
  Calls Tryz.prog 117 #[v,lv,.int .i64 claim] w fun e w'=>e=.returned (.tuple #[.int .i64 (zCW l letter claim),.int .i64 (zBE l letter claim)])/\Below w.heap.size w w':=by
 have hrd:=zKK v l letter.length w hB hT hV;obtain ⟨lo,lc,rfl,hl⟩:=id hL;obtain ⟨oo,oc,rfl,_⟩:=id hV
 by_cases hc:zAV letter.length l=0
 ·obtain ⟨_,_,hz,_,h6⟩:=zAv hc
  have hrd2:Calls Tryz.prog 63 #[.slice oo l.length oc,.int .i64 (letter.length:Int)] w fun e w'=>Below w.heap.size w w'/\∃ B aao ac,e=.returned (.tuple #[.agg #[.slice oo l.length oc,.slice (some ⟨B,0,none⟩) l.length l.length,.slice aao (zAA l).length ac],.int .i64 0])/\Hid (zAo w' (.slice oo l.length oc) B (.slice aao (zAA l).length ac) l):=hrd.mono fun e w' ⟨h1,_,h3⟩=>⟨h1,h3 hc⟩
  have HM:Hid (∀ w1 B aao ac,Below w.heap.size w w1->zAo w1 (.slice oo l.length oc) B (.slice aao (zAA l).length ac) l->Calls Tryz.prog 114 #[.agg #[.slice oo l.length oc,.slice (some ⟨B,0,none⟩) l.length l.length,.slice aao (zAA l).length ac],.slice lo letter.length lc,.int .i64 claim] (w1.alloc (.cells #[.slice oo l.length oc,.slice (some ⟨B,0,none⟩) l.length l.length,.slice aao (zAA l).length ac] 141)) fun e w'=>Below (w1.heap.size+1) (w1.alloc (.cells #[.slice oo l.length oc,.slice (some ⟨B,0,none⟩) l.length l.length,.slice aao (zAA l).length ac] 141)) w'/\(zBW l claim->e=.returned (.tuple #[.slice none 0 0,.int .i64 2]))/\(¬ zBW l claim->∃ bH,e=.returned (.tuple #[.slice (some ⟨bH,0,none⟩) l.length l.length,.int .i64 0])/\Hid (w'.rowIs bH 4 l.length (fun j=>.bool (tru l letter claim j))))):=fun w1 B aao ac hb hW=>by
   have hA:∀ o,Below w1.heap.size w1 (w1.alloc o):=fun o=>(Below.refl _ _).alloc (Nat.le_refl _) o
   refine (zFW _ B _ _ l letter claim (w1.alloc _) hc (hW.below (hA _)) ((hL.below hb).below (hA _))).mono fun e w' ⟨h1,h2,h3⟩=>⟨?_,h2,h3⟩
   simpa using h1
  by_cases hcl:zBW l claim
  ·have htc:zBE l letter claim=2:=zEg hc hcl
   rw [htc,show zCW l letter claim=0 by unfold zCW;rw [htc];rfl]
   have HM2:Hid (∀ w1 B aao ac,Below w.heap.size w w1->zAo w1 (.slice oo l.length oc) B (.slice aao (zAA l).length ac) l->Calls Tryz.prog 114 #[.agg #[.slice oo l.length oc,.slice (some ⟨B,0,none⟩) l.length l.length,.slice aao (zAA l).length ac],.slice lo letter.length lc,.int .i64 claim] (w1.alloc (.cells #[.slice oo l.length oc,.slice (some ⟨B,0,none⟩) l.length l.length,.slice aao (zAA l).length ac] 141)) fun e w'=>e=.returned (.tuple #[.slice none 0 0,.int .i64 2])/\Below w1.heap.size w1 w'):=fun w1 B aao ac hb hW=>(HM.out w1 B aao ac hb hW).mono fun e w' ⟨h1,h2,_⟩=>⟨h2 hcl,((Below.refl _ _).alloc (Nat.le_refl _) _).trans (h1.mono (Nat.le_succ _))⟩
   generalize (zAA l).length=an at *;generalize letter.length=ln at *;generalize l.length=n at *;clear hrd hT hV hL hl hc HM hcl htc hz h6
   go_enter Tryz.func117,Tryz.ntmps117
   go_wp2_with (first | (go_at_call 63;refine hrd2.mono ?_;rintro e w1 ⟨hb1,B,aao,ac,rfl,HW⟩;have hme:=HM2.out w1 B aao ac hb1 HW.out) | (go_at_call 114;refine hme.mono ?_;rintro e w2 ⟨rfl,hb2⟩))
   go_ret2
   exact ⟨rfl,hb1.trans (hb2.mono hb1.size)⟩
  ·have htc:zBE l letter claim=0:=zC5 hc hcl
   rw [htc,show zCW l letter claim=zCP l (tru l letter claim) (zAA l).length by unfold zCW;rw [htc];rfl]
   have HM2:Hid (∀ w1 B aao ac,Below w.heap.size w w1->zAo w1 (.slice oo l.length oc) B (.slice aao (zAA l).length ac) l->Calls Tryz.prog 114 #[.agg #[.slice oo l.length oc,.slice (some ⟨B,0,none⟩) l.length l.length,.slice aao (zAA l).length ac],.slice lo letter.length lc,.int .i64 claim] (w1.alloc (.cells #[.slice oo l.length oc,.slice (some ⟨B,0,none⟩) l.length l.length,.slice aao (zAA l).length ac] 141)) fun e w'=>∃ bH,e=.returned (.tuple #[.slice (some ⟨bH,0,none⟩) l.length l.length,.int .i64 0])/\Below w1.heap.size w1 w'/\w1.heap.size < w'.heap.size/\w'.cell? ⟨w1.heap.size,0,none⟩=some (.slice oo l.length oc)/\w'.cell? ⟨w1.heap.size,1,none⟩=some (.slice (some ⟨B,0,none⟩) l.length l.length)/\w'.cell? ⟨w1.heap.size,2,none⟩=some (.slice aao (zAA l).length ac)/\Hid (zAo w' (.slice oo l.length oc) B (.slice aao (zAA l).length ac) l/\w'.rowIs bH 4 l.length (fun j=>.bool (tru l letter claim j)))):=fun w1 B aao ac hb hW=>(HM.out w1 B aao ac hb hW).mono fun e w' ⟨h1,_,h3⟩=>by
    obtain ⟨bH,he,hr⟩:=h3 hcl;have hb':Below w1.heap.size w1 w':=((Below.refl _ _).alloc (Nat.le_refl _) _).trans (h1.mono (Nat.le_succ _))
    refine ⟨bH,he,hb',by have:=h1.size;simp at this;omega,(h1.cell (p:=⟨w1.heap.size,0,none⟩) (Nat.lt_succ_self _)).trans (by simp [go_sem]),(h1.cell (p:=⟨w1.heap.size,1,none⟩) (Nat.lt_succ_self _)).trans (by simp [go_sem]),(h1.cell (p:=⟨w1.heap.size,2,none⟩) (Nat.lt_succ_self _)).trans (by simp [go_sem]),hW.below hb',hr.out⟩
   have HWa:Hid (∀ w2 B bH aao ac p,zAo w2 (.slice oo l.length oc) B (.slice aao (zAA l).length ac) l->w2.rowIs bH 4 l.length (fun j=>.bool (tru l letter claim j))->p < l.length->zAP (l.getD p (0,0)).1=true->Calls Tryz.prog 159 #[.agg #[.slice oo l.length oc,.slice (some ⟨B,0,none⟩) l.length l.length,.slice aao (zAA l).length ac],.int .i64 (p:Int),.slice (some ⟨bH,0,none⟩) l.length l.length] w2 fun e w'=>e=.returned (.bool (zDk l (tru l letter claim) p))/\Below w2.heap.size w2 w'):=fun w2 B bH aao ac p hW hr hp hk=>by
    obtain ⟨b,off,cap,hv,_⟩:=id hW
    injection hv with e1 e2 e3
    subst e1 e3;exact zPL b off l.length oc B bH l _ p _ aao _ ac w2 (zJw hW hz hr hp hk)
   have HG:Hid (∀ w2 B aao ac k,zAo w2 (.slice oo l.length oc) B (.slice aao (zAA l).length ac) l->k < (zAA l).length->∃ p:Nat,(∃ ab aoff,aao=some ⟨ab,aoff,none⟩/\w2.cell? ⟨ab,aoff+k,none⟩=some (.int .i64 (p:Int)))/\p < l.length/\zAP (l.getD p (0,0)).1=true/\((zAA l).getD k 0).toNat=p):=fun w2 B aao ac k hW hk=>by
    obtain ⟨_,_,_,_,_,_,_,ao',ac',hsl,hai⟩:=hW
    injection hsl with e1 e2 e3
    subst e1;obtain ⟨ab,aoff,rfl,habl,haat⟩:=hai (by intro h;rw [h] at hk;simp at hk)
    obtain ⟨p,h1,h2,h3,h4⟩:=zCV l l.length k hk;have h1':(zAA l).getD k 0=(p:Int):=h1;exact ⟨p,⟨ab,aoff,rfl,by rw [haat k hk,h1']⟩,h2,h3,by rw [h1'];rfl⟩
   have HMS:Hid (∀ k,zCP l (tru l letter claim) (k+1)=zCP l (tru l letter claim) k+if zDk l (tru l letter claim) ((zAA l).getD k 0).toNat=true then 0 else 2 ^ k):=fun _=>rfl
   have HMB:Hid (∀ k,0 <= zCP l (tru l letter claim) k/\zCP l (tru l letter claim) k < 2 ^ k):=zGG _ _
   have HM0:Hid (zCP l (tru l letter claim) 0=0):=rfl;generalize zCP l (tru l letter claim)=mt at *;generalize hwt:zDk l (tru l letter claim)=wt at *;clear hwt;obtain ⟨an,han⟩:∃ an,an=(zAA l).length:=⟨_,rfl⟩
   rw [<- han] at hrd2 HM2 HWa HG h6 ⊢;generalize hnn:l.length=n at *;generalize letter.length=ln at *;clear hrd hT hV hL hl hc HM hcl htc hz hnn han
   go_enter Tryz.func117,Tryz.ntmps117
   go_wp2_with (first | (go_at_call 63;refine hrd2.mono ?_;rintro e w1 ⟨hb1,B,aao,ac,rfl,HW⟩;have hme:=HM2.out w1 B aao ac hb1 HW.out) | (go_at_call 114;refine hme.mono ?_;rintro e w2 ⟨bH,rfl,hb2,hs2,d0,d1,d2,HW2⟩))
   have hb12:=hb1.trans (hb2.mono hb1.size);clear hrd2 hme HM2 HW
   go_loopw [11,37] (fun mv i wr=>∃ k:Nat,k <= an/\i=.int .i64 (k:Int)/\mv=.int .i64 (mt k)/\Hid (Below w2.heap.size w2 wr)) (fun _ i _=>an - (intOf i).toNat)
   case atStart=>exact ⟨0,Nat.zero_le _,rfl,by rw [HM0.out],Below.refl _ _⟩
   case round=>
    obtain ⟨k,hk,rfl,rfl,HBel⟩:=hrel;have hbel:=HBel.out;have d0':=(hbel.cell (p:=⟨w1.heap.size,0,none⟩) hs2).trans d0;have d1':=(hbel.cell (p:=⟨w1.heap.size,1,none⟩) hs2).trans d1;have d2':=(hbel.cell (p:=⟨w1.heap.size,2,none⟩) hs2).trans d2
    by_cases hlt:k < an
    ·have hWr:=HW2.out.1.below hbel
     obtain ⟨p,⟨ab,aoff,rfl,hca⟩,hpn,hpk,hpi⟩:=HG.out wr B aao ac k hWr hlt;have hwa:=HWa.out wr B bH _ ac p hWr (zAp HW2.out.2 hbel) hpn hpk;have HS:=(show Hid _ from HMS.out k)
     rw [hpi] at HS;obtain ⟨hm0,hm1⟩:=HMB.out k;have hk6:k < 6:=by omega
     have hps:=zJE (k:=k) (by omega)
     have h2k:(0:Int) < 2 ^ k:=Int.pow_pos (by decide)
     have HOr:Hid (bits BinOp.or IntKind.i64 (mt k) (2 ^ k)=mt k+2 ^ k):=zPT hk6 hm0 hm1;generalize wt p=wv at *;clear HWa HG HMS HMB hpi hpk HW2 hWr
     cases wv with
     | true=>
      have HS2:Hid (mt (k+1)=mt k):=by show _=_;rw [HS.out];simp
      clear HS
      go_wp2_with (go_at_call 159;refine hwa.mono ?_;rintro e w3 ⟨rfl,hb3⟩)
      exact ⟨⟨k+1,hlt,by first | rfl | simp,by rw [HS2.out],hbel.trans (hb3.mono hbel.size)⟩,by simp [intOf];omega⟩
     | false=>
      have HS2:Hid (mt (k+1)=mt k+2 ^ k):=by show _=_;rw [HS.out];simp
      clear HS
      go_wp2_with (go_at_call 159;refine hwa.mono ?_;rintro e w3 ⟨rfl,hb3⟩)
      exact ⟨⟨k+1,hlt,by first | rfl | simp,by rw [HS2.out,<- HOr.out],hbel.trans (hb3.mono hbel.size)⟩,by simp [intOf];omega⟩
    ·obtain rfl:k=an:=by omega
     go_wp2_with fail
     go_ret2
     exact ⟨rfl,hb12.trans (hbel.mono hb12.size)⟩
 ·have htc:=zEo (claim:=claim) hc
  rw [htc,show zCW l letter claim=0 by unfold zCW;rw [htc,if_neg hc]]
  have hrd2:Calls Tryz.prog 63 #[.slice oo l.length oc,.int .i64 (letter.length:Int)] w fun e w'=>Below w.heap.size w w'/\e=.returned (.tuple #[.agg #[.slice none 0 0,.slice none 0 0,.slice none 0 0],.int .i64 (zAV letter.length l)]):=hrd.mono fun e w' ⟨h1,h2,_⟩=>⟨h1,h2 hc⟩
  generalize zAV letter.length l=x at *;generalize letter.length=ln at *;generalize l.length=n at *;clear hrd hT hV hL hl htc
  go_enter Tryz.func117,Tryz.ntmps117
  go_wp2_with (go_at_call 63;refine hrd2.mono ?_;rintro e w1 ⟨hb1,rfl⟩)
  go_ret2
  exact ⟨rfl,by first | exact hb1 | exact hb1.alloc hb1.size _⟩
theorem zOc (b off n cap B bH bN:Nat) (l:List (Int × Int)) (h g:Nat->Bool) (p:Nat) (kx:Int) (aao:Option Addr) (an ac:Nat) (w:World) (hI:PlaceIn w b off n cap B bH l h p kx) (hN:∀ j,j < n->w.cell? ⟨bN,j,none⟩=some (.bool (g j))) (hNl:bN < w.heap.size) :
  Calls Tryz.prog 166 #[.agg #[.slice (some ⟨b,off,none⟩) n cap,.slice (some ⟨B,0,none⟩) n n,.slice aao an ac],.int .i64 (p:Int),.slice (some ⟨bH,0,none⟩) n n,.slice (some ⟨bN,0,none⟩) n n] w fun e w'=>e=.returned (.bool (zBm kx (h (p+1)) (h (sec l p)) (g p) (g (p+1))))/\Below w.heap.size w w':=by
 obtain ⟨h60,hp,hp1,hp2,ck,hbl,hrow,hhl,hends,hel⟩:=hI;have hA:Below w.heap.size w (((w.alloc (.cells #[.slice (some ⟨b,off,none⟩) n cap,.slice (some ⟨B,0,none⟩) n n,.slice aao an ac] 141)).alloc (.cells #[.int .i64 (p:Int)] 3)).alloc (.cells #[.slice (some ⟨bN,0,none⟩) n n] 104)):=(((Below.refl _ _).alloc (Nat.le_refl _) _).alloc (by simp) _).alloc (by simp;omega) _
 have hpa:=zEy b off cap n B bH p _ h l aao an ac rfl (((w.alloc (.cells #[.slice (some ⟨b,off,none⟩) n cap,.slice (some ⟨B,0,none⟩) n n,.slice aao an ac] 141)).alloc (.cells #[.int .i64 (p:Int)] 3)).alloc (.cells #[.slice (some ⟨bN,0,none⟩) n n] 104)) (fun j hj=>(hA.cell (p:=⟨bH,j,none⟩) hhl).trans (hrow j hj)) (Nat.lt_of_lt_of_le hhl hA.size) (fun j hj=>(hA.cell (p:=⟨B,j,none⟩) hel).trans (hends j hj)) (Nat.lt_of_lt_of_le hel hA.size)
 simp only [World.size_alloc] at hpa
 have HP2:Hid (∀ w2,Below (w.heap.size+1+1+1) (((w.alloc (.cells #[.slice (some ⟨b,off,none⟩) n cap,.slice (some ⟨B,0,none⟩) n n,.slice aao an ac] 141)).alloc (.cells #[.int .i64 (p:Int)] 3)).alloc (.cells #[.slice (some ⟨bN,0,none⟩) n n] 104)) w2->Below w.heap.size w w2/\w2.cell? ⟨b,off+p*2,none⟩=some (.int .i64 kx)/\w2.cell? ⟨w.heap.size,0,none⟩=some (.slice (some ⟨b,off,none⟩) n cap)/\w2.cell? ⟨w.heap.size,1,none⟩=some (.slice (some ⟨B,0,none⟩) n n)/\w2.cell? ⟨w.heap.size,2,none⟩=some (.slice aao an ac)/\w2.cell? ⟨w.heap.size+1,0,none⟩=some (.int .i64 (p:Int))/\w2.cell? ⟨w.heap.size+1+1,0,none⟩=some (.slice (some ⟨bN,0,none⟩) n n)):=fun w2 hb=>by
  have hb2:=hA.trans (hb.mono (by omega))
  refine ⟨hb2,(hb2.cell (p:=⟨b,_,none⟩) hbl).trans ck,(hb.cell (p:=⟨w.heap.size,0,none⟩) (by first | (simp;omega) | simp)).trans (by simp [go_sem]),(hb.cell (p:=⟨w.heap.size,1,none⟩) (by first | (simp;omega) | simp)).trans (by simp [go_sem]),(hb.cell (p:=⟨w.heap.size,2,none⟩) (by first | (simp;omega) | simp)).trans (by simp [go_sem]),(hb.cell (p:=⟨w.heap.size+1,0,none⟩) (by first | (simp;omega) | simp)).trans (by simp [go_sem]),(hb.cell (p:=⟨w.heap.size+1+1,0,none⟩) (by simp)).trans (by simp [go_sem])⟩
 have HF:Hid (∀ w2 bh bf bp,PartsAt w2 bh bf bp bH n B p h l->∀ w3,(∀ q,w3.cell? q=w2.cell? q)->Calls Tryz.prog 164 #[.pointer (some ⟨bh,0,none⟩),.pointer (some ⟨bp,0,none⟩)] w3 fun e w'=>e=.returned (.bool (h (p+1)))/\w'=w3):=fun w2 bh bf bp hP w3 hc=>zEu bh bp bH n p _ w3 h60 hp1 ((hc _).trans hP.holds) ((hc _).trans hP.place) ((hc _).trans (hP.row _ hp1))
 have HS:Hid ((kx=15\/kx=16)->∀ w2 bh bf bp,PartsAt w2 bh bf bp bH n B p h l->Calls Tryz.prog 165 #[.pointer (some ⟨bh,0,none⟩),.pointer (some ⟨bf,0,none⟩),.pointer (some ⟨bp,0,none⟩)] w2 fun e w'=>e=.returned (.bool (h (sec l p)))/\∃ r,w'=w2.drewN r):=fun hk w2 bh bf bp hP=>zFq bh bf bp bH n B p (sec l p) _ w2 h60 hp1 (hp2 hk) hP.holds hP.place hP.ends (hP.erow _ hp1) (hP.row _ (hp2 hk))
 have HZ:Hid (∀ w2,Below w.heap.size w w2->w2.cell? ⟨w.heap.size+1,0,none⟩=some (.int .i64 (p:Int))->w2.cell? ⟨w.heap.size+1+1,0,none⟩=some (.slice (some ⟨bN,0,none⟩) n n)->∀ w3,(∀ q,w3.cell? q=w2.cell? q)->Calls Tryz.prog 168 #[.pointer (some ⟨w.heap.size+1+1,0,none⟩),.pointer (some ⟨w.heap.size+1,0,none⟩)] w3 fun e w'=>e=.returned (.bool (g p))/\w'=w3):=fun w2 hb c1 c2 w3 hc=>zNm _ _ bN n p _ w3 hp ((hc _).trans c2) ((hc _).trans c1) ((hc _).trans ((hb.cell (p:=⟨bN,p,none⟩) hNl).trans (hN p hp)))
 have HPN:Hid (∀ w2,Below w.heap.size w w2->Calls Tryz.prog 155 #[.agg #[.slice (some ⟨b,off,none⟩) n cap,.slice (some ⟨B,0,none⟩) n n,.slice aao an ac],.int .i64 (p:Int),.slice (some ⟨bN,0,none⟩) n n] w2 fun e w'=>e=.returned (.tuple #[.func (.func 164) #[] #[.pointer (some ⟨w2.heap.size+1+1,0,none⟩),.pointer (some ⟨w2.heap.size+1,0,none⟩)],.func (.func 165) #[] #[.pointer (some ⟨w2.heap.size+1+1,0,none⟩),.pointer (some ⟨w2.heap.size,0,none⟩),.pointer (some ⟨w2.heap.size+1,0,none⟩)]])/\Below w.heap.size w w'/\Hid (Calls Tryz.prog 164 #[.pointer (some ⟨w2.heap.size+1+1,0,none⟩),.pointer (some ⟨w2.heap.size+1,0,none⟩)] w' fun e w''=>e=.returned (.bool (g (p+1)))/\w''=w')):=fun w2 hb=>by
  refine (zEy b off cap n B bN p _ g l aao an ac rfl w2 (fun j hj=>(hb.cell (p:=⟨bN,j,none⟩) hNl).trans (hN j hj)) (Nat.lt_of_lt_of_le hNl hb.size) (fun j hj=>(hb.cell (p:=⟨B,j,none⟩) hel).trans (hends j hj)) (Nat.lt_of_lt_of_le hel hb.size)).mono fun e w' ⟨h1,h2,h3⟩=>⟨h1,hb.trans (h2.mono hb.size),?_⟩
  exact zEu _ _ bN n p _ w' h60 hp1 h3.out.holds h3.out.place (h3.out.row _ hp1)
 generalize hx:h (p+1)=x at *;generalize hy:h (sec l p)=y at *;generalize hz:g p=z at *;generalize hnx:g (p+1)=nx at *;clear hx hy hz hnx hrow hends ck hp2 hN
 by_cases e17:kx=17
 ·subst e17
  rw [show zBm 17 x y z nx=(x||z) by simp [zBm]]
  clear HS HPN
  cases x
  all_goals
   go_enter Tryz.func166,Tryz.ntmps166
   go_wp2_with (first | (go_at_call 155;refine hpa.mono ?_;clear hpa;rintro e w2 ⟨rfl,hb2,HP⟩;obtain ⟨hbw,d0,d1,d2,d3,d4,d5⟩:=HP2.out w2 hb2;have hf:=HF.out w2 _ _ _ HP.out;have hit:=HZ.out w2 hbw d4 d5) | (go_at_call 164;refine (hf _ (by first | exact fun _=>rfl | (intro q;simp))).mono ?_;rintro e w3 ⟨rfl,hw3⟩;obtain rfl:=hw3.symm) | (go_at_call 168;refine (hit _ (by first | exact fun _=>rfl | (intro q;simp))).mono ?_;rintro e w3 ⟨rfl,hw3⟩;obtain rfl:=hw3.symm))
   go_ret
   exact ⟨by first | rfl | simp,by first | exact hbw | exact below_drewN hbw _⟩
 ·by_cases e18:kx=18
  ·subst e18
   rw [show zBm 18 x y z nx=(x&&z) by simp [zBm]]
   clear HS HPN
   cases x
   all_goals
    go_enter Tryz.func166,Tryz.ntmps166
    go_wp2_with (first | (go_at_call 155;refine hpa.mono ?_;clear hpa;rintro e w2 ⟨rfl,hb2,HP⟩;obtain ⟨hbw,d0,d1,d2,d3,d4,d5⟩:=HP2.out w2 hb2;have hf:=HF.out w2 _ _ _ HP.out;have hit:=HZ.out w2 hbw d4 d5) | (go_at_call 164;refine (hf _ (by first | exact fun _=>rfl | (intro q;simp))).mono ?_;rintro e w3 ⟨rfl,hw3⟩;obtain rfl:=hw3.symm) | (go_at_call 168;refine (hit _ (by first | exact fun _=>rfl | (intro q;simp))).mono ?_;rintro e w3 ⟨rfl,hw3⟩;obtain rfl:=hw3.symm))
    go_ret
    exact ⟨by first | rfl | simp,by first | exact hbw | exact below_drewN hbw _⟩
  ·by_cases e15:kx=15
   ·subst e15
    rw [show zBm 15 x y z nx=(y||(x&&z)) by simp [zBm]]
    have HS2:=(show Hid _ from HS.out (by decide))
    clear HS HPN
    cases x <;> cases y
    all_goals
     go_enter Tryz.func166,Tryz.ntmps166
     go_wp2_with (first | (go_at_call 155;refine hpa.mono ?_;clear hpa;rintro e w2 ⟨rfl,hb2,HP⟩;obtain ⟨hbw,d0,d1,d2,d3,d4,d5⟩:=HP2.out w2 hb2;have hf:=HF.out w2 _ _ _ HP.out;have hs:=HS2.out w2 _ _ _ HP.out;have hit:=HZ.out w2 hbw d4 d5) | (go_at_call 164;refine (hf _ (by first | exact fun _=>rfl | (intro q;simp))).mono ?_;rintro e w3 ⟨rfl,hw3⟩;obtain rfl:=hw3.symm) | (go_at_call 165;refine hs.mono ?_;rintro e w3 ⟨rfl,r3,rfl⟩) | (go_at_call 168;refine (hit _ (by first | exact fun _=>rfl | (intro q;simp))).mono ?_;rintro e w3 ⟨rfl,hw3⟩;obtain rfl:=hw3.symm))
     go_ret
     exact ⟨by first | rfl | simp,by first | exact hbw | exact below_drewN hbw _⟩
   ·by_cases e16:kx=16
    ·subst e16
     rw [show zBm 16 x y z nx=(y&&(x||z)) by simp [zBm]]
     have HS2:=(show Hid _ from HS.out (by decide))
     clear HS HPN
     cases x <;> cases y
     all_goals
      go_enter Tryz.func166,Tryz.ntmps166
      go_wp2_with (first | (go_at_call 155;refine hpa.mono ?_;clear hpa;rintro e w2 ⟨rfl,hb2,HP⟩;obtain ⟨hbw,d0,d1,d2,d3,d4,d5⟩:=HP2.out w2 hb2;have hf:=HF.out w2 _ _ _ HP.out;have hs:=HS2.out w2 _ _ _ HP.out;have hit:=HZ.out w2 hbw d4 d5) | (go_at_call 164;refine (hf _ (by first | exact fun _=>rfl | (intro q;simp))).mono ?_;rintro e w3 ⟨rfl,hw3⟩;obtain rfl:=hw3.symm) | (go_at_call 165;refine hs.mono ?_;rintro e w3 ⟨rfl,r3,rfl⟩) | (go_at_call 168;refine (hit _ (by first | exact fun _=>rfl | (intro q;simp))).mono ?_;rintro e w3 ⟨rfl,hw3⟩;obtain rfl:=hw3.symm))
      go_ret
      exact ⟨by first | rfl | simp,by first | exact hbw | exact below_drewN hbw _⟩
    ·rw [show zBm kx x y z nx=nx by simp [zBm,e17,e18,e15,e16]]
     clear HS HF HZ
     go_enter Tryz.func166,Tryz.ntmps166
     go_wp2_with (first | (go_at_call 155;refine hpa.mono ?_;clear hpa;rintro e w2 ⟨rfl,hb2,HP⟩;obtain ⟨hbw,d0,d1,d2,d3,d4,d5⟩:=HP2.out w2 hb2;have hpn:=HPN.out w2 hbw) | (go_at_call 155;refine hpn.mono ?_;rintro e w4 ⟨rfl,hb4,HF4⟩) | (go_at_call 164;refine HF4.out.mono ?_;rintro e w5 ⟨rfl,hw5⟩;obtain rfl:=hw5.symm))
     go_ret
     exact ⟨rfl,hb4⟩
def zEa (l:List (Int × Int)) (h g:Nat->Bool) (p:Nat):Bool:=zBm (l.getD p (0,0)).1 (h (p+1)) (h (sec l p)) (g p) (g (p+1))
def Fol (l:List (Int × Int)) (h g:Nat->Bool):Prop:=∀ p,p < l.length->zAP (l.getD p (0,0)).1=true->h p=zEa l h g p
noncomputable def zBn (l:List (Int × Int)) (now:List Bool) (claim:Int) (next:List Bool) (later:Int):Int:=if now.length≠next.length then 1 else if zBE l now claim≠0 then zBE l now claim else zBE l next later
open Classical in
noncomputable def zBM (l:List (Int × Int)) (now:List Bool) (claim:Int) (next:List Bool) (later:Int):Bool:=if zBn l now claim next later=0 then decide (Fol l (tru l now claim) (tru l next later)) else false
theorem zFT {l:List (Int × Int)} {now:List Bool} {claim:Int} {next:List Bool} {later:Int} (h:zBn l now claim next later≠0):zBM l now claim next later=false:=by unfold zBM;rw [if_neg h]
open Classical in
theorem zKp {l:List (Int × Int)} {now:List Bool} {claim:Int} {next:List Bool} {later:Int} (h:zBn l now claim next later=0) (h2:Fol l (tru l now claim) (tru l next later)):zBM l now claim next later=true:=by unfold zBM;rw [if_pos h];exact decide_eq_true h2
open Classical in
theorem zMQ {l:List (Int × Int)} {now:List Bool} {claim:Int} {next:List Bool} {later:Int} (h2:¬ Fol l (tru l now claim) (tru l next later)):zBM l now claim next later=false:=by
 unfold zBM
 split
 ·exact decide_eq_false h2
 ·rfl
theorem zRs (v:Value) (no xo:Option Addr) (nn nc xn xc:Nat) (claim later:Int) (oo:Option Addr) (on oc:Nat) (hv:v=.slice oo on oc) (w:World) (h:nn≠xn) :
  Calls Tryz.prog 158 #[v,.slice no nn nc,.int .i64 claim,.slice xo xn xc,.int .i64 later] w fun e w'=>e=.returned (.tuple #[.bool false,.int .i64 1])/\Below w.heap.size w w':=by
 subst hv;have hne:¬ (nn:Int)=xn:=by omega
 clear h
 go_enter Tryz.func158,Tryz.ntmps158
 go_wp2_with fail
 go_ret2
 exact ⟨rfl,Below.refl _ _⟩
theorem zP0 (oo:Option Addr) (oc:Nat) (l:List (Int × Int)) (no xo:Option Addr) (nc xc:Nat) (now next:List Bool) (claim later:Int) (w:World) (hB:0 < w.heap.size) (hT:zAJ w) (hV:zAR w (.slice oo l.length oc) l) (hL:zAQ w (.slice no now.length nc) now) (hX:zAQ w (.slice xo next.length xc) next) (hlen:now.length=next.length) :
  Calls Tryz.prog 158 #[.slice oo l.length oc,.slice no now.length nc,.int .i64 claim,.slice xo next.length xc,.int .i64 later] w fun e w'=>e=.returned (.tuple #[.bool (zBM l now claim next later),.int .i64 (zBn l now claim next later)])/\Below w.heap.size w w':=by
 have hrd:=zKK _ l now.length w hB hT hV
 by_cases hc:zAV now.length l=0
 ·obtain ⟨_,_,hz,_,h6⟩:=zAv hc
  have hcx:zAV next.length l=0:=by rw [<- hlen];exact hc
  have hrd2:Calls Tryz.prog 63 #[.slice oo l.length oc,.int .i64 (now.length:Int)] w fun e w'=>Below w.heap.size w w'/\∃ B aao ac,e=.returned (.tuple #[.agg #[.slice oo l.length oc,.slice (some ⟨B,0,none⟩) l.length l.length,.slice aao (zAA l).length ac],.int .i64 0])/\Hid (zAo w' (.slice oo l.length oc) B (.slice aao (zAA l).length ac) l):=hrd.mono fun e w' ⟨h1,_,h3⟩=>⟨h1,h3 hc⟩
  have HM:Hid (∀ w1 B aao ac,Below w.heap.size w w1->zAo w1 (.slice oo l.length oc) B (.slice aao (zAA l).length ac) l->Calls Tryz.prog 114 #[.agg #[.slice oo l.length oc,.slice (some ⟨B,0,none⟩) l.length l.length,.slice aao (zAA l).length ac],.slice no now.length nc,.int .i64 claim] w1 (zHS l now claim w1)):=fun w1 B aao ac hb hW=>zFW _ B _ _ l now claim w1 hc hW (hL.below hb)
  have HM2:Hid (∀ w1 B aao ac,Below w.heap.size w w1->zAo w1 (.slice oo l.length oc) B (.slice aao (zAA l).length ac) l->Calls Tryz.prog 114 #[.agg #[.slice oo l.length oc,.slice (some ⟨B,0,none⟩) l.length l.length,.slice aao (zAA l).length ac],.slice xo next.length xc,.int .i64 later] w1 (zHS l next later w1)):=fun w1 B aao ac hb hW=>zFW _ B _ _ l next later w1 hcx hW (hX.below hb)
  have HWA:Hid (∀ w1 B aao ac,zAo w1 (.slice oo l.length oc) B (.slice aao (zAA l).length ac) l->∀ o,zAo (w1.alloc o) (.slice oo l.length oc) B (.slice aao (zAA l).length ac) l):=fun w1 B aao ac hW o=>hW.below ((Below.refl _ _).alloc (Nat.le_refl _) o)
  by_cases hcl:zBW l claim
  ·have hft:zBn l now claim next later=2:=by unfold zBn;rw [if_neg (by simpa using hlen),zEg hc hcl,if_pos (by decide)]
   rw [zFT (by rw [hft];decide),hft]
   have HM3:Hid (∀ w1 B aao ac,Below w.heap.size w w1->zAo w1 (.slice oo l.length oc) B (.slice aao (zAA l).length ac) l->∀ o,Calls Tryz.prog 114 #[.agg #[.slice oo l.length oc,.slice (some ⟨B,0,none⟩) l.length l.length,.slice aao (zAA l).length ac],.slice no now.length nc,.int .i64 claim] (w1.alloc o) fun e w'=>e=.returned (.tuple #[.slice none 0 0,.int .i64 2])/\Below w1.heap.size w1 w'):=fun w1 B aao ac hb hW o=>(HM.out _ B aao ac (hb.alloc hb.size o) (HWA.out _ B aao ac hW o)).mono fun e w' ⟨h1,h2,_⟩=>⟨h2 hcl,((Below.refl _ _).alloc (Nat.le_refl _) o).trans (h1.mono (by simp))⟩
   generalize (zAA l).length=an at *;rw [<- hlen];generalize now.length=ln at *;generalize l.length=n at *;clear hrd hT hV hL hX hc hcx HM HM2 HWA hcl hft hz h6 hlen
   go_enter Tryz.func158,Tryz.ntmps158
   go_wp2_with (first | (go_at_call 63;refine hrd2.mono ?_;rintro e w1 ⟨hb1,B,aao,ac,rfl,HW⟩;have hme:=HM3.out w1 B aao ac hb1 HW.out) | (go_at_call 114;refine (hme _).mono ?_;rintro e w2 ⟨rfl,hb2⟩))
   go_ret2
   exact ⟨rfl,hb1.trans (hb2.mono hb1.size)⟩
  ·have ht1:zBE l now claim=0:=zC5 hc hcl
   have hft:zBn l now claim next later=zBE l next later:=by unfold zBn;rw [if_neg (by simpa using hlen),ht1];rfl
   have HM3:Hid (∀ w1 B aao ac,Below w.heap.size w w1->zAo w1 (.slice oo l.length oc) B (.slice aao (zAA l).length ac) l->Calls Tryz.prog 114 #[.agg #[.slice oo l.length oc,.slice (some ⟨B,0,none⟩) l.length l.length,.slice aao (zAA l).length ac],.slice no now.length nc,.int .i64 claim] (w1.alloc (.cells #[.slice oo l.length oc,.slice (some ⟨B,0,none⟩) l.length l.length,.slice aao (zAA l).length ac] 141)) fun e w'=>∃ bH,e=.returned (.tuple #[.slice (some ⟨bH,0,none⟩) l.length l.length,.int .i64 0])/\Below w1.heap.size w1 w'/\w1.heap.size < w'.heap.size/\w'.cell? ⟨w1.heap.size,0,none⟩=some (.slice oo l.length oc)/\w'.cell? ⟨w1.heap.size,1,none⟩=some (.slice (some ⟨B,0,none⟩) l.length l.length)/\w'.cell? ⟨w1.heap.size,2,none⟩=some (.slice aao (zAA l).length ac)/\Hid (zAo w' (.slice oo l.length oc) B (.slice aao (zAA l).length ac) l/\w'.rowIs bH 4 l.length (fun j=>.bool (tru l now claim j)))):=fun w1 B aao ac hb hW=>(HM.out _ B aao ac (hb.alloc hb.size _) (HWA.out _ B aao ac hW _)).mono fun e w' ⟨h1,_,h3⟩=>by
    obtain ⟨bH,he,hr⟩:=h3 hcl;have h1':Below (w1.heap.size+1) (w1.alloc (.cells #[.slice oo l.length oc,.slice (some ⟨B,0,none⟩) l.length l.length,.slice aao (zAA l).length ac] 141)) w':=by simpa using h1
    have hb':Below w1.heap.size w1 w':=((Below.refl _ _).alloc (Nat.le_refl _) _).trans (h1'.mono (Nat.le_succ _))
    refine ⟨bH,he,hb',by have:=h1'.size;simp at this;omega,(h1'.cell (p:=⟨w1.heap.size,0,none⟩) (Nat.lt_succ_self _)).trans (by simp [go_sem]),(h1'.cell (p:=⟨w1.heap.size,1,none⟩) (Nat.lt_succ_self _)).trans (by simp [go_sem]),(h1'.cell (p:=⟨w1.heap.size,2,none⟩) (Nat.lt_succ_self _)).trans (by simp [go_sem]),hW.below hb',hr⟩
   by_cases hcl2:zBW l later
   ·have hft2:zBn l now claim next later=2:=by rw [hft,zEg hcx hcl2]
    rw [zFT (by rw [hft2];decide),hft2]
    have HM4:Hid (∀ w1 B aao ac,Below w.heap.size w w1->zAo w1 (.slice oo l.length oc) B (.slice aao (zAA l).length ac) l->Calls Tryz.prog 114 #[.agg #[.slice oo l.length oc,.slice (some ⟨B,0,none⟩) l.length l.length,.slice aao (zAA l).length ac],.slice xo next.length xc,.int .i64 later] w1 fun e w'=>e=.returned (.tuple #[.slice none 0 0,.int .i64 2])/\Below w1.heap.size w1 w'):=fun w1 B aao ac hb hW=>(HM2.out _ B aao ac hb hW).mono fun e w' ⟨h1,h2,_⟩=>⟨h2 hcl2,h1⟩
    generalize (zAA l).length=an at *;rw [<- hlen] at HM4 ⊢;generalize now.length=ln at *;generalize hnn:l.length=n at *;clear hrd hT hV hL hX hc hcx HM HM2 HWA hcl hcl2 hft hft2 ht1 hz h6 hlen hnn
    go_enter Tryz.func158,Tryz.ntmps158
    go_wp2_with (first | (go_at_call 63;refine hrd2.mono ?_;rintro e w1 ⟨hb1,B,aao,ac,rfl,HW⟩;have hme:=HM3.out w1 B aao ac hb1 HW.out) | (go_at_call 114;refine hme.mono ?_;clear hme;rintro e w2 ⟨bH,rfl,hb2,hs2,d0,d1,d2,HW2⟩;have hb12:=hb1.trans (hb2.mono hb1.size);have hme2:=HM4.out w2 B aao ac hb12 HW2.out.1) | (go_at_call 114;refine hme2.mono ?_;rintro e w3 ⟨rfl,hb3⟩))
    go_ret2
    exact ⟨rfl,hb12.trans (hb3.mono hb12.size)⟩
   ·have hft2:zBn l now claim next later=0:=by rw [hft,zC5 hcx hcl2]
    have HM4:Hid (∀ w1 B aao ac,Below w.heap.size w w1->zAo w1 (.slice oo l.length oc) B (.slice aao (zAA l).length ac) l->Calls Tryz.prog 114 #[.agg #[.slice oo l.length oc,.slice (some ⟨B,0,none⟩) l.length l.length,.slice aao (zAA l).length ac],.slice xo next.length xc,.int .i64 later] w1 fun e w'=>∃ bN,e=.returned (.tuple #[.slice (some ⟨bN,0,none⟩) l.length l.length,.int .i64 0])/\Below w1.heap.size w1 w'/\Hid (w'.rowIs bN 4 l.length (fun j=>.bool (tru l next later j)))):=fun w1 B aao ac hb hW=>(HM2.out _ B aao ac hb hW).mono fun e w' ⟨h1,_,h3⟩=>by
     obtain ⟨bN,he,hr⟩:=h3 hcl2;exact ⟨bN,he,h1,hr⟩
    have HYes:Hid (Fol l (tru l now claim) (tru l next later)->zBM l now claim next later=true):=zKp hft2;have HNot:Hid (¬ Fol l (tru l now claim) (tru l next later)->zBM l now claim next later=false):=zMQ
    have HFol:Hid (Fol l (tru l now claim) (tru l next later)↔∀ p,p < l.length->zAP (l.getD p (0,0)).1=true->tru l now claim p=zEa l (tru l now claim) (tru l next later) p):=Iff.rfl
    have HCo:Hid (∀ w2 B bH bN aao ac p,zAo w2 (.slice oo l.length oc) B (.slice aao (zAA l).length ac) l->w2.rowIs bH 4 l.length (fun j=>.bool (tru l now claim j))->w2.rowIs bN 4 l.length (fun j=>.bool (tru l next later j))->p < l.length->zAP (l.getD p (0,0)).1=true->Calls Tryz.prog 166 #[.agg #[.slice oo l.length oc,.slice (some ⟨B,0,none⟩) l.length l.length,.slice aao (zAA l).length ac],.int .i64 (p:Int),.slice (some ⟨bH,0,none⟩) l.length l.length,.slice (some ⟨bN,0,none⟩) l.length l.length] w2 fun e w'=>e=.returned (.bool (zEa l (tru l now claim) (tru l next later) p))/\Below w2.heap.size w2 w'):=fun w2 B bH bN aao ac p hW hr hr2 hp hk=>by
     obtain ⟨b,off,cap,hv,_⟩:=id hW
     injection hv with e1 e2 e3
     subst e1 e3;exact zOc b off l.length oc B bH bN l _ _ p _ aao _ ac w2 (zJw hW hz hr hp hk) (fun j hj=>hr2.cell hj) hr2.lt
    have HG:Hid (∀ w2 B aao ac k,zAo w2 (.slice oo l.length oc) B (.slice aao (zAA l).length ac) l->k < (zAA l).length->∃ p:Nat,(∃ ab aoff,aao=some ⟨ab,aoff,none⟩/\ab < w2.heap.size/\w2.cell? ⟨ab,aoff+k,none⟩=some (.int .i64 (p:Int)))/\p < l.length/\zAP (l.getD p (0,0)).1=true/\(zAF l p).length=k):=fun w2 B aao ac k hW hk=>by
     obtain ⟨_,_,_,_,_,_,_,ao',ac',hsl,hai⟩:=hW
     injection hsl with e1 e2 e3
     subst e1;obtain ⟨ab,aoff,rfl,habl,haat⟩:=hai (by intro h;rw [h] at hk;simp at hk)
     obtain ⟨p,h1,h2,h3,h4⟩:=zCV l l.length k hk;have h1':(zAA l).getD k 0=(p:Int):=h1;exact ⟨p,⟨ab,aoff,rfl,habl,by rw [haat k hk,h1']⟩,h2,h3,h4⟩
    have HLt:Hid (∀ p,p < l.length->zAP (l.getD p (0,0)).1=true->(zAF l p).length < (zAA l).length):=fun p hp hk=>zCg l hp hk
    have HUq:Hid (∀ p q,zAP (l.getD p (0,0)).1=true->zAP (l.getD q (0,0)).1=true->(zAF l p).length=(zAF l q).length->p=q):=fun p q h1 h2 he=>by
     rcases Nat.lt_trichotomy p q with h | h | h
     ·have:=zCg l h h1;omega
     ·exact h
     ·have:=zCg l h h2;omega
    rw [hft2];generalize zBM l now claim next later=fr at *;generalize zEa l (tru l now claim) (tru l next later)=cm at *;generalize Fol l (tru l now claim) (tru l next later)=FP at *;generalize tru l now claim=tn at *;generalize tru l next later=tx at *;obtain ⟨an,han⟩:∃ an,an=(zAA l).length:=⟨_,rfl⟩
    rw [<- han] at hrd2 HM3 HM4 HCo HG HLt h6;rw [<- hlen] at HM4 ⊢;generalize now.length=ln at *;generalize hnn:l.length=n at *;clear hrd hT hV hL hX hc hcx HM HM2 HWA hcl hcl2 hft hft2 ht1 hz hlen hnn han
    go_enter Tryz.func158,Tryz.ntmps158
    go_wp2_with (first | (go_at_call 63;refine hrd2.mono ?_;rintro e w1 ⟨hb1,B,aao,ac,rfl,HW⟩;have hme:=HM3.out w1 B aao ac hb1 HW.out) | (go_at_call 114;refine hme.mono ?_;clear hme;rintro e w2 ⟨bH,rfl,hb2,hs2,d0,d1,d2,HW2⟩;have hb12:=hb1.trans (hb2.mono hb1.size);have hme2:=HM4.out w2 B aao ac hb12 HW2.out.1) | (go_at_call 114;refine hme2.mono ?_;clear hme2;rintro e w3 ⟨bN,rfl,hb3,HN3⟩;have g0:=(hb3.cell (p:=⟨w1.heap.size,0,none⟩) hs2).trans d0;have g1:=(hb3.cell (p:=⟨w1.heap.size,1,none⟩) hs2).trans d1;have g2:=(hb3.cell (p:=⟨w1.heap.size,2,none⟩) hs2).trans d2))
    have hb13:=hb12.trans (hb3.mono hb12.size);have hs3:=Nat.lt_of_lt_of_le hs2 hb3.size;have HW3:Hid (zAo w3 (.slice oo n oc) B (.slice aao an ac) l/\w3.rowIs bH 4 n (fun j=>.bool (tn j))):=⟨HW2.out.1.below hb3,zAp HW2.out.2 hb3⟩
    clear hrd2 HM3 HM4 HW HW2 d0 d1 d2
    go_loopw [56] (fun i wr=>∃ k:Nat,k <= an/\i=.int .i64 (k:Int)/\Hid (∀ p,p < n->zAP (l.getD p (0,0)).1=true->(zAF l p).length < k->tn p=cm p)/\Hid (Below w3.heap.size w3 wr)) (fun i _=>an - (intOf i).toNat)
    case atStart=>exact ⟨0,Nat.zero_le _,rfl,fun p _ _ h=>absurd h (Nat.not_lt_zero _),Below.refl _ _⟩
    case round=>
     obtain ⟨k,hk,rfl,HAll,HBel⟩:=hrel;have hbel:=HBel.out
     by_cases hlt:k < an
     ·have hWr:=HW3.out.1.below hbel
      obtain ⟨p,⟨ab,aoff,rfl,habl,hca⟩,hpn,hpk,hpi⟩:=HG.out wr B aao ac k hWr hlt;have hco:=HCo.out
      have HSt:Hid (∀ w',Below wr.heap.size wr w'->w'.cell? ⟨w1.heap.size,0,none⟩=some (.slice oo n oc)/\w'.cell? ⟨w1.heap.size,1,none⟩=some (.slice (some ⟨B,0,none⟩) n n)/\w'.cell? ⟨w1.heap.size,2,none⟩=some (.slice (some ⟨ab,aoff,none⟩) an ac)/\w'.cell? ⟨bH,p,none⟩=some (.bool (tn p))/\Below wr.heap.size wr w'):=fun w' hb=>by
       have hbw:=hbel.trans (hb.mono hbel.size);have hr:=zAp HW3.out.2 hbw;exact ⟨(hbw.cell (p:=⟨w1.heap.size,0,none⟩) hs3).trans g0,(hbw.cell (p:=⟨w1.heap.size,1,none⟩) hs3).trans g1,(hbw.cell (p:=⟨w1.heap.size,2,none⟩) hs3).trans g2,hr.cell hpn,hb⟩
      have hcc:=fun w' (hb:Below wr.heap.size wr w')=>HCo.out w' B bH bN _ ac p (hWr.below hb) (zAp (zAp HW3.out.2 hbel) hb) (zAp (zAp HN3.out hbel) hb) hpn hpk
      have hS:=HSt.out;have hB0:Below wr.heap.size wr wr:=Below.refl _ _
      have HNext:Hid (tn p=cm p->∀ q,q < n->zAP (l.getD q (0,0)).1=true->(zAF l q).length < k+1->tn q=cm q):=fun he q hq hqk hql=>by
       by_cases h:(zAF l q).length < k
       ·exact HAll.out q hq hqk h
       ·have hqp:q=p:=HUq.out q p hqk hpk (by omega)
        rw [hqp];exact he
      have HBad:Hid (tn p≠cm p->fr=false):=fun h=>HNot.out fun hf=>h (HFol.out.1 hf p hpn hpk)
      have hp0:(0:Int) <= (p:Int):=Int.natCast_nonneg _;have hpI:(p:Int) < (n:Int):=by omega
      generalize tn p=tv at *;generalize cm p=cv at *;clear HG HCo HAll HNot HYes HFol HLt HUq hco HSt hWr hpk hpi
      by_cases htv:tv=cv
      ·have HNx:=(show Hid _ from HNext.out htv)
       subst htv;clear HNext HBad
       go_wp2_with fail
       go_region_held3 (fun w'=>w'.cell? ⟨w1.heap.size,0,none⟩=some (.slice oo n oc)/\w'.cell? ⟨w1.heap.size,1,none⟩=some (.slice (some ⟨B,0,none⟩) n n)/\w'.cell? ⟨w1.heap.size,2,none⟩=some (.slice (some ⟨ab,aoff,none⟩) an ac)/\w'.cell? ⟨bH,p,none⟩=some (.bool tv)/\Below wr.heap.size wr w')
        (exact hS _ (by first | exact hB0 | exact hB0.drew | exact hB0.drew.trans hb4))
        (first | (go_at_call 166;refine (hcc _ hB0.drew).mono ?_;rintro e w4 ⟨rfl,hb4⟩))
       go_wp2_with fail
       have hbf:=hbel.trans ((hB0.drew.trans hb4).mono hbel.size);exact ⟨⟨k+1,hlt,by first | rfl | simp,HNx.out,hbf⟩,by simp [intOf];omega⟩
      ·have HF:=(show Hid _ from HBad.out htv)
       clear HNext HBad
       cases tv <;> cases cv
       ·exact absurd rfl htv
       ·go_wp2_with fail
        go_region_held3 (fun w'=>w'.cell? ⟨w1.heap.size,0,none⟩=some (.slice oo n oc)/\w'.cell? ⟨w1.heap.size,1,none⟩=some (.slice (some ⟨B,0,none⟩) n n)/\w'.cell? ⟨w1.heap.size,2,none⟩=some (.slice (some ⟨ab,aoff,none⟩) an ac)/\w'.cell? ⟨bH,p,none⟩=some (.bool false)/\Below wr.heap.size wr w')
         (exact hS _ (by first | exact hB0 | exact hB0.drew | exact hB0.drew.trans hb4))
         (first | (go_at_call 166;refine (hcc _ hB0.drew).mono ?_;rintro e w4 ⟨rfl,hb4⟩))
        go_wp2_with fail
        have hbf:=hbel.trans ((hB0.drew.trans hb4).mono hbel.size)
        go_ret2
        rw [HF.out];exact ⟨rfl,hb13.trans (hbf.mono hb13.size)⟩
       ·go_wp2_with fail
        go_region_held3 (fun w'=>w'.cell? ⟨w1.heap.size,0,none⟩=some (.slice oo n oc)/\w'.cell? ⟨w1.heap.size,1,none⟩=some (.slice (some ⟨B,0,none⟩) n n)/\w'.cell? ⟨w1.heap.size,2,none⟩=some (.slice (some ⟨ab,aoff,none⟩) an ac)/\w'.cell? ⟨bH,p,none⟩=some (.bool true)/\Below wr.heap.size wr w')
         (exact hS _ (by first | exact hB0 | exact hB0.drew | exact hB0.drew.trans hb4))
         (first | (go_at_call 166;refine (hcc _ hB0.drew).mono ?_;rintro e w4 ⟨rfl,hb4⟩))
        go_wp2_with fail
        have hbf:=hbel.trans ((hB0.drew.trans hb4).mono hbel.size)
        go_ret2
        rw [HF.out];exact ⟨rfl,hb13.trans (hbf.mono hb13.size)⟩
       ·exact absurd rfl htv
     ·obtain rfl:k=an:=by omega
      have HFr:Hid (fr=true):=HYes.out (HFol.out.2 fun p hp hpk=>HAll.out p hp hpk (HLt.out p hp hpk))
      clear HG HCo HAll HNot HYes HFol HLt HUq
      go_wp2_with fail
      go_ret2
      rw [HFr.out];exact ⟨rfl,hb13.trans (hbel.mono hb13.size)⟩
 ·have hft:zBn l now claim next later=zAV now.length l:=by unfold zBn;rw [if_neg (by simpa using hlen),zEo hc,if_pos hc]
  rw [zFT (by rw [hft];exact hc),hft]
  have hrd2:Calls Tryz.prog 63 #[.slice oo l.length oc,.int .i64 (now.length:Int)] w fun e w'=>Below w.heap.size w w'/\e=.returned (.tuple #[.agg #[.slice none 0 0,.slice none 0 0,.slice none 0 0],.int .i64 (zAV now.length l)]):=hrd.mono fun e w' ⟨h1,h2,_⟩=>⟨h1,h2 hc⟩
  rw [<- hlen];generalize zAV now.length l=x at *;generalize now.length=ln at *;generalize l.length=n at *;clear hrd hT hV hL hX hft hlen
  go_enter Tryz.func158,Tryz.ntmps158
  go_wp2_with (go_at_call 63;refine hrd2.mono ?_;rintro e w1 ⟨hb1,rfl⟩)
  go_ret2
  exact ⟨rfl,by first | exact hb1 | exact hb1.alloc hb1.size _⟩
theorem zQ0 (v nv xv:Value) (l:List (Int × Int)) (now next:List Bool) (claim later:Int) (w:World) (hB:0 < w.heap.size) (hT:zAJ w) (hV:zAR w v l) (hL:zAQ w nv now) (hX:zAQ w xv next) :
  Calls Tryz.prog 158 #[v,nv,.int .i64 claim,xv,.int .i64 later] w fun e w'=>e=.returned (.tuple #[.bool (zBM l now claim next later),.int .i64 (zBn l now claim next later)])/\Below w.heap.size w w':=by
 obtain ⟨oo,oc,rfl,_⟩:=id hV;obtain ⟨no,nc,rfl,_⟩:=id hL;obtain ⟨xo,xc,rfl,_⟩:=id hX
 by_cases hlen:now.length=next.length
 ·exact zP0 oo oc l no xo nc xc now next claim later w hB hT hV hL hX hlen
 ·have hf:zBn l now claim next later=1:=by unfold zBn;rw [if_pos hlen]
  rw [zFT (by rw [hf];decide),hf]
  exact zRs _ no xo _ nc _ xc claim later oo l.length oc rfl w hlen
def zEU (l:List (Int × Int)) (p:Nat):Nat:=if (l.getD p (0,0)).1=14 then p+1 else p
def zBw (l:List (Int × Int)) (g:Nat->Bool):Nat->Int
 | 0=>0
 | k+1=>zBw l g k+if g (zEU l ((zAA l).getD k 0).toNat)=true then 2 ^ k else 0
def zFo (l:List (Int × Int)) (g:Nat->Bool):Int:=zBw l g (zAA l).length
theorem zDM (l:List (Int × Int)) (g:Nat->Bool):∀ k,0 <= zBw l g k/\zBw l g k < 2 ^ k:=by
 intro k
 induction k with
 | zero=>simp [zBw]
 | succ k ih=>
  have h2:(0:Int) < 2 ^ k:=Int.pow_pos (by decide)
  rw [zBw,Int.pow_succ]
  split <;> omega
theorem zKw {l:List (Int × Int)} {g g':Nat->Bool}:∀ {k:Nat},zBw l g k=zBw l g' k->∀ j,j < k->g (zEU l ((zAA l).getD j 0).toNat)=g' (zEU l ((zAA l).getD j 0).toNat)
 | 0,_,j,hj=>by omega
 | k+1,h,j,hj=>by
  obtain ⟨a0,a1⟩:=zDM l g k;obtain ⟨b0,b1⟩:=zDM l g' k;have h2:(0:Int) < 2 ^ k:=Int.pow_pos (by decide)
  rw [zBw,zBw] at h
  rcases (show j < k\/j=k by omega) with h3 | h3
  ·refine zKw (k:=k) ?_ j h3
   split at h <;> split at h <;> omega
  ·subst h3
   generalize g (zEU l ((zAA l).getD j 0).toNat)=x at h ⊢;generalize g' (zEU l ((zAA l).getD j 0).toNat)=y at h ⊢
   cases x <;> cases y
   ·rfl
   ·rw [if_neg (by simp),if_pos rfl] at h;omega
   ·rw [if_pos rfl,if_neg (by simp)] at h;omega
   ·rfl
theorem zPf (l:List (Int × Int)):∀ (d n:Nat),∃ r,zAF l (n+d)=zAF l n++r:=by
 intro d
 induction d with
 | zero=>exact fun n=>⟨[],by simp⟩
 | succ d ih=>
  intro n;obtain ⟨r,hr⟩:=ih n;refine ⟨r++(if zAP (l.getD (n+d) (0,0)).1=true then [((n+d:Nat):Int)] else []),?_⟩
  rw [show n+(d+1)=(n+d)+1 by omega,zAF,hr,List.append_assoc]
theorem zNf {l:List (Int × Int)} {p:Nat} (hp:p < l.length) (hb:zAP (l.getD p (0,0)).1=true):(zAF l p).length < (zAA l).length/\(zAA l).getD (zAF l p).length 0=(p:Int):=by
 have h1:=zCg l hp hb;refine ⟨h1,?_⟩
 obtain ⟨r,hr⟩:=zPf l (l.length - (p+1)) (p+1);rw [show p+1+(l.length - (p+1))=l.length by omega,zCT hb] at hr
 unfold zAA;rw [hr,List.append_assoc];simp [List.getD_eq_getElem?_getD]
theorem zQu {l:List (Int × Int)} {h g g':Nat->Bool} (e:zFo l g=zFo l g'):Fol l h g↔Fol l h g':=by
 have key:∀ p,p < l.length->zAP (l.getD p (0,0)).1=true->zEa l h g p=zEa l h g' p:=by
  intro p hp hb;obtain ⟨h1,h2⟩:=zNf hp hb;have h3:=zKw e (zAF l p).length h1;rw [h2] at h3;simp only [Int.toNat_natCast] at h3;unfold zEa zBm;unfold zEU at h3;have hk:14 <= (l.getD p (0,0)).1/\(l.getD p (0,0)).1 <= 18:=by simpa [zAP] using hb
  by_cases h14:(l.getD p (0,0)).1=14
  ·rw [if_pos h14] at h3
   rw [h14,h3]
   simp
  ·rw [if_neg h14] at h3
   rw [h3];have:(l.getD p (0,0)).1=15\/(l.getD p (0,0)).1=16\/(l.getD p (0,0)).1=17\/(l.getD p (0,0)).1=18:=by omega
   rcases this with h5 | h5 | h5 | h5 <;> rw [h5] <;> simp
 refine ⟨fun H p hp hb=>?_,fun H p hp hb=>?_⟩
 ·rw [H p hp hb,key p hp hb]
 ·rw [H p hp hb,key p hp hb]
end Go.Proofs.YtiimhhjkgeepjaaGreatDoor
namespace Go.Proofs.YtiimhhjkgeepjaaGreatDoor
open Go.ChangeShapes Go.WideShapes Go.ChangeAt Go.RowKit Go.Deep
set_option maxHeartbeats 6400000
set_option maxRecDepth 20000
theorem zKO:(Tryz.prog.info? 133).map (fun i=>(i.zero,i.size,i.bytes))=some (some (.agg #[.int .i64 0,.int .i64 0]),2,16):=by kernel_rfl
def SpO (w:World) (base:Nat) (v:Value) (l:List (Int × Int)):Prop:=w.ownsRow base 133 2 v l.length (zAm l)
theorem SpO.nil (w:World) (base:Nat):SpO w base (.slice none 0 0) []:=World.ownsRow_nil _ _ _ _
theorem SpO.later {w w':World} {base B:Nat} {v:Value} {l:List (Int × Int)} (h:SpO w base v l) (hb:Below B w w') (hB:w.heap.size <= B):SpO w' base v l:=zAW h hb hB
theorem SpO.shape {w:World} {base:Nat} {v:Value} {l:List (Int × Int)} (h:SpO w base v l):∃ ao cap,v=.slice ao l.length cap:=zAU h
def SpV (w:World) (v:Value) (l:List (Int × Int)):Prop:=∃ ao cap,v=.slice ao l.length cap/\(l≠[]->∃ b off,ao=some ⟨b,off,none⟩/\b < w.heap.size/\zA4 w b off l)
theorem SpV.nil (w:World):SpV w (.slice none 0 0) []:=⟨none,0,rfl,fun h=>absurd rfl h⟩
theorem SpO.v {w:World} {base:Nat} {v:Value} {l:List (Int × Int)} (h:SpO w base v l):SpV w v l:=by
 rcases h.2 with ⟨rfl,h0⟩ | ⟨g,cap,cur,rfl,hb,hg,hnc,hcm,hcs,htake⟩
 ·have:l=[]:=by simpa using h0
  subst this;exact SpV.nil w
 ·refine ⟨_,cap,rfl,fun _=>⟨g,0,rfl,(Array.getElem?_eq_some_iff.1 hg).1,fun i hi=>?_⟩⟩
  obtain ⟨f0,f1⟩:=zFi l i hi;rw [World.ownsRow.cellAt h _ (by omega),World.ownsRow.cellAt h _ (by omega)]
  simpa using ⟨f0,f1⟩
section
variable {W : World}
theorem zLy {ops:Array Oper} {rest:List Oper} {o:Oper} {a:Act} {Q:Exit->Act->World->Prop} (y z:Int) (hgd:o.guard=none) (s x:Operand)
  (ho:o.op=.call { callee:=.builtin .append,args:=#[s,x],argTypes:=#[91,91]})
  (base n cap:Nat) (vo:Option Addr) (l:List (Int × Int)) (hl:l.length=n) (hs:a.eval s=.slice vo n cap) (hown:SpO W base (.slice vo n cap) l) (hx:a.eval x=.slice (some ⟨W.heap.size,0,none⟩) 1 1)
  (hsz:(n+1)*16 <= 140737488355328) (hbase:base <= W.heap.size)
  (h:∀ vo' cap' w',SpO w' base (.slice vo' (n+1) cap') (l++[(y,z)])->Below base W w'->(W.alloc (.cells #[.int .i64 y,.int .i64 z] 133)).grownBy w' (Value.slice vo n cap).ownBlock->wpList Tryz.prog ops Q rest (a.put o.dst (.slice vo' (n+1) cap')) w'):wpList Tryz.prog ops Q (o:: rest) a (W.alloc (.cells #[.int .i64 y,.int .i64 z] 133)):=by
 subst hl;obtain ⟨i0,hi,hz0,hz1,hz2⟩:=info_parts zKO;have hown':W.ownsRow base 133 2 (.slice vo l.length cap) l.length (zAm l):=hown
 refine wpList_append_own _ hgd s x 91 ho base 133 i0 (.agg #[.int .i64 0,.int .i64 0]) 2 16 Tryz.underlying91 hi hz0 hz1 hz2 rfl (by decide) (.slice vo l.length cap) l.length (zAm l) hs (hown'.alloc _) ⟨W.heap.size,0,none⟩ 1 1 [.int .i64 y,.int .i64 z] hx rfl (zDr _ _ _ _) (by intro u hu;simp at hu;rcases hu with rfl | rfl <;> rfl) (by unfold maxLen;omega) hsz (Nat.le_trans hbase (by simp)) ?_
 intro v' w4 hown' hgrow _;obtain ⟨a4,c4,rfl⟩:=zAU hown';refine h a4 c4 w4 ?_ (((Below.refl base W).alloc hbase _).grown hgrow (Nat.le_trans hbase (by simp)) (fun q hq=>(World.ownsRow.lt hown q hq).1)) hgrow
 unfold SpO;rw [zEz,List.length_append];exact hown'
end
end Go.Proofs.YtiimhhjkgeepjaaGreatDoor
namespace Go.Proofs.YtiimhhjkgeepjaaGreatDoor
open Go.ChangeShapes Go.WideShapes Go.ChangeAt Go.RowKit Go.Deep Go.Maps
open Terms Tm
set_option maxHeartbeats 6400000
set_option maxRecDepth 20000
theorem zGY (x:Int) (w:World) :
  Calls Tryz.prog 99 #[.int .i64 x] w fun e w'=>e=.returned (.bool (decide (¬ (-1000000 <= x/\x <= 1000000))))/\w'=w:=by
 by_cases h1:x < -1000000
 ·rw [show decide (¬ (-1000000 <= x/\x <= 1000000))=true by simp;omega]
  go_enter Tryz.func99,Tryz.ntmps99
  go_wp2
  all_goals go_ret
  all_goals exact ⟨rfl,rfl⟩
 ·by_cases h2:1000000 < x
  ·rw [show decide (¬ (-1000000 <= x/\x <= 1000000))=true by simp;omega]
   go_enter Tryz.func99,Tryz.ntmps99
   go_wp2
   all_goals go_ret
   all_goals exact ⟨rfl,rfl⟩
  ·rw [show decide (¬ (-1000000 <= x/\x <= 1000000))=false by simp;omega]
   go_enter Tryz.func99,Tryz.ntmps99
   go_wp2
   all_goals go_ret
   all_goals exact ⟨rfl,rfl⟩
theorem zHY (c:Bool) (w:World) :
  Calls Tryz.prog 145 #[.bool c] w fun e w'=>e=.returned (.int .i64 (if c=true then 1 else 0))/\w'=w:=by
 cases c
 all_goals
  go_enter Tryz.func145,Tryz.ntmps145
  go_wp2
  all_goals go_ret
  all_goals exact ⟨rfl,rfl⟩
def zDi (k:Int):Nat:=if k=3 then 141 else if k=4 then 142 else if k=5 then 143 else if k=6 then 144 else if k=7 then 146 else if k=8 then 147 else 148
theorem zNy {x:Int} (h:-1000000 <= x/\x <= 1000000):x.natAbs <= 1000000:=by omega
theorem zSc {x y:Int} (hx:-1000000 <= x/\x <= 1000000) (hy:-1000000 <= y/\y <= 1000000):-1000000000000 <= x*y/\x*y <= 1000000000000:=by
 have h:=Nat.mul_le_mul (zNy hx) (zNy hy);rw [<- Int.natAbs_mul] at h;omega
theorem zHO (k x y:Int) (w:World) (h3:3 <= k) (h9:k <= 9) (hx:-1000000 <= x/\x <= 1000000) (hy:-1000000 <= y/\y <= 1000000) (ht:8 <= k->(x=0\/x=1)/\(y=0\/y=1)) :
  Calls Tryz.prog (zDi k) #[.int .i64 x,.int .i64 y] w fun e w'=>e=.returned (.int .i64 (bin k x y))/\w'=w:=by
 have hk:k=3\/k=4\/k=5\/k=6\/k=7\/k=8\/k=9:=by omega
 have hm:=zSc hx hy;obtain ⟨hm1,hm2⟩:=hm;obtain ⟨hx1,hx2⟩:=hx;obtain ⟨hy1,hy2⟩:=hy;clear h3 h9
 rcases hk with rfl | rfl | rfl | rfl | rfl | rfl | rfl
 ·show Calls Tryz.prog 141 _ _ _
  clear ht
  go_enter Tryz.func141,Tryz.ntmps141
  go_wp2
  go_ret
  exact ⟨rfl,rfl⟩
 ·show Calls Tryz.prog 142 _ _ _
  clear ht
  go_enter Tryz.func142,Tryz.ntmps142
  go_wp2
  go_ret
  exact ⟨rfl,rfl⟩
 ·show Calls Tryz.prog 143 _ _ _
  clear ht
  go_enter Tryz.func143,Tryz.ntmps143
  go_wp2
  go_ret
  exact ⟨rfl,rfl⟩
 ·show Calls Tryz.prog 144 _ _ _
  clear ht;have htr:=fun w=>zHY (x == y) w
  have hb:bin 6 x y=if (x == y)=true then 1 else 0:=by simp [bin]
  rw [<- hb] at htr;generalize bin 6 x y=z at htr ⊢;clear hb
  go_enter Tryz.func144,Tryz.ntmps144
  go_wp2_with (go_at_call 145;refine (htr _).mono ?_;rintro e w1 ⟨rfl,rfl⟩)
  go_ret
  exact ⟨rfl,rfl⟩
 ·show Calls Tryz.prog 146 _ _ _
  clear ht
  by_cases hc:x < y
  ·have htr:=fun w=>zHY true w
   have hb:bin 7 x y=1:=by simp [bin,hc]
   rw [hb];clear hb
   go_enter Tryz.func146,Tryz.ntmps146
   go_wp2_with (go_at_call 145;refine (htr _).mono ?_;rintro e w1 ⟨rfl,rfl⟩)
   go_ret
   exact ⟨rfl,rfl⟩
  ·have htr:=fun w=>zHY false w
   have hb:bin 7 x y=0:=by simp [bin,hc]
   rw [hb];clear hb
   go_enter Tryz.func146,Tryz.ntmps146
   go_wp2_with (go_at_call 145;refine (htr _).mono ?_;rintro e w1 ⟨rfl,rfl⟩)
   go_ret
   exact ⟨rfl,rfl⟩
 ·show Calls Tryz.prog 147 _ _ _
  obtain ⟨ha,hb⟩:=ht (by decide)
  clear ht hm1 hm2 hx1 hx2 hy1 hy2
  rcases ha with rfl | rfl <;> rcases hb with rfl | rfl
  all_goals
   go_enter Tryz.func147,Tryz.ntmps147
   go_wp2
   go_ret
   exact ⟨rfl,rfl⟩
 ·show Calls Tryz.prog 148 _ _ _
  obtain ⟨ha,hb⟩:=ht (by decide)
  clear ht hm1 hm2 hx1 hx2 hy1 hy2
  rcases ha with rfl | rfl <;> rcases hb with rfl | rfl
  all_goals
   go_enter Tryz.func148,Tryz.ntmps148
   go_wp2
   go_ret
   exact ⟨rfl,rfl⟩
def zC3:Value->Option (DataW Unit × List MemPlace)
 | .func (.func f) first cap=>if first=#[]/\cap=#[] then some (.lit (.int .i64 f),[]) else none
 | .nilFunc=>some (.nil,[])
 | _=>none
theorem zMs {v:Value} {f:Nat} {ps:List MemPlace} (h:zC3 v=some (.lit (.int .i64 f),ps)):v=.func (.func f) #[] #[]:=by
 unfold zC3 at h
 split at h
 ·split at h
  ·rename_i hc
   obtain ⟨rfl,rfl⟩:=hc;simp at h
   rw [Int.ofNat.inj h.1]
  ·simp at h
 ·simp at h
 ·simp at h
theorem zBK {H:Type} {P:Program} (w:World) {ops:Array Oper} {rest:List Oper} {o:Oper} {a:Act} {Q:Exit->Act->World->Prop}
  (hg:o.guard=none) (m x v:Operand) (t:TypeId) (hop:o.op=Op.insert t m x v)
  (k e:TypeId) (K:Keyed P k) (ht:P.underlying t=some (.map k e)) (R:Value->Option (DataW H × List MemPlace)) (b n:Nat) (D:DataW H)
  (hm:a.eval m=.map (some b)) (hown:w.ownsMap P k R b n D) (hn:n < maxLen) (key val:Value) (kl:Lit) (hx:a.eval x=key) (hv:a.eval v=val) (hkey:keyOf P k key=some kl)
  (d:DataW H) (ps:List MemPlace) (hval:R val=some (d,ps))
  (hK:∀ w',w'.ownsMap P k R b (n+1) (D.put kl d)->w.grownBy w' (some b)->wpList P ops Q rest (a.put o.dst undef) w') :
  wpList P ops Q (o:: rest) a w:=by
 refine wpList_plain hg fun K' hK'=>?_
 obtain ⟨w',hrun,r1,r2⟩:=hown.update K ht hn hkey hval;unfold Oper.wp;simp [execOp,hop,hm,hx,hv,hrun,Result.andThen]
 exact hK' _ _ (hK w' r1 r2)
def zNG:Nat->DataW Unit
 | 0=>.map []
 | n+1=>(zNG n).put (.int .i64 ((n:Int)+3)) (.lit (.int .i64 (zDi ((n:Int)+3))))
def zDX (w:World) (M:Nat):Prop:=w.ownsMap Tryz.prog 3 zC3 M 7 (zNG 7)
theorem zDX.later {w w':World} {M:Nat} (h:zDX w M) (hb:Below w.heap.size w w'):zDX w' M:=by
 have hlt:=World.ownsMap.lt h;obtain ⟨es,clock,h1,h2⟩:=h;exact ⟨es,clock,(hb.block M hlt).trans h1,h2⟩
theorem zED:Keyed Tryz.prog 3:=int_keyed Tryz.underlying3
theorem zGB (k:Int) (h:3 <= k/\k <= 9):keyOf Tryz.prog 3 (.int .i64 k)=some (.int .i64 k):=keyOf_int_mk Tryz.underlying3 (WalkArith.wf_i64 (by omega))
theorem zDX.look {w:World} {M:Nat} (h:zDX w M) {k:Int} (h3:3 <= k) (h9:k <= 9) :
  (Instr.lookup 184 (.map (some M)) (.int .i64 k) false).run Tryz.prog w=.ok (.func (.func (zDi k)) #[] #[]) w:=by
 obtain ⟨v,ps,hrun,hv⟩:=World.ownsMap.lookup h zED Tryz.underlying184 (z:=.nilFunc) (by kernel_rfl) (zd:=.nil) (zp:=[]) rfl (zGB k ⟨h3,h9⟩)
 have hat:(zNG 7).atKey (.int .i64 k) .nil=.lit (.int .i64 (zDi k)):=by
  have hk:k=3\/k=4\/k=5\/k=6\/k=7\/k=8\/k=9:=by omega
  rcases hk with rfl | rfl | rfl | rfl | rfl | rfl | rfl <;> rfl
 rw [hat] at hv;rw [hrun,zMs hv]
theorem zIs (w:World) :
  Calls Tryz.prog 100 #[] w fun e w'=>∃ M,w.heap.size <= M/\e=.returned (.map (some M))/\zDX w' M/\Below w.heap.size w w':=by
 have hmm:=@run_makeMap Tryz.prog;have h0:=World.ownsMap_made w Tryz.prog 3 zC3
 go_enter Tryz.func100,Tryz.ntmps100
 go_wp2_with (first
  | (refine zBK _ rfl _ _ _ 184 rfl 3 57 zED Tryz.underlying184 zC3 w.heap.size 6 _ rfl h6 (by unfold maxLen;omega) _ _ _ rfl rfl (zGB 9 (by omega)) _ [] rfl ?_;intro w7 h7 g7)
  | (refine zBK _ rfl _ _ _ 184 rfl 3 57 zED Tryz.underlying184 zC3 w.heap.size 5 _ rfl h5 (by unfold maxLen;omega) _ _ _ rfl rfl (zGB 8 (by omega)) _ [] rfl ?_;intro w6 h6 g6)
  | (refine zBK _ rfl _ _ _ 184 rfl 3 57 zED Tryz.underlying184 zC3 w.heap.size 4 _ rfl h4 (by unfold maxLen;omega) _ _ _ rfl rfl (zGB 7 (by omega)) _ [] rfl ?_;intro w5 h5 g5)
  | (refine zBK _ rfl _ _ _ 184 rfl 3 57 zED Tryz.underlying184 zC3 w.heap.size 3 _ rfl h3 (by unfold maxLen;omega) _ _ _ rfl rfl (zGB 6 (by omega)) _ [] rfl ?_;intro w4 h4 g4)
  | (refine zBK _ rfl _ _ _ 184 rfl 3 57 zED Tryz.underlying184 zC3 w.heap.size 2 _ rfl h2 (by unfold maxLen;omega) _ _ _ rfl rfl (zGB 5 (by omega)) _ [] rfl ?_;intro w3 h3 g3)
  | (refine zBK _ rfl _ _ _ 184 rfl 3 57 zED Tryz.underlying184 zC3 w.heap.size 1 _ rfl h1 (by unfold maxLen;omega) _ _ _ rfl rfl (zGB 4 (by omega)) _ [] rfl ?_;intro w2 h2 g2)
  | (refine zBK _ rfl _ _ _ 184 rfl 3 57 zED Tryz.underlying184 zC3 w.heap.size 0 _ rfl h0 (by unfold maxLen;omega) _ _ _ rfl rfl (zGB 3 (by omega)) _ [] rfl ?_;intro w1 h1 g1))
 go_ret
 have hb0:Below w.heap.size w (w.alloc (.map #[] 0)):=(Below.refl _ _).alloc (Nat.le_refl _) _;have hb:∀ {x y:World},Below w.heap.size w x->x.grownBy y (some w.heap.size)->Below w.heap.size w y:=fun h g=>h.grown g h.size (fun j hj=>by cases hj;exact Nat.le_refl _)
 exact ⟨w.heap.size,Nat.le_refl _,rfl,h7,hb (hb (hb (hb (hb (hb (hb hb0 g1) g2) g3) g4) g5) g6) g7⟩
end Go.Proofs.YtiimhhjkgeepjaaGreatDoor
namespace Go.Proofs.YtiimhhjkgeepjaaGreatDoor
open Go.ChangeShapes Go.WideShapes Go.ChangeAt Go.RowKit Go.Deep
open Terms Tm
set_option maxHeartbeats 6400000
set_option maxRecDepth 20000
structure WorkAt (w:World) (b off B:Nat) (eao:Option Addr) (M:Nat) (t:Tm) (env:List Int):Prop where
 ob:b < w.heap.size
 ops:zA4 w b off t.ops
 ends : w.rowIs B 3 t.size (fun q => .int .i64 (zAi (t.ops.map Prod.fst) q))
 env:∀ i,i < env.length->∃ eb eoff,eao=some ⟨eb,eoff,none⟩/\eb < w.heap.size/\w.cell? ⟨eb,eoff+i,none⟩=some (.int .i64 (env.getD i 0))
 pairs:zDX w M
theorem WorkAt.later {w w':World} {b off B:Nat} {eao:Option Addr} {M:Nat} {t:Tm} {env:List Int} (h:WorkAt w b off B eao M t env) (hb:Below w.heap.size w w'):WorkAt w' b off B eao M t env:=by
 obtain ⟨h1,h2,h3,h4,h5⟩:=h;refine ⟨Nat.lt_of_lt_of_le h1 hb.size,h2.below hb h1,h3.of_block (hb.block B h3.lt),fun i hi=>?_,h5.later hb⟩
 obtain ⟨eb,eoff,e1,e2,e3⟩:=h4 i hi;exact ⟨eb,eoff,e1,Nat.lt_of_lt_of_le e2 hb.size,(hb.cell (p:=⟨eb,eoff+i,none⟩) e2).trans e3⟩
def zA6 (r:Option Int) (w:World) (e:Ending) (w':World):Prop:=
 Below w.heap.size w w'/\match r with
  | some x=>e=.returned (.int .i64 x)
  | none=>e=.panicked [{ v:=.iface 34 (.int .i64 8),recovered:=false}]
abbrev workV (b off n cap B:Nat) (eao:Option Addr) (en ecap M:Nat):Value:=.agg #[.slice (some ⟨b,off,none⟩) n cap,.slice (some ⟨B,0,none⟩) n n,.slice eao en ecap,.map (some M)]
theorem zTE (b off n cap B:Nat) (eao:Option Addr) (en ecap M place:Nat) (x:Int) (w:World) (hob:b < w.heap.size) (hp:place < n) (c0:w.cell? ⟨b,off+place*2,none⟩=some (.int .i64 1)) (c1:w.cell? ⟨b,off+place*2+1,none⟩=some (.int .i64 x)) :
  Calls Tryz.prog 101 #[workV b off n cap B eao en ecap M,.int .i64 place] w (zA6 (some x) w):=by
 have hne:¬ b=w.heap.size:=by omega
 go_enter Tryz.func101,Tryz.ntmps101
 go_wp2_with fail
 go_ret
 exact ⟨((Below.refl _ _).alloc (Nat.le_refl _) _).alloc (by simp) _,rfl⟩
theorem zS7 (b off n cap B eb eoff en ecap M place j:Nat) (x:Int) (w:World) (hob:b < w.heap.size) (hp:place < n) (hj:j < en) (c0:w.cell? ⟨b,off+place*2,none⟩=some (.int .i64 2)) (c1:w.cell? ⟨b,off+place*2+1,none⟩=some (.int .i64 j)) (hbl:eb < w.heap.size) (c2:w.cell? ⟨eb,eoff+j,none⟩=some (.int .i64 x)) :
  Calls Tryz.prog 101 #[workV b off n cap B (some ⟨eb,eoff,none⟩) en ecap M,.int .i64 place] w (zA6 (some x) w):=by
 have hne:¬ b=w.heap.size:=by omega
 go_enter Tryz.func101,Tryz.ntmps101
 go_wp2_with fail
 go_ret
 exact ⟨((Below.refl _ _).alloc (Nat.le_refl _) _).alloc (by simp) _,rfl⟩
theorem zTB (b off n cap B:Nat) (eao:Option Addr) (en ecap M place:Nat) (k:Int) (hk:k=11\/k=12) (w:World) (hob:b < w.heap.size) (hp:place < n) (c0:w.cell? ⟨b,off+place*2,none⟩=some (.int .i64 k)) (c1:w.cell? ⟨b,off+place*2+1,none⟩=some (.int .i64 0)) :
  Calls Tryz.prog 101 #[workV b off n cap B eao en ecap M,.int .i64 place] w (zA6 (some (if k=11 then 1 else 0)) w):=by
 rcases hk with rfl | rfl
 ·rw [if_pos rfl]
  have hne:¬ b=w.heap.size:=by omega
  go_enter Tryz.func101,Tryz.ntmps101
  go_wp2_with fail
  go_ret
  exact ⟨((Below.refl _ _).alloc (Nat.le_refl _) _).alloc (by simp) _,rfl⟩
 ·rw [if_neg (by decide)]
  have hne:¬ b=w.heap.size:=by omega
  go_enter Tryz.func101,Tryz.ntmps101
  go_wp2_with fail
  go_ret
  exact ⟨((Below.refl _ _).alloc (Nat.le_refl _) _).alloc (by simp) _,rfl⟩
theorem zTD (b off n cap B:Nat) (eao:Option Addr) (en ecap M place:Nat) (r:Option Int) (w:World) (hob:b < w.heap.size) (hp:place < n) (h60:n <= 60) (c0:w.cell? ⟨b,off+place*2,none⟩=some (.int .i64 10)) (c1:w.cell? ⟨b,off+place*2+1,none⟩=some (.int .i64 0))
  (hr:∀ x,r=some x->-1000000 <= x/\x <= 1000000)
  (hrec:∀ w',Below w.heap.size w w'->Calls Tryz.prog 101 #[workV b off n cap B eao en ecap M,.int .i64 ((place:Int)+1)] w' (zA6 r w')) :
  Calls Tryz.prog 101 #[workV b off n cap B eao en ecap M,.int .i64 place] w (zA6 (r.map (1 - ·)) w):=by
 have hne:¬ b=w.heap.size:=by omega
 have hb2:Below w.heap.size w ((w.alloc (.cells #[.slice (some ⟨b,off,none⟩) n cap,.slice (some ⟨B,0,none⟩) n n,.slice eao en ecap,.map (some M)] 187)).alloc (.cells #[.int .i64 10,.int .i64 0] 69)):=((Below.refl _ _).alloc (Nat.le_refl _) _).alloc (by simp) _
 have hrec':=hrec _ hb2;have HB2:=(show Hid _ from hb2)
 clear hrec hb2
 cases r with
 | none=>
  go_enter Tryz.func101,Tryz.ntmps101
  go_wp2_with (go_at_call 101;refine hrec'.mono ?_;rintro e w1 ⟨hb1,rfl⟩)
  exact ⟨rfl,HB2.out.trans (hb1.mono HB2.out.size),rfl⟩
 | some x=>
  obtain ⟨hx1,hx2⟩:=hr x rfl;clear hr
  go_enter Tryz.func101,Tryz.ntmps101
  go_wp2_with (go_at_call 101;refine hrec'.mono ?_;rintro e w1 ⟨hb1,rfl⟩)
  go_ret
  exact ⟨HB2.out.trans (hb1.mono HB2.out.size),rfl⟩
attribute [local go_sem ↓] Go.wp_at_zero Go.wp_at_succ
theorem zLL (k:Int) (h3:3 <= k) (h9:k <= 9) (args:Array Value) (w:World):(callFunc (zDi k) args).run Tryz.prog w=.ok (.enter (zDi k) args) w:=by
 have hk:k=3\/k=4\/k=5\/k=6\/k=7\/k=8\/k=9:=by omega
 rcases hk with rfl | rfl | rfl | rfl | rfl | rfl | rfl
 ·show (callFunc 141 args).run Tryz.prog w=.ok (.enter 141 args) w;simp [go_sem]
 ·show (callFunc 142 args).run Tryz.prog w=.ok (.enter 142 args) w;simp [go_sem]
 ·show (callFunc 143 args).run Tryz.prog w=.ok (.enter 143 args) w;simp [go_sem]
 ·show (callFunc 144 args).run Tryz.prog w=.ok (.enter 144 args) w;simp [go_sem]
 ·show (callFunc 146 args).run Tryz.prog w=.ok (.enter 146 args) w;simp [go_sem]
 ·show (callFunc 147 args).run Tryz.prog w=.ok (.enter 147 args) w;simp [go_sem]
 ·show (callFunc 148 args).run Tryz.prog w=.ok (.enter 148 args) w;simp [go_sem]
theorem zFj {x:Int} (h1:0 <= x) (h2:x <= 1000):IntKind.i64.wrap x=x:=by
 simp [IntKind.wrap,IntKind.bits,IntKind.signed];omega
theorem zTH (b off n cap B:Nat) (eao:Option Addr) (en ecap M place E1 F:Nat) (k x y z:Int) (w:World) (hob:b < w.heap.size) (hBB:B < w.heap.size) (hp:place+1 < n) (P1:Nat) (hP1:P1=place+1) (h60:n <= 60) (hk3:3 <= k) (hk9:k <= 9) (c0:w.cell? ⟨b,off+place*2,none⟩=some (.int .i64 k)) (c1:w.cell? ⟨b,off+place*2+1,none⟩=some (.int .i64 0)) (cE:w.cell? ⟨B,P1,none⟩=some (.int .i64 E1))
  (hlook:∀ w',Below w.heap.size w w'->(Instr.lookup 184 (.map (some M)) (.int .i64 k) false).run Tryz.prog w'=.ok (.func (.func F) #[] #[]) w')
  (hent:∀ args w,(callFunc F args).run Tryz.prog w=.ok (.enter F args) w)
  (hpair:∀ w',Calls Tryz.prog F #[.int .i64 x,.int .i64 y] w' fun e w''=>e=.returned (.int .i64 z)/\w''=w')
  (hra:∀ w',Below w.heap.size w w'->Calls Tryz.prog 101 #[workV b off n cap B eao en ecap M,.int .i64 P1] w' (zA6 (some x) w'))
  (hrb:∀ w',Below w.heap.size w w'->Calls Tryz.prog 101 #[workV b off n cap B eao en ecap M,.int .i64 E1] w' (zA6 (some y) w')) :
  Calls Tryz.prog 101 #[workV b off n cap B eao en ecap M,.int .i64 place] w (zA6 (lid z) w):=by
 have hne:¬ b=w.heap.size:=by omega
 have hneB:¬ B=w.heap.size:=by omega
 have e1:¬ k=1:=by omega
 have e2:¬ k=2:=by omega
 have e3:¬ k=10:=by omega
 have e4:¬ k=11:=by omega
 have e5:¬ k=12:=by omega
 obtain ⟨W2,hW2⟩:∃ W2,W2=((w.alloc (.cells #[.slice (some ⟨b,off,none⟩) n cap,.slice (some ⟨B,0,none⟩) n n,.slice eao en ecap,.map (some M)] 187)).alloc (.cells #[.int .i64 k,.int .i64 0] 69)):=⟨_,rfl⟩
 have hb2:Below w.heap.size w W2:=by rw [hW2];exact ((Below.refl _ _).alloc (Nat.le_refl _) _).alloc (by simp) _
 have hsz:W2.heap.size=w.heap.size+1+1:=by rw [hW2];simp
 have d0:W2.cell? ⟨w.heap.size,0,none⟩=some (.slice (some ⟨b,off,none⟩) n cap):=by rw [hW2];simp [go_sem]
 have d1:W2.cell? ⟨w.heap.size,1,none⟩=some (.slice (some ⟨B,0,none⟩) n n):=by rw [hW2];simp [go_sem]
 have d2:W2.cell? ⟨w.heap.size,2,none⟩=some (.slice eao en ecap):=by rw [hW2];simp [go_sem]
 have d3:W2.cell? ⟨w.heap.size,3,none⟩=some (.map (some M)):=by rw [hW2];simp [go_sem]
 have d4:W2.cell? ⟨w.heap.size+1,0,none⟩=some (.int .i64 k):=by rw [hW2];simp [go_sem]
 have d5:W2.cell? ⟨B,P1,none⟩=some (.int .i64 E1):=(hb2.cell (p:=⟨B,P1,none⟩) hBB).trans cE;have HW2:=(show Hid _ from hW2)
 have hS:∀ w',Below W2.heap.size W2 w'->w'.cell? ⟨w.heap.size,0,none⟩=some (.slice (some ⟨b,off,none⟩) n cap)/\w'.cell? ⟨w.heap.size,1,none⟩=some (.slice (some ⟨B,0,none⟩) n n)/\w'.cell? ⟨w.heap.size,2,none⟩=some (.slice eao en ecap)/\w'.cell? ⟨w.heap.size,3,none⟩=some (.map (some M))/\w'.cell? ⟨w.heap.size+1,0,none⟩=some (.int .i64 k)/\w'.cell? ⟨B,P1,none⟩=some (.int .i64 E1)/\(Instr.lookup 184 (.map (some M)) (.int .i64 k) false).run Tryz.prog w'=.ok (.func (.func F) #[] #[]) w':=fun w' hw'=>
  ⟨(hw'.cell (p:=⟨w.heap.size,0,none⟩) (by simp only;omega)).trans d0,(hw'.cell (p:=⟨w.heap.size,1,none⟩) (by simp only;omega)).trans d1,(hw'.cell (p:=⟨w.heap.size,2,none⟩) (by simp only;omega)).trans d2,(hw'.cell (p:=⟨w.heap.size,3,none⟩) (by simp only;omega)).trans d3,(hw'.cell (p:=⟨w.heap.size+1,0,none⟩) (by simp only;omega)).trans d4,(hw'.cell (p:=⟨B,P1,none⟩) (by simp only;omega)).trans d5,hlook w' (hb2.trans (hw'.mono hb2.size))⟩
 have hra':∀ w',Below W2.heap.size W2 w'->Calls Tryz.prog 101 #[workV b off n cap B eao en ecap M,.int .i64 P1] w' (zA6 (some x) w'):=fun w' hw'=>hra w' (hb2.trans (hw'.mono hb2.size))
 have hrb':∀ w',Below W2.heap.size W2 w'->Calls Tryz.prog 101 #[workV b off n cap B eao en ecap M,.int .i64 E1] w' (zA6 (some y) w'):=fun w' hw'=>hrb w' (hb2.trans (hw'.mono hb2.size))
 have hB0:Below W2.heap.size W2 W2:=Below.refl _ _;have HB2:Hid (Below w.heap.size w W2):=hb2;have hp0:place < n:=by omega
 have hi0:(0:Int) <= (P1:Int):=by omega
 have hi1:(P1:Int) < (n:Int):=by omega
 have hpp:(place:Int)+1=(P1:Int):=by omega
 have hwr:IntKind.i64.wrap (P1:Int)=(P1:Int):=zFj (by omega) (by omega)
 have hwr2:IntKind.i64.wrap ((place:Int)+1)=(P1:Int):=by rw [hpp];exact hwr
 have htg:=fun w=>zGY z w
 clear hW2 hb2 hra hrb hlook hP1 hp hsz d0 d1 d2 d3 d4 d5
 by_cases hz:-1000000 <= z/\z <= 1000000
 ·rw [show decide (¬ (-1000000 <= z/\z <= 1000000))=false by simpa using hz] at htg
  rw [show lid z=some z by unfold lid;rw [if_pos hz]]
  clear hz
  go_enter Tryz.func101,Tryz.ntmps101
  go_wp2_with fail
  rw [<- HW2.out];clear c0 c1 cE
  go_region_held3 (fun w'=>w'.cell? ⟨w.heap.size,0,none⟩=some (.slice (some ⟨b,off,none⟩) n cap)/\w'.cell? ⟨w.heap.size,1,none⟩=some (.slice (some ⟨B,0,none⟩) n n)/\w'.cell? ⟨w.heap.size,2,none⟩=some (.slice eao en ecap)/\w'.cell? ⟨w.heap.size,3,none⟩=some (.map (some M))/\w'.cell? ⟨w.heap.size+1,0,none⟩=some (.int .i64 k)/\w'.cell? ⟨B,P1,none⟩=some (.int .i64 E1)/\(Instr.lookup 184 (.map (some M)) (.int .i64 k) false).run Tryz.prog w'=.ok (.func (.func F) #[] #[]) w')
   (exact hS _ (by first | exact hB0 | exact hB0.drew | exact hB0.drew.trans hb1 | exact (hB0.drew.trans hb1).trans (hb3.mono (hB0.drew.trans hb1).size)))
   (first | (go_at_call_of 101 E1;refine (hrb' _ (hB0.drew.trans hb1)).mono ?_;rintro e w3 ⟨hb3,rfl⟩) | (go_at_call 101;refine (hra' _ hB0.drew).mono ?_;rintro e w1 ⟨hb1,rfl⟩) | (refine (hpair _).mono ?_;rintro e w4 ⟨rfl,rfl⟩))
  all_goals
   go_wp2_with (go_at_call 99;refine (htg _).mono ?_;rintro e w5 ⟨rfl,rfl⟩)
   go_ret
   exact ⟨HB2.out.trans (((hB0.drew.trans hb1).trans (hb3.mono (hB0.drew.trans hb1).size)).mono HB2.out.size),rfl⟩
 ·rw [show decide (¬ (-1000000 <= z/\z <= 1000000))=true by simp;omega] at htg
  rw [show lid z=none by unfold lid;rw [if_neg hz]]
  clear hz
  go_enter Tryz.func101,Tryz.ntmps101
  go_wp2_with fail
  rw [<- HW2.out];clear c0 c1 cE
  go_region_held3 (fun w'=>w'.cell? ⟨w.heap.size,0,none⟩=some (.slice (some ⟨b,off,none⟩) n cap)/\w'.cell? ⟨w.heap.size,1,none⟩=some (.slice (some ⟨B,0,none⟩) n n)/\w'.cell? ⟨w.heap.size,2,none⟩=some (.slice eao en ecap)/\w'.cell? ⟨w.heap.size,3,none⟩=some (.map (some M))/\w'.cell? ⟨w.heap.size+1,0,none⟩=some (.int .i64 k)/\w'.cell? ⟨B,P1,none⟩=some (.int .i64 E1)/\(Instr.lookup 184 (.map (some M)) (.int .i64 k) false).run Tryz.prog w'=.ok (.func (.func F) #[] #[]) w')
   (exact hS _ (by first | exact hB0 | exact hB0.drew | exact hB0.drew.trans hb1 | exact (hB0.drew.trans hb1).trans (hb3.mono (hB0.drew.trans hb1).size)))
   (first | (go_at_call_of 101 E1;refine (hrb' _ (hB0.drew.trans hb1)).mono ?_;rintro e w3 ⟨hb3,rfl⟩) | (go_at_call 101;refine (hra' _ hB0.drew).mono ?_;rintro e w1 ⟨hb1,rfl⟩) | (refine (hpair _).mono ?_;rintro e w4 ⟨rfl,rfl⟩))
  all_goals
   go_wp2_with (go_at_call 99;refine (htg _).mono ?_;rintro e w5 ⟨rfl,rfl⟩)
   exact ⟨rfl,HB2.out.trans (((hB0.drew.trans hb1).trans (hb3.mono (hB0.drew.trans hb1).size)).mono HB2.out.size),rfl⟩
end Go.Proofs.YtiimhhjkgeepjaaGreatDoor
namespace Go.Proofs.YtiimhhjkgeepjaaGreatDoor
open Go.ChangeShapes Go.WideShapes Go.ChangeAt Go.RowKit Go.Deep
open Terms Tm
set_option maxHeartbeats 6400000
set_option maxRecDepth 20000
attribute [local go_sem ↓] Go.wp_at_zero Go.wp_at_succ
theorem Calls.pan {f:FuncId} {args:Array Value} {w:World} {X:Ending->World->Prop} (x:Int) (h:Calls Tryz.prog f args w (zA6 none w))
  (hX:∀ w',Below w.heap.size w w'->X (.panicked [{ v:=.iface 34 (.int .i64 8),recovered:=false}]) w') (_:∀ w',Below w.heap.size w w'->Hid False->X (.returned (.int .i64 x)) w'):Calls Tryz.prog f args w X:=
 h.mono fun e w' ⟨hb,he⟩=>by subst he;exact hX w' hb
theorem zRX (b off n cap B:Nat) (eao:Option Addr) (en ecap M place E1 F:Nat) (k x y z:Int) (w:World) (hob:b < w.heap.size) (hBB:B < w.heap.size) (hp:place+1 < n) (P1:Nat) (hP1:P1=place+1) (h60:n <= 60) (hk3:3 <= k) (hk9:k <= 9) (c0:w.cell? ⟨b,off+place*2,none⟩=some (.int .i64 k)) (c1:w.cell? ⟨b,off+place*2+1,none⟩=some (.int .i64 0)) (cE:w.cell? ⟨B,P1,none⟩=some (.int .i64 E1))
  (hlook:∀ w',Below w.heap.size w w'->(Instr.lookup 184 (.map (some M)) (.int .i64 k) false).run Tryz.prog w'=.ok (.func (.func F) #[] #[]) w')
  (hent:∀ args w,(callFunc F args).run Tryz.prog w=.ok (.enter F args) w)
  (hpair:∀ w',Calls Tryz.prog F #[.int .i64 x,.int .i64 y] w' fun e w''=>e=.returned (.int .i64 z)/\w''=w')
  (hra:∀ w',Below w.heap.size w w'->Calls Tryz.prog 101 #[workV b off n cap B eao en ecap M,.int .i64 P1] w' (zA6 none w'))
  (hrb:Hid False->∀ w',Below w.heap.size w w'->Calls Tryz.prog 101 #[workV b off n cap B eao en ecap M,.int .i64 E1] w' (zA6 (some y) w')) :
  Calls Tryz.prog 101 #[workV b off n cap B eao en ecap M,.int .i64 place] w (zA6 none w):=by
 have hne:¬ b=w.heap.size:=by omega
 have hneB:¬ B=w.heap.size:=by omega
 have e1:¬ k=1:=by omega
 have e2:¬ k=2:=by omega
 have e3:¬ k=10:=by omega
 have e4:¬ k=11:=by omega
 have e5:¬ k=12:=by omega
 obtain ⟨W2,hW2⟩:∃ W2,W2=((w.alloc (.cells #[.slice (some ⟨b,off,none⟩) n cap,.slice (some ⟨B,0,none⟩) n n,.slice eao en ecap,.map (some M)] 187)).alloc (.cells #[.int .i64 k,.int .i64 0] 69)):=⟨_,rfl⟩
 have hb2:Below w.heap.size w W2:=by rw [hW2];exact ((Below.refl _ _).alloc (Nat.le_refl _) _).alloc (by simp) _
 have hsz:W2.heap.size=w.heap.size+1+1:=by rw [hW2];simp
 have d0:W2.cell? ⟨w.heap.size,0,none⟩=some (.slice (some ⟨b,off,none⟩) n cap):=by rw [hW2];simp [go_sem]
 have d1:W2.cell? ⟨w.heap.size,1,none⟩=some (.slice (some ⟨B,0,none⟩) n n):=by rw [hW2];simp [go_sem]
 have d2:W2.cell? ⟨w.heap.size,2,none⟩=some (.slice eao en ecap):=by rw [hW2];simp [go_sem]
 have d3:W2.cell? ⟨w.heap.size,3,none⟩=some (.map (some M)):=by rw [hW2];simp [go_sem]
 have d4:W2.cell? ⟨w.heap.size+1,0,none⟩=some (.int .i64 k):=by rw [hW2];simp [go_sem]
 have d5:W2.cell? ⟨B,P1,none⟩=some (.int .i64 E1):=(hb2.cell (p:=⟨B,P1,none⟩) hBB).trans cE;have HW2:=(show Hid _ from hW2)
 have hS:∀ w',Below W2.heap.size W2 w'->w'.cell? ⟨w.heap.size,0,none⟩=some (.slice (some ⟨b,off,none⟩) n cap)/\w'.cell? ⟨w.heap.size,1,none⟩=some (.slice (some ⟨B,0,none⟩) n n)/\w'.cell? ⟨w.heap.size,2,none⟩=some (.slice eao en ecap)/\w'.cell? ⟨w.heap.size,3,none⟩=some (.map (some M))/\w'.cell? ⟨w.heap.size+1,0,none⟩=some (.int .i64 k)/\w'.cell? ⟨B,P1,none⟩=some (.int .i64 E1)/\(Instr.lookup 184 (.map (some M)) (.int .i64 k) false).run Tryz.prog w'=.ok (.func (.func F) #[] #[]) w':=fun w' hw'=>
  ⟨(hw'.cell (p:=⟨w.heap.size,0,none⟩) (by simp only;omega)).trans d0,(hw'.cell (p:=⟨w.heap.size,1,none⟩) (by simp only;omega)).trans d1,(hw'.cell (p:=⟨w.heap.size,2,none⟩) (by simp only;omega)).trans d2,(hw'.cell (p:=⟨w.heap.size,3,none⟩) (by simp only;omega)).trans d3,(hw'.cell (p:=⟨w.heap.size+1,0,none⟩) (by simp only;omega)).trans d4,(hw'.cell (p:=⟨B,P1,none⟩) (by simp only;omega)).trans d5,hlook w' (hb2.trans (hw'.mono hb2.size))⟩
 have hra':∀ w',Below W2.heap.size W2 w'->Calls Tryz.prog 101 #[workV b off n cap B eao en ecap M,.int .i64 P1] w' (zA6 none w'):=fun w' hw'=>hra w' (hb2.trans (hw'.mono hb2.size))
 have hrb':Hid False->∀ w',Below W2.heap.size W2 w'->Calls Tryz.prog 101 #[workV b off n cap B eao en ecap M,.int .i64 E1] w' (zA6 (some y) w'):=fun hF w' hw'=>hrb hF w' (hb2.trans (hw'.mono hb2.size))
 have hB0:Below W2.heap.size W2 W2:=Below.refl _ _;have HB2:Hid (Below w.heap.size w W2):=hb2;have hp0:place < n:=by omega
 have hi0:(0:Int) <= (P1:Int):=by omega
 have hi1:(P1:Int) < (n:Int):=by omega
 have hpp:(place:Int)+1=(P1:Int):=by omega
 have hwr:IntKind.i64.wrap (P1:Int)=(P1:Int):=zFj (by omega) (by omega)
 have hwr2:IntKind.i64.wrap ((place:Int)+1)=(P1:Int):=by rw [hpp];exact hwr
 clear hW2 hb2 hra hrb hlook hP1 hp hsz d0 d1 d2 d3 d4 d5
 go_enter Tryz.func101,Tryz.ntmps101
 go_wp2_with fail
 rw [<- HW2.out];clear c0 c1 cE
 go_region_held2 (fun w'=>w'.cell? ⟨w.heap.size,0,none⟩=some (.slice (some ⟨b,off,none⟩) n cap)/\w'.cell? ⟨w.heap.size,1,none⟩=some (.slice (some ⟨B,0,none⟩) n n)/\w'.cell? ⟨w.heap.size,2,none⟩=some (.slice eao en ecap)/\w'.cell? ⟨w.heap.size,3,none⟩=some (.map (some M))/\w'.cell? ⟨w.heap.size+1,0,none⟩=some (.int .i64 k)/\w'.cell? ⟨B,P1,none⟩=some (.int .i64 E1)/\(Instr.lookup 184 (.map (some M)) (.int .i64 k) false).run Tryz.prog w'=.ok (.func (.func F) #[] #[]) w')
  (exact hS _ (by first | exact hB0 | exact hB0.drew | exact hB0.drew.trans hb1 | exact (hB0.drew.trans hb1).trans (hb3.mono (hB0.drew.trans hb1).size)))
  (first | (go_at_call_of 101 E1;refine (hrb' hF _ (hB0.drew.trans hb1)).mono ?_;rintro e w3 ⟨hb3,rfl⟩) | (go_at_call 101;refine Calls.pan x (hra' _ hB0.drew) (fun w1 hb1=>⟨rfl,HB2.out.trans ((hB0.drew.trans hb1).mono HB2.out.size),rfl⟩) (fun w1 hb1 hF=>?_)) | (refine (hpair _).mono ?_;rintro e w4 ⟨rfl,rfl⟩))
 all_goals exact hF.out.elim
theorem zSN (b off n cap B:Nat) (eao:Option Addr) (en ecap M place E1 F:Nat) (k x y z:Int) (w:World) (hob:b < w.heap.size) (hBB:B < w.heap.size) (hp:place+1 < n) (P1:Nat) (hP1:P1=place+1) (h60:n <= 60) (hk3:3 <= k) (hk9:k <= 9) (c0:w.cell? ⟨b,off+place*2,none⟩=some (.int .i64 k)) (c1:w.cell? ⟨b,off+place*2+1,none⟩=some (.int .i64 0)) (cE:w.cell? ⟨B,P1,none⟩=some (.int .i64 E1))
  (hlook:∀ w',Below w.heap.size w w'->(Instr.lookup 184 (.map (some M)) (.int .i64 k) false).run Tryz.prog w'=.ok (.func (.func F) #[] #[]) w')
  (hent:∀ args w,(callFunc F args).run Tryz.prog w=.ok (.enter F args) w)
  (hpair:∀ w',Calls Tryz.prog F #[.int .i64 x,.int .i64 y] w' fun e w''=>e=.returned (.int .i64 z)/\w''=w')
  (hra:∀ w',Below w.heap.size w w'->Calls Tryz.prog 101 #[workV b off n cap B eao en ecap M,.int .i64 P1] w' (zA6 (some x) w'))
  (hrb:∀ w',Below w.heap.size w w'->Calls Tryz.prog 101 #[workV b off n cap B eao en ecap M,.int .i64 E1] w' (zA6 none w')) :
  Calls Tryz.prog 101 #[workV b off n cap B eao en ecap M,.int .i64 place] w (zA6 none w):=by
 have hne:¬ b=w.heap.size:=by omega
 have hneB:¬ B=w.heap.size:=by omega
 have e1:¬ k=1:=by omega
 have e2:¬ k=2:=by omega
 have e3:¬ k=10:=by omega
 have e4:¬ k=11:=by omega
 have e5:¬ k=12:=by omega
 obtain ⟨W2,hW2⟩:∃ W2,W2=((w.alloc (.cells #[.slice (some ⟨b,off,none⟩) n cap,.slice (some ⟨B,0,none⟩) n n,.slice eao en ecap,.map (some M)] 187)).alloc (.cells #[.int .i64 k,.int .i64 0] 69)):=⟨_,rfl⟩
 have hb2:Below w.heap.size w W2:=by rw [hW2];exact ((Below.refl _ _).alloc (Nat.le_refl _) _).alloc (by simp) _
 have hsz:W2.heap.size=w.heap.size+1+1:=by rw [hW2];simp
 have d0:W2.cell? ⟨w.heap.size,0,none⟩=some (.slice (some ⟨b,off,none⟩) n cap):=by rw [hW2];simp [go_sem]
 have d1:W2.cell? ⟨w.heap.size,1,none⟩=some (.slice (some ⟨B,0,none⟩) n n):=by rw [hW2];simp [go_sem]
 have d2:W2.cell? ⟨w.heap.size,2,none⟩=some (.slice eao en ecap):=by rw [hW2];simp [go_sem]
 have d3:W2.cell? ⟨w.heap.size,3,none⟩=some (.map (some M)):=by rw [hW2];simp [go_sem]
 have d4:W2.cell? ⟨w.heap.size+1,0,none⟩=some (.int .i64 k):=by rw [hW2];simp [go_sem]
 have d5:W2.cell? ⟨B,P1,none⟩=some (.int .i64 E1):=(hb2.cell (p:=⟨B,P1,none⟩) hBB).trans cE;have HW2:=(show Hid _ from hW2)
 have hS:∀ w',Below W2.heap.size W2 w'->w'.cell? ⟨w.heap.size,0,none⟩=some (.slice (some ⟨b,off,none⟩) n cap)/\w'.cell? ⟨w.heap.size,1,none⟩=some (.slice (some ⟨B,0,none⟩) n n)/\w'.cell? ⟨w.heap.size,2,none⟩=some (.slice eao en ecap)/\w'.cell? ⟨w.heap.size,3,none⟩=some (.map (some M))/\w'.cell? ⟨w.heap.size+1,0,none⟩=some (.int .i64 k)/\w'.cell? ⟨B,P1,none⟩=some (.int .i64 E1)/\(Instr.lookup 184 (.map (some M)) (.int .i64 k) false).run Tryz.prog w'=.ok (.func (.func F) #[] #[]) w':=fun w' hw'=>
  ⟨(hw'.cell (p:=⟨w.heap.size,0,none⟩) (by simp only;omega)).trans d0,(hw'.cell (p:=⟨w.heap.size,1,none⟩) (by simp only;omega)).trans d1,(hw'.cell (p:=⟨w.heap.size,2,none⟩) (by simp only;omega)).trans d2,(hw'.cell (p:=⟨w.heap.size,3,none⟩) (by simp only;omega)).trans d3,(hw'.cell (p:=⟨w.heap.size+1,0,none⟩) (by simp only;omega)).trans d4,(hw'.cell (p:=⟨B,P1,none⟩) (by simp only;omega)).trans d5,hlook w' (hb2.trans (hw'.mono hb2.size))⟩
 have hra':∀ w',Below W2.heap.size W2 w'->Calls Tryz.prog 101 #[workV b off n cap B eao en ecap M,.int .i64 P1] w' (zA6 (some x) w'):=fun w' hw'=>hra w' (hb2.trans (hw'.mono hb2.size))
 have hrb':∀ w',Below W2.heap.size W2 w'->Calls Tryz.prog 101 #[workV b off n cap B eao en ecap M,.int .i64 E1] w' (zA6 none w'):=fun w' hw'=>hrb w' (hb2.trans (hw'.mono hb2.size))
 have hB0:Below W2.heap.size W2 W2:=Below.refl _ _;have HB2:Hid (Below w.heap.size w W2):=hb2;have hp0:place < n:=by omega
 have hi0:(0:Int) <= (P1:Int):=by omega
 have hi1:(P1:Int) < (n:Int):=by omega
 have hpp:(place:Int)+1=(P1:Int):=by omega
 have hwr:IntKind.i64.wrap (P1:Int)=(P1:Int):=zFj (by omega) (by omega)
 have hwr2:IntKind.i64.wrap ((place:Int)+1)=(P1:Int):=by rw [hpp];exact hwr
 clear hW2 hb2 hra hrb hlook hP1 hp hsz d0 d1 d2 d3 d4 d5
 go_enter Tryz.func101,Tryz.ntmps101
 go_wp2_with fail
 rw [<- HW2.out];clear c0 c1 cE
 go_region_held2 (fun w'=>w'.cell? ⟨w.heap.size,0,none⟩=some (.slice (some ⟨b,off,none⟩) n cap)/\w'.cell? ⟨w.heap.size,1,none⟩=some (.slice (some ⟨B,0,none⟩) n n)/\w'.cell? ⟨w.heap.size,2,none⟩=some (.slice eao en ecap)/\w'.cell? ⟨w.heap.size,3,none⟩=some (.map (some M))/\w'.cell? ⟨w.heap.size+1,0,none⟩=some (.int .i64 k)/\w'.cell? ⟨B,P1,none⟩=some (.int .i64 E1)/\(Instr.lookup 184 (.map (some M)) (.int .i64 k) false).run Tryz.prog w'=.ok (.func (.func F) #[] #[]) w')
  (exact hS _ (by first | exact hB0 | exact hB0.drew | exact hB0.drew.trans hb1 | exact (hB0.drew.trans hb1).trans (hb3.mono (hB0.drew.trans hb1).size)))
  (first | (go_at_call_of 101 E1;refine Calls.pan y (hrb' _ (hB0.drew.trans hb1)) (fun w3 hb3=>⟨rfl,HB2.out.trans (((hB0.drew.trans hb1).trans (hb3.mono (hB0.drew.trans hb1).size)).mono HB2.out.size),rfl⟩) (fun w3 hb3 hF=>?_)) | (go_at_call 101;refine (hra' _ hB0.drew).mono ?_;rintro e w1 ⟨hb1,rfl⟩) | (refine (hpair _).mono ?_;rintro e w4 ⟨rfl,rfl⟩))
 all_goals exact hF.out.elim
end Go.Proofs.YtiimhhjkgeepjaaGreatDoor
namespace Go.Proofs.YtiimhhjkgeepjaaGreatDoor
open Go.ChangeShapes Go.WideShapes Go.ChangeAt Go.RowKit Go.Deep
open Terms Tm
set_option maxHeartbeats 6400000
set_option maxRecDepth 20000
theorem zSo (b off n cap B:Nat) (eao:Option Addr) (en ecap M vars:Nat) (t:Tm) (env:List Int) (hn:n=t.size) (h60:n <= 60) (hg:t.Good vars) (hty:t.typed=true) (hev:EnvOk env) (hen:env.length=vars) (hen2:en=vars) (d:Nat) :
  ∀ (place:Nat) (w:World),place < n->(t.sub place).size <= d->WorkAt w b off B eao M t env->
  Calls Tryz.prog 101 #[workV b off n cap B eao en ecap M,.int .i64 place] w (zA6 ((t.sub place).eval env) w):=by
 induction d with
 | zero=>intro place w _ hd;have:=(t.sub place).size_pos;omega
 | succ d ih=>
  intro place w hp hd hW;have hpt:place < t.size:=by omega
  obtain ⟨s,hs⟩:∃ s,s=t.sub place:=⟨_,rfl⟩
  have hsg:s.Good vars:=by rw [hs];exact hg.sub _
  have hst:s.typed=true:=by
   rw [hs];refine (typed_iff _).2 fun q hq=>?_
   rw [<- t.sub_sub place q hpt hq];exact (typed_iff _).1 hty _ (by have:=t.sub_fits hpt;omega)
  obtain ⟨c0,c1⟩:=hW.ops place (by rw [ops_length];exact hpt)
  rw [op_at t hpt,<- hs] at c0 c1;simp only at c0 c1
  have HKI:∀ i,i < s.kids.length->place+s.koff i < n/\t.sub (place+s.koff i)=s.kids.getD i s/\zAi (t.ops.map Prod.fst) (place+s.koff i)=place+s.koff (i+1):=fun i hi=>by
   subst hs;obtain ⟨h1,h2,h3,_⟩:=kid_in hg.wf hpt hi;exact ⟨by omega,h2,h3⟩
  rw [<- hs] at hd ⊢
  cases s with
  | leaf k v=>
   rcases hsg with ⟨rfl,h1,h2⟩ | ⟨rfl,h1,h2⟩ | ⟨hk,rfl⟩
   ·exact zTE b off n cap B eao en ecap M place v w hW.ob hp c0 c1
   ·obtain ⟨j,rfl⟩:=Int.eq_ofNat_of_zero_le h1
    obtain ⟨eb,eoff,rfl,e2,e3⟩:=hW.env j (by omega)
    exact zS7 b off n cap B eb eoff en ecap M place j _ w hW.ob hp (by omega) c0 c1 e2 e3
   ·have he:(Tm.leaf k 0).eval env=some (if k=11 then 1 else 0):=by
     simp only [Tm.eval];rw [if_neg (by omega),if_neg (by omega)]
    rw [he];exact zTB b off n cap B eao en ecap M place k hk w hW.ob hp c0 c1
  | un k v a=>
   obtain ⟨rfl,rfl,ha⟩:=hsg;obtain ⟨p1,p2,_⟩:=HKI 0 (by simp [kids])
   rw [koff_zero] at p1 p2;have hsz:a.size <= d:=by simp only [Tm.size] at hd;omega
   have hta:a.typed=true:=by simp only [Tm.typed,Bool.and_eq_true] at hst;exact hst.2
   have hrec:∀ w',Below w.heap.size w w'->Calls Tryz.prog 101 #[workV b off n cap B eao en ecap M,.int .i64 ((place:Int)+1)] w' (zA6 (a.eval env) w'):=fun w' hw'=>by
    have h:=ih (place+1) w' p1 (by rw [p2];exact hsz) (hW.later hw')
    rw [p2] at h;exact h
   have h:=zTD b off n cap B eao en ecap M place (a.eval env) w hW.ob hp h60 c0 c1 (fun x hx=>(eval_le hev hen ha hta x hx).1) hrec
   have he:(Tm.un 10 0 a).eval env=(a.eval env).map (1 - ·):=by
    simp only [Tm.eval]
    cases a.eval env <;> rfl
   rw [he];exact h
  | bi k v a b'=>
   obtain ⟨h3,h9,rfl,ha,hb⟩:=hsg;obtain ⟨p1,p2,p3⟩:=HKI 0 (by simp [kids])
   obtain ⟨q1,q2,_⟩:=HKI 1 (by simp [kids])
   rw [koff_zero] at p1 p2 p3;rw [Nat.zero_add] at p3;have hsa:a.size <= d:=by simp only [Tm.size] at hd;omega
   have hsb:b'.size <= d:=by simp only [Tm.size] at hd;omega
   simp only [Tm.typed,Bool.and_eq_true,beq_iff_eq] at hst;obtain ⟨⟨ka,hta⟩,kb,htb⟩:=hst
   have hra:∀ w',Below w.heap.size w w'->Calls Tryz.prog 101 #[workV b off n cap B eao en ecap M,.int .i64 (place+1:Nat)] w' (zA6 (a.eval env) w'):=fun w' hw'=>by
    have h:=ih (place+1) w' p1 (by rw [p2];exact hsa) (hW.later hw')
    rw [p2] at h;exact h
   have hrb:∀ w',Below w.heap.size w w'->Calls Tryz.prog 101 #[workV b off n cap B eao en ecap M,.int .i64 (place+(Tm.bi k 0 a b').koff 1:Nat)] w' (zA6 (b'.eval env) w'):=fun w' hw'=>by
    have h:=ih (place+(Tm.bi k 0 a b').koff 1) w' q1 (by rw [q2];exact hsb) (hW.later hw')
    rw [q2] at h;exact h
   have cE:=hW.ends.cell (i:=place+1) (by omega)
   rw [p3] at cE;have hlook:=fun w' (hw':Below w.heap.size w w')=>(hW.pairs.later hw').look h3 h9
   have hent:=zLL k h3 h9;have hae:=eval_le hev hen ha hta;have hbe:=eval_le hev hen hb htb;simp only [Tm.eval]
   cases hx:a.eval env with
   | none=>
    rw [hx] at hra
    exact zRX b off n cap B eao en ecap M place _ (zDi k) k 0 0 (bin k 0 0) w hW.ob hW.ends.lt (by omega) (place+1) rfl h60 h3 h9 c0 c1 cE hlook hent (fun w'=>zHO k 0 0 w' h3 h9 (by omega) (by omega) (fun _=>⟨.inl rfl,.inl rfl⟩)) hra
     (fun h=>h.out.elim)
   | some x=>
    rw [hx] at hra;have hxl:=hae x hx
    cases hy:b'.eval env with
    | none=>
     rw [hy] at hrb;exact zSN b off n cap B eao en ecap M place _ (zDi k) k x 0 (bin k x 0) w hW.ob hW.ends.lt (by omega) (place+1) rfl h60 h3 h9 c0 c1 cE hlook hent (fun w'=>zHO k x 0 w' h3 h9 hxl.1 (by omega) (fun h8=>⟨hxl.2 (by rw [ka];simp [tkT];omega),.inl rfl⟩)) hra hrb
    | some y=>
     rw [hy] at hrb;have hyl:=hbe y hy;exact zTH b off n cap B eao en ecap M place _ (zDi k) k x y (bin k x y) w hW.ob hW.ends.lt (by omega) (place+1) rfl h60 h3 h9 c0 c1 cE hlook hent (fun w'=>zHO k x y w' h3 h9 hxl.1 hyl.1 (fun h8=>⟨hxl.2 (by rw [ka];simp [tkT];omega),hyl.2 (by rw [kb];simp [tkT];omega)⟩)) hra hrb
theorem zHU (s:Nat) (x:Int) (v0 v1:Value) (w:World) (hc0:w.cell? ⟨s,0,none⟩=some v0) (hc1:w.cell? ⟨s+1,0,none⟩=some v1) (hz0:w.frozen? ⟨s,0,none⟩=false) (hz1:w.frozen? ⟨s+1,0,none⟩=false) :
  CallsD Tryz.prog 97 #[.pointer (some ⟨s,0,none⟩),.pointer (some ⟨s+1,0,none⟩)] (.panicking [{ v:=.iface 34 (.int .i64 x),recovered:=false}]) w fun e u' w'=>
   e=.returned (.tuple #[])/\u'=.panicking [{ v:=.iface 34 (.int .i64 x),recovered:=true}]/\w'=((w.setCell ⟨s,0,none⟩ (.int .i64 0)).setCell ⟨s+1,0,none⟩ (.int .i64 x)).drew:=by
 have hta:∀ w:World,(Instr.typeAssert (.iface 34 (.int .i64 x)) 20 34 false).run Tryz.prog w=.ok (.int .i64 x) w:=fun _=>by kernel_rfl
 refine callsD_of_wpS Tryz.func97 rfl fun c₀ cs hu=>?_
 rw [Tryz.ntmps97]
 show Code.wpS _ _ _ { tmps:=#[.pointer (some ⟨s,0,none⟩),.pointer (some ⟨s+1,0,none⟩),undef,undef,undef,undef,undef,undef],defers:=[]} _ _
 apply wpS_seq
 apply wpS_region
 simp [wpOpsS,go_sem,recoverD,hu,Exit.thenS]
 refine wpS_of_wp ?_
 go_wp2
 go_region
 go_wp2
 simp [bodyPostS,results,Tryz.results97]
theorem zE4 (s:Nat) (w:World) :
  CallsD Tryz.prog 97 #[.pointer (some ⟨s,0,none⟩),.pointer (some ⟨s+1,0,none⟩)] .returning w fun e u' w'=>
   e=.returned (.tuple #[])/\u'=.returning/\w'=w:=by
 refine callsD_of_wpS Tryz.func97 rfl fun c₀ cs hu=>?_
 rw [Tryz.ntmps97]
 show Code.wpS _ _ _ { tmps:=#[.pointer (some ⟨s,0,none⟩),.pointer (some ⟨s+1,0,none⟩),undef,undef,undef,undef,undef,undef],defers:=[]} _ _
 apply wpS_seq
 apply wpS_region
 simp [wpOpsS,go_sem,recoverD,hu,Exit.thenS]
 refine wpS_of_wp ?_
 go_wp2
 cases c₀
 simp_all [bodyPostS,results,Tryz.results97]
def zCb (env:List Int):Bool:=env.any fun x=>decide (¬ (-1000000 <= x/\x <= 1000000))
def zJp (l:List (Int × Int)) (t:Tm) (env:List Int):Int:=
 if zAx env.length l t≠0 then 0 else if zCb env=true then 0 else match t.eval env with
  | some x=>x
  | none=>0
def zJn (l:List (Int × Int)) (t:Tm) (env:List Int):Int:=
 if zAx env.length l t≠0 then zAx env.length l t else if zCb env=true then 2 else match t.eval env with
  | some _=>0
  | none=>8
theorem zKA {env:List Int} (h:zCb env=false):EnvOk env:=fun i hi=>by
 unfold zCb at h;rw [List.any_eq_false] at h;have:=h (env.getD i 0) (by simp [List.getD_eq_getElem?_getD,hi])
 generalize env.getD i 0=x at *;simp at this
 omega
theorem zN6 {env:List Int} (h:∀ j,j < env.length->-1000000 <= env.getD j 0/\env.getD j 0 <= 1000000):zCb env=false:=by
 unfold zCb;rw [List.any_eq_false];intro x hx;obtain ⟨i,hi,rfl⟩:=List.getElem_of_mem hx;have:=h i hi;simp [List.getD_eq_getElem?_getD,hi] at this
 simp
 omega
theorem zOz {env:List Int} {i:Nat} (hi:i < env.length) (h:¬ (-1000000 <= env.getD i 0/\env.getD i 0 <= 1000000)):zCb env=true:=by
 unfold zCb;rw [List.any_eq_true];refine ⟨env[i],List.getElem_mem hi,?_⟩
 simp [List.getD_eq_getElem?_getD,hi] at h
 simp
 omega
def e0 (w:World):World:=(w.alloc (.cells #[.int .i64 0] 3)).alloc (.cells #[.int .i64 0] 34)
theorem zHf (w:World):Below w.heap.size w (e0 w):=((Below.refl _ _).alloc (Nat.le_refl _) _).alloc (by simp) _
theorem zJx (w:World) {w':World} (h:Below (e0 w).heap.size (e0 w) w') :
  w'.cell? ⟨w.heap.size,0,none⟩=some (.int .i64 0)/\w'.cell? ⟨w.heap.size+1,0,none⟩=some (.int .i64 0)/\w'.frozen? ⟨w.heap.size,0,none⟩=false/\w'.frozen? ⟨w.heap.size+1,0,none⟩=false/\w.heap.size+1 < w'.heap.size/\Below w.heap.size w w':=by
 have hs:=h.size;have hz:(e0 w).heap.size=w.heap.size+1+1:=by simp [e0]
 refine ⟨?_,?_,?_,?_,by omega,(zHf w).trans (h.mono (zHf w).size)⟩
 ·rw [h.cell (p:=⟨w.heap.size,0,none⟩) (by simp only;omega)];simp [e0,go_sem]
 ·rw [h.cell (p:=⟨w.heap.size+1,0,none⟩) (by simp only;omega)];simp [e0,go_sem]
 ·rw [h.frozen (p:=⟨w.heap.size,0,none⟩) (by simp only;omega)];simp [e0,go_sem]
 ·rw [h.frozen (p:=⟨w.heap.size+1,0,none⟩) (by simp only;omega)];simp [e0,go_sem]
theorem zSR (ao:Option Addr) (n cap:Nat) (eao:Option Addr) (en ecap:Nat) (x:Int) (w:World) (hx:x≠0)
  (heo:Calls Tryz.prog 98 #[.slice ao n cap,.int .i64 en] (e0 w) fun e w''=>e=.returned (.tuple #[.slice none 0 0,.int .i64 x])/\Below (e0 w).heap.size (e0 w) w'') :
  Calls Tryz.prog 70 #[.slice ao n cap,.slice eao en ecap] w fun e w'=>e=.returned (.tuple #[.int .i64 0,.int .i64 x])/\Below w.heap.size w w':=by
 have hmf:=zEF
 go_enter_defers Tryz.func70,Tryz.ntmps70
 go_wp2_with (go_at_call 98;refine heo.mono ?_;rintro e w2 ⟨rfl,hb2⟩;obtain ⟨c0,c1,f0,f1,hsz,hbw⟩:=zJx w hb2)
 go_region
 all_goals go_wp2_with fail
 all_goals
  refine leaves_cons (f:=97) (args:=#[.pointer (some ⟨w.heap.size,0,none⟩),.pointer (some ⟨w.heap.size+1,0,none⟩)]) (by simp) (by simp [go_sem]) ?_
  refine (zE4 w.heap.size _).mono ?_
  rintro e u' w'' ⟨rfl,rfl,rfl⟩
  simp [Leaves,settle,results,Tryz.results70,go_sem,c0,c1]
  first
   | exact (((hbw.setCell (p:=⟨w.heap.size+1,0,none⟩) (by simp) _).drew).setCell (p:=⟨w.heap.size,0,none⟩) (Nat.le_refl _) _).setCell (p:=⟨w.heap.size+1,0,none⟩) (by simp) _
   | exact (((hbw.setCell (p:=⟨w.heap.size+1,0,none⟩) (by simp) _).drew).setCell (p:=⟨w.heap.size+1,0,none⟩) (by simp) _).setCell (p:=⟨w.heap.size,0,none⟩) (Nat.le_refl _) _
end Go.Proofs.YtiimhhjkgeepjaaGreatDoor
namespace Go.Proofs.YtiimhhjkgeepjaaGreatDoor
open Terms Tm
set_option maxHeartbeats 6400000
set_option maxRecDepth 20000
noncomputable def exN (l:List (Int × Int)) (env:List Int):Int:=zJp l (zCZ l) env
noncomputable def exC (l:List (Int × Int)) (env:List Int):Int:=zJn l (zCZ l) env
noncomputable def zCB (l:List (Int × Int)) (env:List Int):Bool:=decide (exC l env=0)&&decide (exN l env=1)
noncomputable def zCt (env:List Int) (sets:List St):Nat->List Int
 | 0=>env
 | k+1=>(zCt env sets k).set (sets.getD k st0).var.toNat (exN (sets.getD k st0).val env)
theorem zEi (env:List Int) (sets:List St) (k:Nat):(zCt env sets k).length=env.length:=by
 induction k with
 | zero=>rfl
 | succ k ih=>simp [zCt,ih]
noncomputable def zBI (env:List Int) (r:Ru):List Int:=zCt env r.sets r.sets.length
def zKS (env:List Int) (r:Ru):Prop:=∀ j,j < r.sets.length->exC (r.sets.getD j st0).val env=0
open Classical in
noncomputable def zBA (vars:List Vr) (env:List Int) (r:Ru):Option Int:=
 if zCB r.guard env=true/\zKS env r/\∀ i,i < vars.length->inB vars (zBI env r) i then some (zBF vars (zBI env r) vars.length) else none
def zNW:Option Int->Int
 | some x=>x
 | none=>0
def zM1:Option Int->Int
 | some _=>0
 | none=>11
theorem zK6 {vars:List Vr} {env:List Int} {r:Ru} (h:zCB r.guard env=false):zBA vars env r=none:=by
 unfold zBA;rw [if_neg (fun h2=>by rw [h] at h2;cases h2.1)]
theorem zM2 {vars:List Vr} {env:List Int} {r:Ru} {j:Nat} (hj:j < r.sets.length) (h:exC (r.sets.getD j st0).val env≠0):zBA vars env r=none:=by
 unfold zBA;rw [if_neg (fun h2=>h (h2.2.1 j hj))]
theorem zLh {vars:List Vr} {env:List Int} {r:Ru} (h1:zCB r.guard env=true) (h2:zKS env r) (hl:env.length=vars.length) {m:Mo} (hm:mcode m=0) (hv:m.vars=vars) :
  (zCJ m (zBI env r)=0->zBA vars env r=some (zDd m (zBI env r)))/\(zCJ m (zBI env r)≠0->zBA vars env r=none):=by
 have hb:(zBI env r).length=m.vars.length:=by unfold zBI;rw [zEi,hl,hv]
 subst hv
 by_cases hin:∀ i,i < m.vars.length->inB m.vars (zBI env r) i
 ·have hc:=zJI hm ⟨hb,hin⟩
  refine ⟨fun _=>?_,fun h=>absurd hc h⟩
  unfold zBA;rw [if_pos ⟨h1,h2,hin⟩];unfold zDd;rw [if_pos hc]
 ·have hc:=zHP hm (vals:=zBI env r) (fun h=>hin h.2)
  refine ⟨fun h=>(by rw [hc] at h;cases h),fun _=>?_⟩
  unfold zBA;rw [if_neg (fun h=>hin h.2.2)]
theorem zOF {vars:Int} {r:Ru} (h:zBD vars r=0):r.sets.length <= 6/\∀ j,j < r.sets.length->0 <= (r.sets.getD j st0).var/\(r.sets.getD j st0).var < vars:=by
 unfold zBD at h
 split at h
 ·simp at h
 ·rename_i h6
  refine ⟨by omega,fun j hj=>?_⟩
  split at h
  ·have h1:=zEj h j hj
   unfold sAt at h1
   split at h1
   ·simp at h1
   ·rename_i h2;omega
  ·rename_i h2;exact absurd h h2
theorem zHM {m:Mo} (h:mcode m=0):m.rules.length <= 12/\∀ j,j < m.rules.length->zBD m.vars.length (m.rules.getD j ru0)=0:=by
 unfold mcode at h
 split at h
 ·split at h
  ·simp at h
  ·rename_i h1;exact ⟨by omega,zEj h⟩
 ·rename_i h0;exact absurd h h0
theorem zIM {m:Mo} (h:mcode m=0):mcode ⟨m.vars,[]⟩=0:=by
 have hv:vcode m.vars=0:=by
  unfold mcode at h
  split at h
  ·assumption
  ·rename_i h0;exact absurd h h0
 unfold mcode;rw [if_pos hv];rfl
theorem zEd (l:List Vr) (c:Int):(zA0 l c).length=l.length:=by simp [zA0]
end Go.Proofs.YtiimhhjkgeepjaaGreatDoor
namespace Go.Proofs.YtiimhhjkgeepjaaGreatDoor
open Go.Shelf Go.RowKit Go.Lib
set_option maxHeartbeats 6400000
set_option maxRecDepth 20000
def zJZ:Go.Shelf.Ren:=⟨fun | 15=>69 | n=>n,fun | 22=>37 | 3=>3 | 4=>4 | n=>n,fun | n=>n⟩
theorem zPa:Go.Proofs.Lays2.n15 Tryz.prog zJZ:={
 mixed:=by kernel_rfl
 f15:=Tryz.func69.trans (congrArg some (by kernel_rfl))
 t3:=Tryz.underlying3
 a3:=Tryz.isAgg3
 z3:=Tryz.sizeOf3
 v3:=Tryz.zeroValue3
 t4:=Tryz.underlying4
 a4:=Tryz.isAgg4
 z4:=Tryz.sizeOf4
 v4:=Tryz.zeroValue4
 t22:=Tryz.underlying37
 a22:=Tryz.isAgg37
 z22:=Tryz.sizeOf37
 v22:=Tryz.zeroValue37
 i3:=by kernel_rfl}
theorem zOf (B:Nat) (l:List Int) (w:World) (hl:l.length <= 10000) (hr:w.rowIs B 3 l.length (fun j=>.int .i64 (l.getD j 0))) :
    Calls Tryz.prog 69 #[.slice (some ⟨B,0,none⟩) l.length l.length] w fun e w'=>∃ g cap,e=.returned (.slice (some ⟨g,0,none⟩) l.length cap)/\w.heap.size <= g/\Below w.heap.size w w'/\w'.ownsRow w.heap.size 3 1 (.slice (some ⟨g,0,none⟩) l.length cap) l.length (zAL l):=by
  have h:Calls Tryz.prog 69 #[.slice (some ⟨B,0,none⟩) l.length l.length] w fun e w'=>∃ v',e=.returned v'/\w'.ownsRow w.heap.size 3 1 v' l.length ((l.take l.length).map (Value.int .i64))/\v'≠.slice none 0 0/\Below w.heap.size w w':=
    Any.slices_Clone_int zPa B 0 l.length l.length l w (Nat.le_refl _) (by omega) (fun j hj=>by rw [Nat.zero_add];exact hr.cell hj)
  refine h.mono fun e w' ⟨v',he,ho,hn,hb⟩=>?_
  rw [List.take_length] at ho;obtain ⟨g,cap,rfl,hg,_⟩:=Lib.holds_of_ownsRow ho hn;exact ⟨g,cap,he,hg,hb,ho⟩
end Go.Proofs.YtiimhhjkgeepjaaGreatDoor
namespace Go.Proofs.YtiimhhjkgeepjaaGreatDoor
open Go.ChangeShapes Go.WideShapes Go.ChangeAt Go.RowKit Go.Deep
open Terms Tm
set_option maxHeartbeats 6400000
set_option maxRecDepth 20000
def zGy (w:World) (eao:Option Addr) (env:List Int):Prop:=∀ i,i < env.length->∃ eb eoff,eao=some ⟨eb,eoff,none⟩/\eb < w.heap.size/\w.cell? ⟨eb,eoff+i,none⟩=some (.int .i64 (env.getD i 0))
theorem zGy.later {w w':World} {eao:Option Addr} {env:List Int} (h:zGy w eao env) (hb:Below w.heap.size w w'):zGy w' eao env:=fun i hi=>by
 obtain ⟨eb,eoff,e1,e2,e3⟩:=h i hi;exact ⟨eb,eoff,e1,Nat.lt_of_lt_of_le e2 hb.size,(hb.cell (p:=⟨eb,eoff+i,none⟩) e2).trans e3⟩
def zFR (env:List Int) (t:Tm) (w:World) (e:Ending) (w':World):Prop:=
 e=.returned (.tuple #[.int .i64 (if zCb env=true then 0 else match t.eval env with | some x=>x | none=>0),.int .i64 (if zCb env=true then 2 else match t.eval env with | some _=>0 | none=>8)])/\Below w.heap.size w w'
theorem zQg (b off n cap:Nat) (eao:Option Addr) (en ecap:Nat) (t:Tm) (env:List Int) (w:World) (hn:n=t.size) (h60:n <= 60) (hen:en=env.length) (hen6:en <= 6) (hg:t.Good env.length) (hty:t.typed=true) (hbB:b < w.heap.size) (hA:zA4 w b off t.ops) (hE:zGy w eao env)
  (heo:Calls Tryz.prog 98 #[.slice (some ⟨b,off,none⟩) n cap,.int .i64 en] (e0 w) fun e w'=>Below (e0 w).heap.size (e0 w) w'/\∃ B,(e0 w).heap.size <= B/\e=.returned (.tuple #[.slice (some ⟨B,0,none⟩) n n,.int .i64 0])/\w'.rowIs B 3 n (fun q=>.int .i64 (zAi (t.ops.map Prod.fst) q))) :
  Calls Tryz.prog 70 #[.slice (some ⟨b,off,none⟩) n cap,.slice eao en ecap] w (zFR env t w):=by
 have hmf:=zEF;have HE:Hid (zGy w eao env):=hE;have HA:Hid (zA4 w b off t.ops):=hA;have HN:Hid (n=t.size/\t.Good env.length/\t.typed=true/\en=env.length):=⟨hn,hg,hty,hen⟩;have hn1:0 < n:=by rw [hn];exact t.size_pos
 have hzs:(e0 w).heap.size=w.heap.size+1+1:=by simp [e0]
 clear hE hA hn hg hty hen
 go_enter_defers Tryz.func70,Tryz.ntmps70
 go_wp2_with (go_at_call 98;refine heo.mono ?_;rintro e w2 ⟨hb2,B,hBw,rfl,hrow⟩;obtain ⟨c0,c1,f0,f1,hsz,hbw⟩:=zJx w hb2)
 obtain ⟨W3,hW3⟩:∃ W3,W3=w2.setCell ⟨w.heap.size+1,0,none⟩ (.int .i64 0):=⟨_,rfl⟩
 have hb3:Below w.heap.size w W3:=by rw [hW3];exact hbw.setCell (p:=⟨w.heap.size+1,0,none⟩) (by simp) _
 have d0:W3.cell? ⟨w.heap.size,0,none⟩=some (.int .i64 0):=by rw [hW3];simp [go_sem,c0]
 have d1:W3.cell? ⟨w.heap.size+1,0,none⟩=some (.int .i64 0):=by rw [hW3];simp [go_sem,c1]
 have g0:W3.frozen? ⟨w.heap.size,0,none⟩=false:=by rw [hW3];simp [go_sem,f0]
 have g1:W3.frozen? ⟨w.heap.size+1,0,none⟩=false:=by rw [hW3];simp [go_sem,f1]
 have hrow3:W3.rowIs B 3 n (fun q=>.int .i64 (zAi (t.ops.map Prod.fst) q)):=by rw [hW3];exact hrow.setOther (by simp;omega) _
 have hsz3:w.heap.size+1 < W3.heap.size:=by rw [hW3];simpa using hsz
 have HW3:=(show Hid _ from hW3)
 have HR:Hid (W3.rowIs B 3 n (fun q=>.int .i64 (zAi (t.ops.map Prod.fst) q))):=hrow3
 rw [<- hW3];clear hW3 hrow3 hrow heo hb2 c0 c1 f0 f1 hsz hbw HW3
 go_loop [23] (fun c=>∃ i:Nat,i <= en/\c=.int .i64 i/\Hid (∀ j,j < i->-1000000 <= env.getD j 0/\env.getD j 0 <= 1000000)) (fun c=>en - (intOf c).toNat)
 case atStart=>exact ⟨0,Nat.zero_le _,rfl,fun j hj=>by omega⟩
 case round=>
  obtain ⟨i,hi,rfl,HJ⟩:=hrel
  by_cases hlt:i < en
  ·obtain ⟨eb,eoff,rfl,e2,e3⟩:=(HE.out.later hb3) i (by rw [<- HN.out.2.2.2];exact hlt)
   have htg:=fun w=>zGY (env.getD i 0) w
   by_cases hz:-1000000 <= env.getD i 0/\env.getD i 0 <= 1000000
   ·rw [show decide (¬ (-1000000 <= env.getD i 0/\env.getD i 0 <= 1000000))=false by simpa using hz] at htg
    have HJ2:Hid (∀ j,j < i+1->-1000000 <= env.getD j 0/\env.getD j 0 <= 1000000):=fun j hj=>by
     by_cases hji:j < i
     ·exact HJ.out j hji
     ·obtain rfl:j=i:=by omega
      exact hz
    clear hz;generalize env.getD i 0=x at e3 htg
    go_wp2_with (go_at_call 99;refine (htg _).mono ?_;rintro e w5 ⟨rfl,rfl⟩)
    go_round
    case rel=>exact ⟨i+1,by omega,by go_num,HJ2⟩
    case measure=>simp [intOf];omega
   ·have HX:Hid (zCb env=true):=zOz (by rw [<- HN.out.2.2.2];exact hlt) hz
    generalize env.getD i 0=x at e3 htg hz;rw [show decide (¬ (-1000000 <= x/\x <= 1000000))=true by simp;omega] at htg
    clear hz
    go_wp2_with (go_at_call 99;refine (htg _).mono ?_;rintro e w5 ⟨rfl,rfl⟩)
    refine leaves_cons (f:=97) (args:=#[.pointer (some ⟨w.heap.size,0,none⟩),.pointer (some ⟨w.heap.size+1,0,none⟩)]) (by simp) (by simp [go_sem]) ?_
    refine (zE4 w.heap.size _).mono ?_
    rintro e u' w'' ⟨rfl,rfl,rfl⟩
    simp [Leaves,settle,results,Tryz.results70,go_sem,d0,d1]
    unfold zFR;rw [if_pos HX.out,if_pos HX.out];exact ⟨rfl,(hb3.setCell (p:=⟨w.heap.size,0,none⟩) (Nat.le_refl _) _).setCell (p:=⟨w.heap.size+1,0,none⟩) (by simp) _⟩
  ·have hin:i=en:=by omega
   subst hin;have hok:zCb env=false:=zN6 (fun j hj=>HJ.out j (by rw [HN.out.2.2.2];exact hj))
   have HX:Hid (zCb env=false):=hok;have hpm:=zIs W3;clear hlt hi
   go_wp2_with (go_at_call 100;refine hpm.mono ?_;rintro e W4 ⟨M,hM,rfl,hpa,hb4⟩)
   have hb5:Below W3.heap.size W3 (W4.alloc (.cells #[.slice (some ⟨b,off,none⟩) n cap,.slice (some ⟨B,0,none⟩) n n,.slice eao i ecap,.map (some M)] 187)):=hb4.alloc hb4.size _;have hpa5:zDX (W4.alloc (.cells #[.slice (some ⟨b,off,none⟩) n cap,.slice (some ⟨B,0,none⟩) n n,.slice eao i ecap,.map (some M)] 187)) M:=World.ownsMap.alloc hpa _
   have hwk:WorkAt (W4.alloc (.cells #[.slice (some ⟨b,off,none⟩) n cap,.slice (some ⟨B,0,none⟩) n n,.slice eao i ecap,.map (some M)] 187)) b off B eao M t env:=by
    have hbb:=hb3.trans (hb5.mono hb3.size);refine ⟨Nat.lt_of_lt_of_le hbB hbb.size,HA.out.below hbb hbB,?_,HE.out.later hbb,hpa5⟩
    have hr:=HR.out;rw [HN.out.1] at hr;exact hr.of_block (hb5.block B hr.lt)
   generalize W4.alloc (.cells #[.slice (some ⟨b,off,none⟩) n cap,.slice (some ⟨B,0,none⟩) n n,.slice eao i ecap,.map (some M)] 187)=W5 at *;have hat:=zSo b off n cap B eao i ecap M env.length t env HN.out.1 h60 HN.out.2.1 HN.out.2.2.1 (zKA hok) rfl HN.out.2.2.2 t.size 0 W5 hn1 (by rw [sub_zero];omega) hwk
   rw [sub_zero] at hat;have hs3:=hb3.size;have hs5:=hb5.size;clear hwk hpa hpa5 hok hpm hb4 HR
   cases hx:t.eval env with
   | none=>
    rw [hx] at hat;have HXN:Hid (t.eval env=none):=hx;clear hx;refine hat.mono ?_
    rintro e w6 ⟨hb6,rfl⟩
    have hb36:=hb5.trans (hb6.mono hb5.size);have k0:=(hb36.cell (p:=⟨w.heap.size,0,none⟩) (by simp only;omega)).trans d0
    have k1:=(hb36.cell (p:=⟨w.heap.size+1,0,none⟩) (by simp only;omega)).trans d1
    have z0:=(hb36.frozen (p:=⟨w.heap.size,0,none⟩) (by simp only;omega)).trans g0
    have z1:=(hb36.frozen (p:=⟨w.heap.size+1,0,none⟩) (by simp only;omega)).trans g1
    have hbf:=hb3.trans (hb36.mono hb3.size);refine leaves_cons (f:=97) (args:=#[.pointer (some ⟨w.heap.size,0,none⟩),.pointer (some ⟨w.heap.size+1,0,none⟩)]) (by simp) (by simp [go_sem]) ?_
    refine (zHU w.heap.size 8 _ _ w6 k0 k1 z0 z1).mono ?_
    rintro e u' w'' ⟨rfl,rfl,rfl⟩
    simp [Leaves,settle,results,Tryz.results70,go_sem,k0,k1]
    unfold zFR;rw [if_neg (by rw [HX.out];simp),if_neg (by rw [HX.out];simp),HXN.out]
    exact ⟨rfl,(((hbf.setCell (p:=⟨w.heap.size,0,none⟩) (Nat.le_refl _) _).setCell (p:=⟨w.heap.size+1,0,none⟩) (by simp) _)).drew⟩
   | some x=>
    rw [hx] at hat;have HXN:Hid (t.eval env=some x):=hx;clear hx;refine hat.mono ?_
    rintro e w6 ⟨hb6,rfl⟩
    have hb36:=hb5.trans (hb6.mono hb5.size);have k0:=(hb36.cell (p:=⟨w.heap.size,0,none⟩) (by simp only;omega)).trans d0
    have k1:=(hb36.cell (p:=⟨w.heap.size+1,0,none⟩) (by simp only;omega)).trans d1
    have z0:=(hb36.frozen (p:=⟨w.heap.size,0,none⟩) (by simp only;omega)).trans g0
    have z1:=(hb36.frozen (p:=⟨w.heap.size+1,0,none⟩) (by simp only;omega)).trans g1
    have hbf:=hb3.trans (hb36.mono hb3.size);clear d0 d1 g0 g1 hat
    go_wp2_with fail
    refine leaves_cons (f:=97) (args:=#[.pointer (some ⟨w.heap.size,0,none⟩),.pointer (some ⟨w.heap.size+1,0,none⟩)]) (by simp) (by simp [go_sem]) ?_
    refine (zE4 w.heap.size _).mono ?_
    rintro e u' w'' ⟨rfl,rfl,rfl⟩
    simp [Leaves,settle,results,Tryz.results70,go_sem,k0,k1]
    unfold zFR;rw [if_neg (by rw [HX.out];simp),if_neg (by rw [HX.out];simp),HXN.out]
    exact ⟨rfl,(hbf.setCell (p:=⟨w.heap.size,0,none⟩) (Nat.le_refl _) _).setCell (p:=⟨w.heap.size+1,0,none⟩) (by simp) _⟩
theorem zAD.env {w:World} {v:Value} {env:List Int} (h:zAD w v env):∃ eao ecap,v=.slice eao env.length ecap/\zGy w eao env:=by
 obtain ⟨ao,cap,rfl,h⟩:=h;refine ⟨ao,cap,rfl,fun i hi=>?_⟩
 obtain ⟨b,off,rfl,hlt,hat⟩:=h (by intro h;subst h;simp at hi)
 exact ⟨b,off,rfl,hlt,hat i hi⟩
theorem zQ4 (v ev:Value) (l:List (Int × Int)) (env:List Int) (t:Tm) (w:World) (hB:0 < w.heap.size) (hT:zAJ w) (hV:zAR w v l) (hE:zAD w ev env) (ht:zAE (l.map Prod.fst)=0->t.Wf/\t.ops=l) :
  Calls Tryz.prog 70 #[v,ev] w fun e w'=>e=.returned (.tuple #[.int .i64 (zJp l t env),.int .i64 (zJn l t env)])/\Below w.heap.size w w':=by
 have hb0:=zHf w;have heo:=zOj v l env.length t (e0 w) (Nat.lt_of_lt_of_le hB hb0.size) (hT.below hb0 hB) (hV.below hb0) ht;obtain ⟨eao,ecap,rfl,hEA⟩:=hE.env
 by_cases hx:zAx env.length l t=0
 ·obtain ⟨h0,h6,hops,hg,htt,h60⟩:=zIQ hx ht
  subst hops;obtain ⟨ao,cap,rfl,_,h⟩:=hV;obtain ⟨b,off,rfl,hlt,hat⟩:=h t.ops_ne;refine (zQg b off _ cap eao _ ecap t env w t.ops_length (by rw [ops_length];exact h60) rfl (by omega) hg htt hlt hat hEA (heo.mono fun e w' ⟨h1,_,h3⟩=>⟨h1,?_⟩)).mono fun e w' ⟨h1,h2⟩=>⟨?_,h2⟩
  ·obtain ⟨B,p1,p2,p3⟩:=h3 hx
   exact ⟨B,p1,p2,p3⟩
  ·rw [h1]
   simp only [zJp,zJn,hx,ne_eq,not_true_eq_false,if_false]
   all_goals (cases t.eval env <;> rfl)
 ·obtain ⟨ao,cap,rfl,_,h⟩:=hV
  refine (zSR ao _ cap eao _ ecap _ w hx (heo.mono fun e w' ⟨h1,h2,_⟩=>⟨h2 hx,h1⟩)).mono fun e w' ⟨h1,h2⟩=>⟨?_,h2⟩
  rw [h1];unfold zJp zJn;rw [if_pos hx,if_pos hx]
theorem zN5 (v ev:Value) (l:List (Int × Int)) (env:List Int) (w:World) (hB:0 < w.heap.size) (hT:zAJ w) (hV:zAR w v l) (hE:zAD w ev env) :
  Calls Tryz.prog 70 #[v,ev] w fun e w'=>e=.returned (.tuple #[.int .i64 (exN l env),.int .i64 (exC l env)])/\Below w.heap.size w w':=
 zQ4 v ev l env (zCZ l) w hB hT hV hE (zE2 l)
theorem zH9 (v ev:Value) (l:List (Int × Int)) (env:List Int) (w:World) (hB:0 < w.heap.size) (hT:zAJ w) (hV:zAR w v l) (hE:zAD w ev env) :
  Calls Tryz.prog 66 #[v,ev] w fun e w'=>e=.returned (.bool (zCB l env))/\Below w.heap.size w w':=by
 have hx:=zN5 v ev l env w hB hT hV hE;unfold zCB;generalize exN l env=n at hx ⊢;generalize exC l env=c at hx ⊢;clear hV hE hT
 go_enter Tryz.func66,Tryz.ntmps66
 go_wp2_with (go_at_call 70;refine hx.mono ?_;rintro e w1 ⟨rfl,hb1⟩)
 all_goals go_ret
 all_goals exact ⟨by first | (simp [*];done) | (simp [*];by_cases h1:n=1 <;> simp [h1]),hb1⟩
theorem zHb (ao ro:Option Addr) (n cap rn rc:Nat) (w:World) :
  Calls Tryz.prog 44 #[.agg #[.slice ao n cap,.slice ro rn rc]] w fun e w'=>e=.returned (.agg #[.slice ao n cap,.slice none 0 0])/\Below w.heap.size w w':=by
 go_enter Tryz.func44,Tryz.ntmps44
 go_wp2_with fail
 exact bodyPost_ret (v:=.agg #[.slice ao n cap,.slice none 0 0]) (by simp [results,Tryz.results44,go_sem]) rfl ⟨rfl,((Below.refl _ _).alloc (Nat.le_refl _) _).alloc (by simp) _⟩
theorem zMW (va vr gv sv:Value) (B:Nat) (m:Mo) (env:List Int) (r:Ru) (w:World) (hB:0 < w.heap.size) (hT:zAJ w) (hV:zAa w va vr m) (hm:mcode m=0) (hr:zBD m.vars.length r=0) (he:env.length=m.vars.length)
  (hrow:w.rowIs B 3 env.length (fun j=>.int .i64 (env.getD j 0))) (hg:zAR w gv r.guard) (hs:zCk w sv r.sets) :
  Calls Tryz.prog 45 #[.agg #[va,vr],.slice (some ⟨B,0,none⟩) env.length env.length,.agg #[gv,sv]] w fun e w'=>e=.returned (.tuple #[.int .i64 (zNW (zBA m.vars env r)),.int .i64 (zM1 (zBA m.vars env r))])/\Below w.heap.size w w':=by
 obtain ⟨h6,hsv⟩:=zOF hr;have hv6:=(zAt hm).1;obtain ⟨ao,cap,rfl⟩:=hV.1.shape;obtain ⟨ro,rc,rfl⟩:=hV.2.shape;obtain ⟨go,gc,rfl⟩:=hg.shape;obtain ⟨so,sc,rfl⟩:=hs.shape;have hA2:∀ o o',Below w.heap.size w ((w.alloc o).alloc o'):=fun o o'=>((Below.refl _ _).alloc (Nat.le_refl _) o).alloc (by simp) o'
 have hI:zAD w (.slice (some ⟨B,0,none⟩) env.length env.length) env:=by
  have h1:=zDn hrow
  have e1:(List.range env.length).map (fun j=>env.getD j 0)=env:=by
   apply List.ext_getElem?
   intro i
   by_cases hi:i < env.length
   ·simp [hi,List.getD_eq_getElem?_getD]
   ·simp [hi]
  rwa [e1] at h1
 have hho:=fun w' (hb:Below w.heap.size w w')=>zH9 (.slice go r.guard.length gc) (.slice (some ⟨B,0,none⟩) env.length env.length) r.guard env w' (Nat.lt_of_lt_of_le hB hb.size) (hT.below hb hB) (hg.below hb) (hI.below hb)
 have hcl:=fun w' (hb:Below w.heap.size w w')=>zOf B env w' (by omega) (zAp hrow hb)
 have HEx:Hid (∀ w' (_:Below w.heap.size w w') v l,zAR w' v l->Calls Tryz.prog 70 #[v,.slice (some ⟨B,0,none⟩) env.length env.length] w' fun e w2=>e=.returned (.tuple #[.int .i64 (exN l env),.int .i64 (exC l env)])/\Below w'.heap.size w' w2):=fun w' hb v l hv=>zN5 v _ l env w' (Nat.lt_of_lt_of_le hB hb.size) (hT.below hb hB) hv (hI.below hb)
 have HCo:Hid (∀ w' (_:Below w.heap.size w w') vv vals,zAD w' vv vals->Calls Tryz.prog 71 #[.agg #[.slice ao m.vars.length cap,.slice none 0 0],vv] w' fun e w2=>e=.returned (.tuple #[.int .i64 (zDd ⟨m.vars,[]⟩ vals),.int .i64 (zCJ ⟨m.vars,[]⟩ vals)])/\Below w'.heap.size w' w2):=fun w' hb vv vals hi=>
  zMj _ _ vv ⟨m.vars,[]⟩ vals w' (Nat.lt_of_lt_of_le hB hb.size) (hT.below hb hB) ⟨hV.1.below hb,⟨none,0,rfl,⟨by simp,fun _=>⟨rfl,rfl⟩⟩,fun h=>by simp at h⟩⟩ hi
 have HS:Hid (zCk w (.slice so r.sets.length sc) r.sets):=hs;have HSV:Hid (∀ j,j < r.sets.length->0 <= (r.sets.getD j st0).var/\(r.sets.getD j st0).var < m.vars.length):=hsv
 have HE:Hid (env.length=m.vars.length):=he;have HM0:Hid (mcode ⟨m.vars,[]⟩=0):=zIM hm;clear hV hT hg hs hsv hm hr hI hrow he
 by_cases hgd:zCB r.guard env=true
 ·rw [hgd] at hho
  go_enter Tryz.func45,Tryz.ntmps45
  go_wp2_with (go_at_call 66;refine (hho _ (hA2 _ _)).mono ?_;rintro e w1 ⟨rfl,hb1⟩;have hbw1:=(hA2 _ _).trans (hb1.mono (hA2 _ _).size))
  have hs1:w.heap.size+1 < w1.heap.size:=by have:=hb1.size;simp at this;omega
  have k10:w1.cell? ⟨w.heap.size,0,none⟩=some (.slice ao m.vars.length cap):=(hb1.cell (p:=⟨w.heap.size,0,none⟩) (by simp;omega)).trans (by simp [go_sem])
  have k11:w1.cell? ⟨w.heap.size,1,none⟩=some (.slice ro m.rules.length rc):=(hb1.cell (p:=⟨w.heap.size,1,none⟩) (by simp;omega)).trans (by simp [go_sem])
  have k12:w1.cell? ⟨w.heap.size+1,1,none⟩=some (.slice so r.sets.length sc):=(hb1.cell (p:=⟨w.heap.size+1,1,none⟩) (by simp)).trans (by simp [go_sem])
  have HC1:Hid (∀ w',Below w1.heap.size w1 w'->w'.cell? ⟨w.heap.size,0,none⟩=some (.slice ao m.vars.length cap)/\w'.cell? ⟨w.heap.size,1,none⟩=some (.slice ro m.rules.length rc)/\w'.cell? ⟨w.heap.size+1,1,none⟩=some (.slice so r.sets.length sc)):=fun w' hb=>⟨(hb.cell (p:=⟨w.heap.size,0,none⟩) (by simp only;omega)).trans k10,(hb.cell (p:=⟨w.heap.size,1,none⟩) (by simp only;omega)).trans k11,(hb.cell (p:=⟨w.heap.size+1,1,none⟩) hs1).trans k12⟩
  have HBW1:Hid (Below w.heap.size w w1):=hbw1;have hcl1:=hcl w1 hbw1;clear hho hcl hb1 hbw1
  go_wp2_with (go_at_call 69;refine hcl1.mono ?_;rintro e w2 ⟨g,gcap,rfl,hgl,hb2,ho2⟩;obtain ⟨k20,k21,k22⟩:=HC1.out w2 hb2)
  have HO2:Hid (w2.ownsRow w1.heap.size 3 1 (.slice (some ⟨g,0,none⟩) env.length gcap) env.length (zAL env)):=ho2;have HB2:Hid (Below w1.heap.size w1 w2):=hb2;have HRS:Hid (∀ j,j < r.sets.length->exC (r.sets.getD j st0).val env≠0->zBA m.vars env r=none):=fun j hj h=>zM2 hj h
  have HRC:Hid (zKS env r->(zCJ ⟨m.vars,[]⟩ (zBI env r)=0->zBA m.vars env r=some (zDd ⟨m.vars,[]⟩ (zBI env r)))/\(zCJ ⟨m.vars,[]⟩ (zBI env r)≠0->zBA m.vars env r=none)):=fun h=>zLh hgd h HE.out HM0.out rfl
  have HBL:Hid (zBI env r=zCt env r.sets r.sets.length):=rfl;obtain ⟨sn,hsn⟩:∃ sn,sn=r.sets.length:=⟨_,rfl⟩
  have HSN:Hid (sn=r.sets.length):=hsn;rw [<- hsn] at h6 HS HC1 k22 ⊢;obtain ⟨res,hres⟩:∃ res,zBA m.vars env r=res:=⟨_,rfl⟩
  rw [hres] at HRS HRC;have HRes:Hid (zBA m.vars env r=res):=hres;clear hcl1 ho2 hb2 hsn hres hgd
  go_loopw [25] (fun i wr=>∃ k:Nat,k <= sn/\i=.int .i64 k/\Hid (∀ j,j < k->exC (r.sets.getD j st0).val env=0)/\Hid (wr.ownsRow w1.heap.size 3 1 (.slice (some ⟨g,0,none⟩) env.length gcap) env.length (zAL (zCt env r.sets k)))/\Hid (Below w1.heap.size w1 wr)) (fun i _=>sn - (intOf i).toNat)
  case atStart=>exact ⟨0,Nat.zero_le _,rfl,fun j hj=>by omega,HO2.out,HB2.out⟩
  case round=>
   obtain ⟨k,hk,rfl,HOK,HOwn,HBel⟩:=hrel;have hbel:=HBel.out;have hbw:=HBW1.out.trans (hbel.mono HBW1.out.size);obtain ⟨kr0,kr1,kr2⟩:=HC1.out wr hbel
   by_cases hlt:k < sn
   ·obtain ⟨b,off,rfl,hblt,hat⟩:=HS.out.at (i:=k) (by rw [<- HSN.out];exact hlt)
    obtain ⟨c0,u,c1,hou⟩:=hat.below hbw hblt;obtain ⟨uo,uc,rfl⟩:=hou.shape;have HSk:=HSV.out k (by rw [<- HSN.out];exact hlt)
    have HRk:Hid (exC (r.sets.getD k st0).val env≠0->res=none):=HRS.out k (by rw [<- HSN.out];exact hlt)
    have HStep:Hid (zCt env r.sets (k+1)=(zCt env r.sets k).set (r.sets.getD k st0).var.toNat (exN (r.sets.getD k st0).val env)):=rfl
    have HOK2:Hid (exC (r.sets.getD k st0).val env=0->∀ j,j < k+1->exC (r.sets.getD j st0).val env=0):=fun h j hj=>by
     by_cases hjk:j=k
     ·subst hjk;exact h
     ·exact HOK.out j (by omega)
    have hAr:∀ o,Below w.heap.size w (wr.alloc o):=fun o=>hbw.alloc hbw.size o
    have hex:=fun o=>HEx.out (wr.alloc o) (hAr o) _ _ (hou.below ((Below.refl _ _).alloc (Nat.le_refl _) o))
    obtain ⟨hv0,hv1⟩:=HSk;obtain ⟨vn,hvn⟩:∃ vn:Nat,(r.sets.getD k st0).var=vn:=⟨(r.sets.getD k st0).var.toNat,by omega⟩
    rw [hvn] at hv0 hv1 c0 HStep;rw [Int.toNat_natCast] at HStep;have hvn2:vn < env.length:=by rw [HE.out];omega
    generalize exN (r.sets.getD k st0).val env=N at hex HStep;generalize exC (r.sets.getD k st0).val env=C at hex HRk HOK2;generalize (r.sets.getD k st0).val.length=ul at hex c1 hou
    have HBr:Hid (∀ o w4,Below (wr.alloc o).heap.size (wr.alloc o) w4->Below w1.heap.size w1 w4/\w4.ownsRow w1.heap.size 3 1 (.slice (some ⟨g,0,none⟩) env.length gcap) env.length (zAL (zCt env r.sets k))/\w4.cell? ⟨wr.heap.size,0,none⟩=(wr.alloc o).cell? ⟨wr.heap.size,0,none⟩):=fun o w4 hb=>
     ⟨(hbel.alloc hbel.size o).trans (hb.mono (hbel.alloc hbel.size o).size),zAW (zAW HOwn.out ((Below.refl _ _).alloc (Nat.le_refl _) o) (Nat.le_refl _)) hb (Nat.le_refl _),hb.cell (p:=⟨wr.heap.size,0,none⟩) (by simp)⟩
    clear hat hou hvn hAr HRS HEx HCo HS HSV HRC kr0 kr1 kr2 k20 k21 k22 k10 k11 k12 hbel hbw
    by_cases hC:C=0
    ·subst hC
     go_wp2_with (go_at_call 70;refine (hex _).mono ?_;rintro e w4 ⟨rfl,hb4⟩;obtain ⟨hb14,ho4,hcv⟩:=HBr.out _ w4 hb4;have hcell:=ho4.cellAt vn (by omega);rw [show (zAL (zCt env r.sets k))[vn]? = some (.int .i64 ((zCt env r.sets k).getD vn 0)) by simp [zAL,List.getD_eq_getElem?_getD,zEi,hvn2]] at hcell;have hfz:=ho4.frozenAt vn;have hcv2:w4.cell? ⟨wr.heap.size,0,none⟩=some (.int .i64 vn):=(by rw [hcv];simp [go_sem]))
     refine ⟨⟨k+1,hlt,by first | rfl | simp,HOK2.out trivial,?_,hb14.setCell hgl _⟩,by simp [intOf];omega⟩
     have hst:=(ho4.stored vn (.int .i64 N)).1;rw [show (zAL (zCt env r.sets k)).set vn (.int .i64 N)=zAL (zCt env r.sets (k+1)) by rw [HStep.out];simp [zAL,List.map_set]] at hst
     exact hst
    ·have HRN:Hid (res=none):=HRk.out hC
     go_wp2_with (go_at_call 70;refine (hex _).mono ?_;rintro e w4 ⟨rfl,hb4⟩;obtain ⟨hb14,ho4,hcv⟩:=HBr.out _ w4 hb4)
     go_ret2
     exact ⟨by rw [HRes.out,HRN.out];rfl,HBW1.out.trans (hb14.mono HBW1.out.size)⟩
   ·have hkn:k=sn:=by omega
    subst hkn;have hbe:zBI env r=zCt env r.sets k:=by rw [HBL.out,HSN.out]
    have hrc:=HRC.out (fun j hj=>HOK.out j (by rw [HSN.out];exact hj))
    have ho:=HOwn.out;rw [<- hbe] at ho;have hlb:(zBI env r).length=env.length:=by rw [hbe,zEi]
    rw [<- hlb] at ho;have hba:=zHb ao ro m.vars.length cap m.rules.length rc wr;have HI:Hid (∀ w',Below wr.heap.size wr w'->zAD w' (.slice (some ⟨g,0,none⟩) (zBI env r).length gcap) (zBI env r)):=fun w' hb=>(zBH ho).below hb
    rw [hlb] at HI;have hco:=fun w' (hb:Below wr.heap.size wr w')=>HCo.out w' (hbw.trans (hb.mono hbw.size)) _ _ (HI.out w' hb)
    have HBWr:Hid (Below w.heap.size w wr):=hbw;generalize zDd ⟨m.vars,[]⟩ (zBI env r)=cv at hco hrc;generalize zCJ ⟨m.vars,[]⟩ (zBI env r)=cc at hco hrc;obtain ⟨hrc0,hrc1⟩:=hrc;clear hbe ho hlb HI HRC HRS HEx HCo HS HSV k20 k21 k22 k10 k11 k12 hbel hbw hlt hk HOK HOwn
    by_cases hcc:cc=0
    ·have hrn:=hrc0 hcc
     subst hcc;have HRN:Hid (res=some cv):=hrn;clear hrc0 hrc1 hrn
     go_wp2_with (first | (go_at_call 44;refine hba.mono ?_;rintro e w5 ⟨rfl,hb5⟩) | (go_at_call 71;refine (hco _ hb5).mono ?_;rintro e w6 ⟨rfl,hb6⟩))
     go_ret2
     exact ⟨by rw [HRes.out,HRN.out];rfl,HBWr.out.trans ((hb5.trans (hb6.mono hb5.size)).mono HBWr.out.size)⟩
    ·have HRN:Hid (res=none):=hrc1 hcc
     clear hrc0 hrc1
     go_wp2_with (first | (go_at_call 44;refine hba.mono ?_;rintro e w5 ⟨rfl,hb5⟩) | (go_at_call 71;refine (hco _ hb5).mono ?_;rintro e w6 ⟨rfl,hb6⟩))
     go_ret2
     exact ⟨by rw [HRes.out,HRN.out];rfl,HBWr.out.trans ((hb5.trans (hb6.mono hb5.size)).mono HBWr.out.size)⟩
 ·have hgd2:zCB r.guard env=false:=by simpa using hgd
  rw [hgd2] at hho;rw [zK6 hgd2]
  go_enter Tryz.func45,Tryz.ntmps45
  go_wp2_with (go_at_call 66;refine (hho _ (hA2 _ _)).mono ?_;rintro e w1 ⟨rfl,hb1⟩)
  go_ret2
  exact ⟨rfl,(hA2 _ _).trans (hb1.mono (hA2 _ _).size)⟩
theorem zNC {m:Mo} {code:Int} (h:zAr m code=0):mcode m=0/\0 <= code/\code < zAC m.vars m.vars.length:=by
 unfold zAr at h
 split at h
 ·rename_i h1
  split at h
  ·rename_i h2;exact ⟨h1,h2⟩
  ·cases h
 ·rename_i h1;exact absurd h h1
theorem zHD (va vr:Value) (m:Mo) (code:Int) (w:World) (hB:0 < w.heap.size) (hT:zAJ w) (hV:zAa w va vr m) (h:zAr m code=0) :
  Calls Tryz.prog 43 #[.agg #[va,vr],.int .i64 code] w fun e w'=>∃ B,e=.returned (.tuple #[.slice (some ⟨B,0,none⟩) (zA0 m.vars code).length (zA0 m.vars code).length,.int .i64 0])/\w.heap.size <= B/\Below w.heap.size w w'/\w'.rowIs B 3 (zA0 m.vars code).length (fun j=>.int .i64 ((zA0 m.vars code).getD j 0)):=by
 obtain ⟨h1,h2⟩:=zNC h;refine (zGW va vr m code w hB hT hV h1 h2).mono fun e w' ⟨B,he,hl,hb,hr⟩=>?_
 rw [<- zEd m.vars code] at he hr;refine ⟨B,he,hl,hb,hr.congr fun j hj=>?_⟩
 rw [zEd] at hj;simp [zA0,List.getD_eq_getElem?_getD,hj]
