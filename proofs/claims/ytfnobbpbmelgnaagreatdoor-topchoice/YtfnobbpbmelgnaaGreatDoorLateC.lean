/- Joined texts. -/
import Derived.Test.YtfnobbpbmelgnaaGreatDoorLateB
import Derived.Shelf.Sort.Plain
import Derived.Shelf.Slices.Reverse
import Derived.Shelf.Slices.CompactI
import Derived.Shelf.Slices.SearchI
import Derived.Shelf.Slices.In.SortNone
import Derived.Sort.OwnSortedInts
import Derived.Lib.RowBridge
import Derived.Laws.CopyRow
import Derived.Laws.IdiomCopy
import Derived.DeepKeys4
namespace Go.Proofs.YtfnobbpbmelgnaaGreatDoor
open Go.ChangeShapes Go.WideShapes Go.ChangeAt Go.RowKit Go.Deep
open Terms
set_option maxHeartbeats 6400000
set_option maxRecDepth 20000
theorem comes_any (b off n cap B bH bN:Nat) (l:List (Int × Int)) (h g:Nat->Bool) (p:Nat) (kx:Int) (aao:Option Addr) (an ac:Nat) (w:World) (hI:PlaceIn w b off n cap B bH l h p kx) (hN:∀ j,j < n->w.cell? ⟨bN,j,none⟩=some (.bool (g j))) (hNl:bN < w.heap.size) :
  Calls Tryz.prog 103 #[.agg #[.slice (some ⟨b,off,none⟩) n cap,.slice (some ⟨B,0,none⟩) n n,.slice aao an ac],.int .i64 (p:Int),.slice (some ⟨bH,0,none⟩) n n,.slice (some ⟨bN,0,none⟩) n n] w fun e w'=>e=.returned (.bool (comeB kx (h (p+1)) (h (sec l p)) (g p) (g (p+1))))/\Below w.heap.size w w':=by
 obtain ⟨h60,hp,hp1,hp2,ck,hbl,hrow,hhl,hends,hel⟩:=hI;have hA:Below w.heap.size w (((w.alloc (.cells #[.slice (some ⟨b,off,none⟩) n cap,.slice (some ⟨B,0,none⟩) n n,.slice aao an ac] 130)).alloc (.cells #[.int .i64 (p:Int)] 3)).alloc (.cells #[.slice (some ⟨bN,0,none⟩) n n] 100)):=(((Below.refl _ _).alloc (Nat.le_refl _) _).alloc (by simp) _).alloc (by simp;omega) _
 have hpa:=parts_any b off cap n B bH p _ h l aao an ac rfl (((w.alloc (.cells #[.slice (some ⟨b,off,none⟩) n cap,.slice (some ⟨B,0,none⟩) n n,.slice aao an ac] 130)).alloc (.cells #[.int .i64 (p:Int)] 3)).alloc (.cells #[.slice (some ⟨bN,0,none⟩) n n] 100)) (fun j hj=>(hA.cell (p:=⟨bH,j,none⟩) hhl).trans (hrow j hj)) (Nat.lt_of_lt_of_le hhl hA.size) (fun j hj=>(hA.cell (p:=⟨B,j,none⟩) hel).trans (hends j hj)) (Nat.lt_of_lt_of_le hel hA.size)
 simp only [World.size_alloc] at hpa
 have HP2:Hid (∀ w2,Below (w.heap.size+1+1+1) (((w.alloc (.cells #[.slice (some ⟨b,off,none⟩) n cap,.slice (some ⟨B,0,none⟩) n n,.slice aao an ac] 130)).alloc (.cells #[.int .i64 (p:Int)] 3)).alloc (.cells #[.slice (some ⟨bN,0,none⟩) n n] 100)) w2->Below w.heap.size w w2/\w2.cell? ⟨b,off+p*2,none⟩=some (.int .i64 kx)/\w2.cell? ⟨w.heap.size,0,none⟩=some (.slice (some ⟨b,off,none⟩) n cap)/\w2.cell? ⟨w.heap.size,1,none⟩=some (.slice (some ⟨B,0,none⟩) n n)/\w2.cell? ⟨w.heap.size,2,none⟩=some (.slice aao an ac)/\w2.cell? ⟨w.heap.size+1,0,none⟩=some (.int .i64 (p:Int))/\w2.cell? ⟨w.heap.size+1+1,0,none⟩=some (.slice (some ⟨bN,0,none⟩) n n)):=fun w2 hb=>by
  have hb2:=hA.trans (hb.mono (by omega))
  refine ⟨hb2,(hb2.cell (p:=⟨b,_,none⟩) hbl).trans ck,(hb.cell (p:=⟨w.heap.size,0,none⟩) (by first | (simp;omega) | simp)).trans (by simp [go_sem]),(hb.cell (p:=⟨w.heap.size,1,none⟩) (by first | (simp;omega) | simp)).trans (by simp [go_sem]),(hb.cell (p:=⟨w.heap.size,2,none⟩) (by first | (simp;omega) | simp)).trans (by simp [go_sem]),(hb.cell (p:=⟨w.heap.size+1,0,none⟩) (by first | (simp;omega) | simp)).trans (by simp [go_sem]),(hb.cell (p:=⟨w.heap.size+1+1,0,none⟩) (by simp)).trans (by simp [go_sem])⟩
 have HF:Hid (∀ w2 bh bf bp,PartsAt w2 bh bf bp bH n B p h l->∀ w3,(∀ q,w3.cell? q=w2.cell? q)->Calls Tryz.prog 100 #[.pointer (some ⟨bh,0,none⟩),.pointer (some ⟨bp,0,none⟩)] w3 fun e w'=>e=.returned (.bool (h (p+1)))/\w'=w3):=fun w2 bh bf bp hP w3 hc=>first_any bh bp bH n p _ w3 h60 hp1 ((hc _).trans hP.holds) ((hc _).trans hP.place) ((hc _).trans (hP.row _ hp1))
 have HS:Hid ((kx=15\/kx=16)->∀ w2 bh bf bp,PartsAt w2 bh bf bp bH n B p h l->Calls Tryz.prog 101 #[.pointer (some ⟨bh,0,none⟩),.pointer (some ⟨bf,0,none⟩),.pointer (some ⟨bp,0,none⟩)] w2 fun e w'=>e=.returned (.bool (h (sec l p)))/\∃ r,w'=w2.drewN r):=fun hk w2 bh bf bp hP=>second_any bh bf bp bH n B p (sec l p) _ w2 h60 hp1 (hp2 hk) hP.holds hP.place hP.ends (hP.erow _ hp1) (hP.row _ (hp2 hk))
 have HZ:Hid (∀ w2,Below w.heap.size w w2->w2.cell? ⟨w.heap.size+1,0,none⟩=some (.int .i64 (p:Int))->w2.cell? ⟨w.heap.size+1+1,0,none⟩=some (.slice (some ⟨bN,0,none⟩) n n)->∀ w3,(∀ q,w3.cell? q=w2.cell? q)->Calls Tryz.prog 121 #[.pointer (some ⟨w.heap.size+1+1,0,none⟩),.pointer (some ⟨w.heap.size+1,0,none⟩)] w3 fun e w'=>e=.returned (.bool (g p))/\w'=w3):=fun w2 hb c1 c2 w3 hc=>itself_any _ _ bN n p _ w3 hp ((hc _).trans c2) ((hc _).trans c1) ((hc _).trans ((hb.cell (p:=⟨bN,p,none⟩) hNl).trans (hN p hp)))
 have HPN:Hid (∀ w2,Below w.heap.size w w2->Calls Tryz.prog 82 #[.agg #[.slice (some ⟨b,off,none⟩) n cap,.slice (some ⟨B,0,none⟩) n n,.slice aao an ac],.int .i64 (p:Int),.slice (some ⟨bN,0,none⟩) n n] w2 fun e w'=>e=.returned (.tuple #[.func (.func 100) #[] #[.pointer (some ⟨w2.heap.size+1+1,0,none⟩),.pointer (some ⟨w2.heap.size+1,0,none⟩)],.func (.func 101) #[] #[.pointer (some ⟨w2.heap.size+1+1,0,none⟩),.pointer (some ⟨w2.heap.size,0,none⟩),.pointer (some ⟨w2.heap.size+1,0,none⟩)]])/\Below w.heap.size w w'/\Hid (Calls Tryz.prog 100 #[.pointer (some ⟨w2.heap.size+1+1,0,none⟩),.pointer (some ⟨w2.heap.size+1,0,none⟩)] w' fun e w''=>e=.returned (.bool (g (p+1)))/\w''=w')):=fun w2 hb=>by
  refine (parts_any b off cap n B bN p _ g l aao an ac rfl w2 (fun j hj=>(hb.cell (p:=⟨bN,j,none⟩) hNl).trans (hN j hj)) (Nat.lt_of_lt_of_le hNl hb.size) (fun j hj=>(hb.cell (p:=⟨B,j,none⟩) hel).trans (hends j hj)) (Nat.lt_of_lt_of_le hel hb.size)).mono fun e w' ⟨h1,h2,h3⟩=>⟨h1,hb.trans (h2.mono hb.size),?_⟩
  exact first_any _ _ bN n p _ w' h60 hp1 h3.out.holds h3.out.place (h3.out.row _ hp1)
 generalize hx:h (p+1)=x at *;generalize hy:h (sec l p)=y at *;generalize hz:g p=z at *;generalize hnx:g (p+1)=nx at *;clear hx hy hz hnx hrow hends ck hp2 hN
 by_cases e17:kx=17
 ·subst e17
  rw [show comeB 17 x y z nx=(x||z) by simp [comeB]]
  clear HS HPN
  cases x
  all_goals
   go_enter Tryz.func103,Tryz.ntmps103
   go_wp2_with (first | (go_at_call 82;refine hpa.mono ?_;clear hpa;rintro e w2 ⟨rfl,hb2,HP⟩;obtain ⟨hbw,d0,d1,d2,d3,d4,d5⟩:=HP2.out w2 hb2;have hf:=HF.out w2 _ _ _ HP.out;have hit:=HZ.out w2 hbw d4 d5) | (go_at_call 100;refine (hf _ (by first | exact fun _=>rfl | (intro q;simp))).mono ?_;rintro e w3 ⟨rfl,hw3⟩;obtain rfl:=hw3.symm) | (go_at_call 121;refine (hit _ (by first | exact fun _=>rfl | (intro q;simp))).mono ?_;rintro e w3 ⟨rfl,hw3⟩;obtain rfl:=hw3.symm))
   go_ret
   exact ⟨by first | rfl | simp,by first | exact hbw | exact below_drewN hbw _⟩
 ·by_cases e18:kx=18
  ·subst e18
   rw [show comeB 18 x y z nx=(x&&z) by simp [comeB]]
   clear HS HPN
   cases x
   all_goals
    go_enter Tryz.func103,Tryz.ntmps103
    go_wp2_with (first | (go_at_call 82;refine hpa.mono ?_;clear hpa;rintro e w2 ⟨rfl,hb2,HP⟩;obtain ⟨hbw,d0,d1,d2,d3,d4,d5⟩:=HP2.out w2 hb2;have hf:=HF.out w2 _ _ _ HP.out;have hit:=HZ.out w2 hbw d4 d5) | (go_at_call 100;refine (hf _ (by first | exact fun _=>rfl | (intro q;simp))).mono ?_;rintro e w3 ⟨rfl,hw3⟩;obtain rfl:=hw3.symm) | (go_at_call 121;refine (hit _ (by first | exact fun _=>rfl | (intro q;simp))).mono ?_;rintro e w3 ⟨rfl,hw3⟩;obtain rfl:=hw3.symm))
    go_ret
    exact ⟨by first | rfl | simp,by first | exact hbw | exact below_drewN hbw _⟩
  ·by_cases e15:kx=15
   ·subst e15
    rw [show comeB 15 x y z nx=(y||(x&&z)) by simp [comeB]]
    have HS2:=(show Hid _ from HS.out (by decide))
    clear HS HPN
    cases x <;> cases y
    all_goals
     go_enter Tryz.func103,Tryz.ntmps103
     go_wp2_with (first | (go_at_call 82;refine hpa.mono ?_;clear hpa;rintro e w2 ⟨rfl,hb2,HP⟩;obtain ⟨hbw,d0,d1,d2,d3,d4,d5⟩:=HP2.out w2 hb2;have hf:=HF.out w2 _ _ _ HP.out;have hs:=HS2.out w2 _ _ _ HP.out;have hit:=HZ.out w2 hbw d4 d5) | (go_at_call 100;refine (hf _ (by first | exact fun _=>rfl | (intro q;simp))).mono ?_;rintro e w3 ⟨rfl,hw3⟩;obtain rfl:=hw3.symm) | (go_at_call 101;refine hs.mono ?_;rintro e w3 ⟨rfl,r3,rfl⟩) | (go_at_call 121;refine (hit _ (by first | exact fun _=>rfl | (intro q;simp))).mono ?_;rintro e w3 ⟨rfl,hw3⟩;obtain rfl:=hw3.symm))
     go_ret
     exact ⟨by first | rfl | simp,by first | exact hbw | exact below_drewN hbw _⟩
   ·by_cases e16:kx=16
    ·subst e16
     rw [show comeB 16 x y z nx=(y&&(x||z)) by simp [comeB]]
     have HS2:=(show Hid _ from HS.out (by decide))
     clear HS HPN
     cases x <;> cases y
     all_goals
      go_enter Tryz.func103,Tryz.ntmps103
      go_wp2_with (first | (go_at_call 82;refine hpa.mono ?_;clear hpa;rintro e w2 ⟨rfl,hb2,HP⟩;obtain ⟨hbw,d0,d1,d2,d3,d4,d5⟩:=HP2.out w2 hb2;have hf:=HF.out w2 _ _ _ HP.out;have hs:=HS2.out w2 _ _ _ HP.out;have hit:=HZ.out w2 hbw d4 d5) | (go_at_call 100;refine (hf _ (by first | exact fun _=>rfl | (intro q;simp))).mono ?_;rintro e w3 ⟨rfl,hw3⟩;obtain rfl:=hw3.symm) | (go_at_call 101;refine hs.mono ?_;rintro e w3 ⟨rfl,r3,rfl⟩) | (go_at_call 121;refine (hit _ (by first | exact fun _=>rfl | (intro q;simp))).mono ?_;rintro e w3 ⟨rfl,hw3⟩;obtain rfl:=hw3.symm))
      go_ret
      exact ⟨by first | rfl | simp,by first | exact hbw | exact below_drewN hbw _⟩
    ·rw [show comeB kx x y z nx=nx by simp [comeB,e17,e18,e15,e16]]
     clear HS HF HZ
     go_enter Tryz.func103,Tryz.ntmps103
     go_wp2_with (first | (go_at_call 82;refine hpa.mono ?_;clear hpa;rintro e w2 ⟨rfl,hb2,HP⟩;obtain ⟨hbw,d0,d1,d2,d3,d4,d5⟩:=HP2.out w2 hb2;have hpn:=HPN.out w2 hbw) | (go_at_call 82;refine hpn.mono ?_;rintro e w4 ⟨rfl,hb4,HF4⟩) | (go_at_call 100;refine HF4.out.mono ?_;rintro e w5 ⟨rfl,hw5⟩;obtain rfl:=hw5.symm))
     go_ret
     exact ⟨rfl,hb4⟩
def comeAt (l:List (Int × Int)) (h g:Nat->Bool) (p:Nat):Bool:=comeB (l.getD p (0,0)).1 (h (p+1)) (h (sec l p)) (g p) (g (p+1))
def Fol (l:List (Int × Int)) (h g:Nat->Bool):Prop:=∀ p,p < l.length->lookB (l.getD p (0,0)).1=true->h p=comeAt l h g p
noncomputable def fcode (l:List (Int × Int)) (now:List Bool) (claim:Int) (next:List Bool) (later:Int):Int:=if now.length≠next.length then 1 else if tcode l now claim≠0 then tcode l now claim else tcode l next later
open Classical in
noncomputable def folR (l:List (Int × Int)) (now:List Bool) (claim:Int) (next:List Bool) (later:Int):Bool:=if fcode l now claim next later=0 then decide (Fol l (tru l now claim) (tru l next later)) else false
theorem folR_bad {l:List (Int × Int)} {now:List Bool} {claim:Int} {next:List Bool} {later:Int} (h:fcode l now claim next later≠0):folR l now claim next later=false:=by unfold folR;rw [if_neg h]
open Classical in
theorem folR_yes {l:List (Int × Int)} {now:List Bool} {claim:Int} {next:List Bool} {later:Int} (h:fcode l now claim next later=0) (h2:Fol l (tru l now claim) (tru l next later)):folR l now claim next later=true:=by unfold folR;rw [if_pos h];exact decide_eq_true h2
open Classical in
theorem folR_no {l:List (Int × Int)} {now:List Bool} {claim:Int} {next:List Bool} {later:Int} (h2:¬ Fol l (tru l now claim) (tru l next later)):folR l now claim next later=false:=by
 unfold folR
 split
 ·exact decide_eq_false h2
 ·rfl
theorem fol_len (v:Value) (no xo:Option Addr) (nn nc xn xc:Nat) (claim later:Int) (oo:Option Addr) (on oc:Nat) (hv:v=.slice oo on oc) (w:World) (h:nn≠xn) :
  Calls Tryz.prog 86 #[v,.slice no nn nc,.int .i64 claim,.slice xo xn xc,.int .i64 later] w fun e w'=>e=.returned (.tuple #[.bool false,.int .i64 1])/\Below w.heap.size w w':=by
 subst hv;have hne:¬ (nn:Int)=xn:=by omega
 clear h
 go_enter Tryz.func86,Tryz.ntmps86
 go_wp2_with fail
 go_ret2
 exact ⟨rfl,Below.refl _ _⟩
theorem fol_main (oo:Option Addr) (oc:Nat) (l:List (Int × Int)) (no xo:Option Addr) (nc xc:Nat) (now next:List Bool) (claim later:Int) (w:World) (hB:0 < w.heap.size) (hT:TabAt w) (hV:OpsV w (.slice oo l.length oc) l) (hL:BoolsV w (.slice no now.length nc) now) (hX:BoolsV w (.slice xo next.length xc) next) (hlen:now.length=next.length) :
  Calls Tryz.prog 86 #[.slice oo l.length oc,.slice no now.length nc,.int .i64 claim,.slice xo next.length xc,.int .i64 later] w fun e w'=>e=.returned (.tuple #[.bool (folR l now claim next later),.int .i64 (fcode l now claim next later)])/\Below w.heap.size w w':=by
 have hrd:=lread2 _ l now.length w hB hT hV
 by_cases hc:lcode now.length l=0
 ·obtain ⟨_,_,hz,_,h6⟩:=lcode_zero hc
  have hcx:lcode next.length l=0:=by rw [<- hlen];exact hc
  have hrd2:Calls Tryz.prog 59 #[.slice oo l.length oc,.int .i64 (now.length:Int)] w fun e w'=>Below w.heap.size w w'/\∃ B aao ac,e=.returned (.tuple #[.agg #[.slice oo l.length oc,.slice (some ⟨B,0,none⟩) l.length l.length,.slice aao (aheadL l).length ac],.int .i64 0])/\Hid (WholeAt w' (.slice oo l.length oc) B (.slice aao (aheadL l).length ac) l):=hrd.mono fun e w' ⟨h1,_,h3⟩=>⟨h1,h3 hc⟩
  have HM:Hid (∀ w1 B aao ac,Below w.heap.size w w1->WholeAt w1 (.slice oo l.length oc) B (.slice aao (aheadL l).length ac) l->Calls Tryz.prog 65 #[.agg #[.slice oo l.length oc,.slice (some ⟨B,0,none⟩) l.length l.length,.slice aao (aheadL l).length ac],.slice no now.length nc,.int .i64 claim] w1 (MethPost l now claim w1)):=fun w1 B aao ac hb hW=>meth_any _ B _ _ l now claim w1 hc hW (hL.below hb)
  have HM2:Hid (∀ w1 B aao ac,Below w.heap.size w w1->WholeAt w1 (.slice oo l.length oc) B (.slice aao (aheadL l).length ac) l->Calls Tryz.prog 65 #[.agg #[.slice oo l.length oc,.slice (some ⟨B,0,none⟩) l.length l.length,.slice aao (aheadL l).length ac],.slice xo next.length xc,.int .i64 later] w1 (MethPost l next later w1)):=fun w1 B aao ac hb hW=>meth_any _ B _ _ l next later w1 hcx hW (hX.below hb)
  have HWA:Hid (∀ w1 B aao ac,WholeAt w1 (.slice oo l.length oc) B (.slice aao (aheadL l).length ac) l->∀ o,WholeAt (w1.alloc o) (.slice oo l.length oc) B (.slice aao (aheadL l).length ac) l):=fun w1 B aao ac hW o=>hW.below ((Below.refl _ _).alloc (Nat.le_refl _) o)
  by_cases hcl:ClaimNo l claim
  ·have hft:fcode l now claim next later=2:=by unfold fcode;rw [if_neg (by simpa using hlen),tcode_no hc hcl,if_pos (by decide)]
   rw [folR_bad (by rw [hft];decide),hft]
   have HM3:Hid (∀ w1 B aao ac,Below w.heap.size w w1->WholeAt w1 (.slice oo l.length oc) B (.slice aao (aheadL l).length ac) l->∀ o,Calls Tryz.prog 65 #[.agg #[.slice oo l.length oc,.slice (some ⟨B,0,none⟩) l.length l.length,.slice aao (aheadL l).length ac],.slice no now.length nc,.int .i64 claim] (w1.alloc o) fun e w'=>e=.returned (.tuple #[.slice none 0 0,.int .i64 2])/\Below w1.heap.size w1 w'):=fun w1 B aao ac hb hW o=>(HM.out _ B aao ac (hb.alloc hb.size o) (HWA.out _ B aao ac hW o)).mono fun e w' ⟨h1,h2,_⟩=>⟨h2 hcl,((Below.refl _ _).alloc (Nat.le_refl _) o).trans (h1.mono (by simp))⟩
   generalize (aheadL l).length=an at *;rw [<- hlen];generalize now.length=ln at *;generalize l.length=n at *;clear hrd hT hV hL hX hc hcx HM HM2 HWA hcl hft hz h6 hlen
   go_enter Tryz.func86,Tryz.ntmps86
   go_wp2_with (first | (go_at_call 59;refine hrd2.mono ?_;rintro e w1 ⟨hb1,B,aao,ac,rfl,HW⟩;have hme:=HM3.out w1 B aao ac hb1 HW.out) | (go_at_call 65;refine (hme _).mono ?_;rintro e w2 ⟨rfl,hb2⟩))
   go_ret2
   exact ⟨rfl,hb1.trans (hb2.mono hb1.size)⟩
  ·have ht1:tcode l now claim=0:=tcode_ok hc hcl
   have hft:fcode l now claim next later=tcode l next later:=by unfold fcode;rw [if_neg (by simpa using hlen),ht1];rfl
   have HM3:Hid (∀ w1 B aao ac,Below w.heap.size w w1->WholeAt w1 (.slice oo l.length oc) B (.slice aao (aheadL l).length ac) l->Calls Tryz.prog 65 #[.agg #[.slice oo l.length oc,.slice (some ⟨B,0,none⟩) l.length l.length,.slice aao (aheadL l).length ac],.slice no now.length nc,.int .i64 claim] (w1.alloc (.cells #[.slice oo l.length oc,.slice (some ⟨B,0,none⟩) l.length l.length,.slice aao (aheadL l).length ac] 130)) fun e w'=>∃ bH,e=.returned (.tuple #[.slice (some ⟨bH,0,none⟩) l.length l.length,.int .i64 0])/\Below w1.heap.size w1 w'/\w1.heap.size < w'.heap.size/\w'.cell? ⟨w1.heap.size,0,none⟩=some (.slice oo l.length oc)/\w'.cell? ⟨w1.heap.size,1,none⟩=some (.slice (some ⟨B,0,none⟩) l.length l.length)/\w'.cell? ⟨w1.heap.size,2,none⟩=some (.slice aao (aheadL l).length ac)/\Hid (WholeAt w' (.slice oo l.length oc) B (.slice aao (aheadL l).length ac) l/\w'.rowIs bH 4 l.length (fun j=>.bool (tru l now claim j)))):=fun w1 B aao ac hb hW=>(HM.out _ B aao ac (hb.alloc hb.size _) (HWA.out _ B aao ac hW _)).mono fun e w' ⟨h1,_,h3⟩=>by
    obtain ⟨bH,he,hr⟩:=h3 hcl;have h1':Below (w1.heap.size+1) (w1.alloc (.cells #[.slice oo l.length oc,.slice (some ⟨B,0,none⟩) l.length l.length,.slice aao (aheadL l).length ac] 130)) w':=by simpa using h1
    have hb':Below w1.heap.size w1 w':=((Below.refl _ _).alloc (Nat.le_refl _) _).trans (h1'.mono (Nat.le_succ _))
    refine ⟨bH,he,hb',by have:=h1'.size;simp at this;omega,(h1'.cell (p:=⟨w1.heap.size,0,none⟩) (Nat.lt_succ_self _)).trans (by simp [go_sem]),(h1'.cell (p:=⟨w1.heap.size,1,none⟩) (Nat.lt_succ_self _)).trans (by simp [go_sem]),(h1'.cell (p:=⟨w1.heap.size,2,none⟩) (Nat.lt_succ_self _)).trans (by simp [go_sem]),hW.below hb',hr⟩
   by_cases hcl2:ClaimNo l later
   ·have hft2:fcode l now claim next later=2:=by rw [hft,tcode_no hcx hcl2]
    rw [folR_bad (by rw [hft2];decide),hft2]
    have HM4:Hid (∀ w1 B aao ac,Below w.heap.size w w1->WholeAt w1 (.slice oo l.length oc) B (.slice aao (aheadL l).length ac) l->Calls Tryz.prog 65 #[.agg #[.slice oo l.length oc,.slice (some ⟨B,0,none⟩) l.length l.length,.slice aao (aheadL l).length ac],.slice xo next.length xc,.int .i64 later] w1 fun e w'=>e=.returned (.tuple #[.slice none 0 0,.int .i64 2])/\Below w1.heap.size w1 w'):=fun w1 B aao ac hb hW=>(HM2.out _ B aao ac hb hW).mono fun e w' ⟨h1,h2,_⟩=>⟨h2 hcl2,h1⟩
    generalize (aheadL l).length=an at *;rw [<- hlen] at HM4 ⊢;generalize now.length=ln at *;generalize hnn:l.length=n at *;clear hrd hT hV hL hX hc hcx HM HM2 HWA hcl hcl2 hft hft2 ht1 hz h6 hlen hnn
    go_enter Tryz.func86,Tryz.ntmps86
    go_wp2_with (first | (go_at_call 59;refine hrd2.mono ?_;rintro e w1 ⟨hb1,B,aao,ac,rfl,HW⟩;have hme:=HM3.out w1 B aao ac hb1 HW.out) | (go_at_call 65;refine hme.mono ?_;clear hme;rintro e w2 ⟨bH,rfl,hb2,hs2,d0,d1,d2,HW2⟩;have hb12:=hb1.trans (hb2.mono hb1.size);have hme2:=HM4.out w2 B aao ac hb12 HW2.out.1) | (go_at_call 65;refine hme2.mono ?_;rintro e w3 ⟨rfl,hb3⟩))
    go_ret2
    exact ⟨rfl,hb12.trans (hb3.mono hb12.size)⟩
   ·have hft2:fcode l now claim next later=0:=by rw [hft,tcode_ok hcx hcl2]
    have HM4:Hid (∀ w1 B aao ac,Below w.heap.size w w1->WholeAt w1 (.slice oo l.length oc) B (.slice aao (aheadL l).length ac) l->Calls Tryz.prog 65 #[.agg #[.slice oo l.length oc,.slice (some ⟨B,0,none⟩) l.length l.length,.slice aao (aheadL l).length ac],.slice xo next.length xc,.int .i64 later] w1 fun e w'=>∃ bN,e=.returned (.tuple #[.slice (some ⟨bN,0,none⟩) l.length l.length,.int .i64 0])/\Below w1.heap.size w1 w'/\Hid (w'.rowIs bN 4 l.length (fun j=>.bool (tru l next later j)))):=fun w1 B aao ac hb hW=>(HM2.out _ B aao ac hb hW).mono fun e w' ⟨h1,_,h3⟩=>by
     obtain ⟨bN,he,hr⟩:=h3 hcl2;exact ⟨bN,he,h1,hr⟩
    have HYes:Hid (Fol l (tru l now claim) (tru l next later)->folR l now claim next later=true):=folR_yes hft2;have HNot:Hid (¬ Fol l (tru l now claim) (tru l next later)->folR l now claim next later=false):=folR_no
    have HFol:Hid (Fol l (tru l now claim) (tru l next later)↔∀ p,p < l.length->lookB (l.getD p (0,0)).1=true->tru l now claim p=comeAt l (tru l now claim) (tru l next later) p):=Iff.rfl
    have HCo:Hid (∀ w2 B bH bN aao ac p,WholeAt w2 (.slice oo l.length oc) B (.slice aao (aheadL l).length ac) l->w2.rowIs bH 4 l.length (fun j=>.bool (tru l now claim j))->w2.rowIs bN 4 l.length (fun j=>.bool (tru l next later j))->p < l.length->lookB (l.getD p (0,0)).1=true->Calls Tryz.prog 103 #[.agg #[.slice oo l.length oc,.slice (some ⟨B,0,none⟩) l.length l.length,.slice aao (aheadL l).length ac],.int .i64 (p:Int),.slice (some ⟨bH,0,none⟩) l.length l.length,.slice (some ⟨bN,0,none⟩) l.length l.length] w2 fun e w'=>e=.returned (.bool (comeAt l (tru l now claim) (tru l next later) p))/\Below w2.heap.size w2 w'):=fun w2 B bH bN aao ac p hW hr hr2 hp hk=>by
     obtain ⟨b,off,cap,hv,_⟩:=id hW
     injection hv with e1 e2 e3
     subst e1 e3;exact comes_any b off l.length oc B bH bN l _ _ p _ aao _ ac w2 (place_in hW hz hr hp hk) (fun j hj=>hr2.cell hj) hr2.lt
    have HG:Hid (∀ w2 B aao ac k,WholeAt w2 (.slice oo l.length oc) B (.slice aao (aheadL l).length ac) l->k < (aheadL l).length->∃ p:Nat,(∃ ab aoff,aao=some ⟨ab,aoff,none⟩/\ab < w2.heap.size/\w2.cell? ⟨ab,aoff+k,none⟩=some (.int .i64 (p:Int)))/\p < l.length/\lookB (l.getD p (0,0)).1=true/\(aheadTo l p).length=k):=fun w2 B aao ac k hW hk=>by
     obtain ⟨_,_,_,_,_,_,_,ao',ac',hsl,hai⟩:=hW
     injection hsl with e1 e2 e3
     subst e1;obtain ⟨ab,aoff,rfl,habl,haat⟩:=hai (by intro h;rw [h] at hk;simp at hk)
     obtain ⟨p,h1,h2,h3,h4⟩:=aheadTo_get l l.length k hk;have h1':(aheadL l).getD k 0=(p:Int):=h1;exact ⟨p,⟨ab,aoff,rfl,habl,by rw [haat k hk,h1']⟩,h2,h3,h4⟩
    have HLt:Hid (∀ p,p < l.length->lookB (l.getD p (0,0)).1=true->(aheadTo l p).length < (aheadL l).length):=fun p hp hk=>aheadTo_lt l hp hk
    have HUq:Hid (∀ p q,lookB (l.getD p (0,0)).1=true->lookB (l.getD q (0,0)).1=true->(aheadTo l p).length=(aheadTo l q).length->p=q):=fun p q h1 h2 he=>by
     rcases Nat.lt_trichotomy p q with h | h | h
     ·have:=aheadTo_lt l h h1;omega
     ·exact h
     ·have:=aheadTo_lt l h h2;omega
    rw [hft2];generalize folR l now claim next later=fr at *;generalize comeAt l (tru l now claim) (tru l next later)=cm at *;generalize Fol l (tru l now claim) (tru l next later)=FP at *;generalize tru l now claim=tn at *;generalize tru l next later=tx at *;obtain ⟨an,han⟩:∃ an,an=(aheadL l).length:=⟨_,rfl⟩
    rw [<- han] at hrd2 HM3 HM4 HCo HG HLt h6;rw [<- hlen] at HM4 ⊢;generalize now.length=ln at *;generalize hnn:l.length=n at *;clear hrd hT hV hL hX hc hcx HM HM2 HWA hcl hcl2 hft hft2 ht1 hz hlen hnn han
    go_enter Tryz.func86,Tryz.ntmps86
    go_wp2_with (first | (go_at_call 59;refine hrd2.mono ?_;rintro e w1 ⟨hb1,B,aao,ac,rfl,HW⟩;have hme:=HM3.out w1 B aao ac hb1 HW.out) | (go_at_call 65;refine hme.mono ?_;clear hme;rintro e w2 ⟨bH,rfl,hb2,hs2,d0,d1,d2,HW2⟩;have hb12:=hb1.trans (hb2.mono hb1.size);have hme2:=HM4.out w2 B aao ac hb12 HW2.out.1) | (go_at_call 65;refine hme2.mono ?_;clear hme2;rintro e w3 ⟨bN,rfl,hb3,HN3⟩;have g0:=(hb3.cell (p:=⟨w1.heap.size,0,none⟩) hs2).trans d0;have g1:=(hb3.cell (p:=⟨w1.heap.size,1,none⟩) hs2).trans d1;have g2:=(hb3.cell (p:=⟨w1.heap.size,2,none⟩) hs2).trans d2))
    have hb13:=hb12.trans (hb3.mono hb12.size);have hs3:=Nat.lt_of_lt_of_le hs2 hb3.size;have HW3:Hid (WholeAt w3 (.slice oo n oc) B (.slice aao an ac) l/\w3.rowIs bH 4 n (fun j=>.bool (tn j))):=⟨HW2.out.1.below hb3,row_later HW2.out.2 hb3⟩
    clear hrd2 HM3 HM4 HW HW2 d0 d1 d2
    go_loopw [56] (fun i wr=>∃ k:Nat,k <= an/\i=.int .i64 (k:Int)/\Hid (∀ p,p < n->lookB (l.getD p (0,0)).1=true->(aheadTo l p).length < k->tn p=cm p)/\Hid (Below w3.heap.size w3 wr)) (fun i _=>an - (intOf i).toNat)
    case atStart=>exact ⟨0,Nat.zero_le _,rfl,fun p _ _ h=>absurd h (Nat.not_lt_zero _),Below.refl _ _⟩
    case round=>
     obtain ⟨k,hk,rfl,HAll,HBel⟩:=hrel;have hbel:=HBel.out
     by_cases hlt:k < an
     ·have hWr:=HW3.out.1.below hbel
      obtain ⟨p,⟨ab,aoff,rfl,habl,hca⟩,hpn,hpk,hpi⟩:=HG.out wr B aao ac k hWr hlt;have hco:=HCo.out
      have HSt:Hid (∀ w',Below wr.heap.size wr w'->w'.cell? ⟨w1.heap.size,0,none⟩=some (.slice oo n oc)/\w'.cell? ⟨w1.heap.size,1,none⟩=some (.slice (some ⟨B,0,none⟩) n n)/\w'.cell? ⟨w1.heap.size,2,none⟩=some (.slice (some ⟨ab,aoff,none⟩) an ac)/\w'.cell? ⟨bH,p,none⟩=some (.bool (tn p))/\Below wr.heap.size wr w'):=fun w' hb=>by
       have hbw:=hbel.trans (hb.mono hbel.size);have hr:=row_later HW3.out.2 hbw;exact ⟨(hbw.cell (p:=⟨w1.heap.size,0,none⟩) hs3).trans g0,(hbw.cell (p:=⟨w1.heap.size,1,none⟩) hs3).trans g1,(hbw.cell (p:=⟨w1.heap.size,2,none⟩) hs3).trans g2,hr.cell hpn,hb⟩
      have hcc:=fun w' (hb:Below wr.heap.size wr w')=>HCo.out w' B bH bN _ ac p (hWr.below hb) (row_later (row_later HW3.out.2 hbel) hb) (row_later (row_later HN3.out hbel) hb) hpn hpk
      have hS:=HSt.out;have hB0:Below wr.heap.size wr wr:=Below.refl _ _
      have HNext:Hid (tn p=cm p->∀ q,q < n->lookB (l.getD q (0,0)).1=true->(aheadTo l q).length < k+1->tn q=cm q):=fun he q hq hqk hql=>by
       by_cases h:(aheadTo l q).length < k
       ·exact HAll.out q hq hqk h
       ·have hqp:q=p:=HUq.out q p hqk hpk (by omega)
        rw [hqp];exact he
      have HBad:Hid (tn p≠cm p->fr=false):=fun h=>HNot.out fun hf=>h (HFol.out.1 hf p hpn hpk)
      have hp0:(0:Int) <= (p:Int):=Int.natCast_nonneg _;have hpI:(p:Int) < (n:Int):=by omega
      generalize tn p=tv at *;generalize cm p=cv at *;clear HG HCo HAll HNot HYes HFol HLt HUq hco HSt hWr hpk hpi
      by_cases htv:tv=cv
      ·have HNx:=(show Hid _ from HNext.out htv)
       subst htv;clear HNext HBad
       go_wp2_with fail
       go_region_held3 (fun w'=>w'.cell? ⟨w1.heap.size,0,none⟩=some (.slice oo n oc)/\w'.cell? ⟨w1.heap.size,1,none⟩=some (.slice (some ⟨B,0,none⟩) n n)/\w'.cell? ⟨w1.heap.size,2,none⟩=some (.slice (some ⟨ab,aoff,none⟩) an ac)/\w'.cell? ⟨bH,p,none⟩=some (.bool tv)/\Below wr.heap.size wr w')
        (exact hS _ (by first | exact hB0 | exact hB0.drew | exact hB0.drew.trans hb4))
        (first | (go_at_call 103;refine (hcc _ hB0.drew).mono ?_;rintro e w4 ⟨rfl,hb4⟩))
       go_wp2_with fail
       have hbf:=hbel.trans ((hB0.drew.trans hb4).mono hbel.size);exact ⟨⟨k+1,hlt,by first | rfl | simp,HNx.out,hbf⟩,by simp [intOf];omega⟩
      ·have HF:=(show Hid _ from HBad.out htv)
       clear HNext HBad
       cases tv <;> cases cv
       ·exact absurd rfl htv
       ·go_wp2_with fail
        go_region_held3 (fun w'=>w'.cell? ⟨w1.heap.size,0,none⟩=some (.slice oo n oc)/\w'.cell? ⟨w1.heap.size,1,none⟩=some (.slice (some ⟨B,0,none⟩) n n)/\w'.cell? ⟨w1.heap.size,2,none⟩=some (.slice (some ⟨ab,aoff,none⟩) an ac)/\w'.cell? ⟨bH,p,none⟩=some (.bool false)/\Below wr.heap.size wr w')
         (exact hS _ (by first | exact hB0 | exact hB0.drew | exact hB0.drew.trans hb4))
         (first | (go_at_call 103;refine (hcc _ hB0.drew).mono ?_;rintro e w4 ⟨rfl,hb4⟩))
        go_wp2_with fail
        have hbf:=hbel.trans ((hB0.drew.trans hb4).mono hbel.size)
        go_ret2
        rw [HF.out];exact ⟨rfl,hb13.trans (hbf.mono hb13.size)⟩
       ·go_wp2_with fail
        go_region_held3 (fun w'=>w'.cell? ⟨w1.heap.size,0,none⟩=some (.slice oo n oc)/\w'.cell? ⟨w1.heap.size,1,none⟩=some (.slice (some ⟨B,0,none⟩) n n)/\w'.cell? ⟨w1.heap.size,2,none⟩=some (.slice (some ⟨ab,aoff,none⟩) an ac)/\w'.cell? ⟨bH,p,none⟩=some (.bool true)/\Below wr.heap.size wr w')
         (exact hS _ (by first | exact hB0 | exact hB0.drew | exact hB0.drew.trans hb4))
         (first | (go_at_call 103;refine (hcc _ hB0.drew).mono ?_;rintro e w4 ⟨rfl,hb4⟩))
        go_wp2_with fail
        have hbf:=hbel.trans ((hB0.drew.trans hb4).mono hbel.size)
        go_ret2
        rw [HF.out];exact ⟨rfl,hb13.trans (hbf.mono hb13.size)⟩
       ·exact absurd rfl htv
     ·obtain rfl:k=an:=by omega
      have HFr:Hid (fr=true):=HYes.out (HFol.out.2 fun p hp hpk=>HAll.out p hp hpk (HLt.out p hp hpk))
      clear HG HCo HAll HNot HYes HFol HLt HUq
      go_wp2_with fail
      go_ret2
      rw [HFr.out];exact ⟨rfl,hb13.trans (hbel.mono hb13.size)⟩
 ·have hft:fcode l now claim next later=lcode now.length l:=by unfold fcode;rw [if_neg (by simpa using hlen),tcode_bad hc,if_pos hc]
  rw [folR_bad (by rw [hft];exact hc),hft]
  have hrd2:Calls Tryz.prog 59 #[.slice oo l.length oc,.int .i64 (now.length:Int)] w fun e w'=>Below w.heap.size w w'/\e=.returned (.tuple #[.agg #[.slice none 0 0,.slice none 0 0,.slice none 0 0],.int .i64 (lcode now.length l)]):=hrd.mono fun e w' ⟨h1,h2,_⟩=>⟨h1,h2 hc⟩
  rw [<- hlen];generalize lcode now.length l=x at *;generalize now.length=ln at *;generalize l.length=n at *;clear hrd hT hV hL hX hft hlen
  go_enter Tryz.func86,Tryz.ntmps86
  go_wp2_with (go_at_call 59;refine hrd2.mono ?_;rintro e w1 ⟨hb1,rfl⟩)
  go_ret2
  exact ⟨rfl,by first | exact hb1 | exact hb1.alloc hb1.size _⟩
theorem lfol_any (v nv xv:Value) (l:List (Int × Int)) (now next:List Bool) (claim later:Int) (w:World) (hB:0 < w.heap.size) (hT:TabAt w) (hV:OpsV w v l) (hL:BoolsV w nv now) (hX:BoolsV w xv next) :
  Calls Tryz.prog 86 #[v,nv,.int .i64 claim,xv,.int .i64 later] w fun e w'=>e=.returned (.tuple #[.bool (folR l now claim next later),.int .i64 (fcode l now claim next later)])/\Below w.heap.size w w':=by
 obtain ⟨oo,oc,rfl,_⟩:=id hV;obtain ⟨no,nc,rfl,_⟩:=id hL;obtain ⟨xo,xc,rfl,_⟩:=id hX
 by_cases hlen:now.length=next.length
 ·exact fol_main oo oc l no xo nc xc now next claim later w hB hT hV hL hX hlen
 ·have hf:fcode l now claim next later=1:=by unfold fcode;rw [if_pos hlen]
  rw [folR_bad (by rw [hf];decide),hf]
  exact fol_len _ no xo _ nc _ xc claim later oo l.length oc rfl w hlen
def askP (l:List (Int × Int)) (p:Nat):Nat:=if (l.getD p (0,0)).1=14 then p+1 else p
def signTo (l:List (Int × Int)) (g:Nat->Bool):Nat->Int
 | 0=>0
 | k+1=>signTo l g k+if g (askP l ((aheadL l).getD k 0).toNat)=true then 2 ^ k else 0
def signN (l:List (Int × Int)) (g:Nat->Bool):Int:=signTo l g (aheadL l).length
theorem signTo_bounds (l:List (Int × Int)) (g:Nat->Bool):∀ k,0 <= signTo l g k/\signTo l g k < 2 ^ k:=by
 intro k
 induction k with
 | zero=>simp [signTo]
 | succ k ih=>
  have h2:(0:Int) < 2 ^ k:=Int.pow_pos (by decide)
  rw [signTo,Int.pow_succ]
  split <;> omega
theorem sign_inj {l:List (Int × Int)} {g g':Nat->Bool}:∀ {k:Nat},signTo l g k=signTo l g' k->∀ j,j < k->g (askP l ((aheadL l).getD j 0).toNat)=g' (askP l ((aheadL l).getD j 0).toNat)
 | 0,_,j,hj=>by omega
 | k+1,h,j,hj=>by
  obtain ⟨a0,a1⟩:=signTo_bounds l g k;obtain ⟨b0,b1⟩:=signTo_bounds l g' k;have h2:(0:Int) < 2 ^ k:=Int.pow_pos (by decide)
  rw [signTo,signTo] at h
  rcases (show j < k\/j=k by omega) with h3 | h3
  ·refine sign_inj (k:=k) ?_ j h3
   split at h <;> split at h <;> omega
  ·subst h3
   generalize g (askP l ((aheadL l).getD j 0).toNat)=x at h ⊢;generalize g' (askP l ((aheadL l).getD j 0).toNat)=y at h ⊢
   cases x <;> cases y
   ·rfl
   ·rw [if_neg (by simp),if_pos rfl] at h;omega
   ·rw [if_pos rfl,if_neg (by simp)] at h;omega
   ·rfl
theorem ahead_pre (l:List (Int × Int)):∀ (d n:Nat),∃ r,aheadTo l (n+d)=aheadTo l n++r:=by
 intro d
 induction d with
 | zero=>exact fun n=>⟨[],by simp⟩
 | succ d ih=>
  intro n;obtain ⟨r,hr⟩:=ih n;refine ⟨r++(if lookB (l.getD (n+d) (0,0)).1=true then [((n+d:Nat):Int)] else []),?_⟩
  rw [show n+(d+1)=(n+d)+1 by omega,aheadTo,hr,List.append_assoc]
theorem ahead_spot {l:List (Int × Int)} {p:Nat} (hp:p < l.length) (hb:lookB (l.getD p (0,0)).1=true):(aheadTo l p).length < (aheadL l).length/\(aheadL l).getD (aheadTo l p).length 0=(p:Int):=by
 have h1:=aheadTo_lt l hp hb;refine ⟨h1,?_⟩
 obtain ⟨r,hr⟩:=ahead_pre l (l.length - (p+1)) (p+1);rw [show p+1+(l.length - (p+1))=l.length by omega,aheadTo_yes hb] at hr
 unfold aheadL;rw [hr,List.append_assoc];simp [List.getD_eq_getElem?_getD]
theorem fol_sign {l:List (Int × Int)} {h g g':Nat->Bool} (e:signN l g=signN l g'):Fol l h g↔Fol l h g':=by
 have key:∀ p,p < l.length->lookB (l.getD p (0,0)).1=true->comeAt l h g p=comeAt l h g' p:=by
  intro p hp hb;obtain ⟨h1,h2⟩:=ahead_spot hp hb;have h3:=sign_inj e (aheadTo l p).length h1;rw [h2] at h3;simp only [Int.toNat_natCast] at h3;unfold comeAt comeB;unfold askP at h3;have hk:14 <= (l.getD p (0,0)).1/\(l.getD p (0,0)).1 <= 18:=by simpa [lookB] using hb
  by_cases h14:(l.getD p (0,0)).1=14
  ·rw [if_pos h14] at h3
   rw [h14,h3]
   simp
  ·rw [if_neg h14] at h3
   rw [h3];have:(l.getD p (0,0)).1=15\/(l.getD p (0,0)).1=16\/(l.getD p (0,0)).1=17\/(l.getD p (0,0)).1=18:=by omega
   rcases this with h5 | h5 | h5 | h5 <;> rw [h5] <;> simp
 refine ⟨fun H p hp hb=>?_,fun H p hp hb=>?_⟩
 ·rw [H p hp hb,key p hp hb]
 ·rw [H p hp hb,key p hp hb]
end Go.Proofs.YtfnobbpbmelgnaaGreatDoor
namespace Go.Proofs.YtfnobbpbmelgnaaGreatDoor
open Go.Shelf
set_option maxHeartbeats 6400000
set_option maxRecDepth 20000
def lays189_ren:Go.Shelf.Ren:=⟨fun | 189=>119 | 125=>126 | 257=>125 | 128=>136 | 129=>137 | 294=>127 | 295=>128 | 296=>129 | 297=>130 | 298=>131 | 299=>132 | 216=>133 | 300=>134 | 301=>135 | 328=>138 | 329=>139 | 330=>140 | 331=>141 | 332=>142 | 215=>143 | 343=>144 | n=>n,fun | 28=>36 | 3=>3 | 46=>197 | 0=>0 | 51=>206 | 53=>208 | 4=>4 | 183=>200 | 182=>199 | 131=>118 | 5=>5 | 9=>9 | 218=>209 | 222=>213 | 228=>215 | 229=>216 | n=>n,fun | n=>n⟩
theorem lays189:Go.Proofs.Lays.n189 Tryz.prog lays189_ren:={
 mixed:=by kernel_rfl
 f125:=Tryz.func126.trans (congrArg some (by kernel_rfl))
 f128:=Tryz.func136.trans (congrArg some (by kernel_rfl))
 f129:=Tryz.func137.trans (congrArg some (by kernel_rfl))
 f189:=Tryz.func119.trans (congrArg some (by kernel_rfl))
 f215:=Tryz.func143.trans (congrArg some (by kernel_rfl))
 f216:=Tryz.func133.trans (congrArg some (by kernel_rfl))
 f257:=Tryz.func125.trans (congrArg some (by kernel_rfl))
 f294:=Tryz.func127.trans (congrArg some (by kernel_rfl))
 f295:=Tryz.func128.trans (congrArg some (by kernel_rfl))
 f296:=Tryz.func129.trans (congrArg some (by kernel_rfl))
 f297:=Tryz.func130.trans (congrArg some (by kernel_rfl))
 f298:=Tryz.func131.trans (congrArg some (by kernel_rfl))
 f299:=Tryz.func132.trans (congrArg some (by kernel_rfl))
 f300:=Tryz.func134.trans (congrArg some (by kernel_rfl))
 f301:=Tryz.func135.trans (congrArg some (by kernel_rfl))
 f328:=Tryz.func138.trans (congrArg some (by kernel_rfl))
 f329:=Tryz.func139.trans (congrArg some (by kernel_rfl))
 f330:=Tryz.func140.trans (congrArg some (by kernel_rfl))
 f331:=Tryz.func141.trans (congrArg some (by kernel_rfl))
 f332:=Tryz.func142.trans (congrArg some (by kernel_rfl))
 f343:=Tryz.func144.trans (congrArg some (by kernel_rfl))
 t0:=Tryz.underlying0
 a0:=Tryz.isAgg0
 z0:=Tryz.sizeOf0
 v0:=Tryz.zeroValue0
 t3:=Tryz.underlying3
 a3:=Tryz.isAgg3
 z3:=Tryz.sizeOf3
 v3:=Tryz.zeroValue3
 t4:=Tryz.underlying4
 a4:=Tryz.isAgg4
 z4:=Tryz.sizeOf4
 v4:=Tryz.zeroValue4
 t5:=Tryz.underlying5
 a5:=Tryz.isAgg5
 z5:=Tryz.sizeOf5
 v5:=Tryz.zeroValue5
 t9:=Tryz.underlying9
 a9:=Tryz.isAgg9
 z9:=Tryz.sizeOf9
 v9:=Tryz.zeroValue9
 t28:=Tryz.underlying36
 a28:=Tryz.isAgg36
 z28:=Tryz.sizeOf36
 v28:=Tryz.zeroValue36
 t46:=Tryz.underlying197
 a46:=Tryz.isAgg197
 z46:=Tryz.sizeOf197
 v46:=Tryz.zeroValue197
 t51:=Tryz.underlying206
 a51:=Tryz.isAgg206
 z51:=Tryz.sizeOf206
 v51:=Tryz.zeroValue206
 t53:=Tryz.underlying208
 a53:=Tryz.isAgg208
 z53:=Tryz.sizeOf208
 v53:=Tryz.zeroValue208
 t131:=Tryz.underlying118
 a131:=Tryz.isAgg118
 z131:=Tryz.sizeOf118
 v131:=Tryz.zeroValue118
 t182:=Tryz.underlying199
 a182:=Tryz.isAgg199
 z182:=Tryz.sizeOf199
 v182:=Tryz.zeroValue199
 t183:=Tryz.underlying200
 a183:=Tryz.isAgg200
 z183:=Tryz.sizeOf200
 v183:=Tryz.zeroValue200
 t218:=Tryz.underlying209
 a218:=Tryz.isAgg209
 z218:=Tryz.sizeOf209
 v218:=Tryz.zeroValue209
 t222:=Tryz.underlying213
 a222:=Tryz.isAgg213
 z222:=Tryz.sizeOf213
 v222:=Tryz.zeroValue213
 t228:=Tryz.underlying215
 a228:=Tryz.isAgg215
 z228:=Tryz.sizeOf215
 v228:=Tryz.zeroValue215
 t229:=Tryz.underlying216
 a229:=Tryz.isAgg216
 z229:=Tryz.sizeOf216
 v229:=Tryz.zeroValue216}
open Go.Sort Go.RowKit in
theorem slices_Sort_int (blk off cap:Nat) (zs:List Int) (w:World) (hH:Holds (Value.int .i64) w blk off zs.toArray) (hblk:blk < w.heap.size) (hsz:zs.length < 4611686018427387904) :
  Calls Tryz.prog 119 #[.slice (some ⟨blk,off,none⟩) zs.length cap] w fun e w'=>
   e=.returned (.tuple #[])/\∃ n os,w'=grow (putRow (Value.int .i64) (Sort.ahead w n) blk off (zs.mergeSort fun x y=>decide (x <= y)).toArray) os:=Any.slices_Sort_int lays189 blk off cap zs w hH hblk hsz
def laysNm220_ren:Go.Shelf.Ren:=⟨fun | 20=>120 | n=>n,fun | 22=>36 | 3=>3 | 4=>4 | 0=>0 | n=>n,fun | n=>n⟩
theorem laysNm220:Go.Proofs.Lays2.n20 Tryz.prog laysNm220_ren:={
 mixed:=by kernel_rfl
 f20:=Tryz.func120.trans (congrArg some (by kernel_rfl))
 t0:=Tryz.underlying0
 a0:=Tryz.isAgg0
 z0:=Tryz.sizeOf0
 v0:=Tryz.zeroValue0
 t3:=Tryz.underlying3
 a3:=Tryz.isAgg3
 z3:=Tryz.sizeOf3
 v3:=Tryz.zeroValue3
 t4:=Tryz.underlying4
 a4:=Tryz.isAgg4
 z4:=Tryz.sizeOf4
 v4:=Tryz.zeroValue4
 t22:=Tryz.underlying36
 a22:=Tryz.isAgg36
 z22:=Tryz.sizeOf36
 v22:=Tryz.zeroValue36
 i3:=by kernel_rfl}
open Go.RowKit Go.Lib Go.Sort in
theorem slices_Compact_int (blk off cap:Nat) (zs:List Int) (w:World) (hH:Holds (Value.int .i64) w blk off zs.toArray) (hsz:zs.length <= 9223372036854775807) (hcap:zs.length <= cap) :
  Calls Tryz.prog 120 #[.slice (some ⟨blk,off,none⟩) zs.length cap] w fun e w'=>e=.returned (.slice (some ⟨blk,off,none⟩) (Lib.compact zs).length cap)/\∃ q,w'=putRow (Value.int .i64) (Sort.ahead w q) blk off (Lib.compact zs++List.replicate (zs.length - (Lib.compact zs).length) 0).toArray:=Any.slices_Compact_int laysNm220 blk off cap zs w hH hsz hcap
end Go.Proofs.YtfnobbpbmelgnaaGreatDoor
namespace Go.Proofs.YtfnobbpbmelgnaaGreatDoor
open Go.RowKit Go.Sort
set_option maxHeartbeats 6400000
set_option maxRecDepth 20000
def leB (x y:Int):Bool:=decide (x <= y)
theorem sort_own (g cap base:Nat) (zs:List Int) (w:World) (hz:zs.length <= 100000) (ho:w.ownsRow base 3 1 (.slice (some ⟨g,0,none⟩) zs.length cap) zs.length (ivals zs)) :
  Calls Tryz.prog 119 #[.slice (some ⟨g,0,none⟩) zs.length cap] w fun e w'=>e=.returned (.tuple #[])/\w.grownBy w' (some g)/\w'.ownsRow base 3 1 (.slice (some ⟨g,0,none⟩) zs.length cap) zs.length (ivals (zs.mergeSort leB)):=by
 have ho':w.ownsRow base 3 1 (.slice (some ⟨g,0,none⟩) zs.length cap) zs.length (zs.map (Value.int .i64)):=ho;obtain ⟨g',cap',hv,hbg,hlt,hn,hm,hl,hH⟩:=Lib.holds_of_ownsRow ho' (by simp)
 injection hv with h1 h2 h3
 injection h1 with h1
 injection h1 with h1
 subst h1 h3
 rcases ho.2 with ⟨e0,_⟩ | ⟨g2,cap2,cur,e0,hb,hg,hnc,hcm,hcs,ht⟩
 ·cases e0
 ·injection e0 with e1 _ e3
  injection e1 with e1
  injection e1 with e1
  subst e1 e3;refine (slices_Sort_int g 0 cap zs w hH hlt (by omega)).mono fun e w' ⟨he,n,os,hw⟩=>⟨he,?_,?_⟩
  ·rw [hw];exact grownBy_sortedI _
  ·rw [hw];exact ownsRow_sortedI (ts:=zs.mergeSort leB) (by simp) hbg hg hnc hcm hcs
theorem compact_own (g cap base:Nat) (zs:List Int) (w:World) (hz:zs.length <= 100000) (ho:w.ownsRow base 3 1 (.slice (some ⟨g,0,none⟩) zs.length cap) zs.length (ivals zs)) :
  Calls Tryz.prog 120 #[.slice (some ⟨g,0,none⟩) zs.length cap] w fun e w'=>e=.returned (.slice (some ⟨g,0,none⟩) (Lib.compact zs).length cap)/\w.grownBy w' (some g)/\w'.ownsRow base 3 1 (.slice (some ⟨g,0,none⟩) (Lib.compact zs).length cap) (Lib.compact zs).length (ivals (Lib.compact zs)):=by
 have ho':w.ownsRow base 3 1 (.slice (some ⟨g,0,none⟩) zs.length cap) zs.length (zs.map (Value.int .i64)):=ho;obtain ⟨g',cap',hv,hbg,hlt,hn,hm,hl,hH⟩:=Lib.holds_of_ownsRow ho' (by simp)
 injection hv with h1 h2 h3
 injection h1 with h1
 injection h1 with h1
 subst h1 h3;have hcl:=Lib.compact_length_le zs;refine (slices_Compact_int g 0 cap zs w hH (by omega) hn).mono fun e w' ⟨he,q,hw⟩=>⟨he,?_,?_⟩
 ·rw [hw]
  refine ⟨rfl,rfl,rfl,by simp [putRow,mapBlock,Sort.ahead],fun k _ hne=>?_⟩
  have:g≠k:=fun e=>hne (by rw [e])
  simp [putRow,mapBlock,Sort.ahead,Array.getElem?_modify,this]
 ·rw [hw]
  have h:=Lib.ownsRow_putRow (q:=q) (k:=(Lib.compact zs).length) (ys:=Lib.compact zs++List.replicate (zs.length - (Lib.compact zs).length) 0) ho' (by simp;omega) hcl
  rw [List.take_left] at h;exact h
abbrev Rise (l:List Int):Prop:=l.Pairwise (· < ·)
theorem compact_step {d:Array Int} {n:Nat} (hs:∀ i j,i <= j->j < n->d[i]! <= d[j]!):∀ m,m <= n->Rise (Lib.compactUpTo d m)/\∀ x,x∈Lib.compactUpTo d m↔∃ j,j < m/\d[j]! = x:=by
 intro m
 induction m with
 | zero=>intro _;exact ⟨by simp [Lib.compactUpTo],fun x=>by simp [Lib.compactUpTo]⟩
 | succ m ih=>
  intro hm;obtain ⟨h1,h2⟩:=ih (by omega)
  rw [Lib.compactUpTo_succ]
  by_cases hk:Lib.keeps d m=true
  ·rw [if_pos hk]
   refine ⟨List.pairwise_append.2 ⟨h1,by simp,fun x hx y hy=>?_⟩,fun x=>?_⟩
   ·simp at hy
    subst hy;obtain ⟨j,hj,rfl⟩:=(h2 x).1 hx;have h3:=hs j m (by omega) (by omega)
    have h4:=hs j (m - 1) (by omega) (by omega)
    have h5:=hs (m - 1) m (by omega) (by omega)
    have h6:d[m]!≠d[m - 1]!:=by
     have:m≠0:=by omega
     simpa [Lib.keeps,this] using hk
    omega
   ·simp only [List.mem_append,List.mem_singleton,h2]
    constructor
    ·rintro (⟨j,hj,e⟩ | e)
     ·exact ⟨j,by omega,e⟩
     ·exact ⟨m,by omega,e.symm⟩
    ·rintro ⟨j,hj,e⟩
     by_cases hjm:j=m
     ·subst hjm;exact .inr e.symm
     ·exact .inl ⟨j,by omega,e⟩
  ·rw [if_neg hk,List.append_nil]
   refine ⟨h1,fun x=>?_⟩
   rw [h2]
   constructor
   ·rintro ⟨j,hj,e⟩;exact ⟨j,by omega,e⟩
   ·rintro ⟨j,hj,e⟩
    by_cases hjm:j=m
    ·subst hjm
     have h7:j≠0/\d[j]! = d[j - 1]!:=by simpa [Lib.keeps] using hk
     exact ⟨j - 1,by omega,by rw [<- h7.2];exact e⟩
    ·exact ⟨j,by omega,e⟩
def upL (l:List Int):List Int:=Lib.compact (l.mergeSort leB)
theorem upL_spec (l:List Int):Rise (upL l)/\∀ x,x∈upL l↔x∈l:=by
 have hp:(l.mergeSort leB).Pairwise (fun x y=>leB x y=true):=List.pairwise_mergeSort (le:=leB) (by intro a b c;simp only [leB,decide_eq_true_eq];omega) (by intro a b;simp only [leB,Bool.or_eq_true,decide_eq_true_eq];omega) l
 have hs:∀ i j,i <= j->j < (l.mergeSort leB).length->(l.mergeSort leB).toArray[i]! <= (l.mergeSort leB).toArray[j]!:=fun i j hij hj=>by
  rw [getElem!_pos _ i (by simpa using (by omega:i < (l.mergeSort leB).length)),getElem!_pos _ j (by simpa using hj)]
  rcases Nat.lt_or_eq_of_le hij with h | h
  ·have:=List.pairwise_iff_getElem.1 hp i j (by omega) hj h
   simpa [leB] using this
  ·subst h;exact Int.le_refl _
 obtain ⟨h1,h2⟩:=compact_step hs (l.mergeSort leB).length (Nat.le_refl _);refine ⟨h1,fun x=>?_⟩
 show x∈Lib.compactUpTo _ _↔_
 rw [h2,<- (List.mergeSort_perm l leB).mem_iff,List.mem_iff_getElem]
 constructor
 ·rintro ⟨j,hj,e⟩
  exact ⟨j,hj,by rw [<- e,getElem!_pos _ j (by simpa using hj)];rfl⟩
 ·rintro ⟨j,hj,e⟩
  exact ⟨j,hj,by rw [getElem!_pos _ j (by simpa using hj)];exact e⟩
end Go.Proofs.YtfnobbpbmelgnaaGreatDoor
namespace Go.Proofs.YtfnobbpbmelgnaaGreatDoor
open Terms Tm
set_option maxHeartbeats 6400000
set_option maxRecDepth 20000
noncomputable def rawTo (vars:List Vr) (env:List Int) (rules:List Ru) (k:Nat):List Int:=(rules.take k).filterMap (ruleDo vars env)
theorem rawTo_some {vars:List Vr} {env:List Int} {rules:List Ru} {k:Nat} (hk:k < rules.length) {x:Int} (h:ruleDo vars env (rules.getD k ru0)=some x):rawTo vars env rules (k+1)=rawTo vars env rules k++[x]:=by
 unfold rawTo;rw [List.take_succ_eq_append_getElem hk,List.filterMap_append,show rules[k]=rules.getD k ru0 by simp [List.getD_eq_getElem?_getD,hk]]
 generalize rules.getD k ru0=r at h;simp [h]
theorem rawTo_none {vars:List Vr} {env:List Int} {rules:List Ru} {k:Nat} (hk:k < rules.length) (h:ruleDo vars env (rules.getD k ru0)=none):rawTo vars env rules (k+1)=rawTo vars env rules k:=by
 unfold rawTo;rw [List.take_succ_eq_append_getElem hk,List.filterMap_append,show rules[k]=rules.getD k ru0 by simp [List.getD_eq_getElem?_getD,hk]]
 generalize rules.getD k ru0=r at h;simp [h]
theorem rawTo_length (vars:List Vr) (env:List Int) (rules:List Ru) (k:Nat):(rawTo vars env rules k).length <= k:=by
 unfold rawTo;exact Nat.le_trans (List.length_filterMap_le _ _) (by simp;omega)
noncomputable def rawL (m:Mo) (code:Int):List Int:=if rawTo m.vars (valsL m.vars code) m.rules m.rules.length=[] then [code] else rawTo m.vars (valsL m.vars code) m.rules m.rules.length
noncomputable def nextL (m:Mo) (code:Int):List Int:=upL (rawL m code)
noncomputable def nxtL (m:Mo) (code:Int):List Int:=if wcode m code=0 then nextL m code else []
theorem rawTo_mem {vars:List Vr} {env:List Int} {rules:List Ru} {k:Nat} (hk:k <= rules.length) (x:Int):x∈rawTo vars env rules k↔∃ j,j < k/\ruleDo vars env (rules.getD j ru0)=some x:=by
 unfold rawTo;rw [List.mem_filterMap]
 constructor
 ·rintro ⟨r,hr,e⟩
  obtain ⟨j,hj,rfl⟩:=List.mem_iff_getElem.1 hr;rw [List.length_take] at hj;refine ⟨j,by omega,?_⟩
  rw [List.getElem_take] at e;rw [show rules.getD j ru0=rules[j]'(by omega) by simp [List.getD_eq_getElem?_getD,show j < rules.length by omega]]
  exact e
 ·rintro ⟨j,hj,e⟩
  refine ⟨rules.getD j ru0,?_,e⟩
  rw [List.mem_iff_getElem];exact ⟨j,by rw [List.length_take];omega,by rw [List.getElem_take];simp [List.getD_eq_getElem?_getD,show j < rules.length by omega]⟩
theorem ruleDo_state {vars:List Vr} {env:List Int} {r:Ru} {x:Int} (hv:VarsOk vars) (h:ruleDo vars env r=some x):0 <= x/\x < prodTo vars vars.length:=by
 unfold ruleDo at h
 split at h
 ·rename_i hc
  injection h with h
  subst h;exact code_bounds hv (Nat.le_refl _) hc.2.2
 ·cases h
end Go.Proofs.YtfnobbpbmelgnaaGreatDoor
namespace Go.Proofs.YtfnobbpbmelgnaaGreatDoor
open Go.ChangeShapes Go.WideShapes Go.ChangeAt Go.RowKit Go.Deep
open Terms Tm
set_option maxHeartbeats 6400000
set_option maxRecDepth 20000
def OwnI (base:Nat) (w:World) (v:Value) (l:List Int):Prop:=w.ownsRow base 3 1 v l.length (ivals l)/\v≠.slice none 0 0
theorem OwnI.form {base:Nat} {w:World} {v:Value} {l:List Int} (h:OwnI base w v l):∃ g cap,v=.slice (some ⟨g,0,none⟩) l.length cap/\base <= g/\g < w.heap.size:=by
 rcases h.1.2 with ⟨e0,_⟩ | ⟨g,cap,cur,rfl,hb,hg,_⟩
 ·exact absurd e0 h.2
 ·exact ⟨g,cap,rfl,hb,(Array.getElem?_eq_some_iff.1 hg).1⟩
theorem nextOf_own (va vr:Value) (m:Mo) (code:Int) (w:World) (hB:0 < w.heap.size) (hT:TabAt w) (hV:ModelV w va vr m) (hm:mcode m=0) :
    Calls Tryz.prog 102 #[.agg #[va,vr],.int .i64 code] w fun e w'=>∃ v,e=.returned (.tuple #[v,.int .i64 (wcode m code)])/\Below w.heap.size w w'/\IntsV w' v (nxtL m code)/\w'.ownsRow w.heap.size 3 1 v (nxtL m code).length (ivals (nxtL m code)):=by
  have hA:∀ o,Below w.heap.size w (w.alloc o):=fun o=>(Below.refl _ _).alloc (Nat.le_refl _) o
  have hVb:∀ w',Below w.heap.size w w'->∀ ao cap,va=.slice ao m.vars.length cap->ModelV w' (.slice ao m.vars.length cap) (.slice none 0 0) ⟨m.vars,[]⟩:=fun w' hb ao cap e=>⟨e ▸ hV.1.below hb,⟨none,0,rfl,⟨by simp,fun _=>⟨rfl,rfl⟩⟩,fun h=>by simp at h⟩⟩
  obtain ⟨ao,cap,rfl⟩:=hV.1.shape;obtain ⟨ro,rc,hro⟩:=hV.2.shape;have hba:=fun w=>bare_any ao ro m.vars.length cap m.rules.length rc w
  by_cases hw:wcode m code=0
  · have hvl:∀ w',Below w.heap.size w w'->Calls Tryz.prog 62 #[.agg #[.slice ao m.vars.length cap,.slice none 0 0],.int .i64 code] w' fun e w2=>∃ B,e=.returned (.tuple #[.slice (some ⟨B,0,none⟩) (valsL m.vars code).length (valsL m.vars code).length,.int .i64 0])/\w'.heap.size <= B/\Below w'.heap.size w' w2/\w2.rowIs B 3 (valsL m.vars code).length (fun j=>.int .i64 ((valsL m.vars code).getD j 0)):=fun w' hb=>
      svalues_any _ _ ⟨m.vars,[]⟩ code w' (Nat.lt_of_lt_of_le hB hb.size) (hT.below hb hB) (hVb w' hb ao cap rfl) (by rw [wcode_bare _ hm];exact hw)
    obtain ⟨hr12,hrs⟩:=mcode_rules hm
    have HDo:Hid (∀ w' (_:Below w.heap.size w w') B k gv sv,k < m.rules.length->w'.rowIs B 3 (valsL m.vars code).length (fun j=>.int .i64 ((valsL m.vars code).getD j 0))->OpsV w' gv (m.rules.getD k ru0).guard->SetsV w' sv (m.rules.getD k ru0).sets->Calls Tryz.prog 118 #[.agg #[.slice ao m.vars.length cap,vr],.slice (some ⟨B,0,none⟩) (valsL m.vars code).length (valsL m.vars code).length,.agg #[gv,sv]] w' fun e w2=>e=.returned (.tuple #[.int .i64 (optN (ruleDo m.vars (valsL m.vars code) (m.rules.getD k ru0))),.int .i64 (optC (ruleDo m.vars (valsL m.vars code) (m.rules.getD k ru0)))])/\Below w'.heap.size w' w2):=fun w' hb B k gv sv hk hrow hg hs=>
      doRule_any _ vr gv sv B m (valsL m.vars code) (m.rules.getD k ru0) w' (Nat.lt_of_lt_of_le hB hb.size) (hT.below hb hB) (hV.below hb) hm (hrs k hk) (valsL_length _ _) hrow hg hs
    have HR:Hid (RulesV w vr m.rules):=hV.2;have HNL:Hid (nxtL m code=upL (if rawTo m.vars (valsL m.vars code) m.rules m.rules.length=[] then [code] else rawTo m.vars (valsL m.vars code) m.rules m.rules.length)):=by show _=_;unfold nxtL nextL rawL;rw [if_pos hw]
    rw [hw];generalize nxtL m code=res at *;generalize valsL m.vars code=env at *;subst hro;obtain ⟨rn,hrn⟩:∃ rn,rn=m.rules.length:=⟨_,rfl⟩
    have HRN:Hid (rn=m.rules.length):=hrn;rw [<- hrn] at hba HDo HR HNL hr12 ⊢;obtain ⟨i0,hi,hz0,hz1,hz2⟩:=info_parts infoInt;clear hV hT hVb hw hm hrs hrn;generalize m.vars.length=n at *
    go_enter Tryz.func102,Tryz.ntmps102
    go_wp2_with (first | (go_at_call 63;refine (hba _).mono ?_;rintro e w1 ⟨rfl,hb1⟩;have hbw1:=(hA _).trans (hb1.mono (hA _).size);have k10:w1.cell? ⟨w.heap.size,0,none⟩=some (.slice ao n cap):=(hb1.cell (p:=⟨w.heap.size,0,none⟩) (by simp)).trans (by simp [go_sem]);have k11:w1.cell? ⟨w.heap.size,1,none⟩=some (.slice ro rn rc):=(hb1.cell (p:=⟨w.heap.size,1,none⟩) (by simp)).trans (by simp [go_sem]);have hs1:w.heap.size < w1.heap.size:=(by have:=hb1.size;simp at this;omega)) | (go_at_call 62;refine (hvl _ hbw1).mono ?_;rintro e w2 ⟨B,rfl,hBl,hb2,hr2⟩;have k20:=(hb2.cell (p:=⟨w.heap.size,0,none⟩) hs1).trans k10;have k21:=(hb2.cell (p:=⟨w.heap.size,1,none⟩) hs1).trans k11;have hs2:=Nat.lt_of_lt_of_le hs1 hb2.size;have kA1:∀ o,(w2.alloc o).cell? ⟨w.heap.size,1,none⟩=some (.slice ro rn rc):=fun o=>(((Below.refl w2.heap.size w2).alloc (Nat.le_refl _) o).cell (p:=⟨w.heap.size,1,none⟩) hs2).trans k21))
    have hbw2:=hbw1.trans (hb2.mono hbw1.size);have hA2:∀ o,Below w2.heap.size w2 (w2.alloc o):=fun o=>(Below.refl _ _).alloc (Nat.le_refl _) o
    have HRow:Hid (w2.rowIs B 3 env.length (fun j=>.int .i64 (env.getD j 0))):=hr2
    have HB2:Hid (Below w.heap.size w w2):=hbw2;have HK2:Hid (∀ w',Below w2.heap.size w2 w'->w'.cell? ⟨w.heap.size,0,none⟩=some (.slice ao n cap)/\w'.cell? ⟨w.heap.size,1,none⟩=some (.slice ro rn rc)):=fun w' hb=>⟨(hb.cell (p:=⟨w.heap.size,0,none⟩) hs2).trans k20,(hb.cell (p:=⟨w.heap.size,1,none⟩) hs2).trans k21⟩
    have HO0:Hid (OwnI w2.heap.size (w2.alloc (.cells #[] 3)) (.slice (some ⟨w2.heap.size,0,none⟩) 0 0) (rawTo m.vars env m.rules 0)):=⟨World.ownsRow_lit w2 #[] 0 (Nat.le_refl _) (by decide) rfl,by simp⟩
    clear hvl hba hb1 hbw1 k10 k11 hs1 hb2 hr2 k20 k21 kA1 hbw2
    go_loopw [8,27] (fun nx i wr=>∃ k:Nat,k <= rn/\i=.int .i64 k/\Hid (OwnI w2.heap.size wr nx (rawTo m.vars env m.rules k))/\Hid (Below w2.heap.size w2 wr)) (fun _ i _=>rn - (intOf i).toNat)
    case atStart=>exact ⟨0,Nat.zero_le _,rfl,HO0.out,hA2 _⟩
    case round=>
      obtain ⟨k,hk,rfl,HOwn,HBel⟩:=hrel;have hbel:=HBel.out;have hbw:=HB2.out.trans (hbel.mono HB2.out.size);obtain ⟨kr0,kr1⟩:=HK2.out wr hbel;obtain ⟨g,gc,rfl,hg,hgl⟩:=HOwn.out.form;have hown:=HOwn.out.1
      by_cases hlt:k < rn
      · obtain ⟨b,off,rfl,hblt,hat⟩:=HR.out.at (i:=k) (by rw [<- HRN.out];exact hlt)
        obtain ⟨⟨u,c0,hou⟩,u',c1,hsu⟩:=hat.below hbw hblt;obtain ⟨uo,uc,rfl⟩:=hou.shape;obtain ⟨so,sc,rfl⟩:=hsu.shape;have hAr:∀ o,Below wr.heap.size wr (wr.alloc o):=fun o=>(Below.refl _ _).alloc (Nat.le_refl _) o
        have hkA0:∀ o,(wr.alloc o).cell? ⟨w.heap.size,0,none⟩=some (.slice ao n cap):=fun o=>(HK2.out _ (hbel.trans ((hAr o).mono hbel.size))).1
        have hkA1:∀ o,(wr.alloc o).cell? ⟨w.heap.size,1,none⟩=some (.slice (some ⟨b,off,none⟩) rn rc):=fun o=>(HK2.out _ (hbel.trans ((hAr o).mono hbel.size))).2
        have hdo:=fun o=>HDo.out (wr.alloc o) (hbw.trans ((hAr o).mono hbw.size)) B k _ _ hlt (row_later (row_later HRow.out hbel) (hAr o)) (hou.below (hAr o)) (hsu.below (hAr o))
        have HRl:Hid ((rawTo m.vars env m.rules k).length <= k):=rawTo_length _ _ _ _;have hk':k < m.rules.length:=by rw [<- HRN.out];exact hlt
        generalize (m.rules.getD k ru0).guard.length=gl at *;generalize (m.rules.getD k ru0).sets.length=sl at *;obtain ⟨L,hL⟩:∃ L,L=(rawTo m.vars env m.rules k).length:=⟨_,rfl⟩
        have HL:Hid (L=(rawTo m.vars env m.rules k).length):=hL;rw [<- hL] at hown HRl ⊢
        cases hres:ruleDo m.vars env (m.rules.getD k ru0) with
        | none=>
          rw [hres] at hdo;simp only [optN,optC] at hdo;have HN:Hid (rawTo m.vars env m.rules (k+1)=rawTo m.vars env m.rules k):=rawTo_none hk' hres
          have HW4:Hid (∀ o w4,Below (wr.alloc o).heap.size (wr.alloc o) w4->Below w2.heap.size w2 w4/\OwnI w2.heap.size w4 (.slice (some ⟨g,0,none⟩) L gc) (rawTo m.vars env m.rules k)):=fun o w4 hb=>⟨(hbel.alloc hbel.size o).trans (hb.mono (hbel.alloc hbel.size o).size),by
            refine ⟨?_,by simp⟩
            rw [<- HL.out]
            exact owns_later (owns_later hown (hAr o) (Nat.le_refl _)) hb (Nat.le_refl _)⟩
          clear hat hou hsu HDo HR hres hk' hown hL
          go_wp2_with (go_at_call 118;refine (hdo _).mono ?_;rintro e w4 ⟨rfl,hb4⟩;obtain ⟨hb24,ho4⟩:=HW4.out _ w4 hb4)
          exact ⟨⟨k+1,hlt,by first | rfl | simp,by rw [HN.out];exact ho4,hb24⟩,by simp [intOf];omega⟩
        | some x=>
          rw [hres] at hdo;simp only [optN,optC] at hdo;have HN:Hid (rawTo m.vars env m.rules (k+1)=rawTo m.vars env m.rules k++[x]):=rawTo_some hk' hres;have h63:L+1 <= maxLen:=by have:=HRl.out;unfold maxLen;omega
          have hkb:(L+1)*8 <= 140737488355328:=by have:=HRl.out;omega
          clear hat hou hsu HDo HR hres hk' hL
          go_wp2_with (first | (go_at_call 118;refine (hdo _).mono ?_;rintro e w4 ⟨rfl,hb4⟩;have hb24:=(hbel.alloc hbel.size _).trans (hb4.mono (hbel.alloc hbel.size _).size);have hown4:=fun o=>(owns_later (owns_later hown (hAr _) (Nat.le_refl _)) hb4 (Nat.le_refl _)).alloc o;have hbase:∀ o,w2.heap.size <= (w4.alloc o).heap.size:=(fun o=>by have:=hb24.size;simp;omega)) | (at_builtin;refine wpList_append_lies _ rfl (.tmp 40) (.tmp 42) 36 rfl w2.heap.size 3 i0 (.int .i64 0) 1 8 Tryz.underlying36 hi hz0 hz1 hz2 rfl (by decide) (.slice (some ⟨g,0,none⟩) L gc) L _ rfl (hown4 _) ⟨w4.heap.size,0,none⟩ 1 1 [.int .i64 x] rfl rfl (cell_one_new _ _ _) (by intro u hu;simp at hu;subst hu;rfl) (by decide) h63 hkb (hbase _) _ rfl ?_;intro g5 cp5 w5 hown5 hgrow5 hat5 hgl5))
          have hb25:Below w2.heap.size w2 w5:=(hb24.alloc hb24.size _).grown hgrow5 (hbase _) (fun z hz=>by have hgz:g=z:=(by simpa [Value.ownBlock] using hz);rw [<- hgz];exact hg)
          have ho5:OwnI w2.heap.size w5 (.slice (some ⟨g5,0,none⟩) (L+1) cp5) (rawTo m.vars env m.rules (k+1)):=by
            refine ⟨?_,by simp⟩
            rw [HN.out,List.length_append,<- HL.out];rw [show ivals (rawTo m.vars env m.rules k++[x])=ivals (rawTo m.vars env m.rules k)++[.int .i64 x] by simp [ivals]]
            exact hown5
          exact ⟨⟨k+1,hlt,by first | rfl | simp,ho5,hb25⟩,by simp [intOf];omega⟩
      · have hkn:k=rn:=by omega
        subst hkn;have HRl:Hid ((rawTo m.vars env m.rules k).length <= k):=rawTo_length _ _ _ _;generalize rawTo m.vars env m.rules k=raw at *;clear HDo HR HOwn kr0 kr1 hlt hk
        by_cases hraw:raw=[]
        · have HRes:Hid (res=upL [code]):=by show _=_;rw [HNL.out,if_pos hraw]
          subst hraw;have hown0:wr.ownsRow w2.heap.size 3 1 (.slice (some ⟨g,0,none⟩) 0 gc) 0 []:=hown;have hown4:=fun o=>hown0.alloc o
          have hbase:∀ o,w2.heap.size <= (wr.alloc o).heap.size:=fun o=>by have:=hbel.size;simp;omega
          have hAr:∀ o,Below wr.heap.size wr (wr.alloc o):=fun o=>(Below.refl _ _).alloc (Nat.le_refl _) o
          clear hown HNL HRl;simp only [List.length_nil];have hso:=fun (w5:World) g5 cp5 (ho:w5.ownsRow w2.heap.size 3 1 (.slice (some ⟨g5,0,none⟩) 1 cp5) 1 (ivals [code]))=>sort_own g5 cp5 w2.heap.size [code] w5 (by simp) ho
          have hms:[code].mergeSort leB=[code]:=List.mergeSort_singleton _;have HUp:Hid (Lib.compact [code]=upL [code]):=by show _=Lib.compact _;rw [hms]
          rw [hms] at hso;simp only [List.length_cons,List.length_nil,Nat.zero_add] at hso;have hco:=fun (w5:World) g5 cp5 (ho:w5.ownsRow w2.heap.size 3 1 (.slice (some ⟨g5,0,none⟩) 1 cp5) 1 (ivals [code]))=>compact_own g5 cp5 w2.heap.size [code] w5 (by simp) ho
          simp only [List.length_cons,List.length_nil,Nat.zero_add] at hco;rw [HUp.out] at hco
          go_wp2_with (first | (at_builtin;refine wpList_append_lies _ rfl (.tmp 48) (.tmp 50) 36 rfl w2.heap.size 3 i0 (.int .i64 0) 1 8 Tryz.underlying36 hi hz0 hz1 hz2 rfl (by decide) (.slice (some ⟨g,0,none⟩) 0 gc) 0 _ rfl (hown4 _) ⟨wr.heap.size,0,none⟩ 1 1 [.int .i64 code] rfl rfl (cell_one_new _ _ _) (by intro u hu;simp at hu;subst hu;rfl) (by decide) (by decide) (by decide) (hbase _) _ rfl ?_;intro g5 cp5 w5 hown5 hgrow5 hat5 hgl5;have hg5:w2.heap.size <= g5:=(by rcases hat5 with h5 | h5;(have hgz:g=g5:=(by simpa [Value.ownBlock] using h5));(rw [<- hgz];exact hg);(rw [h5];exact hbase _))) | (go_at_call 119;refine (hso _ _ _ hown5).mono ?_;rintro e w6 ⟨rfl,hgr6,ho6⟩) | (go_at_call 120;refine (hco _ _ _ ho6).mono ?_;rintro e w7 ⟨rfl,hgr7,ho7⟩))
          have hb5:Below w2.heap.size w2 w5:=(hbel.alloc hbel.size _).grown hgrow5 (hbase _) (fun z hz=>by have hgz:g=z:=(by simpa [Value.ownBlock] using hz);rw [<- hgz];exact hg)
          have hb7:Below w2.heap.size w2 w7:=(hb5.grown hgr6 hb5.size (fun z hz=>by rw [<- Option.some.inj hz];exact hg5)).grown hgr7 (Nat.le_trans hb5.size hgr6.size) (fun z hz=>by rw [<- Option.some.inj hz];exact hg5)
          have hI7:IntsV w7 (.slice (some ⟨g5,0,none⟩) (upL [code]).length cp5) (upL [code]):=intsV_of_owns ho7
          go_ret2
          exact ⟨_,rfl,HB2.out.trans (hb7.mono HB2.out.size),by rw [HRes.out];exact ⟨hI7,owns_mono ho7 HB2.out.size⟩⟩
        · have HRes:Hid (res=upL raw):=by show _=_;rw [HNL.out,if_neg hraw]
          have hpos:0 < raw.length:=List.length_pos_iff.2 hraw;have hso:=sort_own g gc w2.heap.size raw wr (by have:=HRl.out;omega) hown
          obtain ⟨L,hL⟩:∃ L,L=raw.length:=⟨_,rfl⟩
          have HL:Hid (L=raw.length):=hL;have HLs:Hid ((raw.mergeSort leB).length=L):=by show _=_;rw [List.length_mergeSort,hL]
          have hL12:L <= 12:=by have:=HRl.out;omega
          rw [<- hL] at hso hpos ⊢;clear hown HNL HRl hraw hL
          have HCo:Hid (∀ w5:World,w5.ownsRow w2.heap.size 3 1 (.slice (some ⟨g,0,none⟩) L gc) L (ivals (raw.mergeSort leB))->Calls Tryz.prog 120 #[.slice (some ⟨g,0,none⟩) L gc] w5 fun e w'=>e=.returned (.slice (some ⟨g,0,none⟩) (upL raw).length gc)/\w5.grownBy w' (some g)/\w'.ownsRow w2.heap.size 3 1 (.slice (some ⟨g,0,none⟩) (upL raw).length gc) (upL raw).length (ivals (upL raw))):=fun w5 ho=>by
            rw [<- HLs.out] at ho ⊢;exact compact_own g gc w2.heap.size (raw.mergeSort leB) w5 (by rw [HLs.out];omega) ho
          go_wp2_with (first | (go_at_call 119;refine hso.mono ?_;rintro e w6 ⟨rfl,hgr6,ho6⟩;have hco:=HCo.out w6 ho6) | (go_at_call 120;refine hco.mono ?_;rintro e w7 ⟨rfl,hgr7,ho7⟩))
          have hb7:Below w2.heap.size w2 w7:=(hbel.grown hgr6 hbel.size (fun z hz=>by rw [<- Option.some.inj hz];exact hg)).grown hgr7 (Nat.le_trans hbel.size hgr6.size) (fun z hz=>by rw [<- Option.some.inj hz];exact hg)
          have hI7:IntsV w7 (.slice (some ⟨g,0,none⟩) (upL raw).length gc) (upL raw):=intsV_of_owns ho7
          go_ret2
          exact ⟨_,rfl,HB2.out.trans (hb7.mono HB2.out.size),by rw [HRes.out];exact ⟨hI7,owns_mono ho7 HB2.out.size⟩⟩
  · have hvl:=fun w' (hb:Below w.heap.size w w')=>mvalues_any _ _ ⟨m.vars,[]⟩ code w' (Nat.lt_of_lt_of_le hB hb.size) (hT.below hb hB) (hVb w' hb ao cap rfl)
    rw [wcode_bare _ hm] at hvl;have hnl:nxtL m code=[]:=by unfold nxtL;rw [if_neg hw]
    rw [hnl];subst hro;generalize wcode m code=c at *;generalize wvals ⟨m.vars,[]⟩ code=vs at *;generalize m.vars.length=n at *;generalize m.rules.length=rn at *;clear hV hT hVb hnl hm
    go_enter Tryz.func102,Tryz.ntmps102
    go_wp2_with (first | (go_at_call 63;refine (hba _).mono ?_;rintro e w2 ⟨rfl,hb2⟩;have hbw2:=(hA _).trans (hb2.mono (hA _).size)) | (go_at_call 62;refine (hvl _ hbw2).mono ?_;rintro e w3 ⟨v,rfl,hb3,_⟩))
    go_ret2
    exact ⟨_,rfl,hbw2.trans (hb3.mono hbw2.size),⟨none,0,rfl,fun h=>absurd rfl h⟩,World.ownsRow_nil _ _ _ _⟩
theorem next_own (va vr:Value) (m:Mo) (code:Int) (w:World) (hB:0 < w.heap.size) (hT:TabAt w) (hV:ModelV w va vr m) (hm:mcode m=0) :
  Calls Tryz.prog 84 #[.agg #[va,vr],.int .i64 code] w fun e w'=>∃ v,e=.returned (.tuple #[v,.int .i64 (wcode m code)])/\Below w.heap.size w w'/\w'.ownsRow w.heap.size 3 1 v (nxtL m code).length (ivals (nxtL m code)):=by
 have hA:∀ o,Below w.heap.size w (w.alloc o):=fun o=>(Below.refl _ _).alloc (Nat.le_refl _) o
 have hch:=fun o=>mcheck_any va vr m (w.alloc o) (Nat.lt_of_lt_of_le hB (hA o).size) (hT.below (hA o) hB) (hV.below (hA o))
 have hne:=fun w' (hb:Below w.heap.size w w')=>nextOf_own va vr m code w' (Nat.lt_of_lt_of_le hB hb.size) (hT.below hb hB) (hV.below hb) hm
 rw [hm] at hch;obtain ⟨ao,cap,rfl⟩:=hV.1.shape;obtain ⟨ro,rc,rfl⟩:=hV.2.shape;generalize wcode m code=c at *;generalize nxtL m code=res at *;generalize m.vars.length=n at *;generalize m.rules.length=rn at *;clear hV hT hm
 go_enter Tryz.func84,Tryz.ntmps84
 go_wp2_with (first | (go_at_call 60;refine (hch _).mono ?_;rintro e w1 ⟨rfl,hb1⟩;have hbw1:=(hA _).trans (hb1.mono (hA _).size);have k10:w1.cell? ⟨w.heap.size,0,none⟩=some (.slice ao n cap):=(hb1.cell (p:=⟨w.heap.size,0,none⟩) (by simp)).trans (by simp [go_sem]);have k11:w1.cell? ⟨w.heap.size,1,none⟩=some (.slice ro rn rc):=(hb1.cell (p:=⟨w.heap.size,1,none⟩) (by simp)).trans (by simp [go_sem])) | (go_at_call 102;refine (hne _ hbw1).mono ?_;rintro e w2 ⟨v,rfl,hb2,hI2,ho2⟩))
 go_ret2
 exact ⟨_,rfl,hbw1.trans (hb2.mono hbw1.size),owns_mono ho2 hbw1.size⟩
end Go.Proofs.YtfnobbpbmelgnaaGreatDoor
namespace Go.Proofs.YtfnobbpbmelgnaaGreatDoor
open Go.ChangeShapes Go.WideShapes Go.ChangeAt Go.RowKit Go.Deep Go.Maps
open Terms Tm
set_option maxHeartbeats 6400000
set_option maxRecDepth 20000
variable {Pz : Nat -> Prop}
noncomputable def sgAt (l:List (Int × Int)) (lt:List Bool) (c:Nat):Int:=signN l (tru l lt (c:Int))
noncomputable def sgL (l:List (Int × Int)) (lt:List Bool):List Int:=(List.range (2 ^ (aheadL l).length)).map fun (c:Nat)=>sgAt l lt c
theorem sgL_len (l:List (Int × Int)) (lt:List Bool):(sgL l lt).length=2 ^ (aheadL l).length:=by simp [sgL]
theorem sgL_at {l:List (Int × Int)} {lt:List Bool} {c:Nat} (h:c < 2 ^ (aheadL l).length):(sgL l lt).getD c 0=sgAt l lt c:=by simp [sgL,List.getD_eq_getElem?_getD,h]
theorem BoolsV.sk {bs bl:Nat} {w w':World} {v:Value} {x:List Bool} (h:BoolsV w v x) (hs:Sk bs bl w w') (hm:TwoMaps w bs bl):BoolsV w' v x:=by
 obtain ⟨ao,cap,rfl,h⟩:=h;refine ⟨ao,cap,rfl,fun hne=>?_⟩
 obtain ⟨b,off,rfl,hlt,hat⟩:=h hne;exact ⟨b,off,rfl,Nat.lt_of_lt_of_le hlt hs.size,fun i hi=>hs.cell hm (hat i hi)⟩
theorem IntsV.sk {bs bl:Nat} {w w':World} {v:Value} {x:List Int} (h:IntsV w v x) (hs:Sk bs bl w w') (hm:TwoMaps w bs bl):IntsV w' v x:=by
 obtain ⟨ao,cap,rfl,h⟩:=h;refine ⟨ao,cap,rfl,fun hne=>?_⟩
 obtain ⟨b,off,rfl,hlt,hat⟩:=h hne;exact ⟨b,off,rfl,Nat.lt_of_lt_of_le hlt hs.size,fun i hi=>hs.cell hm (hat i hi)⟩
theorem SurvAt.sk {bs bl:Nat} {w w':World} {B:Nat} {va vr pv fv av:Value} (h:SurvAt w B va vr pv fv av bs bl) (hs:Sk bs bl w w') (hm:TwoMaps w bs bl):SurvAt w' B va vr pv fv av bs bl:=
 ⟨Nat.lt_of_lt_of_le h.lt hs.size,hs.cell hm h.c0,hs.cell hm h.c1,hs.cell hm h.c2,hs.cell hm h.c3,hs.cell hm h.c4,hs.cell hm h.c5,hs.cell hm h.c6⟩
theorem SpO.sk {bs bl:Nat} {w w':World} {base:Nat} {v:Value} {x:List (Int × Int)} (h:SpO w base v x) (hs:Sk bs bl w w') (hm:TwoMaps w bs bl):SpO w' base v x:=by
 refine ⟨h.1,?_⟩
 rcases h.2 with h0 | ⟨g,cap,cur,h1,h2,h3,h4⟩
 ·exact .inl h0
 ·refine .inr ⟨g,cap,cur,h1,h2,?_,h4⟩
  obtain ⟨⟨es,c,e1⟩,⟨es',c',e2⟩⟩:=hm;rw [hs.block g (Array.getElem?_eq_some_iff.1 h3).1 (fun e=>by subst e;rw [e1] at h3;simp at h3) (fun e=>by subst e;rw [e2] at h3;simp at h3)]
  exact h3
theorem RowTy.sk {bs bl:Nat} {w w':World} {v:Value} {t:TypeId} (h:RowTy w v t) (hs:Sk bs bl w w') (hm:TwoMaps w bs bl):RowTy w' v t:=by
 intro a n c e;obtain ⟨cs,fr,h1⟩:=h a n c e;obtain ⟨⟨es,cl,e1⟩,⟨es',cl',e2⟩⟩:=hm;refine ⟨cs,fr,?_⟩
 rw [hs.block a.block (Array.getElem?_eq_some_iff.1 h1).1 (fun e=>by rw [e,e1] at h1;simp at h1) (fun e=>by rw [e,e2] at h1;simp at h1)]
 exact h1
theorem RowTy.below {w w':World} {v:Value} {t:TypeId} (h:RowTy w v t) (hb:Below w.heap.size w w'):RowTy w' v t:=by
 intro a n c e;obtain ⟨cs,fr,h1⟩:=h a n c e;exact ⟨cs,fr,(hb.block _ (Array.getElem?_eq_some_iff.1 h1).1).trans h1⟩
theorem RowTy.setCell {w:World} {v:Value} {t:TypeId} (h:RowTy w v t) (b i:Nat) (u:Value):RowTy (w.setCell ⟨b,i,none⟩ u) v t:=by
 intro a n c e;obtain ⟨cs,fr,h1⟩:=h a n c e
 by_cases hp:a.block=b
 ·refine ⟨cs.setIfInBounds i u,fr,?_⟩
  simp [World.setCell,Array.getElem?_modify,<- hp,h1]
 ·exact ⟨cs,fr,(RowKit.Below.heap_setCell _ _ _ _ hp).trans h1⟩
theorem RowTy.grown {w w':World} {v:Value} {t t':TypeId} {own:Option Nat} (h:RowTy w v t) (hg:w.grownBy w' own) (ht:t≠t') (ho:∀ g,own=some g->∃ cs fr,w.heap[g]? = some (.cells cs t' fr)):RowTy w' v t:=by
 intro a n c e;obtain ⟨cs,fr,h1⟩:=h a n c e;refine ⟨cs,fr,(hg.block _ (Array.getElem?_eq_some_iff.1 h1).1 (fun e2=>?_)).trans h1⟩
 obtain ⟨cs',fr',h2⟩:=ho _ e2.symm;rw [h1] at h2
 injection h2 with h2
 injection h2 with _ h3 _
 exact ht h3
theorem RowTy.owns {w:World} {base n:Nat} {v:Value} {t:TypeId} {s:Nat} {xs:List Value} (h:w.ownsRow base t s v n xs):RowTy w v t:=by
 intro a k c e
 rcases h.2 with ⟨h0,_⟩ | ⟨g,cap,cur,h1,_,h3,_⟩
 ·rw [h0] at e;simp at e
 ·rw [h1] at e
  injection e with e _ _
  injection e with e
  subst e;exact ⟨cur,_,h3⟩
theorem BoolsV.grown {w w':World} {v:Value} {x:List Bool} {own:Option Nat} (h:BoolsV w v x) (hty:RowTy w v 4) (hg:w.grownBy w' own) (ho:∀ g,own=some g->∃ cs fr,w.heap[g]? = some (.cells cs 97 fr)):BoolsV w' v x:=by
 obtain ⟨ao,cap,rfl,h⟩:=h;refine ⟨ao,cap,rfl,fun hne=>?_⟩
 obtain ⟨b,off,rfl,hlt,hat⟩:=h hne;refine ⟨b,off,rfl,Nat.lt_of_lt_of_le hlt hg.size,fun i hi=>?_⟩
 obtain ⟨cs,fr,h1⟩:=hty _ _ _ rfl
 rw [World.cell?_of_block (hg.block b hlt (fun e2=>by
  obtain ⟨cs',fr',h2⟩:=ho _ e2.symm;rw [h1] at h2
  injection h2 with h2
  injection h2 with _ h3 _
  exact absurd h3 (by decide)))]
 exact hat i hi
theorem IntsV.grown {w w':World} {v:Value} {x:List Int} {own:Option Nat} (h:IntsV w v x) (hty:RowTy w v 3) (hg:w.grownBy w' own) (ho:∀ g,own=some g->∃ cs fr,w.heap[g]? = some (.cells cs 97 fr)):IntsV w' v x:=by
 obtain ⟨ao,cap,rfl,h⟩:=h;refine ⟨ao,cap,rfl,fun hne=>?_⟩
 obtain ⟨b,off,rfl,hlt,hat⟩:=h hne;refine ⟨b,off,rfl,Nat.lt_of_lt_of_le hlt hg.size,fun i hi=>?_⟩
 obtain ⟨cs,fr,h1⟩:=hty _ _ _ rfl
 rw [World.cell?_of_block (hg.block b hlt (fun e2=>by
  obtain ⟨cs',fr',h2⟩:=ho _ e2.symm;rw [h1] at h2
  injection h2 with h2
  injection h2 with _ h3 _
  exact absurd h3 (by decide)))]
 exact hat i hi
def StOk (Pz:Nat->Prop) (w:World) (m:Mo) (ps:List (List (Int × Int))) (l:List (Int × Int)) (code:Int) (v:Value):Prop:=
 ∃ lo lc no nc so sc,v=.agg #[.slice lo ps.length lc,.slice no (nextL m code).length nc,.slice so (2 ^ (aheadL l).length) sc]/\BoolsV w (.slice lo ps.length lc) (letL m ps code)/\IntsV w (.slice no (nextL m code).length nc) (nextL m code)/\IntsV w (.slice so (2 ^ (aheadL l).length) sc) (sgL l (letL m ps code))/\RowTy w (.slice lo ps.length lc) 4/\RowTy w (.slice no (nextL m code).length nc) 3/\RowTy w (.slice so (2 ^ (aheadL l).length) sc) 3/\(∀ a,no=some a->Pz a.block)/\(∀ a,so=some a->Pz a.block)
theorem StOk.sk {bs bl:Nat} {w w':World} {m:Mo} {ps:List (List (Int × Int))} {l:List (Int × Int)} {code:Int} {v:Value} (h:StOk Pz w m ps l code v) (hs:Sk bs bl w w') (hm:TwoMaps w bs bl):StOk Pz w' m ps l code v:=by
 obtain ⟨lo,lc,no,nc,so,sc,h1,h2,h3,h4,h5,h6,h7,h8⟩:=h;exact ⟨lo,lc,no,nc,so,sc,h1,h2.sk hs hm,h3.sk hs hm,h4.sk hs hm,h5.sk hs hm,h6.sk hs hm,h7.sk hs hm,h8⟩
theorem StOk.below {w w':World} {m:Mo} {ps:List (List (Int × Int))} {l:List (Int × Int)} {code:Int} {v:Value} (h:StOk Pz w m ps l code v) (hb:Below w.heap.size w w'):StOk Pz w' m ps l code v:=by
 obtain ⟨lo,lc,no,nc,so,sc,h1,h2,h3,h4,h5,h6,h7,h8⟩:=h;exact ⟨lo,lc,no,nc,so,sc,h1,h2.below hb,h3.below hb,h4.below hb,h5.below hb,h6.below hb,h7.below hb,h8⟩
theorem StOk.grown {w w':World} {m:Mo} {ps:List (List (Int × Int))} {l:List (Int × Int)} {code:Int} {v:Value} {own:Option Nat} (h:StOk Pz w m ps l code v) (hg:w.grownBy w' own) (ho:∀ g,own=some g->∃ cs fr,w.heap[g]? = some (.cells cs 97 fr)):StOk Pz w' m ps l code v:=by
 obtain ⟨lo,lc,no,nc,so,sc,h1,h2,h3,h4,h5,h6,h7,h8⟩:=h;exact ⟨lo,lc,no,nc,so,sc,h1,h2.grown h5 hg ho,h3.grown h6 hg ho,h4.grown h7 hg ho,h5.grown hg (by decide) ho,h6.grown hg (by decide) ho,h7.grown hg (by decide) ho,h8⟩
def six (x:List Bool):List Bool:=x++List.replicate (6 - x.length) false
def linkV (x:List Bool) (c sg:Int):Value:=.agg ((six x).map Value.bool++[Value.int .i64 c,Value.int .i64 sg]).toArray
theorem linkV_inj {x y:List Bool} {c d s t:Int} (hl:x.length=y.length) (h:linkV x c s=linkV y d t):x=y/\c=d/\s=t:=by
 unfold linkV at h
 injection h with h
 have h1:=congrArg Array.toList h;have hs:((six x).map Value.bool).length=((six y).map Value.bool).length:=by simp [six,hl]
 obtain ⟨h2,h3⟩:=List.append_inj h1 hs
 have h4:six x=six y:=by
  have:=List.map_inj_right (f:=Value.bool) (fun a b hab=>by injection hab) |>.1 h2
  exact this
 unfold six at h4;have h5:=(List.append_inj h4 hl).1;simp at h3
 exact ⟨h5,h3.1,h3.2⟩
def LinkOk (ps:List (List (Int × Int))) (l:List (Int × Int)) (kl:Lit) (v:Value):Prop:=
 ∃ (x:List Bool) (c sg:Int) (b:Bool),x.length=ps.length/\keyOf Tryz.prog 168 (linkV x c sg)=some kl/\v=.agg #[.bool b]/\∀ (y:List Bool) (d:Int),y.length=ps.length->tcode l y d=0->signN l (tru l y d)=sg->folR l x c y d=b
structure SvOk (Pz:Nat->Prop) (w0 w:World) (B bs bl n:Nat) (va vr pv fv:Value) (m:Mo) (ps:List (List (Int × Int))) (l:List (Int × Int)) (ho:Option Addr) (hc:Nat):Prop where
 box:SurvAt w B va vr pv fv (.slice ho (aheadL l).length hc) bs bl
 bel:Below w0.heap.size w0 w
 lo1:w0.heap.size <= bs
 lo2:w0.heap.size <= bl
 ne:bs≠bl
 ah:IntsV w (.slice ho (aheadL l).length hc) (aheadL l)
 aty:RowTy w (.slice ho (aheadL l).length hc) 3
 up:∀ b,w.heap.size <= b->Pz b
 aP:∀ a,ho=some a->Pz a.block
 st:∃ f,MapIs w 3 bs n f/\∀ kl v,f kl=some v->∃ code,kl=.int .i64 code/\(0 <= code/\code < prodTo m.vars m.vars.length)/\StOk Pz w m ps l code v
 li:∃ f,MapIs w 168 bl n f/\∀ kl v,f kl=some v->LinkOk ps l kl v
section
variable {w0 w w' : World} {B bs bl n : Nat} {va vr pv fv : Value} {m : Mo} {ps : List (List (Int × Int))} {l : List (Int × Int)} {ho : Option Addr} {hc : Nat}
theorem SvOk.two (h:SvOk Pz w0 w B bs bl n va vr pv fv m ps l ho hc):TwoMaps w bs bl:=by
 obtain ⟨f,h1,_⟩:=h.st;obtain ⟨g,h2,_⟩:=h.li;exact ⟨h1.isMap,h2.isMap⟩
theorem SvOk.below (h:SvOk Pz w0 w B bs bl n va vr pv fv m ps l ho hc) (hb:Below w.heap.size w w'):SvOk Pz w0 w' B bs bl n va vr pv fv m ps l ho hc:=by
 obtain ⟨f,h1,h2⟩:=h.st;obtain ⟨g,h3,h4⟩:=h.li;refine ⟨h.box.later hb,h.bel.trans (hb.mono h.bel.size),h.lo1,h.lo2,h.ne,h.ah.below hb,h.aty.below hb,fun b hb2=>h.up b (Nat.le_trans hb.size hb2),h.aP,⟨f,h1.kept (hb.block _ h1.lt),fun kl v hv=>?_⟩,⟨g,h3.kept (hb.block _ h3.lt),h4⟩⟩
 obtain ⟨code,e1,e2,e3⟩:=h2 kl v hv;exact ⟨code,e1,e2,e3.below hb⟩
theorem MapIs.mono {w:World} {kt:TypeId} {b n n':Nat} {f:Lit->Option Value} (h:MapIs w kt b n f) (hn:n <= n'):MapIs w kt b n' f:=by
 obtain ⟨D,h1,h2⟩:=h;exact ⟨D,h1.mono hn,h2⟩
theorem SvOk.mono {n':Nat} (h:SvOk Pz w0 w B bs bl n va vr pv fv m ps l ho hc) (hn:n <= n'):SvOk Pz w0 w B bs bl n' va vr pv fv m ps l ho hc:=by
 obtain ⟨f,h1,h2⟩:=h.st;obtain ⟨g,h3,h4⟩:=h.li;exact ⟨h.box,h.bel,h.lo1,h.lo2,h.ne,h.ah,h.aty,h.up,h.aP,⟨f,h1.mono hn,h2⟩,⟨g,h3.mono hn,h4⟩⟩
theorem SvOk.putL (h:SvOk Pz w0 w B bs bl n va vr pv fv m ps l ho hc) {f:Lit->Option Value} {kl:Lit} {v:Value} (hg:w.grownBy w' (some bl)) (h2:∀ kl v,f kl=some v->LinkOk ps l kl v)
  (hm:MapIs w' 168 bl (n+1) (fput f kl v)) (hv:LinkOk ps l kl v):SvOk Pz w0 w' B bs bl (n+1) va vr pv fv m ps l ho hc:=by
 have hs:Sk bs bl w w':=Sk.grown hg (.inr rfl);have ht:=h.two;obtain ⟨g,h3,h4⟩:=h.st
 refine ⟨h.box.sk hs ht,h.bel.trans (hs.below h.lo1 h.lo2 h.bel.size),h.lo1,h.lo2,h.ne,h.ah.sk hs ht,h.aty.sk hs ht,fun b hb2=>h.up b (Nat.le_trans hs.size hb2),h.aP,⟨g,(h3.kept (hg.block _ h3.lt (by intro e;injection e with e;exact h.ne e))).mono (Nat.le_succ _),fun k u hu=>?_⟩,⟨_,hm,fun k u hu=>?_⟩⟩
 ·obtain ⟨c,e1,e2,e3⟩:=h4 k u hu
  exact ⟨c,e1,e2,e3.sk hs ht⟩
 ·by_cases hk:k=kl
  ·subst hk
   rw [fput_same] at hu
   cases hu
   exact hv
  ·rw [fput_other hk] at hu
   exact h2 k u hu
theorem SvOk.spots {own:Option Nat} (h:SvOk Pz w0 w B bs bl n va vr pv fv m ps l ho hc) (hg:w.grownBy w' own) (hown:∀ g,own=some g->B < g/\w0.heap.size <= g/\∃ cs fr,w.heap[g]? = some (.cells cs 97 fr)):SvOk Pz w0 w' B bs bl n va vr pv fv m ps l ho hc:=by
 have hty:∀ g,own=some g->∃ cs fr,w.heap[g]? = some (.cells cs 97 fr):=fun g e=>(hown g e).2.2
 have hbx:∀ i v,w.cell? ⟨B,i,none⟩=some v->w'.cell? ⟨B,i,none⟩=some v:=fun i v hv=>by
  rw [World.cell?_of_block (hg.block B h.box.lt (fun e=>by have:=(hown B e.symm).1;omega))]
  exact hv
 obtain ⟨f,h1,h2⟩:=h.st;obtain ⟨q,h3,h4⟩:=h.li
 have hms:∀ b es c,w.heap[b]? = some (.map es c)->b < w.heap.size->w'.heap[b]? = w.heap[b]?:=fun b es c e hlt=>hg.block b hlt (fun e2=>by
  obtain ⟨cs,fr,e3⟩:=hty b e2.symm;rw [e] at e3
  simp at e3)
 obtain ⟨es1,c1,m1⟩:=h1.isMap;obtain ⟨es2,c2,m2⟩:=h3.isMap
 refine ⟨⟨Nat.lt_of_lt_of_le h.box.lt hg.size,hbx _ _ h.box.c0,hbx _ _ h.box.c1,hbx _ _ h.box.c2,hbx _ _ h.box.c3,hbx _ _ h.box.c4,hbx _ _ h.box.c5,hbx _ _ h.box.c6⟩,?_,h.lo1,h.lo2,h.ne,h.ah.grown h.aty hg hty,h.aty.grown hg (by decide) hty,fun b hb2=>h.up b (Nat.le_trans hg.size hb2),h.aP,⟨f,h1.kept (hms bs _ _ m1 h1.lt),fun kl v hv=>?_⟩,⟨q,h3.kept (hms bl _ _ m2 h3.lt),h4⟩⟩
 ·refine h.bel.trans ⟨hg.os,hg.tape,hg.output,hg.size,fun i hi=>hg.block i (Nat.lt_of_lt_of_le hi h.bel.size) (fun e=>by have:=(hown i e.symm).2.1;omega)⟩
 ·obtain ⟨code,e1,e2,e3⟩:=h2 kl v hv
  exact ⟨code,e1,e2,e3.grown hg hty⟩
end
end Go.Proofs.YtfnobbpbmelgnaaGreatDoor
namespace Go.Proofs.YtfnobbpbmelgnaaGreatDoor
open Go.ChangeShapes Go.WideShapes Go.ChangeAt Go.RowKit Go.Deep Go.Maps
open Terms Tm
set_option maxHeartbeats 6400000
set_option maxRecDepth 20000
structure Chg (Z:Nat->Prop) (w w':World):Prop where
 os:w'.os=w.os
 tape:w'.tape=w.tape
 output:w'.output=w.output
 size:w.heap.size <= w'.heap.size
 block:∀ i,i < w.heap.size->¬ Z i->w'.heap[i]? = w.heap[i]?
theorem Chg.trans {Z:Nat->Prop} {a b c:World} (h:Chg Z a b) (k:Chg Z b c):Chg Z a c:=
 ⟨k.os.trans h.os,k.tape.trans h.tape,k.output.trans h.output,Nat.le_trans h.size k.size,fun i hi hz=>(k.block i (Nat.lt_of_lt_of_le hi h.size) hz).trans (h.block i hi hz)⟩
theorem Chg.trans2 {Z Z':Nat->Prop} {a b c:World} (h:Chg Z a b) (k:Chg Z' b c) (hz:∀ i,i < a.heap.size->Z' i->Z i):Chg Z a c:=
 ⟨k.os.trans h.os,k.tape.trans h.tape,k.output.trans h.output,Nat.le_trans h.size k.size,fun i hi hn=>(k.block i (Nat.lt_of_lt_of_le hi h.size) (fun h2=>hn (hz i hi h2))).trans (h.block i hi hn)⟩
theorem Chg.weaken {Z Z':Nat->Prop} {a b:World} (h:Chg Z a b) (hz:∀ i,i < a.heap.size->Z i->Z' i):Chg Z' a b:=
 ⟨h.os,h.tape,h.output,h.size,fun i hi hn=>h.block i hi (fun h2=>hn (hz i hi h2))⟩
theorem Chg.of {Z:Nat->Prop} {w w':World} (h:Below w.heap.size w w'):Chg Z w w':=⟨h.os,h.tape,h.output,h.size,fun i hi _=>h.block i hi⟩
theorem Chg.grown {w w':World} {own:Option Nat} (h:w.grownBy w' own):Chg (fun i=>own=some i) w w':=
 ⟨h.os,h.tape,h.output,h.size,fun i hi hz=>h.block i hi (fun e=>hz e.symm)⟩
theorem Chg.setCell (w:World) (p:Addr) (v:Value):Chg (fun i=>i=p.block) w (w.setCell p v):=
 ⟨rfl,rfl,rfl,by simp,fun i _ hz=>RowKit.Below.heap_setCell _ _ _ _ hz⟩
theorem Chg.below {Z:Nat->Prop} {base:Nat} {w w':World} (h:Chg Z w w') (hz:∀ i,Z i->base <= i) (hb:base <= w.heap.size):Below base w w':=
 ⟨h.os,h.tape,h.output,h.size,fun i hi=>h.block i (by omega) (fun h2=>by have:=hz i h2;omega)⟩
theorem Chg.cell {Z:Nat->Prop} {w w':World} (h:Chg Z w w') {p:Addr} {v:Value} (hp:w.cell? p=some v) (hz:¬ Z p.block):w'.cell? p=some v:=by
 rw [World.cell?_of_block (h.block p.block (World.block_lt_of_cell? w p hp) hz)]
 exact hp
theorem Sk.chg {bs bl:Nat} {w w':World} (h:Sk bs bl w w'):Chg (fun i=>i=bs\/i=bl) w w':=
 ⟨h.os,h.tape,h.output,h.size,fun i hi hz=>h.block i hi (fun e=>hz (.inl e)) (fun e=>hz (.inr e))⟩
def TyB (w:World) (i:Nat) (t:TypeId):Prop:=∃ cs fr,w.heap[i]? = some (.cells cs t fr)
theorem TyB.lt {w:World} {i:Nat} {t:TypeId} (h:TyB w i t):i < w.heap.size:=by
 obtain ⟨cs,fr,h⟩:=h;exact (Array.getElem?_eq_some_iff.1 h).1
theorem TyB.eq {w:World} {i:Nat} {t t':TypeId} (h:TyB w i t) (h':TyB w i t'):t=t':=by
 obtain ⟨cs,fr,h⟩:=h;obtain ⟨cs',fr',h'⟩:=h';rw [h] at h'
 injection h' with h'
 injection h' with _ h' _
theorem TyB.no_map {w:World} {i:Nat} {t:TypeId} (h:TyB w i t) {es:Array MapEntry} {c:Nat}:w.heap[i]?≠some (.map es c):=by
 obtain ⟨cs,fr,h⟩:=h;rw [h]
 simp
theorem RowTy.ty {w:World} {t:TypeId} {a:Addr} {n c:Nat} (h:RowTy w (.slice (some a) n c) t):TyB w a.block t:=h a n c rfl
theorem IntsV.chg {Z:Nat->Prop} {w w':World} {ao:Option Addr} {n c:Nat} {x:List Int} (h:IntsV w (.slice ao n c) x) (hs:Chg Z w w') (hz:∀ a,ao=some a->¬ Z a.block):IntsV w' (.slice ao n c) x:=by
 obtain ⟨ao',cap,e,h⟩:=h
 injection e with e1 e2 e3
 subst e1 e2 e3;refine ⟨ao,c,rfl,fun hne=>?_⟩
 obtain ⟨b,off,rfl,hlt,hat⟩:=h hne;exact ⟨b,off,rfl,Nat.lt_of_lt_of_le hlt hs.size,fun i hi=>hs.cell (hat i hi) (hz ⟨b,off,none⟩ rfl)⟩
theorem BoolsV.chg {Z:Nat->Prop} {w w':World} {ao:Option Addr} {n c:Nat} {x:List Bool} (h:BoolsV w (.slice ao n c) x) (hs:Chg Z w w') (hz:∀ a,ao=some a->¬ Z a.block):BoolsV w' (.slice ao n c) x:=by
 obtain ⟨ao',cap,e,h⟩:=h
 injection e with e1 e2 e3
 subst e1 e2 e3;refine ⟨ao,c,rfl,fun hne=>?_⟩
 obtain ⟨b,off,rfl,hlt,hat⟩:=h hne;exact ⟨b,off,rfl,Nat.lt_of_lt_of_le hlt hs.size,fun i hi=>hs.cell (hat i hi) (hz ⟨b,off,none⟩ rfl)⟩
theorem RowTy.chg {Z:Nat->Prop} {w w':World} {ao:Option Addr} {n c:Nat} {t:TypeId} (h:RowTy w (.slice ao n c) t) (hs:Chg Z w w') (hz:∀ a,ao=some a->¬ Z a.block):RowTy w' (.slice ao n c) t:=by
 intro a k c' e
 injection e with e1 e2 e3
 subst e1 e2 e3;obtain ⟨cs,fr,h1⟩:=h a n c rfl;exact ⟨cs,fr,(hs.block _ (Array.getElem?_eq_some_iff.1 h1).1 (hz a rfl)).trans h1⟩
theorem owns_chg {Z:Nat->Prop} {w w':World} {base:Nat} {e:TypeId} {s n:Nat} {v:Value} {xs:List Value} (h:w.ownsRow base e s v n xs) (hs:Chg Z w w') (hz:∀ g,v.ownBlock=some g->¬ Z g):w'.ownsRow base e s v n xs:=by
 refine ⟨h.1,?_⟩
 rcases h.2 with h0 | ⟨g,cap,cur,h1,h2,h3,h4⟩
 ·exact .inl h0
 ·refine .inr ⟨g,cap,cur,h1,h2,?_,h4⟩
  rw [hs.block g (Array.getElem?_eq_some_iff.1 h3).1 (hz g (by rw [h1];simp [Value.ownBlock]))]
  exact h3
theorem owns_ty {w:World} {base:Nat} {e:TypeId} {s n:Nat} {v:Value} {xs:List Value} (h:w.ownsRow base e s v n xs) {g:Nat} (hg:v.ownBlock=some g):base <= g/\TyB w g e:=by
 rcases h.2 with ⟨h0,_⟩ | ⟨g',cap',cur,h1,h2,h3,_⟩
 ·rw [h0] at hg;simp [Value.ownBlock] at hg
 ·rw [h1] at hg
  simp [Value.ownBlock] at hg
  subst hg;exact ⟨h2,cur,_,h3⟩
theorem MapIs.chg {Z:Nat->Prop} {w w':World} {kt:TypeId} {b n:Nat} {f:Lit->Option Value} (h:MapIs w kt b n f) (hs:Chg Z w w') (hz:¬ Z b):MapIs w' kt b n f:=h.kept (hs.block b h.lt hz)
section
variable {Pz : Nat -> Prop} {w0 w w' : World} {B bs bl n : Nat} {va vr pv fv : Value} {m : Mo} {ps : List (List (Int × Int))} {l : List (Int × Int)} {ho : Option Addr} {hc : Nat}
theorem StOk.chg {Z:Nat->Prop} {code:Int} {v:Value} (h:StOk Pz w m ps l code v) (hs:Chg Z w w') (hz:∀ i,Z i->¬ TyB w i 4/\(TyB w i 3->¬ Pz i)):StOk Pz w' m ps l code v:=by
 obtain ⟨lo,lc,no,nc,so,sc,h1,h2,h3,h4,h5,h6,h7,h8,h9⟩:=h;have z1:∀ a,lo=some a->¬ Z a.block:=fun a e z=>by subst e;exact (hz _ z).1 h5.ty
 have z2:∀ a,no=some a->¬ Z a.block:=fun a e z=>by subst e;exact (hz _ z).2 h6.ty (h8 a rfl)
 have z3:∀ a,so=some a->¬ Z a.block:=fun a e z=>by subst e;exact (hz _ z).2 h7.ty (h9 a rfl)
 exact ⟨lo,lc,no,nc,so,sc,h1,h2.chg hs z1,h3.chg hs z2,h4.chg hs z3,h5.chg hs z1,h6.chg hs z2,h7.chg hs z3,h8,h9⟩
theorem SvOk.chg {Z:Nat->Prop} (h:SvOk Pz w0 w B bs bl n va vr pv fv m ps l ho hc) (hs:Chg Z w w') (hz:∀ i,Z i->w0.heap.size <= i/\i≠B/\i≠bs/\i≠bl/\¬ TyB w i 4/\(TyB w i 3->¬ Pz i)):SvOk Pz w0 w' B bs bl n va vr pv fv m ps l ho hc:=by
 have zB:¬ Z B:=fun z=>(hz _ z).2.1 rfl
 have zs:¬ Z bs:=fun z=>(hz _ z).2.2.1 rfl
 have zl:¬ Z bl:=fun z=>(hz _ z).2.2.2.1 rfl
 have za:∀ a,ho=some a->¬ Z a.block:=fun a e z=>(hz _ z).2.2.2.2.2 (by have:=h.aty;rw [e] at this;exact this.ty) (h.aP a e)
 obtain ⟨f,h1,h2⟩:=h.st;obtain ⟨q,h3,h4⟩:=h.li
 refine ⟨⟨Nat.lt_of_lt_of_le h.box.lt hs.size,hs.cell h.box.c0 zB,hs.cell h.box.c1 zB,hs.cell h.box.c2 zB,hs.cell h.box.c3 zB,hs.cell h.box.c4 zB,hs.cell h.box.c5 zB,hs.cell h.box.c6 zB⟩,h.bel.trans (hs.below (fun i z=>(hz i z).1) h.bel.size),h.lo1,h.lo2,h.ne,h.ah.chg hs za,h.aty.chg hs za,fun b hb=>h.up b (Nat.le_trans hs.size hb),h.aP,⟨f,h1.chg hs zs,fun kl v hv=>?_⟩,⟨q,h3.chg hs zl,h4⟩⟩
 obtain ⟨code,e1,e2,e3⟩:=h2 kl v hv;exact ⟨code,e1,e2,e3.chg hs fun i z=>(hz i z).2.2.2.2⟩
theorem StOk.re {Pz':Nat->Prop} {code:Int} {v:Value} (h:StOk Pz w m ps l code v) (hp:∀ b,b < w.heap.size->Pz b->Pz' b):StOk Pz' w m ps l code v:=by
 obtain ⟨lo,lc,no,nc,so,sc,h1,h2,h3,h4,h5,h6,h7,h8,h9⟩:=h;exact ⟨lo,lc,no,nc,so,sc,h1,h2,h3,h4,h5,h6,h7,fun a e=>by subst e;exact hp _ h6.ty.lt (h8 a rfl),fun a e=>by subst e;exact hp _ h7.ty.lt (h9 a rfl)⟩
theorem SvOk.re {Pz':Nat->Prop} (h:SvOk Pz w0 w B bs bl n va vr pv fv m ps l ho hc) (hp:∀ b,b < w.heap.size->Pz b->Pz' b) (hup:∀ b,w.heap.size <= b->Pz' b):SvOk Pz' w0 w B bs bl n va vr pv fv m ps l ho hc:=by
 obtain ⟨f,h1,h2⟩:=h.st;refine ⟨h.box,h.bel,h.lo1,h.lo2,h.ne,h.ah,h.aty,hup,fun a e=>hp _ (by have:=h.aty;rw [e] at this;exact this.ty.lt) (h.aP a e),⟨f,h1,fun kl v hv=>?_⟩,h.li⟩
 obtain ⟨code,e1,e2,e3⟩:=h2 kl v hv;exact ⟨code,e1,e2,e3.re hp⟩
end
end Go.Proofs.YtfnobbpbmelgnaaGreatDoor
namespace Go.Proofs.YtfnobbpbmelgnaaGreatDoor
open Go.ChangeShapes Go.WideShapes Go.ChangeAt Go.RowKit Go.Deep
open Terms Tm
set_option maxHeartbeats 6400000
set_option maxRecDepth 20000
theorem signOf_any (B:Nat) (va vr pv fv lv:Value) (l:List (Int × Int)) (lt:List Bool) (c:Nat) (ho:Option Addr) (hcp bs bl:Nat) (w:World) (hB:0 < w.heap.size) (hT:TabAt w) (hF:OpsV w fv l) (hL:BoolsV w lv lt)
  (hz:endsCode (l.map Prod.fst)=0) (h6:(aheadL l).length <= 6) (htc:tcode l lt (c:Int)=0) (hS:SurvAt w B va vr pv fv (.slice ho (aheadL l).length hcp) bs bl) (hA:IntsV w (.slice ho (aheadL l).length hcp) (aheadL l)) :
  Calls Tryz.prog 85 #[.pointer (some ⟨B,0,none⟩),lv,.int .i64 (c:Int)] w fun e w'=>e=.returned (.tuple #[.int .i64 (sgAt l lt c),.int .i64 0])/\Below w.heap.size w w':=by
 obtain ⟨hne,h60⟩:=ends_ne hz;rw [List.length_map] at h60
 have hl0:0 < l.length:=by
  rcases Nat.eq_zero_or_pos l.length with h0 | h0
  ·rw [List.length_eq_zero_iff.1 h0] at hne
   simp at hne
  ·exact h0
 have htr:Calls Tryz.prog 47 #[fv,lv,.int .i64 (c:Int)] w fun e w'=>∃ b off cp,e=.returned (.tuple #[.slice (some ⟨b,off,none⟩) l.length cp,.int .i64 0])/\Below w.heap.size w w'/\b < w'.heap.size/\Hid (∀ j,j < l.length->w'.cell? ⟨b,off+j,none⟩=some (.bool (tru l lt (c:Int) j))):=by
  refine (ltruths_any fv lv l lt (c:Int) w hB hT hF hL).mono fun e w' ⟨v,h1,h2,h3⟩=>?_
  have t2:truL l lt (c:Int)=(List.range l.length).map (tru l lt (c:Int)):=by unfold truL;rw [if_pos htc]
  rw [t2] at h3;obtain ⟨lo,lc,rfl,hx⟩:=h3;obtain ⟨b,off,rfl,hb,hat⟩:=hx (by intro h0;have:=congrArg List.length h0;rw [List.length_map,List.length_range,List.length_nil] at this;omega)
  refine ⟨b,off,lc,by rw [h1,htc];simp,h2,hb,fun j hj=>?_⟩
  have c0:=hat j (by simpa using hj)
  rw [c0];simp [List.getD_eq_getElem?_getD,hj]
 obtain ⟨fo,fc,rfl,_,hfv⟩:=id hF;obtain ⟨fb,foff,rfl,hfb,hfat⟩:=hfv (by intro h0;rw [h0] at hl0;simp at hl0)
 obtain ⟨lo,lc,rfl,_⟩:=id hL
 have HP:Hid (∀ k,k < (aheadL l).length->∃ p:Nat,(∃ ab aoff,ho=some ⟨ab,aoff,none⟩/\ab < w.heap.size/\w.cell? ⟨ab,aoff+k,none⟩=some (.int .i64 (p:Int)))/\p < l.length/\askP l p < l.length/\w.cell? ⟨fb,foff+p*2,none⟩=some (.int .i64 (l.getD p (0,0)).1)/\((aheadL l).getD k 0).toNat=p):=fun k hk=>by
  obtain ⟨p,h1,h2,h3,_⟩:=aheadTo_get l l.length k hk;obtain ⟨ao2,c2,e1,hah⟩:=hA
  injection e1 with e2 e3 e4
  subst e2;obtain ⟨ab,aoff,rfl,hab,haat⟩:=hah (by intro h0;rw [h0] at hk;simp at hk)
  have h1':(aheadL l).getD k 0=(p:Int):=h1;refine ⟨p,⟨ab,aoff,rfl,hab,by rw [haat k hk,h1']⟩,h2,?_,(hfat p h2).1,by rw [h1'];rfl⟩
  unfold askP
  split
  ·refine (part_in hz h2).1 ?_
   have hk':14 <= (l.getD p (0,0)).1/\(l.getD p (0,0)).1 <= 18:=by simpa [lookB] using h3
   unfold pn
   split
   ·omega
   ·split <;> omega
  ·exact h2
 have HSt:Hid (∀ k,signTo l (tru l lt (c:Int)) (k+1)=signTo l (tru l lt (c:Int)) k+if tru l lt (c:Int) (askP l ((aheadL l).getD k 0).toNat)=true then 2 ^ k else 0):=fun _=>rfl
 have HSb:Hid (∀ k,0 <= signTo l (tru l lt (c:Int)) k/\signTo l (tru l lt (c:Int)) k < 2 ^ k):=signTo_bounds _ _
 have HS0:Hid (signTo l (tru l lt (c:Int)) 0=0):=rfl;unfold sgAt signN;generalize signTo l (tru l lt (c:Int))=sg at *;generalize hth:tru l lt (c:Int)=th at *;obtain ⟨_,s0,s1,s2,s3,s4,s5,s6⟩:=id hS
 have HS:Hid (∀ w1,Below w.heap.size w w1->w1.cell? ⟨B,3,none⟩=some (.slice (some ⟨fb,foff,none⟩) l.length fc)/\w1.cell? ⟨B,4,none⟩=some (.slice ho (aheadL l).length hcp)):=fun w1 h=>⟨(hS.later h).c3,(hS.later h).c4⟩
 have HFb:Hid (fb < w.heap.size):=hfb;generalize (aheadL l).length=an at *;generalize lt.length=ltn at *;generalize hnn:l.length=n at *;clear hT hF hL hz htc hA hfv hfat hnn hth hS hne hfb
 go_enter Tryz.func85,Tryz.ntmps85
 go_wp2_with (first | (go_at_call 47;refine htr.mono ?_;rintro e w1 ⟨b,off,cp,rfl,hb1,hblt,HTb⟩;obtain ⟨q3,q4⟩:=HS.out w1 hb1))
 clear htr
 go_loopw [10,33] (fun x i wr=>∃ k:Nat,k <= an/\i=.int .i64 (k:Int)/\x=.int .i64 (sg k)/\wr=w1) (fun _ i _=>an - (intOf i).toNat)
 case atStart=>exact ⟨0,Nat.zero_le _,rfl,by rw [HS0.out],rfl⟩
 case round=>
  obtain ⟨k,hk,rfl,rfl,rfl⟩:=hrel
  by_cases hlt:k < an
  ·obtain ⟨p,⟨ab,aoff,rfl,hab,hca⟩,hpn,hpa,hpc,hpi⟩:=HP.out k hlt
   have HSk:=(show Hid _ from HSt.out k)
   rw [hpi] at HSk;have d0:=(hb1.cell (p:=⟨ab,aoff+k,none⟩) hab).trans hca;have d1:=(hb1.cell (p:=⟨fb,foff+p*2,none⟩) HFb.out).trans hpc;have d2:=HTb.out (askP l p) hpa;obtain ⟨hm0,hm1⟩:=HSb.out k;have hk6:k < 6:=by omega
   have hps:=pow_small (k:=k) (by omega)
   have h2k:(0:Int) < 2 ^ k:=Int.pow_pos (by decide)
   have HOr:Hid (bits BinOp.or IntKind.i64 (sg k) (2 ^ k)=sg k+2 ^ k):=or_bit hk6 hm0 hm1;have hpi2:(p:Int) < (n:Int):=by omega
   unfold askP at d2 hpa HSk;clear HP HSt HSb hca hpc hpi
   by_cases h14:(l.getD p (0,0)).1=14
   ·rw [if_pos h14] at d2 hpa HSk
    rw [h14] at d1;have hpa2:(p:Int)+1 < (n:Int):=by omega
    clear h14;generalize th (p+1)=tv at *
    cases tv with
    | true=>
     have HS2:Hid (sg (k+1)=sg k+2 ^ k):=by show _=_;rw [HSk.out];simp
     clear HSk
     go_wp2_with fail
     exact ⟨⟨k+1,hlt,by first | rfl | simp,by rw [HS2.out,<- HOr.out],by trivial⟩,by simp [intOf];omega⟩
    | false=>
     have HS2:Hid (sg (k+1)=sg k):=by show _=_;rw [HSk.out];simp
     clear HSk
     go_wp2_with fail
     exact ⟨⟨k+1,hlt,by first | rfl | simp,by rw [HS2.out],by trivial⟩,by simp [intOf];omega⟩
   ·rw [if_neg h14] at d2 hpa HSk
    generalize (l.getD p (0,0)).1=kx at *;generalize th p=tv at *
    cases tv with
    | true=>
     have HS2:Hid (sg (k+1)=sg k+2 ^ k):=by show _=_;rw [HSk.out];simp
     clear HSk
     go_wp2_with fail
     exact ⟨⟨k+1,hlt,by first | rfl | simp,by rw [HS2.out,<- HOr.out],by trivial⟩,by simp [intOf];omega⟩
    | false=>
     have HS2:Hid (sg (k+1)=sg k):=by show _=_;rw [HSk.out];simp
     clear HSk
     go_wp2_with fail
     exact ⟨⟨k+1,hlt,by first | rfl | simp,by rw [HS2.out],by trivial⟩,by simp [intOf];omega⟩
  ·obtain rfl:k=an:=by omega
   go_wp2_with fail
   go_ret2
   exact ⟨rfl,hb1⟩
end Go.Proofs.YtfnobbpbmelgnaaGreatDoor
namespace Go.Proofs.YtfnobbpbmelgnaaGreatDoor
open Go.ChangeShapes Go.WideShapes Go.ChangeAt Go.RowKit Go.Deep Go.Maps
open Terms Tm
set_option maxHeartbeats 6400000
set_option maxRecDepth 20000
variable {Pz : Nat -> Prop}
theorem keyedInt:Keyed Tryz.prog 3:=int_keyed Tryz.underlying3
theorem zeroState (w:World):(zeroValue 140).run Tryz.prog w=.ok (.agg #[.slice none 0 0,.slice none 0 0,.slice none 0 0]) w:=by kernel_rfl
theorem keyI {x:Int} (h:-9223372036854775808 <= x/\x <= 9223372036854775807):keyOf Tryz.prog 3 (.int .i64 x)=some (.int .i64 x):=keyOf_int_mk Tryz.underlying3 (WalkArith.wf_i64 (by omega))
theorem owns_ge {w:World} {base n:Nat} {v:Value} {t:TypeId} {s:Nat} {xs:List Value} (h:w.ownsRow base t s v n xs):∀ (a:Addr) (k c:Nat),v=.slice (some a) k c->base <= a.block:=by
 intro a k c e
 rcases h.2 with ⟨h0,_⟩ | ⟨g,cap,cur,h1,h2,_⟩
 ·rw [h0] at e;simp at e
 ·rw [h1] at e
  injection e with e _ _
  injection e with e
  subst e;exact h2
def St3 (w:World) (b:Nat) (x y z:Value):Prop:=b < w.heap.size/\(w.cell? ⟨b,0,none⟩=some x/\w.cell? ⟨b,1,none⟩=some y/\w.cell? ⟨b,2,none⟩=some z)/\w.frozen? ⟨b,0,none⟩=false/\w.frozen? ⟨b,1,none⟩=false/\w.frozen? ⟨b,2,none⟩=false
theorem St3.new (w:World) (x y z:Value) (t:TypeId):St3 (w.alloc (.cells #[x,y,z] t)) w.heap.size x y z:=by
 refine ⟨by simp,⟨?_,?_,?_⟩,?_,?_,?_⟩ <;> simp [go_sem]
theorem St3.later {w w':World} {b:Nat} {x y z:Value} (h:St3 w b x y z) (hb:Below w.heap.size w w'):St3 w' b x y z:=
 ⟨Nat.lt_of_lt_of_le h.1 hb.size,⟨(hb.cell (p:=⟨b,0,none⟩) h.1).trans h.2.1.1,(hb.cell (p:=⟨b,1,none⟩) h.1).trans h.2.1.2.1,(hb.cell (p:=⟨b,2,none⟩) h.1).trans h.2.1.2.2⟩,(hb.frozen (p:=⟨b,0,none⟩) h.1).trans h.2.2.1,(hb.frozen (p:=⟨b,1,none⟩) h.1).trans h.2.2.2.1,(hb.frozen (p:=⟨b,2,none⟩) h.1).trans h.2.2.2.2⟩
def StPost (Pz:Nat->Prop) (w0 w:World) (B bs bl n:Nat) (va vr pv fv:Value) (m:Mo) (ps:List (List (Int × Int))) (l:List (Int × Int)) (ho:Option Addr) (hc:Nat) (code:Int) (e:Ending) (w':World):Prop:=
 Sk bs bl w w'/\Hid (SvOk Pz w0 w' B bs bl (n+1) va vr pv fv m ps l ho hc)/\((wcode m code=0/\∃ lo lc no nc so sc,e=.returned (.tuple #[.agg #[.slice lo ps.length lc,.slice no (nextL m code).length nc,.slice so (2 ^ (aheadL l).length) sc],.int .i64 0])/\Hid (StOk Pz w' m ps l code (.agg #[.slice lo ps.length lc,.slice no (nextL m code).length nc,.slice so (2 ^ (aheadL l).length) sc])))\/(wcode m code≠0/\e=.returned (.tuple #[.agg #[.slice none 0 0,.slice none 0 0,.slice none 0 0],.int .i64 (wcode m code)])))
theorem stateOf_known (w0 w:World) (B bs bl n:Nat) (va vr pv fv:Value) (m:Mo) (ps:List (List (Int × Int))) (l:List (Int × Int)) (ho:Option Addr) (hc:Nat) (code:Int) (hI:-9223372036854775808 <= code/\code <= 9223372036854775807) (hm0:mcode m=0) (hS:SvOk Pz w0 w B bs bl n va vr pv fv m ps l ho hc)
  (f:Lit->Option Value) (hf:MapIs w 3 bs n f) (hfs:∀ kl v,f kl=some v->∃ code,kl=.int .i64 code/\(0 <= code/\code < prodTo m.vars m.vars.length)/\StOk Pz w m ps l code v) (v:Value) (hv:f (.int .i64 code)=some v) :
  Calls Tryz.prog 66 #[.pointer (some ⟨B,0,none⟩),.int .i64 code] w (StPost Pz w0 w B bs bl n va vr pv fv m ps l ho hc code):=by
 obtain ⟨c',e1,hcr,hst⟩:=hfs _ _ hv
 injection e1 with _ e1
 subst e1;have hw0:=wcode_yes hm0 hcr;obtain ⟨lo,lc,no,nc,so,sc,rfl,_⟩:=id hst;obtain ⟨W1,hW1⟩:∃ W1,W1=w.alloc (.cells #[.slice none 0 0,.slice none 0 0,.slice none 0 0] 140):=⟨_,rfl⟩
 have hb1:Below w.heap.size w W1:=by rw [hW1];exact (Below.refl _ _).alloc (Nat.le_refl _) _
 have h4:St3 W1 w.heap.size (.slice none 0 0) (.slice none 0 0) (.slice none 0 0):=by rw [hW1];exact St3.new _ _ _ _ _
 have hlk:(Instr.lookup 87 (.map (some bs)) (.int .i64 code) true).run Tryz.prog W1=.ok (.tuple #[.agg #[.slice lo ps.length lc,.slice no (nextL m code).length nc,.slice so (2 ^ (aheadL l).length) sc],.bool true]) W1:=by
  have:=(hf.kept (hb1.block _ hf.lt)).look keyedInt Tryz.underlying87 (zeroState _) (keyI hI);rw [hv] at this;exact this
 have c5:=(hS.box.later hb1).c5;have HFin:Hid (∀ w',Below w.heap.size w w'->Sk bs bl w w'/\SvOk Pz w0 w' B bs bl (n+1) va vr pv fv m ps l ho hc/\StOk Pz w' m ps l code (.agg #[.slice lo ps.length lc,.slice no (nextL m code).length nc,.slice so (2 ^ (aheadL l).length) sc])):=fun w' h=>⟨Sk.of h,(hS.below h).mono (Nat.le_succ _),hst.below h⟩
 have HW:Hid (wcode m code=0):=hw0;unfold StPost;generalize ps.length=pn at *;generalize (nextL m code).length=nn at *;generalize 2 ^ (aheadL l).length=N at *;obtain ⟨hl4,⟨k0,k1,k2⟩,g0,g1,g2⟩:=id h4;have HH4:Hid (St3 W1 w.heap.size (.slice none 0 0) (.slice none 0 0) (.slice none 0 0)):=h4;clear hS hf hfs hv hst hw0 h4;subst hW1
 go_enter Tryz.func66,Tryz.ntmps66
 go_wp2_with fail
 have hb:Below w.heap.size w ((w.alloc (.cells #[.slice lo pn lc,.slice no nn nc,.slice so N sc] 140)).alloc (.cells #[.slice lo pn lc,.slice no nn nc,.slice so N sc] 140)):=((Below.refl _ _).alloc (Nat.le_refl _) _).alloc (by simp) _
 obtain ⟨r1,r2,r3⟩:=HFin.out _ hb;refine bodyPost_ret (v:=.tuple #[.agg #[.slice lo pn lc,.slice no nn nc,.slice so N sc],.int .i64 0]) ?_ rfl ⟨r1,r2,.inl ⟨HW.out,lo,lc,no,nc,so,sc,rfl,r3⟩⟩
 simp [results,Tryz.results66,go_sem]
theorem BoolsV.setBox {w:World} {v:Value} {l:List Bool} {p:Addr} {a:Option Addr} {n c:Nat} (h:BoolsV w v l) (hc:w.cell? p=some (.slice a n c)) (u:Value):BoolsV (w.setCell p u) v l:=by
 obtain ⟨ao,cap,rfl,h⟩:=h;refine ⟨ao,cap,rfl,fun hne=>?_⟩
 obtain ⟨b,off,rfl,hlt,hat⟩:=h hne;refine ⟨b,off,rfl,by simpa using hlt,fun i hi=>?_⟩
 have h1:=hat i hi
 have hne2:(⟨b,off+i,none⟩:Addr)≠p:=by
  intro e;rw [e,hc] at h1;simp at h1
 rw [World.cell?_setCell_other _ _ _ _ hne2.symm]
 exact h1
theorem IntsV.setBox {w:World} {v:Value} {l:List Int} {p:Addr} {a:Option Addr} {n c:Nat} (h:IntsV w v l) (hc:w.cell? p=some (.slice a n c)) (u:Value):IntsV (w.setCell p u) v l:=by
 obtain ⟨ao,cap,rfl,h⟩:=h;refine ⟨ao,cap,rfl,fun hne=>?_⟩
 obtain ⟨b,off,rfl,hlt,hat⟩:=h hne;refine ⟨b,off,rfl,by simpa using hlt,fun i hi=>?_⟩
 have h1:=hat i hi
 have hne2:(⟨b,off+i,none⟩:Addr)≠p:=by
  intro e;rw [e,hc] at h1;simp at h1
 rw [World.cell?_setCell_other _ _ _ _ hne2.symm]
 exact h1
theorem Sk.setNew {bs bl:Nat} {w w':World} (h:Sk bs bl w w') {p:Addr} (hp:w.heap.size <= p.block) (v:Value):Sk bs bl w (w'.setCell p v):=
 ⟨h.os,h.tape,h.output,by simpa using h.size,fun i hi h1 h2=>(RowKit.Below.heap_setCell _ _ _ _ (by omega)).trans (h.block i hi h1 h2)⟩
theorem SvOk.putN {w0 w w':World} {B bs bl n:Nat} {va vr pv fv:Value} {m:Mo} {ps:List (List (Int × Int))} {l:List (Int × Int)} {ho:Option Addr} {hc:Nat} (h:SvOk Pz w0 w B bs bl n va vr pv fv m ps l ho hc) {f:Lit->Option Value} {code:Int} {v:Value} (hs:Sk bs bl w w') (hbl:w'.heap[bl]? = w.heap[bl]?) (h2:∀ kl v,f kl=some v->∃ code,kl=.int .i64 code/\(0 <= code/\code < prodTo m.vars m.vars.length)/\StOk Pz w m ps l code v)
  (hm:MapIs w' 3 bs (n+1) (fput f (.int .i64 code) v)) (hc':0 <= code/\code < prodTo m.vars m.vars.length) (hv:StOk Pz w' m ps l code v):SvOk Pz w0 w' B bs bl (n+1) va vr pv fv m ps l ho hc:=by
 have ht:=h.two;obtain ⟨g,h3,h4⟩:=h.li;refine ⟨h.box.sk hs ht,h.bel.trans (hs.below h.lo1 h.lo2 h.bel.size),h.lo1,h.lo2,h.ne,h.ah.sk hs ht,h.aty.sk hs ht,fun b hb2=>h.up b (Nat.le_trans hs.size hb2),h.aP,⟨_,hm,fun kl u hu=>?_⟩,⟨g,(h3.kept hbl).mono (Nat.le_succ _),h4⟩⟩
 by_cases hk:kl=.int .i64 code
 ·subst hk
  rw [fput_same] at hu
  cases hu
  exact ⟨code,rfl,hc',hv⟩
 ·rw [fput_other hk] at hu
  obtain ⟨c,e1,e2,e3⟩:=h2 kl u hu;exact ⟨c,e1,e2,e3.sk hs ht⟩
theorem stateOf_out (w0 w:World) (B bs bl n:Nat) (va vr pv fv:Value) (m:Mo) (ps:List (List (Int × Int))) (l:List (Int × Int)) (ho:Option Addr) (hc:Nat) (code:Int) (hI:-9223372036854775808 <= code/\code <= 9223372036854775807) (hB:0 < w0.heap.size) (hT:TabAt w0) (hV:TaskV w0 va vr pv fv m ps l) (hk:tkcode m ps l=0) (hS:SvOk Pz w0 w B bs bl n va vr pv fv m ps l ho hc)
  (f:Lit->Option Value) (hf:MapIs w 3 bs n f) (hv:f (.int .i64 code)=none) (hw:wcode m code≠0) :
  Calls Tryz.prog 66 #[.pointer (some ⟨B,0,none⟩),.int .i64 code] w (StPost Pz w0 w B bs bl n va vr pv fv m ps l ho hc code):=by
 obtain ⟨hp0,_⟩:=tk_zero hk;obtain ⟨ao,ac,rfl⟩:=hV.mo.1.shape;obtain ⟨ro,rc,rfl⟩:=hV.mo.2.shape;obtain ⟨po,pc,rfl⟩:=hV.ps.shape;obtain ⟨W1,hW1⟩:∃ W1,W1=w.alloc (.cells #[.slice none 0 0,.slice none 0 0,.slice none 0 0] 140):=⟨_,rfl⟩
 have hb1:Below w.heap.size w W1:=by rw [hW1];exact (Below.refl _ _).alloc (Nat.le_refl _) _
 have hlk:(Instr.lookup 87 (.map (some bs)) (.int .i64 code) true).run Tryz.prog W1=.ok (.tuple #[.agg #[.slice none 0 0,.slice none 0 0,.slice none 0 0],.bool false]) W1:=by
  have:=(hf.kept (hb1.block _ hf.lt)).look keyedInt Tryz.underlying87 (zeroState _) (keyI hI);rw [hv] at this;exact this
 have c5:=(hS.box.later hb1).c5;have hb2:Below w.heap.size w (W1.alloc (.cells #[.slice none 0 0,.slice none 0 0,.slice none 0 0] 140)):=hb1.alloc hb1.size _
 have HLe:Hid (∀ w1,Below w.heap.size w w1->Calls Tryz.prog 45 #[.agg #[.slice ao m.vars.length ac,.slice ro m.rules.length rc],.slice po ps.length pc,.int .i64 code] w1 fun e w'=>∃ lo ln lc,e=.returned (.tuple #[.slice lo ln lc,.int .i64 (wcode m code)])/\Below w1.heap.size w1 w'):=fun w1 h=>by
  have h0:=hS.bel.trans (h.mono hS.bel.size);refine (letter_any _ _ _ m ps code w1 (Nat.lt_of_lt_of_le hB h0.size) (hT.below h0 hB) (hV.mo.below h0) (hV.ps.below h0)).mono fun e w' ⟨v,h1,h2,h3⟩=>?_
  have e1:letC m ps code=wcode m code:=by unfold letC;rw [if_pos hp0]
  obtain ⟨lo,lc,rfl,_⟩:=h3;exact ⟨lo,_,lc,by rw [h1,e1],h2⟩
 have HSB:Hid (∀ w1,Below w.heap.size w w1->w1.cell? ⟨B,0,none⟩=some (.slice ao m.vars.length ac)/\w1.cell? ⟨B,1,none⟩=some (.slice ro m.rules.length rc)/\w1.cell? ⟨B,2,none⟩=some (.slice po ps.length pc)):=fun w1 h=>⟨(hS.box.later h).c0,(hS.box.later h).c1,(hS.box.later h).c2⟩
 have HFin:Hid (∀ w',Below w.heap.size w w'->Sk bs bl w w'/\SvOk Pz w0 w' B bs bl (n+1) (.slice ao m.vars.length ac) (.slice ro m.rules.length rc) (.slice po ps.length pc) fv m ps l ho hc):=fun w' h=>⟨Sk.of h,(hS.below h).mono (Nat.le_succ _)⟩
 have H4:Hid (∀ w',Below (w.heap.size+1) W1 w'->w'.cell? ⟨w.heap.size,0,none⟩=some (.slice none 0 0)/\w'.cell? ⟨w.heap.size,1,none⟩=some (.slice none 0 0)/\w'.cell? ⟨w.heap.size,2,none⟩=some (.slice none 0 0)/\w'.frozen? ⟨w.heap.size,0,none⟩=false/\w'.frozen? ⟨w.heap.size,1,none⟩=false/\w'.frozen? ⟨w.heap.size,2,none⟩=false):=fun w' h=>by
  have h3:St3 W1 w.heap.size (.slice none 0 0) (.slice none 0 0) (.slice none 0 0):=by rw [hW1];exact St3.new _ _ _ _ _
  obtain ⟨_,⟨a,b,c⟩,d,e,f⟩:=h3;have hlt:w.heap.size < w.heap.size+1:=Nat.lt_succ_self _
  exact ⟨(h.cell (p:=⟨w.heap.size,0,none⟩) hlt).trans a,(h.cell (p:=⟨w.heap.size,1,none⟩) hlt).trans b,(h.cell (p:=⟨w.heap.size,2,none⟩) hlt).trans c,(h.frozen (p:=⟨w.heap.size,0,none⟩) hlt).trans d,(h.frozen (p:=⟨w.heap.size,1,none⟩) hlt).trans e,(h.frozen (p:=⟨w.heap.size,2,none⟩) hlt).trans f⟩
 have hz1:W1.heap.size=w.heap.size+1:=by rw [hW1];simp
 unfold StPost;generalize wcode m code=wc at *;generalize m.vars.length=vn at *;generalize m.rules.length=rn at *;generalize ps.length=pn at *;clear hS hf hv hT hV hk hp0;obtain ⟨W2,hW2⟩:∃ W2,W2=W1.alloc (.cells #[.slice none 0 0,.slice none 0 0,.slice none 0 0] 140):=⟨_,rfl⟩
 have hk2:Below (w.heap.size+1) W1 W2:=by rw [hW2];exact (Below.refl _ _).alloc (by omega) _
 have hbw2:Below w.heap.size w W2:=by rw [hW2];exact hb2
 have hz2:w.heap.size+1 <= W2.heap.size:=by rw [hW2];simp [hz1]
 rw [hW1] at hW2;subst hW1
 go_enter Tryz.func66,Tryz.ntmps66
 go_wp2_with fail
 rw [<- hW2];clear hW2 hlk c5;have hle:=HLe.out _ hbw2.drew;have hB0:Below W2.heap.size W2 W2:=Below.refl _ _;have hBw:=hB0.drew
 go_region_held3 (fun w'=>w'.cell? ⟨B,0,none⟩=some (.slice ao vn ac)/\w'.cell? ⟨B,1,none⟩=some (.slice ro rn rc)/\w'.cell? ⟨B,2,none⟩=some (.slice po pn pc))
  (first | exact HSB.out _ hb12 | exact HSB.out _ hbw2.drew | exact HSB.out _ hbw2)
  (first
   | (go_at_call 45;refine hle.mono ?_;rintro e w3 ⟨lo,ln,lc,rfl,hb3⟩;have hb12:=hbw2.drew.trans (hb3.mono hbw2.drew.size);have hk3:=hk2.drew.trans (hb3.mono hz2)))
 obtain ⟨q0,q1,q2,q3,q4,q5⟩:=H4.out _ hk3
 go_wp2_with fail
 have hbF:=((hb12.setCell (p:=⟨w.heap.size,0,none⟩) (Nat.le_refl _) (.slice none 0 0)).setCell (p:=⟨w.heap.size,1,none⟩) (Nat.le_refl _) (.slice none 0 0)).setCell (p:=⟨w.heap.size,2,none⟩) (Nat.le_refl _) (.slice none 0 0);obtain ⟨r1,r2⟩:=HFin.out _ hbF
 refine bodyPost_ret (v:=.tuple #[.agg #[.slice none 0 0,.slice none 0 0,.slice none 0 0],.int .i64 wc]) ?_ rfl ⟨r1,r2,.inr ⟨hw,rfl⟩⟩
 simp [results,Tryz.results66,go_sem,q0,q1,q2]
structure SgAt (w4 wr:World) (N k:Nat) (sg:Nat->Int) (lv nv:Value):Prop where
 bel:Below w4.heap.size w4 wr
 row:wr.rowIs w4.heap.size 3 N (fun j=>.int .i64 (if j < k then sg j else 0))
 box:St3 wr (w4.heap.size+1) lv nv (.slice (some ⟨w4.heap.size,0,none⟩) N N)
theorem SgAt.start (w4:World) (N:Nat) (sg:Nat->Int) (lv nv:Value):SgAt w4 ((w4.alloc (.cells (madeCells #[.int .i64 0] N) 3)).alloc (.cells #[lv,nv,.slice (some ⟨w4.heap.size,0,none⟩) N N] 140)) N 0 sg lv nv:=by
 refine ⟨((Below.refl _ _).alloc (Nat.le_refl _) _).alloc (by simp) _,?_,?_⟩
 ·exact ((World.rowIs_made w4 (.int .i64 0) N 3).alloc _).congr (fun j _=>by simp)
 ·have:=St3.new (w4.alloc (.cells (madeCells #[.int .i64 0] N) 3)) lv nv (.slice (some ⟨w4.heap.size,0,none⟩) N N) 140
  rw [World.size_alloc] at this;exact this
theorem SgAt.later {w4 wr w':World} {N k:Nat} {sg:Nat->Int} {lv nv:Value} (h:SgAt w4 wr N k sg lv nv) (hb:Below wr.heap.size wr w'):SgAt w4 w' N k sg lv nv:=
 ⟨h.bel.trans (hb.mono h.bel.size),h.row.of_block (hb.block _ h.row.lt),h.box.later hb⟩
theorem SgAt.put {w4 wr:World} {N k:Nat} {sg:Nat->Int} {lv nv:Value} (h:SgAt w4 wr N k sg lv nv):SgAt w4 (wr.setCell ⟨w4.heap.size,k,none⟩ (.int .i64 (sg k))) N (k+1) sg lv nv:=by
 refine ⟨h.bel.setCell (p:=⟨w4.heap.size,k,none⟩) (Nat.le_refl _) _,(h.row.set k _).congr (fun j hj=>?_),?_⟩
 ·by_cases e:j=k
  ·subst e
   rw [if_pos rfl,if_pos (Nat.lt_succ_self _)]
  ·rw [if_neg e]
   by_cases h1:j < k
   ·rw [if_pos h1,if_pos (by omega)]
   ·rw [if_neg h1,if_neg (by omega)]
 ·obtain ⟨h0,⟨a,b,c⟩,d,e,f⟩:=h.box
  refine ⟨by simpa using h0,⟨?_,?_,?_⟩,?_,?_,?_⟩ <;> simp [go_sem,a,b,c,d,e,f]
theorem SgAt.done {w4 wr:World} {N:Nat} {sg:Nat->Int} {lv nv:Value} (h:SgAt w4 wr N N sg lv nv):IntsV wr (.slice (some ⟨w4.heap.size,0,none⟩) N N) ((List.range N).map sg):=by
 refine ⟨some ⟨w4.heap.size,0,none⟩,N,by simp,fun _=>⟨w4.heap.size,0,rfl,h.row.lt,fun i hi=>?_⟩⟩
 have hi':i < N:=by simpa using hi
 rw [Nat.zero_add,h.row.cell hi',if_pos hi'];simp [List.getD_eq_getElem?_getD,hi']
theorem stateOf_new (w0 w:World) (B bs bl n:Nat) (va vr pv fv:Value) (m:Mo) (ps:List (List (Int × Int))) (l:List (Int × Int)) (ho:Option Addr) (hc:Nat) (code:Int) (hI:-9223372036854775808 <= code/\code <= 9223372036854775807) (hB:0 < w0.heap.size) (hT:TabAt w0) (hV:TaskV w0 va vr pv fv m ps l) (hk:tkcode m ps l=0) (hS:SvOk Pz w0 w B bs bl n va vr pv fv m ps l ho hc) (hn:n < 1000000000000)
  (f:Lit->Option Value) (hf:MapIs w 3 bs n f) (hfs:∀ kl v,f kl=some v->∃ code,kl=.int .i64 code/\(0 <= code/\code < prodTo m.vars m.vars.length)/\StOk Pz w m ps l code v) (hv:f (.int .i64 code)=none) (hcr:0 <= code/\code < prodTo m.vars m.vars.length) :
  Calls Tryz.prog 66 #[.pointer (some ⟨B,0,none⟩),.int .i64 code] w (StPost Pz w0 w B bs bl n va vr pv fv m ps l ho hc code):=by
 obtain ⟨hp0,hl0⟩:=tk_zero hk;obtain ⟨hm0,_⟩:=pcode_m hp0;obtain ⟨_,_,hz,_,h6⟩:=lcode_zero hl0;have hw:=wcode_yes hm0 hcr;obtain ⟨ao,ac,rfl⟩:=hV.mo.1.shape;obtain ⟨ro,rc,rfl⟩:=hV.mo.2.shape;obtain ⟨po,pc,rfl⟩:=hV.ps.shape;obtain ⟨fo,fc,rfl,_⟩:=id hV.fo
 obtain ⟨W1,hW1⟩:∃ W1,W1=w.alloc (.cells #[.slice none 0 0,.slice none 0 0,.slice none 0 0] 140):=⟨_,rfl⟩
 have hb1:Below w.heap.size w W1:=by rw [hW1];exact (Below.refl _ _).alloc (Nat.le_refl _) _
 have hlk:(Instr.lookup 87 (.map (some bs)) (.int .i64 code) true).run Tryz.prog W1=.ok (.tuple #[.agg #[.slice none 0 0,.slice none 0 0,.slice none 0 0],.bool false]) W1:=by
  have:=(hf.kept (hb1.block _ hf.lt)).look keyedInt Tryz.underlying87 (zeroState _) (keyI hI);rw [hv] at this;exact this
 have c5:=(hS.box.later hb1).c5;have hb2:Below w.heap.size w (W1.alloc (.cells #[.slice none 0 0,.slice none 0 0,.slice none 0 0] 140)):=hb1.alloc hb1.size _
 have HLe:Hid (∀ w1,Below w.heap.size w w1->Calls Tryz.prog 45 #[.agg #[.slice ao m.vars.length ac,.slice ro m.rules.length rc],.slice po ps.length pc,.int .i64 code] w1 fun e w'=>∃ lo lc,e=.returned (.tuple #[.slice lo ps.length lc,.int .i64 0])/\Below w1.heap.size w1 w'/\Hid (BoolsV w' (.slice lo ps.length lc) (letL m ps code)/\RowTy w' (.slice lo ps.length lc) 4)):=fun w1 h=>by
  have h0:=hS.bel.trans (h.mono hS.bel.size);refine (letter_own _ _ _ m ps code w1 (Nat.lt_of_lt_of_le hB h0.size) (hT.below h0 hB) (hV.mo.below h0) (hV.ps.below h0)).mono fun e w' ⟨v,h1,h2,h3,h4⟩=>?_
  obtain ⟨t1,t2⟩:=tk_let hk hcr;obtain ⟨lo,lc,rfl,hx⟩:=h3;rw [t2] at h1 h4;exact ⟨lo,lc,by rw [h1,t1],h2,⟨lo,lc,by rw [t2],hx⟩,h4⟩
 have HNe:Hid (∀ w1,Below w.heap.size w w1->Calls Tryz.prog 84 #[.agg #[.slice ao m.vars.length ac,.slice ro m.rules.length rc],.int .i64 code] w1 fun e w'=>∃ no nc,e=.returned (.tuple #[.slice no (nextL m code).length nc,.int .i64 0])/\Below w1.heap.size w1 w'/\Hid (IntsV w' (.slice no (nextL m code).length nc) (nextL m code)/\RowTy w' (.slice no (nextL m code).length nc) 3/\∀ a,no=some a->Pz a.block)):=fun w1 h=>by
  have h0:=hS.bel.trans (h.mono hS.bel.size);refine (next_own _ _ m code w1 (Nat.lt_of_lt_of_le hB h0.size) (hT.below h0 hB) (hV.mo.below h0) hm0).mono fun e w' ⟨v,h1,h2,h3'⟩=>?_
  have h4:=RowTy.owns h3';have h5:=owns_ge h3';have h3:=intsV_of_owns h3';have e1:nxtL m code=nextL m code:=by unfold nxtL;rw [if_pos hw]
  rw [e1] at h3;obtain ⟨no,nc,rfl,hx⟩:=h3;exact ⟨no,nc,by rw [h1,hw],h2,⟨no,nc,rfl,hx⟩,h4,fun a e=>hS.up _ (Nat.le_trans h.size (h5 a _ _ (by rw [e])))⟩
 have HSg:Hid (∀ (w1:World) (c:Nat) (lv:Value),Below w.heap.size w w1->c < 2 ^ (aheadL l).length->BoolsV w1 lv (letL m ps code)->Calls Tryz.prog 85 #[.pointer (some ⟨B,0,none⟩),lv,.int .i64 (c:Int)] w1 fun e w'=>e=.returned (.tuple #[.int .i64 (sgAt l (letL m ps code) c),.int .i64 0])/\Below w1.heap.size w1 w'):=fun w1 c lv h hcN hlv=>by
  have h0:=hS.bel.trans (h.mono hS.bel.size);exact signOf_any B _ _ _ _ lv l (letL m ps code) c ho hc bs bl w1 (Nat.lt_of_lt_of_le hB h0.size) (hT.below h0 hB) (hV.fo.below h0) hlv hz h6 (tk_tru hk hcr hcN).1 (hS.box.later h) (hS.ah.below h)
 have HCl:Hid (∀ w1,Below w.heap.size w w1->Calls Tryz.prog 46 #[.pointer (some ⟨B,0,none⟩)] w1 fun e w'=>e=.returned (.int .i64 ((2 ^ (aheadL l).length:Nat):Int))/\w'=w1):=fun w1 h=>claims_any B _ _ _ _ ho _ hc bs bl w1 h6 (hS.box.later h)
 have HSB:Hid (∀ w1,Below w.heap.size w w1->w1.cell? ⟨B,0,none⟩=some (.slice ao m.vars.length ac)/\w1.cell? ⟨B,1,none⟩=some (.slice ro m.rules.length rc)/\w1.cell? ⟨B,2,none⟩=some (.slice po ps.length pc)/\w1.cell? ⟨B,5,none⟩=some (.map (some bs))):=fun w1 h=>⟨(hS.box.later h).c0,(hS.box.later h).c1,(hS.box.later h).c2,(hS.box.later h).c5⟩
 have HPut:Hid (∀ w1,Below w.heap.size w w1->∀ v,∃ w',(Instr.mapUpdate 87 (.map (some bs)) (.int .i64 code) v).run Tryz.prog w1.drew=.ok () w'/\MapIs w' 3 bs (n+1) (fput f (.int .i64 code) v)/\w1.grownBy w' (some bs)):=fun w1 h v=>by
  have hm1:MapIs w1.drew 3 bs n f:=hf.kept (h.block _ hf.lt);obtain ⟨w',h1,h2,h3⟩:=hm1.put keyedInt Tryz.underlying87 (by unfold maxLen;omega) (val:=v) (keyI hI) (by simp [WideAt.IsKeyLit])
  exact ⟨w',h1,h2,⟨h3.os,h3.tape,h3.output,h3.size,h3.block⟩⟩
 have HTwo:Hid (∀ w1,Below w.heap.size w w1->TwoMaps w1 bs bl):=fun w1 h=>(hS.below h).two
 have H4:Hid (∀ w',Below (w.heap.size+1) W1 w'->St3 w' w.heap.size (.slice none 0 0) (.slice none 0 0) (.slice none 0 0)):=fun w' h=>by
  have h3:St3 W1 w.heap.size (.slice none 0 0) (.slice none 0 0) (.slice none 0 0):=by rw [hW1];exact St3.new _ _ _ _ _
  obtain ⟨g0,⟨a,b,c⟩,d,e,f⟩:=h3;have hlt:w.heap.size < w.heap.size+1:=Nat.lt_succ_self _
  exact ⟨Nat.lt_of_lt_of_le g0 h.size,⟨(h.cell (p:=⟨w.heap.size,0,none⟩) hlt).trans a,(h.cell (p:=⟨w.heap.size,1,none⟩) hlt).trans b,(h.cell (p:=⟨w.heap.size,2,none⟩) hlt).trans c⟩,(h.frozen (p:=⟨w.heap.size,0,none⟩) hlt).trans d,(h.frozen (p:=⟨w.heap.size,1,none⟩) hlt).trans e,(h.frozen (p:=⟨w.heap.size,2,none⟩) hlt).trans f⟩
 have HPN:Hid (∀ w' v,Sk bs bl w w'->w'.heap[bl]? = w.heap[bl]?->MapIs w' 3 bs (n+1) (fput f (.int .i64 code) v)->StOk Pz w' m ps l code v->SvOk Pz w0 w' B bs bl (n+1) (.slice ao m.vars.length ac) (.slice ro m.rules.length rc) (.slice po ps.length pc) (.slice fo l.length fc) m ps l ho hc):=fun w' v h1 h2 h3 h4=>hS.putN h1 h2 hfs h3 hcr h4
 have hbs:bs < w.heap.size:=hf.lt;have hbl:bl < w.heap.size:=by obtain ⟨g,h1,_⟩:=hS.li;exact h1.lt
 have hne:=hS.ne;have hz1:W1.heap.size=w.heap.size+1:=by rw [hW1];simp
 have hN64:2 ^ (aheadL l).length <= 64:=Nat.pow_le_pow_right (show 0 < 2 by decide) h6
 have HStI:Hid (∀ (w':World) (lo no so:Option Addr) (lc nc sc:Nat),BoolsV w' (.slice lo ps.length lc) (letL m ps code)->IntsV w' (.slice no (nextL m code).length nc) (nextL m code)->IntsV w' (.slice so (2 ^ (aheadL l).length) sc) ((List.range (2 ^ (aheadL l).length)).map (sgAt l (letL m ps code)))->RowTy w' (.slice lo ps.length lc) 4->RowTy w' (.slice no (nextL m code).length nc) 3->RowTy w' (.slice so (2 ^ (aheadL l).length) sc) 3->(∀ a,no=some a->Pz a.block)->(∀ a,so=some a->Pz a.block)->StOk Pz w' m ps l code (.agg #[.slice lo ps.length lc,.slice no (nextL m code).length nc,.slice so (2 ^ (aheadL l).length) sc])):=fun w' lo no so lc nc sc h1 h2 h3 h4 h5 h6 h7 h8=>⟨lo,lc,no,nc,so,sc,rfl,h1,h2,h3,h4,h5,h6,h7,h8⟩
 have HUp:Hid (∀ b,w.heap.size <= b->Pz b):=hS.up
 unfold StPost;have HW:Hid (wcode m code=0):=hw;generalize sgAt l (letL m ps code)=sg at *;generalize hlt:letL m ps code=lt at *;generalize hnx:nextL m code=nx at *;generalize nx.length=nn at *;generalize m.vars.length=vn at *;generalize m.rules.length=rn at *;generalize ps.length=pn at *;generalize l.length=fn at *;generalize 2 ^ (aheadL l).length=N at *
 clear hS hf hfs hv hT hV hk hp0 hl0 hz h6 hlt hnx hw hm0;obtain ⟨W2,hW2⟩:∃ W2,W2=W1.alloc (.cells #[.slice none 0 0,.slice none 0 0,.slice none 0 0] 140):=⟨_,rfl⟩
 have hk2:Below (w.heap.size+1) W1 W2:=by rw [hW2];exact (Below.refl _ _).alloc (by omega) _
 have hbw2:Below w.heap.size w W2:=by rw [hW2];exact hb2
 have hz2:w.heap.size+1 <= W2.heap.size:=by rw [hW2];simp [hz1]
 rw [hW1] at hW2;subst hW1
 go_enter Tryz.func66,Tryz.ntmps66
 go_wp2_with fail
 rw [<- hW2];clear hW2 hlk c5;have hle:=HLe.out _ hbw2.drew;have HSC:Hid (∀ w1,Below w.heap.size w w1->w1.cell? ⟨B,0,none⟩=some (.slice ao vn ac)/\w1.cell? ⟨B,1,none⟩=some (.slice ro rn rc)/\w1.cell? ⟨B,2,none⟩=some (.slice po pn pc)):=fun w1 h=>by obtain ⟨y0,y1,y2,_⟩:=HSB.out _ h;exact ⟨y0,y1,y2⟩
 have hmk:=run_make_row' (P:=Tryz.prog) 36 3 (.int .i64 0) 8 Tryz.underlying36 infoInt rfl .i64 .i64 N (by omega) (by omega)
 go_region_held3 (fun w'=>w'.cell? ⟨B,0,none⟩=some (.slice ao vn ac)/\w'.cell? ⟨B,1,none⟩=some (.slice ro rn rc)/\w'.cell? ⟨B,2,none⟩=some (.slice po pn pc))
  (first | exact HSC.out _ hb12 | exact HSC.out _ hbw2.drew | exact HSC.out _ hbw2)
  (first
   | (go_at_call 45;refine hle.mono ?_;rintro e w3 ⟨lo,lc,rfl,hb3,HLv⟩;have hb12:=hbw2.drew.trans (hb3.mono hbw2.drew.size);have hk3:=hk2.drew.trans (hb3.mono hz2)))
 obtain ⟨z0,z1,z2,_⟩:=HSB.out _ hb12;have hnx:=HNe.out w3 hb12
 go_wp2_with (first | (go_at_call 84;refine hnx.mono ?_;rintro e w4 ⟨no,nc,rfl,hb4,HNv⟩;have hb14:=hb12.trans (hb4.mono hb12.size);have hk4:=hk3.trans (hb4.mono (Nat.le_trans hz2 hb3.size));have hcl:=HCl.out w4 hb14) | (go_at_call 46;refine hcl.mono ?_;rintro e w5 ⟨rfl,rfl⟩))
 clear hmk hle hnx hcl;have HS0:Hid (SgAt w5 ((w5.alloc (.cells (madeCells #[.int .i64 0] N) 3)).alloc (.cells #[.slice lo pn lc,.slice no nn nc,.slice (some ⟨w5.heap.size,0,none⟩) N N] 140)) N 0 sg (.slice lo pn lc) (.slice no nn nc)):=SgAt.start _ _ _ _ _;have HLt:Hid (∀ w',Below w5.heap.size w5 w'->BoolsV w' (.slice lo pn lc) lt):=fun w' h=>(HLv.out.1.below hb4).below h
 generalize (w5.alloc (.cells (madeCells #[.int .i64 0] N) 3)).alloc (.cells #[.slice lo pn lc,.slice no nn nc,.slice (some ⟨w5.heap.size,0,none⟩) N N] 140)=W5 at *;obtain ⟨_,⟨x0,x1,x2⟩,_,_,_⟩:=HS0.out.box
 go_wp2_with fail
 go_loopw [12,66,9] (fun _ i _ wr=>∃ k:Nat,k <= N/\i=.int .i64 k/\Hid (SgAt w5 wr N k sg (.slice lo pn lc) (.slice no nn nc))) (fun _ i _ _=>N - (intOf i).toNat)
 case atStart=>exact ⟨0,Nat.zero_le _,rfl,HS0⟩
 case round=>
  obtain ⟨k,hk,rfl,HA⟩:=hrel;have hA:=HA.out;obtain ⟨_,⟨e0,e1,e2⟩,_,_,_⟩:=id hA.box;have hbr:=hb14.trans (hA.bel.mono hb14.size)
  by_cases hkN:k < N
  ·have hsg:=HSg.out wr.drew k _ hbr.drew hkN (HLt.out _ hA.bel.drew)
   have HAd:Hid (∀ w',Below wr.heap.size wr w'->SgAt w5 w' N k sg (.slice lo pn lc) (.slice no nn nc)):=fun w' h=>hA.later h
   have HEB:Hid (∀ w',Below wr.heap.size wr w'->w'.cell? ⟨w5.heap.size+1,2,none⟩=some (.slice (some ⟨w5.heap.size,0,none⟩) N N)):=fun w' h=>(hA.later h).box.2.1.2.2
   have hB0:Below wr.heap.size wr wr:=Below.refl _ _;have hki:(k:Int) < (N:Int):=by omega
   clear hA HA
   go_wp2_with fail
   go_region_held3 (fun w'=>w'.cell? ⟨w5.heap.size+1,2,none⟩=some (.slice (some ⟨w5.heap.size,0,none⟩) N N))
    (first | exact HEB.out _ hb6 | exact HEB.out _ hB0.drew | exact HEB.out _ hB0 | simp [go_sem,HEB.out _ hb6])
    (first
     | (go_at_call 85;refine hsg.mono ?_;rintro e w6 ⟨rfl,hb6'⟩;have hb6:=hB0.drew.trans (hb6'.mono hB0.drew.size);have hA6:=HAd.out _ hb6;have f0:=hA6.row.cell hkN;have f1:=hA6.row.frozen k;have HA7:=(show Hid _ from hA6.put);clear hA6))
   go_wp2_with fail
   go_roundw
   case rel=>exact ⟨k+1,by omega,by go_num,HA7⟩
   case measure=>simp [intOf];omega
  ·obtain rfl:k=N:=by omega
   obtain ⟨w7,hput,hm7,hg7⟩:=HPut.out wr hbr (.agg #[.slice lo pn lc,.slice no nn nc,.slice (some ⟨w5.heap.size,0,none⟩) k k]);obtain ⟨_,_,_,z5⟩:=HSB.out wr hbr;have htw:=HTwo.out wr hbr;have hsk:Sk bs bl wr w7:=Sk.grown hg7 (.inl rfl);have hkr:=hk4.trans (hA.bel.mono (by have:=hb4.size;have:=hb3.size;simp at *;omega))
   have hst4:=H4.out _ hkr
   have HFin:Hid (∀ w8,w8=((w7.setCell ⟨w.heap.size,0,none⟩ (.slice lo pn lc)).setCell ⟨w.heap.size,1,none⟩ (.slice no nn nc)).setCell ⟨w.heap.size,2,none⟩ (.slice (some ⟨w5.heap.size,0,none⟩) k k)->Sk bs bl w w8/\SvOk Pz w0 w8 B bs bl (n+1) (.slice ao vn ac) (.slice ro rn rc) (.slice po pn pc) (.slice fo fn fc) m ps l ho hc/\StOk Pz w8 m ps l code (.agg #[.slice lo pn lc,.slice no nn nc,.slice (some ⟨w5.heap.size,0,none⟩) k k])):=fun w8 e8=>by
    obtain ⟨_,⟨y0,y1,y2⟩,_,_,_⟩:=id hst4;have y0':=hsk.cell htw y0;have y1':=hsk.cell htw y1;have y2':=hsk.cell htw y2;have y1a:(w7.setCell ⟨w.heap.size,0,none⟩ (.slice lo pn lc)).cell? ⟨w.heap.size,1,none⟩=some (.slice none 0 0):=by simp [go_sem,y1']
    have y2a:((w7.setCell ⟨w.heap.size,0,none⟩ (.slice lo pn lc)).setCell ⟨w.heap.size,1,none⟩ (.slice no nn nc)).cell? ⟨w.heap.size,2,none⟩=some (.slice none 0 0):=by simp [go_sem,y2']
    have s1:Sk bs bl w w8:=by
     rw [e8];exact ((((Sk.of hbr).trans hsk).setNew (p:=⟨w.heap.size,0,none⟩) (Nat.le_refl _) _).setNew (p:=⟨w.heap.size,1,none⟩) (Nat.le_refl _) _).setNew (p:=⟨w.heap.size,2,none⟩) (Nat.le_refl _) _
    have hbk:∀ i,i < w.heap.size->w8.heap[i]? = w7.heap[i]?:=fun i hi=>by
     rw [e8,RowKit.Below.heap_setCell _ _ _ _ (show i≠w.heap.size by omega),RowKit.Below.heap_setCell _ _ _ _ (show i≠w.heap.size by omega),RowKit.Below.heap_setCell _ _ _ _ (show i≠w.heap.size by omega)]
    have hso:StOk Pz w8 m ps l code (.agg #[.slice lo pn lc,.slice no nn nc,.slice (some ⟨w5.heap.size,0,none⟩) k k]):=by
     rw [e8];refine HStI.out _ lo no (some ⟨w5.heap.size,0,none⟩) lc nc k ?_ ?_ ?_ ?_ ?_ ?_ ?_ ?_
     ·exact ((((HLt.out wr hA.bel).sk hsk htw).setBox y0' _).setBox y1a _).setBox y2a _
     ·exact (((((HNv.out.1.below hA.bel)).sk hsk htw).setBox y0' _).setBox y1a _).setBox y2a _
     ·exact (((hA.done.sk hsk htw).setBox y0' _).setBox y1a _).setBox y2a _
     ·exact ((((((HLv.out.2.below hb4).below hA.bel).sk hsk htw).setCell _ _ _).setCell _ _ _).setCell _ _ _)
     ·exact (((((HNv.out.2.1.below hA.bel).sk hsk htw).setCell _ _ _).setCell _ _ _).setCell _ _ _)
     ·refine (((RowTy.sk (fun a n c e=>?_) hsk htw).setCell _ _ _).setCell _ _ _).setCell _ _ _
      injection e with e _ _
      injection e with e
      subst e;obtain ⟨cs,hcs,_⟩:=hA.row;exact ⟨cs,(0,0),hcs⟩
     ·exact HNv.out.2.2
     ·intro a e
      injection e with e
      subst e;exact HUp.out _ hb14.size
    refine ⟨s1,HPN.out w8 _ s1 ?_ (hm7.kept (hbk bs hbs)) hso,hso⟩
    rw [hbk bl hbl,hg7.block bl (Nat.lt_of_lt_of_le hbl hbr.size) (by intro e;injection e with e;exact hne e.symm),hbr.block bl hbl]
   obtain ⟨_,⟨y0,y1,y2⟩,y3,y4,y5⟩:=id hst4;have v0:=hsk.cell htw y0;have v1:=hsk.cell htw y1;have v2:=hsk.cell htw y2;have u0:=hsk.cell htw e0;have u1:=hsk.cell htw e1;have u2:=hsk.cell htw e2;have z7:=hsk.cell htw z5
   have g0:w7.frozen? ⟨w.heap.size,0,none⟩=false:=(World.frozen?_of_block (hg7.block w.heap.size hst4.1 (by intro e;injection e with e;omega))).trans y3
   have g1:w7.frozen? ⟨w.heap.size,1,none⟩=false:=(World.frozen?_of_block (hg7.block w.heap.size hst4.1 (by intro e;injection e with e;omega))).trans y4
   have g2:w7.frozen? ⟨w.heap.size,2,none⟩=false:=(World.frozen?_of_block (hg7.block w.heap.size hst4.1 (by intro e;injection e with e;omega))).trans y5
   clear HA hA hst4 hsk htw hm7 hg7 hkr HSg HLe HNe HCl HSB HPut HTwo H4 HPN HLt HNv HStI HS0
   go_wp2_with fail
   go_region_held3 (fun w'=>w'.cell? ⟨B,5,none⟩=some (.map (some bs))/\w'.cell? ⟨w5.heap.size+1,0,none⟩=some (.slice lo pn lc)/\w'.cell? ⟨w5.heap.size+1,1,none⟩=some (.slice no nn nc)/\w'.cell? ⟨w5.heap.size+1,2,none⟩=some (.slice (some ⟨w5.heap.size,0,none⟩) k k))
    (first | exact ⟨z5,e0,e1,e2⟩ | exact ⟨z7,u0,u1,u2⟩)
    (fail)
   go_wp2_with fail
   obtain ⟨r1,r2,r3⟩:=HFin.out _ rfl;refine bodyPost_ret (v:=.tuple #[.agg #[.slice lo pn lc,.slice no nn nc,.slice (some ⟨w5.heap.size,0,none⟩) k k],.int .i64 0]) ?_ rfl ⟨r1,r2,.inl ⟨HW.out,lo,lc,no,nc,some ⟨w5.heap.size,0,none⟩,k,rfl,r3⟩⟩
   simp [results,Tryz.results66,go_sem,v0,v1,v2]
theorem stateOf_any (w0 w:World) (B bs bl n:Nat) (va vr pv fv:Value) (m:Mo) (ps:List (List (Int × Int))) (l:List (Int × Int)) (ho:Option Addr) (hc:Nat) (code:Int) (hI:-9223372036854775808 <= code/\code <= 9223372036854775807) (hB:0 < w0.heap.size) (hT:TabAt w0) (hV:TaskV w0 va vr pv fv m ps l) (hk:tkcode m ps l=0) (hS:SvOk Pz w0 w B bs bl n va vr pv fv m ps l ho hc) (hn:n < 1000000000000) :
  Calls Tryz.prog 66 #[.pointer (some ⟨B,0,none⟩),.int .i64 code] w (StPost Pz w0 w B bs bl n va vr pv fv m ps l ho hc code):=by
 obtain ⟨f,hf,hfs⟩:=hS.st;have hm0:=(pcode_m (tk_zero hk).1).1
 cases hv:f (.int .i64 code) with
 | some v=>exact stateOf_known w0 w B bs bl n va vr pv fv m ps l ho hc code hI hm0 hS f hf hfs v hv
 | none=>
  by_cases hcr:0 <= code/\code < prodTo m.vars m.vars.length
  ·exact stateOf_new w0 w B bs bl n va vr pv fv m ps l ho hc code hI hB hT hV hk hS hn f hf hfs hv hcr
  ·exact stateOf_out w0 w B bs bl n va vr pv fv m ps l ho hc code hI hB hT hV hk hS f hf hv (by rw [wcode_no hm0 hcr];decide)
end Go.Proofs.YtfnobbpbmelgnaaGreatDoor
namespace Go.Proofs.YtfnobbpbmelgnaaGreatDoor
open Go.ChangeShapes Go.WideShapes Go.ChangeAt Go.RowKit Go.Deep Go.Maps
open Terms Tm
set_option maxHeartbeats 6400000
set_option maxRecDepth 20000
theorem laidOutP:laidOutB Tryz.prog=true:=by kernel_rfl
theorem rowLink:(168:TypeId) < Tryz.prog.types.size:=of_decide_eq_true (by kernel_rfl)
theorem keyedLink:Keyed Tryz.prog 168:=Keyed.of_law (deep_law_laid laidOutP (m:=3) (by omega) rowLink (by kernel_rfl) (by rw [Tryz.underlying168]))
theorem sizeTwo:∃ d,Tryz.prog.types.size=d+2:=⟨Tryz.prog.types.size - 2,by have h:2 <= Tryz.prog.types.size:=of_decide_eq_true (by kernel_rfl);omega⟩
theorem keyTypeLink:Tryz.prog.keyType 168=true:=by kernel_rfl
theorem cellsLink:Tryz.prog.cellsOf 168=8:=by kernel_rfl
theorem cellsArr6:Tryz.prog.cellsOf 166=6:=by kernel_rfl
theorem cellsB:Tryz.prog.cellsOf 4=1:=by kernel_rfl
theorem cellsI:Tryz.prog.cellsOf 3=1:=by kernel_rfl
theorem keyLink (y0 y1 y2 y3 y4 y5:Bool) {c s:Int} (hc:-9223372036854775808 <= c/\c <= 9223372036854775807) (hs:-9223372036854775808 <= s/\s <= 9223372036854775807) :
  ∃ kl,keyOf Tryz.prog 168 (.agg #[.bool y0,.bool y1,.bool y2,.bool y3,.bool y4,.bool y5,.int .i64 c,.int .i64 s])=some kl:=by
 obtain ⟨d,hd⟩:=sizeTwo;have hwc:(Lit.int .i64 c).wf=true:=WalkArith.wf_i64 (by omega)
 have hws:(Lit.int .i64 s).wf=true:=WalkArith.wf_i64 (by omega)
 unfold keyOf;rw [Tryz.underlying168];simp only [keyTypeLink,Value.formed,Tryz.underlying168,cellsLink,hd];simp [Program.keyLits,Tryz.underlying168,Tryz.underlying166,Tryz.underlying4,Tryz.underlying3,cellsLink,cellsArr6,cellsB,cellsI,Value.cells,hwc,hws,List.range,List.range.loop]
theorem six_len {x:List Bool} (h:x.length <= 6):(six x).length=6:=by simp [six];omega
theorem six_cases {z:List Bool} (h:z.length=6):∃ y0 y1 y2 y3 y4 y5,z=[y0,y1,y2,y3,y4,y5]:=by
 match z,h with
 | [a,b,c,d,e,f],_=>exact ⟨a,b,c,d,e,f,rfl⟩
theorem setRow_grown (w:World) (g:Nat) (cs:Array Value):w.grownBy (w.setRow g cs) (some g):=by
 refine ⟨rfl,rfl,rfl,by simp [World.setRow],fun k _ hk=>?_⟩
 simp only [World.setRow,Array.getElem?_modify]
 rw [if_neg (fun e=>hk (by rw [e]))]
theorem infoBoolSize:(Tryz.prog.info? 4).map (·.size)=some 1:=by kernel_rfl
theorem copy_link (w:World) (g:Nat) (lo:Option Addr) (pn lc:Nat) (x:List Bool) (c s:Int) (t ty:TypeId) (hx:BoolsV w (.slice lo pn lc) x) (hl:x.length=pn) (h6:pn <= 6) (hg:w.heap[g]? = some (.cells #[.bool false,.bool false,.bool false,.bool false,.bool false,.bool false,.int .i64 c,.int .i64 s] t (0,0))) :
  ∃ w' y0 y1 y2 y3 y4 y5,(Builtin.copy_ #[100,100] ty #[.slice (some ⟨g,0,none⟩) 6 6,.slice lo pn lc]).run Tryz.prog w=.ok (goInt pn) w'/\six x=[y0,y1,y2,y3,y4,y5]/\w'.heap[g]? = some (.cells #[.bool y0,.bool y1,.bool y2,.bool y3,.bool y4,.bool y5,.int .i64 c,.int .i64 s] t (0,0))/\w.grownBy w' (some g):=by
 obtain ⟨y0,y1,y2,y3,y4,y5,hy⟩:=six_cases (six_len (x:=x) (by omega))
 rcases Nat.eq_zero_or_pos pn with h0 | h0
 ·subst h0
  have hx0:x=[]:=List.length_eq_zero_iff.1 hl;subst hx0;have e:[y0,y1,y2,y3,y4,y5]=[false,false,false,false,false,false]:=by rw [<- hy];rfl
  simp only [List.cons.injEq,and_true] at e;obtain ⟨rfl,rfl,rfl,rfl,rfl,rfl⟩:=e;exact ⟨w,_,_,_,_,_,_,run_copy_none w _ _ _ 4 _ _ _ _ _ _ Tryz.underlying100 infoBoolSize (by simp),hy,hg,⟨rfl,rfl,rfl,Nat.le_refl _,fun _ _ _=>rfl⟩⟩
 ·obtain ⟨ao,cap,e1,hx⟩:=hx
  injection e1 with e1 e2 e3
  subst e1;obtain ⟨b,off,rfl,hb,hat⟩:=hx (by intro e;rw [e] at hl;simp at hl;omega)
  have hrun:=run_copy_row (P:=Tryz.prog) w 100 100 ty 4 g 0 6 6 ⟨b,off,none⟩ pn lc _ t (x.map Value.bool) Tryz.underlying100 infoBoolSize hg (by rw [List.length_map,hl];exact (Nat.min_eq_left h6).symm)
   (fun j v hv=>by
    rw [List.getElem?_map] at hv
    cases hxj:x[j]? with
    | none=>rw [hxj] at hv;simp at hv
    | some u=>
     rw [hxj] at hv;have hj:j < x.length:=(List.getElem?_eq_some_iff.1 hxj).1
     have:=hat j hj;rw [add_plain,this];rw [List.getD_eq_getElem?_getD,hxj]
     simpa using hv) (by simp;omega) (fun v hv=>by
    simp only [List.mem_map] at hv;obtain ⟨u,_,rfl⟩:=hv
    rfl)
  rw [List.length_map,hl] at hrun;refine ⟨_,y0,y1,y2,y3,y4,y5,hrun,hy,?_,setRow_grown _ _ _⟩
  rw [setRow_heap w g _ _ t (0,0) hg]
  congr 2
  have e6:(six x).map Value.bool=[.bool y0,.bool y1,.bool y2,.bool y3,.bool y4,.bool y5]:=by rw [hy];rfl
  have e7:x.map Value.bool++List.drop pn [Value.bool false,.bool false,.bool false,.bool false,.bool false,.bool false,.int .i64 c,.int .i64 s]=(six x).map Value.bool++[.int .i64 c,.int .i64 s]:=by
   unfold six;rw [List.map_append,List.map_replicate,List.append_assoc,hl]
   congr 1
   have:pn=1\/pn=2\/pn=3\/pn=4\/pn=5\/pn=6:=by omega
   rcases this with rfl | rfl | rfl | rfl | rfl | rfl <;> rfl
  simp only [List.take_zero,List.nil_append,Nat.zero_add];rw [e7,e6];rfl
end Go.Proofs.YtfnobbpbmelgnaaGreatDoor
namespace Go.Proofs.YtfnobbpbmelgnaaGreatDoor
open Go
set_option maxHeartbeats 6400000
set_option maxRecDepth 20000
def plOne (S:List (Int × Int)) (s:Int × Int):List (Int × Int):=if s∈S then S else S++[s]
def plTo (S l:List (Int × Int)):List (Int × Int):=l.foldl plOne S
theorem plOne_pre (S:List (Int × Int)) (s:Int × Int):S <+: plOne S s:=by
 unfold plOne
 split
 ·exact List.prefix_refl _
 ·exact List.prefix_append _ _
theorem plOne_mem (S:List (Int × Int)) (s:Int × Int):s∈plOne S s:=by
 unfold plOne
 split
 ·assumption
 ·exact List.mem_append_right _ (List.mem_singleton.2 rfl)
theorem plOne_iff {S:List (Int × Int)} {s x:Int × Int}:x∈plOne S s↔x∈S\/x=s:=by
 unfold plOne
 split
 ·constructor
  ·exact Or.inl
  ·rintro (h | rfl) <;> assumption
 ·rw [List.mem_append,List.mem_singleton]
theorem plOne_nodup {S:List (Int × Int)} (h:S.Nodup) (s:Int × Int):(plOne S s).Nodup:=by
 unfold plOne
 split
 ·exact h
 ·next hs=>
  refine List.nodup_append.2 ⟨h,by simp,fun a ha b hb=>?_⟩
  rw [List.mem_singleton] at hb;subst hb;exact fun e=>hs (e ▸ ha)
theorem plOne_length (S:List (Int × Int)) (s:Int × Int):S.length <= (plOne S s).length/\(plOne S s).length <= S.length+1:=by
 unfold plOne
 split
 ·omega
 ·rw [List.length_append,List.length_singleton]
  omega
theorem plTo_nil (S:List (Int × Int)):plTo S []=S:=rfl
theorem plTo_cons (S:List (Int × Int)) (s:Int × Int) (l:List (Int × Int)):plTo S (s:: l)=plTo (plOne S s) l:=rfl
theorem plTo_snoc (S l:List (Int × Int)) (s:Int × Int):plTo S (l++[s])=plOne (plTo S l) s:=by
 unfold plTo;rw [List.foldl_append];rfl
theorem plTo_pre (l:List (Int × Int)):∀ S,S <+: plTo S l:=by
 induction l with
 | nil=>exact fun S=>List.prefix_refl _
 | cons s l ih=>exact fun S=>(plOne_pre S s).trans (ih _)
theorem plTo_iff (l:List (Int × Int)):∀ (S:List (Int × Int)) (x:Int × Int),x∈plTo S l↔x∈S\/x∈l:=by
 induction l with
 | nil=>intro S x;simp [plTo_nil]
 | cons s l ih=>
  intro S x;rw [plTo_cons,ih,plOne_iff,List.mem_cons,or_assoc]
theorem plTo_nodup (l:List (Int × Int)):∀ S:List (Int × Int),S.Nodup->(plTo S l).Nodup:=by
 induction l with
 | nil=>exact fun S h=>h
 | cons s l ih=>exact fun S h=>ih _ (plOne_nodup h s)
theorem plTo_length (l:List (Int × Int)):∀ S:List (Int × Int),S.length <= (plTo S l).length/\(plTo S l).length <= S.length+l.length:=by
 induction l with
 | nil=>intro S;rw [plTo_nil];simp
 | cons s l ih=>
  intro S;have h1:=plOne_length S s;have h2:=ih (plOne S s);rw [plTo_cons,List.length_cons];omega
theorem idx_pre {S T:List (Int × Int)} (h:S <+: T) {s:Int × Int} (hs:s∈S):T.idxOf s=S.idxOf s:=by
 obtain ⟨R,rfl⟩:=h;rw [List.idxOf_append,if_pos hs]
theorem plOne_idx {S:List (Int × Int)} {s:Int × Int} (hs:s∉S):(plOne S s).idxOf s=S.length:=by
 unfold plOne;rw [if_neg hs,List.idxOf_append,if_neg hs]
 simp
section
variable (beg : List (Int × Int)) (bh : Int × Int -> List (Int × Int))
def exS:Nat->List (Int × Int)
 | 0=>plTo [] beg
 | k+1=>plTo (exS k) (bh ((exS k).getD k (0,0)))
theorem exS_pre (k:Nat):exS beg bh k <+: exS beg bh (k+1):=plTo_pre _ _
theorem exS_le {k j:Nat} (h:k <= j):exS beg bh k <+: exS beg bh j:=by
 induction h with
 | refl=>exact List.prefix_refl _
 | step _ ih=>exact ih.trans (exS_pre beg bh _)
theorem exS_nodup (k:Nat):(exS beg bh k).Nodup:=by
 induction k with
 | zero=>exact plTo_nodup _ _ List.nodup_nil
 | succ k ih=>exact plTo_nodup _ _ ih
theorem exS_at {k j p:Nat} (h:k <= j) (hp:p < (exS beg bh k).length):(exS beg bh j).getD p (0,0)=(exS beg bh k).getD p (0,0):=by
 obtain ⟨R,hR⟩:=exS_le beg bh h;rw [<- hR,List.getD_eq_getElem?_getD,List.getD_eq_getElem?_getD,List.getElem?_append_left hp]
end
end Go.Proofs.YtfnobbpbmelgnaaGreatDoor
namespace Go.Proofs.YtfnobbpbmelgnaaGreatDoor
open Go.ChangeShapes Go.WideShapes Go.ChangeAt Go.RowKit Go.Deep Go.Maps
open Terms Tm
set_option maxHeartbeats 6400000
set_option maxRecDepth 20000
theorem rowSpot:(97:TypeId) < Tryz.prog.types.size:=of_decide_eq_true (by kernel_rfl)
theorem keyedSpot:Keyed Tryz.prog 97:=Keyed.of_law (deep_law_laid laidOutP (m:=3) (by omega) rowSpot (by kernel_rfl) (by rw [Tryz.underlying97]))
theorem keyTypeSpot:Tryz.prog.keyType 97=true:=by kernel_rfl
theorem cellsSpot2:Tryz.prog.cellsOf 97=2:=by kernel_rfl
def spotV (p:Int × Int):Value:=.agg #[.int .i64 p.1,.int .i64 p.2]
def I64s (p:Int × Int):Prop:=(-9223372036854775808 <= p.1/\p.1 <= 9223372036854775807)/\(-9223372036854775808 <= p.2/\p.2 <= 9223372036854775807)
def spotK (p:Int × Int):Lit:=.string (keyBytes [.int .i64 p.1,.int .i64 p.2])
theorem keySpot {p:Int × Int} (h:I64s p):keyOf Tryz.prog 97 (spotV p)=some (spotK p):=by
 obtain ⟨d,hd⟩:=sizeTwo;have hwc:(Lit.int .i64 p.1).wf=true:=WalkArith.wf_i64 (by have:=h.1;omega)
 have hws:(Lit.int .i64 p.2).wf=true:=WalkArith.wf_i64 (by have:=h.2;omega)
 unfold keyOf spotV spotK;rw [Tryz.underlying97];simp only [keyTypeSpot,Value.formed,Tryz.underlying97,cellsSpot2,hd];simp [Program.keyLits,Tryz.underlying97,Tryz.underlying3,cellsSpot2,cellsI,Value.cells,hwc,hws,List.range]
theorem spotK_inj {p q:Int × Int} (hp:I64s p) (hq:I64s q) (h:spotK p=spotK q):p=q:=by
 have e:=keyedSpot.inj (keySpot hp) (h ▸ keySpot hq);simp only [spotV,Value.agg.injEq] at e;simp at e
 exact Prod.ext e.1 e.2
def LiesAt (w:World) (b:Nat) (S:List (Int × Int)):Prop:=
 ∃ f,MapIs w 97 b S.length f/\∀ p,I64s p->f (spotK p)=if p∈S then some (.int .i64 (S.idxOf p:Nat)) else none
theorem LiesAt.new {w:World} {b:Nat} (h:w.heap[b]? = some (.map #[] 0)):LiesAt w b []:=⟨_,MapIs.new _ h,fun p _=>by simp⟩
theorem LiesAt.kept {w w':World} {b:Nat} {S:List (Int × Int)} (h:LiesAt w b S) (e:w'.heap[b]? = w.heap[b]?):LiesAt w' b S:=by
 obtain ⟨f,h1,h2⟩:=h;exact ⟨f,h1.kept e,h2⟩
theorem LiesAt.look {w:World} {b:Nat} {S:List (Int × Int)} (h:LiesAt w b S) {p:Int × Int} (hp:I64s p):(Instr.lookup 91 (.map (some b)) (spotV p) true).run Tryz.prog w=.ok (.tuple #[if p∈S then .int .i64 (S.idxOf p:Nat) else .int .i64 0,.bool (decide (p∈S))]) w:=by
 obtain ⟨f,h1,h2⟩:=h;rw [h1.look keyedSpot Tryz.underlying91 (z:=.int .i64 0) (zeroInt w) (keySpot hp),h2 p hp]
 split <;> simp [*]
theorem LiesAt.put {w:World} {b:Nat} {S:List (Int × Int)} (h:LiesAt w b S) {p:Int × Int} (hp:I64s p) (hS:p∉S) (hn:S.length < maxLen):∃ w',(Instr.mapUpdate 91 (.map (some b)) (spotV p) (.int .i64 (S.length:Nat))).run Tryz.prog w=.ok () w'/\LiesAt w' b (plOne S p)/\w.grownBy w' (some b):=by
 obtain ⟨f,h1,h2⟩:=h;obtain ⟨w',hr,hm,hg⟩:=h1.put keyedSpot Tryz.underlying91 hn (val:=.int .i64 (S.length:Nat)) (keySpot hp) (keyedSpot.key (keySpot hp));have e:plOne S p=S++[p]:=by unfold plOne;rw [if_neg hS]
 refine ⟨w',hr,⟨_,by rw [e,List.length_append,List.length_singleton];exact hm,fun q hq=>?_⟩,hg⟩
 by_cases hqp:q=p
 ·subst hqp
  rw [fput_same,if_pos (plOne_mem S q),plOne_idx hS]
 ·rw [fput_other (fun e=>hqp (spotK_inj hq hp e)),h2 q hq]
  by_cases hqS:q∈S
  ·rw [if_pos hqS,if_pos (plOne_iff.2 (.inl hqS)),idx_pre (plOne_pre S p) hqS]
  ·rw [if_neg hqS,if_neg (fun e=>(plOne_iff.1 e).elim hqS hqp)]
