import Derived.Test.YtlepcjafgdlmgaaDoorRows
import Derived.Test.YtlepcjafgdlmgaaDoorTerms
import Derived.WalkSpells
import Derived.WalkLawsBesides
import Derived.Defers
import Derived.Recover
import Derived.Deep.OwnRows
import Derived.Lib.LaidTab
import Derived.Lib.ItoaNum
namespace Go.Proofs.YtlepcjafgdlmgaaDoor
open Go.RowKit Go.Deep
open Terms
set_option maxHeartbeats 6400000
set_option maxRecDepth 20000
def tab:List Int:=[0,0,0,2,2,2,2,2,2,2,1,0,0,0,1,2,2,1,1]
def kindW:List (List UInt8):=[[],[],[],[43],[45],[42],[61],[60],[38],[124],[33],[121,101,115],[110,111],[],[88],[85],[82],[70],[71]]
def TabAt (w : World) : Prop := (∀ j : Nat, j < 19 -> w.cell? ⟨3, j, none⟩ = some (.int .i64 (tab.getD j 0))) /\ (∀ j : Nat, j < 19 -> w.cell? ⟨0, j, none⟩ = some (.string ⟨(kindW.getD j []).toArray⟩)) /\ Lib.TabIs Tryd.prog w "internal/strconv.uint64pow10" .u64 Lib.pow10Tab
theorem tabIs_block {P:Program} {w w':World} {name:String} {k:IntKind} {zs:List Int} {g:Nat} (hg:P.globalNamed name=some g) (h:Lib.TabIs P w name k zs) (e:w'.heap[g]? = w.heap[g]?):Lib.TabIs P w' name k zs:=by
 unfold Lib.TabIs World.var? at h ⊢;rw [hg] at h ⊢;simpa [e] using h
theorem gPow : Tryd.prog.globalNamed "internal/strconv.uint64pow10" = some 2 := by kernel_rfl
theorem TabAt.below {w w':World} (h:TabAt w) (hb:Below w.heap.size w w') (_hB:0 < w.heap.size):TabAt w':=by
 have h3:3 < w.heap.size:=World.block_lt_of_cell? w ⟨3,0,none⟩ (h.1 0 (by omega))
 exact ⟨fun j hj=>(hb.cell (p:=⟨3,j,none⟩) h3).trans (h.1 j hj),fun j hj=>(hb.cell (p:=⟨0,j,none⟩) (show 0 < _ by omega)).trans (h.2.1 j hj),tabIs_block gPow h.2.2 (hb.block 2 (by omega))⟩
theorem TabAt.lt3 {w:World} (h:TabAt w):3 < w.heap.size:=World.block_lt_of_cell? w ⟨3,0,none⟩ (h.1 0 (by omega))
theorem TabAt.belowB {B:Nat} {w w':World} (h:TabAt w) (hb:Below B w w') (h3:3 < B):TabAt w':=
 ⟨fun j hj=>(hb.cell (p:=⟨3,j,none⟩) h3).trans (h.1 j hj),fun j hj=>(hb.cell (p:=⟨0,j,none⟩) (show 0 < _ by omega)).trans (h.2.1 j hj),tabIs_block gPow h.2.2 (hb.block 2 (by omega))⟩
theorem tab_pn {j:Nat} (h0:0 < j) (h:j < 19):tab.getD j 0=(pn (j:Int):Int):=by
 have hcase:j=1\/j=2\/j=3\/j=4\/j=5\/j=6\/j=7\/j=8\/j=9\/j=10\/j=11\/j=12\/j=13\/j=14\/j=15\/j=16\/j=17\/j=18:=by omega
 rcases hcase with rfl | rfl | rfl | rfl | rfl | rfl | rfl | rfl | rfl | rfl | rfl | rfl | rfl | rfl | rfl | rfl | rfl | rfl <;> rfl
theorem parts_ok (k:Int) (w:World) (hT:TabAt w) (h:okK k=true) :
  Calls Tryd.prog 76 #[.int .i64 k] w fun e w'=>e=.returned (.tuple #[.int .i64 (pn k),.int .i64 0])/\w'=w:=by
 simp only [okK,decide_eq_true_eq] at h;obtain ⟨h1,h2⟩:=h;obtain ⟨j,rfl⟩:=Int.eq_ofNat_of_zero_le (a:=k) (by omega)
 have hc:=hT.1 j (by omega)
 rw [tab_pn (by omega) (by omega)] at hc
 generalize pn (j:Int)=m at hc;clear hT;have hlo:¬ (j:Int) < 1:=by omega
 have hhi:¬ (18:Int) < (j:Int):=by omega
 go_enter Tryd.func76,Tryd.ntmps76
 go_wp2
 all_goals go_ret2
 all_goals exact ⟨rfl,rfl⟩
theorem parts_no (k:Int) (w:World) (h:okK k=false) :
  Calls Tryd.prog 76 #[.int .i64 k] w fun e w'=>e=.returned (.tuple #[.int .i64 0,.int .i64 13])/\w'=w:=by
 have h':k < 1\/18 < k:=by simp [okK] at h;omega
 clear h
 rcases h' with h | h
 ·go_enter Tryd.func76,Tryd.ntmps76
  go_wp2
  all_goals go_ret2
  all_goals exact ⟨rfl,rfl⟩
 ·have h1:¬ k < 1:=by omega
  go_enter Tryd.func76,Tryd.ntmps76
  go_wp2
  all_goals go_ret2
  all_goals exact ⟨rfl,rfl⟩
def KindsAt (w:World) (b off:Nat) (ks:List Int):Prop:=∀ i,i < ks.length->w.cell? ⟨b,off+i*2,none⟩=some (.int .i64 (ks.getD i 0))
theorem KindsAt.below {B b off:Nat} {ks:List Int} {w w':World} (h:KindsAt w b off ks) (hb:Below B w w') (hB:b < B):KindsAt w' b off ks:=fun i hi=>(hb.cell (p:=⟨b,_,none⟩) hB).trans (h i hi)
theorem read_past (ao:Option Addr) (n cap place:Nat) (v:Value) (w:World) (h:n <= place) :
  Calls Tryd.prog 64 #[.slice ao n cap,.int .i64 place,v] w fun e w'=>e=.panicked [{ v:=.iface 31 (.int .i64 4),recovered:=false}]/\w'=w:=by
 go_enter Tryd.func64,Tryd.ntmps64
 go_wp2_with fail
 all_goals exact ⟨rfl,rfl,rfl⟩
theorem read_kind (b off n cap place:Nat) (v:Value) (w:World) (h:place < n) (k:Int) (hk:okK k=false) (hc:w.cell? ⟨b,off+place*2,none⟩=some (.int .i64 k)) :
  Calls Tryd.prog 64 #[.slice (some ⟨b,off,none⟩) n cap,.int .i64 place,v] w fun e w'=>e=.panicked [{ v:=.iface 31 (.int .i64 13),recovered:=false}]/\w'=w:=by
 go_enter Tryd.func64,Tryd.ntmps64
 go_wp2_with (go_at_call 76;refine (parts_no _ _ hk).mono ?_;rintro e w' ⟨rfl,rfl⟩)
 all_goals exact ⟨rfl,rfl,rfl⟩
theorem ret_int {k:IntKind} {a b:Int} (h:a=b):Ending.returned (.int k a)=.returned (.int k b):=by rw [h]
def ReadPost (B n:Nat) (ks:List Int) (place:Nat) (f:Nat->Value) (w:World):R->Ending->World->Prop
 | .ok m,e,w'=>e=.returned (.int .i64 ((place+m:Nat):Int))/\Below B w w'/\w'.rowIs B 3 n (fun q=>if place <= q/\q < place+m then .int .i64 (endAt ks q) else f q)
 | .no x,e,w'=>e=.panicked [{ v:=.iface 31 (.int .i64 x),recovered:=false}]/\Below B w w'/\∃ g,w'.rowIs B 3 n g
theorem row_join {B t n p m m':Nat} {ks:List Int} {f:Nat->Value} {w:World} (h:w.rowIs B t n (fun q=>if p+m <= q/\q < p+m+m' then .int .i64 (endAt ks q) else if p <= q/\q < p+m then .int .i64 (endAt ks q) else f q)) :
    w.rowIs B t n (fun q=>if p <= q/\q < p+(m+m') then .int .i64 (endAt ks q) else f q):=h.congr fun i _=>by
  by_cases h1:p+m <= i/\i < p+m+m'
  · rw [if_pos h1,if_pos (by omega)]
  · rw [if_neg h1]
    by_cases h2:p <= i/\i < p+m
    · rw [if_pos h2,if_pos (by omega)]
    · rw [if_neg h2,if_neg (by omega)]
theorem row_head {B t n p m:Nat} {ks:List Int} {f:Nat->Value} {w:World} (hm:endAt ks p=p+1+m) (h:w.rowIs B t n (fun q=>if p+1 <= q/\q < p+1+m then .int .i64 (endAt ks q) else f q)) :
    (w.setCell ⟨B,p,none⟩ (.int .i64 ((p:Int)+1+(m:Int)))).rowIs B t n (fun q=>if p <= q/\q < p+(m+1) then .int .i64 (endAt ks q) else f q):=(h.set p _).congr fun i _=>by
  by_cases h1:i=p
  · subst h1
    rw [if_pos rfl,if_pos (by omega),hm]
    simp
  · rw [if_neg h1]
    by_cases h2:p+1 <= i/\i < p+1+m
    · rw [if_pos h2,if_pos (by omega)]
    · rw [if_neg h2,if_neg (by omega)]
theorem read_any (B b off n cap:Nat) (ks:List Int) (hn:n <= 60) (hks:ks.length=n) (hbB:b < B) (hB:3 < B) (d:Nat):∀ (place:Nat) (f:Nat->Value) (w:World),n - place <= d->place <= n->
  TabAt w->KindsAt w b off ks->w.rowIs B 3 n f->
  Calls Tryd.prog 64 #[.slice (some ⟨b,off,none⟩) n cap,.int .i64 place,.slice (some ⟨B,0,none⟩) n n] w (ReadPost B n ks place f w (cnt (ks.drop place) 1)):=by
 induction d with
 | zero=>
  intro place f w hd hp hT hK hR;rw [cnt_past (by omega)]
  exact (read_past _ n cap place _ w (by omega)).mono fun e w' ⟨he,hw⟩=>⟨he,hw ▸ Below.refl _ _,f,hw ▸ hR⟩
 | succ d ih=>
  intro place f w hd hp hT hK hR
  by_cases hpn:n <= place
  ·rw [cnt_past (by omega)]
   exact (read_past _ n cap place _ w (by omega)).mono fun e w' ⟨he,hw⟩=>⟨he,hw ▸ Below.refl _ _,f,hw ▸ hR⟩
  have hlt:place < n:=by omega
  clear hpn;rw [cnt_at (by omega)]
  have hck:=hK place (by omega)
  generalize hk:ks.getD place 0=k at hck
  by_cases hok:okK k=true
  case neg=>
   rw [if_neg hok];exact (read_kind b off n cap place _ w hlt k (by simpa using hok) hck).mono fun e w' ⟨he,hw⟩=>⟨he,hw ▸ Below.refl _ _,f,hw ▸ hR⟩
  rw [if_pos hok];obtain ⟨np,hnp⟩:∃ np,np=pn k:=⟨_,rfl⟩
  have hpn:=pn_le k;have hparts:=parts_ok k w hT hok;rw [<- hnp] at hparts hpn ⊢
  have HE:Hid (∀ m,cnt (ks.drop (place+1)) np=.ok m->endAt ks place=place+1+m):=fun m hm=>by
   have:cnt (ks.drop place) 1=.ok (m+1):=by rw [cnt_at (by omega),hk,if_pos hok,<- hnp,hm];rfl
   rw [endAt_ok this];omega
  have HT:Hid (TabAt w):=hT;have HK:Hid (KindsAt w b off ks):=hK;have HR:Hid (w.rowIs B 3 n f):=hR;have HL:Hid (ks.length=n):=hks;clear hk hT hK hR hnp hok
  go_enter Tryd.func64,Tryd.ntmps64
  go_wp2_with (go_at_call 76;refine hparts.mono ?_;rintro e w' ⟨rfl,rfl⟩)
  go_loopw [9,31] (fun en c wr=>∃ i m:Nat,i <= np/\c=.int .i64 i/\en=.int .i64 ((place+1+m:Nat):Int)/\Hid (cnt (ks.drop (place+1)) i=.ok m)/\Below B w' wr/\wr.rowIs B 3 n (fun q=>if place+1 <= q/\q < place+1+m then .int .i64 (endAt ks q) else f q)) (fun _ c _=>np - (intOf c).toNat)
  case atStart=>exact ⟨0,0,Nat.zero_le _,rfl,by go_num,cnt_zero _,Below.refl _ _,HR.out.congr fun i _=>by rw [if_neg (by omega)]⟩
  case round=>
   obtain ⟨i,m,hi,rfl,rfl,Hc,hbel,hrow⟩:=hrel;have hm:=(cnt_le _ _ _ Hc.out).2;rw [List.length_drop] at hm;have hl:=HL.out
   by_cases hlt2:i < np
   ·have hih:=ih (place+1+m) _ wr (by omega) (by omega) (HT.out.belowB hbel hB) (HK.out.below hbel hbB) hrow
    clear hm hl;have hdd:(ks.drop (place+1)).drop m=ks.drop (place+1+m):=by rw [List.drop_drop]
    have HM:Hid (cnt (ks.drop (place+1)) (i+1)=(cnt (ks.drop (place+1+m)) 1).up m):=by rw [<- hdd];exact cnt_more Hc.out
    clear hdd
    cases hr:cnt (ks.drop (place+1+m)) 1 with
    | ok m'=>
     rw [hr] at hih HM;clear hr
     go_wp2_with (go_at_call 64;refine hih.mono ?_;rintro e w2 ⟨rfl,hbel2,hrow2⟩)
     go_roundw
     case rel=>exact ⟨i+1,m' + m,by omega,by go_num,by go_num,HM,hbel.trans hbel2,by rw [Nat.add_comm m' m];exact row_join hrow2⟩
     case measure=>simp [intOf];omega
    | no x=>
     rw [hr] at hih HM;clear hr
     go_wp2_with (go_at_call 64;refine hih.mono ?_;rintro e w2 ⟨rfl,hbel2,g,hrow2⟩)
     rw [cnt_stop HM.out (by omega)]
     exact ⟨rfl,rfl,hbel.trans hbel2,g,hrow2⟩
   ·have hin:i=np:=by omega
    subst hin;have he:=HE.out m Hc.out;have HH:Hid (cnt (ks.drop (place+1)) i=.ok m/\endAt ks place=place+1+m):=⟨Hc.out,he⟩;clear hlt2 hi he hl HL;have hfz:=hrow.frozen place;obtain ⟨v0,hv0⟩:∃ v0,wr.cell? ⟨B,place,none⟩=some v0:=⟨_,hrow.cell hlt⟩
    go_wp2_with fail
    go_ret
    rw [HH.out.1];exact ⟨ret_int (by omega),hbel.setCell (Nat.le_refl _) _,row_head HH.out.2 hrow⟩
