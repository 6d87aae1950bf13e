import Derived.Test.YtehfhemidmfffaaGreatDoorRows
import Derived.Test.YtehfhemidmfffaaGreatDoorTerms
import Derived.WalkSpells
import Derived.WalkLawsBesides
import Derived.Deep.OwnRows
open Go renaming World→X
open Go.IntKind renaming i64→Y
open Go.Value renaming int→Z
open _root_.Option renaming none→W
namespace Go.Proofs.YtehfhemidmfffaaGreatDoor
open Go.RowKit.Below renaming refl→qD
open Go.Proofs.Tryz renaming prog→qA
open Go.RowKit Go.Deep
open Terms
open Go.Proofs.Tryz renaming func111→aq,func138→ar,ntmps111→au,ntmps138→aw
set_option maxHeartbeats 6400000
set_option maxRecDepth 20000
def tab:List Int:=[0,0,0,2,2,2,2,2,2,2,1,0,0,0,1,2,2,1,1]
def AF(w:X):Prop:=∀j:Nat,j<19->w.cell? ⟨0,j,W⟩=some (Z Y (tab.getD j 0))
theorem AF.below{B:Nat}{w w':X}(h:AF w)(hb:Below B w w')(hB:0<B):AF w':=fun j hj=>(hb.cell (p:=⟨0,j,W⟩) hB).trans (h j hj)
theorem Vy{j:Nat}(h0:0<j)(h:j<19):tab.getD j 0=(pn (j:Int):Int):=by
 have hcase:j=1\/j=2\/j=3\/j=4\/j=5\/j=6\/j=7\/j=8\/j=9\/j=10\/j=11\/j=12\/j=13\/j=14\/j=15\/j=16\/j=17\/j=18:=by omega
 rcases hcase with rfl|rfl|rfl|rfl|rfl|rfl|rfl|rfl|rfl|rfl|rfl|rfl|rfl|rfl|rfl|rfl|rfl|rfl<;>rfl
theorem Tx(k:Int)(w:X)(hT:AF w)(h:okK k=true) :
  Calls qA 138 #[Z Y k] w fun e w'=>e=.returned (.tuple #[Z Y (pn k),Z Y 0])/\w'=w:=by
 simp only[okK,decide_eq_true_eq]at h;obtain⟨h1,h2⟩:=h;obtain⟨j,rfl⟩:=Int.eq_ofNat_of_zero_le (a:=k) (by omega);have hc:=hT j (by omega);rw[Vy (by omega) (by omega)]at hc;generalize pn (j:Int)=m at hc;clear hT;have hlo:¬(j:Int)<1:=by omega
 have hhi:¬(18:Int)<(j:Int):=by omega
 go_enter ar,aw;go_wp2;all_goals go_ret2
 all_goals exact⟨rfl,rfl⟩
theorem Tw(k:Int)(w:X)(h:okK k=false) :
  Calls qA 138 #[Z Y k] w fun e w'=>e=.returned (.tuple #[Z Y 0,Z Y 13])/\w'=w:=by
 have h':k<1\/18<k:=by simp[okK]at h;omega
 clear h;rcases h' with h|h
 .go_enter ar,aw;go_wp2;all_goals go_ret2
  all_goals exact⟨rfl,rfl⟩
 .have h1:¬k<1:=by omega
  go_enter ar,aw;go_wp2;all_goals go_ret2
  all_goals exact⟨rfl,rfl⟩
def ES(w:X)(b off:Nat)(ks:List Int):Prop:=∀i,i<ks.length->w.cell? ⟨b,off+i*2,W⟩=some (Z Y (ks.getD i 0))
theorem ES.below{B b off:Nat}{ks:List Int}{w w':X}(h:ES w b off ks)(hb:Below B w w')(hB:b<B):ES w' b off ks:=fun i hi=>(hb.cell (p:=⟨b,_,W⟩) hB).trans (h i hi)
theorem Jp(ao:Option Addr)(n cap place:Nat)(v:Value)(w:X)(h:n<=place) :
  Calls qA 111 #[.slice ao n cap,Z Y place,v] w fun e w'=>e=.panicked [{ v:=.iface 46 (Z Y 4),recovered:=false}]/\w'=w:=by
 go_enter aq,au;go_wp2_with fail
 all_goals exact⟨rfl,rfl,rfl⟩
theorem UP(b off n cap place:Nat)(v:Value)(w:X)(h:place<n)(k:Int)(hk:okK k=false)(hc:w.cell? ⟨b,off+place*2,W⟩=some (Z Y k)) :
  Calls qA 111 #[.slice (some ⟨b,off,W⟩) n cap,Z Y place,v] w fun e w'=>e=.panicked [{ v:=.iface 46 (Z Y 13),recovered:=false}]/\w'=w:=by
 go_enter aq,au;go_wp2_with (go_at_call 138;refine(Tw _ _ hk).mono ?_;rintro e w' ⟨rfl,rfl⟩)
 all_goals exact⟨rfl,rfl,rfl⟩
theorem UZ{k:IntKind}{a b:Int}(h:a=b):Ending.returned (.int k a)=.returned (.int k b):=by rw[h]
def OY(B n:Nat)(ks:List Int)(place:Nat)(f:Nat->Value)(w:X):R->Ending->X->Prop
 | .ok m,e,w'=>e=.returned (Z Y ((place+m:Nat):Int))/\Below B w w'/\w'.rowIs B 3 n (fun q=>if place<=q/\q<place+m then Z Y (An ks q)else f q)
 | .no x,e,w'=>e=.panicked [{ v:=.iface 46 (Z Y x),recovered:=false}]/\Below B w w'/\∃g,w'.rowIs B 3 n g
theorem Ug{B t n p m m':Nat}{ks:List Int}{f:Nat->Value}{w:X}(h:w.rowIs B t n (fun q=>if p+m<=q/\q<p+m+m' then Z Y (An ks q)else if p<=q/\q<p+m then Z Y (An ks q)else f q)) :
    w.rowIs B t n (fun q=>if p<=q/\q<p+(m+m')then Z Y (An ks q)else f q):=h.congr fun i _=>by
  by_cases h1:p+m<=i/\i<p+m+m'
  . rw[if_pos h1,if_pos (by omega)]
  . rw[if_neg h1]
    by_cases h2:p<=i/\i<p+m
    . rw[if_pos h2,if_pos (by omega)]
    . rw[if_neg h2,if_neg (by omega)]
theorem Uf{B t n p m:Nat}{ks:List Int}{f:Nat->Value}{w:X}(hm:An ks p=p+1+m)(h:w.rowIs B t n (fun q=>if p+1<=q/\q<p+1+m then Z Y (An ks q)else f q)) :
    (w.setCell ⟨B,p,W⟩ (Z Y ((p:Int)+1+(m:Int)))).rowIs B t n (fun q=>if p<=q/\q<p+(m+1)then Z Y (An ks q)else f q):=(h.set p _).congr fun i _=>by
  by_cases h1:i=p
  . subst h1
    rw[if_pos rfl,if_pos (by omega),hm];simp
  . rw[if_neg h1]
    by_cases h2:p+1<=i/\i<p+1+m
    . rw[if_pos h2,if_pos (by omega)]
    . rw[if_neg h2,if_neg (by omega)]
theorem UL(B b off n cap:Nat)(ks:List Int)(hn:n<=60)(hks:ks.length=n)(hbB:b<B)(hB:0<B)(d:Nat):∀(place:Nat) (f:Nat->Value) (w:X),n-place<=d->place<=n->
  AF w->ES w b off ks->w.rowIs B 3 n f->
  Calls qA 111 #[.slice (some ⟨b,off,W⟩) n cap,Z Y place,.slice (some ⟨B,0,W⟩) n n] w (OY B n ks place f w (cnt (ks.drop place) 1)):=by
 induction d with
 |zero=>
  intro place f w hd hp hT hK hR;rw[K4 (by omega)];exact(Jp _ n cap place _ w (by omega)).mono fun e w' ⟨he,hw⟩=>⟨he,hw▸qD _ _,f,hw▸hR⟩
 |succ d ih=>
  intro place f w hd hp hT hK hR;by_cases hpn:n<=place
  .rw[K4 (by omega)];exact(Jp _ n cap place _ w (by omega)).mono fun e w' ⟨he,hw⟩=>⟨he,hw▸qD _ _,f,hw▸hR⟩
  have hlt:place<n:=by omega
  clear hpn;rw[Im (by omega)];have hck:=hK place (by omega);generalize hk:ks.getD place 0=k at hck;by_cases hok:okK k=true;case neg=>
   rw[if_neg hok];exact(UP b off n cap place _ w hlt k (by simpa using hok) hck).mono fun e w' ⟨he,hw⟩=>⟨he,hw▸qD _ _,f,hw▸hR⟩
  rw[if_pos hok];obtain⟨np,hnp⟩:∃np,np=pn k:=⟨_,rfl⟩;have hpn:=Jk k;have hparts:=Tx k w hT hok;rw[<-hnp]at hparts hpn⊢;have HE:Hid (∀m,cnt (ks.drop (place+1)) np=.ok m->An ks place=place+1+m):=fun m hm=>by
   have:cnt (ks.drop place) 1=.ok (m+1):=by rw[Im (by omega),hk,if_pos hok,<-hnp,hm];rfl
   rw[It this];omega
  have HT:Hid (AF w):=hT;have HK:Hid (ES w b off ks):=hK;have HR:Hid (w.rowIs B 3 n f):=hR;have HL:Hid (ks.length=n):=hks;clear hk hT hK hR hnp hok;go_enter aq,au;go_wp2_with (go_at_call 138;refine hparts.mono ?_;rintro e w' ⟨rfl,rfl⟩)
  go_loopw [9,31] (fun en c wr=>∃i m:Nat,i<=np/\c=Z Y i/\en=Z Y ((place+1+m:Nat):Int)/\Hid (cnt (ks.drop (place+1)) i=.ok m)/\Below B w' wr/\wr.rowIs B 3 n (fun q=>if place+1<=q/\q<place+1+m then Z Y (An ks q)else f q)) (fun _ c _=>np-(intOf c).toNat)
  case atStart=>exact⟨0,0,Nat.zero_le _,rfl,by go_num,E4 _,qD _ _,HR.out.congr fun i _=>by rw[if_neg (by omega)]⟩
  case round=>
   obtain⟨i,m,hi,rfl,rfl,Hc,hbel,hrow⟩:=hrel;have hm:=(DK _ _ _ Hc.out).2;rw[List.length_drop]at hm;have hl:=HL.out;by_cases hlt2:i<np
   .have hih:=ih (place+1+m) _ wr (by omega) (by omega) (HT.out.below hbel hB) (HK.out.below hbel hbB) hrow;clear hm hl;have hdd:(ks.drop (place+1)).drop m=ks.drop (place+1+m):=by rw[List.drop_drop]
    have HM:Hid (cnt (ks.drop (place+1)) (i+1)=(cnt (ks.drop (place+1+m)) 1).up m):=by rw[<-hdd];exact Ps Hc.out
    clear hdd;cases hr:cnt (ks.drop (place+1+m)) 1 with
    |ok m'=>
     rw[hr]at hih HM;clear hr;go_wp2_with (go_at_call 111;refine hih.mono ?_;rintro e w2 ⟨rfl,hbel2,hrow2⟩)
     go_roundw
     case rel=>exact⟨i+1,m'+m,by omega,by go_num,by go_num,HM,hbel.trans hbel2,by rw[Nat.add_comm m' m];exact Ug hrow2⟩
     case measure=>simp[intOf];omega
    |no x=>
     rw[hr]at hih HM;clear hr;go_wp2_with (go_at_call 111;refine hih.mono ?_;rintro e w2 ⟨rfl,hbel2,g,hrow2⟩)
     rw[Pt HM.out (by omega)];exact⟨rfl,rfl,hbel.trans hbel2,g,hrow2⟩
   .have hin:i=np:=by omega
    subst hin;have he:=HE.out m Hc.out;have HH:Hid (cnt (ks.drop (place+1)) i=.ok m/\An ks place=place+1+m):=⟨Hc.out,he⟩;clear hlt2 hi he hl HL;have hfz:=hrow.frozen place;obtain⟨v0,hv0⟩:∃v0,wr.cell? ⟨B,place,W⟩=some v0:=⟨_,hrow.cell hlt⟩;go_wp2_with fail
    go_ret;rw[HH.out.1];exact⟨UZ (by omega),hbel.setCell (Nat.le_refl _) _,Uf HH.out.2 hrow⟩
