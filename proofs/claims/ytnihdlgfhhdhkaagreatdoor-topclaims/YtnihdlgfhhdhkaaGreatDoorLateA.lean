/- Joined texts. -/
import Derived.Test.YtnihdlgfhhdhkaaGreatDoorMCode
import Derived.Test.YtnihdlgfhhdhkaaGreatDoorMValues
import Derived.Test.YtnihdlgfhhdhkaaGreatDoorDesignOpen
import Derived.Test.YtnihdlgfhhdhkaaGreatDoorBools
import Derived.Lib.AppendZeros
import Derived.Laws.EntriesVeiled
namespace Go.Proofs.YtnihdlgfhhdhkaaGreatDoor
open Go.ChangeShapes Go.WideShapes Go.ChangeAt Go.RowKit Go.Deep
open Terms Tm
set_option maxHeartbeats 6400000
set_option maxRecDepth 20000
theorem zEu (l:List Vr):(zAv l).length=l.length:=by simp [zAv]
theorem zKv {l:List Vr} {i:Nat} (h:i < l.length):(zAv l).getD i 0=(l.getD i vr0).ini:=by
 simp [zAv,List.getD_eq_getElem?_getD,h]
theorem zJK (va vr:Value) (m:Mo) (w:World) (hB:0 < w.heap.size) (hT:zAJ w) (hV:zAU w va vr m) (h:mcode m=0) :
  Calls Tryz.prog 13 #[.agg #[va,vr]] w fun e w'=>e=.returned (.tuple #[.int .i64 (zA3 m.vars (zAv m.vars) m.vars.length),.int .i64 0])/\Below w.heap.size w w':=by
 have hA:∀ o,Below w.heap.size w (w.alloc o):=fun o=>(Below.refl _ _).alloc (Nat.le_refl _) o
 have hch:=fun o=>zBD va vr m (w.alloc o) (Nat.lt_of_lt_of_le hB (hA o).size) (hT.below (hA o) hB) (hV.below (hA o))
 rw [h] at hch;have hok:=zAn h;have h6:=hok.1;have hcf:=(fun vv w1 (hb:Below w.heap.size w w1) (hI:zAI w1 vv (zAv m.vars))=>zGy va vv m.vars (zAv m.vars) w1 hok (zEu _) (zGP hok) (hV.1.below hb) hI)
 obtain ⟨ao,cap,rfl⟩:=hV.1.shape;obtain ⟨ro,rc,rfl⟩:=hV.2.shape;have HCF:=(show Hid _ from hcf)
 have HV:Hid (zBu w (.slice ao m.vars.length cap) m.vars):=hV.1;have HIn:Hid (∀ i,i < m.vars.length->(zAv m.vars).getD i 0=(m.vars.getD i vr0).ini):=fun i hi=>zKv hi
 have HLn:Hid ((zAv m.vars).length=m.vars.length):=zEu _;generalize zA3 m.vars (zAv m.vars) m.vars.length=res at *;obtain ⟨n,hn⟩:∃ n,n=m.vars.length:=⟨_,rfl⟩
 have HN:Hid (n=m.vars.length):=hn;rw [<- hn] at h6 hch HCF HV HIn HLn ⊢;generalize m.rules.length=rn at *;have hmk:=run_make_row' (P:=Tryz.prog) 27 3 (.int .i64 0) 8 Tryz.underlying27 zBd rfl .i64 .i64 n (by omega) (by omega)
 clear hV hT hn hok h hcf
 go_enter Tryz.func13,Tryz.ntmps13
 go_wp2_with (go_at_call 34;refine (hch _).mono ?_;rintro e w1 ⟨rfl,hb1⟩;have hcb:w1.cell? ⟨w.heap.size,0,none⟩=some (.slice ao n cap):=(hb1.cell (p:=⟨w.heap.size,0,none⟩) (by simp)).trans (by simp [go_sem]);have hs1:w.heap.size < w1.heap.size:=(by have:=hb1.size;simp at this;omega);have hcbA:∀ o,(w1.alloc o).cell? ⟨w.heap.size,0,none⟩=some (.slice ao n cap):=(fun o=>(((Below.refl w1.heap.size w1).alloc (Nat.le_refl _) o).cell (p:=⟨w.heap.size,0,none⟩) hs1).trans hcb))
 have hbw:=(hA _).trans (hb1.mono (hA _).size);have hrow0:=World.rowIs_made w1 (.int .i64 0) n 3;have HB1:Hid (Below w.heap.size w w1):=hbw;clear hch hmk hb1 hbw hcbA
 go_loopw [20] (fun i wr=>∃ k:Nat,k <= n/\i=.int .i64 k/\Hid (wr.rowIs w1.heap.size 3 n (fun j=>if j < k then .int .i64 ((zAv m.vars).getD j 0) else .int .i64 0))/\Hid (Below w1.heap.size w1 wr)) (fun i _=>n - (intOf i).toNat)
 case atStart=>exact ⟨0,Nat.zero_le _,rfl,hrow0.congr (fun i hi=>by rw [if_neg (by omega)]),(Below.refl _ _).alloc (Nat.le_refl _) _⟩
 case round=>
  obtain ⟨k,hk,rfl,HRow,HBel⟩:=hrel;have hbel:=HBel.out;have hrow:=HRow.out;have hbw:=HB1.out.trans (hbel.mono HB1.out.size);have hszr:=hrow.lt;have cb:=(hbel.cell (p:=⟨w.heap.size,0,none⟩) hs1).trans hcb
  by_cases hlt:k < n
  ·obtain ⟨b,off,rfl,hblt,hat⟩:=HV.out.at (i:=k) (by rw [<- HN.out];exact hlt)
   obtain ⟨c0,c1,c2,c3⟩:=hat.below hbw hblt;have HIk:=(show Hid _ from HIn.out k hlt)
   have hA2:=fun o=>hrow.alloc o
   have hf:∀ o,(wr.alloc o).frozen? ⟨w1.heap.size,k,none⟩=false:=fun o=>(hA2 o).frozen k
   have hcl:∀ o,(wr.alloc o).cell? ⟨w1.heap.size,k,none⟩=some (.int .i64 0):=fun o=>by rw [(hA2 o).cell hlt,if_neg (by omega)]
   generalize m.vars.getD k vr0=x at *;obtain ⟨s,lo,hi,ini⟩:=x;simp only at c0 c1 c2 c3 HIk
   have hfin:(((wr.setCell ⟨w1.heap.size,k,none⟩ (.int .i64 ini)).alloc (.cells #[.string s,.int .i64 lo,.int .i64 hi,.int .i64 ini] 96)).rowIs w1.heap.size 3 n (fun j=>if j < k+1 then .int .i64 ((zAv m.vars).getD j 0) else .int .i64 0)):=((hrow.set k (.int .i64 ini)).alloc _).congr fun j hj=>by
    by_cases hjk:j=k
    ·subst hjk;rw [if_pos rfl,if_pos (by omega),HIk.out]
    ·rw [if_neg hjk]
     by_cases hlk:j < k
     ·rw [if_pos hlk,if_pos (by omega)]
     ·rw [if_neg hlk,if_neg (by omega)]
   have hbA:=(hbel.setCell (p:=⟨w1.heap.size,k,none⟩) (Nat.le_refl _) (.int .i64 ini)).alloc (by simp;omega) (.cells #[.string s,.int .i64 lo,.int .i64 hi,.int .i64 ini] 96)
   have HF:=(show Hid _ from hfin)
   have HBA:=(show Hid _ from hbA)
   have hfs:=hf (.cells #[.string s,.int .i64 lo,.int .i64 hi,.int .i64 ini] 96);have hcs:=hcl (.cells #[.string s,.int .i64 lo,.int .i64 hi,.int .i64 ini] 96);clear hat hA2 hf hcl hfin hbA hrow hbel hrow0
   go_wp2_with fail
   go_roundw
   case rel=>exact ⟨k+1,hlt,by go_num,HF.out,HBA.out⟩
   case measure=>simp [intOf];omega
  ·have hkn:k=n:=by omega
   subst hkn
   have hI:zAI wr (.slice (some ⟨w1.heap.size,0,none⟩) k k) (zAv m.vars):=by
    have:=zCx (hrow.congr (g:=fun j=>.int .i64 ((zAv m.vars).getD j 0)) (fun i hi=>by rw [if_pos hi]))
    have e:(List.range k).map (fun j=>(zAv m.vars).getD j 0)=zAv m.vars:=by
     apply List.ext_getElem?
     intro i
     by_cases hi:i < k
     ·simp [hi,List.getD_eq_getElem?_getD,show i < (zAv m.vars).length by rw [HLn.out];exact hi]
     ·simp [hi,show ¬ i < (zAv m.vars).length by rw [HLn.out];exact hi]
    rwa [e] at this
   have hcf:=HCF.out _ wr hbw hI;clear hI hrow HCF HRow hrow0
   go_wp2_with (go_at_call 35;refine hcf.mono ?_;rintro e w2 ⟨rfl,hb2⟩)
   go_ret2
   exact ⟨rfl,hbw.trans (hb2.mono hbw.size)⟩
theorem zLT (va vr:Value) (m:Mo) (w:World) (hB:0 < w.heap.size) (hT:zAJ w) (hV:zAU w va vr m) (h:mcode m≠0) :
  Calls Tryz.prog 13 #[.agg #[va,vr]] w fun e w'=>e=.returned (.tuple #[.int .i64 0,.int .i64 (mcode m)])/\Below w.heap.size w w':=by
 have hA:∀ o,Below w.heap.size w (w.alloc o):=fun o=>(Below.refl _ _).alloc (Nat.le_refl _) o
 have hch:=fun o=>zBD va vr m (w.alloc o) (Nat.lt_of_lt_of_le hB (hA o).size) (hT.below (hA o) hB) (hV.below (hA o))
 obtain ⟨ao,cap,rfl⟩:=hV.1.shape;obtain ⟨ro,rc,rfl⟩:=hV.2.shape;generalize mcode m=x at *;generalize m.vars.length=n at *;generalize m.rules.length=rn at *;clear hV hT
 go_enter Tryz.func13,Tryz.ntmps13
 go_wp2_with (go_at_call 34;refine (hch _).mono ?_;rintro e w1 ⟨rfl,hb1⟩)
 go_ret2
 exact ⟨rfl,(hA _).trans (hb1.mono (hA _).size)⟩
theorem zDg (va vr:Value) (m:Mo) (w:World) (hB:0 < w.heap.size) (hT:zAJ w) (hV:zAU w va vr m) :
  Calls Tryz.prog 13 #[.agg #[va,vr]] w fun e w'=>e=.returned (.tuple #[.int .i64 (if mcode m=0 then zA3 m.vars (zAv m.vars) m.vars.length else 0),.int .i64 (mcode m)])/\Below w.heap.size w w':=by
 by_cases h:mcode m=0
 ·rw [if_pos h,h]
  exact zJK va vr m w hB hT hV h
 ·rw [if_neg h]
  exact zLT va vr m w hB hT hV h
structure GV (a b:Vr):Prop where
 na:a.name=bX
 nb:b.name=bY
 a0:-1 <= a.lo
 a1:a.lo <= 1
 a2:a.lo <= a.hi
 a3:a.hi <= a.lo+3
 a4:a.lo <= a.ini
 a5:a.ini <= a.hi
 b0:-1 <= b.lo
 b1:b.lo <= 1
 b2:b.lo <= b.hi
 b3:b.hi <= b.lo+3
 b4:b.lo <= b.ini
 b5:b.ini <= b.hi
theorem zNn (sp0 sp1 lw0 lw1 iv0 iv1:Int):∃ a b,zFi sp0 sp1 lw0 lw1 iv0 iv1=[a,b]/\GV a b:=by
 obtain ⟨p0,p1,p2,p3,p4,p5⟩:=zF6 bX sp0 lw0 iv0;obtain ⟨q0,q1,q2,q3,q4,q5⟩:=zF6 bY sp1 lw1 iv1;exact ⟨_,_,rfl,⟨rfl,rfl,p0,p1,p2,p3,p4,p5,q0,q1,q2,q3,q4,q5⟩⟩
theorem GV.sa {a b:Vr} (h:GV a b):1 <= zAK a/\zAK a <= 4:=by
 have:=h.a2;have:=h.a3
 unfold zAK;omega
theorem GV.sb {a b:Vr} (h:GV a b):1 <= zAK b/\zAK b <= 4:=by
 have:=h.b2;have:=h.b3
 unfold zAK;omega
theorem GV.prod {a b:Vr} (h:GV a b):1 <= zAK a*zAK b/\zAK a*zAK b <= 16:=by
 have h1:=h.sa;have h2:=h.sb
 have h3:=Int.mul_le_mul h1.1 h2.1 (by omega) (by omega)
 have h4:=Int.mul_le_mul h1.2 h2.2 (by omega) (by omega)
 omega
theorem zPn {a b:Vr} (h:GV a b) (l:List Vr):zBc (a:: b:: l) 1 b.name=false:=by
 show (decide (a.name=b.name)||false)=false
 rw [h.na,h.nb];simp [bXY]
theorem GV.vAt {a b:Vr} (h:GV a b) (l:List Vr):vAt (a:: b:: l) 0=0/\vAt (a:: b:: l) 1=0:=by
 have h1:=h.sa;have h2:=h.sb
 obtain ⟨na,nb,p0,p1,p2,p3,p4,p5,q0,q1,q2,q3,q4,q5⟩:=h;have v0:zBa a=true:=by simp only [zBa,decide_eq_true_eq];omega
 have v1:zBa b=true:=by simp only [zBa,decide_eq_true_eq];omega
 refine ⟨(zIw (l:=a:: b:: l) (k:=0) rfl rfl).2.2.2.2 (by rw [show ((a:: b:: l).getD 0 vr0).name=bX from na];exact zOX) rfl v0 ?_,(zIw (l:=a:: b:: l) (k:=1) rfl rfl).2.2.2.2 (by rw [show ((a:: b:: l).getD 1 vr0).name=bY from nb];exact zO3) (zPn ⟨na,nb,p0,p1,p2,p3,p4,p5,q0,q1,q2,q3,q4,q5⟩ l) v1 ?_⟩
 ·show ¬ (64 < zAK a\/4096 < 1*zAK a)
  omega
 ·show ¬ (64 < zAK b\/4096 < (1*zAK a)*zAK b)
  rw [Int.one_mul];have:=Int.mul_le_mul h1.2 h2.2 (by omega) (by omega)
  omega
theorem GV.vcode {a b:Vr} (h:GV a b):vcode [a,b]=0:=by
 unfold Go.Proofs.YtnihdlgfhhdhkaaGreatDoor.vcode;rw [if_neg (by simp)]
 refine zBC fun j hj=>?_
 have hj2:j=0\/j=1:=by simp at hj;omega
 rcases hj2 with rfl | rfl
 ·exact (h.vAt []).1
 ·exact (h.vAt []).2
theorem GV.mcode {a b:Vr} (h:GV a b) {rules:List Ru} (h5:rules.length <= 12) (hr:∀ j,j < rules.length->zA1 2 (rules.getD j ru0)=0):mcode ⟨[a,b],rules⟩=0:=by
 unfold Go.Proofs.YtnihdlgfhhdhkaaGreatDoor.mcode;rw [if_pos h.vcode,if_neg (show ¬ 12 < rules.length by omega)]
 exact zBC hr
theorem zNN (a b:Vr):zAC [a,b] 2=zAK a*zAK b:=by
 show (1*zAK a)*zAK b=_
 rw [Int.one_mul]
section
variable {a b : Vr} {va vr : Value} {w : World}
theorem zFD.shape {w:World} {va vr:Value} {x y:Vr} (h:zFD w va vr [x,y]):∃ ao cap ro rn rc,va=.slice ao 2 cap/\vr=.slice ro rn rc/\rn <= 5:=by
 obtain ⟨rules,h1,h2,h3⟩:=h;obtain ⟨ao,cap,e1⟩:=h1.1.shape;obtain ⟨ro,rc,e2⟩:=h1.2.shape;exact ⟨ao,cap,ro,_,rc,e1,e2,h2⟩
end
theorem zDq.below {w w':World} {v:Value} {l:List Pl} (h:zDq w v l) (hb:Below w.heap.size w w'):zDq w' v l:=SlV.imp h hb.size fun b _ _ hlt _ ⟨⟨u,h1,h2⟩,h3,h4,⟨u',h5,h6⟩,h7⟩=>
 ⟨⟨u,(hb.cell (p:=⟨b,_,none⟩) hlt).trans h1,h2.mv hb⟩,(hb.cell (p:=⟨b,_,none⟩) hlt).trans h3,h4,⟨u',(hb.cell (p:=⟨b,_,none⟩) hlt).trans h5,h6.mv hb⟩,(hb.cell (p:=⟨b,_,none⟩) hlt).trans h7⟩
theorem zI7 {w:World} {v:Value} {vars:List Vr} (h:zJw w v vars):∃ c0 c1 c2 c3 c4 c5 c6 a b rules,v=.agg #[c0,c1,c2,c3,c4,c5,c6]/\GV a b/\
  ∀ w',Below w.heap.size w w'->Calls Tryz.prog 10 #[.agg #[c0,c1,c2,c3,c4,c5,c6]] w' fun e w2=>∃ va vr,e=.returned (.agg #[va,vr])/\Below w'.heap.size w' w2/\zDi w2 va vr [a,b] rules:=by
 obtain ⟨sp0,sp1,lw0,lw1,iv0,iv1,pv,ps,rfl,hI,hP,rfl⟩:=h;obtain ⟨a,b,he,hG⟩:=zNn sp0 sp1 lw0 lw1 iv0 iv1;refine ⟨_,_,_,_,_,_,_,a,b,(ps.take 5).map zDa,rfl,hG,fun w' hb=>?_⟩
 rw [<- he];exact zJf sp0 sp1 lw0 lw1 iv0 iv1 pv ps w' hI (hP.below hb)
end Go.Proofs.YtnihdlgfhhdhkaaGreatDoor
namespace Go.Proofs.YtnihdlgfhhdhkaaGreatDoor
open Go.ChangeShapes Go.WideShapes Go.ChangeAt Go.RowKit Go.Deep
open Terms
set_option maxHeartbeats 6400000
set_option maxRecDepth 20000
def zLO:Value:=.slice none 0 0
def zBG (w:World) (us:List Value) (ls:List (List Bool)):Prop:=us.length=ls.length/\∀ i,i < ls.length->zAM w (us.getD i zLO) (ls.getD i [])
theorem zBG.below {w w':World} {us:List Value} {ls:List (List Bool)} (h:zBG w us ls) (hb:Below w.heap.size w w'):zBG w' us ls:=⟨h.1,fun i hi=>(h.2 i hi).below hb⟩
theorem zBG.nil (w:World):zBG w [] []:=⟨rfl,fun i hi=>by simp at hi⟩
theorem zIY {α:Type} (a b:List α) (d:α) (i:Nat):(a++b).getD i d=if i < a.length then a.getD i d else b.getD (i - a.length) d:=by
 by_cases h:i < a.length
 ·rw [if_pos h];simp [List.getD_eq_getElem?_getD,List.getElem?_append_left h]
 ·rw [if_neg h];simp [List.getD_eq_getElem?_getD,List.getElem?_append_right (Nat.le_of_not_lt h)]
theorem zBG.append {w:World} {us us':List Value} {ls ls':List (List Bool)} (h:zBG w us ls) (h':zBG w us' ls'):zBG w (us++us') (ls++ls'):=by
 refine ⟨by simp [h.1,h'.1],fun i hi=>?_⟩
 rw [zIY,zIY,h.1]
 split
 ·rename_i hl;exact h.2 i hl
 ·rename_i hl;exact h'.2 _ (by simp at hi;omega)
theorem zBG.one {w:World} {us:List Value} {ls:List (List Bool)} (h:zBG w us ls):∀ u∈us,u.oneCell'=true:=by
 intro u hu;obtain ⟨i,hi,rfl⟩:=List.getElem_of_mem hu;have:=h.2 i (by rw [<- h.1];exact hi)
 obtain ⟨ao,cap,hv,_⟩:=this;rw [List.getD_eq_getElem?_getD,List.getElem?_eq_getElem hi] at hv
 simp only [Option.getD_some] at hv;rw [hv];rfl
def zAN (w:World) (v:Value) (ls:List (List Bool)):Prop:=∃ us ao cap,v=.slice ao ls.length cap/\(ao=none->cap=0/\ls=[])/\zBG w us ls/\(ls≠[]->∃ b off,ao=some ⟨b,off,none⟩/\b < w.heap.size/\∀ i,i < ls.length->w.cell? ⟨b,off+i,none⟩=some (us.getD i zLO))
theorem zAN.below {w w':World} {v:Value} {ls:List (List Bool)} (h:zAN w v ls) (hb:Below w.heap.size w w'):zAN w' v ls:=by
 obtain ⟨us,ao,cap,rfl,h0,hu,h⟩:=h;refine ⟨us,ao,cap,rfl,h0,hu.below hb,fun hne=>?_⟩
 obtain ⟨b,off,rfl,hlt,hat⟩:=h hne;exact ⟨b,off,rfl,Nat.lt_of_lt_of_le hlt hb.size,fun i hi=>(hb.cell (p:=⟨b,_,none⟩) hlt).trans (hat i hi)⟩
theorem zAN.shape {w:World} {v:Value} {ls:List (List Bool)} (h:zAN w v ls):∃ ao cap,v=.slice ao ls.length cap:=by
 obtain ⟨_,ao,cap,rfl,_⟩:=h;exact ⟨_,_,rfl⟩
theorem zAN.at {w:World} {ao:Option Addr} {cap n:Nat} {ls:List (List Bool)} (h:zAN w (.slice ao n cap) ls) {i:Nat} (hi:i < ls.length):∃ b off,ao=some ⟨b,off,none⟩/\b < w.heap.size/\∃ u,w.cell? ⟨b,off+i,none⟩=some u/\zAM w u (ls.getD i []):=by
 obtain ⟨us,ao',cap',hv,_,hu,h⟩:=h
 injection hv with e1 e2 e3
 subst e1;obtain ⟨b,off,e,hlt,hat⟩:=h (by rintro rfl;simp at hi)
 exact ⟨b,off,e,hlt,_,hat i hi,hu.2 i hi⟩
theorem zCp {w:World} {base:Nat} {v:Value} {us:List Value} {ls:List (List Bool)} (h:w.ownsRow base 53 1 v us.length us) (hu:zBG w us ls):zAN w v ls:=by
 have hlen:=hu.1
 rcases h.2 with ⟨rfl,h0⟩ | ⟨g,cap,cur,rfl,hb,hg,hnc,hcm,hcs,htake⟩
 ·have:ls=[]:=List.length_eq_zero_iff.1 (by omega)
  subst this;exact ⟨us,none,0,rfl,fun _=>⟨rfl,rfl⟩,hu,fun h=>absurd rfl h⟩
 ·refine ⟨us,_,cap,by rw [hlen],fun h=>by simp at h,hu,fun _=>⟨g,0,rfl,(Array.getElem?_eq_some_iff.1 hg).1,fun i hi=>?_⟩⟩
  rw [Nat.zero_add,h.cellAt i (by omega)]
  simp [List.getD_eq_getElem?_getD,show i < us.length by omega]
theorem zDO:(Tryz.prog.info? 53).map (fun i=>(i.zero,i.size,i.bytes))=some (some (.slice none 0 0),1,24):=by kernel_rfl
theorem zNO (n:Nat) (w:World) (h0:0 < n) (h24:n <= 24) :
  Calls Tryz.prog 80 #[.slice none 0 0,.int .i64 (n:Int)] w fun e w'=>∃ B cap,e=.returned (.slice (some ⟨B,0,none⟩) 0 cap)/\Below w.heap.size w w'/\w'.ownsRow w.heap.size 53 1 (.slice (some ⟨B,0,none⟩) 0 cap) 0 []:=by
 obtain ⟨i0,hi,hz0,hz1,hz2⟩:=info_parts zDO
 have hrz:∀ ty,(Builtin.append_ #[50,3] ty #[.slice none 0 0,.int .i64 (n:Int)]).run Tryz.prog w=.ok (.slice (some ⟨w.heap.size,0,none⟩) n (grownCap w n 0 53)) (w.drew.alloc (.cells (Builtin.zeroCells (Value.slice none 0 0).cells n++Builtin.zeroCells (Value.slice none 0 0).cells (grownCap w n 0 53 - n)) 53)):=fun ty=>
  Lib.run_append_nil_zeros w 50 3 ty 53 i0 (.slice none 0 0) .i64 .i64 Tryz.underlying50 Tryz.underlying3 hi hz0 n h0 (by omega) (by omega) (by rw [hz2];omega)
 have hge:=grownCap_ge w n 0 53;have hle:=grownCap_le_maxLen w n 0 53 (by unfold maxLen;omega)
 generalize grownCap w n 0 53=G at hrz hge hle;have hG:G <= 9223372036854775807:=by unfold maxLen at hle;omega
 have hn:¬ (n:Int) < 0:=by omega
 have hn2:(n:Int) > 0:=by omega
 go_enter Tryz.func80,Tryz.ntmps80
 go_wp2_with (at_builtin;refine Lib.wpList_append_run _ rfl _ _ _ _ rfl _ _ rfl rfl _ _ (hrz _) ?_)
 go_ret
 refine ⟨_,_,rfl,(below_drewN (Below.refl _ _) 1).alloc (Nat.le_refl _) _,?_⟩
 refine ⟨rfl,.inr ⟨w.heap.size,G,Builtin.zeroCells #[Value.slice none 0 0] n++Builtin.zeroCells #[Value.slice none 0 0] (G - n),rfl,Nat.le_refl _,?_,Nat.zero_le _,hle,?_,by simp⟩⟩
 ·show (w.heap.push _)[w.heap.size]? = _
  simp
 ·simp [size_zeroCells]
  omega
def zDD (ss ll:List (List Bool)) (k:Nat):List (List Bool):=if k=0 then [] else if k=1 then ss else ss++ll
def zL (a b:Nat) (k:Nat):Int:=if k=0 then 0 else if k=1 then (a:Int) else (a:Int)+(b:Int)
theorem zLh {w0 w:World} {g:Nat} {so lo:Option Addr} {sn ln sc lc:Nat} {ss ll:List (List Bool)} (hsn:sn=ss.length) (hln:ln=ll.length) (h1:sn <= 12) (h2:ln <= 12) (hS:zAN w0 (.slice so sn sc) ss) (hL:zAN w0 (.slice lo ln lc) ll) (c0:w.cell? ⟨g,0,none⟩=some (.slice so sn sc)) (c1:w.cell? ⟨g,1,none⟩=some (.slice lo ln lc)) {k:Nat} (hk:k < 2) :
  ∃ xo xn xc xl,w.cell? ⟨g,k,none⟩=some (.slice xo xn xc)/\zL sn ln (k+1)=zL sn ln k+(xn:Int)/\0 <= zL sn ln k/\zL sn ln k <= 12/\xn <= 12/\xn=xl.length/\zDD ss ll (k+1)=zDD ss ll k++xl/\(zDD ss ll k).length <= 12/\zAN w0 (.slice xo xn xc) xl:=by
 have hk2:k=0\/k=1:=by omega
 rcases hk2 with rfl | rfl
 ·exact ⟨so,sn,sc,ss,c0,by simp [zL],by simp [zL],by simp [zL],h1,hsn,by simp [zDD],by simp [zDD],hS⟩
 ·exact ⟨lo,ln,lc,ll,c1,by simp [zL],by simp [zL],by simp [zL];omega,h2,hln,by simp [zDD],by simp [zDD];omega,hL⟩
theorem zKS {w:World} {b off:Nat} {us:List Value} {xl:List (List Bool)} (hu:zBG w us xl) (h:∀ i,i < xl.length->w.cell? ⟨b,off+i,none⟩=some (us.getD i zLO)):∀ j u,us[j]? = some u->w.cell? ((⟨b,off,none⟩:Addr).add j)=some u:=by
 intro j u hj;have hlt:=(List.getElem?_eq_some_iff.1 hj).1
 rw [Go.WideShapes.add_plain,h j (by rw [<- hu.1];exact hlt),List.getD_eq_getElem?_getD,hj]
 rfl
theorem zGf (g:Nat) (sv lv:Value) (ss ll:List (List Bool)) (w0 w:World) (hb0:Below w0.heap.size w0 w) (h1:ss.length <= 12) (h2:ll.length <= 12) (h0:1 <= ll.length) (hS:zAN w0 sv ss) (hL:zAN w0 lv ll) (c0:w.cell? ⟨g,0,none⟩=some sv) (c1:w.cell? ⟨g,1,none⟩=some lv) :
  Calls Tryz.prog 52 #[.slice (some ⟨g,0,none⟩) 2 2] w fun e w'=>∃ B cap,e=.returned (.slice (some ⟨B,0,none⟩) (ss.length+ll.length) cap)/\Below w.heap.size w w'/\Hid (∃ us,w'.ownsRow w.heap.size 53 1 (.slice (some ⟨B,0,none⟩) (ss.length+ll.length) cap) us.length us/\zBG w0 us (ss++ll)):=by
 have hg:=World.block_lt_of_cell? w ⟨g,0,none⟩ c0;obtain ⟨i0,hi,hz0,hz1,hz2⟩:=info_parts zDO;obtain ⟨so,sc,rfl⟩:=hS.shape;obtain ⟨lo,lc,rfl⟩:=hL.shape
 have HAt:Hid (∀ k,k < 2->∃ xo xn xc xl,w.cell? ⟨g,k,none⟩=some (.slice xo xn xc)/\zL ss.length ll.length (k+1)=zL ss.length ll.length k+(xn:Int)/\0 <= zL ss.length ll.length k/\zL ss.length ll.length k <= 12/\xn <= 12/\xn=xl.length/\zDD ss ll (k+1)=zDD ss ll k++xl/\(zDD ss ll k).length <= 12/\zAN w0 (.slice xo xn xc) xl):=fun k hk=>zLh rfl rfl h1 h2 hS hL c0 c1 hk
 have HZ0:Hid (zL ss.length ll.length 0=0):=rfl;have HZ2:Hid (zL ss.length ll.length 2=((ss.length+ll.length:Nat):Int)):=by show _=_;simp [zL]
 have HA0:Hid (zDD ss ll 0=[]):=rfl;have HA2:Hid (zDD ss ll 2=ss++ll):=rfl;have hgr:=fun w1=>zNO (ss.length+ll.length) w1 (by omega) (by omega)
 have HLen:Hid ((ss++ll).length=ss.length+ll.length):=List.length_append;obtain ⟨tn,htn⟩:∃ tn,tn=ss.length+ll.length:=⟨_,rfl⟩
 rw [<- htn] at hgr HLen HZ2 ⊢;have ht24:tn <= 24:=by omega
 have ht0:0 < tn:=by omega
 generalize zL ss.length ll.length=zz at *;generalize zDD ss ll=ac at *;clear hS hL c0 c1 h1 h2 h0 htn
 go_enter Tryz.func52,Tryz.ntmps52
 go_wp2
 go_loop [3,11] (fun z i=>∃ k:Nat,k <= 2/\i=.int .i64 (k:Int)/\z=.int .i64 (zz k)) (fun _ i=>2 - (intOf i).toNat)
 case atStart=>exact ⟨0,by omega,rfl,by rw [HZ0.out]⟩
 case round=>
  obtain ⟨k,hk,rfl,rfl⟩:=hrel
  by_cases hlt:k < 2
  ·obtain ⟨xo,xn,xc,xl,hc,hz,hz00,hz12,hx12,hr⟩:=HAt.out k hlt
   clear hr;have HZ:Hid (zz (k+1)=zz k+(xn:Int)):=hz;clear hz;generalize zz k=z0 at *
   go_wp2
   go_round
   case rel=>exact ⟨k+1,hlt,by go_num,by rw [HZ.out]⟩
   case measure=>simp [intOf];omega
  ·obtain rfl:k=2:=by omega
   rw [HZ2.out]
   go_wp2_with (go_at_call 80;refine (hgr _).mono ?_;rintro e w1 ⟨B,cap,rfl,hb1,ho1⟩)
   clear hgr
   go_loopw [6,27] (fun nv i wr=>∃ k:Nat,k <= 2/\i=.int .i64 (k:Int)/\∃ B cap,nv=.slice (some ⟨B,0,none⟩) (ac k).length cap/\Hid (∃ us,wr.ownsRow w.heap.size 53 1 nv us.length us/\zBG w0 us (ac k))/\Below w.heap.size w wr) (fun _ i _=>2 - (intOf i).toNat)
   case atStart=>exact ⟨0,by omega,rfl,B,cap,by rw [HA0.out];rfl,⟨[],ho1,by rw [HA0.out];exact zBG.nil _⟩,hb1⟩
   case round=>
    obtain ⟨k,hk,rfl,B,cap,rfl,HU,hbel⟩:=hrel
    by_cases hlt:k < 2
    ·obtain ⟨xo,xn,xc,xl,hc,_,_,_,hx12,hxn,hac,hal,hX⟩:=HAt.out k hlt
     have hcr:=(hbel.cell (p:=⟨g,k,none⟩) hg).trans hc;obtain ⟨us,hown,hus⟩:=HU.out;have HUS:Hid (zBG w0 us (ac k)):=hus;have HXN:Hid (xn=xl.length):=hxn;have HAC:Hid (ac (k+1)=ac k++xl):=hac;have hul:us.length=(ac k).length:=hus.1;obtain ⟨vs,xo',xc',hxv,hx0,hvs,hxat⟩:=hX
     injection hxv with e1 e2 e3
     subst e1 e3;rw [<- hul] at hal hown ⊢;clear hxn hac hus e2 HU hul
     cases xo with
     | none=>
      obtain ⟨hc0,hl0⟩:=hx0 rfl;have HL0:Hid (xl=[]):=hl0;have hxn0:xn=0:=by rw [HXN.out,HL0.out];rfl
      subst hxn0 hc0;clear hx0 hxat hl0 hvs
      go_wp2_with (at_builtin;refine wpList_append_own_none rfl (.tmp 31) (.tmp 32) 50 rfl w.heap.size 53 i0 1 Tryz.underlying50 hi _ _ _ rfl hown rfl ?_)
      go_roundw
      case rel=>exact ⟨k+1,hlt,by go_num,B,cap,by rw [HAC.out,HL0.out,List.append_nil,<- HUS.out.1],⟨us,hown,by rw [HAC.out,HL0.out,List.append_nil];exact HUS.out⟩,hbel⟩
      case measure=>simp [intOf];omega
     | some a=>
      have hcells:∀ j u,vs[j]? = some u->wr.cell? (a.add j)=some u:=by
       intro j u hj;have hjl:j < xl.length:=by rw [<- hvs.1];exact (List.getElem?_eq_some_iff.1 hj).1
       obtain ⟨b,off,e,hbl,hat⟩:=hxat (by rintro rfl;simp at hjl)
       obtain rfl:=Option.some.inj e;have:=zKS hvs hat j u hj;rw [Go.WideShapes.add_plain] at this ⊢;exact ((hb0.trans (hbel.mono hb0.size)).cell (p:=⟨b,off+j,none⟩) hbl).trans this
      have HVS:Hid (zBG w0 vs xl):=hvs;have hvl:vs.length=xn*1:=by rw [hvs.1,HXN.out];omega
      have hv1:=hvs.one;have hbsz:=hbel.size;have hnb:=hown.lt;clear hx0 hxat hvs
      go_wp2_with (at_builtin;refine wpList_append_own _ rfl (.tmp 31) (.tmp 32) 50 rfl w.heap.size 53 i0 (.slice none 0 0) 1 24 Tryz.underlying50 hi hz0 hz1 hz2 rfl (by decide) (.slice (some ⟨B,0,none⟩) us.length cap) us.length us rfl hown a xn xc vs rfl hvl hcells hv1 (by unfold maxLen;omega) (by omega) hbsz ?_;intro v' w4 hown' hgrow hne)
      have hb4:Below w.heap.size w w4:=hbel.grown hgrow hbsz (fun q hq=>(hnb q hq).1)
      have hlen4:(us++vs).length=us.length+xn:=by rw [List.length_append];omega
      obtain ⟨B4,cap4,rfl⟩:∃ B4 cap4,v'=.slice (some ⟨B4,0,none⟩) (us.length+xn) cap4:=by
       rcases hown'.2 with ⟨h,_⟩ | ⟨g',cap',cur',h,_⟩
       ·exact absurd (hne.1 h).1 (by simp)
       ·exact ⟨_,_,h⟩
      have HLn:Hid (us.length+xn=(ac (k+1)).length):=by show _=_;rw [HAC.out,List.length_append,<- HUS.out.1,HXN.out]
      have HU4:Hid (∃ zs,w4.ownsRow w.heap.size 53 1 (.slice (some ⟨B4,0,none⟩) (us.length+xn) cap4) zs.length zs/\zBG w0 zs (ac (k+1))):=⟨us++vs,by rw [hlen4];exact hown',by rw [HAC.out];exact HUS.out.append HVS.out⟩
      clear hown' hgrow hown hcells hne
      go_roundw
      case rel=>exact ⟨k+1,hlt,by go_num,B4,cap4,by rw [HLn.out],HU4,hb4⟩
      case measure=>simp [intOf];omega
    ·obtain rfl:k=2:=by omega
     have HF:Hid (∃ us,wr.ownsRow w.heap.size 53 1 (.slice (some ⟨B,0,none⟩) tn cap) us.length us/\zBG w0 us (ss++ll)):=by
      obtain ⟨us,h1,h2⟩:=HU.out;rw [HA2.out] at h1 h2;rw [HLen.out] at h1;exact ⟨us,h1,h2⟩
     rw [HA2.out,HLen.out];clear HU
     go_wp2
     go_ret
     exact ⟨_,_,rfl,hbel,HF⟩
theorem zKU (g:Nat) (sv lv:Value) (ss ll:List (List Bool)) (w:World) (h1:ss.length <= 12) (h2:ll.length <= 12) (h0:1 <= ll.length) (hS:zAN w sv ss) (hL:zAN w lv ll) (c0:w.cell? ⟨g,0,none⟩=some sv) (c1:w.cell? ⟨g,1,none⟩=some lv) :
  Calls Tryz.prog 52 #[.slice (some ⟨g,0,none⟩) 2 2] w fun e w'=>∃ B cap,e=.returned (.slice (some ⟨B,0,none⟩) (ss.length+ll.length) cap)/\Below w.heap.size w w'/\Hid (zAN w' (.slice (some ⟨B,0,none⟩) (ss.length+ll.length) cap) (ss++ll)):=
 (zGf g sv lv ss ll w w (Below.refl _ _) h1 h2 h0 hS hL c0 c1).mono fun e w' ⟨B,cap,e1,e2,e3⟩=>by
  obtain ⟨us,e4,e5⟩:=e3.out;exact ⟨B,cap,e1,e2,zCp e4 (e5.below e2)⟩
end Go.Proofs.YtnihdlgfhhdhkaaGreatDoor
namespace Go.Proofs.YtnihdlgfhhdhkaaGreatDoor.Terms
namespace Tm
set_option maxHeartbeats 6400000
set_option maxRecDepth 20000
def ho (σ:Nat->Nat->Bool):Tm->Nat->Prop
 | leaf k v=>fun i=>if k=13 then σ i v.toNat=true else k=11
 | un k _ a=>fun i=>if k=10 then ¬ ho σ a i else if k=14 then ho σ a (i+1) else if k=17 then ∃ j,i <= j/\ho σ a j else ∀ j,i <= j->ho σ a j
 | bi k _ a b=>fun i=>if k=8 then ho σ a i/\ho σ b i else if k=9 then ho σ a i\/ho σ b i else if k=15 then ∃ j,i <= j/\ho σ b j/\∀ m,i <= m->m < j->ho σ a m else ∀ j,i <= j->ho σ b j\/∃ m,i <= m/\m < j/\ho σ a m
theorem ho_shift (σ:Nat->Nat->Bool) (d:Nat) (t:Tm):∀ i,ho (fun j=>σ (j+d)) t i↔ho σ t (i+d):=by
 induction t with
 | leaf k v=>intro i;simp only [ho]
 | un k v a ih=>
  intro i;simp only [ho]
  split
  ·rw [ih]
  ·split
   ·rw [ih,show i+1+d=i+d+1 by omega]
   ·split
    ·constructor
     ·rintro ⟨j,h1,h2⟩;exact ⟨j+d,by omega,(ih j).1 h2⟩
     ·rintro ⟨j,h1,h2⟩;exact ⟨j - d,by omega,(ih _).2 (by rwa [show j - d+d=j by omega])⟩
    ·constructor
     ·intro h j hj;have:=(ih _).1 (h (j - d) (by omega));rwa [show j - d+d=j by omega] at this
     ·intro h j hj;exact (ih j).2 (h (j+d) (by omega))
 | bi k v a b iha ihb=>
  intro i;simp only [ho]
  split
  ·rw [iha,ihb]
  ·split
   ·rw [iha,ihb]
   ·split
    ·constructor
     ·rintro ⟨j,h1,h2,h3⟩
      refine ⟨j+d,by omega,(ihb j).1 h2,fun m hm hmj=>?_⟩
      have:=(iha _).1 (h3 (m - d) (by omega) (by omega))
      rwa [show m - d+d=m by omega] at this
     ·rintro ⟨j,h1,h2,h3⟩
      refine ⟨j - d,by omega,(ihb _).2 (by rwa [show j - d+d=j by omega]),fun m hm hmj=>(iha m).2 (h3 (m+d) (by omega) (by omega))⟩
    ·constructor
     ·intro h j hj
      rcases h (j - d) (by omega) with h1 | ⟨m,h1,h2,h3⟩
      ·left;have:=(ihb _).1 h1;rwa [show j - d+d=j by omega] at this
      ·exact .inr ⟨m+d,by omega,by omega,(iha m).1 h3⟩
     ·intro h j hj
      rcases h (j+d) (by omega) with h1 | ⟨m,h1,h2,h3⟩
      ·exact .inl ((ihb j).2 h1)
      ·exact .inr ⟨m - d,by omega,by omega,(iha _).2 (by rwa [show m - d+d=m by omega])⟩
def Per (σ:Nat->Nat->Bool) (s L:Nat):Prop:=∀ i,s <= i->σ (i+L)=σ i
theorem ho_per {σ:Nat->Nat->Bool} {s L:Nat} (h:Per σ s L) (t:Tm) {i:Nat} (hi:s <= i):ho σ t (i+L)↔ho σ t i:=by
 have h1:=ho_shift σ (i+L) t 0;have h2:=ho_shift σ i t 0;rw [Nat.zero_add] at h1 h2;rw [<- h1,<- h2]
 have:(fun j=>σ (j+(i+L)))=fun j=>σ (j+i):=by
  funext j
  rw [show j+(i+L)=(j+i)+L by omega]
  exact h _ (by omega)
 rw [this]
open Classical in
noncomputable def hb (σ:Nat->Nat->Bool) (t:Tm) (i:Nat):Bool:=decide (ho σ t i)
open Classical in
theorem hb_iff {σ:Nat->Nat->Bool} {t:Tm} {i:Nat}:hb σ t i=true↔ho σ t i:=by unfold hb;exact decide_eq_true_iff
theorem bool_eq {x y:Bool} (h:x=true↔y=true):x=y:=by cases x <;> cases y <;> simp_all
theorem hb_per {σ:Nat->Nat->Bool} {s L:Nat} (h:Per σ s L) (t:Tm) {i:Nat} (hi:s <= i):hb σ t (i+L)=hb σ t i:=bool_eq (by rw [hb_iff,hb_iff];exact ho_per h t hi)
theorem hb_prop (σ:Nat->Nat->Bool) (v:Int) (i:Nat):hb σ (leaf 13 v) i=σ i v.toNat:=bool_eq (by rw [hb_iff];simp [ho])
theorem hb_yes (σ:Nat->Nat->Bool) (v:Int) (i:Nat):hb σ (leaf 11 v) i=true:=by rw [hb_iff];simp [ho]
theorem hb_no {k:Int} (σ:Nat->Nat->Bool) (v:Int) (i:Nat) (h1:k≠13) (h2:k≠11):hb σ (leaf k v) i=false:=by
 have:¬ hb σ (leaf k v) i=true:=by rw [hb_iff];simp [ho,h1,h2]
 simpa using this
theorem hb_not (σ:Nat->Nat->Bool) (v:Int) (a:Tm) (i:Nat):hb σ (un 10 v a) i=!hb σ a i:=bool_eq (by rw [hb_iff,Bool.not_eq_true',<- Bool.not_eq_true,hb_iff];simp [ho])
theorem hb_next (σ:Nat->Nat->Bool) (v:Int) (a:Tm) (i:Nat):hb σ (un 14 v a) i=hb σ a (i+1):=bool_eq (by rw [hb_iff,hb_iff];simp [ho])
theorem hb_and (σ:Nat->Nat->Bool) (v:Int) (a b:Tm) (i:Nat):hb σ (bi 8 v a b) i=(hb σ a i&&hb σ b i):=bool_eq (by rw [hb_iff,Bool.and_eq_true,hb_iff,hb_iff];simp [ho])
theorem hb_or (σ:Nat->Nat->Bool) (v:Int) (a b:Tm) (i:Nat):hb σ (bi 9 v a b) i=(hb σ a i||hb σ b i):=bool_eq (by rw [hb_iff,Bool.or_eq_true,hb_iff,hb_iff];simp [ho])
end Tm
def Unt (u v:Nat->Bool) (d:Bool) (i:Nat):Prop:=(∃ j,i <= j/\u j=true/\∀ m,i <= m->m < j->v m=true)\/(d=true/\∀ m,i <= m->v m=true)
theorem zNY (u v:Nat->Bool) (d:Bool) (i:Nat):Unt u v d i↔u i=true\/(v i=true/\Unt u v d (i+1)):=by
 constructor
 ·rintro (⟨j,h1,h2,h3⟩ | ⟨h1,h2⟩)
  ·by_cases e:j=i
   ·subst e;exact .inl h2
   ·exact .inr ⟨h3 i (by omega) (by omega),.inl ⟨j,by omega,h2,fun m hm hmj=>h3 m (by omega) hmj⟩⟩
  ·exact .inr ⟨h2 i (by omega),.inr ⟨h1,fun m hm=>h2 m (by omega)⟩⟩
 ·rintro (h | ⟨h1,(⟨j,h2,h3,h4⟩ | ⟨h2,h3⟩)⟩)
  ·exact .inl ⟨i,by omega,h,fun m hm hmi=>by omega⟩
  ·refine .inl ⟨j,by omega,h3,fun m hm hmj=>?_⟩
   by_cases e:m=i
   ·subst e;exact h1
   ·exact h4 m (by omega) hmj
  ·refine .inr ⟨h2,fun m hm=>?_⟩
   by_cases e:m=i
   ·subst e;exact h1
   ·exact h3 m (by omega)
open Classical in
noncomputable def zBx (u v:Nat->Bool) (d:Bool) (i:Nat):Bool:=decide (Unt u v d i)
open Classical in
theorem zBP {u v:Nat->Bool} {d:Bool} {i:Nat}:zBx u v d i=true↔Unt u v d i:=by unfold zBx;exact decide_eq_true_iff
theorem zCq (u v:Nat->Bool) (d:Bool) (i:Nat):zBx u v d i=(u i||(v i&&zBx u v d (i+1))):=Tm.bool_eq (by rw [zBP,zNY,Bool.or_eq_true,Bool.and_eq_true,zBP])
def stp (u v:Nat->Bool) (x:Bool):Nat->Nat->Bool
 | 0,_=>x
 | k+1,i=>u i||(v i&&stp u v x k (i+1))
theorem zKN (u v:Nat->Bool) (d:Bool):∀ k i,stp u v (zBx u v d (i+k)) k i=zBx u v d i:=by
 intro k
 induction k with
 | zero=>intro i;rfl
 | succ k ih=>intro i;simp only [stp];rw [show i+(k+1)=(i+1)+k by omega,ih,<- zCq]
theorem zPU (u v:Nat->Bool):∀ k i,(∀ x y,stp u v x k i=stp u v y k i)\/((∀ m,i <= m->m < i+k->u m=false/\v m=true)/\∀ x,stp u v x k i=x):=by
 intro k
 induction k with
 | zero=>intro i;exact .inr ⟨fun m h1 h2=>by omega,fun x=>rfl⟩
 | succ k ih=>
  intro i
  cases hu:u i with
  | true=>left;intro x y;simp [stp,hu]
  | false=>
   cases hv:v i with
   | false=>left;intro x y;simp [stp,hu,hv]
   | true=>
    rcases ih (i+1) with h | ⟨h1,h2⟩
    ·left;intro x y;simp only [stp];rw [h x y]
    ·right
     refine ⟨fun m hm hmk=>?_,fun x=>by simp [stp,hu,hv,h2]⟩
     by_cases e:m=i
     ·subst e;exact ⟨hu,hv⟩
     ·exact h1 m (by omega) (by omega)
theorem zLu {u v:Nat->Bool} {d:Bool} {i:Nat} (h:∀ m,i <= m->u m=false/\v m=true):zBx u v d i=d:=by
 cases d with
 | true=>rw [zBP];exact .inr ⟨rfl,fun m hm=>(h m hm).2⟩
 | false=>
  have:¬ zBx u v false i=true:=by
   rw [zBP]
   rintro (⟨j,h1,h2,_⟩ | ⟨h1,_⟩)
   ·rw [(h j h1).1] at h2;cases h2
   ·cases h1
  simpa using this
theorem zJt {u:Nat->Bool} {s L:Nat} (hL:0 < L) (hp:∀ i,s <= i->u (i+L)=u i) {x:Bool} {a:Nat} (ha:s <= a) (h:∀ m,a <= m->m < a+L->u m=x):∀ m,a <= m->u m=x:=by
 intro m
 induction m using Nat.strongRecOn with
 | ind m ih=>
  intro hm
  by_cases hl:m < a+L
  ·exact h m hm hl
  ·have:=ih (m - L) (by omega) (by omega)
   rw [<- this,<- hp (m - L) (by omega),show m - L+L=m by omega]
theorem zOp {u v:Nat->Bool} {d:Bool} {s L:Nat} (hu:∀ i,s <= i->u (i+L)=u i) (hv:∀ i,s <= i->v (i+L)=v i) {i:Nat} (hi:s <= i):zBx u v d (i+L)=zBx u v d i:=by
 refine Tm.bool_eq ?_
 rw [zBP,zBP]
 constructor
 ·rintro (⟨j,h1,h2,h3⟩ | ⟨h1,h2⟩)
  ·refine .inl ⟨j - L,by omega,?_,fun m hm hmj=>?_⟩
   ·rw [<- hu _ (by omega),show j - L+L=j by omega];exact h2
   ·rw [<- hv _ (by omega)];exact h3 _ (by omega) (by omega)
  ·refine .inr ⟨h1,fun m hm=>?_⟩
   rw [<- hv _ (by omega)];exact h2 _ (by omega)
 ·rintro (⟨j,h1,h2,h3⟩ | ⟨h1,h2⟩)
  ·refine .inl ⟨j+L,by omega,?_,fun m hm hmj=>?_⟩
   ·rw [hu _ (by omega)];exact h2
   ·have:=h3 (m - L) (by omega) (by omega)
    rw [<- hv _ (by omega),show m - L+L=m by omega] at this;exact this
  ·refine .inr ⟨h1,fun m hm=>?_⟩
   have:=h2 (m - L) (by omega)
   rw [<- hv _ (by omega),show m - L+L=m by omega] at this;exact this
theorem zMj {u v:Nat->Bool} {d:Bool} {s n:Nat} (hsn:s < n) (hu:∀ i,s <= i->u (i+(n - s))=u i) (hv:∀ i,s <= i->v (i+(n - s))=v i) {i:Nat} (hi:i <= n) :
  stp u v (stp u v d (n - s) s) (n - i) i=zBx u v d i:=by
 have hper:=zOp (d:=d) hu hv (Nat.le_refl s)
 have hx:stp u v d (n - s) s=zBx u v d n:=by
  rcases zPU u v (n - s) s with h | ⟨h1,h2⟩
  ·rw [h d (zBx u v d (s+(n - s))),zKN,<- hper,show s+(n - s)=n by omega]
  ·rw [h2,zLu]
   intro m hm;exact ⟨zJt (by omega) hu (Nat.le_refl s) (fun m a b=>(h1 m a b).1) m (by omega),zJt (by omega) hv (Nat.le_refl s) (fun m a b=>(h1 m a b).2) m (by omega)⟩
 rw [hx];have:=zKN u v d (n - i) i
 rwa [show i+(n - i)=n by omega] at this
namespace Tm
theorem hb_fin (σ:Nat->Nat->Bool) (v:Int) (a:Tm) (i:Nat):hb σ (un 17 v a) i=zBx (hb σ a) (fun _=>true) false i:=bool_eq (by
 rw [hb_iff,zBP];simp only [ho,Unt,show ¬ (17:Int)=10 by decide,show ¬ (17:Int)=14 by decide,if_false,if_true]
 constructor
 ·rintro ⟨j,h1,h2⟩;exact .inl ⟨j,h1,hb_iff.2 h2,fun _ _ _=>trivial⟩
 ·rintro (⟨j,h1,h2,_⟩ | ⟨h,_⟩)
  ·exact ⟨j,h1,hb_iff.1 h2⟩
  ·cases h)
theorem hb_glob (σ:Nat->Nat->Bool) (v:Int) (a:Tm) (i:Nat):hb σ (un 18 v a) i=zBx (fun _=>false) (hb σ a) true i:=bool_eq (by
 rw [hb_iff,zBP];simp only [ho,Unt,show ¬ (18:Int)=10 by decide,show ¬ (18:Int)=14 by decide,show ¬ (18:Int)=17 by decide,if_false]
 constructor
 ·intro h;exact .inr ⟨trivial,fun m hm=>hb_iff.2 (h m hm)⟩
 ·rintro (⟨j,h1,h2,_⟩ | ⟨_,h⟩)
  ·cases h2
  ·exact fun j hj=>hb_iff.1 (h j hj))
theorem hb_until (σ:Nat->Nat->Bool) (v:Int) (a b:Tm) (i:Nat):hb σ (bi 15 v a b) i=zBx (hb σ b) (hb σ a) false i:=bool_eq (by
 rw [hb_iff,zBP];simp only [ho,Unt,show ¬ (15:Int)=8 by decide,show ¬ (15:Int)=9 by decide,if_false,if_true]
 constructor
 ·rintro ⟨j,h1,h2,h3⟩;exact .inl ⟨j,h1,hb_iff.2 h2,fun m hm hmj=>hb_iff.2 (h3 m hm hmj)⟩
 ·rintro (⟨j,h1,h2,h3⟩ | ⟨h,_⟩)
  ·exact ⟨j,h1,hb_iff.1 h2,fun m hm hmj=>hb_iff.1 (h3 m hm hmj)⟩
  ·cases h)
theorem least {P:Nat->Prop} (i:Nat):∀ j,i <= j->P j->∃ m,i <= m/\P m/\∀ k,i <= k->k < m->¬ P k:=by
 intro j
 induction j using Nat.strongRecOn with
 | ind j ih=>
  intro hj hp
  by_cases h:∃ k,i <= k/\k < j/\P k
  ·obtain ⟨k,h1,h2,h3⟩:=h;exact ih k h2 h1 h3
  ·exact ⟨j,hj,hp,fun k h1 h2 h3=>h ⟨k,h1,h2,h3⟩⟩
theorem hb_rel (σ:Nat->Nat->Bool) (v:Int) (a b:Tm) (i:Nat):hb σ (bi 16 v a b) i=zBx (fun j=>hb σ a j&&hb σ b j) (hb σ b) true i:=bool_eq (by
 rw [hb_iff,zBP];simp only [ho,Unt,show ¬ (16:Int)=8 by decide,show ¬ (16:Int)=9 by decide,show ¬ (16:Int)=15 by decide,if_false,Bool.and_eq_true,true_and]
 constructor
 ·intro h
  by_cases hall:∀ m,i <= m->ho σ b m
  ·exact .inr fun m hm=>hb_iff.2 (hall m hm)
  ·left
   have ⟨j,hj,hnb⟩:∃ j,i <= j/\¬ ho σ b j:=by
    by_cases hx:∃ j,i <= j/\¬ ho σ b j
    ·exact hx
    ·exact absurd (fun m hm=>Classical.byContradiction fun hn=>hx ⟨m,hm,hn⟩) hall
   obtain ⟨m,hm,hnm,hlow⟩:=least (P:=fun j=>¬ ho σ b j) i j hj hnb
   rcases h m hm with hb' | ⟨q,h1,h2,h3⟩
   ·exact absurd hb' hnm
   ·exact ⟨q,h1,⟨hb_iff.2 h3,hb_iff.2 (Classical.byContradiction fun hn=>hlow q h1 h2 hn)⟩,fun z hz hzq=>hb_iff.2 (Classical.byContradiction fun hn=>hlow z hz (by omega) hn)⟩
 ·rintro (⟨j,h1,⟨h2,h2'⟩,h3⟩ | h) q hq
  ·by_cases hl:q < j
   ·exact .inl (hb_iff.1 (h3 q hq hl))
   ·by_cases he:q=j
    ·subst he;exact .inl (hb_iff.1 h2')
    ·exact .inr ⟨j,h1,by omega,hb_iff.1 h2⟩
  ·exact .inl (hb_iff.1 (h q hq)))
end Tm
end Go.Proofs.YtnihdlgfhhdhkaaGreatDoor.Terms
namespace Go.Proofs.YtnihdlgfhhdhkaaGreatDoor.Terms
set_option maxHeartbeats 6400000
set_option maxRecDepth 20000
def zBO (s n i:Nat):Nat:=if i < n then i else s+(i - s) % (n - s)
theorem zCV {s n i:Nat} (h:i < n):zBO s n i=i:=by unfold zBO;rw [if_pos h]
theorem zHL {s n i:Nat} (h:s < n):zBO s n i < n:=by
 unfold zBO
 split
 ·assumption
 ·have:=Nat.mod_lt (i - s) (show 0 < n - s by omega)
  omega
theorem zE3 {s n i:Nat} (hs:s < n) (h:n <= i):zBO s n i=zBO s n (i - (n - s)):=by
 have hm:(i - s) % (n - s)=(i - (n - s) - s) % (n - s):=by
  rw [show i - s=(i - (n - s) - s)+(n - s) by omega,Nat.add_mod_right]
 unfold zBO;rw [if_neg (by omega),hm]
 split
 ·rw [Nat.mod_eq_of_lt (by omega)];omega
 ·rfl
theorem zM9 {s n i:Nat} (hs:s < n) (h:s <= i):zBO s n (i+(n - s))=zBO s n i:=by
 rw [zE3 hs (by omega),show i+(n - s) - (n - s)=i by omega]
def sig (ls:List (List Bool)) (s:Nat) (i v:Nat):Bool:=(ls.getD (zBO s ls.length i) []).getD v false
theorem zKB {ls:List (List Bool)} {s:Nat} (hs:s < ls.length):Tm.Per (sig ls s) s (ls.length - s):=fun i hi=>by funext v;unfold sig;rw [zM9 hs hi]
theorem zFk {ls:List (List Bool)} {s:Nat} (hs:s < ls.length) (t:Tm):∀ i,t.hb (sig ls s) (zBO s ls.length i)=t.hb (sig ls s) i:=by
 intro i
 induction i using Nat.strongRecOn with
 | ind i ih=>
  by_cases h:i < ls.length
  ·rw [zCV h]
  ·rw [zE3 hs (by omega),ih _ (by omega)]
   have:=Tm.hb_per (zKB hs) t (i:=i - (ls.length - s)) (by omega)
   rw [<- this,show i - (ls.length - s)+(ls.length - s)=i by omega]
namespace Tm
noncomputable def uT (σ:Nat->Nat->Bool):Tm->Nat->Bool
 | leaf k v=>fun i=>hb σ (leaf k v) i
 | un k v a=>fun i=>if k=17 then hb σ a i else if k=18 then false else hb σ (un k v a) i
 | bi k v a b=>fun i=>if k=15 then hb σ b i else if k=16 then hb σ a i&&hb σ b i else hb σ (bi k v a b) i
noncomputable def vT (σ:Nat->Nat->Bool):Tm->Nat->Bool
 | leaf _ _=>fun _=>false
 | un k _ a=>fun i=>if k=17 then true else if k=18 then hb σ a i else false
 | bi k _ a b=>fun i=>if k=15 then hb σ a i else if k=16 then hb σ b i else false
def dT (k:Int):Bool:=decide (k=18\/k=16)
theorem untB_plain (u:Nat->Bool) (i:Nat):zBx u (fun _=>false) false i=u i:=by rw [zCq];simp
theorem uT_per {σ:Nat->Nat->Bool} {s L:Nat} (h:Per σ s L) (t:Tm) {i:Nat} (hi:s <= i):uT σ t (i+L)=uT σ t i:=by
 cases t with
 | leaf k v=>exact hb_per h _ hi
 | un k v a=>simp only [uT];rw [hb_per h _ hi,hb_per h _ hi]
 | bi k v a b=>simp only [uT];rw [hb_per h _ hi,hb_per h _ hi,hb_per h _ hi]
theorem vT_per {σ:Nat->Nat->Bool} {s L:Nat} (h:Per σ s L) (t:Tm) {i:Nat} (hi:s <= i):vT σ t (i+L)=vT σ t i:=by
 cases t with
 | leaf k v=>rfl
 | un k v a=>simp only [vT];rw [hb_per h _ hi]
 | bi k v a b=>simp only [vT];rw [hb_per h _ hi,hb_per h _ hi]
theorem hb_unt (σ:Nat->Nat->Bool) {t:Tm} (hw:t.Wf) (i:Nat):hb σ t i=zBx (uT σ t) (vT σ t) (dT t.kind) i:=by
 cases t with
 | leaf k v=>
  have hk:dT k=false:=by
   obtain ⟨_,h2⟩:=hw;simp only [dT,decide_eq_false_iff_not]
   rintro (rfl | rfl) <;> exact absurd h2 (by decide)
  show _=zBx _ (fun _=>false) (dT k) i
  rw [hk,untB_plain];rfl
 | un k v a=>
  by_cases h17:k=17
  ·subst h17;rw [hb_fin];rfl
  ·by_cases h18:k=18
   ·subst h18;rw [hb_glob];rfl
   ·have hk:dT k=false:=by
     obtain ⟨_,h2,_⟩:=hw;simp only [dT,decide_eq_false_iff_not]
     rintro (rfl | rfl)
     ·exact h18 rfl
     ·exact absurd h2 (by decide)
    have e1:uT σ (un k v a)=hb σ (un k v a):=by funext j;simp only [uT];rw [if_neg h17,if_neg h18]
    have e2:vT σ (un k v a)=fun _=>false:=by funext j;simp only [vT];rw [if_neg h17,if_neg h18]
    rw [e1,e2]
    show _=zBx _ _ (dT k) i
    rw [hk,untB_plain]
 | bi k v a b=>
  by_cases h15:k=15
  ·subst h15;rw [hb_until];rfl
  ·by_cases h16:k=16
   ·subst h16;rw [hb_rel];rfl
   ·have hk:dT k=false:=by
     obtain ⟨_,h2,_⟩:=hw;simp only [dT,decide_eq_false_iff_not]
     rintro (rfl | rfl)
     ·exact absurd h2 (by decide)
     ·exact h16 rfl
    have e1:uT σ (bi k v a b)=hb σ (bi k v a b):=by funext j;simp only [uT];rw [if_neg h15,if_neg h16]
    have e2:vT σ (bi k v a b)=fun _=>false:=by funext j;simp only [vT];rw [if_neg h15,if_neg h16]
    rw [e1,e2]
    show _=zBx _ _ (dT k) i
    rw [hk,untB_plain]
end Tm
def zC4 (props:Int) (ls:List (List Bool)):Bool:=ls.any fun l=>decide ((l.length:Int)≠props)
def zB0 (props:Int) (ss ll:List (List Bool)):Int:=
 if props < 0\/6 < props then 2 else if 12 < ss.length\/ll.length < 1\/12 < ll.length then 1 else if zC4 props (ss++ll)=true then 3 else 0
theorem zFa {props:Int} {ss ll:List (List Bool)} (h:props < 0\/6 < props):zB0 props ss ll=2:=by unfold zB0;rw [if_pos h]
theorem zFr {props:Int} {ss ll:List (List Bool)} (h:¬ (props < 0\/6 < props)) (h2:12 < ss.length\/ll.length < 1\/12 < ll.length):zB0 props ss ll=1:=by unfold zB0;rw [if_neg h,if_pos h2]
theorem zFy {props:Int} {ss ll:List (List Bool)} (h:¬ (props < 0\/6 < props)) (h2:¬ (12 < ss.length\/ll.length < 1\/12 < ll.length)) (h3:zC4 props (ss++ll)=true):zB0 props ss ll=3:=by unfold zB0;rw [if_neg h,if_neg h2,if_pos h3]
theorem zHq {props:Int} {ss ll:List (List Bool)} (h:¬ (props < 0\/6 < props)) (h2:¬ (12 < ss.length\/ll.length < 1\/12 < ll.length)) (h3:zC4 props (ss++ll)=false):zB0 props ss ll=0:=by unfold zB0;rw [if_neg h,if_neg h2,if_neg (by rw [h3];decide)]
theorem zHe {props:Int} {ls:List (List Bool)} {i:Nat} (hi:i < ls.length) (h:((ls.getD i []).length:Int)≠props):zC4 props ls=true:=by
 unfold zC4;rw [List.any_eq_true];refine ⟨ls.getD i [],?_,by simpa using h⟩
 rw [List.getD_eq_getElem?_getD,List.getElem?_eq_getElem hi]
 exact List.getElem_mem hi
theorem zJp {props:Int} {ls:List (List Bool)} (h:∀ i,i < ls.length->((ls.getD i []).length:Int)=props):zC4 props ls=false:=by
 unfold zC4;rw [List.any_eq_false];intro l hl;obtain ⟨i,hi,rfl⟩:=List.getElem_of_mem hl;have:=h i hi;rw [List.getD_eq_getElem?_getD,List.getElem?_eq_getElem hi] at this
 simpa using this
theorem zDJ {props:Int} {ss ll:List (List Bool)} (h:zB0 props ss ll=0):(0 <= props/\props <= 6)/\ss.length <= 12/\1 <= ll.length/\ll.length <= 12/\∀ i,i < (ss++ll).length->(((ss++ll).getD i []).length:Int)=props:=by
 by_cases hr:props < 0\/6 < props
 ·rw [zFa hr] at h;omega
 ·by_cases hs:12 < ss.length\/ll.length < 1\/12 < ll.length
  ·rw [zFr hr hs] at h;omega
  ·cases hb:zC4 props (ss++ll) with
   | true=>rw [zFy hr hs hb] at h;omega
   | false=>
    refine ⟨by omega,by omega,by omega,by omega,fun i hi=>?_⟩
    exact Classical.byContradiction fun hn=>by rw [zHe hi hn] at hb;cases hb
end Go.Proofs.YtnihdlgfhhdhkaaGreatDoor.Terms
namespace Go.Proofs.YtnihdlgfhhdhkaaGreatDoor
open Go.ChangeShapes Go.WideShapes Go.ChangeAt Go.RowKit Go.Deep
open Terms
set_option maxHeartbeats 6400000
set_option maxRecDepth 20000
theorem zLV (sv lv:Value) (ss ll:List (List Bool)) (props:Int) (w:World) (hzs:ss.length <= 140737488355328) (hzl:ll.length <= 140737488355328) (hS:zAN w sv ss) (hL:zAN w lv ll) :
    Calls Tryz.prog 50 #[.agg #[sv,lv],.int .i64 props] w fun e w'=>e=.returned (.int .i64 (zB0 props ss ll))/\Below w.heap.size w w':=by
  have hA:∀ o,Below w.heap.size w (w.alloc o):=fun o=>(Below.refl _ _).alloc (Nat.le_refl _) o
  obtain ⟨so,sc,rfl⟩:=hS.shape;obtain ⟨lo,lc,rfl⟩:=hL.shape
  by_cases hr:props < 0\/6 < props
  · rw [zFa hr]
    generalize ss.length=sn at *;generalize ll.length=ln at *;clear hS hL
    rcases hr with hr | hr
    all_goals
      go_enter Tryz.func50,Tryz.ntmps50
      go_wp2
      go_ret
      exact ⟨rfl,hA _⟩
  · have hp0:0 <= props:=by omega
    have hp6:props <= 6:=by omega
    by_cases hs:12 < ss.length\/ll.length < 1\/12 < ll.length
    · rw [zFr hr hs]
      have hs3:12 < ss.length\/(ss.length <= 12/\ll.length < 1)\/(ss.length <= 12/\1 <= ll.length/\12 < ll.length):=by omega
      generalize ss.length=sn at *;generalize ll.length=ln at *;clear hS hL hr hs
      rcases hs3 with h1 | ⟨h1,h2⟩ | ⟨h1,h2,h3⟩
      · have h1':(12:Int) < (sn:Int):=by omega
        go_enter Tryz.func50,Tryz.ntmps50
        go_wp2
        go_ret
        exact ⟨rfl,hA _⟩
      · have h1':¬ (12:Int) < (sn:Int):=by omega
        have h2':(ln:Int) < 1:=by omega
        go_enter Tryz.func50,Tryz.ntmps50
        go_wp2
        go_ret
        exact ⟨rfl,hA _⟩
      · have h1':¬ (12:Int) < (sn:Int):=by omega
        have h2':¬ (ln:Int) < 1:=by omega
        have h3':(12:Int) < (ln:Int):=by omega
        go_enter Tryz.func50,Tryz.ntmps50
        go_wp2
        go_ret
        exact ⟨rfl,hA _⟩
    · have hs1:ss.length <= 12:=by omega
      have hl1:1 <= ll.length:=by omega
      have hl2:ll.length <= 12:=by omega
      have hA2:∀ o o',Below w.heap.size w ((w.alloc o).alloc o'):=fun o o'=>(hA o).alloc (by simp) o'
      have hco:Calls Tryz.prog 52 #[.slice (some ⟨w.heap.size+1,0,none⟩) 2 2] ((w.alloc (.cells #[.slice so ss.length sc,.slice lo ll.length lc] 52)).alloc (.cells #[.slice so ss.length sc,.slice lo ll.length lc] 50)) fun e w'=>∃ B cap,e=.returned (.slice (some ⟨B,0,none⟩) (ss.length+ll.length) cap)/\Below w.heap.size w w'/\Hid (zAN w' (.slice (some ⟨B,0,none⟩) (ss.length+ll.length) cap) (ss++ll)):=
        (zKU (w.heap.size+1) _ _ ss ll _ hs1 hl2 hl1 (hS.below (hA2 _ _)) (hL.below (hA2 _ _)) (by simp [go_sem]) (by simp [go_sem])).mono fun e w' ⟨B,cap,h1,h2,h3⟩=>⟨B,cap,h1,(hA2 _ _).trans (h2.mono (by simp;omega)),h3⟩
      have HOk:=fun h=>(show Hid _ from zHq (ss:=ss) (ll:=ll) hr hs h)
      have HFo:=fun h=>(show Hid _ from zFy (ss:=ss) (ll:=ll) hr hs h)
      have HLen:Hid ((ss++ll).length=ss.length+ll.length):=List.length_append;generalize zB0 props ss ll=wc at *;obtain ⟨n,hn⟩:∃ n,n=ss.length+ll.length:=⟨_,rfl⟩
      rw [<- hn] at hco HLen;have hn24:n <= 24:=by omega
      generalize ss.length=sn at *;generalize ll.length=ln at *;have HN:Hid (n=sn+ln):=hn;clear hS hL hr hs hn hA2;have g1:¬ (12:Int) < (sn:Int):=by omega
      have g2:¬ (ln:Int) < 1:=by omega
      have g3:¬ (12:Int) < (ln:Int):=by omega
      go_enter Tryz.func50,Tryz.ntmps50
      go_wp2_with (go_at_call 52;refine hco.mono ?_;rintro e w1 ⟨B,cap,rfl,hb1,HL⟩)
      clear hco
      go_loop [36] (fun i=>∃ k:Nat,k <= n/\i=.int .i64 (k:Int)/\Hid (∀ j,j < k->(((ss++ll).getD j []).length:Int)=props)) (fun i=>n - (intOf i).toNat)
      case atStart=>exact ⟨0,Nat.zero_le _,rfl,fun j hj=>absurd hj (Nat.not_lt_zero _)⟩
      case round=>
        obtain ⟨k,hk,rfl,HAll⟩:=hrel
        by_cases hlt:k < n
        · obtain ⟨b,off,hbo,_,u,hcu,hbu⟩:=HL.out.at (i:=k) (by rw [HLen.out];exact hlt)
          obtain ⟨rfl,rfl⟩:B=b/\0=off:=by simpa using hbo
          obtain ⟨uo,uc,rfl,_⟩:=hbu;simp only [Nat.zero_add] at hcu
          by_cases hx:(((ss++ll).getD k []).length:Int)=props
          · have HNx:Hid (∀ j,j < k+1->(((ss++ll).getD j []).length:Int)=props):=fun j hj=>by
              by_cases hjk:j < k
              · exact HAll.out j hjk
              · obtain rfl:j=k:=by omega
                exact hx
            generalize ((ss++ll).getD k []).length=xn at *;clear HAll
            go_wp2
            go_round
            case rel=>exact ⟨k+1,hlt,by go_num,HNx⟩
            case measure=>simp [intOf];omega
          · have HW:Hid (wc=3):=(HFo (zHe (by rw [HLen.out];exact hlt) hx)).out
            generalize ((ss++ll).getD k []).length=xn at *;clear HAll
            go_wp2
            go_ret
            rw [HW.out];exact ⟨rfl,hb1⟩
        · obtain rfl:k=n:=by omega
          have HW:Hid (wc=0):=(HOk (zJp fun i hi=>HAll.out i (by rw [HLen.out] at hi;exact hi))).out
          go_wp2
          go_ret
          rw [HW.out];exact ⟨rfl,hb1⟩
def zAP (k:Int):Bool:=decide (14 <= k/\k <= 18)
def zAT (props:Int) (o:Int × Int):Int:=if o.1 < 8 then 13 else if o.2 < 0\/(if o.1=13 then props - 1 else 0) < o.2 then 2 else 0
def zBW (props:Int):List (Int × Int)->Int
 | []=>0
 | o:: r=>if zAT props o≠0 then zAT props o else zBW props r
theorem zMJ {props:Int}:∀ {l:List (Int × Int)} {i:Nat},i < l.length->(∀ j,j < i->zAT props (l.getD j (0,0))=0)->zAT props (l.getD i (0,0))≠0->zBW props l=zAT props (l.getD i (0,0)):=by
 intro l
 induction l with
 | nil=>intro i hi;simp at hi
 | cons o r ih=>
  intro i hi hj hne
  cases i with
  | zero=>simp only [List.getD_cons_zero] at hne ⊢;simp [zBW,hne]
  | succ i=>
   have h0:=hj 0 (by omega)
   simp only [List.getD_cons_zero] at h0;simp only [List.getD_cons_succ] at hne ⊢;simp only [zBW,h0,ne_eq,not_true_eq_false,if_false];exact ih (by simpa using hi) (fun j hjj=>by simpa using hj (j+1) (by omega)) hne
theorem zGB {props:Int}:∀ {l:List (Int × Int)},(∀ j,j < l.length->zAT props (l.getD j (0,0))=0)->zBW props l=0:=by
 intro l
 induction l with
 | nil=>intro _;rfl
 | cons o r ih=>
  intro hj;have h0:=hj 0 (by simp)
  simp only [List.getD_cons_zero] at h0;simp only [zBW,h0,ne_eq,not_true_eq_false,if_false];exact ih (fun j hjj=>by simpa using hj (j+1) (by simpa using hjj))
theorem zGv {props:Int}:∀ {l:List (Int × Int)},zBW props l=0->∀ j,j < l.length->zAT props (l.getD j (0,0))=0:=by
 intro l
 induction l with
 | nil=>intro _ j hj;simp at hj
 | cons o r ih=>
  intro h j hj;simp only [zBW] at h
  split at h
  ·rename_i h1;exact absurd h h1
  ·rename_i h1
   cases j with
   | zero=>simpa using h1
   | succ j=>simpa using ih h j (by simpa using hj)
def zAF (l:List (Int × Int)):Nat->List Int
 | 0=>[]
 | n+1=>zAF l n++if zAP (l.getD n (0,0)).1=true then [(n:Int)] else []
theorem zB3 {l:List (Int × Int)} {n:Nat} (h:zAP (l.getD n (0,0)).1=true):zAF l (n+1)=zAF l n++[(n:Int)]:=by simp only [zAF];rw [if_pos h]
theorem zGu {l:List (Int × Int)} {n:Nat} (h:zAP (l.getD n (0,0)).1=false):zAF l (n+1)=zAF l n:=by simp only [zAF];rw [if_neg (by rw [h];decide)];simp
theorem zHQ (l:List (Int × Int)):∀ n,(zAF l n).length <= n:=by
 intro n
 induction n with
 | zero=>simp [zAF]
 | succ n ih=>simp only [zAF,List.length_append];split <;> simp <;> omega
def zAA (l:List (Int × Int)):List Int:=zAF l l.length
def zAQ (props:Int) (l:List (Int × Int)):Int:=
 if props < 0\/6 < props then 2 else if zAD (l.map Prod.fst)≠0 then zAD (l.map Prod.fst) else if zBW props l≠0 then zBW props l else if 6 < (zAA l).length then 1 else 0
theorem zEM {props:Int} {l:List (Int × Int)} (h:props < 0\/6 < props):zAQ props l=2:=by unfold zAQ;rw [if_pos h]
theorem zEi {props:Int} {l:List (Int × Int)} (h:¬ (props < 0\/6 < props)) (h2:zAD (l.map Prod.fst)≠0):zAQ props l=zAD (l.map Prod.fst):=by unfold zAQ;rw [if_neg h,if_pos h2]
theorem zIi {props:Int} {l:List (Int × Int)} (h:¬ (props < 0\/6 < props)) (h2:zAD (l.map Prod.fst)=0) (h3:zBW props l≠0):zAQ props l=zBW props l:=by unfold zAQ;rw [if_neg h,if_neg (by simpa using h2),if_pos h3]
theorem zEU {props:Int} {l:List (Int × Int)} (h:¬ (props < 0\/6 < props)) (h2:zAD (l.map Prod.fst)=0) (h3:zBW props l=0):zAQ props l=if 6 < (zAA l).length then 1 else 0:=by unfold zAQ;rw [if_neg h,if_neg (by simpa using h2),if_neg (by simpa using h3)]
theorem zAl {props:Int} {l:List (Int × Int)} (h:zAQ props l=0):0 <= props/\props <= 6/\zAD (l.map Prod.fst)=0/\zBW props l=0/\(zAA l).length <= 6:=by
 by_cases hr:props < 0\/6 < props
 ·rw [zEM hr] at h;omega
 ·by_cases hz:zAD (l.map Prod.fst)=0
  ·by_cases hf:zBW props l=0
   ·rw [zEU hr hz hf] at h
    split at h
    ·omega
    ·exact ⟨by omega,by omega,hz,hf,by omega⟩
   ·rw [zIi hr hz hf] at h;exact absurd h hf
  ·rw [zEi hr hz] at h;exact absurd h hz
theorem zB7 {ks:List Int} (h:zAD ks=0):ks≠[]/\ks.length <= 60:=by
 obtain ⟨h1,h2⟩:=zDW h;refine ⟨?_,h1⟩
 rintro rfl
 simp [cnt] at h2
def sec (l:List (Int × Int)) (p:Nat):Nat:=zAa (l.map Prod.fst) (p+1)
def zC8 (claim:Int) (i:Nat):Bool:=decide (claim / 2 ^ i % 2=1)
def mkB (o:Int × Int) (letter:List Bool) (a b:Bool):Bool:=
 if o.1=13 then letter.getD o.2.toNat false else if o.1=11 then true else if o.1=10 then !a else if o.1=8 then a&&b else if o.1=9 then a||b else false
def zCj (l:List (Int × Int)) (letter:List Bool) (claim:Int):Nat->Nat->Bool
 | 0,_=>false
 | f+1,p=>if zAP (l.getD p (0,0)).1=true then zC8 claim (zAF l p).length else mkB (l.getD p (0,0)) letter (zCj l letter claim f (p+1)) (zCj l letter claim f (max (sec l p) (p+1)))
def tru (l:List (Int × Int)) (letter:List Bool) (claim:Int) (p:Nat):Bool:=zCj l letter claim (l.length - p) p
theorem zL0 (l:List (Int × Int)) (letter:List Bool) (claim:Int):∀ f g p,l.length <= f+p->l.length <= g+p->p < l.length->zCj l letter claim f p=zCj l letter claim g p:=by
 intro f
 induction f with
 | zero=>intro g p h _ hp;omega
 | succ f ih=>
  intro g p h1 h2 hp
  cases g with
  | zero=>omega
  | succ g=>
   simp only [zCj]
   have aux:∀ q,p < q->zCj l letter claim f q=zCj l letter claim g q:=by
    intro q hq
    by_cases hql:q < l.length
    ·exact ih g q (by omega) (by omega) hql
    ·have z:∀ f q,l.length <= q->zCj l letter claim f q=false:=by
      intro f
      induction f with
      | zero=>intro q _;rfl
      | succ f ihf=>
       intro q hq;simp only [zCj];rw [show l.getD q (0,0)=(0,0) by simp [List.getD_eq_getElem?_getD,hq]]
       simp [zAP,mkB]
     rw [z f q (by omega),z g q (by omega)]
   rw [aux (p+1) (by omega),aux (max (sec l p) (p+1)) (by omega)]
theorem zI6 {l:List (Int × Int)} {letter:List Bool} {claim:Int} {p:Nat} (hp:p < l.length) (h:zAP (l.getD p (0,0)).1=true):tru l letter claim p=zC8 claim (zAF l p).length:=by
 unfold tru;obtain ⟨f,hf⟩:∃ f,l.length - p=f+1:=⟨l.length - p - 1,by omega⟩
 rw [hf];simp only [zCj];rw [if_pos h]
theorem zMe {l:List (Int × Int)} {letter:List Bool} {claim:Int} {p:Nat} (hp:p < l.length) (h:zAP (l.getD p (0,0)).1=false) (hs:pn (l.getD p (0,0)).1=2->p+1 < sec l p):tru l letter claim p=mkB (l.getD p (0,0)) letter (tru l letter claim (p+1)) (tru l letter claim (sec l p)):=by
 unfold tru;obtain ⟨f,hf⟩:∃ f,l.length - p=f+1:=⟨l.length - p - 1,by omega⟩
 rw [hf]
 have z:∀ f q,l.length <= q->zCj l letter claim f q=false:=by
  intro f
  induction f with
  | zero=>intro q _;rfl
  | succ f ihf=>
   intro q hq;simp only [zCj];rw [show l.getD q (0,0)=(0,0) by simp [List.getD_eq_getElem?_getD,hq]]
   simp [zAP,mkB]
 have aux:∀ q,p < q->zCj l letter claim f q=zCj l letter claim (l.length - q) q:=by
  intro q hq
  by_cases hql:q < l.length
  ·exact zL0 l letter claim f _ q (by omega) (by omega) hql
  ·rw [z _ q (by omega),z _ q (by omega)]
 simp only [zCj];rw [if_neg (by rw [h];decide),aux (p+1) (by omega)]
 by_cases h2:pn (l.getD p (0,0)).1=2
 ·rw [show max (sec l p) (p+1)=sec l p by have:=hs h2;omega,aux (sec l p) (by have:=hs h2;omega)]
 ·have hk:(l.getD p (0,0)).1≠8/\(l.getD p (0,0)).1≠9:=by
   constructor <;> intro e <;> rw [e] at h2 <;> exact absurd rfl h2
  simp only [mkB,hk.1,hk.2,if_false]
theorem zB5 (l:List (Int × Int)):∀ n i,i < (zAF l n).length->∃ p:Nat,(zAF l n).getD i 0=p/\p < n/\zAP (l.getD p (0,0)).1=true/\(zAF l p).length=i:=by
 intro n
 induction n with
 | zero=>intro i hi;simp [zAF] at hi
 | succ n ih=>
  intro i hi
  cases hb:zAP (l.getD n (0,0)).1 with
  | false=>
   rw [zGu hb] at hi ⊢;obtain ⟨p,h1,h2,h3,h4⟩:=ih i hi;exact ⟨p,h1,by omega,h3,h4⟩
  | true=>
   rw [zB3 hb] at hi ⊢
   by_cases hl:i < (zAF l n).length
   ·obtain ⟨p,h1,h2,h3,h4⟩:=ih i hl
    refine ⟨p,?_,by omega,h3,h4⟩
    rw [<- h1];simp [List.getD_eq_getElem?_getD,List.getElem?_append_left hl]
   ·have hi':i=(zAF l n).length:=by simp at hi;omega
    subst hi';exact ⟨n,by simp [List.getD_eq_getElem?_getD],by omega,hb,rfl⟩
theorem zCy (l:List (Int × Int)) {p n:Nat} (h:p <= n):(zAF l p).length <= (zAF l n).length:=by
  induction n with
  | zero => obtain rfl : p = 0 := by omega
            exact Nat.le_refl _
  | succ n ih=>
    by_cases hp:p=n+1
    · subst hp;exact Nat.le_refl _
    · have:=ih (by omega)
      simp only [zAF,List.length_append];omega
theorem zCH (l:List (Int × Int)) {p n:Nat} (h:p < n) (hb:zAP (l.getD p (0,0)).1=true):(zAF l p).length < (zAF l n).length:=by
 have:=zCy l (p:=p+1) (n:=n) (by omega)
 rw [zB3 hb] at this;simp at this;omega
theorem zDh {l:List (Int × Int)} (hz:zAD (l.map Prod.fst)=0) {p:Nat} (hp:p < l.length) :
  (1 <= pn (l.getD p (0,0)).1->p+1 < l.length)/\(pn (l.getD p (0,0)).1=2->p+1 < sec l p/\sec l p < l.length):=by
 obtain ⟨_,hc⟩:=zDW hz;obtain ⟨ks,hks⟩:∃ ks,ks=l.map Prod.fst:=⟨_,rfl⟩
 have hlen:ks.length=l.length:=by rw [hks,List.length_map]
 have hget:ks.getD p 0=(l.getD p (0,0)).1:=by rw [hks];simp [List.getD_eq_getElem?_getD,hp]
 have hsec:sec l p=zAa ks (p+1):=by unfold sec;rw [<- hks]
 rw [<- hks] at hc;rw [<- hget,hsec,<- hlen];obtain ⟨m,hm,hm1,hml⟩:=zPW ks 1 ks.length p hc (by omega)
 have ha:=zIh (ks:=ks) (q:=p) (by omega)
 rw [hm] at ha
 split at ha
 ·cases hr:cnt (ks.drop (p+1)) (pn (ks.getD p 0)) with
  | no e=>rw [hr] at ha;simp [R.up] at ha
  | ok m2=>
   rw [hr] at ha;simp only [R.up,R.ok.injEq] at ha;have h2:=zCY _ _ _ hr;rw [List.length_drop] at h2;refine ⟨fun h=>by omega,fun h=>?_⟩
   rw [h,show (2:Nat)=1+1 from rfl] at hr
   obtain ⟨a,b,hca,hcb,hab⟩:=zHn hr;have h3:=zCY _ _ _ hca;have h4:=zCY _ _ _ hcb;rw [zGJ hca];omega
 ·simp at ha
structure TabIn (w:World) (bt bp b off n cap B:Nat) (aao:Option Addr) (an ac lb m lcap s R p:Nat) (l:List (Int × Int)) (ls:List (List Bool)) (h:Nat->Nat->Bool):Prop where
 c0:w.cell? ⟨bt,0,none⟩=some (.slice (some ⟨b,off,none⟩) n cap)
 c1:w.cell? ⟨bt,1,none⟩=some (.slice (some ⟨B,0,none⟩) n n)
 c2:w.cell? ⟨bt,2,none⟩=some (.slice aao an ac)
 c3:w.cell? ⟨bt,3,none⟩=some (.slice (some ⟨lb,0,none⟩) m lcap)
 c4:w.cell? ⟨bt,4,none⟩=some (.int .i64 (s:Int))
 c5:w.cell? ⟨bt,5,none⟩=some (.slice (some ⟨R,0,none⟩) n n)
 cp:w.cell? ⟨bp,0,none⟩=some (.int .i64 (p:Int))
 ends : ∀ j, j < n -> w.cell? ⟨B, j, none⟩ = some (.int .i64 (zAa (l.map Prod.fst) j : Int))
 lets:zAN w (.slice (some ⟨lb,0,none⟩) m lcap) ls
 rows:∀ q,p < q->q < n->∃ rb ro rc,w.cell? ⟨R,q,none⟩=some (.slice (some ⟨rb,ro,none⟩) m rc)/\rb < w.heap.size/\∀ j,j < m->w.cell? ⟨rb,ro+j,none⟩=some (.bool (h q j))
 hbt:bt < w.heap.size
 hbp:bp < w.heap.size
 hB:B < w.heap.size
 hR:R < w.heap.size
 hm:ls.length=m
 hn:n <= 60
 hm24:m <= 24
 hs:s < m
theorem TabIn.below {w w':World} {bt bp b off n cap B:Nat} {aao:Option Addr} {an ac lb m lcap s R p:Nat} {l:List (Int × Int)} {ls:List (List Bool)} {h:Nat->Nat->Bool} (t:TabIn w bt bp b off n cap B aao an ac lb m lcap s R p l ls h) (hb:Below w.heap.size w w'):TabIn w' bt bp b off n cap B aao an ac lb m lcap s R p l ls h:=
 ⟨(hb.cell (p:=⟨bt,0,none⟩) t.hbt).trans t.c0,(hb.cell (p:=⟨bt,1,none⟩) t.hbt).trans t.c1,(hb.cell (p:=⟨bt,2,none⟩) t.hbt).trans t.c2,(hb.cell (p:=⟨bt,3,none⟩) t.hbt).trans t.c3,(hb.cell (p:=⟨bt,4,none⟩) t.hbt).trans t.c4,(hb.cell (p:=⟨bt,5,none⟩) t.hbt).trans t.c5,(hb.cell (p:=⟨bp,0,none⟩) t.hbp).trans t.cp,fun j hj=>(hb.cell (p:=⟨B,j,none⟩) t.hB).trans (t.ends j hj),t.lets.below hb,fun q h1 h2=>by
  obtain ⟨rb,ro,rc,e1,e2,e3⟩:=t.rows q h1 h2;exact ⟨rb,ro,rc,(hb.cell (p:=⟨R,q,none⟩) t.hR).trans e1,Nat.lt_of_lt_of_le e2 hb.size,fun j hj=>(hb.cell (p:=⟨rb,ro+j,none⟩) e2).trans (e3 j hj)⟩,
  Nat.lt_of_lt_of_le t.hbt hb.size,Nat.lt_of_lt_of_le t.hbp hb.size,Nat.lt_of_lt_of_le t.hB hb.size,Nat.lt_of_lt_of_le t.hR hb.size,t.hm,t.hn,t.hm24,t.hs⟩
theorem zCt (w:World) (bt bp b off n cap B:Nat) (aao:Option Addr) (an ac lb m lcap s R p:Nat) (l:List (Int × Int)) (ls:List (List Bool)) (h:Nat->Nat->Bool) (mo:Nat) (hT:TabIn w bt bp b off n cap B aao an ac lb m lcap s R p l ls h) (hp:p+1 < n) (hmo:mo < m) :
  Calls Tryz.prog 83 #[.int .i64 (mo:Int),.pointer (some ⟨bt,0,none⟩),.pointer (some ⟨bp,0,none⟩)] w fun e w'=>e=.returned (.bool (h (p+1) mo))/\w'=w:=by
 obtain ⟨rb,ro,rc,e1,e2,e3⟩:=hT.rows (p+1) (by omega) hp
 have e4:=e3 mo hmo;have c5:=hT.c5;have cp:=hT.cp;have hn:=hT.hn;have hm:=hT.hm24;generalize h (p+1) mo=x at *;clear e3 hT
 go_enter Tryz.func83,Tryz.ntmps83
 go_wp2_with fail
 go_ret
 exact ⟨rfl,rfl⟩
theorem zEq (w:World) (bt bp b off n cap B:Nat) (aao:Option Addr) (an ac lb m lcap s R p:Nat) (l:List (Int × Int)) (ls:List (List Bool)) (h:Nat->Nat->Bool) (mo:Nat) (hT:TabIn w bt bp b off n cap B aao an ac lb m lcap s R p l ls h) (hp:p+1 < n) (hs1:p < sec l p) (hs2:sec l p < n) (hmo:mo < m) :
  Calls Tryz.prog 84 #[.int .i64 (mo:Int),.pointer (some ⟨bt,0,none⟩),.pointer (some ⟨bp,0,none⟩)] w fun e w'=>e=.returned (.bool (h (sec l p) mo))/\∃ q,w'=w.drewN q:=by
 obtain ⟨rb,ro,rc,e1,e2,e3⟩:=hT.rows (sec l p) hs1 hs2;have e4:=e3 mo hmo;have c5:=hT.c5;have c1:=hT.c1;have cp:=hT.cp;have hn:=hT.hn;have hm:=hT.hm24;have ce:w.cell? ⟨B,p+1,none⟩=some (.int .i64 (sec l p:Int)):=hT.ends (p+1) hp;generalize h (sec l p) mo=x at *;generalize sec l p=sn at *;clear e3 hT
 go_enter Tryz.func84,Tryz.ntmps84
 go_wp2_with fail
 go_quiet (fail)
 go_wp2_with fail
 go_ret
 exact ⟨rfl,_,rfl⟩
theorem zPO (w:World) (bt bp b off n cap B:Nat) (aao:Option Addr) (an ac lb m lcap s R p:Nat) (l:List (Int × Int)) (ls:List (List Bool)) (h:Nat->Nat->Bool) (bo:Nat) (v:Int) (x:Bool) (mo:Nat) (hT:TabIn w bt bp b off n cap B aao an ac lb m lcap s R p l ls h) (hmo:mo < m) (ho:w.cell? ⟨bo,1,none⟩=some (.int .i64 v)) (hv0:0 <= v) (hv:v < ((ls.getD mo []).length:Int)) :
  Calls Tryz.prog 85 #[.int .i64 (mo:Int),.bool x,.pointer (some ⟨bt,0,none⟩),.pointer (some ⟨bo,0,none⟩)] w fun e w'=>e=.returned (.bool ((ls.getD mo []).getD v.toNat false))/\∃ q,w'=w.drewN q:=by
 obtain ⟨lb',lo,e0,hlb,u,hcu,hbu⟩:=hT.lets.at (i:=mo) (by rw [hT.hm];exact hmo)
 obtain ⟨rfl,rfl⟩:lb=lb'/\0=lo:=by simpa using e0
 obtain ⟨uo,uc,rfl,hu⟩:=hbu;obtain ⟨ub,uoff,rfl,hubl,hat⟩:=hu (by intro hh;rw [hh] at hv;simp at hv;omega)
 obtain ⟨vn,rfl⟩:∃ vn:Nat,v=vn:=⟨v.toNat,by omega⟩
 have cu:=hat vn (by omega)
 have c3:=hT.c3;have hm:=hT.hm24;simp only [Int.toNat_natCast,Nat.zero_add] at *;generalize (ls.getD mo []).getD vn false=y at *;generalize (ls.getD mo []).length=xn at *;have hvn:vn < xn:=by omega
 clear hat hu hT e0
 go_enter Tryz.func85,Tryz.ntmps85
 go_wp2_with fail
 go_quiet (fail)
 go_wp2_with fail
 go_ret
 exact ⟨rfl,_,rfl⟩
theorem zHX (b off n cap B:Nat) (aao:Option Addr) (an ac lb m lcap s R:Nat) (now:Nat) (w:World) (hm:m <= 24) (hnow:now < m) :
  Calls Tryz.prog 82 #[.agg #[.slice (some ⟨b,off,none⟩) n cap,.slice (some ⟨B,0,none⟩) n n,.slice aao an ac,.slice (some ⟨lb,0,none⟩) m lcap,.int .i64 (s:Int),.slice (some ⟨R,0,none⟩) n n],.int .i64 (now:Int)] w fun e w'=>e=.returned (.int .i64 ((if now=m - 1 then s else now+1:Nat):Int))/\Below w.heap.size w w':=by
 have hA:∀ o,Below w.heap.size w (w.alloc o):=fun o=>(Below.refl _ _).alloc (Nat.le_refl _) o
 by_cases hl:now=m - 1
 ·rw [if_pos hl]
  have hl':(now:Int)=(m:Int) - 1:=by omega
  rw [hl'];clear hl hl' hnow
  go_enter Tryz.func82,Tryz.ntmps82
  go_wp2_with fail
  go_ret
  exact ⟨rfl,hA _⟩
 ·rw [if_neg hl]
  have hl':¬ (now:Int)=(m:Int) - 1:=by omega
  clear hl
  go_enter Tryz.func82,Tryz.ntmps82
  go_wp2_with fail
  go_ret
  exact ⟨by simp,hA _⟩
def zKq (w:World) (F:Value) (m:Nat) (u v:Nat->Bool):Prop:=∃ f caps,F=.func (.func f) #[] caps/\(∀ args w,(callFunc f args).run Tryz.prog w=.ok (.enter f args) w)/\∀ w',Below w.heap.size w w'->∀ (now:Nat) (x:Bool),now < m->Calls Tryz.prog f (#[.int .i64 (now:Int),.bool x]++caps) w' fun e w2=>e=.returned (.bool (u now||(v now&&x)))/\Below w'.heap.size w' w2
structure FunIn (w:World) (bt bp bf bs:Nat):Prop where
 f1:w.cell? ⟨bf,0,none⟩=some (.func (.func 83) #[] #[.pointer (some ⟨bt,0,none⟩),.pointer (some ⟨bp,0,none⟩)])
 f2:w.cell? ⟨bs,0,none⟩=some (.func (.func 84) #[] #[.pointer (some ⟨bt,0,none⟩),.pointer (some ⟨bp,0,none⟩)])
 hbf:bf < w.heap.size
 hbs:bs < w.heap.size
theorem FunIn.below {w w':World} {bt bp bf bs:Nat} (t:FunIn w bt bp bf bs) (hb:Below w.heap.size w w'):FunIn w' bt bp bf bs:=
 ⟨(hb.cell (p:=⟨bf,0,none⟩) t.hbf).trans t.f1,(hb.cell (p:=⟨bs,0,none⟩) t.hbs).trans t.f2,Nat.lt_of_lt_of_le t.hbf hb.size,Nat.lt_of_lt_of_le t.hbs hb.size⟩
theorem zPH (w:World) (bt bp b off n cap B:Nat) (aao:Option Addr) (an ac lb m lcap s R p:Nat) (l:List (Int × Int)) (ls:List (List Bool)) (h:Nat->Nat->Bool) (bf bs:Nat) (now:Nat) (x:Bool) (hT:TabIn w bt bp b off n cap B aao an ac lb m lcap s R p l ls h) (hF:FunIn w bt bp bf bs) (hp:p+1 < n) (hnow:now < m) :
  Calls Tryz.prog 87 #[.int .i64 (now:Int),.bool x,.pointer (some ⟨bf,0,none⟩)] w fun e w'=>e=.returned (.bool (!h (p+1) now))/\w'=w:=by
 have hf:=zCt w bt bp b off n cap B aao an ac lb m lcap s R p l ls h now hT hp hnow;have f1:=hF.f1;generalize h (p+1) now=y at *;clear hT hF
 cases y
 all_goals
  go_enter Tryz.func87,Tryz.ntmps87
  go_wp2_with (go_at_call 83;refine hf.mono ?_;rintro e w1 ⟨rfl,hw1⟩;obtain rfl:=hw1.symm)
  go_ret
  exact ⟨by first | rfl | simp,rfl⟩
theorem zPM (w:World) (bt bp b off n cap B:Nat) (aao:Option Addr) (an ac lb m lcap s R p:Nat) (l:List (Int × Int)) (ls:List (List Bool)) (h:Nat->Nat->Bool) (bf bs:Nat) (now:Nat) (x:Bool) (hT:TabIn w bt bp b off n cap B aao an ac lb m lcap s R p l ls h) (hF:FunIn w bt bp bf bs) (hp:p+1 < n) (hnow:now < m) :
  Calls Tryz.prog 91 #[.int .i64 (now:Int),.bool x,.pointer (some ⟨bf,0,none⟩)] w fun e w'=>e=.returned (.bool (h (p+1) now||x))/\w'=w:=by
 have hf:=zCt w bt bp b off n cap B aao an ac lb m lcap s R p l ls h now hT hp hnow;have f1:=hF.f1;generalize h (p+1) now=y at *;clear hT hF
 cases y
 all_goals
  go_enter Tryz.func91,Tryz.ntmps91
  go_wp2_with (go_at_call 83;refine hf.mono ?_;rintro e w1 ⟨rfl,hw1⟩;obtain rfl:=hw1.symm)
  go_ret
  exact ⟨by first | rfl | simp,rfl⟩
theorem zOs (w:World) (bt bp b off n cap B:Nat) (aao:Option Addr) (an ac lb m lcap s R p:Nat) (l:List (Int × Int)) (ls:List (List Bool)) (h:Nat->Nat->Bool) (bf bs:Nat) (now:Nat) (x:Bool) (hT:TabIn w bt bp b off n cap B aao an ac lb m lcap s R p l ls h) (hF:FunIn w bt bp bf bs) (hp:p+1 < n) (hnow:now < m) :
  Calls Tryz.prog 92 #[.int .i64 (now:Int),.bool x,.pointer (some ⟨bf,0,none⟩)] w fun e w'=>e=.returned (.bool (h (p+1) now&&x))/\w'=w:=by
 have hf:=zCt w bt bp b off n cap B aao an ac lb m lcap s R p l ls h now hT hp hnow;have f1:=hF.f1;generalize h (p+1) now=y at *;clear hT hF
 cases y
 all_goals
  go_enter Tryz.func92,Tryz.ntmps92
  go_wp2_with (go_at_call 83;refine hf.mono ?_;rintro e w1 ⟨rfl,hw1⟩;obtain rfl:=hw1.symm)
  go_ret
  exact ⟨by first | rfl | simp,rfl⟩
theorem zPX (w:World) (bt bp b off n cap B:Nat) (aao:Option Addr) (an ac lb m lcap s R p:Nat) (l:List (Int × Int)) (ls:List (List Bool)) (h:Nat->Nat->Bool) (bf bs:Nat) (now:Nat) (x:Bool) (hT:TabIn w bt bp b off n cap B aao an ac lb m lcap s R p l ls h) (hF:FunIn w bt bp bf bs) (hp:p+1 < n) (hs1:p < sec l p) (hs2:sec l p < n) (hnow:now < m) :
  Calls Tryz.prog 88 #[.int .i64 (now:Int),.bool x,.pointer (some ⟨bf,0,none⟩),.pointer (some ⟨bs,0,none⟩)] w fun e w'=>e=.returned (.bool (h (p+1) now&&h (sec l p) now))/\∃ q,w'=w.drewN q:=by
 have hf:=fun q=>zCt (w.drewN q) bt bp b off n cap B aao an ac lb m lcap s R p l ls h now (hT.below (below_drewN (Below.refl _ _) q)) hp hnow
 have hs:=fun q=>zEq (w.drewN q) bt bp b off n cap B aao an ac lb m lcap s R p l ls h now (hT.below (below_drewN (Below.refl _ _) q)) hp hs1 hs2 hnow
 have f1:=hF.f1;have f2:=hF.f2;generalize h (p+1) now=y at *;generalize h (sec l p) now=z at *;clear hT hF
 cases y <;> cases z
 all_goals
  go_enter Tryz.func88,Tryz.ntmps88
  go_wp2_with (first | (go_at_call 83;first | (refine (hf 0).mono ?_;rintro e w1 ⟨rfl,hw1⟩;obtain rfl:=hw1.symm) | (refine (hf _).mono ?_;rintro e w1 ⟨rfl,hw1⟩;obtain rfl:=hw1.symm)) | (go_at_call 84;first | (refine (hs 0).mono ?_;rintro e w1 ⟨rfl,q1,rfl⟩) | (refine (hs _).mono ?_;rintro e w1 ⟨rfl,q1,rfl⟩)))
  go_ret
  exact ⟨by first | rfl | simp,by first | exact ⟨0,rfl⟩ | exact ⟨_,rfl⟩ | exact ⟨_,World.drewN_drewN _ _ _⟩ | (exact ⟨_,by simp only [World.drewN_drewN];rfl⟩)⟩
theorem zPh (w:World) (bt bp b off n cap B:Nat) (aao:Option Addr) (an ac lb m lcap s R p:Nat) (l:List (Int × Int)) (ls:List (List Bool)) (h:Nat->Nat->Bool) (bf bs:Nat) (now:Nat) (x:Bool) (hT:TabIn w bt bp b off n cap B aao an ac lb m lcap s R p l ls h) (hF:FunIn w bt bp bf bs) (hp:p+1 < n) (hs1:p < sec l p) (hs2:sec l p < n) (hnow:now < m) :
  Calls Tryz.prog 89 #[.int .i64 (now:Int),.bool x,.pointer (some ⟨bf,0,none⟩),.pointer (some ⟨bs,0,none⟩)] w fun e w'=>e=.returned (.bool (h (p+1) now||h (sec l p) now))/\∃ q,w'=w.drewN q:=by
 have hf:=fun q=>zCt (w.drewN q) bt bp b off n cap B aao an ac lb m lcap s R p l ls h now (hT.below (below_drewN (Below.refl _ _) q)) hp hnow
 have hs:=fun q=>zEq (w.drewN q) bt bp b off n cap B aao an ac lb m lcap s R p l ls h now (hT.below (below_drewN (Below.refl _ _) q)) hp hs1 hs2 hnow
 have f1:=hF.f1;have f2:=hF.f2;generalize h (p+1) now=y at *;generalize h (sec l p) now=z at *;clear hT hF
 cases y <;> cases z
 all_goals
  go_enter Tryz.func89,Tryz.ntmps89
  go_wp2_with (first | (go_at_call 83;first | (refine (hf 0).mono ?_;rintro e w1 ⟨rfl,hw1⟩;obtain rfl:=hw1.symm) | (refine (hf _).mono ?_;rintro e w1 ⟨rfl,hw1⟩;obtain rfl:=hw1.symm)) | (go_at_call 84;first | (refine (hs 0).mono ?_;rintro e w1 ⟨rfl,q1,rfl⟩) | (refine (hs _).mono ?_;rintro e w1 ⟨rfl,q1,rfl⟩)))
  go_ret
  exact ⟨by first | rfl | simp,by first | exact ⟨0,rfl⟩ | exact ⟨_,rfl⟩ | exact ⟨_,World.drewN_drewN _ _ _⟩ | (exact ⟨_,by simp only [World.drewN_drewN];rfl⟩)⟩
theorem zO8 (w:World) (bt bp b off n cap B:Nat) (aao:Option Addr) (an ac lb m lcap s R p:Nat) (l:List (Int × Int)) (ls:List (List Bool)) (h:Nat->Nat->Bool) (bf bs:Nat) (now:Nat) (x:Bool) (hT:TabIn w bt bp b off n cap B aao an ac lb m lcap s R p l ls h) (hF:FunIn w bt bp bf bs) (hp:p+1 < n) (hs1:p < sec l p) (hs2:sec l p < n) (hnow:now < m) :
  Calls Tryz.prog 93 #[.int .i64 (now:Int),.bool x,.pointer (some ⟨bs,0,none⟩),.pointer (some ⟨bf,0,none⟩)] w fun e w'=>e=.returned (.bool (h (sec l p) now||(h (p+1) now&&x)))/\∃ q,w'=w.drewN q:=by
 have hf:=fun q=>zCt (w.drewN q) bt bp b off n cap B aao an ac lb m lcap s R p l ls h now (hT.below (below_drewN (Below.refl _ _) q)) hp hnow
 have hs:=fun q=>zEq (w.drewN q) bt bp b off n cap B aao an ac lb m lcap s R p l ls h now (hT.below (below_drewN (Below.refl _ _) q)) hp hs1 hs2 hnow
 have f1:=hF.f1;have f2:=hF.f2;generalize h (p+1) now=y at *;generalize h (sec l p) now=z at *;clear hT hF
 cases y <;> cases z
 all_goals
  go_enter Tryz.func93,Tryz.ntmps93
  go_wp2_with (first | (go_at_call 83;first | (refine (hf 0).mono ?_;rintro e w1 ⟨rfl,hw1⟩;obtain rfl:=hw1.symm) | (refine (hf _).mono ?_;rintro e w1 ⟨rfl,hw1⟩;obtain rfl:=hw1.symm)) | (go_at_call 84;first | (refine (hs 0).mono ?_;rintro e w1 ⟨rfl,q1,rfl⟩) | (refine (hs _).mono ?_;rintro e w1 ⟨rfl,q1,rfl⟩)))
  go_ret
  exact ⟨by first | rfl | simp,by first | exact ⟨0,rfl⟩ | exact ⟨_,rfl⟩ | exact ⟨_,World.drewN_drewN _ _ _⟩ | (exact ⟨_,by simp only [World.drewN_drewN];rfl⟩)⟩
theorem zOi (w:World) (bt bp b off n cap B:Nat) (aao:Option Addr) (an ac lb m lcap s R p:Nat) (l:List (Int × Int)) (ls:List (List Bool)) (h:Nat->Nat->Bool) (bf bs:Nat) (now:Nat) (x:Bool) (hT:TabIn w bt bp b off n cap B aao an ac lb m lcap s R p l ls h) (hF:FunIn w bt bp bf bs) (hp:p+1 < n) (hs1:p < sec l p) (hs2:sec l p < n) (hnow:now < m) :
  Calls Tryz.prog 94 #[.int .i64 (now:Int),.bool x,.pointer (some ⟨bs,0,none⟩),.pointer (some ⟨bf,0,none⟩)] w fun e w'=>e=.returned (.bool (h (sec l p) now&&(h (p+1) now||x)))/\∃ q,w'=w.drewN q:=by
 have hf:=fun q=>zCt (w.drewN q) bt bp b off n cap B aao an ac lb m lcap s R p l ls h now (hT.below (below_drewN (Below.refl _ _) q)) hp hnow
 have hs:=fun q=>zEq (w.drewN q) bt bp b off n cap B aao an ac lb m lcap s R p l ls h now (hT.below (below_drewN (Below.refl _ _) q)) hp hs1 hs2 hnow
 have f1:=hF.f1;have f2:=hF.f2;generalize h (p+1) now=y at *;generalize h (sec l p) now=z at *;clear hT hF
 cases y <;> cases z
 all_goals
  go_enter Tryz.func94,Tryz.ntmps94
  go_wp2_with (first | (go_at_call 83;first | (refine (hf 0).mono ?_;rintro e w1 ⟨rfl,hw1⟩;obtain rfl:=hw1.symm) | (refine (hf _).mono ?_;rintro e w1 ⟨rfl,hw1⟩;obtain rfl:=hw1.symm)) | (go_at_call 84;first | (refine (hs 0).mono ?_;rintro e w1 ⟨rfl,q1,rfl⟩) | (refine (hs _).mono ?_;rintro e w1 ⟨rfl,q1,rfl⟩)))
  go_ret
  exact ⟨by first | rfl | simp,by first | exact ⟨0,rfl⟩ | exact ⟨_,rfl⟩ | exact ⟨_,World.drewN_drewN _ _ _⟩ | (exact ⟨_,by simp only [World.drewN_drewN];rfl⟩)⟩
theorem zPk (w:World) (bt bp b off n cap B:Nat) (aao:Option Addr) (an ac lb m lcap s R p:Nat) (l:List (Int × Int)) (ls:List (List Bool)) (h:Nat->Nat->Bool) (bf bs:Nat) (now:Nat) (x:Bool) (hT:TabIn w bt bp b off n cap B aao an ac lb m lcap s R p l ls h) (hF:FunIn w bt bp bf bs) (hp:p+1 < n) (hnow:now < m) :
  Calls Tryz.prog 90 #[.int .i64 (now:Int),.bool x,.pointer (some ⟨bf,0,none⟩),.pointer (some ⟨bt,0,none⟩)] w fun e w'=>e=.returned (.bool (h (p+1) (if now=m - 1 then s else now+1)))/\Below w.heap.size w w':=by
 have haf:=fun w1=>zHX b off n cap B aao an ac lb m lcap s R now w1 hT.hm24 hnow
 have hlt:(if now=m - 1 then s else now+1) < m:=by have:=hT.hs;split <;> omega
 generalize (if now=m - 1 then s else now+1)=nx at *
 have HF:Hid (∀ w1,Below w.heap.size w w1->Calls Tryz.prog 83 #[.int .i64 (nx:Int),.pointer (some ⟨bt,0,none⟩),.pointer (some ⟨bp,0,none⟩)] w1 fun e w'=>e=.returned (.bool (h (p+1) nx))/\w'=w1):=fun w1 hb=>zCt w1 bt bp b off n cap B aao an ac lb m lcap s R p l ls h nx (hT.below hb) hp hlt
 have HS:Hid (∀ w1,Below w.heap.size w w1->w1.cell? ⟨bf,0,none⟩=some (.func (.func 83) #[] #[.pointer (some ⟨bt,0,none⟩),.pointer (some ⟨bp,0,none⟩)])/\w1.cell? ⟨bt,0,none⟩=some (.slice (some ⟨b,off,none⟩) n cap)/\w1.cell? ⟨bt,1,none⟩=some (.slice (some ⟨B,0,none⟩) n n)/\w1.cell? ⟨bt,2,none⟩=some (.slice aao an ac)/\w1.cell? ⟨bt,3,none⟩=some (.slice (some ⟨lb,0,none⟩) m lcap)/\w1.cell? ⟨bt,4,none⟩=some (.int .i64 (s:Int))/\w1.cell? ⟨bt,5,none⟩=some (.slice (some ⟨R,0,none⟩) n n)/\Below w.heap.size w w1):=fun w1 hb=>by
  have t:=hT.below hb;exact ⟨(hF.below hb).f1,t.c0,t.c1,t.c2,t.c3,t.c4,t.c5,hb⟩
 have hS:=HS.out;have hB0:Below w.heap.size w w:=Below.refl _ _;generalize h (p+1) nx=y at *;clear hT hF
 go_enter Tryz.func90,Tryz.ntmps90
 go_wp2_with fail
 go_region_held3 (fun w'=>w'.cell? ⟨bf,0,none⟩=some (.func (.func 83) #[] #[.pointer (some ⟨bt,0,none⟩),.pointer (some ⟨bp,0,none⟩)])/\w'.cell? ⟨bt,0,none⟩=some (.slice (some ⟨b,off,none⟩) n cap)/\w'.cell? ⟨bt,1,none⟩=some (.slice (some ⟨B,0,none⟩) n n)/\w'.cell? ⟨bt,2,none⟩=some (.slice aao an ac)/\w'.cell? ⟨bt,3,none⟩=some (.slice (some ⟨lb,0,none⟩) m lcap)/\w'.cell? ⟨bt,4,none⟩=some (.int .i64 (s:Int))/\w'.cell? ⟨bt,5,none⟩=some (.slice (some ⟨R,0,none⟩) n n)/\Below w.heap.size w w')
  (exact hS _ (by first | exact hB0 | exact hB0.drew | exact hb4))
  (first | (go_at_call 82;refine (haf _).mono ?_;rintro e w4 ⟨rfl,hb4'⟩;have hb4:=hB0.drew.trans (hb4'.mono hB0.drew.size)) | (go_at_call 83;refine (HF.out _ hb4).mono ?_;rintro e w5 ⟨rfl,hw5⟩;obtain rfl:=hw5.symm))
 go_wp2_with fail
 go_ret
 exact ⟨rfl,hb4⟩
theorem zPJ (w:World) (now:Nat) (x:Bool):Calls Tryz.prog 86 #[.int .i64 (now:Int),.bool x] w fun e w'=>e=.returned (.bool true)/\w'=w:=by
 go_enter Tryz.func86,Tryz.ntmps86
 go_wp2_with fail
 go_ret
 exact ⟨rfl,rfl⟩
theorem zOS (w:World) (now:Nat) (x:Bool):Calls Tryz.prog 95 #[.int .i64 (now:Int),.bool x] w fun e w'=>e=.returned (.bool false)/\w'=w:=by
 go_enter Tryz.func95,Tryz.ntmps95
 go_wp2_with fail
 go_ret
 exact ⟨rfl,rfl⟩
theorem zOZ (b off n cap B:Nat) (aao:Option Addr) (an ac lb m lcap s R p:Nat) (v:Int) (w:World) (hp:p < n) (c0:w.cell? ⟨b,off+p*2,none⟩=some (.int .i64 13)) (c1:w.cell? ⟨b,off+p*2+1,none⟩=some (.int .i64 v)) :
  Calls Tryz.prog 55 #[.agg #[.slice (some ⟨b,off,none⟩) n cap,.slice (some ⟨B,0,none⟩) n n,.slice aao an ac,.slice (some ⟨lb,0,none⟩) m lcap,.int .i64 (s:Int),.slice (some ⟨R,0,none⟩) n n],.int .i64 (p:Int)] w fun e w'=>e=.returned (.func (.func 85) #[] #[.pointer (some ⟨w.heap.size,0,none⟩),.pointer (some ⟨w.heap.size+1+1,0,none⟩)])/\w'=(((((w.alloc (.cells #[.slice (some ⟨b,off,none⟩) n cap,.slice (some ⟨B,0,none⟩) n n,.slice aao an ac,.slice (some ⟨lb,0,none⟩) m lcap,.int .i64 (s:Int),.slice (some ⟨R,0,none⟩) n n] 91)).alloc (.cells #[.int .i64 (p:Int)] 3)).alloc (.cells #[.int .i64 13,.int .i64 v] 106)).alloc (.cells #[.func (.func 83) #[] #[.pointer (some ⟨w.heap.size,0,none⟩),.pointer (some ⟨w.heap.size+1,0,none⟩)]] 164)).alloc (.cells #[.func (.func 84) #[] #[.pointer (some ⟨w.heap.size,0,none⟩),.pointer (some ⟨w.heap.size+1,0,none⟩)]] 164)):=by
 have hb:=World.block_lt_of_cell? w ⟨b,off+p*2,none⟩ c0
 go_enter Tryz.func55,Tryz.ntmps55
 go_wp2_with fail
 go_ret
 exact ⟨rfl,rfl⟩
theorem zOx (b off n cap B:Nat) (aao:Option Addr) (an ac lb m lcap s R p:Nat) (v:Int) (w:World) (hp:p < n) (c0:w.cell? ⟨b,off+p*2,none⟩=some (.int .i64 11)) (c1:w.cell? ⟨b,off+p*2+1,none⟩=some (.int .i64 v)) :
  Calls Tryz.prog 55 #[.agg #[.slice (some ⟨b,off,none⟩) n cap,.slice (some ⟨B,0,none⟩) n n,.slice aao an ac,.slice (some ⟨lb,0,none⟩) m lcap,.int .i64 (s:Int),.slice (some ⟨R,0,none⟩) n n],.int .i64 (p:Int)] w fun e w'=>e=.returned (.func (.func 86) #[] #[])/\w'=(((((w.alloc (.cells #[.slice (some ⟨b,off,none⟩) n cap,.slice (some ⟨B,0,none⟩) n n,.slice aao an ac,.slice (some ⟨lb,0,none⟩) m lcap,.int .i64 (s:Int),.slice (some ⟨R,0,none⟩) n n] 91)).alloc (.cells #[.int .i64 (p:Int)] 3)).alloc (.cells #[.int .i64 11,.int .i64 v] 106)).alloc (.cells #[.func (.func 83) #[] #[.pointer (some ⟨w.heap.size,0,none⟩),.pointer (some ⟨w.heap.size+1,0,none⟩)]] 164)).alloc (.cells #[.func (.func 84) #[] #[.pointer (some ⟨w.heap.size,0,none⟩),.pointer (some ⟨w.heap.size+1,0,none⟩)]] 164)):=by
 have hb:=World.block_lt_of_cell? w ⟨b,off+p*2,none⟩ c0
 go_enter Tryz.func55,Tryz.ntmps55
 go_wp2_with fail
 go_ret
 exact ⟨rfl,rfl⟩
theorem zO9 (b off n cap B:Nat) (aao:Option Addr) (an ac lb m lcap s R p:Nat) (v:Int) (w:World) (hp:p < n) (c0:w.cell? ⟨b,off+p*2,none⟩=some (.int .i64 10)) (c1:w.cell? ⟨b,off+p*2+1,none⟩=some (.int .i64 v)) :
  Calls Tryz.prog 55 #[.agg #[.slice (some ⟨b,off,none⟩) n cap,.slice (some ⟨B,0,none⟩) n n,.slice aao an ac,.slice (some ⟨lb,0,none⟩) m lcap,.int .i64 (s:Int),.slice (some ⟨R,0,none⟩) n n],.int .i64 (p:Int)] w fun e w'=>e=.returned (.func (.func 87) #[] #[.pointer (some ⟨w.heap.size+1+1+1,0,none⟩)])/\w'=(((((w.alloc (.cells #[.slice (some ⟨b,off,none⟩) n cap,.slice (some ⟨B,0,none⟩) n n,.slice aao an ac,.slice (some ⟨lb,0,none⟩) m lcap,.int .i64 (s:Int),.slice (some ⟨R,0,none⟩) n n] 91)).alloc (.cells #[.int .i64 (p:Int)] 3)).alloc (.cells #[.int .i64 10,.int .i64 v] 106)).alloc (.cells #[.func (.func 83) #[] #[.pointer (some ⟨w.heap.size,0,none⟩),.pointer (some ⟨w.heap.size+1,0,none⟩)]] 164)).alloc (.cells #[.func (.func 84) #[] #[.pointer (some ⟨w.heap.size,0,none⟩),.pointer (some ⟨w.heap.size+1,0,none⟩)]] 164)):=by
 have hb:=World.block_lt_of_cell? w ⟨b,off+p*2,none⟩ c0
 go_enter Tryz.func55,Tryz.ntmps55
 go_wp2_with fail
 go_ret
 exact ⟨rfl,rfl⟩
theorem zPf (b off n cap B:Nat) (aao:Option Addr) (an ac lb m lcap s R p:Nat) (v:Int) (w:World) (hp:p < n) (c0:w.cell? ⟨b,off+p*2,none⟩=some (.int .i64 8)) (c1:w.cell? ⟨b,off+p*2+1,none⟩=some (.int .i64 v)) :
  Calls Tryz.prog 55 #[.agg #[.slice (some ⟨b,off,none⟩) n cap,.slice (some ⟨B,0,none⟩) n n,.slice aao an ac,.slice (some ⟨lb,0,none⟩) m lcap,.int .i64 (s:Int),.slice (some ⟨R,0,none⟩) n n],.int .i64 (p:Int)] w fun e w'=>e=.returned (.func (.func 88) #[] #[.pointer (some ⟨w.heap.size+1+1+1,0,none⟩),.pointer (some ⟨w.heap.size+1+1+1+1,0,none⟩)])/\w'=(((((w.alloc (.cells #[.slice (some ⟨b,off,none⟩) n cap,.slice (some ⟨B,0,none⟩) n n,.slice aao an ac,.slice (some ⟨lb,0,none⟩) m lcap,.int .i64 (s:Int),.slice (some ⟨R,0,none⟩) n n] 91)).alloc (.cells #[.int .i64 (p:Int)] 3)).alloc (.cells #[.int .i64 8,.int .i64 v] 106)).alloc (.cells #[.func (.func 83) #[] #[.pointer (some ⟨w.heap.size,0,none⟩),.pointer (some ⟨w.heap.size+1,0,none⟩)]] 164)).alloc (.cells #[.func (.func 84) #[] #[.pointer (some ⟨w.heap.size,0,none⟩),.pointer (some ⟨w.heap.size+1,0,none⟩)]] 164)):=by
 have hb:=World.block_lt_of_cell? w ⟨b,off+p*2,none⟩ c0
 go_enter Tryz.func55,Tryz.ntmps55
 go_wp2_with fail
 go_ret
 exact ⟨rfl,rfl⟩
theorem zPa (b off n cap B:Nat) (aao:Option Addr) (an ac lb m lcap s R p:Nat) (v:Int) (w:World) (hp:p < n) (c0:w.cell? ⟨b,off+p*2,none⟩=some (.int .i64 9)) (c1:w.cell? ⟨b,off+p*2+1,none⟩=some (.int .i64 v)) :
  Calls Tryz.prog 55 #[.agg #[.slice (some ⟨b,off,none⟩) n cap,.slice (some ⟨B,0,none⟩) n n,.slice aao an ac,.slice (some ⟨lb,0,none⟩) m lcap,.int .i64 (s:Int),.slice (some ⟨R,0,none⟩) n n],.int .i64 (p:Int)] w fun e w'=>e=.returned (.func (.func 89) #[] #[.pointer (some ⟨w.heap.size+1+1+1,0,none⟩),.pointer (some ⟨w.heap.size+1+1+1+1,0,none⟩)])/\w'=(((((w.alloc (.cells #[.slice (some ⟨b,off,none⟩) n cap,.slice (some ⟨B,0,none⟩) n n,.slice aao an ac,.slice (some ⟨lb,0,none⟩) m lcap,.int .i64 (s:Int),.slice (some ⟨R,0,none⟩) n n] 91)).alloc (.cells #[.int .i64 (p:Int)] 3)).alloc (.cells #[.int .i64 9,.int .i64 v] 106)).alloc (.cells #[.func (.func 83) #[] #[.pointer (some ⟨w.heap.size,0,none⟩),.pointer (some ⟨w.heap.size+1,0,none⟩)]] 164)).alloc (.cells #[.func (.func 84) #[] #[.pointer (some ⟨w.heap.size,0,none⟩),.pointer (some ⟨w.heap.size+1,0,none⟩)]] 164)):=by
 have hb:=World.block_lt_of_cell? w ⟨b,off+p*2,none⟩ c0
 go_enter Tryz.func55,Tryz.ntmps55
 go_wp2_with fail
 go_ret
 exact ⟨rfl,rfl⟩
theorem zOK (b off n cap B:Nat) (aao:Option Addr) (an ac lb m lcap s R p:Nat) (v:Int) (w:World) (hp:p < n) (c0:w.cell? ⟨b,off+p*2,none⟩=some (.int .i64 14)) (c1:w.cell? ⟨b,off+p*2+1,none⟩=some (.int .i64 v)) :
  Calls Tryz.prog 55 #[.agg #[.slice (some ⟨b,off,none⟩) n cap,.slice (some ⟨B,0,none⟩) n n,.slice aao an ac,.slice (some ⟨lb,0,none⟩) m lcap,.int .i64 (s:Int),.slice (some ⟨R,0,none⟩) n n],.int .i64 (p:Int)] w fun e w'=>e=.returned (.func (.func 90) #[] #[.pointer (some ⟨w.heap.size+1+1+1,0,none⟩),.pointer (some ⟨w.heap.size,0,none⟩)])/\w'=(((((w.alloc (.cells #[.slice (some ⟨b,off,none⟩) n cap,.slice (some ⟨B,0,none⟩) n n,.slice aao an ac,.slice (some ⟨lb,0,none⟩) m lcap,.int .i64 (s:Int),.slice (some ⟨R,0,none⟩) n n] 91)).alloc (.cells #[.int .i64 (p:Int)] 3)).alloc (.cells #[.int .i64 14,.int .i64 v] 106)).alloc (.cells #[.func (.func 83) #[] #[.pointer (some ⟨w.heap.size,0,none⟩),.pointer (some ⟨w.heap.size+1,0,none⟩)]] 164)).alloc (.cells #[.func (.func 84) #[] #[.pointer (some ⟨w.heap.size,0,none⟩),.pointer (some ⟨w.heap.size+1,0,none⟩)]] 164)):=by
 have hb:=World.block_lt_of_cell? w ⟨b,off+p*2,none⟩ c0
 go_enter Tryz.func55,Tryz.ntmps55
 go_wp2_with fail
 go_ret
 exact ⟨rfl,rfl⟩
theorem zOU (b off n cap B:Nat) (aao:Option Addr) (an ac lb m lcap s R p:Nat) (v:Int) (w:World) (hp:p < n) (c0:w.cell? ⟨b,off+p*2,none⟩=some (.int .i64 17)) (c1:w.cell? ⟨b,off+p*2+1,none⟩=some (.int .i64 v)) :
  Calls Tryz.prog 55 #[.agg #[.slice (some ⟨b,off,none⟩) n cap,.slice (some ⟨B,0,none⟩) n n,.slice aao an ac,.slice (some ⟨lb,0,none⟩) m lcap,.int .i64 (s:Int),.slice (some ⟨R,0,none⟩) n n],.int .i64 (p:Int)] w fun e w'=>e=.returned (.func (.func 91) #[] #[.pointer (some ⟨w.heap.size+1+1+1,0,none⟩)])/\w'=(((((w.alloc (.cells #[.slice (some ⟨b,off,none⟩) n cap,.slice (some ⟨B,0,none⟩) n n,.slice aao an ac,.slice (some ⟨lb,0,none⟩) m lcap,.int .i64 (s:Int),.slice (some ⟨R,0,none⟩) n n] 91)).alloc (.cells #[.int .i64 (p:Int)] 3)).alloc (.cells #[.int .i64 17,.int .i64 v] 106)).alloc (.cells #[.func (.func 83) #[] #[.pointer (some ⟨w.heap.size,0,none⟩),.pointer (some ⟨w.heap.size+1,0,none⟩)]] 164)).alloc (.cells #[.func (.func 84) #[] #[.pointer (some ⟨w.heap.size,0,none⟩),.pointer (some ⟨w.heap.size+1,0,none⟩)]] 164)):=by
 have hb:=World.block_lt_of_cell? w ⟨b,off+p*2,none⟩ c0
 go_enter Tryz.func55,Tryz.ntmps55
 go_wp2_with fail
 go_ret
 exact ⟨rfl,rfl⟩
theorem zOJ (b off n cap B:Nat) (aao:Option Addr) (an ac lb m lcap s R p:Nat) (v:Int) (w:World) (hp:p < n) (c0:w.cell? ⟨b,off+p*2,none⟩=some (.int .i64 18)) (c1:w.cell? ⟨b,off+p*2+1,none⟩=some (.int .i64 v)) :
  Calls Tryz.prog 55 #[.agg #[.slice (some ⟨b,off,none⟩) n cap,.slice (some ⟨B,0,none⟩) n n,.slice aao an ac,.slice (some ⟨lb,0,none⟩) m lcap,.int .i64 (s:Int),.slice (some ⟨R,0,none⟩) n n],.int .i64 (p:Int)] w fun e w'=>e=.returned (.func (.func 92) #[] #[.pointer (some ⟨w.heap.size+1+1+1,0,none⟩)])/\w'=(((((w.alloc (.cells #[.slice (some ⟨b,off,none⟩) n cap,.slice (some ⟨B,0,none⟩) n n,.slice aao an ac,.slice (some ⟨lb,0,none⟩) m lcap,.int .i64 (s:Int),.slice (some ⟨R,0,none⟩) n n] 91)).alloc (.cells #[.int .i64 (p:Int)] 3)).alloc (.cells #[.int .i64 18,.int .i64 v] 106)).alloc (.cells #[.func (.func 83) #[] #[.pointer (some ⟨w.heap.size,0,none⟩),.pointer (some ⟨w.heap.size+1,0,none⟩)]] 164)).alloc (.cells #[.func (.func 84) #[] #[.pointer (some ⟨w.heap.size,0,none⟩),.pointer (some ⟨w.heap.size+1,0,none⟩)]] 164)):=by
 have hb:=World.block_lt_of_cell? w ⟨b,off+p*2,none⟩ c0
 go_enter Tryz.func55,Tryz.ntmps55
 go_wp2_with fail
 go_ret
 exact ⟨rfl,rfl⟩
theorem zOP (b off n cap B:Nat) (aao:Option Addr) (an ac lb m lcap s R p:Nat) (v:Int) (w:World) (hp:p < n) (c0:w.cell? ⟨b,off+p*2,none⟩=some (.int .i64 15)) (c1:w.cell? ⟨b,off+p*2+1,none⟩=some (.int .i64 v)) :
  Calls Tryz.prog 55 #[.agg #[.slice (some ⟨b,off,none⟩) n cap,.slice (some ⟨B,0,none⟩) n n,.slice aao an ac,.slice (some ⟨lb,0,none⟩) m lcap,.int .i64 (s:Int),.slice (some ⟨R,0,none⟩) n n],.int .i64 (p:Int)] w fun e w'=>e=.returned (.func (.func 93) #[] #[.pointer (some ⟨w.heap.size+1+1+1+1,0,none⟩),.pointer (some ⟨w.heap.size+1+1+1,0,none⟩)])/\w'=(((((w.alloc (.cells #[.slice (some ⟨b,off,none⟩) n cap,.slice (some ⟨B,0,none⟩) n n,.slice aao an ac,.slice (some ⟨lb,0,none⟩) m lcap,.int .i64 (s:Int),.slice (some ⟨R,0,none⟩) n n] 91)).alloc (.cells #[.int .i64 (p:Int)] 3)).alloc (.cells #[.int .i64 15,.int .i64 v] 106)).alloc (.cells #[.func (.func 83) #[] #[.pointer (some ⟨w.heap.size,0,none⟩),.pointer (some ⟨w.heap.size+1,0,none⟩)]] 164)).alloc (.cells #[.func (.func 84) #[] #[.pointer (some ⟨w.heap.size,0,none⟩),.pointer (some ⟨w.heap.size+1,0,none⟩)]] 164)):=by
 have hb:=World.block_lt_of_cell? w ⟨b,off+p*2,none⟩ c0
 go_enter Tryz.func55,Tryz.ntmps55
 go_wp2_with fail
 go_ret
 exact ⟨rfl,rfl⟩
theorem zO0 (b off n cap B:Nat) (aao:Option Addr) (an ac lb m lcap s R p:Nat) (v:Int) (w:World) (hp:p < n) (c0:w.cell? ⟨b,off+p*2,none⟩=some (.int .i64 16)) (c1:w.cell? ⟨b,off+p*2+1,none⟩=some (.int .i64 v)) :
  Calls Tryz.prog 55 #[.agg #[.slice (some ⟨b,off,none⟩) n cap,.slice (some ⟨B,0,none⟩) n n,.slice aao an ac,.slice (some ⟨lb,0,none⟩) m lcap,.int .i64 (s:Int),.slice (some ⟨R,0,none⟩) n n],.int .i64 (p:Int)] w fun e w'=>e=.returned (.func (.func 94) #[] #[.pointer (some ⟨w.heap.size+1+1+1+1,0,none⟩),.pointer (some ⟨w.heap.size+1+1+1,0,none⟩)])/\w'=(((((w.alloc (.cells #[.slice (some ⟨b,off,none⟩) n cap,.slice (some ⟨B,0,none⟩) n n,.slice aao an ac,.slice (some ⟨lb,0,none⟩) m lcap,.int .i64 (s:Int),.slice (some ⟨R,0,none⟩) n n] 91)).alloc (.cells #[.int .i64 (p:Int)] 3)).alloc (.cells #[.int .i64 16,.int .i64 v] 106)).alloc (.cells #[.func (.func 83) #[] #[.pointer (some ⟨w.heap.size,0,none⟩),.pointer (some ⟨w.heap.size+1,0,none⟩)]] 164)).alloc (.cells #[.func (.func 84) #[] #[.pointer (some ⟨w.heap.size,0,none⟩),.pointer (some ⟨w.heap.size+1,0,none⟩)]] 164)):=by
 have hb:=World.block_lt_of_cell? w ⟨b,off+p*2,none⟩ c0
 go_enter Tryz.func55,Tryz.ntmps55
 go_wp2_with fail
 go_ret
 exact ⟨rfl,rfl⟩
theorem zOc (b off n cap B:Nat) (aao:Option Addr) (an ac lb m lcap s R p:Nat) (v:Int) (w:World) (hp:p < n) (c0:w.cell? ⟨b,off+p*2,none⟩=some (.int .i64 12)) (c1:w.cell? ⟨b,off+p*2+1,none⟩=some (.int .i64 v)) :
  Calls Tryz.prog 55 #[.agg #[.slice (some ⟨b,off,none⟩) n cap,.slice (some ⟨B,0,none⟩) n n,.slice aao an ac,.slice (some ⟨lb,0,none⟩) m lcap,.int .i64 (s:Int),.slice (some ⟨R,0,none⟩) n n],.int .i64 (p:Int)] w fun e w'=>e=.returned (.func (.func 95) #[] #[])/\w'=(((((w.alloc (.cells #[.slice (some ⟨b,off,none⟩) n cap,.slice (some ⟨B,0,none⟩) n n,.slice aao an ac,.slice (some ⟨lb,0,none⟩) m lcap,.int .i64 (s:Int),.slice (some ⟨R,0,none⟩) n n] 91)).alloc (.cells #[.int .i64 (p:Int)] 3)).alloc (.cells #[.int .i64 12,.int .i64 v] 106)).alloc (.cells #[.func (.func 83) #[] #[.pointer (some ⟨w.heap.size,0,none⟩),.pointer (some ⟨w.heap.size+1,0,none⟩)]] 164)).alloc (.cells #[.func (.func 84) #[] #[.pointer (some ⟨w.heap.size,0,none⟩),.pointer (some ⟨w.heap.size+1,0,none⟩)]] 164)):=by
 have hb:=World.block_lt_of_cell? w ⟨b,off+p*2,none⟩ c0
 go_enter Tryz.func55,Tryz.ntmps55
 go_wp2_with fail
 go_ret
 exact ⟨rfl,rfl⟩
structure TabAll (w:World) (b off n cap B:Nat) (aao:Option Addr) (an ac lb m lcap s R p:Nat) (l:List (Int × Int)) (ls:List (List Bool)) (h:Nat->Nat->Bool):Prop where
 ends : ∀ j, j < n -> w.cell? ⟨B, j, none⟩ = some (.int .i64 (zAa (l.map Prod.fst) j : Int))
 lets:zAN w (.slice (some ⟨lb,0,none⟩) m lcap) ls
 rows:∀ q,p < q->q < n->∃ rb ro rc,w.cell? ⟨R,q,none⟩=some (.slice (some ⟨rb,ro,none⟩) m rc)/\rb < w.heap.size/\∀ j,j < m->w.cell? ⟨rb,ro+j,none⟩=some (.bool (h q j))
 hB:B < w.heap.size
 hR:R < w.heap.size
 hm:ls.length=m
 hn:n <= 60
 hm24:m <= 24
 hs:s < m
theorem zJl (b off n cap B:Nat) (aao:Option Addr) (an ac lb m lcap s R p:Nat) (k v:Int) (w:World):Below w.heap.size w (((((w.alloc (.cells #[.slice (some ⟨b,off,none⟩) n cap,.slice (some ⟨B,0,none⟩) n n,.slice aao an ac,.slice (some ⟨lb,0,none⟩) m lcap,.int .i64 (s:Int),.slice (some ⟨R,0,none⟩) n n] 91)).alloc (.cells #[.int .i64 (p:Int)] 3)).alloc (.cells #[.int .i64 k,.int .i64 v] 106)).alloc (.cells #[.func (.func 83) #[] #[.pointer (some ⟨w.heap.size,0,none⟩),.pointer (some ⟨w.heap.size+1,0,none⟩)]] 164)).alloc (.cells #[.func (.func 84) #[] #[.pointer (some ⟨w.heap.size,0,none⟩),.pointer (some ⟨w.heap.size+1,0,none⟩)]] 164)):=
 (((((Below.refl _ _).alloc (Nat.le_refl _) _).alloc (by simp) _).alloc (by simp;omega) _).alloc (by simp;omega) _).alloc (by simp;omega) _
theorem zBr (b off n cap B:Nat) (aao:Option Addr) (an ac lb m lcap s R p:Nat) (l:List (Int × Int)) (ls:List (List Bool)) (h:Nat->Nat->Bool) (k v:Int) (w:World) (hT:TabAll w b off n cap B aao an ac lb m lcap s R p l ls h) (W:World) (hW:W=(((((w.alloc (.cells #[.slice (some ⟨b,off,none⟩) n cap,.slice (some ⟨B,0,none⟩) n n,.slice aao an ac,.slice (some ⟨lb,0,none⟩) m lcap,.int .i64 (s:Int),.slice (some ⟨R,0,none⟩) n n] 91)).alloc (.cells #[.int .i64 (p:Int)] 3)).alloc (.cells #[.int .i64 k,.int .i64 v] 106)).alloc (.cells #[.func (.func 83) #[] #[.pointer (some ⟨w.heap.size,0,none⟩),.pointer (some ⟨w.heap.size+1,0,none⟩)]] 164)).alloc (.cells #[.func (.func 84) #[] #[.pointer (some ⟨w.heap.size,0,none⟩),.pointer (some ⟨w.heap.size+1,0,none⟩)]] 164))) :
  TabIn W w.heap.size (w.heap.size+1) b off n cap B aao an ac lb m lcap s R p l ls h/\FunIn W w.heap.size (w.heap.size+1) (w.heap.size+1+1+1) (w.heap.size+1+1+1+1)/\W.cell? ⟨w.heap.size+1+1,1,none⟩=some (.int .i64 v)/\Below w.heap.size w W:=by
 have hb:Below w.heap.size w W:=by rw [hW];exact zJl b off n cap B aao an ac lb m lcap s R p k v w
 have hz:W.heap.size=w.heap.size+1+1+1+1+1:=by rw [hW];simp
 refine ⟨⟨?_,?_,?_,?_,?_,?_,?_,fun j hj=>(hb.cell (p:=⟨B,j,none⟩) hT.hB).trans (hT.ends j hj),hT.lets.below hb,fun q h1 h2=>?_,by omega,by omega,by have:=hT.hB;omega,by have:=hT.hR;omega,hT.hm,hT.hn,hT.hm24,hT.hs⟩,⟨?_,?_,by omega,by omega⟩,?_,hb⟩
 ·rw [hW];simp [go_sem]
 ·rw [hW];simp [go_sem]
 ·rw [hW];simp [go_sem]
 ·rw [hW];simp [go_sem]
 ·rw [hW];simp [go_sem]
 ·rw [hW];simp [go_sem]
 ·rw [hW];simp [go_sem]
 ·obtain ⟨rb,ro,rc,e1,e2,e3⟩:=hT.rows q h1 h2
  exact ⟨rb,ro,rc,(hb.cell (p:=⟨R,q,none⟩) hT.hR).trans e1,by omega,fun j hj=>(hb.cell (p:=⟨rb,ro+j,none⟩) e2).trans (e3 j hj)⟩
 ·rw [hW];simp [go_sem]
 ·rw [hW];simp [go_sem]
 ·rw [hW];simp [go_sem]
def zHN (w:World) (m:Nat) (u v:Nat->Bool) (e:Ending) (w':World):Prop:=∃ f caps,e=.returned (.func (.func f) #[] caps)/\Below w.heap.size w w'/\zKq w' (.func (.func f) #[] caps) m u v
theorem zPA (b off n cap B:Nat) (aao:Option Addr) (an ac lb m lcap s R p:Nat) (l:List (Int × Int)) (ls:List (List Bool)) (t:Tm) (props:Int) (w:World) (hw:t.Wf) (hl:t.ops=l) (hln:l.length=n) (hat:zAu w b off l) (hp:p < n) (hpr:∀ q,q < n->zAT props (l.getD q (0,0))=0) (hls:∀ i,i < ls.length->((ls.getD i []).length:Int)=props)
  (hT:TabAll w b off n cap B aao an ac lb m lcap s R p l ls (fun q=>(t.sub q).hb (sig ls s))) :
  Calls Tryz.prog 55 #[.agg #[.slice (some ⟨b,off,none⟩) n cap,.slice (some ⟨B,0,none⟩) n n,.slice aao an ac,.slice (some ⟨lb,0,none⟩) m lcap,.int .i64 (s:Int),.slice (some ⟨R,0,none⟩) n n],.int .i64 (p:Int)] w (zHN w m ((t.sub p).uT (sig ls s)) ((t.sub p).vT (sig ls s))):=by
 have hsz:t.size=n:=by rw [<- t.ops_length,hl,hln]
 have hpt:p < t.size:=by omega
 have hop:=t.op_at hpt (0,0);rw [hl] at hop;obtain ⟨c0,c1⟩:=hat p (by omega)
 have he:=hpr p hp;rw [hop] at c0 c1 he;simp only at c0 c1
 have hsw:=Tm.sub_wf hw p;have hki:=fun i (hi:i < (t.sub p).kids.length)=>Tm.kid_in hw hpt hi
 have hss:s < ls.length:=by rw [hT.hm];exact hT.hs
 have hmo:∀ (x:Tm) now,now < m->x.hb (sig ls s) (if now=m - 1 then s else now+1)=x.hb (sig ls s) (now+1):=fun x now hnow=>by
  by_cases hl1:now=m - 1
  ·rw [if_pos hl1,<- zFk hss x (now+1),hT.hm,zE3 hT.hs (by omega),show now+1 - (m - s)=s by have:=hT.hs;omega,zCV hT.hs]
  ·rw [if_neg hl1]
 have hsec:sec l p=zAa (t.ops.map Prod.fst) (p+1):=by unfold sec;rw [hl]
 cases hx:t.sub p with
 | leaf k v=>
  rw [hx] at c0 c1 he hsw;simp only [Tm.kind,Tm.val] at c0 c1 he
  have hk:k=13\/k=11\/k=12:=by
   obtain ⟨h1,h2⟩:=hsw;simp only [okK,decide_eq_true_eq] at h1;simp only [zAT] at he;simp only [pn] at h2
   split at he
   ·omega
   ·split at h2
    ·omega
    ·split at h2 <;> omega
  rcases hk with rfl | rfl | rfl
  ·have hv:0 <= v/\v < props:=by
    by_cases hh:v < 0\/props - 1 < v
    ·exfalso;simp [zAT,hh] at he
    ·omega
   refine (zOZ b off n cap B aao an ac lb m lcap s R p v w hp c0 c1).mono fun e w' ⟨h1,h2⟩=>?_
   obtain ⟨t5,f5,co,hb5⟩:=zBr b off n cap B aao an ac lb m lcap s R p l ls _ 13 v w hT w' h2;refine ⟨_,_,h1,hb5,_,_,rfl,fun args w=>by simp [go_sem],fun w2 hb2 now x hnow=>?_⟩
   refine (zPO w2 _ _ b off n cap B aao an ac lb m lcap s R p l ls _ _ v x now (t5.below hb2) hnow ((hb2.cell (p:=⟨w.heap.size+1+1,1,none⟩) (by have:=f5.hbf;show w.heap.size+1+1 < _;omega)).trans co) hv.1 (by rw [hls now (by rw [hT.hm];exact hnow)];exact hv.2)).mono fun e w3 ⟨h3,q,h4⟩=>⟨?_,h4 ▸ below_drewN (Below.refl _ _) q⟩
   rw [h3];simp only [Tm.uT,Tm.vT,Bool.false_and,Bool.or_false,Tm.hb_prop,sig];rw [zCV (by rw [hT.hm];exact hnow)]
  ·refine (zOx b off n cap B aao an ac lb m lcap s R p v w hp c0 c1).mono fun e w' ⟨h1,h2⟩=>?_
   obtain ⟨t5,f5,co,hb5⟩:=zBr b off n cap B aao an ac lb m lcap s R p l ls _ 11 v w hT w' h2;refine ⟨_,_,h1,hb5,_,_,rfl,fun args w=>by simp [go_sem],fun w2 hb2 now x hnow=>?_⟩
   refine (zPJ w2 now x).mono fun e w3 ⟨h3,h4⟩=>⟨?_,h4 ▸ Below.refl _ _⟩
   rw [h3];simp only [Tm.uT,Tm.vT,Bool.false_and,Bool.or_false,Tm.hb_yes]
  ·refine (zOc b off n cap B aao an ac lb m lcap s R p v w hp c0 c1).mono fun e w' ⟨h1,h2⟩=>?_
   obtain ⟨t5,f5,co,hb5⟩:=zBr b off n cap B aao an ac lb m lcap s R p l ls _ 12 v w hT w' h2;refine ⟨_,_,h1,hb5,_,_,rfl,fun args w=>by simp [go_sem],fun w2 hb2 now x hnow=>?_⟩
   refine (zOS w2 now x).mono fun e w3 ⟨h3,h4⟩=>⟨?_,h4 ▸ Below.refl _ _⟩
   rw [h3];simp only [Tm.uT,Tm.vT,Bool.false_and,Bool.or_false];rw [Tm.hb_no _ _ _ (by decide) (by decide)]
 | un k v a=>
  rw [hx] at c0 c1 he hsw hki;simp only [Tm.kind,Tm.val] at c0 c1 he;obtain ⟨k1,k2,_⟩:=hki 0 (by simp [Tm.kids])
  rw [Tm.koff_zero] at k1 k2;have hp1:p+1 < n:=by omega
  have ha:t.sub (p+1)=a:=k2
  have hk:k=10\/k=14\/k=17\/k=18:=by
   obtain ⟨h1,h2,_⟩:=hsw;simp only [pn] at h2
   split at h2
   ·omega
   ·split at h2 <;> omega
  rcases hk with rfl | rfl | rfl | rfl
  ·refine (zO9 b off n cap B aao an ac lb m lcap s R p v w hp c0 c1).mono fun e w' ⟨h1,h2⟩=>?_
   obtain ⟨t5,f5,co,hb5⟩:=zBr b off n cap B aao an ac lb m lcap s R p l ls _ 10 v w hT w' h2;refine ⟨_,_,h1,hb5,_,_,rfl,fun args w=>by simp [go_sem],fun w2 hb2 now x hnow=>?_⟩
   refine (zPH w2 _ _ b off n cap B aao an ac lb m lcap s R p l ls _ _ _ now x (t5.below hb2) (f5.below hb2) hp1 hnow).mono fun e w3 ⟨h3,h4⟩=>⟨?_,h4 ▸ Below.refl _ _⟩
   rw [h3];simp only [Tm.uT,Tm.vT,Bool.false_and,Bool.or_false,Tm.hb_not,ha,show ¬ (10:Int)=17 by decide,show ¬ (10:Int)=18 by decide,if_false]
  ·refine (zOK b off n cap B aao an ac lb m lcap s R p v w hp c0 c1).mono fun e w' ⟨h1,h2⟩=>?_
   obtain ⟨t5,f5,co,hb5⟩:=zBr b off n cap B aao an ac lb m lcap s R p l ls _ 14 v w hT w' h2;refine ⟨_,_,h1,hb5,_,_,rfl,fun args w=>by simp [go_sem],fun w2 hb2 now x hnow=>?_⟩
   refine (zPk w2 _ _ b off n cap B aao an ac lb m lcap s R p l ls _ _ _ now x (t5.below hb2) (f5.below hb2) hp1 hnow).mono fun e w3 ⟨h3,h4⟩=>⟨?_,h4⟩
   rw [h3];simp only [Tm.uT,Tm.vT,Bool.false_and,Bool.or_false,Tm.hb_next,ha,show ¬ (14:Int)=17 by decide,show ¬ (14:Int)=18 by decide,if_false,hmo a now hnow]
  ·refine (zOU b off n cap B aao an ac lb m lcap s R p v w hp c0 c1).mono fun e w' ⟨h1,h2⟩=>?_
   obtain ⟨t5,f5,co,hb5⟩:=zBr b off n cap B aao an ac lb m lcap s R p l ls _ 17 v w hT w' h2;refine ⟨_,_,h1,hb5,_,_,rfl,fun args w=>by simp [go_sem],fun w2 hb2 now x hnow=>?_⟩
   refine (zPM w2 _ _ b off n cap B aao an ac lb m lcap s R p l ls _ _ _ now x (t5.below hb2) (f5.below hb2) hp1 hnow).mono fun e w3 ⟨h3,h4⟩=>⟨?_,h4 ▸ Below.refl _ _⟩
   rw [h3];simp only [Tm.uT,Tm.vT,ha,if_true,Bool.true_and]
  ·refine (zOJ b off n cap B aao an ac lb m lcap s R p v w hp c0 c1).mono fun e w' ⟨h1,h2⟩=>?_
   obtain ⟨t5,f5,co,hb5⟩:=zBr b off n cap B aao an ac lb m lcap s R p l ls _ 18 v w hT w' h2;refine ⟨_,_,h1,hb5,_,_,rfl,fun args w=>by simp [go_sem],fun w2 hb2 now x hnow=>?_⟩
   refine (zOs w2 _ _ b off n cap B aao an ac lb m lcap s R p l ls _ _ _ now x (t5.below hb2) (f5.below hb2) hp1 hnow).mono fun e w3 ⟨h3,h4⟩=>⟨?_,h4 ▸ Below.refl _ _⟩
   rw [h3];simp only [Tm.uT,Tm.vT,ha,show ¬ (18:Int)=17 by decide,if_false,if_true,Bool.false_or]
 | bi k v a b'=>
  rw [hx] at c0 c1 he hsw hki;simp only [Tm.kind,Tm.val] at c0 c1 he;obtain ⟨k1,k2,k3,k4,k5,k6⟩:=hki 0 (by simp [Tm.kids])
  obtain ⟨j1,j2,_⟩:=hki 1 (by simp [Tm.kids])
  rw [Tm.koff_zero] at k1 k2 k3;have hp1:p+1 < n:=by omega
  have ha:t.sub (p+1)=a:=k2;have hse:sec l p=p+(Tm.bi k v a b').koff 1:=by rw [hsec];exact k3
  have hs1:p < sec l p:=by rw [hse,Tm.koff];omega
  have hs2:sec l p < n:=by rw [hse];omega
  have hb':t.sub (sec l p)=b':=by rw [hse];exact j2
  have hk:k=8\/k=9\/k=15\/k=16:=by
   obtain ⟨h1,h2,_⟩:=hsw;simp only [zAT] at he;simp only [pn] at h2
   split at he
   ·omega
   ·split at h2
    ·omega
    ·split at h2
     ·omega
     ·omega
  rcases hk with rfl | rfl | rfl | rfl
  ·refine (zPf b off n cap B aao an ac lb m lcap s R p v w hp c0 c1).mono fun e w' ⟨h1,h2⟩=>?_
   obtain ⟨t5,f5,co,hb5⟩:=zBr b off n cap B aao an ac lb m lcap s R p l ls _ 8 v w hT w' h2;refine ⟨_,_,h1,hb5,_,_,rfl,fun args w=>by simp [go_sem],fun w2 hb2 now x hnow=>?_⟩
   refine (zPX w2 _ _ b off n cap B aao an ac lb m lcap s R p l ls _ _ _ now x (t5.below hb2) (f5.below hb2) hp1 hs1 hs2 hnow).mono fun e w3 ⟨h3,q,h4⟩=>⟨?_,h4 ▸ below_drewN (Below.refl _ _) q⟩
   rw [h3];simp only [Tm.uT,Tm.vT,Bool.false_and,Bool.or_false,Tm.hb_and,ha,hb',show ¬ (8:Int)=15 by decide,show ¬ (8:Int)=16 by decide,if_false]
  ·refine (zPa b off n cap B aao an ac lb m lcap s R p v w hp c0 c1).mono fun e w' ⟨h1,h2⟩=>?_
   obtain ⟨t5,f5,co,hb5⟩:=zBr b off n cap B aao an ac lb m lcap s R p l ls _ 9 v w hT w' h2;refine ⟨_,_,h1,hb5,_,_,rfl,fun args w=>by simp [go_sem],fun w2 hb2 now x hnow=>?_⟩
   refine (zPh w2 _ _ b off n cap B aao an ac lb m lcap s R p l ls _ _ _ now x (t5.below hb2) (f5.below hb2) hp1 hs1 hs2 hnow).mono fun e w3 ⟨h3,q,h4⟩=>⟨?_,h4 ▸ below_drewN (Below.refl _ _) q⟩
   rw [h3];simp only [Tm.uT,Tm.vT,Bool.false_and,Bool.or_false,Tm.hb_or,ha,hb',show ¬ (9:Int)=15 by decide,show ¬ (9:Int)=16 by decide,if_false]
  ·refine (zOP b off n cap B aao an ac lb m lcap s R p v w hp c0 c1).mono fun e w' ⟨h1,h2⟩=>?_
   obtain ⟨t5,f5,co,hb5⟩:=zBr b off n cap B aao an ac lb m lcap s R p l ls _ 15 v w hT w' h2;refine ⟨_,_,h1,hb5,_,_,rfl,fun args w=>by simp [go_sem],fun w2 hb2 now x hnow=>?_⟩
   refine (zO8 w2 _ _ b off n cap B aao an ac lb m lcap s R p l ls _ _ _ now x (t5.below hb2) (f5.below hb2) hp1 hs1 hs2 hnow).mono fun e w3 ⟨h3,q,h4⟩=>⟨?_,h4 ▸ below_drewN (Below.refl _ _) q⟩
   rw [h3];simp only [Tm.uT,Tm.vT,ha,hb',if_true]
  ·refine (zO0 b off n cap B aao an ac lb m lcap s R p v w hp c0 c1).mono fun e w' ⟨h1,h2⟩=>?_
   obtain ⟨t5,f5,co,hb5⟩:=zBr b off n cap B aao an ac lb m lcap s R p l ls _ 16 v w hT w' h2;refine ⟨_,_,h1,hb5,_,_,rfl,fun args w=>by simp [go_sem],fun w2 hb2 now x hnow=>?_⟩
   refine (zOi w2 _ _ b off n cap B aao an ac lb m lcap s R p l ls _ _ _ now x (t5.below hb2) (f5.below hb2) hp1 hs1 hs2 hnow).mono fun e w3 ⟨h3,q,h4⟩=>⟨?_,h4 ▸ below_drewN (Below.refl _ _) q⟩
   rw [h3];simp only [Tm.uT,Tm.vT,ha,hb',show ¬ (16:Int)=15 by decide,if_false,if_true]
   congr 2
   generalize a.hb (sig ls s) now=y;generalize b'.hb (sig ls s) now=z
   cases y <;> cases z <;> rfl
end Go.Proofs.YtnihdlgfhhdhkaaGreatDoor
set_option maxHeartbeats 6400000
set_option maxRecDepth 20000

namespace Go.Proofs.YtnihdlgfhhdhkaaGreatDoor
open Go.ChangeShapes Go.WideShapes Go.ChangeAt Go.RowKit Go.Deep
open Terms
set_option maxHeartbeats 6400000
set_option maxRecDepth 20000
def rnd (u v:Nat->Bool) (m s:Nat) (r:Nat->Bool) (k:Nat):Nat->Bool:=fun j=>if m - k <= j then stp u v (r s) (m - j) j else r j
theorem zIQ {u v:Nat->Bool} {m s:Nat} {r:Nat->Bool} {j:Nat} (hj:j < m):rnd u v m s r 0 j=r j:=by unfold rnd;rw [if_neg (by omega)]
theorem zJu {u v:Nat->Bool} {m s:Nat} {r:Nat->Bool} {j:Nat}:rnd u v m s r m j=stp u v (r s) (m - j) j:=by unfold rnd;rw [if_pos (by omega)]
theorem zNG {u v:Nat->Bool} {m s:Nat} {r:Nat->Bool} {k:Nat} (hs:s < m) (hk:k < m) (j:Nat) (hj:j < m) :
  (if j=m - 1 - k then (u (m - 1 - k)||(v (m - 1 - k)&&rnd u v m s r k (if m - 1 - k=m - 1 then s else m - 1 - k+1))) else rnd u v m s r k j)=rnd u v m s r (k+1) j:=by
 by_cases hjk:j=m - 1 - k
 ·rw [if_pos hjk]
  have e:rnd u v m s r (k+1) j=stp u v (r s) (m - j) j:=by unfold rnd;rw [if_pos (by omega)]
  rw [e,show m - j=k+1 by omega,<- hjk]
  simp only [stp]
  congr 2
  by_cases hk0:k=0
  ·subst hk0
   rw [if_pos (by omega),zIQ hs]
   rfl
  ·rw [if_neg (by omega)]
   unfold rnd;rw [if_pos (by omega),show m - (j+1)=k by omega]
 ·rw [if_neg hjk]
  unfold rnd
  by_cases h1:m - k <= j
  ·rw [if_pos h1,if_pos (by omega)]
  ·rw [if_neg h1,if_neg (by omega)]
def zCd (u v:Nat->Bool) (m s:Nat) (d:Bool):Nat->Nat->Bool
 | 0=>fun j=>if j=s then d else false
 | c+1=>rnd u v m s (zCd u v m s d c) m
theorem zLB (u v:Nat->Bool) {m s:Nat} (d:Bool) (j:Nat):zCd u v m s d 2 j=stp u v (stp u v d (m - s) s) (m - j) j:=by
 simp only [zCd];rw [zJu,zJu,if_pos rfl]
structure SeSt (w:World) (x0 x1 x2 x3 x4 x5:Value) (m:Nat) (r:Nat->Bool) (W:World):Prop where
 c0:W.cell? ⟨w.heap.size,0,none⟩=some x0
 c1:W.cell? ⟨w.heap.size,1,none⟩=some x1
 c2:W.cell? ⟨w.heap.size,2,none⟩=some x2
 c3:W.cell? ⟨w.heap.size,3,none⟩=some x3
 c4:W.cell? ⟨w.heap.size,4,none⟩=some x4
 c5:W.cell? ⟨w.heap.size,5,none⟩=some x5
 row:W.rowIs (w.heap.size+1) 4 m (fun j=>.bool (r j))
 below:Below w.heap.size w W
theorem SeSt.later {w:World} {x0 x1 x2 x3 x4 x5:Value} {m:Nat} {r:Nat->Bool} {W W':World} (t:SeSt w x0 x1 x2 x3 x4 x5 m r W) (hb:Below W.heap.size W W'):SeSt w x0 x1 x2 x3 x4 x5 m r W':=by
 have hl:w.heap.size < W.heap.size:=World.block_lt_of_cell? W ⟨w.heap.size,0,none⟩ t.c0
 exact ⟨(hb.cell (p:=⟨w.heap.size,0,none⟩) hl).trans t.c0,(hb.cell (p:=⟨w.heap.size,1,none⟩) hl).trans t.c1,(hb.cell (p:=⟨w.heap.size,2,none⟩) hl).trans t.c2,(hb.cell (p:=⟨w.heap.size,3,none⟩) hl).trans t.c3,(hb.cell (p:=⟨w.heap.size,4,none⟩) hl).trans t.c4,(hb.cell (p:=⟨w.heap.size,5,none⟩) hl).trans t.c5,zAh t.row hb,t.below.trans (hb.mono t.below.size)⟩
theorem SeSt.congr {w:World} {x0 x1 x2 x3 x4 x5:Value} {m:Nat} {r r':Nat->Bool} {W:World} (t:SeSt w x0 x1 x2 x3 x4 x5 m r W) (e:∀ j,j < m->r j=r' j):SeSt w x0 x1 x2 x3 x4 x5 m r' W:=
 ⟨t.c0,t.c1,t.c2,t.c3,t.c4,t.c5,t.row.congr fun j hj=>by rw [e j hj],t.below⟩
theorem SeSt.put {w:World} {x0 x1 x2 x3 x4 x5:Value} {m:Nat} {r:Nat->Bool} {W:World} (t:SeSt w x0 x1 x2 x3 x4 x5 m r W) (p:Nat) (x:Bool):SeSt w x0 x1 x2 x3 x4 x5 m (fun j=>if j=p then x else r j) (W.setCell ⟨w.heap.size+1,p,none⟩ (.bool x)):=by
 have hc:∀ q,(W.setCell ⟨w.heap.size+1,p,none⟩ (.bool x)).cell? ⟨w.heap.size,q,none⟩=W.cell? ⟨w.heap.size,q,none⟩:=fun q=>World.cell?_of_block (w:=W) (Below.heap_setCell W _ _ _ (by simp))
 refine ⟨(hc 0).trans t.c0,(hc 1).trans t.c1,(hc 2).trans t.c2,(hc 3).trans t.c3,(hc 4).trans t.c4,(hc 5).trans t.c5,?_,t.below.setCell (by simp) _⟩
 refine (t.row.set p (.bool x)).congr fun i _=>?_
 by_cases hip:i=p
 ·rw [if_pos hip,if_pos hip]
 ·rw [if_neg hip,if_neg hip]
theorem zKZ (b off n cap B:Nat) (aao:Option Addr) (an ac lb m lcap s R:Nat) (d:Bool) (f:FuncId) (caps:Array Value) (u v:Nat->Bool) (w:World) (hm:m <= 24) (hs:s < m) (hF:zKq w (.func (.func f) #[] caps) m u v) :
  Calls Tryz.prog 54 #[.agg #[.slice (some ⟨b,off,none⟩) n cap,.slice (some ⟨B,0,none⟩) n n,.slice aao an ac,.slice (some ⟨lb,0,none⟩) m lcap,.int .i64 (s:Int),.slice (some ⟨R,0,none⟩) n n],.bool d,.func (.func f) #[] caps] w fun e w'=>e=.returned (.slice (some ⟨w.heap.size+1,0,none⟩) m m)/\Below w.heap.size w w'/\Hid (w'.rowIs (w.heap.size+1) 4 m (fun j=>.bool (stp u v (stp u v d (m - s) s) (m - j) j))):=by
 have hmk:=run_make_row' (P:=Tryz.prog) 53 4 (.bool false) 1 Tryz.underlying53 zGG rfl .i64 .i64 m (by omega) (by omega)
 obtain ⟨f',caps',e1,hen,hlaw⟩:=hF
 injection e1 with e1 e2 e3
 injection e1 with e1
 subst e1 e3;clear e2;have HLaw:Hid (∀ w',Below w.heap.size w w'->∀ (now:Nat) (x:Bool),now < m->Calls Tryz.prog f (#[.int .i64 (now:Int),.bool x]++caps) w' fun e w2=>e=.returned (.bool (u now||(v now&&x)))/\Below w'.heap.size w' w2):=hlaw
 have haf:=fun (now:Nat) w1 (h:now < m)=>zHX b off n cap B aao an ac lb m lcap s R now w1 hm h
 have HR0:Hid (∀ j,zCd u v m s d 0 j=if j=s then d else false):=fun _=>rfl
 have HRS:Hid (∀ c,zCd u v m s d (c+1)=rnd u v m s (zCd u v m s d c) m):=fun _=>rfl
 have HRD:Hid (∀ j,zCd u v m s d 2 j=stp u v (stp u v d (m - s) s) (m - j) j):=zLB u v d
 have HST:Hid (∀ r k,k < m->∀ j,j < m->(if j=m - 1 - k then (u (m - 1 - k)||(v (m - 1 - k)&&rnd u v m s r k (if m - 1 - k=m - 1 then s else m - 1 - k+1))) else rnd u v m s r k j)=rnd u v m s r (k+1) j):=fun r k hk j hj=>zNG hs hk j hj
 clear hlaw;have hsm:(s:Int) < (m:Int):=by omega
 have hrow0:((w.alloc (.cells #[.slice (some ⟨b,off,none⟩) n cap,.slice (some ⟨B,0,none⟩) n n,.slice aao an ac,.slice (some ⟨lb,0,none⟩) m lcap,.int .i64 (s:Int),.slice (some ⟨R,0,none⟩) n n] 91)).alloc (.cells (madeCells #[.bool false] m) 4)).rowIs (w.heap.size+1) 4 m (fun _=>.bool false):=by
  have r:=World.rowIs_made (w.alloc (.cells #[.slice (some ⟨b,off,none⟩) n cap,.slice (some ⟨B,0,none⟩) n n,.slice aao an ac,.slice (some ⟨lb,0,none⟩) m lcap,.int .i64 (s:Int),.slice (some ⟨R,0,none⟩) n n] 91)) (.bool false) m 4;simpa using r
 have hc0:=hrow0.cell hs;have hf0:=hrow0.frozen s
 have HS0:Hid (SeSt w (.slice (some ⟨b,off,none⟩) n cap) (.slice (some ⟨B,0,none⟩) n n) (.slice aao an ac) (.slice (some ⟨lb,0,none⟩) m lcap) (.int .i64 (s:Int)) (.slice (some ⟨R,0,none⟩) n n) m (fun _=>false) ((w.alloc (.cells #[.slice (some ⟨b,off,none⟩) n cap,.slice (some ⟨B,0,none⟩) n n,.slice aao an ac,.slice (some ⟨lb,0,none⟩) m lcap,.int .i64 (s:Int),.slice (some ⟨R,0,none⟩) n n] 91)).alloc (.cells (madeCells #[.bool false] m) 4))):=
  ⟨by simp [go_sem],by simp [go_sem],by simp [go_sem],by simp [go_sem],by simp [go_sem],by simp [go_sem],hrow0,((Below.refl _ _).alloc (Nat.le_refl _) _).alloc (by simp) _⟩
 clear hrow0
 go_enter Tryz.func54,Tryz.ntmps54
 go_wp2_with fail
 have HS1:=(show Hid _ from HS0.out.put s d)
 have HS2:Hid (SeSt w (.slice (some ⟨b,off,none⟩) n cap) (.slice (some ⟨B,0,none⟩) n n) (.slice aao an ac) (.slice (some ⟨lb,0,none⟩) m lcap) (.int .i64 (s:Int)) (.slice (some ⟨R,0,none⟩) n n) m (zCd u v m s d 0) ((w.alloc (.cells #[.slice (some ⟨b,off,none⟩) n cap,.slice (some ⟨B,0,none⟩) n n,.slice aao an ac,.slice (some ⟨lb,0,none⟩) m lcap,.int .i64 (s:Int),.slice (some ⟨R,0,none⟩) n n] 91)).alloc (.cells ((madeCells #[.bool false] m).setIfInBounds s (.bool d)) 4))):=by
  have t:=HS1.out.congr (r':=zCd u v m s d 0) fun j _=>by rw [HR0.out]
  rw [World.setCell_alloc_at _ _ _ _ _ (by simp)] at t
  exact t
 clear HS0 HS1 hc0 hf0 hmk
 go_loopw [18] (fun i wr=>∃ c:Nat,c <= 2/\i=.int .i64 (c:Int)/\Hid (SeSt w (.slice (some ⟨b,off,none⟩) n cap) (.slice (some ⟨B,0,none⟩) n n) (.slice aao an ac) (.slice (some ⟨lb,0,none⟩) m lcap) (.int .i64 (s:Int)) (.slice (some ⟨R,0,none⟩) n n) m (zCd u v m s d c) wr)) (fun i _=>2 - (intOf i).toNat)
 case atStart=>exact ⟨0,by omega,rfl,HS2.out⟩
 case round=>
  obtain ⟨c,hc,rfl,HSt⟩:=hrel
  by_cases hlt:c < 2
  ·have HR1:Hid (zCd u v m s d (c+1)=rnd u v m s (zCd u v m s d c) m):=HRS.out c
   generalize zCd u v m s d c=r at *;generalize wr=wo at *
   go_wp2_with fail
   rw [show decide ((c:Int) < 2)=true by simp;omega]
   go_loopw [8] (fun i wr=>∃ k:Nat,k <= m/\i=.int .i64 ((m:Int) - 1 - (k:Int))/\Hid (SeSt w (.slice (some ⟨b,off,none⟩) n cap) (.slice (some ⟨B,0,none⟩) n n) (.slice aao an ac) (.slice (some ⟨lb,0,none⟩) m lcap) (.int .i64 (s:Int)) (.slice (some ⟨R,0,none⟩) n n) m (rnd u v m s r k) wr)) (fun i _=>(intOf i+1).toNat)
   case atStart=>exact ⟨0,by omega,by simp,HSt.out.congr fun j hj=>(zIQ hj).symm⟩
   case round=>
    obtain ⟨k,hk,rfl,HSr⟩:=hrel
    by_cases hlk:k < m
    ·obtain ⟨now,hnow⟩:∃ now:Nat,now=m - 1 - k:=⟨_,rfl⟩
     have hni:(m:Int) - 1 - (k:Int)=(now:Int):=by omega
     have hnm:now < m:=by omega
     rw [hni];have HNI:Hid ((m:Int) - 1 - (k:Int)=(now:Int)):=hni;have hst:=HSr.out;have hax:(if now=m - 1 then s else now+1) < m:=by split <;> omega
     have HPut:Hid (∀ W x,SeSt w (.slice (some ⟨b,off,none⟩) n cap) (.slice (some ⟨B,0,none⟩) n n) (.slice aao an ac) (.slice (some ⟨lb,0,none⟩) m lcap) (.int .i64 (s:Int)) (.slice (some ⟨R,0,none⟩) n n) m (rnd u v m s r k) W->x=rnd u v m s r k (if now=m - 1 then s else now+1)->SeSt w (.slice (some ⟨b,off,none⟩) n cap) (.slice (some ⟨B,0,none⟩) n n) (.slice aao an ac) (.slice (some ⟨lb,0,none⟩) m lcap) (.int .i64 (s:Int)) (.slice (some ⟨R,0,none⟩) n n) m (rnd u v m s r (k+1)) (W.setCell ⟨w.heap.size+1,now,none⟩ (.bool (u now||(v now&&x))))):=fun W x h e=>(h.put now _).congr fun j hj=>by
      have:=HST.out r k hlk j hj;rw [<- hnow] at this;rw [e];exact this
     have haf1:=fun w1=>haf now w1 hnm
     generalize (if now=m - 1 then s else now+1)=ax at *
     obtain ⟨c0,c1,c2,c3,c4,c5,hrow,hbel⟩:=hst
     have HAf:Hid (∀ w1,Below wr.heap.size wr w1->w1.cell? ⟨w.heap.size+1,ax,none⟩=some (.bool (rnd u v m s r k ax))/\w1.cell? ⟨w.heap.size+1,now,none⟩=some (.bool (rnd u v m s r k now))/\w1.frozen? ⟨w.heap.size+1,now,none⟩=false/\(∀ x,Calls Tryz.prog f (#[.int .i64 (now:Int),.bool x]++caps) w1 fun e w2=>e=.returned (.bool (u now||(v now&&x)))/\Below w1.heap.size w1 w2)):=fun w1 hb=>by
      have t:=HSr.out.later hb;exact ⟨t.row.cell hax,t.row.cell hnm,t.row.frozen now,fun x=>HLaw.out w1 t.below now x hnm⟩
     have HLat:Hid (∀ w1 w2,Below wr.heap.size wr w1->Below w1.heap.size w1 w2->SeSt w (.slice (some ⟨b,off,none⟩) n cap) (.slice (some ⟨B,0,none⟩) n n) (.slice aao an ac) (.slice (some ⟨lb,0,none⟩) m lcap) (.int .i64 (s:Int)) (.slice (some ⟨R,0,none⟩) n n) m (rnd u v m s r k) w2):=fun w1 w2 h1 h2=>(HSr.out.later h1).later h2
     clear hnow hni hrow HST HLaw haf HSt HS2 HRS HRD HR0;generalize hxe:rnd u v m s r k ax=xv at *;generalize rnd u v m s r k now=xw at *;clear hxe
     go_wp2_with (first | (go_at_call 82;refine (haf1 _).mono ?_;rintro e w4 ⟨rfl,hb4⟩;obtain ⟨d0,d1,d2,hl4⟩:=HAf.out w4 hb4;have hl5:=hl4 xv) | (refine hl5.mono ?_;rintro e w5 ⟨rfl,hb5⟩;obtain ⟨g0,g1,g2,_⟩:=HAf.out w5 (hb4.trans (hb5.mono hb4.size))))
     have HFin:Hid (SeSt w (.slice (some ⟨b,off,none⟩) n cap) (.slice (some ⟨B,0,none⟩) n n) (.slice aao an ac) (.slice (some ⟨lb,0,none⟩) m lcap) (.int .i64 (s:Int)) (.slice (some ⟨R,0,none⟩) n n) m (rnd u v m s r (k+1)) (w5.setCell ⟨w.heap.size+1,now,none⟩ (.bool (u now||(v now&&xv))))):=HPut.out w5 xv (HLat.out w4 w5 hb4 hb5) rfl
     go_roundw
     case rel=>exact ⟨k+1,hlk,by have:=HNI.out;congr 1;omega,HFin⟩
     case measure=>have:=HNI.out;first | (simp [intOf];done) | (simp [intOf];omega)
    ·obtain rfl:k=m:=by omega
     go_wp2_with fail
     exact ⟨⟨c+1,hlt,by first | rfl | simp,by rw [HR1.out];exact HSr.out⟩,by simp [intOf];omega⟩
  ·obtain rfl:c=2:=by omega
   have HF:Hid (Below w.heap.size w wr/\wr.rowIs (w.heap.size+1) 4 m (fun j=>.bool (stp u v (stp u v d (m - s) s) (m - j) j))):=⟨HSt.out.below,HSt.out.row.congr fun j _=>by rw [HRD.out]⟩
   clear HSt HS2
   go_wp2_with fail
   go_ret
   exact ⟨rfl,HF.out.1,HF.out.2⟩
theorem zIo (k:Int) (w:World) :
  Calls Tryz.prog 103 #[.int .i64 k] w fun e w'=>e=.returned (.bool (zAP k))/\w'=w:=by
 by_cases h:14 <= k/\k <= 18
 ·have hk:k=14\/k=15\/k=16\/k=17\/k=18:=by omega
  clear h
  rcases hk with rfl | rfl | rfl | rfl | rfl
  all_goals
   go_enter Tryz.func103,Tryz.ntmps103
   go_wp2
   all_goals go_ret
   all_goals exact ⟨rfl,rfl⟩
 ·have hm:zAP k=false:=by simp [zAP];omega
  rw [hm];have e1:¬ k=14:=by omega
  have e2:¬ k=15:=by omega
  have e3:¬ k=16:=by omega
  have e4:¬ k=17:=by omega
  have e5:¬ k=18:=by omega
  clear hm h
  go_enter Tryz.func103,Tryz.ntmps103
  go_wp2
  all_goals go_ret
  all_goals exact ⟨rfl,rfl⟩
theorem zIe (k v props:Int) (w:World) (h0:0 <= props) (h6:props <= 6) :
  Calls Tryz.prog 102 #[.agg #[.int .i64 k,.int .i64 v],.int .i64 props] w fun e w'=>e=.returned (.int .i64 (zAT props (k,v)))/\Below w.heap.size w w':=by
 by_cases hk:k < 8
 ·have hx:zAT props (k,v)=13:=by simp [zAT,hk]
  rw [hx];clear hx
  go_enter Tryz.func102,Tryz.ntmps102
  go_wp2
  all_goals go_ret
  all_goals exact ⟨rfl,(Below.refl _ _).alloc (Nat.le_refl _) _⟩
 ·by_cases h2:k=13
  ·subst h2
   by_cases hv:0 <= v/\v <= props - 1
   ·have hx:zAT props (13,v)=0:=by simp [zAT];omega
    rw [hx];obtain ⟨ha,hb⟩:=hv;clear hx
    go_enter Tryz.func102,Tryz.ntmps102
    go_wp2
    all_goals go_ret
    all_goals exact ⟨rfl,(Below.refl _ _).alloc (Nat.le_refl _) _⟩
   ·have hx:zAT props (13,v)=2:=by simp [zAT];omega
    rw [hx];have hv':v < 0\/props - 1 < v:=by omega
    clear hx hv
    rcases hv' with hv | hv
    all_goals
     go_enter Tryz.func102,Tryz.ntmps102
     go_wp2
     all_goals go_ret
     all_goals exact ⟨rfl,(Below.refl _ _).alloc (Nat.le_refl _) _⟩
  ·by_cases hv:v=0
   ·subst hv
    have hx:zAT props (k,0)=0:=by simp [zAT,h2];omega
    rw [hx];clear hx
    go_enter Tryz.func102,Tryz.ntmps102
    go_wp2
    all_goals go_ret
    all_goals exact ⟨rfl,(Below.refl _ _).alloc (Nat.le_refl _) _⟩
   ·have hx:zAT props (k,v)=2:=by simp [zAT,h2];omega
    rw [hx];have hv':v < 0\/0 < v:=by omega
    clear hx hv
    rcases hv' with hv | hv
    all_goals
     go_enter Tryz.func102,Tryz.ntmps102
     go_wp2
     all_goals go_ret
     all_goals exact ⟨rfl,(Below.refl _ _).alloc (Nat.le_refl _) _⟩
