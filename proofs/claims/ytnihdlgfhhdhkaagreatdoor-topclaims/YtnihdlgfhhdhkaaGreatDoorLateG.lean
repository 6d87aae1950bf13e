/- Joined texts. -/
import Derived.Test.YtnihdlgfhhdhkaaGreatDoorLateF
namespace Go.Proofs.YtnihdlgfhhdhkaaGreatDoor
open Go.ChangeShapes Go.WideShapes Go.ChangeAt Go.RowKit Go.Deep
open Terms Tm
set_option maxHeartbeats 6400000
set_option maxRecDepth 20000
theorem zJj {r:Ru} (h:zA1 2 r=0):r.guard≠[]:=by
 intro e
 have hx:∀ t,zAq 2 [] t≠0:=fun t=>by
  unfold zAq;rw [if_neg (by decide)]
  have:zAD (([]:List (Int × Int)).map Prod.fst)≠0:=fun h0=>(zB7 h0).1 rfl
  rw [if_pos this];exact this
 unfold zA1 at h;rw [e] at h
 have hk:kcode 2 [] true≠0:=by
  unfold kcode;rw [if_neg (hx _)];exact hx _
 split at h
 ·exact absurd h (by decide)
 ·exact hk h
structure NilTo (g:Nat) (w w':World):Prop where
 size:w.heap.size <= w'.heap.size
 nil:∀ i v,w.cell? ⟨g,i,none⟩=some v->v=.slice none 0 0
 block:∀ b,b≠g->w'.heap[b]? = w.heap[b]?
theorem NilTo.ne {g:Nat} {w w':World} (h:NilTo g w w') {b i:Nat} {v:Value} (hc:w.cell? ⟨b,i,none⟩=some v) (hv:v≠.slice none 0 0):b≠g:=by
 rintro rfl
 exact hv (h.nil i v hc)
theorem NilTo.cell {g:Nat} {w w':World} (h:NilTo g w w') {b:Nat} (hb:b≠g) (i:Nat):w'.cell? ⟨b,i,none⟩=w.cell? ⟨b,i,none⟩:=World.cell?_of_block (h.block b hb)
theorem zAX.nilTo {g:Nat} {w w':World} {v:Value} {l:List (Int × Int)} (h:zAX w v l) (hn:NilTo g w w'):zAX w' v l:=by
 obtain ⟨ao,cap,rfl,h0,h⟩:=h;refine ⟨ao,cap,rfl,h0,fun hne=>?_⟩
 obtain ⟨b,off,rfl,hlt,hat⟩:=h hne;refine ⟨b,off,rfl,Nat.lt_of_lt_of_le hlt hn.size,fun i hi=>?_⟩
 have hb:=hn.ne (hat i hi).1 (by simp)
 exact ⟨(hn.cell hb _).trans (hat i hi).1,(hn.cell hb _).trans (hat i hi).2⟩
theorem zBu.nilTo {g:Nat} {w w':World} {v:Value} {l:List Vr} (h:zBu w v l) (hn:NilTo g w w'):zBu w' v l:=SlV.imp h hn.size fun b off i _ _ hi=>by
 obtain ⟨h1,h2,h3,h4⟩:=hi;have hb:=hn.ne h2 (by simp)
 exact ⟨(hn.cell hb _).trans h1,(hn.cell hb _).trans h2,(hn.cell hb _).trans h3,(hn.cell hb _).trans h4⟩
theorem zCE.nilTo {g:Nat} {w w':World} {v:Value} {l:List St} (h:zCE w v l) (hn:NilTo g w w'):zCE w' v l:=SlV.imp h hn.size fun b off i _ _ hi=>by
 obtain ⟨h1,u,h2,h3⟩:=hi;have hb:=hn.ne h1 (by simp)
 exact ⟨(hn.cell hb _).trans h1,u,(hn.cell hb _).trans h2,h3.nilTo hn⟩
theorem zCU.nilTo {g:Nat} {w w':World} {v:Value} {l:List Ru} (h:zCU w v l) (hg:∀ j,j < l.length->(l.getD j ru0).guard≠[]) (hn:NilTo g w w'):zCU w' v l:=SlV.imp h hn.size fun b off i _ hi hx=>by
 obtain ⟨⟨u,h1,h2⟩,u',h3,h4⟩:=hx
 have hb:=hn.ne h1 (by
  obtain ⟨ao,cap,rfl,⟨_,h0⟩,_⟩:=h2;intro e
  injection e with e _ _
  exact hg i hi (h0 e).2)
 exact ⟨⟨u,(hn.cell hb _).trans h1,h2.nilTo hn⟩,u',(hn.cell hb _).trans h3,h4.nilTo hn⟩
theorem zBB.nilTo {g:Nat} {w w':World} {v:Value} {ts:List (List (Int × Int))} (h:zBB w v ts) (hg:∀ j,j < ts.length->ts.getD j []≠[]) (hn:NilTo g w w'):zBB w' v ts:=by
 obtain ⟨ao,cap,rfl,h⟩:=h;refine ⟨ao,cap,rfl,fun hne=>?_⟩
 obtain ⟨b,off,rfl,hlt,hat⟩:=h hne;refine ⟨b,off,rfl,Nat.lt_of_lt_of_le hlt hn.size,fun i hi=>?_⟩
 obtain ⟨u,h1,h2⟩:=hat i hi
 have hb:=hn.ne h1 (by
  obtain ⟨ao,cap,rfl,⟨_,h0⟩,_⟩:=h2;intro e
  injection e with e _ _
  exact hg i hi (h0 e).2)
 exact ⟨u,(hn.cell hb _).trans h1,h2.nilTo hn⟩
structure KTaskOk (m:Mo) (l:List (Int × Int)) (mm:Nat):Prop where
 mo:mcode m=0
 vars:m.vars.length=2
 fo:∃ T,FOk mm l T
 len:l.length <= 59
 many:mm <= 6
theorem KTaskOk.code {m:Mo} {l:List (Int × Int)} {mm:Nat} (h:KTaskOk m l mm):zAO m zAH l=0:=by
 obtain ⟨T,hT⟩:=h.fo;unfold zAO;rw [zKe h.mo h.vars,if_neg (by simp)]
 exact hT.code (by have:=h.len;omega) h.many
theorem zLG (c0 c1 c2 c3 c4 c5 c6:Value) (a b:Vr) (rawv:Value) (rs:List (Int × Int)) (tempo:Nat) (w:World) (hG:GV a b) (ht:tempo <= 6) (hR:Raws w w.heap.size rawv rs)
  (hmd:∀ w',Below w.heap.size w w'->Calls Tryz.prog 10 #[.agg #[c0,c1,c2,c3,c4,c5,c6]] w' fun e w2=>∃ va vr,e=.returned (.agg #[va,vr])/\Below w'.heap.size w' w2/\zFD w2 va vr [a,b]) :
  Calls Tryz.prog 4 #[.agg #[c0,c1,c2,c3,c4,c5,c6],rawv,.int .i64 (tempo:Int)] w fun e w'=>∃ ao ac ro rn rc pb fo fn fc m l mm,e=.returned (.agg #[.slice ao 2 ac,.slice ro rn rc,.slice (some ⟨pb,0,none⟩) 3 3,.slice fo fn fc])/\Below w.heap.size w w'/\Hid (TaskV w' (.slice ao 2 ac) (.slice ro rn rc) (.slice (some ⟨pb,0,none⟩) 3 3) (.slice fo fn fc) m zAH l)/\Hid (KTaskOk m l mm/\m.vars=[a,b]/\l.length=fn/\l≠[])/\mm <= tempo/\fn <= 17:=by
 have HMd:Hid (∀ w',Below w.heap.size w w'->Calls Tryz.prog 10 #[.agg #[c0,c1,c2,c3,c4,c5,c6]] w' fun e w2=>∃ ao ac ro rn rc m,e=.returned (.agg #[.slice ao 2 ac,.slice ro rn rc])/\Below w'.heap.size w' w2/\Hid (zAU w2 (.slice ao 2 ac) (.slice ro rn rc) m/\mcode m=0/\m.vars=[a,b]/\∀ j,j < m.rules.length->(m.rules.getD j ru0).guard≠[])):=fun w' h=>(hmd w' h).mono fun e w2 ⟨va,vr,h1,h2,h3⟩=>by
  obtain ⟨ao,ac,ro,rn,rc,rfl,rfl,_⟩:=h3.shape;obtain ⟨rules,g1,g2,g3⟩:=h3;exact ⟨ao,ac,ro,rn,rc,_,h1,h2,g1,hG.mcode (by omega) g3,rfl,fun j hj=>zJj (g3 j hj)⟩
 have HPr:Hid (∀ w',Calls Tryz.prog 11 #[] w' fun e w2=>∃ pb,e=.returned (.slice (some ⟨pb,0,none⟩) 3 3)/\Below w'.heap.size w' w2/\Hid (zBB w2 (.slice (some ⟨pb,0,none⟩) 3 3) zAH)):=fun w'=>(zJW w').mono fun e w2 ⟨pb,h1,h2,h3⟩=>⟨pb,h1,h2,h3⟩
 have HFo:Hid (∀ w',Below w.heap.size w w'->Calls Tryz.prog 12 #[rawv,.int .i64 3,.int .i64 (tempo:Int)] w' fun e w2=>∃ fo fn fc l mm,e=.returned (.slice fo fn fc)/\mm <= tempo/\fn <= 17/\Below w'.heap.size w' w2/\Hid (zAX w2 (.slice fo fn fc) l/\(∃ T,FOk mm l T)/\l.length=fn/\l≠[])):=fun w' h=>(zHx rawv rs 3 tempo w' (by decide) (by decide) (by omega) (hR.up h)).mono fun e w2 ⟨fo,fc,l,mm,h1,h2,h3,h4,h5,h6⟩=>⟨fo,l.length,fc,l,mm,h1,h3,h4,h6,h5,h2.ok,rfl,h2.ne⟩
 obtain ⟨ra,rn0,rc0,hra⟩:∃ a n c,rawv=.slice a n c:=by obtain ⟨⟨a,c,h,_⟩,_,_⟩:=hR;exact ⟨_,_,_,h⟩
 subst hra;clear hmd hR;obtain ⟨W1,hW1⟩:∃ W1,W1=(w.alloc (.cells #[c0,c1,c2,c3,c4,c5,c6] 25)).alloc (.cells #[.slice none 0 0,.slice none 0 0,.slice none 0 0,.slice none 0 0] 35):=⟨_,rfl⟩
 have hb1:Below w.heap.size w W1:=by rw [hW1];exact ((Below.refl _ _).alloc (Nat.le_refl _) _).alloc (by simp) _
 have hmo:=HMd.out W1 hb1
 have HBx:Hid (∀ w',Below (w.heap.size+2) W1 w'->(w'.cell? ⟨w.heap.size+1,0,none⟩=some (.slice none 0 0)/\w'.cell? ⟨w.heap.size+1,1,none⟩=some (.slice none 0 0)/\w'.cell? ⟨w.heap.size+1,2,none⟩=some (.slice none 0 0)/\w'.cell? ⟨w.heap.size+1,3,none⟩=some (.slice none 0 0))/\(w'.frozen? ⟨w.heap.size+1,0,none⟩=false/\w'.frozen? ⟨w.heap.size+1,1,none⟩=false/\w'.frozen? ⟨w.heap.size+1,2,none⟩=false/\w'.frozen? ⟨w.heap.size+1,3,none⟩=false)):=fun w' h=>by
  have hlt:w.heap.size+1 < w.heap.size+2:=by omega
  refine ⟨⟨?_,?_,?_,?_⟩,?_,?_,?_,?_⟩
  ·exact (h.cell (p:=⟨w.heap.size+1,0,none⟩) hlt).trans (by rw [hW1];simp [go_sem])
  ·exact (h.cell (p:=⟨w.heap.size+1,1,none⟩) hlt).trans (by rw [hW1];simp [go_sem])
  ·exact (h.cell (p:=⟨w.heap.size+1,2,none⟩) hlt).trans (by rw [hW1];simp [go_sem])
  ·exact (h.cell (p:=⟨w.heap.size+1,3,none⟩) hlt).trans (by rw [hW1];simp [go_sem])
  ·exact (h.frozen (p:=⟨w.heap.size+1,0,none⟩) hlt).trans (by rw [hW1];simp [go_sem])
  ·exact (h.frozen (p:=⟨w.heap.size+1,1,none⟩) hlt).trans (by rw [hW1];simp [go_sem])
  ·exact (h.frozen (p:=⟨w.heap.size+1,2,none⟩) hlt).trans (by rw [hW1];simp [go_sem])
  ·exact (h.frozen (p:=⟨w.heap.size+1,3,none⟩) hlt).trans (by rw [hW1];simp [go_sem])
 have hz1:W1.heap.size=w.heap.size+2:=by rw [hW1];simp
 subst hW1
 go_enter Tryz.func4,Tryz.ntmps4
 go_wp2_with (first
  | (go_at_call 10;refine hmo.mono ?_;rintro e w2 ⟨ao,ac,ro,rn,rc,m,rfl,hb2,HM⟩;have hbw2:=hb1.trans (hb2.mono hb1.size);have hpr:=HPr.out w2)
  | (go_at_call 11;refine hpr.mono ?_;rintro e w3 ⟨pb,rfl,hb3,HP⟩;have hbw3:=hbw2.trans (hb3.mono hbw2.size);have hfo:=HFo.out w3 hbw3)
  | (go_at_call 12;refine hfo.mono ?_;rintro e w4 ⟨fo,fn,fc,l,mm,rfl,hmm,hfn,hb4,HF⟩;have hbw4:=hbw3.trans (hb4.mono hbw3.size);have hb24:=(hb2.trans (hb3.mono hb2.size)).trans (hb4.mono (Nat.le_trans hb2.size hb3.size));obtain ⟨⟨k0,k1,k2,k3⟩,g0,g1,g2,g3⟩:=HBx.out w4 (hb24.mono (by omega))))
 have hn:NilTo (w.heap.size+1) w4 ((((w4.setCell ⟨w.heap.size+1,0,none⟩ (.slice ao 2 ac)).setCell ⟨w.heap.size+1,1,none⟩ (.slice ro rn rc)).setCell ⟨w.heap.size+1,2,none⟩ (.slice (some ⟨pb,0,none⟩) 3 3)).setCell ⟨w.heap.size+1,3,none⟩ (.slice fo fn fc)):=by
  refine ⟨by simp,fun i v hv=>?_,fun b hb=>?_⟩
  ·have hblk:=(hb24.mono (show w.heap.size+2 <= _ by omega)).block (w.heap.size+1) (by omega)
   have hx:((w.alloc (.cells #[c0,c1,c2,c3,c4,c5,c6] 25)).alloc (.cells #[.slice none 0 0,.slice none 0 0,.slice none 0 0,.slice none 0 0] 35)).cell? ⟨w.heap.size+1,i,none⟩=some v:=by rw [<- hv];exact (World.cell?_of_block hblk).symm
   have hy:=(MapKept.heap_alloc (w.alloc (.cells #[c0,c1,c2,c3,c4,c5,c6] 25)) (.cells #[.slice none 0 0,.slice none 0 0,.slice none 0 0,.slice none 0 0] 35)).1;rw [World.size_alloc] at hy;simp only [World.cell?,hy] at hx
   have hi:i < 4:=by
    rcases Nat.lt_or_ge i 4 with h | h
    ·exact h
    ·simp [Array.getElem?_eq_none (show (#[Value.slice none 0 0,.slice none 0 0,.slice none 0 0,.slice none 0 0]:Array Value).size <= i from h)] at hx
   rcases (show i=0\/i=1\/i=2\/i=3 by omega) with rfl | rfl | rfl | rfl <;> simpa using hx.symm
  ·rw [RowKit.Below.heap_setCell _ _ _ _ hb,RowKit.Below.heap_setCell _ _ _ _ hb,RowKit.Below.heap_setCell _ _ _ _ hb,RowKit.Below.heap_setCell _ _ _ _ hb]
 obtain ⟨m1,m2,m3,m4⟩:=HM.out;obtain ⟨f1,f2,f3,f4⟩:=HF.out;have hb34:Below w2.heap.size w2 w4:=hb3.trans (hb4.mono hb3.size)
 refine bodyPost_ret (v:=.agg #[.slice ao 2 ac,.slice ro rn rc,.slice (some ⟨pb,0,none⟩) 3 3,.slice fo fn fc]) ?_ rfl ⟨ao,ac,ro,rn,rc,pb,fo,fn,fc,m,l,mm,rfl,(((hbw4.setCell (p:=⟨w.heap.size+1,0,none⟩) (by simp) _).setCell (p:=⟨w.heap.size+1,1,none⟩) (by simp) _).setCell (p:=⟨w.heap.size+1,2,none⟩) (by simp) _).setCell (p:=⟨w.heap.size+1,3,none⟩) (by simp) _,⟨⟨(m1.1.below hb34).nilTo hn,(m1.2.below hb34).nilTo m4 hn⟩,(HP.out.below hb4).nilTo (fun j hj=>?_) hn,f1.nilTo hn⟩,⟨⟨m2,by rw [m3];rfl,f2,by omega,by omega⟩,m3,f3,f4⟩,hmm,hfn⟩
 ·simp [results,Tryz.results4,go_sem,k0,k1,k2,k3]
 ·have hj3:j < 3:=hj
  rcases (show j=0\/j=1\/j=2 by omega) with rfl | rfl | rfl <;> simp [zAH]
section
variable {m : Mo} {l : List (Int × Int)} {mm : Nat}
end
section
variable {m : Mo} {l : List (Int × Int)}
end
theorem zN3 {m:Mo} {ps:List (List (Int × Int))} {l:List (Int × Int)} {k P:Nat} (hP:zAC m.vars m.vars.length=(P:Nat)) (hs:∀ p∈xpP m ps l k,zCo m l p):(xpP m ps l k).length <= P*2 ^ (zAA l).length:=by
 have hnd:(xpP m ps l k).Nodup:=zHf _ _ k
 have hcode:∀ p∈xpP m ps l k,0 <= p.1*((2 ^ (zAA l).length:Nat):Int)+p.2/\p.1*((2 ^ (zAA l).length:Nat):Int)+p.2 < ((P*2 ^ (zAA l).length:Nat):Int):=fun p hp=>by
  obtain ⟨⟨h1,h2⟩,d,h3,h4⟩:=hs p hp;generalize 2 ^ (zAA l).length=N at *;have h5:p.1*(N:Int) <= ((P:Int) - 1)*N:=Int.mul_le_mul_of_nonneg_right (by omega) (by omega)
  have h6:0 <= p.1*(N:Int):=Int.mul_nonneg h1 (by omega)
  have h7:((P:Int) - 1)*(N:Int)=(P:Int)*N - N:=by rw [Int.sub_mul];omega
  have h8:((P*N:Nat):Int)=(P:Int)*N:=by push_cast;rfl
  omega
 have hnd2:((xpP m ps l k).map fun p=>p.1*((2 ^ (zAA l).length:Nat):Int)+p.2).Nodup:=by
  refine List.Pairwise.map _ (fun a b hab=>hab) ?_
  refine List.Pairwise.imp_of_mem ?_ hnd
  intro a b ha hb hne e;obtain ⟨_,d,h3,h4⟩:=hs a ha;obtain ⟨_,d',h3',h4'⟩:=hs b hb;generalize 2 ^ (zAA l).length=N at *;have hN:(0:Int) < N:=by omega
  have e1:a.2=b.2:=by
   rw [h4,h4'];have r1:((d:Int)+a.1*N) % (N:Int)=(d:Int):=by rw [Int.add_mul_emod_self_right];exact Int.emod_eq_of_lt (by omega) (by omega)
   have r2:((d':Int)+b.1*N) % (N:Int)=(d':Int):=by rw [Int.add_mul_emod_self_right];exact Int.emod_eq_of_lt (by omega) (by omega)
   have e':(d:Int)+a.1*N=(d':Int)+b.1*N:=by rw [h4,h4'] at e;omega
   rw [<- r1,<- r2,e']
  have e2:a.1*(N:Int)=b.1*N:=by omega
  exact hne (Prod.ext (Int.eq_of_mul_eq_mul_right (by omega) e2) e1)
 have:=zE8 (N:=P*2 ^ (zAA l).length) hnd2 (fun y hy=>by
  obtain ⟨p,hp,rfl⟩:=List.mem_map.1 hy
  exact hcode p hp)
 rw [List.length_map] at this;exact this
theorem zPZ {m:Mo} {ps:List (List (Int × Int))} {l:List (Int × Int)} {P:Nat} (hk:zAO m ps l=0) (hP:zAC m.vars m.vars.length=(P:Nat)) (hz:P*2 ^ (zAA l).length <= 20000):¬ zG6 m ps l:=by
 rintro ⟨k,h1,h2⟩
 have hs:∀ j,j <= k+1->∀ p∈xpP m ps l j,zCo m l p:=fun j=>by
  induction j with
  | zero=>exact fun _=>zI2 hk
  | succ j ih=>exact fun hj=>zJB hk (h1 j (by omega)) (ih (by omega))
 have:=zN3 hP (hs (k+1) (Nat.le_refl _));omega
end Go.Proofs.YtnihdlgfhhdhkaaGreatDoor
namespace Go.Proofs.YtnihdlgfhhdhkaaGreatDoor
open Go.ChangeShapes Go.WideShapes Go.ChangeAt Go.RowKit Go.Deep
open Terms
set_option maxHeartbeats 6400000
set_option maxRecDepth 20000
section
variable {o : Oper} {a : Act} {w : World} {Q : Exit -> Act -> World -> Prop}
end
end Go.Proofs.YtnihdlgfhhdhkaaGreatDoor
namespace Go.Proofs.YtnihdlgfhhdhkaaGreatDoor
set_option maxHeartbeats 6400000
set_option maxRecDepth 20000
section
variable {nx : Int -> List Int} {A W : Int -> Prop}
end
section
variable {f g : Nat -> Bool} {N c : Nat}
end
section
variable {nx : Int -> List Int} {A W : Int -> Prop} {N c : Nat} {f : Nat -> Bool}
end
end Go.Proofs.YtnihdlgfhhdhkaaGreatDoor
namespace Go.Proofs.YtnihdlgfhhdhkaaGreatDoor
open Go.ChangeShapes Go.WideShapes Go.ChangeAt Go.RowKit Go.Deep
open Terms
set_option maxHeartbeats 6400000
set_option maxRecDepth 20000
section
variable {T W W' : World} {mb nm : Nat} {f g : Nat -> Bool}
end
section
variable {w w' : World} {b N : Nat} {f : Nat -> Bool} {nx : Int -> List Int}
theorem zD3 {p:Addr} {x:Value} (hb:Below w.heap.size w w') (h:w.cell? p=some x):w'.cell? p=some x:=(hb.cell (World.block_lt_of_cell? w p h)).trans h
end
theorem zNA (w:World) (x:Value) (t:TypeId):∀ j u,[x][j]? = some u->(w.alloc (.cells #[x] t)).cell? ((⟨w.heap.size,0,none⟩:Addr).add j)=some u:=by
 intro j u hj
 match j,hj with
 | 0,hj=>simp at hj;subst hj;simp [Addr.add,go_sem]
end Go.Proofs.YtnihdlgfhhdhkaaGreatDoor
namespace Go.Proofs.YtnihdlgfhhdhkaaGreatDoor
open Go.ChangeShapes Go.WideShapes Go.ChangeAt Go.RowKit Go.Deep
open Terms Tm
set_option maxHeartbeats 6400000
set_option maxRecDepth 20000
def zDt (w:World) (g n k:Nat) (ls:List (List Bool)):Prop:=∃ us:Nat->Value,w.rowIs g 53 n us/\(∀ j,j < k->zAM w (us j) (ls.getD j []))/\∀ j,k <= j->us j=.slice none 0 0
theorem zDt.later {w w':World} {g n k:Nat} {ls:List (List Bool)} (h:zDt w g n k ls) (hb:Below w.heap.size w w'):zDt w' g n k ls:=by
 obtain ⟨us,h1,h2,h3⟩:=h;exact ⟨us,zAh h1 hb,fun j hj=>(h2 j hj).below hb,h3⟩
theorem zDt.put {w:World} {g n k:Nat} {ls:List (List Bool)} {ao:Option Addr} {cn cap:Nat} (h:zDt w g n k ls) (hk:k < n) (hv:zAM w (.slice ao cn cap) (ls.getD k [])):zDt (w.setCell ⟨g,k,none⟩ (.slice ao cn cap)) g n (k+1) ls:=by
 obtain ⟨us,h1,h2,h3⟩:=h;have hc:w.cell? ⟨g,k,none⟩=some (.slice none 0 0):=by rw [h1.cell hk,h3 k (Nat.le_refl _)]
 refine ⟨fun j=>if j=k then .slice ao cn cap else us j,h1.set k _,fun j hj=>?_,fun j hj=>?_⟩
 ·show zAM _ (if j=k then .slice ao cn cap else us j) _
  by_cases e:j=k
  ·subst e
   rw [if_pos rfl];exact hv.setS hc _
  ·rw [if_neg e]
   exact (h2 j (by omega)).setS hc _
 ·show (if j=k then _ else us j)=_
  rw [if_neg (by omega)]
  exact h3 j (by omega)
theorem zDt.done {w:World} {g n:Nat} {ls:List (List Bool)} (h:zDt w g n n ls) (hn:n=ls.length):zAN w (.slice (some ⟨g,0,none⟩) n n) ls:=by
 obtain ⟨us,h1,h2,_⟩:=h;subst hn;refine ⟨(List.range ls.length).map us,_,_,rfl,fun h=>by simp at h,⟨by simp,fun i hi=>?_⟩,fun hne=>⟨g,0,rfl,h1.lt,fun i hi=>?_⟩⟩
 ·rw [show ((List.range ls.length).map us).getD i zLO=us i by simp [List.getD_eq_getElem?_getD,hi]]
  exact h2 i hi
 ·rw [Nat.zero_add,h1.cell hi]
  simp [List.getD_eq_getElem?_getD,hi]
theorem zEx (va vr pv fv:Value) (co:Option Addr) (cc:Nat) (m:Mo) (ps:List (List (Int × Int))) (l:List (Int × Int)) (cs:List Int) (w:World) (hB:0 < w.heap.size) (hT:zAJ w) (hV:TaskV w va vr pv fv m ps l) (hk:zAO m ps l=0) (h12:cs.length <= 12) (hr:∀ i,i < cs.length->0 <= cs.getD i 0/\cs.getD i 0 < zAC m.vars m.vars.length) (hC:zAI w (.slice co cs.length cc) cs) :
  Calls Tryz.prog 22 #[.agg #[va,vr,pv,fv],.slice co cs.length cc] w fun e w'=>∃ g,e=.returned (.tuple #[.slice (some ⟨g,0,none⟩) cs.length cs.length,.int .i64 0])/\Below w.heap.size w w'/\Hid (zAN w' (.slice (some ⟨g,0,none⟩) cs.length cs.length) (lets m ps cs)):=by
 obtain ⟨ao,ac,rfl⟩:=hV.mo.1.shape;obtain ⟨ro,rc,rfl⟩:=hV.mo.2.shape;obtain ⟨po,pc,rfl⟩:=hV.ps.shape;obtain ⟨fo,fc,rfl,_⟩:=id hV.fo;obtain ⟨W1,hW1⟩:∃ W1,W1=w.alloc (.cells #[.slice ao m.vars.length ac,.slice ro m.rules.length rc,.slice po ps.length pc,.slice fo l.length fc] 35):=⟨_,rfl⟩
 have hb1:Below w.heap.size w W1:=by rw [hW1];exact (Below.refl _ _).alloc (Nat.le_refl _) _
 have hz1:W1.heap.size=w.heap.size+1:=by rw [hW1];simp
 have HBx:Hid (∀ w1,Below (w.heap.size+1) W1 w1->Below w.heap.size w w1/\w1.cell? ⟨w.heap.size,0,none⟩=some (.slice ao m.vars.length ac)/\w1.cell? ⟨w.heap.size,1,none⟩=some (.slice ro m.rules.length rc)/\w1.cell? ⟨w.heap.size,2,none⟩=some (.slice po ps.length pc)):=fun w1 h=>by
  have hl:w.heap.size < w.heap.size+1:=Nat.lt_succ_self _;refine ⟨hb1.trans (h.mono (Nat.le_succ _)),(h.cell (p:=⟨w.heap.size,0,none⟩) hl).trans ?_,(h.cell (p:=⟨w.heap.size,1,none⟩) hl).trans ?_,(h.cell (p:=⟨w.heap.size,2,none⟩) hl).trans ?_⟩ <;> (rw [hW1];simp [go_sem])
 have HLe:Hid (∀ (w1:World) (k:Nat),Below (w.heap.size+1) W1 w1->k < cs.length->Calls Tryz.prog 8 #[.agg #[.slice ao m.vars.length ac,.slice ro m.rules.length rc],.slice po ps.length pc,.int .i64 (cs.getD k 0)] w1 fun e w'=>∃ lo ln lc,e=.returned (.tuple #[.slice lo ln lc,.int .i64 0])/\Below w1.heap.size w1 w'/\Hid (zAM w' (.slice lo ln lc) ((lets m ps cs).getD k []))):=fun w1 k h hkl=>by
  have h0:=hb1.trans (h.mono (Nat.le_succ _));refine (zEa _ _ _ m ps (cs.getD k 0) w1 (Nat.lt_of_lt_of_le hB h0.size) (hT.below h0 hB) (hV.mo.below h0) (hV.ps.below h0)).mono fun e w' ⟨v,e1,e2,e3⟩=>?_
  obtain ⟨lo,lc,rfl,hx⟩:=e3;exact ⟨lo,_,lc,by rw [e1,(zFe hk (hr k hkl)).1],e2,by rw [zKH hkl];exact ⟨lo,lc,rfl,hx⟩⟩
 have HCs:Hid (∀ w1,Below (w.heap.size+1) W1 w1->∀ k,k < cs.length->∃ b off,co=some ⟨b,off,none⟩/\w1.cell? ⟨b,off+k,none⟩=some (.int .i64 (cs.getD k 0))):=fun w1 h k hkl=>by
  obtain ⟨b,off,e,hlt,hc⟩:=hC.at hkl;exact ⟨b,off,e,((hb1.trans (h.mono (Nat.le_succ _))).cell (p:=⟨b,off+k,none⟩) hlt).trans hc⟩
 have HLl:Hid (cs.length=(lets m ps cs).length):=(zCS _ _ _).symm;generalize lets m ps cs=ls at *;obtain ⟨n,hn⟩:∃ n,n=cs.length:=⟨_,rfl⟩
 rw [<- hn] at h12 HLe HCs HLl ⊢;have hmk:=run_make_row' (P:=Tryz.prog) 50 53 (.slice none 0 0) 24 Tryz.underlying50 zDO rfl .i64 .i64 n (by omega) (by omega)
 have HJ0:Hid (zDt (W1.alloc (.cells (madeCells #[.slice none 0 0] n) 53)) (w.heap.size+1) n 0 ls):=⟨fun _=>.slice none 0 0,by have h:=World.rowIs_made W1 (.slice none 0 0) n 53;rw [hz1] at h;exact h,fun j hj=>by omega,fun j _=>rfl⟩
 have HB0:Hid (Below (w.heap.size+1) W1 (W1.alloc (.cells (madeCells #[.slice none 0 0] n) 53))):=(Below.refl _ _).alloc (by omega) _
 generalize m.vars.length=vn at *;generalize m.rules.length=rn at *;generalize ps.length=pn at *;generalize l.length=fn at *;clear hT hV hk hr hC hn
 go_enter Tryz.func22,Tryz.ntmps22
 go_wp2_with fail
 rw [<- hW1];clear hW1 hz1 hb1 hmk
 go_loopw [16] (fun i wr=>∃ k:Nat,k <= n/\i=.int .i64 (k:Int)/\Hid (zDt wr (w.heap.size+1) n k ls)/\Hid (Below (w.heap.size+1) W1 wr)) (fun i _=>n - (intOf i).toNat)
 case atStart=>exact ⟨0,Nat.zero_le _,rfl,HJ0,HB0⟩
 case round=>
  obtain ⟨k,hkn,rfl,HJ,HBr⟩:=hrel;obtain ⟨hbw,a0,a1,a2⟩:=HBx.out wr HBr.out;have hs1:w.heap.size+1 < wr.heap.size:=by obtain ⟨us,h1,_⟩:=HJ.out;exact h1.lt
  by_cases hlt:k < n
  ·obtain ⟨b,off,rfl,c0⟩:=HCs.out wr HBr.out k hlt
   have hle:=HLe.out wr k HBr.out hlt;have hki:(k:Int) < (n:Int):=by omega
   have HN:Hid (∀ (w2:World) (lo:Option Addr) (ln lc:Nat),Below wr.heap.size wr w2->zAM w2 (.slice lo ln lc) (ls.getD k [])->w2.frozen? ⟨w.heap.size+1,k,none⟩=false/\w2.cell? ⟨w.heap.size+1,k,none⟩=some (.slice none 0 0)/\Hid (zDt (w2.setCell ⟨w.heap.size+1,k,none⟩ (.slice lo ln lc)) (w.heap.size+1) n (k+1) ls)/\Hid (Below (w.heap.size+1) W1 (w2.setCell ⟨w.heap.size+1,k,none⟩ (.slice lo ln lc)))):=fun w2 lo ln lc h hv=>by
    have hj:=HJ.out.later h;refine ⟨?_,?_,hj.put hlt hv,(HBr.out.trans (h.mono (by omega))).setCell (Nat.le_refl _) _⟩
    ·obtain ⟨us,h1,_⟩:=hj
     exact h1.frozen k
    ·obtain ⟨us,h1,_,h3⟩:=hj
     rw [h1.cell hlt,h3 k (Nat.le_refl _)]
   generalize cs.getD k 0=x at *;clear HJ
   go_wp2_with (go_at_call 8;refine hle.mono ?_;rintro e w2 ⟨lo,ln,lc,rfl,hb2,HV2⟩;obtain ⟨f0,f1,HJ2,HB2⟩:=HN.out w2 lo ln lc hb2 HV2.out)
   go_roundw
   case rel=>exact ⟨k+1,by omega,by go_num,HJ2,HB2⟩
   case measure=>simp [intOf];omega
  ·obtain rfl:n=k:=by omega
   have HF:Hid (zAN wr (.slice (some ⟨w.heap.size+1,0,none⟩) n n) ls):=HJ.out.done HLl.out;clear HJ
   go_wp2_with fail
   go_ret2
   exact ⟨_,rfl,hbw,HF⟩
def Bx2 (w W2:World) (va vr pv fv sv lv:Value):Prop:=Below w.heap.size w W2/\W2.heap.size=w.heap.size+2/\∀ w1,Below W2.heap.size W2 w1->Below w.heap.size w w1/\(w1.cell? ⟨w.heap.size,0,none⟩=some va/\w1.cell? ⟨w.heap.size,1,none⟩=some vr/\w1.cell? ⟨w.heap.size,2,none⟩=some pv/\w1.cell? ⟨w.heap.size,3,none⟩=some fv)/\w1.cell? ⟨w.heap.size+1,0,none⟩=some sv/\w1.cell? ⟨w.heap.size+1,1,none⟩=some lv
theorem Bx2.new (w:World) (va vr pv fv sv lv:Value):Bx2 w ((w.alloc (.cells #[va,vr,pv,fv] 35)).alloc (.cells #[sv,lv] 38)) va vr pv fv sv lv:=by
 obtain ⟨W2,hW2⟩:∃ W2,W2=(w.alloc (.cells #[va,vr,pv,fv] 35)).alloc (.cells #[sv,lv] 38):=⟨_,rfl⟩
 rw [<- hW2];have hb2:Below w.heap.size w W2:=by rw [hW2];exact ((Below.refl _ _).alloc (Nat.le_refl _) _).alloc (by simp) _
 have hz2:W2.heap.size=w.heap.size+2:=by rw [hW2];simp
 refine ⟨hb2,hz2,fun w1 h=>?_⟩
 have hl:w.heap.size < W2.heap.size:=by omega
 have hl1:w.heap.size+1 < W2.heap.size:=by omega
 refine ⟨hb2.trans (h.mono hb2.size),⟨(h.cell (p:=⟨w.heap.size,0,none⟩) hl).trans ?_,(h.cell (p:=⟨w.heap.size,1,none⟩) hl).trans ?_,(h.cell (p:=⟨w.heap.size,2,none⟩) hl).trans ?_,(h.cell (p:=⟨w.heap.size,3,none⟩) hl).trans ?_⟩,(h.cell (p:=⟨w.heap.size+1,0,none⟩) hl1).trans ?_,(h.cell (p:=⟨w.heap.size+1,1,none⟩) hl1).trans ?_⟩ <;> (rw [hW2];simp [go_sem])
theorem zPr (va vr pv fv sv lv:Value) (m:Mo) (ps:List (List (Int × Int))) (l:List (Int × Int)) (w:World) (hB:0 < w.heap.size) (hT:zAJ w) (hV:TaskV w va vr pv fv m ps l) (hk:zAO m ps l≠0) :
  Calls Tryz.prog 7 #[.agg #[va,vr,pv,fv],.agg #[sv,lv]] w fun e w'=>e=.returned (.tuple #[.bool false,.int .i64 (zAO m ps l)])/\Below w.heap.size w w':=by
 obtain ⟨W2,hW2⟩:∃ W2,W2=(w.alloc (.cells #[va,vr,pv,fv] 35)).alloc (.cells #[sv,lv] 38):=⟨_,rfl⟩
 have hbx:Bx2 w W2 va vr pv fv sv lv:=by rw [hW2];exact Bx2.new _ _ _ _ _ _ _
 obtain ⟨hb2,hz2,HBx'⟩:=hbx;have HBx:Hid _:=HBx';have hch:=zCz va vr pv fv m ps l W2 (Nat.lt_of_lt_of_le hB hb2.size) (hT.below hb2 hB) (hV.below hb2);generalize zAO m ps l=q at *;clear hT hV HBx';rw [hW2] at hch
 go_enter Tryz.func7,Tryz.ntmps7
 go_wp2_with (go_at_call 20;refine hch.mono ?_;rintro e w1 ⟨rfl,hb1⟩;rw [<- hW2] at hb1)
 go_ret2
 exact ⟨rfl,(HBx.out w1 hb1).1⟩
theorem zPm (va vr pv fv sv lv:Value) (m:Mo) (ps:List (List (Int × Int))) (l:List (Int × Int)) (ss ll:List Int) (w:World) (hB:0 < w.heap.size) (hT:zAJ w) (hV:TaskV w va vr pv fv m ps l) (hk:zAO m ps l=0) (hS:zBM w sv ss) (hL:zBM w lv ll) (h1:ss.length <= 12) (h2:ll.length <= 12) (hr:zBb m ss ll=false) :
  Calls Tryz.prog 7 #[.agg #[va,vr,pv,fv],.agg #[sv,lv]] w fun e w'=>e=.returned (.tuple #[.bool false,.int .i64 11])/\Below w.heap.size w w':=by
 obtain ⟨W2,hW2⟩:∃ W2,W2=(w.alloc (.cells #[va,vr,pv,fv] 35)).alloc (.cells #[sv,lv] 38):=⟨_,rfl⟩
 have hbx:Bx2 w W2 va vr pv fv sv lv:=by rw [hW2];exact Bx2.new _ _ _ _ _ _ _
 obtain ⟨hb2,hz2,HBx'⟩:=hbx;have HBx:Hid _:=HBx';have hch:=zCz va vr pv fv m ps l W2 (Nat.lt_of_lt_of_le hB hb2.size) (hT.below hb2 hB) (hV.below hb2);rw [hk] at hch;have hm:=(zBA (zES hk).1).1
 have HRu:Hid (∀ w1,Below w.heap.size w w1->Calls Tryz.prog 21 #[.agg #[va,vr],.agg #[sv,lv]] w1 fun e w'=>e=.returned (.tuple #[.bool false,.int .i64 0])/\Below w1.heap.size w1 w'):=fun w1 h=>by
  have h9:=zIz va vr sv lv m ss ll w1 (Nat.lt_of_lt_of_le hB h.size) (hT.below h hB) (hV.mo.below h) (hS.below h) (hL.below h) (by omega)
  rw [hr,hm] at h9;exact h9
 obtain ⟨so,sc,rfl,_⟩:=id hS;obtain ⟨lo,lc,rfl,_⟩:=id hL;obtain ⟨ao,ac,rfl⟩:=hV.mo.1.shape;obtain ⟨ro,rc,rfl⟩:=hV.mo.2.shape;generalize ss.length=sn at *;generalize ll.length=ln at *;generalize m.vars.length=vn at *;generalize m.rules.length=rn at *;clear hT hV HBx' hk hS hL hr hm;rw [hW2] at hch;have h2i:¬ (12:Int) < (ln:Int):=by omega
 have h1i:¬ (12:Int) < (sn:Int):=by omega
 go_enter Tryz.func7,Tryz.ntmps7
 go_wp2_with (first | (go_at_call 20;refine hch.mono ?_;rintro e w1 ⟨rfl,hb1⟩;rw [<- hW2] at hb1;obtain ⟨hbw,⟨k0,k1,k2,k3⟩,k4,k5⟩:=HBx.out w1 hb1;have hru:=HRu.out w1 hbw) | (go_at_call 21;refine hru.mono ?_;rintro e w3 ⟨rfl,hb3⟩))
 go_ret2
 exact ⟨rfl,hbw.trans (hb3.mono hbw.size)⟩
theorem zNh (va vr pv fv sv lv:Value) (m:Mo) (ps:List (List (Int × Int))) (l:List (Int × Int)) (ss ll:List Int) (t:Tm) (w:World) (hB:0 < w.heap.size) (hT:zAJ w) (hV:TaskV w va vr pv fv m ps l) (hk:zAO m ps l=0) (hS:zBM w sv ss) (hL:zBM w lv ll) (h1:ss.length <= 12) (h2:ll.length <= 12) (hr:zBb m ss ll=true) (hwf:t.Wf) (hto:t.ops=l) :
  Calls Tryz.prog 7 #[.agg #[va,vr,pv,fv],.agg #[sv,lv]] w fun e w'=>e=.returned (.tuple #[.bool (t.hb (sig (lets m ps ss++lets m ps ll) ss.length) 0),.int .i64 0])/\Below w.heap.size w w':=by
 obtain ⟨W2,hW2⟩:∃ W2,W2=(w.alloc (.cells #[va,vr,pv,fv] 35)).alloc (.cells #[sv,lv] 38):=⟨_,rfl⟩
 have hbx:Bx2 w W2 va vr pv fv sv lv:=by rw [hW2];exact Bx2.new _ _ _ _ _ _ _
 obtain ⟨hb2,hz2,HBx'⟩:=hbx;have HBx:Hid _:=HBx';have hch:=zCz va vr pv fv m ps l W2 (Nat.lt_of_lt_of_le hB hb2.size) (hT.below hb2 hB) (hV.below hb2);rw [hk] at hch;have hm:=(zBA (zES hk).1).1
 have HRu:Hid (∀ w1,Below w.heap.size w w1->Calls Tryz.prog 21 #[.agg #[va,vr],.agg #[sv,lv]] w1 fun e w'=>e=.returned (.tuple #[.bool true,.int .i64 0])/\Below w1.heap.size w1 w'):=fun w1 h=>by
  have h9:=zIz va vr sv lv m ss ll w1 (Nat.lt_of_lt_of_le hB h.size) (hT.below h hB) (hV.mo.below h) (hS.below h) (hL.below h) (by omega)
  rw [hr,hm] at h9;exact h9
 obtain ⟨so,sc,rfl,_⟩:=id hS;obtain ⟨lo,lc,rfl,_⟩:=id hL
 have HL1:Hid (∀ w1,Below w.heap.size w w1->Calls Tryz.prog 22 #[.agg #[va,vr,pv,fv],.slice so ss.length sc] w1 fun e w'=>∃ g,e=.returned (.tuple #[.slice (some ⟨g,0,none⟩) ss.length ss.length,.int .i64 0])/\Below w1.heap.size w1 w'/\Hid (zAN w' (.slice (some ⟨g,0,none⟩) ss.length ss.length) (lets m ps ss))):=fun w1 h=>zEx va vr pv fv so sc m ps l ss w1 (Nat.lt_of_lt_of_le hB h.size) (hT.below h hB) (hV.below h) hk h1 (zD1 hr).1 (hS.below h).w.v
 have HL2:Hid (∀ w1,Below w.heap.size w w1->Calls Tryz.prog 22 #[.agg #[va,vr,pv,fv],.slice lo ll.length lc] w1 fun e w'=>∃ g,e=.returned (.tuple #[.slice (some ⟨g,0,none⟩) ll.length ll.length,.int .i64 0])/\Below w1.heap.size w1 w'/\Hid (zAN w' (.slice (some ⟨g,0,none⟩) ll.length ll.length) (lets m ps ll))):=fun w1 h=>zEx va vr pv fv lo lc m ps l ll w1 (Nat.lt_of_lt_of_le hB h.size) (hT.below h hB) (hV.below h) hk h2 (zD1 hr).2 (hL.below h).w.v
 have HHo:Hid (∀ (w1:World) (x y:Value),Below w.heap.size w w1->zAN w1 x (lets m ps ss)->zAN w1 y (lets m ps ll)->Calls Tryz.prog 23 #[fv,.agg #[x,y],.int .i64 (ps.length:Int)] w1 fun e w'=>e=.returned (.tuple #[.bool (t.hb (sig (lets m ps ss++lets m ps ll) ss.length) 0),.int .i64 0])/\Below w1.heap.size w1 w'):=fun w1 x y h hx hy=>by
  have h9:=zNQ fv x y l (lets m ps ss) (lets m ps ll) ps.length t w1 (Nat.lt_of_lt_of_le hB h.size) (hT.below h hB) (hV.fo.below h) hx hy (zIL hk h1 h2 hr) hwf hto;rw [zCS] at h9;exact h9
 obtain ⟨ao,ac,rfl⟩:=hV.mo.1.shape;obtain ⟨ro,rc,rfl⟩:=hV.mo.2.shape;obtain ⟨po,pc,rfl⟩:=hV.ps.shape;obtain ⟨fo,fc,rfl,_⟩:=id hV.fo;generalize t.hb (sig (lets m ps ss++lets m ps ll) ss.length) 0=res at *;generalize lets m ps ss=Ls at *;generalize lets m ps ll=Ll at *;generalize ss.length=sn at *;generalize ll.length=ln at *;generalize m.vars.length=vn at *
 generalize m.rules.length=rn at *;generalize ps.length=pn at *;generalize l.length=fn at *;clear hT hV HBx' hk hS hL hr hm hto;rw [hW2] at hch;have h2i:¬ (12:Int) < (ln:Int):=by omega
 have h1i:¬ (12:Int) < (sn:Int):=by omega
 have tk1:=True.intro
 go_enter Tryz.func7,Tryz.ntmps7
 go_wp2_with (first | (go_at_call 20;refine hch.mono ?_;rintro e w1 ⟨rfl,hb1⟩;rw [<- hW2] at hb1;obtain ⟨hbw,⟨k0,k1,k2,k3⟩,k4,k5⟩:=HBx.out w1 hb1;have hru:=HRu.out w1 hbw) | (go_at_call 21;refine hru.mono ?_;rintro e w3 ⟨rfl,hb3⟩;have hb13:=hb1.trans (hb3.mono hb1.size);obtain ⟨hbw3,⟨m0,m1,m2,m3⟩,m4,m5⟩:=HBx.out w3 hb13;have hl1:=HL1.out w3 hbw3) | (clear tk1;go_at_call 22;refine hl1.mono ?_;rintro e w4 ⟨g1,rfl,hb4,HW1⟩;have hb14:=hb13.trans (hb4.mono hb13.size);obtain ⟨hbw4,⟨n0,n1,n2,n3⟩,n4,n5⟩:=HBx.out w4 hb14;have hl2:=HL2.out w4 hbw4) | (go_at_call 22;refine hl2.mono ?_;rintro e w5 ⟨g2,rfl,hb5,HW2⟩;have hb15:=hb14.trans (hb5.mono hb14.size);obtain ⟨hbw5,⟨p0,p1,p2,p3⟩,p4,p5⟩:=HBx.out w5 hb15;have hho:=HHo.out w5 _ _ hbw5 (HW1.out.below hb5) HW2.out) | (go_at_call 23;refine hho.mono ?_;rintro e w6 ⟨rfl,hb6⟩))
 go_ret2
 exact ⟨rfl,hbw5.trans (hb6.mono hbw5.size)⟩
end Go.Proofs.YtnihdlgfhhdhkaaGreatDoor
namespace Go.Proofs.YtnihdlgfhhdhkaaGreatDoor
open Go.ChangeShapes Go.WideShapes Go.ChangeAt Go.RowKit Go.Deep Go.Maps
open Terms Tm
set_option maxHeartbeats 6400000
set_option maxRecDepth 20000
def tkB (va vr pv fv:Value):Obj:=.cells #[va,vr,pv,fv] 35 (0,0)
theorem zDU {w:World} {X:Nat} {va vr pv fv:Value} (hb:w.heap[X]? = some (tkB va vr pv fv)):w.cell? ⟨X,0,none⟩=some va/\w.cell? ⟨X,1,none⟩=some vr/\w.cell? ⟨X,2,none⟩=some pv/\w.cell? ⟨X,3,none⟩=some fv:=by
 unfold tkB at hb;refine ⟨?_,?_,?_,?_⟩ <;> simp [World.cell?,hb]
section
variable {w1 wx w' : World} {X : Nat} {va vr pv : Value} {fo : Option Addr} {fn fc : Nat} {m : Mo} {l : List (Int × Int)}
end
end Go.Proofs.YtnihdlgfhhdhkaaGreatDoor
namespace Go.Proofs.YtnihdlgfhhdhkaaGreatDoor
open Go.ChangeShapes Go.WideShapes Go.ChangeAt Go.RowKit Go.Deep
open Terms
set_option maxHeartbeats 6400000
set_option maxRecDepth 20000
theorem zL7 (v sv lv:Value) (l:List (Int × Int)) (ss ll:List (List Bool)) (props:Int) (t:Tm) (w:World) (hB:0 < w.heap.size) (hT:zAJ w) (hV:zAX w v l) (hS:zAN w sv ss) (hL:zAN w lv ll) (hc:zDy props l ss ll=0) (hwf:t.Wf) (hto:t.ops=l) :
  Calls Tryz.prog 9 #[v,.agg #[sv,lv],.int .i64 props] w fun e w'=>∃ rb,e=.returned (.tuple #[.slice (some ⟨rb,0,none⟩) (ss.length+ll.length) (ss.length+ll.length),.int .i64 0])/\Below w.heap.size w w'/\Hid (w'.rowIs rb 3 (ss.length+ll.length) (fun j=>.int .i64 (zAo (zAA l) (fun q=>(t.sub q).hb (sig (ss++ll) ss.length)) j (zAA l).length))):=by
 obtain ⟨hc1,hc2⟩:=zEG hc;obtain ⟨_,_,hz,_,h6⟩:=zAl hc1;obtain ⟨hne,h60⟩:=zB7 hz;obtain ⟨_,h12,h1,hl12,_⟩:=zDJ hc2;rw [List.length_map] at h60;obtain ⟨so,sc,rfl⟩:=hS.shape;obtain ⟨lo,lc,rfl⟩:=hL.shape;obtain ⟨vo,vc,rfl,⟨hcap,_⟩,hvv⟩:=id hV;obtain ⟨b,off,rfl,hbl,hat⟩:=hvv (by rintro rfl;exact hne rfl)
 refine zLf b off l.length vc so lo ss.length sc ll.length lc (ss.length+ll.length) (zAA l).length props (zAA l) _ w (by omega) h6 fun w0 hb=>(zJy b off vc l.length so lo ss.length sc ll.length lc l ss ll props t w0 (Nat.lt_of_lt_of_le hB hb.size) (hT.below hb hB) rfl (Nat.lt_of_lt_of_le hbl hb.size) (hat.below hb hbl) hcap rfl rfl (hS.below hb) (hL.below hb) hc1 hc2 hwf hto).mono fun e w' ⟨B,aao,ac,CB,ccap,RB,h1,h2,h3,h4,h5⟩=>⟨B,aao,ac,CB,ccap,RB,h1,hb.trans (h2.mono hb.size),fun k hk=>?_,h4,h5⟩
 obtain ⟨ao',ac',hsl,hai⟩:=h3
 injection hsl with e1 e2 e3
 subst e1;obtain ⟨ab,aoff,rfl,habl,haat⟩:=hai (by intro h;rw [h] at hk;simp at hk)
 obtain ⟨p,q1,q2,q3,q4⟩:=zB5 l l.length k hk;have q1':(zAA l).getD k 0=(p:Int):=q1;exact ⟨p,ab,aoff,rfl,habl,by rw [haat k hk,q1'],q2,by rw [q1'];rfl⟩
section
variable {P : Program} {w : World}
open Go.Region
theorem zNC (t ty e:TypeId) (i:TypeInfo) (ht:P.underlying t=some (.slice e)) (hi:P.info? e=some i) (so:Option Addr) (sc:Nat) :
  (Builtin.append_ #[t,t] ty #[.slice none 0 0,.slice so 0 sc]).run P w=.ok (.slice none 0 0) w:=by
 cases so with
 | none=>simp [Builtin.append_,run_underlying ht,sizeOf,typeInfo,hi,Builtin.lenOf,Builtin.firstCells]
 | some a=>simp [Builtin.append_,run_underlying ht,sizeOf,typeInfo,hi,Builtin.lenOf,Builtin.firstCells,loadCells,loadCellsFrom]
theorem zLl {ops:Array Oper} {o:Oper} {a:Act} {K:Act->World->Prop} {Q:Exit->Act->World->Prop} {E:Prop} (hgd:o.guard=none) (x:Operand) (t:TypeId)
  (ho:o.op=.call { callee:=.builtin .append,args:=#[.const (.slice none 0 0),x],argTypes:=#[t,t]})
  (e:TypeId) (i:TypeInfo) (ht:P.underlying t=some (.slice e)) (hi:P.info? e=some i) (so:Option Addr) (sc:Nat) (hx:a.eval x=.slice so 0 sc) (h:K (a.put o.dst (.slice none 0 0)) w) :
  if Region.wanted o (yielded ops a.tmps)=true then Oper.wp P o a w K Q else E:=by
 have hw:Region.wanted o (yielded ops a.tmps)=true:=by simp [Region.wanted,hgd]
 rw [if_pos hw];have hr:=zNC (P:=P) (w:=w) t o.type e i ht hi so sc;have hs:a.eval (.const (.slice none 0 0))=.slice none 0 0:=rfl;unfold Oper.wp execOp;simp only [ho,resolve,invoke,builtin,Sem.run_bind,Sem.run_pure,Result.andThen_ok,List.map_toArray,List.map_cons,List.map_nil,hs,hx,hr];exact h
end
