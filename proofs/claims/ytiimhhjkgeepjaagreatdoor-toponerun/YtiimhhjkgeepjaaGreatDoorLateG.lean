/- Joined texts. -/
import Derived.Test.YtiimhhjkgeepjaaGreatDoorLateF
namespace Go.Proofs.YtiimhhjkgeepjaaGreatDoor
open Go.ChangeShapes Go.WideShapes Go.ChangeAt Go.RowKit Go.Deep
open Terms Tm
set_option maxHeartbeats 6400000
set_option maxRecDepth 20000
theorem zLI {r:Ru} (h:zBD 2 r=0):r.guard≠[]:=by
 intro e
 have hx:∀ t,zAx 2 [] t≠0:=fun t=>by
  unfold zAx;rw [if_neg (by decide)]
  have:zAE (([]:List (Int × Int)).map Prod.fst)≠0:=fun h0=>(zCq h0).1 rfl
  rw [if_pos this];exact this
 unfold zBD at h;rw [e] at h
 have hk:kcode 2 [] true≠0:=by
  unfold kcode;rw [if_neg (hx _)];exact hx _
 split at h
 ·exact absurd h (by decide)
 ·exact hk h
structure NilTo (g:Nat) (w w':World):Prop where
 size:w.heap.size <= w'.heap.size
 nil:∀ i v,w.cell? ⟨g,i,none⟩=some v->v=.slice none 0 0
 block:∀ b,b≠g->w'.heap[b]? = w.heap[b]?
theorem NilTo.ne {g:Nat} {w w':World} (h:NilTo g w w') {b i:Nat} {v:Value} (hc:w.cell? ⟨b,i,none⟩=some v) (hv:v≠.slice none 0 0):b≠g:=by
 rintro rfl
 exact hv (h.nil i v hc)
theorem NilTo.cell {g:Nat} {w w':World} (h:NilTo g w w') {b:Nat} (hb:b≠g) (i:Nat):w'.cell? ⟨b,i,none⟩=w.cell? ⟨b,i,none⟩:=World.cell?_of_block (h.block b hb)
theorem zAR.nilTo {g:Nat} {w w':World} {v:Value} {l:List (Int × Int)} (h:zAR w v l) (hn:NilTo g w w'):zAR w' v l:=by
 obtain ⟨ao,cap,rfl,h0,h⟩:=h;refine ⟨ao,cap,rfl,h0,fun hne=>?_⟩
 obtain ⟨b,off,rfl,hlt,hat⟩:=h hne;refine ⟨b,off,rfl,Nat.lt_of_lt_of_le hlt hn.size,fun i hi=>?_⟩
 have hb:=hn.ne (hat i hi).1 (by simp)
 exact ⟨(hn.cell hb _).trans (hat i hi).1,(hn.cell hb _).trans (hat i hi).2⟩
theorem zCI.nilTo {g:Nat} {w w':World} {v:Value} {l:List Vr} (h:zCI w v l) (hn:NilTo g w w'):zCI w' v l:=SlV.imp h hn.size fun b off i _ _ hi=>by
 obtain ⟨h1,h2,h3,h4⟩:=hi;have hb:=hn.ne h2 (by simp)
 exact ⟨(hn.cell hb _).trans h1,(hn.cell hb _).trans h2,(hn.cell hb _).trans h3,(hn.cell hb _).trans h4⟩
theorem zCk.nilTo {g:Nat} {w w':World} {v:Value} {l:List St} (h:zCk w v l) (hn:NilTo g w w'):zCk w' v l:=SlV.imp h hn.size fun b off i _ _ hi=>by
 obtain ⟨h1,u,h2,h3⟩:=hi;have hb:=hn.ne h1 (by simp)
 exact ⟨(hn.cell hb _).trans h1,u,(hn.cell hb _).trans h2,h3.nilTo hn⟩
theorem zC4.nilTo {g:Nat} {w w':World} {v:Value} {l:List Ru} (h:zC4 w v l) (hg:∀ j,j < l.length->(l.getD j ru0).guard≠[]) (hn:NilTo g w w'):zC4 w' v l:=SlV.imp h hn.size fun b off i _ hi hx=>by
 obtain ⟨⟨u,h1,h2⟩,u',h3,h4⟩:=hx
 have hb:=hn.ne h1 (by
  obtain ⟨ao,cap,rfl,⟨_,h0⟩,_⟩:=h2;intro e
  injection e with e _ _
  exact hg i hi (h0 e).2)
 exact ⟨⟨u,(hn.cell hb _).trans h1,h2.nilTo hn⟩,u',(hn.cell hb _).trans h3,h4.nilTo hn⟩
theorem zBP.nilTo {g:Nat} {w w':World} {v:Value} {ts:List (List (Int × Int))} (h:zBP w v ts) (hg:∀ j,j < ts.length->ts.getD j []≠[]) (hn:NilTo g w w'):zBP w' v ts:=by
 obtain ⟨ao,cap,rfl,h⟩:=h;refine ⟨ao,cap,rfl,fun hne=>?_⟩
 obtain ⟨b,off,rfl,hlt,hat⟩:=h hne;refine ⟨b,off,rfl,Nat.lt_of_lt_of_le hlt hn.size,fun i hi=>?_⟩
 obtain ⟨u,h1,h2⟩:=hat i hi
 have hb:=hn.ne h1 (by
  obtain ⟨ao,cap,rfl,⟨_,h0⟩,_⟩:=h2;intro e
  injection e with e _ _
  exact hg i hi (h0 e).2)
 exact ⟨u,(hn.cell hb _).trans h1,h2.nilTo hn⟩
structure KTaskOk (m:Mo) (l:List (Int × Int)) (mm:Nat):Prop where
 mo:mcode m=0
 vars:m.vars.length=2
 fo:∃ T,FOk mm l T
 len:l.length <= 59
 many:mm <= 6
theorem KTaskOk.code {m:Mo} {l:List (Int × Int)} {mm:Nat} (h:KTaskOk m l mm):zAK m zBG l=0:=by
 obtain ⟨T,hT⟩:=h.fo;unfold zAK;rw [zNA h.mo h.vars,if_neg (by simp)]
 exact hT.code (by have:=h.len;omega) h.many
section
variable {m : Mo} {l : List (Int × Int)} {mm : Nat}
end
section
variable {m : Mo} {l : List (Int × Int)}
end
theorem zP8 {m:Mo} {ps:List (List (Int × Int))} {l:List (Int × Int)} {k P:Nat} (hP:zAC m.vars m.vars.length=(P:Nat)) (hs:∀ p∈xpP m ps l k,zDI m l p):(xpP m ps l k).length <= P*2 ^ (zAA l).length:=by
 have hnd:(xpP m ps l k).Nodup:=zPF _ _ k
 have hcode:∀ p∈xpP m ps l k,0 <= p.1*((2 ^ (zAA l).length:Nat):Int)+p.2/\p.1*((2 ^ (zAA l).length:Nat):Int)+p.2 < ((P*2 ^ (zAA l).length:Nat):Int):=fun p hp=>by
  obtain ⟨⟨h1,h2⟩,d,h3,h4⟩:=hs p hp;generalize 2 ^ (zAA l).length=N at *;have h5:p.1*(N:Int) <= ((P:Int) - 1)*N:=Int.mul_le_mul_of_nonneg_right (by omega) (by omega)
  have h6:0 <= p.1*(N:Int):=Int.mul_nonneg h1 (by omega)
  have h7:((P:Int) - 1)*(N:Int)=(P:Int)*N - N:=by rw [Int.sub_mul];omega
  have h8:((P*N:Nat):Int)=(P:Int)*N:=by push_cast;rfl
  omega
 have hnd2:((xpP m ps l k).map fun p=>p.1*((2 ^ (zAA l).length:Nat):Int)+p.2).Nodup:=by
  refine List.Pairwise.map _ (fun a b hab=>hab) ?_
  refine List.Pairwise.imp_of_mem ?_ hnd
  intro a b ha hb hne e;obtain ⟨_,d,h3,h4⟩:=hs a ha;obtain ⟨_,d',h3',h4'⟩:=hs b hb;generalize 2 ^ (zAA l).length=N at *;have hN:(0:Int) < N:=by omega
  have e1:a.2=b.2:=by
   rw [h4,h4'];have r1:((d:Int)+a.1*N) % (N:Int)=(d:Int):=by rw [Int.add_mul_emod_self_right];exact Int.emod_eq_of_lt (by omega) (by omega)
   have r2:((d':Int)+b.1*N) % (N:Int)=(d':Int):=by rw [Int.add_mul_emod_self_right];exact Int.emod_eq_of_lt (by omega) (by omega)
   have e':(d:Int)+a.1*N=(d':Int)+b.1*N:=by rw [h4,h4'] at e;omega
   rw [<- r1,<- r2,e']
  have e2:a.1*(N:Int)=b.1*N:=by omega
  exact hne (Prod.ext (Int.eq_of_mul_eq_mul_right (by omega) e2) e1)
 have:=zDo (N:=P*2 ^ (zAA l).length) hnd2 (fun y hy=>by
  obtain ⟨p,hp,rfl⟩:=List.mem_map.1 hy
  exact hcode p hp)
 rw [List.length_map] at this;exact this
theorem zSi {m:Mo} {ps:List (List (Int × Int))} {l:List (Int × Int)} {P:Nat} (hk:zAK m ps l=0) (hP:zAC m.vars m.vars.length=(P:Nat)) (hz:P*2 ^ (zAA l).length <= 20000):¬ zD6 m ps l:=by
 rintro ⟨k,h1,h2⟩
 have hs:∀ j,j <= k+1->∀ p∈xpP m ps l j,zDI m l p:=fun j=>by
  induction j with
  | zero=>exact fun _=>zKC hk
  | succ j ih=>exact fun hj=>zKv hk (h1 j (by omega)) (ih (by omega))
 have:=zP8 hP (hs (k+1) (Nat.le_refl _));omega
end Go.Proofs.YtiimhhjkgeepjaaGreatDoor
namespace Go.Proofs.YtiimhhjkgeepjaaGreatDoor
open Go.ChangeShapes Go.WideShapes Go.ChangeAt Go.RowKit Go.Deep
open Terms
set_option maxHeartbeats 6400000
set_option maxRecDepth 20000
def One (w:World) (v:Value) (l:List (Int × Int)):Prop:=∃ g lv,v=.slice (some ⟨g,0,none⟩) 1 1/\w.cell? ⟨g,0,none⟩=some lv/\zAR w lv l
def Two (w:World) (v:Value) (l m:List (Int × Int)):Prop:=∃ g lv mv,v=.slice (some ⟨g,0,none⟩) 2 2/\w.cell? ⟨g,0,none⟩=some lv/\w.cell? ⟨g,1,none⟩=some mv/\zAR w lv l/\zAR w mv m
theorem zBt {w w':World} (hb:Below w.heap.size w w') {p:Addr} {x:Value} (h:w.cell? p=some x):w'.cell? p=some x:=(hb.cell (World.block_lt_of_cell? w p h)).trans h
theorem One.below {w w':World} {v:Value} {l:List (Int × Int)} (h:One w v l) (hb:Below w.heap.size w w'):One w' v l:=by
 obtain ⟨g,lv,h1,h2,h3⟩:=h;exact ⟨g,lv,h1,zBt hb h2,h3.below hb⟩
theorem Two.below {w w':World} {v:Value} {l m:List (Int × Int)} (h:Two w v l m) (hb:Below w.heap.size w w'):Two w' v l m:=by
 obtain ⟨g,lv,mv,h1,h2,h3,h4,h5⟩:=h;exact ⟨g,lv,mv,h1,zBt hb h2,zBt hb h3,h4.below hb,h5.below hb⟩
section
variable {o : Oper} {a : Act} {w : World} {Q : Exit -> Act -> World -> Prop}
theorem zRk {s:Nat} {v:Value} (hop:o.op=.move (.tmp s)) (he:a.eval (.tmp s)=v):Oper.wp Tryz.prog o a w (fun a' w'=>∃ v',a'=a.put o.dst v'/\Below w.heap.size w w'/\v'=v) Q:=by
 refine zAT (w':=w) (v:=v) (post:=fun v' _=>v'=v) ?_ (Below.refl _ _) rfl
 generalize a.eval=ev at he ⊢;simp [execOp,hop,he,go_sem]
theorem zSZ {s:Nat} {lv:Value} {l:List (Int × Int)} (hop:o.op=.buildSlice 43 1 #[(0,.tmp s)]) (he:a.eval (.tmp s)=lv) (hV:zAR w lv l):Oper.wp Tryz.prog o a w (fun a' w'=>∃ v',a'=a.put o.dst v'/\Below w.heap.size w w'/\One w' v' l) Q:=by
 obtain ⟨ao,c,rfl,_⟩:=id hV;have hA:Below w.heap.size w (w.alloc (.cells #[.slice ao l.length c] 27)):=(Below.refl _ _).alloc (Nat.le_refl _) _;refine zAT (w':=w.alloc (.cells #[.slice ao l.length c] 27)) (v:=.slice (some ⟨w.heap.size,0,none⟩) 1 1) (post:=fun v' w'=>One w' v' l) ?_ hA ⟨_,_,rfl,by simp [go_sem],hV.below hA⟩
 generalize a.eval=ev at he ⊢;simp [execOp,hop,he,go_sem]
end
end Go.Proofs.YtiimhhjkgeepjaaGreatDoor
namespace Go.Proofs.YtiimhhjkgeepjaaGreatDoor
set_option maxHeartbeats 6400000
set_option maxRecDepth 20000
section
variable {nx : Int -> List Int} {A W : Int -> Prop}
end
section
variable {f g : Nat -> Bool} {N c : Nat}
end
section
variable {nx : Int -> List Int} {A W : Int -> Prop} {N c : Nat} {f : Nat -> Bool}
end
end Go.Proofs.YtiimhhjkgeepjaaGreatDoor
namespace Go.Proofs.YtiimhhjkgeepjaaGreatDoor
open Go.ChangeShapes Go.WideShapes Go.ChangeAt Go.RowKit Go.Deep
open Terms
set_option maxHeartbeats 6400000
set_option maxRecDepth 20000
section
variable {T W W' : World} {mb nm : Nat} {f g : Nat -> Bool}
end
section
variable {w w' : World} {b N : Nat} {f : Nat -> Bool} {nx : Int -> List Int}
theorem zJq {p:Addr} {x:Value} (hb:Below w.heap.size w w') (h:w.cell? p=some x):w'.cell? p=some x:=(hb.cell (World.block_lt_of_cell? w p h)).trans h
end
theorem zQH (w:World) (x:Value) (t:TypeId):∀ j u,[x][j]? = some u->(w.alloc (.cells #[x] t)).cell? ((⟨w.heap.size,0,none⟩:Addr).add j)=some u:=by
 intro j u hj
 match j,hj with
 | 0,hj=>simp at hj;subst hj;simp [Addr.add,go_sem]
end Go.Proofs.YtiimhhjkgeepjaaGreatDoor
namespace Go.Proofs.YtiimhhjkgeepjaaGreatDoor
open Go.ChangeShapes Go.WideShapes Go.ChangeAt Go.RowKit Go.Deep
open Terms Tm
set_option maxHeartbeats 6400000
set_option maxRecDepth 20000
def zEk (w:World) (g n k:Nat) (ls:List (List Bool)):Prop:=∃ us:Nat->Value,w.rowIs g 104 n us/\(∀ j,j < k->zAQ w (us j) (ls.getD j []))/\∀ j,k <= j->us j=.slice none 0 0
theorem zEk.later {w w':World} {g n k:Nat} {ls:List (List Bool)} (h:zEk w g n k ls) (hb:Below w.heap.size w w'):zEk w' g n k ls:=by
 obtain ⟨us,h1,h2,h3⟩:=h;exact ⟨us,zAp h1 hb,fun j hj=>(h2 j hj).below hb,h3⟩
theorem zEk.put {w:World} {g n k:Nat} {ls:List (List Bool)} {ao:Option Addr} {cn cap:Nat} (h:zEk w g n k ls) (hk:k < n) (hv:zAQ w (.slice ao cn cap) (ls.getD k [])):zEk (w.setCell ⟨g,k,none⟩ (.slice ao cn cap)) g n (k+1) ls:=by
 obtain ⟨us,h1,h2,h3⟩:=h;have hc:w.cell? ⟨g,k,none⟩=some (.slice none 0 0):=by rw [h1.cell hk,h3 k (Nat.le_refl _)]
 refine ⟨fun j=>if j=k then .slice ao cn cap else us j,h1.set k _,fun j hj=>?_,fun j hj=>?_⟩
 ·show zAQ _ (if j=k then .slice ao cn cap else us j) _
  by_cases e:j=k
  ·subst e
   rw [if_pos rfl];exact hv.setS hc _
  ·rw [if_neg e]
   exact (h2 j (by omega)).setS hc _
 ·show (if j=k then _ else us j)=_
  rw [if_neg (by omega)]
  exact h3 j (by omega)
theorem zEk.done {w:World} {g n:Nat} {ls:List (List Bool)} (h:zEk w g n n ls) (hn:n=ls.length):zAS w (.slice (some ⟨g,0,none⟩) n n) ls:=by
 obtain ⟨us,h1,h2,_⟩:=h;subst hn;refine ⟨(List.range ls.length).map us,_,_,rfl,fun h=>by simp at h,⟨by simp,fun i hi=>?_⟩,fun hne=>⟨g,0,rfl,h1.lt,fun i hi=>?_⟩⟩
 ·rw [show ((List.range ls.length).map us).getD i zNa=us i by simp [List.getD_eq_getElem?_getD,hi]]
  exact h2 i hi
 ·rw [Nat.zero_add,h1.cell hi]
  simp [List.getD_eq_getElem?_getD,hi]
theorem zF6 (va vr pv fv:Value) (co:Option Addr) (cc:Nat) (m:Mo) (ps:List (List (Int × Int))) (l:List (Int × Int)) (cs:List Int) (w:World) (hB:0 < w.heap.size) (hT:zAJ w) (hV:TaskV w va vr pv fv m ps l) (hk:zAK m ps l=0) (h12:cs.length <= 12) (hr:∀ i,i < cs.length->0 <= cs.getD i 0/\cs.getD i 0 < zAC m.vars m.vars.length) (hC:zAD w (.slice co cs.length cc) cs) :
  Calls Tryz.prog 22 #[.agg #[va,vr,pv,fv],.slice co cs.length cc] w fun e w'=>∃ g,e=.returned (.tuple #[.slice (some ⟨g,0,none⟩) cs.length cs.length,.int .i64 0])/\Below w.heap.size w w'/\Hid (zAS w' (.slice (some ⟨g,0,none⟩) cs.length cs.length) (lets m ps cs)):=by
 obtain ⟨ao,ac,rfl⟩:=hV.mo.1.shape;obtain ⟨ro,rc,rfl⟩:=hV.mo.2.shape;obtain ⟨po,pc,rfl⟩:=hV.ps.shape;obtain ⟨fo,fc,rfl,_⟩:=id hV.fo;obtain ⟨W1,hW1⟩:∃ W1,W1=w.alloc (.cells #[.slice ao m.vars.length ac,.slice ro m.rules.length rc,.slice po ps.length pc,.slice fo l.length fc] 45):=⟨_,rfl⟩
 have hb1:Below w.heap.size w W1:=by rw [hW1];exact (Below.refl _ _).alloc (Nat.le_refl _) _
 have hz1:W1.heap.size=w.heap.size+1:=by rw [hW1];simp
 have HBx:Hid (∀ w1,Below (w.heap.size+1) W1 w1->Below w.heap.size w w1/\w1.cell? ⟨w.heap.size,0,none⟩=some (.slice ao m.vars.length ac)/\w1.cell? ⟨w.heap.size,1,none⟩=some (.slice ro m.rules.length rc)/\w1.cell? ⟨w.heap.size,2,none⟩=some (.slice po ps.length pc)):=fun w1 h=>by
  have hl:w.heap.size < w.heap.size+1:=Nat.lt_succ_self _;refine ⟨hb1.trans (h.mono (Nat.le_succ _)),(h.cell (p:=⟨w.heap.size,0,none⟩) hl).trans ?_,(h.cell (p:=⟨w.heap.size,1,none⟩) hl).trans ?_,(h.cell (p:=⟨w.heap.size,2,none⟩) hl).trans ?_⟩ <;> (rw [hW1];simp [go_sem])
 have HLe:Hid (∀ (w1:World) (k:Nat),Below (w.heap.size+1) W1 w1->k < cs.length->Calls Tryz.prog 40 #[.agg #[.slice ao m.vars.length ac,.slice ro m.rules.length rc],.slice po ps.length pc,.int .i64 (cs.getD k 0)] w1 fun e w'=>∃ lo ln lc,e=.returned (.tuple #[.slice lo ln lc,.int .i64 0])/\Below w1.heap.size w1 w'/\Hid (zAQ w' (.slice lo ln lc) ((lets m ps cs).getD k []))):=fun w1 k h hkl=>by
  have h0:=hb1.trans (h.mono (Nat.le_succ _));refine (zFn _ _ _ m ps (cs.getD k 0) w1 (Nat.lt_of_lt_of_le hB h0.size) (hT.below h0 hB) (hV.mo.below h0) (hV.ps.below h0)).mono fun e w' ⟨v,e1,e2,e3⟩=>?_
  obtain ⟨lo,lc,rfl,hx⟩:=e3;exact ⟨lo,_,lc,by rw [e1,(zIf hk (hr k hkl)).1],e2,by rw [zR9 hkl];exact ⟨lo,lc,rfl,hx⟩⟩
 have HCs:Hid (∀ w1,Below (w.heap.size+1) W1 w1->∀ k,k < cs.length->∃ b off,co=some ⟨b,off,none⟩/\w1.cell? ⟨b,off+k,none⟩=some (.int .i64 (cs.getD k 0))):=fun w1 h k hkl=>by
  obtain ⟨b,off,e,hlt,hc⟩:=hC.at hkl;exact ⟨b,off,e,((hb1.trans (h.mono (Nat.le_succ _))).cell (p:=⟨b,off+k,none⟩) hlt).trans hc⟩
 have HLl:Hid (cs.length=(lets m ps cs).length):=(zFu _ _ _).symm;generalize lets m ps cs=ls at *;obtain ⟨n,hn⟩:∃ n,n=cs.length:=⟨_,rfl⟩
 rw [<- hn] at h12 HLe HCs HLl ⊢;have hmk:=run_make_row' (P:=Tryz.prog) 78 104 (.slice none 0 0) 24 Tryz.underlying78 zEw rfl .i64 .i64 n (by omega) (by omega)
 have HJ0:Hid (zEk (W1.alloc (.cells (madeCells #[.slice none 0 0] n) 104)) (w.heap.size+1) n 0 ls):=⟨fun _=>.slice none 0 0,by have h:=World.rowIs_made W1 (.slice none 0 0) n 104;rw [hz1] at h;exact h,fun j hj=>by omega,fun j _=>rfl⟩
 have HB0:Hid (Below (w.heap.size+1) W1 (W1.alloc (.cells (madeCells #[.slice none 0 0] n) 104))):=(Below.refl _ _).alloc (by omega) _
 generalize m.vars.length=vn at *;generalize m.rules.length=rn at *;generalize ps.length=pn at *;generalize l.length=fn at *;clear hT hV hk hr hC hn
 go_enter Tryz.func22,Tryz.ntmps22
 go_wp2_with fail
 rw [<- hW1];clear hW1 hz1 hb1 hmk
 go_loopw [16] (fun i wr=>∃ k:Nat,k <= n/\i=.int .i64 (k:Int)/\Hid (zEk wr (w.heap.size+1) n k ls)/\Hid (Below (w.heap.size+1) W1 wr)) (fun i _=>n - (intOf i).toNat)
 case atStart=>exact ⟨0,Nat.zero_le _,rfl,HJ0,HB0⟩
 case round=>
  obtain ⟨k,hkn,rfl,HJ,HBr⟩:=hrel;obtain ⟨hbw,a0,a1,a2⟩:=HBx.out wr HBr.out;have hs1:w.heap.size+1 < wr.heap.size:=by obtain ⟨us,h1,_⟩:=HJ.out;exact h1.lt
  by_cases hlt:k < n
  ·obtain ⟨b,off,rfl,c0⟩:=HCs.out wr HBr.out k hlt
   have hle:=HLe.out wr k HBr.out hlt;have hki:(k:Int) < (n:Int):=by omega
   have HN:Hid (∀ (w2:World) (lo:Option Addr) (ln lc:Nat),Below wr.heap.size wr w2->zAQ w2 (.slice lo ln lc) (ls.getD k [])->w2.frozen? ⟨w.heap.size+1,k,none⟩=false/\w2.cell? ⟨w.heap.size+1,k,none⟩=some (.slice none 0 0)/\Hid (zEk (w2.setCell ⟨w.heap.size+1,k,none⟩ (.slice lo ln lc)) (w.heap.size+1) n (k+1) ls)/\Hid (Below (w.heap.size+1) W1 (w2.setCell ⟨w.heap.size+1,k,none⟩ (.slice lo ln lc)))):=fun w2 lo ln lc h hv=>by
    have hj:=HJ.out.later h;refine ⟨?_,?_,hj.put hlt hv,(HBr.out.trans (h.mono (by omega))).setCell (Nat.le_refl _) _⟩
    ·obtain ⟨us,h1,_⟩:=hj
     exact h1.frozen k
    ·obtain ⟨us,h1,_,h3⟩:=hj
     rw [h1.cell hlt,h3 k (Nat.le_refl _)]
   generalize cs.getD k 0=x at *;clear HJ
   go_wp2_with (go_at_call 40;refine hle.mono ?_;rintro e w2 ⟨lo,ln,lc,rfl,hb2,HV2⟩;obtain ⟨f0,f1,HJ2,HB2⟩:=HN.out w2 lo ln lc hb2 HV2.out)
   go_roundw
   case rel=>exact ⟨k+1,by omega,by go_num,HJ2,HB2⟩
   case measure=>simp [intOf];omega
  ·obtain rfl:n=k:=by omega
   have HF:Hid (zAS wr (.slice (some ⟨w.heap.size+1,0,none⟩) n n) ls):=HJ.out.done HLl.out;clear HJ
   go_wp2_with fail
   go_ret2
   exact ⟨_,rfl,hbw,HF⟩
def Bx2 (w W2:World) (va vr pv fv sv lv:Value):Prop:=Below w.heap.size w W2/\W2.heap.size=w.heap.size+2/\∀ w1,Below W2.heap.size W2 w1->Below w.heap.size w w1/\(w1.cell? ⟨w.heap.size,0,none⟩=some va/\w1.cell? ⟨w.heap.size,1,none⟩=some vr/\w1.cell? ⟨w.heap.size,2,none⟩=some pv/\w1.cell? ⟨w.heap.size,3,none⟩=some fv)/\w1.cell? ⟨w.heap.size+1,0,none⟩=some sv/\w1.cell? ⟨w.heap.size+1,1,none⟩=some lv
theorem Bx2.new (w:World) (va vr pv fv sv lv:Value):Bx2 w ((w.alloc (.cells #[va,vr,pv,fv] 45)).alloc (.cells #[sv,lv] 48)) va vr pv fv sv lv:=by
 obtain ⟨W2,hW2⟩:∃ W2,W2=(w.alloc (.cells #[va,vr,pv,fv] 45)).alloc (.cells #[sv,lv] 48):=⟨_,rfl⟩
 rw [<- hW2];have hb2:Below w.heap.size w W2:=by rw [hW2];exact ((Below.refl _ _).alloc (Nat.le_refl _) _).alloc (by simp) _
 have hz2:W2.heap.size=w.heap.size+2:=by rw [hW2];simp
 refine ⟨hb2,hz2,fun w1 h=>?_⟩
 have hl:w.heap.size < W2.heap.size:=by omega
 have hl1:w.heap.size+1 < W2.heap.size:=by omega
 refine ⟨hb2.trans (h.mono hb2.size),⟨(h.cell (p:=⟨w.heap.size,0,none⟩) hl).trans ?_,(h.cell (p:=⟨w.heap.size,1,none⟩) hl).trans ?_,(h.cell (p:=⟨w.heap.size,2,none⟩) hl).trans ?_,(h.cell (p:=⟨w.heap.size,3,none⟩) hl).trans ?_⟩,(h.cell (p:=⟨w.heap.size+1,0,none⟩) hl1).trans ?_,(h.cell (p:=⟨w.heap.size+1,1,none⟩) hl1).trans ?_⟩ <;> (rw [hW2];simp [go_sem])
theorem zTK (va vr pv fv sv lv:Value) (m:Mo) (ps:List (List (Int × Int))) (l:List (Int × Int)) (w:World) (hB:0 < w.heap.size) (hT:zAJ w) (hV:TaskV w va vr pv fv m ps l) (hk:zAK m ps l≠0) :
  Calls Tryz.prog 9 #[.agg #[va,vr,pv,fv],.agg #[sv,lv]] w fun e w'=>e=.returned (.tuple #[.bool false,.int .i64 (zAK m ps l)])/\Below w.heap.size w w':=by
 obtain ⟨W2,hW2⟩:∃ W2,W2=(w.alloc (.cells #[va,vr,pv,fv] 45)).alloc (.cells #[sv,lv] 48):=⟨_,rfl⟩
 have hbx:Bx2 w W2 va vr pv fv sv lv:=by rw [hW2];exact Bx2.new _ _ _ _ _ _ _
 obtain ⟨hb2,hz2,HBx'⟩:=hbx;have HBx:Hid _:=HBx';have hch:=zDf va vr pv fv m ps l W2 (Nat.lt_of_lt_of_le hB hb2.size) (hT.below hb2 hB) (hV.below hb2);generalize zAK m ps l=q at *;clear hT hV HBx';rw [hW2] at hch
 go_enter Tryz.func9,Tryz.ntmps9
 go_wp2_with (go_at_call 20;refine hch.mono ?_;rintro e w1 ⟨rfl,hb1⟩;rw [<- hW2] at hb1)
 go_ret2
 exact ⟨rfl,(HBx.out w1 hb1).1⟩
theorem zTG (va vr pv fv sv lv:Value) (m:Mo) (ps:List (List (Int × Int))) (l:List (Int × Int)) (ss ll:List Int) (w:World) (hB:0 < w.heap.size) (hT:zAJ w) (hV:TaskV w va vr pv fv m ps l) (hk:zAK m ps l=0) (hS:zB1 w sv ss) (hL:zB1 w lv ll) (h1:ss.length <= 12) (h2:ll.length <= 12) (hr:zCa m ss ll=false) :
  Calls Tryz.prog 9 #[.agg #[va,vr,pv,fv],.agg #[sv,lv]] w fun e w'=>e=.returned (.tuple #[.bool false,.int .i64 11])/\Below w.heap.size w w':=by
 obtain ⟨W2,hW2⟩:∃ W2,W2=(w.alloc (.cells #[va,vr,pv,fv] 45)).alloc (.cells #[sv,lv] 48):=⟨_,rfl⟩
 have hbx:Bx2 w W2 va vr pv fv sv lv:=by rw [hW2];exact Bx2.new _ _ _ _ _ _ _
 obtain ⟨hb2,hz2,HBx'⟩:=hbx;have HBx:Hid _:=HBx';have hch:=zDf va vr pv fv m ps l W2 (Nat.lt_of_lt_of_le hB hb2.size) (hT.below hb2 hB) (hV.below hb2);rw [hk] at hch;have hm:=(zBJ (zFU hk).1).1
 have HRu:Hid (∀ w1,Below w.heap.size w w1->Calls Tryz.prog 21 #[.agg #[va,vr],.agg #[sv,lv]] w1 fun e w'=>e=.returned (.tuple #[.bool false,.int .i64 0])/\Below w1.heap.size w1 w'):=fun w1 h=>by
  have h9:=zKY va vr sv lv m ss ll w1 (Nat.lt_of_lt_of_le hB h.size) (hT.below h hB) (hV.mo.below h) (hS.below h) (hL.below h) (by omega)
  rw [hr,hm] at h9;exact h9
 obtain ⟨so,sc,rfl,_⟩:=id hS;obtain ⟨lo,lc,rfl,_⟩:=id hL;obtain ⟨ao,ac,rfl⟩:=hV.mo.1.shape;obtain ⟨ro,rc,rfl⟩:=hV.mo.2.shape;generalize ss.length=sn at *;generalize ll.length=ln at *;generalize m.vars.length=vn at *;generalize m.rules.length=rn at *;clear hT hV HBx' hk hS hL hr hm;rw [hW2] at hch;have h2i:¬ (12:Int) < (ln:Int):=by omega
 have h1i:¬ (12:Int) < (sn:Int):=by omega
 go_enter Tryz.func9,Tryz.ntmps9
 go_wp2_with (first | (go_at_call 20;refine hch.mono ?_;rintro e w1 ⟨rfl,hb1⟩;rw [<- hW2] at hb1;obtain ⟨hbw,⟨k0,k1,k2,k3⟩,k4,k5⟩:=HBx.out w1 hb1;have hru:=HRu.out w1 hbw) | (go_at_call 21;refine hru.mono ?_;rintro e w3 ⟨rfl,hb3⟩))
 go_ret2
 exact ⟨rfl,hbw.trans (hb3.mono hbw.size)⟩
theorem zRA (va vr pv fv sv lv:Value) (m:Mo) (ps:List (List (Int × Int))) (l:List (Int × Int)) (ss ll:List Int) (t:Tm) (w:World) (hB:0 < w.heap.size) (hT:zAJ w) (hV:TaskV w va vr pv fv m ps l) (hk:zAK m ps l=0) (hS:zB1 w sv ss) (hL:zB1 w lv ll) (h1:ss.length <= 12) (h2:ll.length <= 12) (hr:zCa m ss ll=true) (hwf:t.Wf) (hto:t.ops=l) :
  Calls Tryz.prog 9 #[.agg #[va,vr,pv,fv],.agg #[sv,lv]] w fun e w'=>e=.returned (.tuple #[.bool (t.hb (sig (lets m ps ss++lets m ps ll) ss.length) 0),.int .i64 0])/\Below w.heap.size w w':=by
 obtain ⟨W2,hW2⟩:∃ W2,W2=(w.alloc (.cells #[va,vr,pv,fv] 45)).alloc (.cells #[sv,lv] 48):=⟨_,rfl⟩
 have hbx:Bx2 w W2 va vr pv fv sv lv:=by rw [hW2];exact Bx2.new _ _ _ _ _ _ _
 obtain ⟨hb2,hz2,HBx'⟩:=hbx;have HBx:Hid _:=HBx';have hch:=zDf va vr pv fv m ps l W2 (Nat.lt_of_lt_of_le hB hb2.size) (hT.below hb2 hB) (hV.below hb2);rw [hk] at hch;have hm:=(zBJ (zFU hk).1).1
 have HRu:Hid (∀ w1,Below w.heap.size w w1->Calls Tryz.prog 21 #[.agg #[va,vr],.agg #[sv,lv]] w1 fun e w'=>e=.returned (.tuple #[.bool true,.int .i64 0])/\Below w1.heap.size w1 w'):=fun w1 h=>by
  have h9:=zKY va vr sv lv m ss ll w1 (Nat.lt_of_lt_of_le hB h.size) (hT.below h hB) (hV.mo.below h) (hS.below h) (hL.below h) (by omega)
  rw [hr,hm] at h9;exact h9
 obtain ⟨so,sc,rfl,_⟩:=id hS;obtain ⟨lo,lc,rfl,_⟩:=id hL
 have HL1:Hid (∀ w1,Below w.heap.size w w1->Calls Tryz.prog 22 #[.agg #[va,vr,pv,fv],.slice so ss.length sc] w1 fun e w'=>∃ g,e=.returned (.tuple #[.slice (some ⟨g,0,none⟩) ss.length ss.length,.int .i64 0])/\Below w1.heap.size w1 w'/\Hid (zAS w' (.slice (some ⟨g,0,none⟩) ss.length ss.length) (lets m ps ss))):=fun w1 h=>zF6 va vr pv fv so sc m ps l ss w1 (Nat.lt_of_lt_of_le hB h.size) (hT.below h hB) (hV.below h) hk h1 (zGZ hr).1 (hS.below h).w.v
 have HL2:Hid (∀ w1,Below w.heap.size w w1->Calls Tryz.prog 22 #[.agg #[va,vr,pv,fv],.slice lo ll.length lc] w1 fun e w'=>∃ g,e=.returned (.tuple #[.slice (some ⟨g,0,none⟩) ll.length ll.length,.int .i64 0])/\Below w1.heap.size w1 w'/\Hid (zAS w' (.slice (some ⟨g,0,none⟩) ll.length ll.length) (lets m ps ll))):=fun w1 h=>zF6 va vr pv fv lo lc m ps l ll w1 (Nat.lt_of_lt_of_le hB h.size) (hT.below h hB) (hV.below h) hk h2 (zGZ hr).2 (hL.below h).w.v
 have HHo:Hid (∀ (w1:World) (x y:Value),Below w.heap.size w w1->zAS w1 x (lets m ps ss)->zAS w1 y (lets m ps ll)->Calls Tryz.prog 23 #[fv,.agg #[x,y],.int .i64 (ps.length:Int)] w1 fun e w'=>e=.returned (.tuple #[.bool (t.hb (sig (lets m ps ss++lets m ps ll) ss.length) 0),.int .i64 0])/\Below w1.heap.size w1 w'):=fun w1 x y h hx hy=>by
  have h9:=zP3 fv x y l (lets m ps ss) (lets m ps ll) ps.length t w1 (Nat.lt_of_lt_of_le hB h.size) (hT.below h hB) (hV.fo.below h) hx hy (zRC hk h1 h2 hr) hwf hto;rw [zFu] at h9;exact h9
 obtain ⟨ao,ac,rfl⟩:=hV.mo.1.shape;obtain ⟨ro,rc,rfl⟩:=hV.mo.2.shape;obtain ⟨po,pc,rfl⟩:=hV.ps.shape;obtain ⟨fo,fc,rfl,_⟩:=id hV.fo;generalize t.hb (sig (lets m ps ss++lets m ps ll) ss.length) 0=res at *;generalize lets m ps ss=Ls at *;generalize lets m ps ll=Ll at *;generalize ss.length=sn at *;generalize ll.length=ln at *;generalize m.vars.length=vn at *
 generalize m.rules.length=rn at *;generalize ps.length=pn at *;generalize l.length=fn at *;clear hT hV HBx' hk hS hL hr hm hto;rw [hW2] at hch;have h2i:¬ (12:Int) < (ln:Int):=by omega
 have h1i:¬ (12:Int) < (sn:Int):=by omega
 have tk1:=True.intro
 go_enter Tryz.func9,Tryz.ntmps9
 go_wp2_with (first | (go_at_call 20;refine hch.mono ?_;rintro e w1 ⟨rfl,hb1⟩;rw [<- hW2] at hb1;obtain ⟨hbw,⟨k0,k1,k2,k3⟩,k4,k5⟩:=HBx.out w1 hb1;have hru:=HRu.out w1 hbw) | (go_at_call 21;refine hru.mono ?_;rintro e w3 ⟨rfl,hb3⟩;have hb13:=hb1.trans (hb3.mono hb1.size);obtain ⟨hbw3,⟨m0,m1,m2,m3⟩,m4,m5⟩:=HBx.out w3 hb13;have hl1:=HL1.out w3 hbw3) | (clear tk1;go_at_call 22;refine hl1.mono ?_;rintro e w4 ⟨g1,rfl,hb4,HW1⟩;have hb14:=hb13.trans (hb4.mono hb13.size);obtain ⟨hbw4,⟨n0,n1,n2,n3⟩,n4,n5⟩:=HBx.out w4 hb14;have hl2:=HL2.out w4 hbw4) | (go_at_call 22;refine hl2.mono ?_;rintro e w5 ⟨g2,rfl,hb5,HW2⟩;have hb15:=hb14.trans (hb5.mono hb14.size);obtain ⟨hbw5,⟨p0,p1,p2,p3⟩,p4,p5⟩:=HBx.out w5 hb15;have hho:=HHo.out w5 _ _ hbw5 (HW1.out.below hb5) HW2.out) | (go_at_call 23;refine hho.mono ?_;rintro e w6 ⟨rfl,hb6⟩))
 go_ret2
 exact ⟨rfl,hbw5.trans (hb6.mono hbw5.size)⟩
