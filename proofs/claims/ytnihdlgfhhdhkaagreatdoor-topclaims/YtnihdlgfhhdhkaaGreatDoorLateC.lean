/- Joined texts. -/
import Derived.Test.YtnihdlgfhhdhkaaGreatDoorLateB
import Derived.Maps.Own
namespace Go.Proofs.YtnihdlgfhhdhkaaGreatDoor
open Go.ChangeShapes Go.WideShapes Go.ChangeAt Go.RowKit Go.Deep
open Terms
set_option maxHeartbeats 6400000
set_option maxRecDepth 20000
structure IntsR (w:World) (v:Value) (l:List Int):Prop where
 v:zAI w v l
 len:l.length <= 140737488355328
 range:∀ i,i < l.length->I64 (l.getD i 0)
theorem IntsR.below {w w':World} {v:Value} {l:List Int} (h:IntsR w v l) (hb:Below w.heap.size w w'):IntsR w' v l:=⟨h.v.below hb,h.len,h.range⟩
theorem zMB {w w':World} {base:Nat} {e:TypeId} {s n:Nat} {v:Value} {xs:List Value} (h:w.ownsRow base e s v n xs) (hs:∀ g,base <= g->g < w.heap.size->w'.heap[g]? = w.heap[g]?):w'.ownsRow base e s v n xs:=by
 refine ⟨h.1,?_⟩
 rcases h.2 with h2 | ⟨g,cap,cur,hv,hg,hh,r⟩
 ·exact .inl h2
 ·exact .inr ⟨g,cap,cur,hv,hg,(hs g hg (Array.getElem?_eq_some_iff.1 hh).1).trans hh,r⟩
theorem zMg {ts:List (List (Int × Int))} {i:Nat} (hi:i < ts.length):(ts.take (i+1)).flatten=(ts.take i).flatten++ts.getD i []:=by
 rw [List.take_succ_eq_append_getElem hi,List.flatten_append];simp [List.getD_eq_getElem?_getD,hi]
theorem zLM (kind:Int) (v:Value) (ts:List (List (Int × Int))) (w:World) (hn:ts.length <= 10) (hl:∀ i,i <= ts.length->(ts.take i).flatten.length <= 200) (hne:∀ i,i < ts.length->ts.getD i []≠[]) (hV:zBB w v ts) :
  Calls Tryz.prog 32 #[.int .i64 kind,v] w fun e w'=>∃ v',e=.returned v'/\Below w.heap.size w w'/\w'.ownsRow w.heap.size 106 2 v' ((kind,0):: ts.flatten).length (zAe ((kind,0):: ts.flatten)):=by
 obtain ⟨i0,hi,hz0,hz1,hz2⟩:=info_parts zMX;obtain ⟨va,vc,rfl,hat⟩:=hV;obtain ⟨n,hnn⟩:∃ n,n=ts.length:=⟨_,rfl⟩
 have HN:Hid (n=ts.length):=hnn;have HL:=(show Hid _ from hl)
 have HNE:=(show Hid _ from hne)
 have HA:=(show Hid _ from hat)
 rw [<- hnn] at hn ⊢;clear hl hne hat hnn
 go_enter Tryz.func32,Tryz.ntmps32
 go_wp2_with fail
 go_loopw [5,6] (fun out c wr=>∃ i:Nat,i <= n/\c=.int .i64 i/\wr.ownsRow w.heap.size 106 2 out ((ts.take i).flatten.length+1) (zAe ((kind,0):: (ts.take i).flatten))/\Below w.heap.size w wr) (fun _ c _=>n - (intOf c).toNat)
 case atStart=>exact ⟨0,Nat.zero_le _,rfl,World.ownsRow_lit w #[.int .i64 kind,.int .i64 0] 1 (Nat.le_refl _) (by unfold maxLen;omega) rfl,(Below.refl _ _).alloc (Nat.le_refl _) _⟩
 case round=>
  obtain ⟨i,hile,rfl,hown,hbel⟩:=hrel
  by_cases hlt:i < n
  ·have hlt':i < ts.length:=by rw [<- HN.out];exact hlt
   obtain ⟨b,off,rfl,hbl,hcs⟩:=HA.out (by intro h;rw [h] at hlt';simp at hlt')
   obtain ⟨u,hu,hou⟩:=hcs i hlt';have hcu:=(hbel.cell (p:=⟨b,off+i,none⟩) hbl).trans hu;obtain ⟨ua,uc,hus,_,huat⟩:=hou.below hbel;obtain ⟨ub,uoff,rfl,hubl,huat⟩:=huat (HNE.out i hlt');have HS:Hid ((ts.take (i+1)).flatten=(ts.take i).flatten++ts.getD i []):=zMg hlt';have hl1:=HL.out (i+1) (by omega)
   rw [HS.out,List.length_append] at hl1;have HC:Hid (∀ j x,(zAe (ts.getD i []))[j]? = some x->wr.cell? ((⟨ub,uoff,none⟩:Addr).add j)=some x):=huat.cells
   obtain ⟨m,hm⟩:∃ m,m=(ts.getD i []).length:=⟨_,rfl⟩
   have HM:Hid (m=(ts.getD i []).length):=hm;rw [<- hm] at hus hl1;subst hus;obtain ⟨q,hq⟩:∃ q,q=(ts.take i).flatten.length:=⟨_,rfl⟩
   have HQ:Hid (q=(ts.take i).flatten.length):=hq;rw [<- hq] at hown hl1;clear hou hu hcs huat hm hq hlt';generalize ts.getD i []=tt at HC HM HS
   go_wp2_with (at_builtin;refine wpList_append_own _ rfl (.tmp 16) (.tmp 20) 33 rfl w.heap.size 106 i0 (.agg #[.int .i64 0,.int .i64 0]) 2 16 Tryz.underlying33 hi hz0 hz1 hz2 rfl (by decide) _ _ _ rfl hown ⟨ub,uoff,none⟩ m uc (zAe tt) rfl ?c0 HC.out (zN4 _) ?c3 ?c4 ?c5 ?_)
   case c0=>rw [zF2,HM.out]
   case c3=>unfold maxLen;omega
   case c4=>omega
   case c5=>exact hbel.size
   intro v' w4 hown' hgrow _;have hb4:Below w.heap.size w w4:=hbel.grown hgrow hbel.size (fun k hk=>(hown.lt k hk).1)
   have ho4:w4.ownsRow w.heap.size 106 2 v' ((ts.take (i+1)).flatten.length+1) (zAe ((kind,0):: (ts.take (i+1)).flatten)):=by
    have e1:(ts.take (i+1)).flatten.length+1=q+1+m:=by rw [HS.out,List.length_append,<- HQ.out,<- HM.out];omega
    have e2:zAe ((kind,0):: (ts.take (i+1)).flatten)=zAe ((kind,0):: (ts.take i).flatten)++zAe tt:=by rw [HS.out,<- zEK];rfl
    rw [e1,e2];exact hown'
   clear hown' hgrow hown
   go_wp2
   go_roundw
   case rel=>exact ⟨i+1,by omega,by go_num,ho4,hb4⟩
   case measure=>simp [intOf];omega
  ·have hin:i=n:=by omega
   subst hin;rw [show ts.take i=ts by rw [HN.out,List.take_length]] at hown
   clear hlt hile
   go_wp2_with fail
   go_ret
   exact ⟨_,rfl,hbel,hown⟩
theorem zHR (kind:Int) (g:Nat) (lv mv:Value) (l m:List (Int × Int)) (w:World) (hc:w.cell? ⟨g,0,none⟩=some lv) (hd:w.cell? ⟨g,1,none⟩=some mv) (hl:l.length <= 60) (hm:m.length <= 60) (hne:l≠[]) (hne2:m≠[]) (hV:zAX w lv l) (hM:zAX w mv m) :
  Calls Tryz.prog 32 #[.int .i64 kind,.slice (some ⟨g,0,none⟩) 2 2] w fun e w'=>∃ a c,e=.returned (.slice a ((kind,0):: (l++m)).length c)/\Below w.heap.size w w'/\zAX w' (.slice a ((kind,0):: (l++m)).length c) ((kind,0):: (l++m)):=by
 have hT:zBB w (.slice (some ⟨g,0,none⟩) 2 2) [l,m]:=⟨_,2,rfl,fun _=>⟨g,0,rfl,World.block_lt_of_cell? w ⟨g,0,none⟩ hc,fun i hi=>by
  have:i=0\/i=1:=by simp at hi;omega
  rcases this with rfl | rfl
  ·exact ⟨lv,hc,hV⟩
  ·exact ⟨mv,hd,hM⟩⟩⟩
 refine (zLM kind _ [l,m] w (by simp) (fun i hi=>?_) (fun i hi=>?_) hT).mono fun e w' ⟨v',he,hb,ho⟩=>?_
 ·have:i=0\/i=1\/i=2:=by simp at hi;omega
  rcases this with rfl | rfl | rfl <;> simp <;> omega
 ·have:i=0\/i=1:=by simp at hi;omega
  rcases this with rfl | rfl
  ·exact hne
  ·exact hne2
 ·have h2:[l,m].flatten=l++m:=by simp
  rw [h2] at ho;obtain ⟨a,c,rfl⟩:=zAm ho;exact ⟨a,c,he,hb,zC2 ho⟩
end Go.Proofs.YtnihdlgfhhdhkaaGreatDoor
namespace Go.Proofs.YtnihdlgfhhdhkaaGreatDoor
open Go.ChangeShapes Go.WideShapes Go.ChangeAt Go.RowKit Go.Deep Go.Joins
open Terms
set_option maxHeartbeats 6400000
set_option maxRecDepth 20000
theorem Raws.up {w w':World} {v:Value} {rs:List (Int × Int)} (h:Raws w w.heap.size v rs) (hb:Below w.heap.size w w'):Raws w' w'.heap.size v rs:=by
 obtain ⟨⟨ao,cap,hv,h1⟩,h2,h3⟩:=h;refine ⟨⟨ao,cap,hv,fun hne=>?_⟩,h2,h3⟩
 obtain ⟨b,off,ha,hlt,hat⟩:=h1 hne;exact ⟨b,off,ha,Nat.lt_of_lt_of_le hlt hb.size,hat.below hb hlt⟩
section
variable {H : Type} {enc : TypeId × Value -> H} {W : World}
theorem zMA:Tryz.prog.bytesOf 3=8:=by kernel_rfl
theorem zJO {fuel:Nat} {v:Value} {d:DataW H} {p:List MemPlace} (hf:DataW.trod enc Tryz.prog W 0 (fun _=>true) true fuel 27 [v]=some (d,p)) (hw:zFI 27 d):∃ l,IntsR W v l:=by
 rcases open_slice1 Tryz.underlying27 zCQ hf with ⟨hcs,hx⟩ | ⟨a,len,cap,m,n,V,D,Pl,hcs,_,hl,hm,hmm,hx,hcell⟩
 ·simp at hcs
  subst hcs;exact ⟨[],⟨none,0,rfl,fun h=>absurd rfl h⟩,by simp,fun i hi=>by simp at hi⟩
 ·simp at hcs
  subst hcs;simp at hmm
  subst hmm;rw [(Prod.mk.inj hx).1] at hw;have hs:=(hw.slice Tryz.underlying27).1;rw [zMA] at hs;simp only [List.length_map,List.length_range,reachBytes] at hs
  have each:∀ i,i < len->∃ x0,W.cell? (a.add i)=some (.int .i64 x0)/\V i=.int .i64 x0/\I64 x0:=by
   intro i hi;obtain ⟨c0,t0⟩:=hcell i (by omega)
   obtain ⟨x0,e0,_,w0⟩:=DataW.trod_int Tryz.underlying3 t0;simp at e0
   exact ⟨x0,by rw [c0,e0],e0,by simpa [I64,Lit.wf,IntKind.min,IntKind.max,IntKind.signed,IntKind.bits] using w0⟩
  refine ⟨(List.range len).map fun i=>intOf (V i),⟨some a,m,by simp,fun hne=>?_⟩,by simp;omega,fun i hi=>?_⟩
  ·have hpos:0 < len:=by
    rcases Nat.eq_zero_or_pos len with h0 | h0
    ·subst h0;simp at hne
    ·exact h0
   obtain ⟨b,off,spot⟩:=a;have hspot:spot=none:=by simpa [Addr.add] using World.cell?_spot (hcell 0 (by omega)).1
   subst hspot;refine ⟨b,off,rfl,?_,fun i hi=>?_⟩
   ·have:=World.block_lt_of_cell? W _ (hcell 0 (by omega)).1
    simpa [Addr.add] using this
   ·simp only [List.length_map,List.length_range] at hi
    obtain ⟨x0,c0,e0,_⟩:=each i hi;rw [add_plain] at c0;rw [c0,zG2 _ _ hi,e0];rfl
  ·simp only [List.length_map,List.length_range] at hi
   obtain ⟨x0,_,e0,h0⟩:=each i hi;rw [zG2 _ _ hi,e0];exact h0
end
end Go.Proofs.YtnihdlgfhhdhkaaGreatDoor
namespace Go.Proofs.YtnihdlgfhhdhkaaGreatDoor
open Go.ChangeShapes Go.WideShapes Go.ChangeAt Go.RowKit Go.Deep
open Terms
set_option maxHeartbeats 6400000
set_option maxRecDepth 20000
theorem zLR {H:Type} {enc:TypeId × Value->H} {W:World} {base:Nat} {v:Value} {d:DataW H} {p:List MemPlace} {ts:List TypeId} {ds:List (DataW H)} {j:Nat}
  (hv:Value.okWide Tryz.prog W .any base 27 v) (h:DataW.Trod enc Tryz.prog W 0 (fun _=>true) true 27 v d p)
  (hsz:(DataW.weightsEach Tryz.prog ts ds).all (· <= reachBytes)=true) (ht:ts[j]? = some 27) (hd:ds[j]? = some d):∃ l,IntsR W v l:=by
 obtain ⟨a0,len0,cap0,rfl⟩:=okWide_slice Tryz.underlying27 hv;obtain ⟨fuel,hf⟩:=h
 have hw:zFI 27 d:=fun n hn=>by
  have:=List.all_eq_true.1 hsz _ (DataW.weights_mem_each ht hd n hn);simpa using this
 exact zJO (fuel:=fuel) hf hw
end Go.Proofs.YtnihdlgfhhdhkaaGreatDoor
namespace Go.Proofs.YtnihdlgfhhdhkaaGreatDoor
open Go.ChangeShapes Go.WideShapes Go.ChangeAt Go.RowKit Go.Deep
open Terms Tm
set_option maxHeartbeats 6400000
set_option maxRecDepth 20000
theorem zBB.shape {w:World} {v:Value} {ts:List (List (Int × Int))} (h:zBB w v ts):∃ ao cap,v=.slice ao ts.length cap:=by
 obtain ⟨ao,cap,h1,_⟩:=h;exact ⟨ao,cap,h1⟩
theorem zBB.at {w:World} {ao:Option Addr} {cap n:Nat} {ts:List (List (Int × Int))} (h:zBB w (.slice ao n cap) ts) {i:Nat} (hi:i < ts.length):∃ b off,ao=some ⟨b,off,none⟩/\b < w.heap.size/\∃ u,w.cell? ⟨b,off+i,none⟩=some u/\zAX w u (ts.getD i []):=by
 obtain ⟨ao',cap',h1,h3⟩:=h
 injection h1 with e1 e2 e3
 subst e1;obtain ⟨b,off,e,hb,hh⟩:=h3 (by intro h;subst h;simp at hi)
 exact ⟨b,off,e,hb,hh i hi⟩
theorem zJh (va vr pv:Value) (m:Mo) (ps:List (List (Int × Int))) (w:World) (hB:0 < w.heap.size) (hT:zAJ w) (hV:zAU w va vr m) (hP:zBB w pv ps) (h:mcode m=0) (hl6:ps.length <= 6) :
  Calls Tryz.prog 24 #[.agg #[va,vr],pv] w fun e w'=>e=.returned (.int .i64 (zAY (fun i=>kcode m.vars.length (ps.getD i []) true) ps.length))/\Below w.heap.size w w':=by
 have hA:∀ o,Below w.heap.size w (w.alloc o):=fun o=>(Below.refl _ _).alloc (Nat.le_refl _) o
 have hch:=fun o=>zBD va vr m (w.alloc o) (Nat.lt_of_lt_of_le hB (hA o).size) (hT.below (hA o) hB) (hV.below (hA o))
 rw [h] at hch;have h6:=(zAn h).1;obtain ⟨ao,cap,rfl⟩:=hV.1.shape;obtain ⟨ro,rc,rfl⟩:=hV.2.shape;obtain ⟨po,pc,rfl⟩:=hP.shape;have HP:Hid (zBB w (.slice po ps.length pc) ps):=hP;have HT:Hid (zAJ w):=hT;obtain ⟨n,hn⟩:∃ n,n=ps.length:=⟨_,rfl⟩
 have HN:Hid (n=ps.length):=hn;rw [<- hn] at hl6 HP ⊢;generalize m.vars.length=vn at *;generalize m.rules.length=rn at *;clear hV hT hP hn h;obtain ⟨f,hf⟩:∃ f:Nat->Int,f=fun i=>kcode vn (ps.getD i []) true:=⟨_,rfl⟩
 rw [<- hf];have HF:Hid (f=fun i=>kcode vn (ps.getD i []) true):=hf
 clear hf
 go_enter Tryz.func24,Tryz.ntmps24
 go_wp2_with (go_at_call 34;refine (hch _).mono ?_;rintro e w1 ⟨rfl,hb1⟩)
 have hb1':Below (w.heap.size+1) (w.alloc (.cells #[.slice ao vn cap,.slice ro rn rc] 31)) w1:=hb1.mono (by simp)
 clear hch hb1
 go_loopw [19] (fun i wr=>∃ k:Nat,k <= n/\i=.int .i64 k/\Hid (∀ j,j < k->f j=0)/\Below (w.heap.size+1) (w.alloc (.cells #[.slice ao vn cap,.slice ro rn rc] 31)) wr) (fun i _=>n - (intOf i).toNat)
 case atStart=>exact ⟨0,Nat.zero_le _,rfl,fun j hj=>by omega,hb1'⟩
 case round=>
  obtain ⟨k,hk,rfl,HJ,hbel⟩:=hrel;clear hb1';have hbw:=(hA _).trans (hbel.mono (Nat.le_succ _));have hszb:w.heap.size+1 <= wr.heap.size:=by have:=hbel.size;simp at this;omega
  have cb:=(hbel.cell (p:=⟨w.heap.size,0,none⟩) (by simp)).trans (show _=some (.slice ao vn cap) by simp [go_sem])
  by_cases hlt:k < n
  ·obtain ⟨b,off,rfl,hblt,u,c0',hO⟩:=HP.out.at (i:=k) (by rw [<- HN.out];exact hlt)
   have HFk:Hid (f k=kcode vn (ps.getD k []) true):=by show _=_;rw [HF.out]
   have HHit:Hid (∀ c,f k=c->c≠0->zAY f n=c):=fun c h1 h2=>by rw [zDM hlt HJ.out (by rw [h1];exact h2),h1]
   have HStep:Hid (f k=0->∀ j,j < k+1->f j=0):=fun h0 j hj=>by
    by_cases hjk:j=k
    ·subst hjk;exact h0
    ·exact HJ.out j (by omega)
   generalize ps.getD k []=p at *;obtain ⟨ua,uc,rfl⟩:=hO.shape;have c0:=(hbw.cell (p:=⟨b,off+k,none⟩) hblt).trans c0';have hcm:=zCc _ p vn true wr (Nat.lt_of_lt_of_le hB hbw.size) (HT.out.below hbw hB) (hO.below hbw);generalize p.length=pn at *;obtain ⟨x,hx⟩:∃ x,kcode vn p true=x:=⟨_,rfl⟩
   rw [hx] at hcm HFk;clear HJ c0' hO hx HF
   by_cases hx0:x=0
   ·subst hx0
    have HJ2:=(show Hid _ from HStep.out HFk.out)
    clear HStep HHit HFk
    go_wp2_with (go_at_call 46;refine hcm.mono ?_;rintro e w3 ⟨rfl,hb3⟩)
    go_roundw
    case rel=>exact ⟨k+1,hlt,by go_num,HJ2,hbel.trans (hb3.mono hszb)⟩
    case measure=>simp [intOf];omega
   ·have HR:Hid (zAY f n=x):=HHit.out x HFk.out hx0
    clear HStep HHit HFk
    go_wp2_with (go_at_call 46;refine hcm.mono ?_;rintro e w3 ⟨rfl,hb3⟩)
    go_ret
    rw [HR.out];exact ⟨rfl,hbw.trans (hb3.mono hbw.size)⟩
  ·have hkn:k=n:=by omega
   have HR:Hid (zAY f n=0):=zBC (fun j hj=>HJ.out j (by omega))
   go_wp2
   go_ret
   rw [HR.out];exact ⟨rfl,hbw⟩
theorem zGZ (va vr pv:Value) (m:Mo) (ps:List (List (Int × Int))) (w:World) (hB:0 < w.heap.size) (hT:zAJ w) (hV:zAU w va vr m) (hP:zBB w pv ps) :
  Calls Tryz.prog 24 #[.agg #[va,vr],pv] w fun e w'=>e=.returned (.int .i64 (zBz m ps))/\Below w.heap.size w w':=by
 unfold zBz
 by_cases h:mcode m=0
 ·rw [if_pos h]
  by_cases h6:6 < ps.length
  ·rw [if_pos h6]
   have hA:∀ o,Below w.heap.size w (w.alloc o):=fun o=>(Below.refl _ _).alloc (Nat.le_refl _) o
   have hch:=fun o=>zBD va vr m (w.alloc o) (Nat.lt_of_lt_of_le hB (hA o).size) (hT.below (hA o) hB) (hV.below (hA o))
   rw [h] at hch;obtain ⟨ao,cap,rfl⟩:=hV.1.shape;obtain ⟨ro,rc,rfl⟩:=hV.2.shape;obtain ⟨po,pc,rfl⟩:=hP.shape;generalize m.vars.length=vn at *;generalize m.rules.length=rn at *;generalize ps.length=n at *;clear hV hT hP h
   go_enter Tryz.func24,Tryz.ntmps24
   go_wp2_with (go_at_call 34;refine (hch _).mono ?_;rintro e w1 ⟨rfl,hb1⟩)
   go_ret
   exact ⟨rfl,(hA _).trans (hb1.mono (hA _).size)⟩
  ·rw [if_neg h6]
   exact zJh va vr pv m ps w hB hT hV hP h (by omega)
 ·rw [if_neg h]
  have hA:∀ o,Below w.heap.size w (w.alloc o):=fun o=>(Below.refl _ _).alloc (Nat.le_refl _) o
  have hch:=fun o=>zBD va vr m (w.alloc o) (Nat.lt_of_lt_of_le hB (hA o).size) (hT.below (hA o) hB) (hV.below (hA o))
  obtain ⟨ao,cap,rfl⟩:=hV.1.shape;obtain ⟨ro,rc,rfl⟩:=hV.2.shape;obtain ⟨po,pc,rfl⟩:=hP.shape;generalize mcode m=x at *;generalize m.vars.length=vn at *;generalize m.rules.length=rn at *;generalize ps.length=n at *;clear hV hT hP
  go_enter Tryz.func24,Tryz.ntmps24
  go_wp2_with (go_at_call 34;refine (hch _).mono ?_;rintro e w1 ⟨rfl,hb1⟩)
  go_ret
  exact ⟨rfl,(hA _).trans (hb1.mono (hA _).size)⟩
noncomputable def zAO (m:Mo) (ps:List (List (Int × Int))) (l:List (Int × Int)):Int:=if zBz m ps≠0 then zBz m ps else zAQ ps.length l
structure TaskV (w:World) (va vr pv fv:Value) (m:Mo) (ps:List (List (Int × Int))) (l:List (Int × Int)):Prop where
 mo:zAU w va vr m
 ps:zBB w pv ps
 fo:zAX w fv l
theorem TaskV.below {w w':World} {va vr pv fv:Value} {m:Mo} {ps:List (List (Int × Int))} {l:List (Int × Int)} (h:TaskV w va vr pv fv m ps l) (hb:Below w.heap.size w w'):TaskV w' va vr pv fv m ps l:=⟨h.mo.below hb,h.ps.below hb,h.fo.below hb⟩
theorem zCz (va vr pv fv:Value) (m:Mo) (ps:List (List (Int × Int))) (l:List (Int × Int)) (w:World) (hB:0 < w.heap.size) (hT:zAJ w) (hV:TaskV w va vr pv fv m ps l) :
  Calls Tryz.prog 20 #[.agg #[va,vr,pv,fv]] w fun e w'=>e=.returned (.int .i64 (zAO m ps l))/\Below w.heap.size w w':=by
 have hA:∀ o,Below w.heap.size w (w.alloc o):=fun o=>(Below.refl _ _).alloc (Nat.le_refl _) o
 have HP:Hid (∀ w1,Below w.heap.size w w1->Calls Tryz.prog 24 #[.agg #[va,vr],pv] w1 fun e w'=>e=.returned (.int .i64 (zBz m ps))/\Below w1.heap.size w1 w'):=fun w1 h=>zGZ va vr pv m ps w1 (Nat.lt_of_lt_of_le hB h.size) (hT.below h hB) (hV.mo.below h) (hV.ps.below h)
 have HL:Hid (∀ w1,Below w.heap.size w w1->Calls Tryz.prog 42 #[fv,.int .i64 (ps.length:Int)] w1 fun e w'=>e=.returned (.int .i64 (zAQ ps.length l))/\Below w1.heap.size w1 w'):=fun w1 h=>zKp fv l ps.length w1 (Nat.lt_of_lt_of_le hB h.size) (hT.below h hB) (hV.fo.below h)
 unfold zAO;obtain ⟨ao,ac,rfl⟩:=hV.mo.1.shape;obtain ⟨ro,rc,rfl⟩:=hV.mo.2.shape;obtain ⟨po,pc,rfl⟩:=hV.ps.shape;obtain ⟨fo,fc,rfl,_⟩:=id hV.fo;generalize zBz m ps=x at *;generalize zAQ ps.length l=y at *;generalize m.vars.length=vn at *;generalize m.rules.length=rn at *;generalize ps.length=pn at *;generalize l.length=fn at *;clear hV hT
 have hp:=HP.out _ (hA (.cells #[.slice ao vn ac,.slice ro rn rc,.slice po pn pc,.slice fo fn fc] 35))
 have HB:Hid (∀ w1,Below (w.heap.size+1) (w.alloc (.cells #[.slice ao vn ac,.slice ro rn rc,.slice po pn pc,.slice fo fn fc] 35)) w1->w1.cell? ⟨w.heap.size,2,none⟩=some (.slice po pn pc)/\w1.cell? ⟨w.heap.size,3,none⟩=some (.slice fo fn fc)):=fun w1 h=>⟨(h.cell (p:=⟨w.heap.size,2,none⟩) (Nat.lt_succ_self _)).trans (by simp [go_sem]),(h.cell (p:=⟨w.heap.size,3,none⟩) (Nat.lt_succ_self _)).trans (by simp [go_sem])⟩
 by_cases hx:x=0
 ·subst hx
  rw [if_neg (by simp)]
  go_enter Tryz.func20,Tryz.ntmps20
  go_wp2_with (first | (go_at_call 24;refine hp.mono ?_;rintro e w1 ⟨rfl,hb1⟩;have hbw:=(hA _).trans (hb1.mono (hA _).size);have hq:=HB.out w1 (by simpa using hb1);have k0:=hq.1;have k1:=hq.2;have hl:=HL.out w1 hbw) | (go_at_call 42;refine hl.mono ?_;rintro e w2 ⟨rfl,hb2⟩))
  go_ret
  exact ⟨rfl,hbw.trans (hb2.mono hbw.size)⟩
 ·rw [if_pos hx]
  go_enter Tryz.func20,Tryz.ntmps20
  go_wp2_with (go_at_call 24;refine hp.mono ?_;rintro e w1 ⟨rfl,hb1⟩;have hbw:=(hA _).trans (hb1.mono (hA _).size))
  go_ret
  exact ⟨rfl,hbw⟩
theorem zAx {m:Mo} {ps:List (List (Int × Int))} {l:List (Int × Int)} (h:zAO m ps l=0):zBz m ps=0/\zAQ ps.length l=0:=by
 unfold zAO at h
 split at h
 ·rename_i h1
  exact absurd h h1
 ·rename_i h1
  exact ⟨by simpa using h1,h⟩
structure SurvAt (w:World) (B:Nat) (va vr pv fv av:Value) (bs bl:Nat):Prop where
 lt:B < w.heap.size
 c0:w.cell? ⟨B,0,none⟩=some va
 c1:w.cell? ⟨B,1,none⟩=some vr
 c2:w.cell? ⟨B,2,none⟩=some pv
 c3:w.cell? ⟨B,3,none⟩=some fv
 c4:w.cell? ⟨B,4,none⟩=some av
 c5:w.cell? ⟨B,5,none⟩=some (.map (some bs))
 c6:w.cell? ⟨B,6,none⟩=some (.map (some bl))
theorem SurvAt.later {w w':World} {B:Nat} {va vr pv fv av:Value} {bs bl:Nat} (h:SurvAt w B va vr pv fv av bs bl) (hb:Below w.heap.size w w'):SurvAt w' B va vr pv fv av bs bl:=
 ⟨Nat.lt_of_lt_of_le h.lt hb.size,(hb.cell (p:=⟨B,0,none⟩) h.lt).trans h.c0,(hb.cell (p:=⟨B,1,none⟩) h.lt).trans h.c1,(hb.cell (p:=⟨B,2,none⟩) h.lt).trans h.c2,(hb.cell (p:=⟨B,3,none⟩) h.lt).trans h.c3,(hb.cell (p:=⟨B,4,none⟩) h.lt).trans h.c4,(hb.cell (p:=⟨B,5,none⟩) h.lt).trans h.c5,(hb.cell (p:=⟨B,6,none⟩) h.lt).trans h.c6⟩
theorem SurvAt.new (w:World) (va vr pv fv av:Value) (t:TypeId):SurvAt (((w.alloc (.map #[] 0)).alloc (.map #[] 0)).alloc (.cells #[va,vr,pv,fv,av,.map (some w.heap.size),.map (some (w.heap.size+1))] t)) (w.heap.size+2) va vr pv fv av w.heap.size (w.heap.size+1):=by
 have e:w.heap.size+2=((w.alloc (.map #[] 0)).alloc (.map #[] 0)).heap.size:=by simp
 rw [e];refine ⟨by simp,?_,?_,?_,?_,?_,?_,?_⟩ <;> simp [go_sem]
theorem zNe (w:World) (o:Obj):(((w.alloc (.map #[] 0)).alloc (.map #[] 0)).alloc o).heap[w.heap.size]? = some (.map #[] 0)/\(((w.alloc (.map #[] 0)).alloc (.map #[] 0)).alloc o).heap[w.heap.size+1]? = some (.map #[] 0):=by
 have h1:=(MapKept.heap_alloc w (.map #[] 0)).1;have h2:=(MapKept.heap_alloc (w.alloc (.map #[] 0)) (.map #[] 0)).1;have b1:Below (w.alloc (.map #[] 0)).heap.size (w.alloc (.map #[] 0)) (((w.alloc (.map #[] 0)).alloc (.map #[] 0)).alloc o):=((Below.refl _ _).alloc (Nat.le_refl _) _).alloc (by simp) _
 have b2:Below ((w.alloc (.map #[] 0)).alloc (.map #[] 0)).heap.size ((w.alloc (.map #[] 0)).alloc (.map #[] 0)) (((w.alloc (.map #[] 0)).alloc (.map #[] 0)).alloc o):=(Below.refl _ _).alloc (Nat.le_refl _) _;refine ⟨(b1.block _ (by simp)).trans h1,?_⟩
 rw [World.size_alloc] at h2;exact (b2.block _ (by simp)).trans h2
def zGV (w:World) (va vr pv fv:Value) (l:List (Int × Int)) (e:Ending) (w':World):Prop:=
 ∃ n ao ac,e=.returned (.tuple #[.pointer (some ⟨n+2,0,none⟩),.int .i64 0])/\Below w.heap.size w w'/\w.heap.size <= n/\w'.heap.size=n+3/\Hid (SurvAt w' (n+2) va vr pv fv (.slice ao (zAA l).length ac) n (n+1))/\Hid (w'.ownsRow w.heap.size 3 1 (.slice ao (zAA l).length ac) (zAA l).length (zAE (zAA l)))/\Hid (w'.heap[n]? = some (.map #[] 0)/\w'.heap[n+1]? = some (.map #[] 0))
theorem zJE (va vr pv fv:Value) (m:Mo) (ps:List (List (Int × Int))) (l:List (Int × Int)) (w:World) (hB:0 < w.heap.size) (hT:zAJ w) (hV:TaskV w va vr pv fv m ps l) (hc:zAO m ps l=0) :
  Calls Tryz.prog 16 #[.agg #[va,vr,pv,fv]] w (zGV w va vr pv fv l):=by
 have hA:∀ o,Below w.heap.size w (w.alloc o):=fun o=>(Below.refl _ _).alloc (Nat.le_refl _) o
 obtain ⟨_,hl0⟩:=zAx hc;obtain ⟨ao,ac,rfl⟩:=hV.mo.1.shape;obtain ⟨ro,rc,rfl⟩:=hV.mo.2.shape;obtain ⟨po,pc,rfl⟩:=hV.ps.shape;obtain ⟨fo,fc,rfl,_⟩:=id hV.fo
 have HC:Hid (∀ w1,Below w.heap.size w w1->Calls Tryz.prog 20 #[.agg #[.slice ao m.vars.length ac,.slice ro m.rules.length rc,.slice po ps.length pc,.slice fo l.length fc]] w1 fun e w'=>e=.returned (.int .i64 0)/\Below w1.heap.size w1 w'):=fun w1 h=>by
  have:=zCz _ _ _ _ m ps l w1 (Nat.lt_of_lt_of_le hB h.size) (hT.below h hB) (hV.below h);rw [hc] at this;exact this
 have HL:Hid (∀ w1,Below w.heap.size w w1->Calls Tryz.prog 37 #[.slice fo l.length fc,.int .i64 (ps.length:Int)] w1 fun e w'=>∃ ho hc,e=.returned (.tuple #[.slice ho (zAA l).length hc,.int .i64 0])/\Below w1.heap.size w1 w'/\Hid (w'.ownsRow w1.heap.size 3 1 (.slice ho (zAA l).length hc) (zAA l).length (zAE (zAA l)))):=fun w1 h=>zGl _ l ps.length w1 (Nat.lt_of_lt_of_le hB h.size) (hT.below h hB) (hV.fo.below h) hl0
 unfold zGV;generalize zAE (zAA l)=av at *;generalize (zAA l).length=an at *;generalize m.vars.length=vn at *;generalize m.rules.length=rn at *;generalize ps.length=pn at *;generalize l.length=fn at *;clear hV hT hc hl0;have hp:=HC.out _ (hA (.cells #[.slice ao vn ac,.slice ro rn rc,.slice po pn pc,.slice fo fn fc] 35))
 have HB:Hid (∀ w1,Below (w.heap.size+1) (w.alloc (.cells #[.slice ao vn ac,.slice ro rn rc,.slice po pn pc,.slice fo fn fc] 35)) w1->w1.cell? ⟨w.heap.size,0,none⟩=some (.slice ao vn ac)/\w1.cell? ⟨w.heap.size,1,none⟩=some (.slice ro rn rc)/\w1.cell? ⟨w.heap.size,2,none⟩=some (.slice po pn pc)/\w1.cell? ⟨w.heap.size,3,none⟩=some (.slice fo fn fc)):=fun w1 h=>⟨(h.cell (p:=⟨w.heap.size,0,none⟩) (Nat.lt_succ_self _)).trans (by simp [go_sem]),(h.cell (p:=⟨w.heap.size,1,none⟩) (Nat.lt_succ_self _)).trans (by simp [go_sem]),(h.cell (p:=⟨w.heap.size,2,none⟩) (Nat.lt_succ_self _)).trans (by simp [go_sem]),(h.cell (p:=⟨w.heap.size,3,none⟩) (Nat.lt_succ_self _)).trans (by simp [go_sem])⟩
 have hmm:=@run_makeMap Tryz.prog
 go_enter Tryz.func16,Tryz.ntmps16
 go_wp2_with (first | (go_at_call 20;refine hp.mono ?_;rintro e w1 ⟨rfl,hb1⟩;have hbw:=(hA _).trans (hb1.mono (hA _).size);have hq:=HB.out w1 (by simpa using hb1);obtain ⟨k0,k1,k2,k3⟩:=hq;have hl:=HL.out w1 hbw) | (go_at_call 37;refine hl.mono ?_;rintro e w2 ⟨ho,hc,rfl,hb2,HO⟩;have hbw2:=hbw.trans (hb2.mono hbw.size);obtain ⟨j0,j1,j2,j3⟩:=HB.out w2 (by have:=hb1.trans (hb2.mono hb1.size);simpa using this)))
 go_ret2
 have hm1:Below w.heap.size w ((w2.alloc (.map #[] 0)).alloc (.map #[] 0)):=(hbw2.alloc hbw2.size _).alloc (by have:=hbw2.size;simp;omega) _
 refine ⟨w2.heap.size,ho,hc,by rfl,hm1.alloc hm1.size _,hbw2.size,by simp,SurvAt.new w2 _ _ _ _ _ _,?_,?_⟩
 ·exact (((zAy HO.out hbw.size).alloc _).alloc _).alloc _
 ·exact zNe w2 _
theorem zII (va vr pv fv:Value) (m:Mo) (ps:List (List (Int × Int))) (l:List (Int × Int)) (w:World) (hB:0 < w.heap.size) (hT:zAJ w) (hV:TaskV w va vr pv fv m ps l) (hc:zAO m ps l≠0) :
  Calls Tryz.prog 16 #[.agg #[va,vr,pv,fv]] w fun e w'=>e=.returned (.tuple #[.pointer none,.int .i64 (zAO m ps l)])/\Below w.heap.size w w':=by
 have hA:∀ o,Below w.heap.size w (w.alloc o):=fun o=>(Below.refl _ _).alloc (Nat.le_refl _) o
 obtain ⟨ao,ac,rfl⟩:=hV.mo.1.shape;obtain ⟨ro,rc,rfl⟩:=hV.mo.2.shape;obtain ⟨po,pc,rfl⟩:=hV.ps.shape;obtain ⟨fo,fc,rfl,_⟩:=id hV.fo;have hp:=zCz _ _ _ _ m ps l _ (Nat.lt_of_lt_of_le hB (hA (.cells #[.slice ao m.vars.length ac,.slice ro m.rules.length rc,.slice po ps.length pc,.slice fo l.length fc] 35)).size) (hT.below (hA _) hB) (hV.below (hA _))
 generalize zAO m ps l=c at *;generalize m.vars.length=vn at *;generalize m.rules.length=rn at *;generalize ps.length=pn at *;generalize l.length=fn at *;clear hV hT
 go_enter Tryz.func16,Tryz.ntmps16
 go_wp2_with (first | (go_at_call 20;refine hp.mono ?_;rintro e w1 ⟨rfl,hb1⟩;have hbw:=(hA _).trans (hb1.mono (hA _).size)))
 go_ret2
 exact ⟨rfl,hbw⟩
theorem zEc (B:Nat) (va vr pv fv:Value) (ao:Option Addr) (an ac bs bl:Nat) (w:World) (h6:an <= 6) (hS:SurvAt w B va vr pv fv (.slice ao an ac) bs bl) :
  Calls Tryz.prog 38 #[.pointer (some ⟨B,0,none⟩)] w fun e w'=>e=.returned (.int .i64 ((2 ^ an:Nat):Int))/\w'=w:=by
 have c4:=hS.c4;clear hS
 rcases (show an=0\/an=1\/an=2\/an=3\/an=4\/an=5\/an=6 by omega) with rfl | rfl | rfl | rfl | rfl | rfl | rfl
 all_goals
  go_enter Tryz.func38,Tryz.ntmps38
  go_wp2
  go_ret
  exact ⟨rfl,rfl⟩
end Go.Proofs.YtnihdlgfhhdhkaaGreatDoor
namespace Go.Proofs.YtnihdlgfhhdhkaaGreatDoor
open Go.ChangeShapes Go.WideShapes Go.ChangeAt Go.RowKit Go.Deep Go.Maps
set_option maxHeartbeats 6400000
set_option maxRecDepth 20000
def zLE:Value->Option (DataW Value × List MemPlace):=fun v=>some (.held v,[])
def zAZ (w:World) (kt:TypeId) (b n:Nat) (f:Lit->Option Value):Prop:=
 ∃ D:DataW Value,w.ownsMap Tryz.prog kt zLE b n D/\∀ x,Maps.has D x=(f x).isSome/\∀ v,f x=some v->∀ z,D.atKey x z=.held v
theorem zAZ.lt {w:World} {kt:TypeId} {b n:Nat} {f:Lit->Option Value} (h:zAZ w kt b n f):b < w.heap.size:=by
 obtain ⟨D,h1,_⟩:=h;exact h1.lt
theorem zAZ.isMap {w:World} {kt:TypeId} {b n:Nat} {f:Lit->Option Value} (h:zAZ w kt b n f):∃ es c,w.heap[b]? = some (.map es c):=by
 obtain ⟨D,⟨es,c,h1,_⟩,_⟩:=h;exact ⟨es,c,h1⟩
theorem zAZ.new {w:World} (kt:TypeId) {b:Nat} (h:w.heap[b]? = some (.map #[] 0)):zAZ w kt b 0 (fun _=>none):=by
 obtain ⟨es,c,h1,h2,h3,h4⟩:=World.ownsMap_made w Tryz.prog kt zLE;rw [(MapKept.heap_alloc w _).1] at h1
 injection h1 with h1
 injection h1 with h5 h6
 subst h5 h6;exact ⟨.map [],⟨#[],0,h,h2,Nat.le_refl _,rfl⟩,fun x=>⟨by simp [Maps.has],fun v hv=>by simp at hv⟩⟩
theorem zAZ.kept {w w':World} {kt:TypeId} {b n:Nat} {f:Lit->Option Value} (h:zAZ w kt b n f) (e:w'.heap[b]? = w.heap[b]?):zAZ w' kt b n f:=by
 obtain ⟨D,⟨es,c,h1,h2⟩,h3⟩:=h;exact ⟨D,⟨es,c,e.trans h1,h2⟩,h3⟩
theorem zAZ.look {w:World} {kt:TypeId} {b n:Nat} {f:Lit->Option Value} (h:zAZ w kt b n f) (K:Keyed Tryz.prog kt) {t e:TypeId} (ht:Tryz.prog.underlying t=some (.map kt e)) {z:Value} (hz:(zeroValue e).run Tryz.prog w=.ok z w)
  {key:Value} {kl:Lit} (hkey:keyOf Tryz.prog kt key=some kl):(Instr.lookup t (.map (some b)) key true).run Tryz.prog w=.ok (.tuple #[(f kl).getD z,.bool (f kl).isSome]) w:=by
 obtain ⟨D,h1,h2⟩:=h;obtain ⟨v,ps,hrun,hR⟩:=h1.look_ok K ht hz (zd:=.held z) (zp:=[]) rfl hkey;obtain ⟨hs,hv⟩:=h2 kl;simp only [zLE,Option.some.injEq,Prod.mk.injEq] at hR;rw [hrun,hs]
 cases hf:f kl with
 | none=>
  rw [hf] at hs;have:=Maps.atKey_of_not_has (D:=D) (k:=kl) (by simpa using hs) (.held z)
  rw [this] at hR;have e1:=hR.1
  injection e1 with e1
  rw [e1];rfl
 | some u=>
  rw [hv u hf] at hR;have e1:=hR.1
  injection e1 with e1
  rw [e1];rfl
open Classical in
noncomputable def zDz (f:Lit->Option Value) (kl:Lit) (val:Value):Lit->Option Value:=fun x=>if x=kl then some val else f x
theorem zDP (f:Lit->Option Value) (kl:Lit) (val:Value):zDz f kl val kl=some val:=by unfold zDz;rw [if_pos rfl]
theorem zC0 {f:Lit->Option Value} {kl x:Lit} (h:x≠kl) (val:Value):zDz f kl val x=f x:=by unfold zDz;rw [if_neg h]
theorem zAZ.put {w:World} {kt:TypeId} {b n:Nat} {f:Lit->Option Value} (h:zAZ w kt b n f) (K:Keyed Tryz.prog kt) {t e:TypeId} (ht:Tryz.prog.underlying t=some (.map kt e)) (hn:n < maxLen)
  {key val:Value} {kl:Lit} (hkey:keyOf Tryz.prog kt key=some kl) (hlit:WideAt.IsKeyLit kl):∃ w',(Instr.mapUpdate t (.map (some b)) key val).run Tryz.prog w=.ok () w'/\zAZ w' kt b (n+1) (zDz f kl val)/\w.grownBy w' (some b):=by
 obtain ⟨D,h1,h2⟩:=h;obtain ⟨w',hrun,h3,h4⟩:=h1.update K ht hn hkey (val:=val) (d:=.held val) (ps:=[]) rfl;refine ⟨w',hrun,⟨_,h3,fun x=>?_⟩,h4⟩
 by_cases hx:x=kl
 ·subst hx
  rw [zDP];refine ⟨by rw [Maps.has_put_same h1.isMap hlit];rfl,fun v hv z=>?_⟩
  cases hv
  exact Maps.atKey_put_same h1.isMap hlit _ z
 ·rw [zC0 hx]
  refine ⟨by rw [Maps.has_put_other hx];exact (h2 x).1,fun v hv z=>?_⟩
  rw [Maps.atKey_put_other hx];exact (h2 x).2 v hv z
structure Sk (bs bl:Nat) (w w':World):Prop where
 os:w'.os=w.os
 tape:w'.tape=w.tape
 output:w'.output=w.output
 size:w.heap.size <= w'.heap.size
 block:∀ i,i < w.heap.size->i≠bs->i≠bl->w'.heap[i]? = w.heap[i]?
theorem Sk.refl (bs bl:Nat) (w:World):Sk bs bl w w:=⟨rfl,rfl,rfl,Nat.le_refl _,fun _ _ _ _=>rfl⟩
theorem Sk.trans {bs bl:Nat} {a b c:World} (h:Sk bs bl a b) (k:Sk bs bl b c):Sk bs bl a c:=
 ⟨k.os.trans h.os,k.tape.trans h.tape,k.output.trans h.output,Nat.le_trans h.size k.size,fun i hi h1 h2=>(k.block i (Nat.lt_of_lt_of_le hi h.size) h1 h2).trans (h.block i hi h1 h2)⟩
theorem Sk.of {bs bl:Nat} {w w':World} (h:Below w.heap.size w w'):Sk bs bl w w':=⟨h.os,h.tape,h.output,h.size,fun i hi _ _=>h.block i hi⟩
theorem Sk.grown {bs bl:Nat} {w w':World} {r:Nat} (h:w.grownBy w' (some r)) (hr:r=bs\/r=bl):Sk bs bl w w':=
 ⟨h.os,h.tape,h.output,h.size,fun i hi h1 h2=>h.block i hi (by intro e;injection e with e;omega)⟩
theorem Sk.below {bs bl base:Nat} {w w':World} (h:Sk bs bl w w') (h1:base <= bs) (h2:base <= bl) (h3:base <= w.heap.size):Below base w w':=
 ⟨h.os,h.tape,h.output,h.size,fun i hi=>h.block i (by omega) (by omega) (by omega)⟩
def zBe (w:World) (bs bl:Nat):Prop:=(∃ es c,w.heap[bs]? = some (.map es c))/\∃ es c,w.heap[bl]? = some (.map es c)
theorem zKG {w:World} {p:Addr} {v:Value} (h:w.cell? p=some v) {es:Array MapEntry} {c:Nat}:w.heap[p.block]?≠some (.map es c):=by
 intro e;simp [World.cell?,e] at h
theorem Sk.cell {bs bl:Nat} {w w':World} (h:Sk bs bl w w') (hm:zBe w bs bl) {p:Addr} {v:Value} (hp:w.cell? p=some v):w'.cell? p=some v:=by
 obtain ⟨⟨es,c,e1⟩,⟨es',c',e2⟩⟩:=hm;have hlt:=World.block_lt_of_cell? w p hp;rw [World.cell?_of_block (h.block p.block hlt (fun e=>zKG hp (by rw [e];exact e1)) (fun e=>zKG hp (by rw [e];exact e2)))]
 exact hp
end Go.Proofs.YtnihdlgfhhdhkaaGreatDoor
namespace Go.Proofs.YtnihdlgfhhdhkaaGreatDoor
open Go.ChangeShapes Go.WideShapes Go.ChangeAt Go.RowKit Go.Deep Go.Shelf
open Terms
set_option maxHeartbeats 6400000
set_option maxRecDepth 20000
attribute [local go_sem] Oper.semAt_some
def zBw (l:List (Int × Int)) (claim:Int) (k:Nat) (j:Nat):Bool:=if zAP (l.getD j (0,0)).1=true/\(zAF l j).length < k then zC8 claim (zAF l j).length else false
def zIA (l:List (Int × Int)) (letter:List Bool) (h:Nat->Bool) (p:Nat):Nat->Bool:=if zAP (l.getD p (0,0)).1=true then h else fun j=>if j=p then mkB (l.getD p (0,0)) letter (h (p+1)) (h (sec l p)) else h j
def zB1 (l:List (Int × Int)) (letter:List Bool) (h:Nat->Bool) {n:Nat} (xs:List (Fin n)):Nat->Bool:=xs.foldl (fun h x=>zIA l letter h x.1) h
theorem zGg (l:List (Int × Int)) (letter:List Bool) (h:Nat->Bool) {n:Nat} (xs:List (Fin n)) (x:Fin n):zB1 l letter h (xs++[x])=zIA l letter (zB1 l letter h xs) x.1:=by simp [zB1]
theorem zKk {l:List (Int × Int)} {letter:List Bool} {claim:Int} (hz:zAD (l.map Prod.fst)=0) {n:Nat} (h0n:0 < n) (hn:n=l.length) :
  ∀ k,k <= n->∀ j,j < n->zB1 l letter (zBw l claim (zAA l).length) (zCJ h0n k) j=if n - k <= j then tru l letter claim j else zBw l claim (zAA l).length j:=by
 intro k
 induction k with
 | zero=>
  intro _ j hj;rw [if_neg (by omega)]
  simp [zCJ,zB1]
 | succ k ih=>
  intro hk j hj;have ih':=ih (by omega)
  rw [zEF,zGg];have hp:(zFN h0n k).1=n - 1 - k:=rfl;rw [hp];obtain ⟨p,hpe⟩:∃ p,p=n - 1 - k:=⟨_,rfl⟩
  rw [<- hpe];have hpl:p < l.length:=by omega
  unfold zIA
  cases hb:zAP (l.getD p (0,0)).1 with
  | true=>
   rw [if_pos rfl,ih' j hj]
   by_cases hjp:j=p
   ·subst hjp
    rw [if_neg (by omega),if_pos (by omega),zI6 hpl hb]
    unfold zBw;exact if_pos ⟨hb,zCH l hpl hb⟩
   ·by_cases hle:n - k <= j
    ·rw [if_pos hle,if_pos (by omega)]
    ·rw [if_neg hle,if_neg (by omega)]
  | false=>
   rw [if_neg (by decide)]
   by_cases hjp:j=p
   ·subst hjp
    rw [if_pos rfl,if_pos (by omega)]
    obtain ⟨h1,h2⟩:=zDh hz hpl;rw [zMe hpl hb (fun h=>(h2 h).1)]
    have hpn:=zKc (l.getD j (0,0)).1
    by_cases p2:pn (l.getD j (0,0)).1=2
    ·obtain ⟨s1,s2⟩:=h2 p2
     have s0:=h1 (by omega)
     rw [ih' (j+1) (by omega),ih' (sec l j) (by omega),if_pos (by omega),if_pos (by omega)]
    ·have hk89:(l.getD j (0,0)).1≠8/\(l.getD j (0,0)).1≠9:=by
      constructor <;> intro e <;> rw [e] at p2 <;> exact absurd rfl p2
     by_cases p1:pn (l.getD j (0,0)).1=1
     ·have s0:=h1 (by omega)
      rw [ih' (j+1) (by omega),if_pos (by omega)]
      simp only [mkB,hk89.1,hk89.2,if_false]
     ·have hk10:(l.getD j (0,0)).1≠10:=by intro e;rw [e] at p1;exact absurd rfl p1
      simp only [mkB,hk89.1,hk89.2,hk10,if_false]
   ·rw [if_neg hjp,ih' j hj]
    by_cases hle:n - k <= j
    ·rw [if_pos hle,if_pos (by omega)]
    ·rw [if_neg hle,if_neg (by omega)]
structure TrSt (w:World) (fo ev av lv:Value) (n:Nat) (h:Nat->Bool) (W0s:Nat) (W:World):Prop where
 three:zBh W w.heap.size fo ev av
 letter:W.cell? ⟨w.heap.size+1,0,none⟩=some lv
 holds:W.cell? ⟨w.heap.size+1+1+1,0,none⟩=some (.slice (some ⟨w.heap.size+1+1,0,none⟩) n n)
 row:W.rowIs (w.heap.size+1+1) 4 n (fun j=>.bool (h j))
 below:Below w.heap.size w W
 size:W0s <= W.heap.size
theorem TrSt.later {w:World} {fo ev av lv:Value} {n:Nat} {h:Nat->Bool} {s B:Nat} {W W':World} (t:TrSt w fo ev av lv n h s W) (hb:Below B W W') (hB:w.heap.size+4 <= B):TrSt w fo ev av lv n h s W':=
 ⟨t.three.below hb (by omega),(hb.cell (p:=⟨w.heap.size+1,0,none⟩) (by simp;omega)).trans t.letter,(hb.cell (p:=⟨w.heap.size+1+1+1,0,none⟩) (by simp;omega)).trans t.holds,t.row.of_block (hb.block _ (by omega)),t.below.trans (hb.mono (by omega)),Nat.le_trans t.size hb.size⟩
theorem TrSt.congr {w:World} {fo ev av lv:Value} {n:Nat} {h h':Nat->Bool} {s:Nat} {W:World} (t:TrSt w fo ev av lv n h s W) (e:∀ j,j < n->h j=h' j):TrSt w fo ev av lv n h' s W:=
 ⟨t.three,t.letter,t.holds,t.row.congr fun j hj=>by rw [e j hj],t.below,t.size⟩
theorem TrSt.put {w:World} {fo ev av lv:Value} {n:Nat} {h:Nat->Bool} {s:Nat} {W:World} (t:TrSt w fo ev av lv n h s W) (p:Nat) (x:Bool):TrSt w fo ev av lv n (fun j=>if j=p then x else h j) s (W.setCell ⟨w.heap.size+1+1,p,none⟩ (.bool x)):=by
 have hb:∀ k,k≠w.heap.size+1+1->(W.setCell ⟨w.heap.size+1+1,p,none⟩ (.bool x)).heap[k]? = W.heap[k]?:=fun k hk=>Below.heap_setCell W _ _ k hk
 have hc:∀ k q,k≠w.heap.size+1+1->(W.setCell ⟨w.heap.size+1+1,p,none⟩ (.bool x)).cell? ⟨k,q,none⟩=W.cell? ⟨k,q,none⟩:=fun k q hk=>World.cell?_of_block (w:=W) (hb k hk)
 have hf:∀ q,(W.setCell ⟨w.heap.size+1+1,p,none⟩ (.bool x)).frozen? ⟨w.heap.size,q,none⟩=W.frozen? ⟨w.heap.size,q,none⟩:=fun q=>by rw [World.frozen?_setCell]
 obtain ⟨k0,k1,k2,f0,f1,f2,hl⟩:=t.three;refine ⟨⟨(hc _ _ (by omega)).trans k0,(hc _ _ (by omega)).trans k1,(hc _ _ (by omega)).trans k2,(hf 0).trans f0,(hf 1).trans f1,(hf 2).trans f2,by simpa using hl⟩,(hc _ _ (by omega)).trans t.letter,(hc _ _ (by omega)).trans t.holds,?_,t.below.setCell (by simp;omega) _,by simpa using t.size⟩
 refine (t.row.set p (.bool x)).congr fun i _=>?_
 by_cases hip:i=p
 ·rw [if_pos hip,if_pos hip]
 ·rw [if_neg hip,if_neg hip]
theorem TrSt.drew {w:World} {fo ev av lv:Value} {n:Nat} {h:Nat->Bool} {s:Nat} {W:World} (t:TrSt w fo ev av lv n h s W):TrSt w fo ev av lv n h s W.drew:=
 ⟨⟨t.three.1,t.three.2.1,t.three.2.2.1,t.three.2.2.2.1,t.three.2.2.2.2.1,t.three.2.2.2.2.2.1,t.three.2.2.2.2.2.2⟩,t.letter,t.holds,t.row.of_block rfl,t.below.drew,t.size⟩
theorem zKz:∀ c,c < 64->(bits BinOp.and IntKind.i64 ((c:Nat):Int) 1 == 1)=decide (((c:Nat):Int) % 2=1):=by decide
theorem zL2 {claim:Int} {k:Nat} (h0:0 <= claim) (h:claim < 64):(bits BinOp.and IntKind.i64 (claim / 2 ^ k) 1 == 1)=zC8 claim k:=by
 have h2:(0:Int) < 2 ^ k:=Int.pow_pos (by decide)
 have h3:0 <= claim / 2 ^ k:=Int.ediv_nonneg h0 (Int.le_of_lt h2);have h4:claim / 2 ^ k <= claim:=Int.ediv_le_self _ h0;obtain ⟨c,hc⟩:∃ c:Nat,claim / 2 ^ k=c:=⟨(claim / 2 ^ k).toNat,by omega⟩
 unfold zC8;rw [hc];exact zKz c (by omega)
theorem zLb {l:List (Int × Int)} {claim:Int} {k p:Nat} (hlk:zAP (l.getD p (0,0)).1=true) (hpi:(zAF l p).length=k) (j:Nat):(if j=p then zC8 claim k else zBw l claim k j)=zBw l claim (k+1) j:=by
 unfold zBw
 by_cases hjp:j=p
 ·subst hjp
  rw [if_pos rfl,if_pos ⟨hlk,by omega⟩,hpi]
 ·rw [if_neg hjp]
  by_cases hb:zAP (l.getD j (0,0)).1=true
  ·have hne:(zAF l j).length≠k:=by
    intro e
    rcases Nat.lt_or_gt_of_ne hjp with h | h
    ·have:=zCH l h hb;omega
    ·have:=zCH l h hlk;omega
   by_cases hl:(zAF l j).length < k
   ·rw [if_pos ⟨hb,hl⟩,if_pos ⟨hb,by omega⟩]
   ·rw [if_neg (fun h=>hl h.2),if_neg (fun h=>by have:=h.2;omega)]
  ·rw [if_neg (fun h=>hb h.1),if_neg (fun h=>hb h.1)]
theorem zKh (fv lv:Value) (fo ev:Value) (aao:Option Addr) (an ac:Nat) (claim:Int) (lo:Option Addr) (ln lc:Nat) (oo eo:Option Addr) (on oc en ec:Nat) (hfo:fo=.slice oo on oc) (hev:ev=.slice eo en ec) (hlv:lv=.slice lo ln lc) (hfv:fv=.agg #[fo,ev,.slice aao an ac]) (h6:an <= 6) (w:World) (h:claim < 0\/2 ^ an <= claim) :
  Calls Tryz.prog 66 #[fv,lv,.int .i64 claim] w fun e w'=>e=.returned (.tuple #[.slice none 0 0,.int .i64 2])/\Below w.heap.size w w':=by
 subst hfo hev hlv hfv;have hb:∀ o o',Below w.heap.size w ((w.alloc o).alloc o'):=fun o o'=>((Below.refl _ _).alloc (Nat.le_refl _) o).alloc (by simp) o'
 rcases h with h | h
 ·go_enter Tryz.func66,Tryz.ntmps66
  go_wp2_with fail
  go_ret2
  exact ⟨rfl,hb _ _⟩
 ·have h0:0 <= claim:=by have:(0:Int) < 2 ^ an:=Int.pow_pos (by decide);omega
  have hcase:an=0\/an=1\/an=2\/an=3\/an=4\/an=5\/an=6:=by omega
  clear h6
  rcases hcase with rfl | rfl | rfl | rfl | rfl | rfl | rfl
  all_goals
   simp only [Int.reducePow] at h
   go_enter Tryz.func66,Tryz.ntmps66
   go_wp2_with fail
   go_ret2
   exact ⟨rfl,hb _ _⟩
end Go.Proofs.YtnihdlgfhhdhkaaGreatDoor
namespace Go.Proofs.YtnihdlgfhhdhkaaGreatDoor
open Go.ChangeShapes Go.WideShapes Go.ChangeAt Go.RowKit Go.Deep Go.Shelf
open Terms
set_option maxHeartbeats 6400000
set_option maxRecDepth 20000
attribute [local go_sem] Oper.semAt_some
def zOB (p3 p4 p8 p11 p12 r0 r1 r2 r5 r6 r7 r9 r10 r13 r14 r15 r16 r17 r18 r19 r20 r21 r22 r23 r24 r25 r26 r27 r28 r29 r30 r31 r32 r33 r34 r35 r36 r37 r38 r39 r40 r41 r42 r43 r44 r45 r46 r47 r48 r49 r50 r51 r52 r53 r54 r55 r56 r57 r58 r59 r60 r61 r62 r63 r64 r65 r66 r67 r68 r69 r70:Value):Act:={ tmps:=#[r0,r1,r2,p3,p4,r5,r6,r7,p8,r9,r10,p11,p12,r13,r14,r15,r16,r17,r18,r19,r20,r21,r22,r23,r24,r25,r26,r27,r28,r29,r30,r31,r32,r33,r34,r35,r36,r37,r38,r39,r40,r41,r42,r43,r44,r45,r46,r47,r48,r49,r50,r51,r52,r53,r54,r55,r56,r57,r58,r59,r60,r61,r62,r63,r64,r65,r66,r67,r68,r69,r70],defers:=[]}
def zPt (w:World) (s:Nat) (o:Int × Int) (p:Nat) (a':Act) (W:World):Prop:=∃ Bx,s <= Bx/\W.cell? ⟨Bx,0,none⟩=some (.int .i64 o.1)/\W.cell? ⟨Bx,1,none⟩=some (.int .i64 o.2)/\∃ r0 r1 r2 r5 r6 r7 r9 r10 r13 r14 r15 r16 r17 r18 r19 r20 r21 r22 r23 r24 r25 r26 r27 r28 r29 r30 r31 r32 r33 r34 r35 r36 r37 r38 r39 r40 r41 r42 r43 r44 r45 r46 r47 r48 r49 r50 r51 r52 r53 r54 r55 r56 r57 r58 r59 r60 r61 r62 r63 r64 r65 r66 r67 r68 r69 r70:Value,a'=zOB (.pointer (some ⟨w.heap.size,0,none⟩)) (.pointer (some ⟨w.heap.size+1,0,none⟩)) (.pointer (some ⟨w.heap.size+1+1+1,0,none⟩)) (.int .i64 (p:Int)) (.pointer (some ⟨Bx,0,none⟩)) r0 r1 r2 r5 r6 r7 r9 r10 r13 r14 r15 r16 r17 r18 r19 r20 r21 r22 r23 r24 r25 r26 r27 r28 r29 r30 r31 r32 r33 r34 r35 r36 r37 r38 r39 r40 r41 r42 r43 r44 r45 r46 r47 r48 r49 r50 r51 r52 r53 r54 r55 r56 r57 r58 r59 r60 r61 r62 r63 r64 r65 r66 r67 r68 r69 r70
theorem zHF {B:Nat} {W W':World} (h:Below W.heap.size W W'):KeepsFrom B W W':=⟨h.size,fun k _ _ hk _=>(h.block k (Array.getElem?_eq_some_iff.1 hk).1).trans hk⟩
set_option maxRecDepth 100000 in
theorem zMQ (b off cap n B:Nat) (aao:Option Addr) (an ac:Nat) (lo:Option Addr) (ln lc:Nat) (l:List (Int × Int)) (letter:List Bool) (claim:Int) (w:World) (h0n:0 < n) (h60:n <= 60) (hn:n=l.length) (hz:zAD (l.map Prod.fst)=0) (hops:zAu w b off l) (hbl:b < w.heap.size)
  (hrow:w.rowIs B 3 n (fun q=>.int .i64 (zAa (l.map Prod.fst) q))) (han:an=(zAA l).length) (hav:zAI w (.slice aao an ac) (zAA l)) (h6:an <= 6) (hln:ln=letter.length) (hL:zAM w (.slice lo ln lc) letter) (hlf:zBW ln l=0) (h0:0 <= claim) (h1:claim < 2 ^ an) :
  Calls Tryz.prog 66 #[.agg #[.slice (some ⟨b,off,none⟩) n cap,.slice (some ⟨B,0,none⟩) n n,.slice aao an ac],.slice lo ln lc,.int .i64 claim] w fun e w'=>∃ bH,e=.returned (.tuple #[.slice (some ⟨bH,0,none⟩) n n,.int .i64 0])/\Below w.heap.size w w'/\Hid (w'.rowIs bH 4 n (fun j=>.bool (tru l letter claim j)))/\w.heap.size <= bH:=by
 refine (callsIn_wide (n:=8)).1 ?_
 refine callsIn_of_wp_marks Tryz.func66 rfl trivial ?_ rfl
 simp only [Tryz.ntmps66,List.size_toArray,List.length_cons,List.length_nil,Nat.reduceAdd,Nat.reduceSub,Array.replicate_succ,Array.replicate_zero,List.push_toArray,List.append_toArray,List.nil_append,List.cons_append];have hmk:=run_make_row' (P:=Tryz.prog) 53 4 (.bool false) 1 Tryz.underlying53 zGG rfl .i64 .i64 n (by omega) (by omega)
 have HO:Hid (zAu w b off l):=hops;have HN:Hid (n=l.length):=hn;have HR:Hid (w.rowIs B 3 n (fun q=>.int .i64 (zAa (l.map Prod.fst) q))):=hrow
 have HAN:Hid (an=(zAA l).length):=han;have HAV:Hid (zAI w (.slice aao an ac) (zAA l)):=hav;have HLN:Hid (ln=letter.length):=hln;have HL:Hid (zAM w (.slice lo ln lc) letter):=hL;have HLF:Hid (zBW ln l=0):=hlf;have HZ:Hid (zAD (l.map Prod.fst)=0):=hz;clear hops hn hrow han hav hln hL hlf hz
 have hcase:an=0\/an=1\/an=2\/an=3\/an=4\/an=5\/an=6:=by omega
 have hsh:(2:Int) ^ an <= 64:=by rcases hcase with rfl | rfl | rfl | rfl | rfl | rfl | rfl <;> decide
 clear hcase
 gi_wp2
 have HS0:Hid (TrSt w (.slice (some ⟨b,off,none⟩) n cap) (.slice (some ⟨B,0,none⟩) n n) (.slice aao an ac) (.slice lo ln lc) n (zBw l claim 0) 0 ((((w.alloc (.cells #[.slice (some ⟨b,off,none⟩) n cap,.slice (some ⟨B,0,none⟩) n n,.slice aao an ac] 147)).alloc (.cells #[.slice lo ln lc] 53)).alloc (.cells (madeCells #[.bool false] n) 4)).alloc (.cells #[.slice (some ⟨w.heap.size+1+1,0,none⟩) n n] 53))):=by
  have r:=World.rowIs_made ((w.alloc (.cells #[.slice (some ⟨b,off,none⟩) n cap,.slice (some ⟨B,0,none⟩) n n,.slice aao an ac] 147)).alloc (.cells #[.slice lo ln lc] 53)) (.bool false) n 4;simp only [World.size_alloc] at r
  have hB3:∀ o1 o2 o3 o4,Below (w.heap.size+1) (w.alloc o1) ((((w.alloc o1).alloc o2).alloc o3).alloc o4):=fun o1 o2 o3 o4=>(((Below.refl _ _).alloc (by simp) o2).alloc (by simp) o3).alloc (by simp) o4
  exact ⟨(zBh.new w _ _ _ _).below (hB3 _ _ _ _) (Nat.lt_succ_self _),by simp [go_sem],by simp [go_sem],(r.of_block (Below.heap_alloc _ _ _ r.lt)).congr (fun j _=>by simp [zBw]),((((Below.refl _ _).alloc (Nat.le_refl _) _).alloc (by simp) _).alloc (by simp;omega) _).alloc (by simp;omega) _,Nat.zero_le _⟩
 gi_loopw [32] (fun i wr=>∃ k:Nat,k <= an/\i=.int .i64 k/\Hid (TrSt w (.slice (some ⟨b,off,none⟩) n cap) (.slice (some ⟨B,0,none⟩) n n) (.slice aao an ac) (.slice lo ln lc) n (zBw l claim k) 0 wr)) (fun i _=>an - (intOf i).toNat)
 case atStart=>
  exact ⟨0,Nat.zero_le _,rfl,HS0.out⟩
 case round=>
  obtain ⟨k,hk,rfl,HSt⟩:=hrel;have hst:=HSt.out
  by_cases hlt:k < an
  ·obtain ⟨p,hp,hpn,hlk,hpi⟩:=zB5 l l.length k (by have:=HAN.out;unfold zAA at this;omega)
   obtain ⟨ao',cap',hsl,hai⟩:=HAV.out
   injection hsl with e1 e2 e3
   subst e1;obtain ⟨ab,aoff,rfl,habl,haat⟩:=hai (by intro h;have:=HAN.out;rw [h] at this;simp at this;omega)
   have hca:=(hst.below.cell (p:=⟨ab,aoff+k,none⟩) habl).trans (haat k (by rw [<- HAN.out];exact hlt))
   have hca':wr.cell? ⟨ab,aoff+k,none⟩=some (.int .i64 (p:Int)):=by rw [hca];exact congrArg (fun z=>some (Value.int .i64 z)) hp
   have hch:=hst.holds;have hf:=hst.row.frozen p;have hpn':p < n:=by rw [HN.out];exact hpn
   have hcp:=hst.row.cell hpn';obtain ⟨t0,t1,t2,_⟩:=hst.three;have HP:Hid (zAP (l.getD p (0,0)).1=true/\(zAF l p).length=k):=⟨hlk,hpi⟩;clear hp hpn hlk hpi hai haat hca e2 e3;have hmx:Tryz.prog.follows .mixedOrders=true:=by kernel_rfl
   gi_wp2
   gi_region_o
   all_goals gi_wp2
   refine ⟨⟨k+1,hlt,by first | rfl | simp,?_⟩,by simp [intOf];omega⟩
   rw [zL2 h0 (by omega)]
   exact ((hst.put p (zC8 claim k)).congr (fun j _=>zLb HP.out.1 HP.out.2 j)).drew
  ·obtain rfl:k=an:=by omega
   have HAL:Hid (k=(zAA l).length):=HAN.out;obtain ⟨t0,t1,t2,_⟩:=hst.three;generalize wr=W1 at *;clear hmk HS0 hlt hk HAV
   gi_wp2_with (refine ⟨trivial,?_⟩;gi_at_call 53;refine (zKP Fence.wide _ trivial rfl _ _ _ _).mono ?_;rintro e w' ⟨rfl,rfl⟩)
   have hs3:w.heap.size+4 <= W1.heap.size:=by have:=World.block_lt_of_cell? W1 ⟨w.heap.size+1+1+1,0,none⟩ hst.holds;simp at this;omega
   refine wpIn_rangeFunc_ownH rfl (by decide) (gf:=81) (lb:=#[.pointer (some ⟨W1.heap.size,0,none⟩)]) rfl trivial (enters_of Tryz.func81 (by kernel_rfl) rfl)
    (zKs Fence.wide 7 trivial rfl (by decide) W1.heap.size w.heap.size b off n cap l h0n h60 HN.out hbl _ (by simp) (by simp;omega) (by simp [go_sem]) (HO.out.below (hst.below.alloc hst.below.size _) hbl)) zJv (zJ4 (by simp;omega) (by simp)) (Below.refl _ _) (fun _=>rfl)
    (fun pre W=>TrSt w (.slice (some ⟨b,off,none⟩) n cap) (.slice (some ⟨B,0,none⟩) n n) (.slice aao k ac) (.slice lo ln lc) n (zB1 l letter (zBw l claim k) pre) (W1.heap.size+1) W)
    (fun _ _ _=>False)
    (fun s A Bw row hs hg hr=>hs.later (B:=W1.heap.size+1) ((Below.refl _ _).grown hg hs.size (fun z e=>by have:=(hr z e).1;simp at this;omega)) (by omega))
    (fun _ _ _ _ _ hs _ _=>hs)
    ?h0 (fun x=>zPt w (W1.heap.size+1) (l.getD x.1 (0,0)) x.1) (fun x a' _ X Y row hs hg hr=>by obtain ⟨Bx,h1,h2,h3,h4⟩:=hs;exact ⟨Bx,h1,cell_kept h2 hg (fun r e=>(hr r e).2),cell_kept h3 hg (fun r e=>(hr r e).2),h4⟩)
    ?assign ?body ?done ?stop
   case h0=>
    have t:=hst.later ((Below.refl W1.heap.size W1).alloc (Nat.le_refl _) (.cells #[.slice (some ⟨b,off,none⟩) n cap] 33)) (by omega)
    exact ⟨t.three,t.letter,t.holds,t.row,t.below,by simp⟩
   case assign=>
    rintro L pre x W K hi hK
    have hsz:=hi.size;unfold zFj
    gi_wp2
    refine hK _ _ ?ka ?kb ?kc ?kd
    case ka=>exact (KeepsOthers.alloc _ _).from _
    case kb=>exact ⟨(Below.refl _ W).alloc hi.below.size _,Below.heap_alloc _ _ _ (by omega)⟩
    case kc=>exact hi.later ((Below.refl W.heap.size W).alloc (Nat.le_refl _) _) (by omega)
    case kd=>exact ⟨W.heap.size,by omega,by simp [go_sem],by simp [go_sem],_,_,_,_,_,_,_,_,_,_,_,_,_,_,_,_,_,_,_,_,_,_,_,_,_,_,_,_,_,_,_,_,_,_,_,_,_,_,_,_,_,_,_,_,_,_,_,_,_,_,_,_,_,_,_,_,_,_,_,_,_,_,_,_,_,_,rfl⟩
   case body=>
    rintro L pre x a' W hl ⟨r,hr⟩ hi ⟨Bx,hBx,cx0,cx1,r0,r1,r2,r5,r6,r7,r9,r10,r13,r14,r15,r16,r17,r18,r19,r20,r21,r22,r23,r24,r25,r26,r27,r28,r29,r30,r31,r32,r33,r34,r35,r36,r37,r38,r39,r40,r41,r42,r43,r44,r45,r46,r47,r48,r49,r50,r51,r52,r53,r54,r55,r56,r57,r58,r59,r60,r61,r62,r63,r64,r65,r66,r67,r68,r69,r70,rfl⟩ hlen
    have hsz:=hi.size;have hfa:=zGv HLF.out x.1 (by rw [<- HN.out];exact x.2)
    obtain ⟨hp1,hp2⟩:=zDh HZ.out (p:=x.1) (by rw [<- HN.out];exact x.2)
    have HSt:Hid (TrSt w (.slice (some ⟨b,off,none⟩) n cap) (.slice (some ⟨B,0,none⟩) n n) (.slice aao k ac) (.slice lo ln lc) n (zB1 l letter (zBw l claim k) pre) (W1.heap.size+1) W):=hi;have HNx:=zGg l letter (zBw l claim k) pre x;unfold zIA at HNx
    have HNx':Hid (zB1 l letter (zBw l claim k) (pre++[x])=if zAP (l.getD x.1 (0,0)).1=true then zB1 l letter (zBw l claim k) pre else fun j=>if j=x.1 then mkB (l.getD x.1 (0,0)) letter (zB1 l letter (zBw l claim k) pre (x.1+1)) (zB1 l letter (zBw l claim k) pre (sec l x.1)) else zB1 l letter (zBw l claim k) pre j):=HNx
    clear HNx;obtain ⟨nx,hnx⟩:∃ nx,zB1 l letter (zBw l claim k) (pre++[x])=nx:=⟨_,rfl⟩
    have HNX:Hid (zB1 l letter (zBw l claim k) (pre++[x])=nx):=hnx;rw [hnx] at HNx';clear hnx;generalize zB1 l letter (zBw l claim k) pre=h at *;obtain ⟨p,hpn⟩:=x;simp only at cx0 cx1 hfa hp1 hp2 HNx'
    generalize l.getD p (0,0)=xy at *;obtain ⟨kx,vx⟩:=xy;simp only at cx0 cx1 hfa hp1 hp2 HNx'
    have hlk:=fun w=>zIo kx w
    have hBxl:Bx < W.heap.size:=World.block_lt_of_cell? W ⟨Bx,0,none⟩ cx0;have hmx:Tryz.prog.follows .mixedOrders=true:=by kernel_rfl
    unfold zOB
    cases hb:zAP kx with
    | true=>
     have HE:Hid (nx=h):=by show _=_;rw [HNx'.out,if_pos hb]
     rw [hb] at hlk;clear hb HNx' hp1 hp2 hfa
     gi_wp2_with (refine ⟨trivial,?_⟩;gi_at_call 103;refine (CallsIn.inRound L (callsIn_wide.2 (hlk _))).mono ?_;rintro e w2 ⟨rfl,rfl⟩)
     refine ⟨KeepsFrom.refl _ _,⟨Below.refl _ _,rfl⟩,?_⟩
     show TrSt w _ _ _ _ n (zB1 l letter (zBw l claim k) (pre++[⟨p,hpn⟩])) _ _
     rw [HNX.out,HE.out];exact HSt.out
    | false=>
     have HE:Hid (nx=fun j=>if j=p then mkB (kx,vx) letter (h (p+1)) (h (sec l p)) else h j):=by show _=_;rw [HNx'.out,if_neg (by rw [hb];decide)]
     rw [hb] at hlk;have hop:zAT (ln:Int) (kx,vx)=0:=hfa
     have hk8:8 <= kx:=by
      simp only [zAT] at hop
      split at hop
      ·omega
      ·omega
     have h13:kx=13->0 <= vx/\vx < letter.length:=fun e=>by
      simp only [zAT] at hop;rw [if_neg (by omega),if_pos e] at hop
      split at hop
      ·omega
      ·have:=HLN.out;omega
     have hpr:kx=10\/kx=8\/kx=9->p+1 < n:=fun e=>by rw [HN.out];exact hp1 (by rcases e with rfl | rfl | rfl <;> decide)
     have hps:kx=8\/kx=9->sec l p < n:=fun e=>by rw [HN.out];exact (hp2 (by rcases e with rfl | rfl <;> decide)).2
     have hBl:B < w.heap.size:=HR.out.lt;have hpa:=zD5 b off cap n B (w.heap.size+1+1) p _ h l aao k ac rfl W (fun j hj=>hi.row.cell hj) hi.row.lt (fun j hj=>(hi.below.cell (p:=⟨B,j,none⟩) hBl).trans (HR.out.cell hj)) (Nat.lt_of_lt_of_le hBl hi.below.size)
     obtain ⟨t0,t1,t2,_⟩:=hi.three;have hch:=hi.holds;have hcl:=hi.letter
     have HMk:Hid (∀ w2,Below W.heap.size W w2->PartsAt w2 (W.heap.size+1+1) W.heap.size (W.heap.size+1) (w.heap.size+1+1) n B p h l->Calls Tryz.prog 105 #[.agg #[.int .i64 kx,.int .i64 vx],.slice lo ln lc,.func (.func 134) #[] #[.pointer (some ⟨W.heap.size+1+1,0,none⟩),.pointer (some ⟨W.heap.size+1,0,none⟩)],.func (.func 135) #[] #[.pointer (some ⟨W.heap.size+1+1,0,none⟩),.pointer (some ⟨W.heap.size,0,none⟩),.pointer (some ⟨W.heap.size+1,0,none⟩)]] w2.drew fun e w'=>
       e=.returned (.bool (mkB (kx,vx) letter (h (p+1)) (h (sec l p))))/\Below W.heap.size W w'/\w'.cell? ⟨w.heap.size+1+1+1,0,none⟩=some (.slice (some ⟨w.heap.size+1+1,0,none⟩) n n)/\w'.cell? ⟨w.heap.size+1+1,p,none⟩=some (.bool (h p))/\w'.frozen? ⟨w.heap.size+1+1,p,none⟩=false):=fun w2 hb2 hP=>by
      have hlt:W.heap.size+1+1 < w2.heap.size:=World.block_lt_of_cell? w2 ⟨W.heap.size+1+1,0,none⟩ hP.holds;have hbd:Below W.heap.size W w2.drew:=hb2.drew;have hPd:PartsAt w2.drew (W.heap.size+1+1) W.heap.size (W.heap.size+1) (w.heap.size+1+1) n B p h l:=⟨hP.holds,hP.row,hP.ends,hP.erow,hP.place⟩
      have hLd:zAM w2.drew (.slice lo letter.length lc) letter:=by rw [<- HLN.out];exact (HL.out.below hi.below).below hbd
      have hsw:w2.drew.heap.size=w2.heap.size:=rfl;have hrl:=hi.row.lt;rw [HLN.out];refine (zMW kx vx lo lc _ _ _ _ n B p letter h l w2.drew h60 hLd hPd (by omega) (by omega) (by omega) (by omega) (by omega) h13 hpr hps).mono fun e w' ⟨he,hb⟩=>?_
      have hbf:Below W.heap.size W w':=hbd.trans (hb.mono (by omega))
      exact ⟨he,hbf,(hbf.cell (p:=⟨w.heap.size+1+1+1,0,none⟩) (World.block_lt_of_cell? W _ hch)).trans hch,(hbf.cell (p:=⟨w.heap.size+1+1,p,none⟩) hrl).trans (hi.row.cell hpn),(hbf.frozen (p:=⟨w.heap.size+1+1,p,none⟩) hrl).trans (hi.row.frozen p)⟩
     generalize mkB (kx,vx) letter (h (p+1)) (h (sec l p))=tv at HMk HE
     have HC2:Hid (∀ w2,Below W.heap.size W w2->w2.cell? ⟨w.heap.size+1+1+1,0,none⟩=some (.slice (some ⟨w.heap.size+1+1,0,none⟩) n n)/\w2.cell? ⟨w.heap.size+1,0,none⟩=some (.slice lo ln lc)/\w2.cell? ⟨Bx,0,none⟩=some (.int .i64 kx)/\w2.cell? ⟨Bx,1,none⟩=some (.int .i64 vx)):=fun w2 hb=>⟨(hb.cell (p:=⟨w.heap.size+1+1+1,0,none⟩) (World.block_lt_of_cell? W _ hch)).trans hch,(hb.cell (p:=⟨w.heap.size+1,0,none⟩) (World.block_lt_of_cell? W _ hcl)).trans hcl,(hb.cell (p:=⟨Bx,0,none⟩) hBxl).trans cx0,(hb.cell (p:=⟨Bx,1,none⟩) hBxl).trans cx1⟩
     clear hb HNx' hp1 hp2 hfa hop h13 hpr hps hi
     gi_wp2_with (first | (refine ⟨trivial,?_⟩;gi_at_call 103;refine (CallsIn.inRound L (callsIn_wide.2 (hlk _))).mono ?_;rintro e wz ⟨rfl,hwz⟩;obtain rfl:=hwz.symm) | (refine ⟨trivial,?_⟩;gi_at_call 104;refine (CallsIn.inRound L (callsIn_wide.2 hpa)).mono ?_;rintro e w2 ⟨rfl,hb2,HP2⟩;obtain ⟨d0,d1,d2,d3⟩:=HC2.out w2 hb2;have hma:=HMk.out w2 hb2 HP2.out))
     refine zFQ (fun w'=>w'.cell? ⟨w.heap.size+1+1+1,0,none⟩=some (.slice (some ⟨w.heap.size+1+1,0,none⟩) n n)/\w'.cell? ⟨w.heap.size+1,0,none⟩=some (.slice lo ln lc)/\w'.cell? ⟨Bx,0,none⟩=some (.int .i64 kx)/\w'.cell? ⟨Bx,1,none⟩=some (.int .i64 vx)) hmx ?nd ?nl ?_
     case nd=>
      intro i o ho c;have hi:i < 9:=(Array.getElem?_eq_some_iff.1 ho).1
      have hc:i=0\/i=1\/i=2\/i=3\/i=4\/i=5\/i=6\/i=7\/i=8:=by omega
      rcases hc with rfl | rfl | rfl | rfl | rfl | rfl | rfl | rfl | rfl <;> (obtain rfl:=Option.some.inj ho;exact fun h=>by cases h)
     case nl=>exact fun ⟨_,_,h⟩=>h
     have hS2:w2.drew.cell? ⟨w.heap.size+1+1+1,0,none⟩=some (.slice (some ⟨w.heap.size+1+1,0,none⟩) n n)/\w2.drew.cell? ⟨w.heap.size+1,0,none⟩=some (.slice lo ln lc)/\w2.drew.cell? ⟨Bx,0,none⟩=some (.int .i64 kx)/\w2.drew.cell? ⟨Bx,1,none⟩=some (.int .i64 vx):=⟨d0,d1,d2,d3⟩
     refine wpAnyH_take (i:=0) (v:=.slice (some ⟨w.heap.size+1+1,0,none⟩) n n) rfl (by kernel_rfl) (by kernel_rfl) (by kernel_rfl) (fun _ _ _ h=>h) (Or.inl ⟨by rfl,fun wq hSw=>by obtain ⟨q0,q1,q2,q3⟩:=hSw;go_simp⟩) hS2 ?_
     simp only [Act.put,List.setIfInBounds_toArray];refine wpAnyH_take (i:=1) (v:=.int .i64 (p:Int)) rfl (by kernel_rfl) (by kernel_rfl) (by kernel_rfl) (fun _ _ _ h=>h) (Or.inl ⟨by rfl,fun wq hSw=>by obtain ⟨q0,q1,q2,q3⟩:=hSw;go_simp⟩) hS2 ?_
     simp only [Act.put];refine wpAnyH_take (i:=2) (v:=.agg #[.int .i64 kx,.int .i64 vx]) rfl (by kernel_rfl) (by kernel_rfl) (by kernel_rfl) (fun _ _ _ h=>h) (Or.inl ⟨by rfl,fun wq hSw=>by obtain ⟨q0,q1,q2,q3⟩:=hSw;go_simp⟩) hS2 ?_
     simp only [Act.put];refine wpAnyH_take (i:=3) (v:=.slice lo ln lc) rfl (by kernel_rfl) (by kernel_rfl) (by kernel_rfl) (fun _ _ _ h=>h) (Or.inl ⟨by rfl,fun wq hSw=>by obtain ⟨q0,q1,q2,q3⟩:=hSw;go_simp⟩) hS2 ?_
     simp only [Act.put];refine wpAnyH_take (i:=4) (v:=.func (.func 134) #[] #[.pointer (some ⟨W.heap.size+1+1,0,none⟩),.pointer (some ⟨W.heap.size+1,0,none⟩)]) rfl (by kernel_rfl) (by kernel_rfl) (by kernel_rfl) (fun _ _ _ h=>h) (Or.inl ⟨by rfl,fun wq hSw=>by obtain ⟨q0,q1,q2,q3⟩:=hSw;go_simp⟩) hS2 ?_
     simp only [Act.put];refine wpAnyH_take (i:=5) (v:=.func (.func 135) #[] #[.pointer (some ⟨W.heap.size+1+1,0,none⟩),.pointer (some ⟨W.heap.size,0,none⟩),.pointer (some ⟨W.heap.size+1,0,none⟩)]) rfl (by kernel_rfl) (by kernel_rfl) (by kernel_rfl) (fun _ _ _ h=>h) (Or.inl ⟨by rfl,fun wq hSw=>by obtain ⟨q0,q1,q2,q3⟩:=hSw;go_simp⟩) hS2 ?_
     simp only [Act.put];refine wpAnyH_all (rs:=[6]) (by kernel_rfl) (by decide) ?_
     intro i hi;obtain rfl:i=6:=by simpa using hi
     refine zFO rfl (by rfl) (by go_simp) hma ?_
     rintro e w3 ⟨rfl,hb3,g0,g1,g2⟩
     obtain ⟨e0,e1,e2,e3⟩:=HC2.out w3 hb3;refine ⟨_,rfl,⟨e0,e1,e2,e3⟩,?_⟩
     simp only [Act.put];refine wpAnyH_take (i:=7) (v:=.pointer (some ⟨w.heap.size+1+1,p,none⟩)) rfl (by kernel_rfl) (by kernel_rfl) (by kernel_rfl) (fun _ _ _ h=>h) (Or.inl ⟨by rfl,fun wq _=>by go_simp⟩) ⟨e0,e1,e2,e3⟩ ?_
     simp only [Act.put];refine wpAnyH_all (rs:=[8]) (by kernel_rfl) (by decide) ?_
     intro i hi;obtain rfl:i=8:=by simpa using hi
     have hco:∀ z q,z≠w.heap.size+1+1->(w3.setCell ⟨w.heap.size+1+1,p,none⟩ (.bool tv)).cell? ⟨z,q,none⟩=w3.cell? ⟨z,q,none⟩:=fun z q hz=>World.cell?_of_block (w:=w3) (Below.heap_setCell w3 _ _ z hz)
     refine zHV (w':=w3.setCell ⟨w.heap.size+1+1,p,none⟩ (.bool tv)) rfl (by rfl) (by go_simp) ⟨⟨(hco _ _ (by omega)).trans e0,(hco _ _ (by omega)).trans e1,(hco _ _ (by omega)).trans e2,(hco _ _ (by omega)).trans e3⟩,?_⟩
     refine wpAnyH_done (by kernel_rfl) ?_ _
     have hW4:w.heap.size+4 <= W.heap.size:=by omega
     refine ⟨(zHF hb3).trans ((KeepsOthers.setCell _ _ _).from _),⟨(hb3.mono HSt.out.below.size).setCell (by simp;omega) _,(Below.heap_setCell w3 _ _ W1.heap.size (by simp;omega)).trans (hb3.block _ (by omega))⟩,?_⟩
     show TrSt w _ _ _ _ n (zB1 l letter (zBw l claim k) (pre++[⟨p,hpn⟩])) _ _
     rw [HNX.out,HE.out];exact (HSt.out.later hb3 hW4).put p tv
   case done=>
    rintro D xs W hD rfl hi hK
    have hch:=hi.holds;have HT:Hid (TrSt w (.slice (some ⟨b,off,none⟩) n cap) (.slice (some ⟨B,0,none⟩) n n) (.slice aao k ac) (.slice lo ln lc) n (tru l letter claim) (W1.heap.size+1) W):=hi.congr (fun j hj=>by rw [HAL.out,zKk HZ.out h0n HN.out n (Nat.le_refl _) j hj,if_pos (by omega)])
    clear hi
    gi_wp2
    refine ⟨by simp,.inl ⟨_,_,rfl,run_takeDeferred hK,?_⟩⟩
    have hb':Below (W1.heap.size+1) W (W.putObj D (.deferred none)):=belowK_b (w:=W1.alloc (.cells #[.slice (some ⟨b,off,none⟩) n cap] 33)) (by simp) W D _ _ hD hK rfl rfl
    have t':=HT.out.later hb' (by omega)
    exact ⟨_,results_tmp2 rfl _ _ _,_,rfl,t'.below,t'.row,by omega⟩
   case stop=>
    rintro D c pre W _ _ h _
    exact h.elim
end Go.Proofs.YtnihdlgfhhdhkaaGreatDoor
namespace Go.Proofs.YtnihdlgfhhdhkaaGreatDoor
open Go.ChangeShapes Go.WideShapes Go.ChangeAt Go.RowKit Go.Deep
open Terms
set_option maxHeartbeats 6400000
set_option maxRecDepth 20000
def zAi (w:World) (v:Value) (B:Nat) (av:Value) (l:List (Int × Int)):Prop:=
 ∃ b off cap,v=.slice (some ⟨b,off,none⟩) l.length cap/\b < w.heap.size/\zAu w b off l/\w.rowIs B 3 l.length (fun q=>.int .i64 (zAa (l.map Prod.fst) q))/\zAI w av (zAA l)
theorem zAi.below {w w':World} {v:Value} {B:Nat} {av:Value} {l:List (Int × Int)} (h:zAi w v B av l) (hb:Below w.heap.size w w'):zAi w' v B av l:=by
 obtain ⟨b,off,cap,h1,h2,h3,h4,h5⟩:=h;exact ⟨b,off,cap,h1,Nat.lt_of_lt_of_le h2 hb.size,h3.below hb h2,zAh h4 hb,h5.below hb⟩
def zBF (l:List (Int × Int)) (claim:Int):Prop:=claim < 0\/2 ^ (zAA l).length <= claim
def zGH (l:List (Int × Int)) (letter:List Bool) (claim:Int) (w:World) (e:Ending) (w':World):Prop:=
 Below w.heap.size w w'/\(zBF l claim->e=.returned (.tuple #[.slice none 0 0,.int .i64 2]))/\(¬ zBF l claim->∃ bH,e=.returned (.tuple #[.slice (some ⟨bH,0,none⟩) l.length l.length,.int .i64 0])/\w'.rowIs bH 4 l.length (fun j=>.bool (tru l letter claim j)))
theorem zEZ (v:Value) (B:Nat) (av lv:Value) (l:List (Int × Int)) (letter:List Bool) (claim:Int) (w:World) (hc:zAQ letter.length l=0) (hV:zAi w v B av l) (hL:zAM w lv letter) :
  Calls Tryz.prog 66 #[.agg #[v,.slice (some ⟨B,0,none⟩) l.length l.length,av],lv,.int .i64 claim] w (zGH l letter claim w):=by
 obtain ⟨hp0,hp6,hz,hlf,h6⟩:=zAl hc;obtain ⟨hne,h60⟩:=zB7 hz;rw [List.length_map] at h60;obtain ⟨b,off,cap,rfl,hbl,hat,hrow,hav⟩:=hV;obtain ⟨aao,ac,rfl,ha⟩:=id hav;obtain ⟨lo,lc,rfl,hl⟩:=id hL
 by_cases hcl:zBF l claim
 ·exact (zKh _ _ _ _ aao _ ac claim lo _ lc (some ⟨b,off,none⟩) (some ⟨B,0,none⟩) l.length cap l.length l.length rfl rfl rfl rfl h6 w hcl).mono fun e w' ⟨h1,h2⟩=>⟨h2,fun _=>h1,fun h=>absurd hcl h⟩
 ·have h0n:0 < l.length:=by
   cases l with
   | nil=>exact absurd rfl hne
   | cons _ _=>simp
  refine (zMQ b off cap l.length B aao _ ac lo _ lc l letter claim w h0n h60 rfl hz hat hbl hrow rfl hav h6 rfl hL hlf (by unfold zBF at hcl;omega) (by unfold zBF at hcl;omega)).mono fun e w' ⟨bH,h1,h2,h3,_⟩=>⟨h2,fun h=>absurd h hcl,fun _=>⟨bH,h1,h3.out⟩⟩
noncomputable def zA2 (l:List (Int × Int)) (letter:List Bool) (claim:Int):Int:=by classical exact if zAQ letter.length l=0 then (if zBF l claim then 2 else 0) else zAQ letter.length l
noncomputable def zDk (l:List (Int × Int)) (letter:List Bool) (claim:Int):List Bool:=if zA2 l letter claim=0 then (List.range l.length).map (tru l letter claim) else []
theorem zD2 {l:List (Int × Int)} {letter:List Bool} {claim:Int} (h:zAQ letter.length l≠0):zA2 l letter claim=zAQ letter.length l:=by unfold zA2;rw [if_neg h]
theorem zDx {l:List (Int × Int)} {letter:List Bool} {claim:Int} (h:zAQ letter.length l=0) (h2:zBF l claim):zA2 l letter claim=2:=by unfold zA2;rw [if_pos h,if_pos h2]
theorem zCW {l:List (Int × Int)} {letter:List Bool} {claim:Int} (h:zAQ letter.length l=0) (h2:¬ zBF l claim):zA2 l letter claim=0:=by unfold zA2;rw [if_pos h,if_neg h2]
theorem zLU {w:World} {bH:Nat} {l:List (Int × Int)} {letter:List Bool} {claim:Int} (h:w.rowIs bH 4 l.length (fun j=>.bool (tru l letter claim j))):zAM w (.slice (some ⟨bH,0,none⟩) l.length l.length) ((List.range l.length).map (tru l letter claim)):=by
 have h2:=zEz (w:=w) (B:=bH) (l:=(List.range l.length).map (tru l letter claim)) (by
  rw [List.length_map,List.length_range]
  exact h.congr fun j hj=>by simp [List.getD_eq_getElem?_getD,hj])
 rwa [List.length_map,List.length_range] at h2
theorem zIs (v:Value) (l:List (Int × Int)) (props:Int) (w:World) (hB:0 < w.heap.size) (hT:zAJ w) (hV:zAX w v l) :
  Calls Tryz.prog 65 #[v,.int .i64 props] w fun e w'=>Below w.heap.size w w'/\(zAQ props l≠0->e=.returned (.tuple #[.agg #[.slice none 0 0,.slice none 0 0,.slice none 0 0],.int .i64 (zAQ props l)]))/\(zAQ props l=0->∃ B aao ac,e=.returned (.tuple #[.agg #[v,.slice (some ⟨B,0,none⟩) l.length l.length,.slice aao (zAA l).length ac],.int .i64 0])/\Hid (zAi w' v B (.slice aao (zAA l).length ac) l)):=by
 refine (zFR v l props w hB hT hV).mono fun e w' ⟨h1,h2,h3⟩=>⟨h1,h2,fun hz=>?_⟩
 obtain ⟨B,av,_,he,hrow,ho⟩:=h3 hz;obtain ⟨aao,ac,rfl⟩:=zAm ho;obtain ⟨_,_,hze,_,_⟩:=zAl hz;obtain ⟨hne,_⟩:=zB7 hze
 obtain ⟨b,off,hat⟩:∃ b off,(∃ cap,v=.slice (some ⟨b,off,none⟩) l.length cap)/\b < w'.heap.size/\zAu w' b off l:=by
  obtain ⟨ao,cap,rfl,_,h⟩:=hV.below h1;obtain ⟨b,off,rfl,hlt,hat⟩:=h (by rintro rfl;exact hne rfl)
  exact ⟨b,off,⟨cap,rfl⟩,hlt,hat⟩
 obtain ⟨⟨cap,hv⟩,hlt,hat⟩:=hat;exact ⟨B,aao,ac,he,b,off,cap,hv,hlt,hat,hrow,zA4 ho⟩
theorem zFz (v lv:Value) (l:List (Int × Int)) (letter:List Bool) (claim:Int) (w:World) (hB:0 < w.heap.size) (hT:zAJ w) (hV:zAX w v l) (hL:zAM w lv letter) :
    Calls Tryz.prog 39 #[v,lv,.int .i64 claim] w fun e w'=>∃ v',e=.returned (.tuple #[v',.int .i64 (zA2 l letter claim)])/\Below w.heap.size w w'/\zAM w' v' (zDk l letter claim):=by
  have hrd:=zIs v l letter.length w hB hT hV;obtain ⟨lo,lc,rfl,hl⟩:=id hL;obtain ⟨oo,oc,rfl,_⟩:=id hV
  by_cases hc:zAQ letter.length l=0
  · have HM:Hid (∀ w1 B aao ac,Below w.heap.size w w1->zAi w1 (.slice oo l.length oc) B (.slice aao (zAA l).length ac) l->∀ o,Calls Tryz.prog 66 #[.agg #[.slice oo l.length oc,.slice (some ⟨B,0,none⟩) l.length l.length,.slice aao (zAA l).length ac],.slice lo letter.length lc,.int .i64 claim] (w1.alloc o) fun e w'=>∃ ro rn rc,e=.returned (.tuple #[.slice ro rn rc,.int .i64 (zA2 l letter claim)])/\Below w1.heap.size w1 w'/\Hid (zAM w' (.slice ro rn rc) (zDk l letter claim))):=fun w1 B aao ac hb hW o=>by
      have hA:Below w1.heap.size w1 (w1.alloc o):=(Below.refl _ _).alloc (Nat.le_refl _) o;refine (zEZ _ B _ _ l letter claim (w1.alloc o) hc (hW.below hA) ((hL.below hb).below hA)).mono fun e w' ⟨h1,h2,h3⟩=>?_
      have h1':=hA.trans (h1.mono hA.size)
      by_cases hn:zBF l claim
      · exact ⟨none,0,0,by rw [zDx hc hn];exact h2 hn,h1',by show zAM _ _ _;unfold zDk;rw [zDx hc hn];exact ⟨none,0,rfl,fun h=>absurd rfl h⟩⟩
      · obtain ⟨bH,he,hr⟩:=h3 hn
        exact ⟨_,_,_,by rw [zCW hc hn];exact he,h1',by show zAM _ _ _;unfold zDk;rw [zCW hc hn];exact zLU hr⟩
    have hrd2:Calls Tryz.prog 65 #[.slice oo l.length oc,.int .i64 (letter.length:Int)] w fun e w'=>Below w.heap.size w w'/\∃ B aao ac,e=.returned (.tuple #[.agg #[.slice oo l.length oc,.slice (some ⟨B,0,none⟩) l.length l.length,.slice aao (zAA l).length ac],.int .i64 0])/\Hid (zAi w' (.slice oo l.length oc) B (.slice aao (zAA l).length ac) l):=hrd.mono fun e w' ⟨h1,_,h3⟩=>⟨h1,h3 hc⟩
    generalize zA2 l letter claim=x at *;generalize zDk l letter claim=res at *;generalize (zAA l).length=an at *;generalize letter.length=ln at *;generalize l.length=n at *;clear hrd hT hV hL hl hc
    go_enter Tryz.func39,Tryz.ntmps39
    go_wp2_with (first | (go_at_call 65;refine hrd2.mono ?_;rintro e w1 ⟨hb1,B,aao,ac,rfl,HW⟩;have hme:=HM.out w1 B aao ac hb1 HW.out) | (go_at_call 66;refine (hme _).mono ?_;rintro e w2 ⟨ro,rn,rc,rfl,hb2,HR⟩))
    go_ret2
    exact ⟨_,rfl,hb1.trans (hb2.mono hb1.size),HR.out⟩
  · have hrd2:Calls Tryz.prog 65 #[.slice oo l.length oc,.int .i64 (letter.length:Int)] w fun e w'=>Below w.heap.size w w'/\e=.returned (.tuple #[.agg #[.slice none 0 0,.slice none 0 0,.slice none 0 0],.int .i64 (zAQ letter.length l)]):=hrd.mono fun e w' ⟨h1,h2,_⟩=>⟨h1,h2 hc⟩
    have HX:Hid (zA2 l letter claim=zAQ letter.length l/\zDk l letter claim=[]):=⟨zD2 hc,by unfold zDk;rw [if_neg (by rw [zD2 hc];exact hc)]⟩
    rw [HX.out.1,HX.out.2];generalize zAQ letter.length l=x at *;generalize letter.length=ln at *;generalize l.length=n at *;clear hrd hT hV hL hl HX
    go_enter Tryz.func39,Tryz.ntmps39
    go_wp2_with (go_at_call 65;refine hrd2.mono ?_;rintro e w1 ⟨hb1,rfl⟩)
    go_ret2
    exact ⟨_,rfl,by first | exact hb1 | exact hb1.alloc hb1.size _,none,0,rfl,fun h=>absurd rfl h⟩
def zBU (k:Int) (a x y:Bool):Bool:=if k=17 then a&&!x else if k=18 then !a&&x else if k=15 then a&&!y else if k=16 then !a&&y else false
def zBm (k:Int) (x y z nx:Bool):Bool:=if k=17 then x||z else if k=18 then x&&z else if k=15 then y||(x&&z) else if k=16 then y&&(x||z) else nx
structure PlaceIn (w:World) (b off n cap B bH:Nat) (l:List (Int × Int)) (h:Nat->Bool) (p:Nat) (kx:Int):Prop where
 n60:n <= 60
 pl:p < n
 one:p+1 < n
 two:kx=15\/kx=16->sec l p < n
 kind:w.cell? ⟨b,off+p*2,none⟩=some (.int .i64 kx)
 bl:b < w.heap.size
 row:∀ j,j < n->w.cell? ⟨bH,j,none⟩=some (.bool (h j))
 hl:bH < w.heap.size
 ends : ∀ j, j < n -> w.cell? ⟨B, j, none⟩ = some (.int .i64 (zAa (l.map Prod.fst) j))
 el:B < w.heap.size
theorem zLj (b off n cap B bH:Nat) (l:List (Int × Int)) (h:Nat->Bool) (p:Nat) (kx:Int) (aao:Option Addr) (an ac:Nat) (w:World) (hI:PlaceIn w b off n cap B bH l h p kx) :
  Calls Tryz.prog 108 #[.agg #[.slice (some ⟨b,off,none⟩) n cap,.slice (some ⟨B,0,none⟩) n n,.slice aao an ac],.int .i64 (p:Int),.slice (some ⟨bH,0,none⟩) n n] w fun e w'=>e=.returned (.bool (zBU kx (h p) (h (p+1)) (h (sec l p))))/\Below w.heap.size w w':=by
 obtain ⟨h60,hp,hp1,hp2,ck,hbl,hrow,hhl,hends,hel⟩:=hI;have hA:∀ o,Below w.heap.size w (w.alloc o):=fun o=>(Below.refl _ _).alloc (Nat.le_refl _) o
 have hpa:=fun o=>zD5 b off cap n B bH p _ h l aao an ac rfl (w.alloc o) (fun j hj=>((hA o).cell (p:=⟨bH,j,none⟩) hhl).trans (hrow j hj)) (Nat.lt_of_lt_of_le hhl (hA o).size) (fun j hj=>((hA o).cell (p:=⟨B,j,none⟩) hel).trans (hends j hj)) (Nat.lt_of_lt_of_le hel (hA o).size)
 have hpa:=hpa (.cells #[.slice (some ⟨b,off,none⟩) n cap,.slice (some ⟨B,0,none⟩) n n,.slice aao an ac] 147);simp only [World.size_alloc] at hpa
 have HP2:Hid (∀ w2,Below (w.heap.size+1) (w.alloc (.cells #[.slice (some ⟨b,off,none⟩) n cap,.slice (some ⟨B,0,none⟩) n n,.slice aao an ac] 147)) w2->Below w.heap.size w w2/\w2.cell? ⟨b,off+p*2,none⟩=some (.int .i64 kx)/\w2.cell? ⟨bH,p,none⟩=some (.bool (h p))/\w2.cell? ⟨w.heap.size,0,none⟩=some (.slice (some ⟨b,off,none⟩) n cap)):=fun w2 hb=>by
  have hb2:=(hA _).trans (hb.mono (Nat.le_succ _));exact ⟨hb2,(hb2.cell (p:=⟨b,_,none⟩) hbl).trans ck,(hb2.cell (p:=⟨bH,_,none⟩) hhl).trans (hrow p hp),(hb.cell (p:=⟨w.heap.size,0,none⟩) (by simp)).trans (by simp [go_sem])⟩
 have HF:Hid (∀ w2 bh bf bp,PartsAt w2 bh bf bp bH n B p h l->Calls Tryz.prog 134 #[.pointer (some ⟨bh,0,none⟩),.pointer (some ⟨bp,0,none⟩)] w2 fun e w'=>e=.returned (.bool (h (p+1)))/\w'=w2):=fun w2 bh bf bp hP=>zD7 bh bp bH n p _ w2 h60 hp1 hP.holds hP.place (hP.row _ hp1)
 have HS:Hid ((kx=15\/kx=16)->∀ w2 bh bf bp,PartsAt w2 bh bf bp bH n B p h l->Calls Tryz.prog 135 #[.pointer (some ⟨bh,0,none⟩),.pointer (some ⟨bf,0,none⟩),.pointer (some ⟨bp,0,none⟩)] w2 fun e w'=>e=.returned (.bool (h (sec l p)))/\∃ r,w'=w2.drewN r):=fun hk w2 bh bf bp hP=>zEn bh bf bp bH n B p (sec l p) _ w2 h60 hp1 (hp2 hk) hP.holds hP.place hP.ends (hP.erow _ hp1) (hP.row _ (hp2 hk))
 generalize hx:h (p+1)=x at *;generalize hy:h (sec l p)=y at *;generalize hz:h p=z at *;clear hx hy hz hrow hends ck hp2 hA
 by_cases e17:kx=17
 ·subst e17
  rw [show zBU 17 z x y=(z&&!x) by simp [zBU]]
  clear HS
  cases z
  all_goals
   go_enter Tryz.func108,Tryz.ntmps108
   go_wp2_with (first | (go_at_call 104;refine hpa.mono ?_;rintro e w2 ⟨rfl,hb2,HP⟩;obtain ⟨hbw,d0,d1,d2⟩:=HP2.out w2 hb2;have hf:=HF.out w2 _ _ _ HP.out) | (go_at_call 134;refine hf.mono ?_;rintro e w3 ⟨rfl,hw3⟩;obtain rfl:=hw3.symm))
   go_ret
   exact ⟨by first | rfl | simp,by first | exact hbw | exact below_drewN hbw _⟩
 ·by_cases e18:kx=18
  ·subst e18
   rw [show zBU 18 z x y=(!z&&x) by simp [zBU]]
   clear HS
   cases z
   all_goals
    go_enter Tryz.func108,Tryz.ntmps108
    go_wp2_with (first | (go_at_call 104;refine hpa.mono ?_;rintro e w2 ⟨rfl,hb2,HP⟩;obtain ⟨hbw,d0,d1,d2⟩:=HP2.out w2 hb2;have hf:=HF.out w2 _ _ _ HP.out) | (go_at_call 134;refine hf.mono ?_;rintro e w3 ⟨rfl,hw3⟩;obtain rfl:=hw3.symm))
    go_ret
    exact ⟨by first | rfl | simp,by first | exact hbw | exact below_drewN hbw _⟩
  ·by_cases e15:kx=15
   ·subst e15
    rw [show zBU 15 z x y=(z&&!y) by simp [zBU]]
    have HS2:=(show Hid _ from HS.out (by decide))
    clear HS
    cases z
    all_goals
     go_enter Tryz.func108,Tryz.ntmps108
     go_wp2_with (first | (go_at_call 104;refine hpa.mono ?_;rintro e w2 ⟨rfl,hb2,HP⟩;obtain ⟨hbw,d0,d1,d2⟩:=HP2.out w2 hb2;have hs:=HS2.out w2 _ _ _ HP.out) | (go_at_call 135;refine hs.mono ?_;rintro e w3 ⟨rfl,r3,rfl⟩))
     go_ret
     exact ⟨by first | rfl | simp,by first | exact hbw | exact below_drewN hbw _⟩
   ·by_cases e16:kx=16
    ·subst e16
     rw [show zBU 16 z x y=(!z&&y) by simp [zBU]]
     have HS2:=(show Hid _ from HS.out (by decide))
     clear HS
     cases z
     all_goals
      go_enter Tryz.func108,Tryz.ntmps108
      go_wp2_with (first | (go_at_call 104;refine hpa.mono ?_;rintro e w2 ⟨rfl,hb2,HP⟩;obtain ⟨hbw,d0,d1,d2⟩:=HP2.out w2 hb2;have hs:=HS2.out w2 _ _ _ HP.out) | (go_at_call 135;refine hs.mono ?_;rintro e w3 ⟨rfl,r3,rfl⟩))
      go_ret
      exact ⟨by first | rfl | simp,by first | exact hbw | exact below_drewN hbw _⟩
    ·rw [show zBU kx z x y=false by simp [zBU,e17,e18,e15,e16]]
     clear HS
     go_enter Tryz.func108,Tryz.ntmps108
     go_wp2_with (first | (go_at_call 104;refine hpa.mono ?_;rintro e w2 ⟨rfl,hb2,HP⟩;obtain ⟨hbw,d0,d1,d2⟩:=HP2.out w2 hb2))
     go_ret
     exact ⟨rfl,hbw⟩
theorem zK8 (bn bp bN n pl:Nat) (x:Bool) (w:World) (hp:pl < n) (c0:w.cell? ⟨bn,0,none⟩=some (.slice (some ⟨bN,0,none⟩) n n)) (c1:w.cell? ⟨bp,0,none⟩=some (.int .i64 pl)) (c2:w.cell? ⟨bN,pl,none⟩=some (.bool x)) :
  Calls Tryz.prog 144 #[.pointer (some ⟨bn,0,none⟩),.pointer (some ⟨bp,0,none⟩)] w fun e w'=>e=.returned (.bool x)/\w'=w:=by
 go_enter Tryz.func144,Tryz.ntmps144
 go_wp2_with fail
 go_ret
 exact ⟨rfl,rfl⟩
def zDN (l:List (Int × Int)) (h:Nat->Bool) (p:Nat):Bool:=zBU (l.getD p (0,0)).1 (h p) (h (p+1)) (h (sec l p))
def zBy (l:List (Int × Int)) (h:Nat->Bool):Nat->Int
 | 0=>0
 | k+1=>zBy l h k+if zDN l h ((zAA l).getD k 0).toNat=true then 0 else 2 ^ k
theorem zFV (l:List (Int × Int)) (h:Nat->Bool):∀ k,0 <= zBy l h k/\zBy l h k < 2 ^ k:=by
 intro k
 induction k with
 | zero=>simp [zBy]
 | succ k ih=>
  have h2:(0:Int) < 2 ^ k:=Int.pow_pos (by decide)
  simp only [zBy];rw [Int.pow_succ]
  split <;> omega
theorem zNa:∀ k,k < 6->∀ c,c < 2 ^ k->bits BinOp.or IntKind.i64 ((c:Nat):Int) (2 ^ k)=((c:Nat):Int)+2 ^ k:=by decide
theorem zIr {c:Int} {k:Nat} (hk:k < 6) (h0:0 <= c) (h1:c < 2 ^ k):bits BinOp.or IntKind.i64 c (2 ^ k)=c+2 ^ k:=by
 obtain ⟨m,rfl⟩:∃ m:Nat,c=m:=⟨c.toNat,by omega⟩
 refine zNa k hk m ?_
 have e:((2 ^ k:Nat):Int)=2 ^ k:=by simp
 omega
theorem zE2 {k:Nat} (hk:k <= 6):(2:Int) ^ k <= 64:=by
 have hcase:k=0\/k=1\/k=2\/k=3\/k=4\/k=5\/k=6:=by omega
 rcases hcase with rfl | rfl | rfl | rfl | rfl | rfl | rfl <;> decide
noncomputable def zCA (l:List (Int × Int)) (letter:List Bool) (claim:Int):Int:=if zA2 l letter claim=0 then zBy l (tru l letter claim) (zAA l).length else 0
theorem zIc {w:World} {b off cap B bH:Nat} {av:Value} {l:List (Int × Int)} {h:Nat->Bool} (hW:zAi w (.slice (some ⟨b,off,none⟩) l.length cap) B av l) (hz:zAD (l.map Prod.fst)=0) (hr:w.rowIs bH 4 l.length (fun j=>.bool (h j))) {p:Nat} (hp:p < l.length) (hk:zAP (l.getD p (0,0)).1=true):PlaceIn w b off l.length cap B bH l h p (l.getD p (0,0)).1:=by
 obtain ⟨b',off',cap',hv,hbl,hat,hrow,_⟩:=hW
 injection hv with e1 e2 e3
 injection Option.some.inj e1 with e4 e5
 subst e4 e5;obtain ⟨hne,h60⟩:=zB7 hz;rw [List.length_map] at h60;obtain ⟨h1,h2⟩:=zDh hz hp;have hk':14 <= (l.getD p (0,0)).1/\(l.getD p (0,0)).1 <= 18:=by simpa [zAP] using hk
 have hpn:1 <= pn (l.getD p (0,0)).1:=by
  unfold pn
  split
  ·omega
  ·split
   ·omega
   ·omega
 exact ⟨h60,hp,h1 hpn,fun e=>(h2 (by rcases e with e | e <;> rw [e] <;> rfl)).2,(hat p hp).1,hbl,fun j hj=>hr.cell hj,hr.lt,fun j hj=>hrow.cell hj,hrow.lt⟩
theorem zKY (v lv:Value) (l:List (Int × Int)) (letter:List Bool) (claim:Int) (w:World) (hB:0 < w.heap.size) (hT:zAJ w) (hV:zAX w v l) (hL:zAM w lv letter) :
  Calls Tryz.prog 69 #[v,lv,.int .i64 claim] w fun e w'=>e=.returned (.tuple #[.int .i64 (zCA l letter claim),.int .i64 (zA2 l letter claim)])/\Below w.heap.size w w':=by
 have hrd:=zIs v l letter.length w hB hT hV;obtain ⟨lo,lc,rfl,hl⟩:=id hL;obtain ⟨oo,oc,rfl,_⟩:=id hV
 by_cases hc:zAQ letter.length l=0
 ·obtain ⟨_,_,hz,_,h6⟩:=zAl hc
  have hrd2:Calls Tryz.prog 65 #[.slice oo l.length oc,.int .i64 (letter.length:Int)] w fun e w'=>Below w.heap.size w w'/\∃ B aao ac,e=.returned (.tuple #[.agg #[.slice oo l.length oc,.slice (some ⟨B,0,none⟩) l.length l.length,.slice aao (zAA l).length ac],.int .i64 0])/\Hid (zAi w' (.slice oo l.length oc) B (.slice aao (zAA l).length ac) l):=hrd.mono fun e w' ⟨h1,_,h3⟩=>⟨h1,h3 hc⟩
  have HM:Hid (∀ w1 B aao ac,Below w.heap.size w w1->zAi w1 (.slice oo l.length oc) B (.slice aao (zAA l).length ac) l->Calls Tryz.prog 66 #[.agg #[.slice oo l.length oc,.slice (some ⟨B,0,none⟩) l.length l.length,.slice aao (zAA l).length ac],.slice lo letter.length lc,.int .i64 claim] (w1.alloc (.cells #[.slice oo l.length oc,.slice (some ⟨B,0,none⟩) l.length l.length,.slice aao (zAA l).length ac] 147)) fun e w'=>Below (w1.heap.size+1) (w1.alloc (.cells #[.slice oo l.length oc,.slice (some ⟨B,0,none⟩) l.length l.length,.slice aao (zAA l).length ac] 147)) w'/\(zBF l claim->e=.returned (.tuple #[.slice none 0 0,.int .i64 2]))/\(¬ zBF l claim->∃ bH,e=.returned (.tuple #[.slice (some ⟨bH,0,none⟩) l.length l.length,.int .i64 0])/\Hid (w'.rowIs bH 4 l.length (fun j=>.bool (tru l letter claim j))))):=fun w1 B aao ac hb hW=>by
   have hA:∀ o,Below w1.heap.size w1 (w1.alloc o):=fun o=>(Below.refl _ _).alloc (Nat.le_refl _) o
   refine (zEZ _ B _ _ l letter claim (w1.alloc _) hc (hW.below (hA _)) ((hL.below hb).below (hA _))).mono fun e w' ⟨h1,h2,h3⟩=>⟨?_,h2,h3⟩
   simpa using h1
  by_cases hcl:zBF l claim
  ·have htc:zA2 l letter claim=2:=zDx hc hcl
   rw [htc,show zCA l letter claim=0 by unfold zCA;rw [htc];rfl]
   have HM2:Hid (∀ w1 B aao ac,Below w.heap.size w w1->zAi w1 (.slice oo l.length oc) B (.slice aao (zAA l).length ac) l->Calls Tryz.prog 66 #[.agg #[.slice oo l.length oc,.slice (some ⟨B,0,none⟩) l.length l.length,.slice aao (zAA l).length ac],.slice lo letter.length lc,.int .i64 claim] (w1.alloc (.cells #[.slice oo l.length oc,.slice (some ⟨B,0,none⟩) l.length l.length,.slice aao (zAA l).length ac] 147)) fun e w'=>e=.returned (.tuple #[.slice none 0 0,.int .i64 2])/\Below w1.heap.size w1 w'):=fun w1 B aao ac hb hW=>(HM.out w1 B aao ac hb hW).mono fun e w' ⟨h1,h2,_⟩=>⟨h2 hcl,((Below.refl _ _).alloc (Nat.le_refl _) _).trans (h1.mono (Nat.le_succ _))⟩
   generalize (zAA l).length=an at *;generalize letter.length=ln at *;generalize l.length=n at *;clear hrd hT hV hL hl hc HM hcl htc hz h6
   go_enter Tryz.func69,Tryz.ntmps69
   go_wp2_with (first | (go_at_call 65;refine hrd2.mono ?_;rintro e w1 ⟨hb1,B,aao,ac,rfl,HW⟩;have hme:=HM2.out w1 B aao ac hb1 HW.out) | (go_at_call 66;refine hme.mono ?_;rintro e w2 ⟨rfl,hb2⟩))
   go_ret2
   exact ⟨rfl,hb1.trans (hb2.mono hb1.size)⟩
  ·have htc:zA2 l letter claim=0:=zCW hc hcl
   rw [htc,show zCA l letter claim=zBy l (tru l letter claim) (zAA l).length by unfold zCA;rw [htc];rfl]
   have HM2:Hid (∀ w1 B aao ac,Below w.heap.size w w1->zAi w1 (.slice oo l.length oc) B (.slice aao (zAA l).length ac) l->Calls Tryz.prog 66 #[.agg #[.slice oo l.length oc,.slice (some ⟨B,0,none⟩) l.length l.length,.slice aao (zAA l).length ac],.slice lo letter.length lc,.int .i64 claim] (w1.alloc (.cells #[.slice oo l.length oc,.slice (some ⟨B,0,none⟩) l.length l.length,.slice aao (zAA l).length ac] 147)) fun e w'=>∃ bH,e=.returned (.tuple #[.slice (some ⟨bH,0,none⟩) l.length l.length,.int .i64 0])/\Below w1.heap.size w1 w'/\w1.heap.size < w'.heap.size/\w'.cell? ⟨w1.heap.size,0,none⟩=some (.slice oo l.length oc)/\w'.cell? ⟨w1.heap.size,1,none⟩=some (.slice (some ⟨B,0,none⟩) l.length l.length)/\w'.cell? ⟨w1.heap.size,2,none⟩=some (.slice aao (zAA l).length ac)/\Hid (zAi w' (.slice oo l.length oc) B (.slice aao (zAA l).length ac) l/\w'.rowIs bH 4 l.length (fun j=>.bool (tru l letter claim j)))):=fun w1 B aao ac hb hW=>(HM.out w1 B aao ac hb hW).mono fun e w' ⟨h1,_,h3⟩=>by
    obtain ⟨bH,he,hr⟩:=h3 hcl;have hb':Below w1.heap.size w1 w':=((Below.refl _ _).alloc (Nat.le_refl _) _).trans (h1.mono (Nat.le_succ _))
    refine ⟨bH,he,hb',by have:=h1.size;simp at this;omega,(h1.cell (p:=⟨w1.heap.size,0,none⟩) (Nat.lt_succ_self _)).trans (by simp [go_sem]),(h1.cell (p:=⟨w1.heap.size,1,none⟩) (Nat.lt_succ_self _)).trans (by simp [go_sem]),(h1.cell (p:=⟨w1.heap.size,2,none⟩) (Nat.lt_succ_self _)).trans (by simp [go_sem]),hW.below hb',hr.out⟩
   have HWa:Hid (∀ w2 B bH aao ac p,zAi w2 (.slice oo l.length oc) B (.slice aao (zAA l).length ac) l->w2.rowIs bH 4 l.length (fun j=>.bool (tru l letter claim j))->p < l.length->zAP (l.getD p (0,0)).1=true->Calls Tryz.prog 108 #[.agg #[.slice oo l.length oc,.slice (some ⟨B,0,none⟩) l.length l.length,.slice aao (zAA l).length ac],.int .i64 (p:Int),.slice (some ⟨bH,0,none⟩) l.length l.length] w2 fun e w'=>e=.returned (.bool (zDN l (tru l letter claim) p))/\Below w2.heap.size w2 w'):=fun w2 B bH aao ac p hW hr hp hk=>by
    obtain ⟨b,off,cap,hv,_⟩:=id hW
    injection hv with e1 e2 e3
    subst e1 e3;exact zLj b off l.length oc B bH l _ p _ aao _ ac w2 (zIc hW hz hr hp hk)
   have HG:Hid (∀ w2 B aao ac k,zAi w2 (.slice oo l.length oc) B (.slice aao (zAA l).length ac) l->k < (zAA l).length->∃ p:Nat,(∃ ab aoff,aao=some ⟨ab,aoff,none⟩/\w2.cell? ⟨ab,aoff+k,none⟩=some (.int .i64 (p:Int)))/\p < l.length/\zAP (l.getD p (0,0)).1=true/\((zAA l).getD k 0).toNat=p):=fun w2 B aao ac k hW hk=>by
    obtain ⟨_,_,_,_,_,_,_,ao',ac',hsl,hai⟩:=hW
    injection hsl with e1 e2 e3
    subst e1;obtain ⟨ab,aoff,rfl,habl,haat⟩:=hai (by intro h;rw [h] at hk;simp at hk)
    obtain ⟨p,h1,h2,h3,h4⟩:=zB5 l l.length k hk;have h1':(zAA l).getD k 0=(p:Int):=h1;exact ⟨p,⟨ab,aoff,rfl,by rw [haat k hk,h1']⟩,h2,h3,by rw [h1'];rfl⟩
   have HMS:Hid (∀ k,zBy l (tru l letter claim) (k+1)=zBy l (tru l letter claim) k+if zDN l (tru l letter claim) ((zAA l).getD k 0).toNat=true then 0 else 2 ^ k):=fun _=>rfl
   have HMB:Hid (∀ k,0 <= zBy l (tru l letter claim) k/\zBy l (tru l letter claim) k < 2 ^ k):=zFV _ _
   have HM0:Hid (zBy l (tru l letter claim) 0=0):=rfl;generalize zBy l (tru l letter claim)=mt at *;generalize hwt:zDN l (tru l letter claim)=wt at *;clear hwt;obtain ⟨an,han⟩:∃ an,an=(zAA l).length:=⟨_,rfl⟩
   rw [<- han] at hrd2 HM2 HWa HG h6 ⊢;generalize hnn:l.length=n at *;generalize letter.length=ln at *;clear hrd hT hV hL hl hc HM hcl htc hz hnn han
   go_enter Tryz.func69,Tryz.ntmps69
   go_wp2_with (first | (go_at_call 65;refine hrd2.mono ?_;rintro e w1 ⟨hb1,B,aao,ac,rfl,HW⟩;have hme:=HM2.out w1 B aao ac hb1 HW.out) | (go_at_call 66;refine hme.mono ?_;rintro e w2 ⟨bH,rfl,hb2,hs2,d0,d1,d2,HW2⟩))
   have hb12:=hb1.trans (hb2.mono hb1.size);clear hrd2 hme HM2 HW
   go_loopw [11,37] (fun mv i wr=>∃ k:Nat,k <= an/\i=.int .i64 (k:Int)/\mv=.int .i64 (mt k)/\Hid (Below w2.heap.size w2 wr)) (fun _ i _=>an - (intOf i).toNat)
   case atStart=>exact ⟨0,Nat.zero_le _,rfl,by rw [HM0.out],Below.refl _ _⟩
   case round=>
    obtain ⟨k,hk,rfl,rfl,HBel⟩:=hrel;have hbel:=HBel.out;have d0':=(hbel.cell (p:=⟨w1.heap.size,0,none⟩) hs2).trans d0;have d1':=(hbel.cell (p:=⟨w1.heap.size,1,none⟩) hs2).trans d1;have d2':=(hbel.cell (p:=⟨w1.heap.size,2,none⟩) hs2).trans d2
    by_cases hlt:k < an
    ·have hWr:=HW2.out.1.below hbel
     obtain ⟨p,⟨ab,aoff,rfl,hca⟩,hpn,hpk,hpi⟩:=HG.out wr B aao ac k hWr hlt;have hwa:=HWa.out wr B bH _ ac p hWr (zAh HW2.out.2 hbel) hpn hpk;have HS:=(show Hid _ from HMS.out k)
     rw [hpi] at HS;obtain ⟨hm0,hm1⟩:=HMB.out k;have hk6:k < 6:=by omega
     have hps:=zE2 (k:=k) (by omega)
     have h2k:(0:Int) < 2 ^ k:=Int.pow_pos (by decide)
     have HOr:Hid (bits BinOp.or IntKind.i64 (mt k) (2 ^ k)=mt k+2 ^ k):=zIr hk6 hm0 hm1;generalize wt p=wv at *;clear HWa HG HMS HMB hpi hpk HW2 hWr
     cases wv with
     | true=>
      have HS2:Hid (mt (k+1)=mt k):=by show _=_;rw [HS.out];simp
      clear HS
      go_wp2_with (go_at_call 108;refine hwa.mono ?_;rintro e w3 ⟨rfl,hb3⟩)
      exact ⟨⟨k+1,hlt,by first | rfl | simp,by rw [HS2.out],hbel.trans (hb3.mono hbel.size)⟩,by simp [intOf];omega⟩
     | false=>
      have HS2:Hid (mt (k+1)=mt k+2 ^ k):=by show _=_;rw [HS.out];simp
      clear HS
      go_wp2_with (go_at_call 108;refine hwa.mono ?_;rintro e w3 ⟨rfl,hb3⟩)
      exact ⟨⟨k+1,hlt,by first | rfl | simp,by rw [HS2.out,<- HOr.out],hbel.trans (hb3.mono hbel.size)⟩,by simp [intOf];omega⟩
    ·obtain rfl:k=an:=by omega
     go_wp2_with fail
     go_ret2
     exact ⟨rfl,hb12.trans (hbel.mono hb12.size)⟩
 ·have htc:=zD2 (claim:=claim) hc
  rw [htc,show zCA l letter claim=0 by unfold zCA;rw [htc,if_neg hc]]
  have hrd2:Calls Tryz.prog 65 #[.slice oo l.length oc,.int .i64 (letter.length:Int)] w fun e w'=>Below w.heap.size w w'/\e=.returned (.tuple #[.agg #[.slice none 0 0,.slice none 0 0,.slice none 0 0],.int .i64 (zAQ letter.length l)]):=hrd.mono fun e w' ⟨h1,h2,_⟩=>⟨h1,h2 hc⟩
  generalize zAQ letter.length l=x at *;generalize letter.length=ln at *;generalize l.length=n at *;clear hrd hT hV hL hl htc
  go_enter Tryz.func69,Tryz.ntmps69
  go_wp2_with (go_at_call 65;refine hrd2.mono ?_;rintro e w1 ⟨hb1,rfl⟩)
  go_ret2
  exact ⟨rfl,by first | exact hb1 | exact hb1.alloc hb1.size _⟩
theorem zMd (b off n cap B bH bN:Nat) (l:List (Int × Int)) (h g:Nat->Bool) (p:Nat) (kx:Int) (aao:Option Addr) (an ac:Nat) (w:World) (hI:PlaceIn w b off n cap B bH l h p kx) (hN:∀ j,j < n->w.cell? ⟨bN,j,none⟩=some (.bool (g j))) (hNl:bN < w.heap.size) :
  Calls Tryz.prog 136 #[.agg #[.slice (some ⟨b,off,none⟩) n cap,.slice (some ⟨B,0,none⟩) n n,.slice aao an ac],.int .i64 (p:Int),.slice (some ⟨bH,0,none⟩) n n,.slice (some ⟨bN,0,none⟩) n n] w fun e w'=>e=.returned (.bool (zBm kx (h (p+1)) (h (sec l p)) (g p) (g (p+1))))/\Below w.heap.size w w':=by
 obtain ⟨h60,hp,hp1,hp2,ck,hbl,hrow,hhl,hends,hel⟩:=hI;have hA:Below w.heap.size w (((w.alloc (.cells #[.slice (some ⟨b,off,none⟩) n cap,.slice (some ⟨B,0,none⟩) n n,.slice aao an ac] 147)).alloc (.cells #[.int .i64 (p:Int)] 3)).alloc (.cells #[.slice (some ⟨bN,0,none⟩) n n] 53)):=(((Below.refl _ _).alloc (Nat.le_refl _) _).alloc (by simp) _).alloc (by simp;omega) _
 have hpa:=zD5 b off cap n B bH p _ h l aao an ac rfl (((w.alloc (.cells #[.slice (some ⟨b,off,none⟩) n cap,.slice (some ⟨B,0,none⟩) n n,.slice aao an ac] 147)).alloc (.cells #[.int .i64 (p:Int)] 3)).alloc (.cells #[.slice (some ⟨bN,0,none⟩) n n] 53)) (fun j hj=>(hA.cell (p:=⟨bH,j,none⟩) hhl).trans (hrow j hj)) (Nat.lt_of_lt_of_le hhl hA.size) (fun j hj=>(hA.cell (p:=⟨B,j,none⟩) hel).trans (hends j hj)) (Nat.lt_of_lt_of_le hel hA.size)
 simp only [World.size_alloc] at hpa
 have HP2:Hid (∀ w2,Below (w.heap.size+1+1+1) (((w.alloc (.cells #[.slice (some ⟨b,off,none⟩) n cap,.slice (some ⟨B,0,none⟩) n n,.slice aao an ac] 147)).alloc (.cells #[.int .i64 (p:Int)] 3)).alloc (.cells #[.slice (some ⟨bN,0,none⟩) n n] 53)) w2->Below w.heap.size w w2/\w2.cell? ⟨b,off+p*2,none⟩=some (.int .i64 kx)/\w2.cell? ⟨w.heap.size,0,none⟩=some (.slice (some ⟨b,off,none⟩) n cap)/\w2.cell? ⟨w.heap.size,1,none⟩=some (.slice (some ⟨B,0,none⟩) n n)/\w2.cell? ⟨w.heap.size,2,none⟩=some (.slice aao an ac)/\w2.cell? ⟨w.heap.size+1,0,none⟩=some (.int .i64 (p:Int))/\w2.cell? ⟨w.heap.size+1+1,0,none⟩=some (.slice (some ⟨bN,0,none⟩) n n)):=fun w2 hb=>by
  have hb2:=hA.trans (hb.mono (by omega))
  refine ⟨hb2,(hb2.cell (p:=⟨b,_,none⟩) hbl).trans ck,(hb.cell (p:=⟨w.heap.size,0,none⟩) (by first | (simp;omega) | simp)).trans (by simp [go_sem]),(hb.cell (p:=⟨w.heap.size,1,none⟩) (by first | (simp;omega) | simp)).trans (by simp [go_sem]),(hb.cell (p:=⟨w.heap.size,2,none⟩) (by first | (simp;omega) | simp)).trans (by simp [go_sem]),(hb.cell (p:=⟨w.heap.size+1,0,none⟩) (by first | (simp;omega) | simp)).trans (by simp [go_sem]),(hb.cell (p:=⟨w.heap.size+1+1,0,none⟩) (by simp)).trans (by simp [go_sem])⟩
 have HF:Hid (∀ w2 bh bf bp,PartsAt w2 bh bf bp bH n B p h l->∀ w3,(∀ q,w3.cell? q=w2.cell? q)->Calls Tryz.prog 134 #[.pointer (some ⟨bh,0,none⟩),.pointer (some ⟨bp,0,none⟩)] w3 fun e w'=>e=.returned (.bool (h (p+1)))/\w'=w3):=fun w2 bh bf bp hP w3 hc=>zD7 bh bp bH n p _ w3 h60 hp1 ((hc _).trans hP.holds) ((hc _).trans hP.place) ((hc _).trans (hP.row _ hp1))
 have HS:Hid ((kx=15\/kx=16)->∀ w2 bh bf bp,PartsAt w2 bh bf bp bH n B p h l->Calls Tryz.prog 135 #[.pointer (some ⟨bh,0,none⟩),.pointer (some ⟨bf,0,none⟩),.pointer (some ⟨bp,0,none⟩)] w2 fun e w'=>e=.returned (.bool (h (sec l p)))/\∃ r,w'=w2.drewN r):=fun hk w2 bh bf bp hP=>zEn bh bf bp bH n B p (sec l p) _ w2 h60 hp1 (hp2 hk) hP.holds hP.place hP.ends (hP.erow _ hp1) (hP.row _ (hp2 hk))
 have HZ:Hid (∀ w2,Below w.heap.size w w2->w2.cell? ⟨w.heap.size+1,0,none⟩=some (.int .i64 (p:Int))->w2.cell? ⟨w.heap.size+1+1,0,none⟩=some (.slice (some ⟨bN,0,none⟩) n n)->∀ w3,(∀ q,w3.cell? q=w2.cell? q)->Calls Tryz.prog 144 #[.pointer (some ⟨w.heap.size+1+1,0,none⟩),.pointer (some ⟨w.heap.size+1,0,none⟩)] w3 fun e w'=>e=.returned (.bool (g p))/\w'=w3):=fun w2 hb c1 c2 w3 hc=>zK8 _ _ bN n p _ w3 hp ((hc _).trans c2) ((hc _).trans c1) ((hc _).trans ((hb.cell (p:=⟨bN,p,none⟩) hNl).trans (hN p hp)))
 have HPN:Hid (∀ w2,Below w.heap.size w w2->Calls Tryz.prog 104 #[.agg #[.slice (some ⟨b,off,none⟩) n cap,.slice (some ⟨B,0,none⟩) n n,.slice aao an ac],.int .i64 (p:Int),.slice (some ⟨bN,0,none⟩) n n] w2 fun e w'=>e=.returned (.tuple #[.func (.func 134) #[] #[.pointer (some ⟨w2.heap.size+1+1,0,none⟩),.pointer (some ⟨w2.heap.size+1,0,none⟩)],.func (.func 135) #[] #[.pointer (some ⟨w2.heap.size+1+1,0,none⟩),.pointer (some ⟨w2.heap.size,0,none⟩),.pointer (some ⟨w2.heap.size+1,0,none⟩)]])/\Below w.heap.size w w'/\Hid (Calls Tryz.prog 134 #[.pointer (some ⟨w2.heap.size+1+1,0,none⟩),.pointer (some ⟨w2.heap.size+1,0,none⟩)] w' fun e w''=>e=.returned (.bool (g (p+1)))/\w''=w')):=fun w2 hb=>by
  refine (zD5 b off cap n B bN p _ g l aao an ac rfl w2 (fun j hj=>(hb.cell (p:=⟨bN,j,none⟩) hNl).trans (hN j hj)) (Nat.lt_of_lt_of_le hNl hb.size) (fun j hj=>(hb.cell (p:=⟨B,j,none⟩) hel).trans (hends j hj)) (Nat.lt_of_lt_of_le hel hb.size)).mono fun e w' ⟨h1,h2,h3⟩=>⟨h1,hb.trans (h2.mono hb.size),?_⟩
  exact zD7 _ _ bN n p _ w' h60 hp1 h3.out.holds h3.out.place (h3.out.row _ hp1)
 generalize hx:h (p+1)=x at *;generalize hy:h (sec l p)=y at *;generalize hz:g p=z at *;generalize hnx:g (p+1)=nx at *;clear hx hy hz hnx hrow hends ck hp2 hN
 by_cases e17:kx=17
 ·subst e17
  rw [show zBm 17 x y z nx=(x||z) by simp [zBm]]
  clear HS HPN
  cases x
  all_goals
   go_enter Tryz.func136,Tryz.ntmps136
   go_wp2_with (first | (go_at_call 104;refine hpa.mono ?_;clear hpa;rintro e w2 ⟨rfl,hb2,HP⟩;obtain ⟨hbw,d0,d1,d2,d3,d4,d5⟩:=HP2.out w2 hb2;have hf:=HF.out w2 _ _ _ HP.out;have hit:=HZ.out w2 hbw d4 d5) | (go_at_call 134;refine (hf _ (by first | exact fun _=>rfl | (intro q;simp))).mono ?_;rintro e w3 ⟨rfl,hw3⟩;obtain rfl:=hw3.symm) | (go_at_call 144;refine (hit _ (by first | exact fun _=>rfl | (intro q;simp))).mono ?_;rintro e w3 ⟨rfl,hw3⟩;obtain rfl:=hw3.symm))
   go_ret
   exact ⟨by first | rfl | simp,by first | exact hbw | exact below_drewN hbw _⟩
 ·by_cases e18:kx=18
  ·subst e18
   rw [show zBm 18 x y z nx=(x&&z) by simp [zBm]]
   clear HS HPN
   cases x
   all_goals
    go_enter Tryz.func136,Tryz.ntmps136
    go_wp2_with (first | (go_at_call 104;refine hpa.mono ?_;clear hpa;rintro e w2 ⟨rfl,hb2,HP⟩;obtain ⟨hbw,d0,d1,d2,d3,d4,d5⟩:=HP2.out w2 hb2;have hf:=HF.out w2 _ _ _ HP.out;have hit:=HZ.out w2 hbw d4 d5) | (go_at_call 134;refine (hf _ (by first | exact fun _=>rfl | (intro q;simp))).mono ?_;rintro e w3 ⟨rfl,hw3⟩;obtain rfl:=hw3.symm) | (go_at_call 144;refine (hit _ (by first | exact fun _=>rfl | (intro q;simp))).mono ?_;rintro e w3 ⟨rfl,hw3⟩;obtain rfl:=hw3.symm))
    go_ret
    exact ⟨by first | rfl | simp,by first | exact hbw | exact below_drewN hbw _⟩
  ·by_cases e15:kx=15
   ·subst e15
    rw [show zBm 15 x y z nx=(y||(x&&z)) by simp [zBm]]
    have HS2:=(show Hid _ from HS.out (by decide))
    clear HS HPN
    cases x <;> cases y
    all_goals
     go_enter Tryz.func136,Tryz.ntmps136
     go_wp2_with (first | (go_at_call 104;refine hpa.mono ?_;clear hpa;rintro e w2 ⟨rfl,hb2,HP⟩;obtain ⟨hbw,d0,d1,d2,d3,d4,d5⟩:=HP2.out w2 hb2;have hf:=HF.out w2 _ _ _ HP.out;have hs:=HS2.out w2 _ _ _ HP.out;have hit:=HZ.out w2 hbw d4 d5) | (go_at_call 134;refine (hf _ (by first | exact fun _=>rfl | (intro q;simp))).mono ?_;rintro e w3 ⟨rfl,hw3⟩;obtain rfl:=hw3.symm) | (go_at_call 135;refine hs.mono ?_;rintro e w3 ⟨rfl,r3,rfl⟩) | (go_at_call 144;refine (hit _ (by first | exact fun _=>rfl | (intro q;simp))).mono ?_;rintro e w3 ⟨rfl,hw3⟩;obtain rfl:=hw3.symm))
     go_ret
     exact ⟨by first | rfl | simp,by first | exact hbw | exact below_drewN hbw _⟩
   ·by_cases e16:kx=16
    ·subst e16
     rw [show zBm 16 x y z nx=(y&&(x||z)) by simp [zBm]]
     have HS2:=(show Hid _ from HS.out (by decide))
     clear HS HPN
     cases x <;> cases y
     all_goals
      go_enter Tryz.func136,Tryz.ntmps136
      go_wp2_with (first | (go_at_call 104;refine hpa.mono ?_;clear hpa;rintro e w2 ⟨rfl,hb2,HP⟩;obtain ⟨hbw,d0,d1,d2,d3,d4,d5⟩:=HP2.out w2 hb2;have hf:=HF.out w2 _ _ _ HP.out;have hs:=HS2.out w2 _ _ _ HP.out;have hit:=HZ.out w2 hbw d4 d5) | (go_at_call 134;refine (hf _ (by first | exact fun _=>rfl | (intro q;simp))).mono ?_;rintro e w3 ⟨rfl,hw3⟩;obtain rfl:=hw3.symm) | (go_at_call 135;refine hs.mono ?_;rintro e w3 ⟨rfl,r3,rfl⟩) | (go_at_call 144;refine (hit _ (by first | exact fun _=>rfl | (intro q;simp))).mono ?_;rintro e w3 ⟨rfl,hw3⟩;obtain rfl:=hw3.symm))
      go_ret
      exact ⟨by first | rfl | simp,by first | exact hbw | exact below_drewN hbw _⟩
    ·rw [show zBm kx x y z nx=nx by simp [zBm,e17,e18,e15,e16]]
     clear HS HF HZ
     go_enter Tryz.func136,Tryz.ntmps136
     go_wp2_with (first | (go_at_call 104;refine hpa.mono ?_;clear hpa;rintro e w2 ⟨rfl,hb2,HP⟩;obtain ⟨hbw,d0,d1,d2,d3,d4,d5⟩:=HP2.out w2 hb2;have hpn:=HPN.out w2 hbw) | (go_at_call 104;refine hpn.mono ?_;rintro e w4 ⟨rfl,hb4,HF4⟩) | (go_at_call 134;refine HF4.out.mono ?_;rintro e w5 ⟨rfl,hw5⟩;obtain rfl:=hw5.symm))
     go_ret
     exact ⟨rfl,hb4⟩
def zDo (l:List (Int × Int)) (h g:Nat->Bool) (p:Nat):Bool:=zBm (l.getD p (0,0)).1 (h (p+1)) (h (sec l p)) (g p) (g (p+1))
def Fol (l:List (Int × Int)) (h g:Nat->Bool):Prop:=∀ p,p < l.length->zAP (l.getD p (0,0)).1=true->h p=zDo l h g p
noncomputable def zBV (l:List (Int × Int)) (now:List Bool) (claim:Int) (next:List Bool) (later:Int):Int:=if now.length≠next.length then 1 else if zA2 l now claim≠0 then zA2 l now claim else zA2 l next later
open Classical in
noncomputable def zA7 (l:List (Int × Int)) (now:List Bool) (claim:Int) (next:List Bool) (later:Int):Bool:=if zBV l now claim next later=0 then decide (Fol l (tru l now claim) (tru l next later)) else false
theorem zEj {l:List (Int × Int)} {now:List Bool} {claim:Int} {next:List Bool} {later:Int} (h:zBV l now claim next later≠0):zA7 l now claim next later=false:=by unfold zA7;rw [if_neg h]
open Classical in
theorem zIH {l:List (Int × Int)} {now:List Bool} {claim:Int} {next:List Bool} {later:Int} (h:zBV l now claim next later=0) (h2:Fol l (tru l now claim) (tru l next later)):zA7 l now claim next later=true:=by unfold zA7;rw [if_pos h];exact decide_eq_true h2
open Classical in
theorem zOd {l:List (Int × Int)} {now:List Bool} {claim:Int} {next:List Bool} {later:Int} (h2:¬ Fol l (tru l now claim) (tru l next later)):zA7 l now claim next later=false:=by
 unfold zA7
 split
 ·exact decide_eq_false h2
 ·rfl
theorem zOv (v:Value) (no xo:Option Addr) (nn nc xn xc:Nat) (claim later:Int) (oo:Option Addr) (on oc:Nat) (hv:v=.slice oo on oc) (w:World) (h:nn≠xn) :
  Calls Tryz.prog 107 #[v,.slice no nn nc,.int .i64 claim,.slice xo xn xc,.int .i64 later] w fun e w'=>e=.returned (.tuple #[.bool false,.int .i64 1])/\Below w.heap.size w w':=by
 subst hv;have hne:¬ (nn:Int)=xn:=by omega
 clear h
 go_enter Tryz.func107,Tryz.ntmps107
 go_wp2_with fail
 go_ret2
 exact ⟨rfl,Below.refl _ _⟩
theorem zNm (oo:Option Addr) (oc:Nat) (l:List (Int × Int)) (no xo:Option Addr) (nc xc:Nat) (now next:List Bool) (claim later:Int) (w:World) (hB:0 < w.heap.size) (hT:zAJ w) (hV:zAX w (.slice oo l.length oc) l) (hL:zAM w (.slice no now.length nc) now) (hX:zAM w (.slice xo next.length xc) next) (hlen:now.length=next.length) :
  Calls Tryz.prog 107 #[.slice oo l.length oc,.slice no now.length nc,.int .i64 claim,.slice xo next.length xc,.int .i64 later] w fun e w'=>e=.returned (.tuple #[.bool (zA7 l now claim next later),.int .i64 (zBV l now claim next later)])/\Below w.heap.size w w':=by
 have hrd:=zIs _ l now.length w hB hT hV
 by_cases hc:zAQ now.length l=0
 ·obtain ⟨_,_,hz,_,h6⟩:=zAl hc
  have hcx:zAQ next.length l=0:=by rw [<- hlen];exact hc
  have hrd2:Calls Tryz.prog 65 #[.slice oo l.length oc,.int .i64 (now.length:Int)] w fun e w'=>Below w.heap.size w w'/\∃ B aao ac,e=.returned (.tuple #[.agg #[.slice oo l.length oc,.slice (some ⟨B,0,none⟩) l.length l.length,.slice aao (zAA l).length ac],.int .i64 0])/\Hid (zAi w' (.slice oo l.length oc) B (.slice aao (zAA l).length ac) l):=hrd.mono fun e w' ⟨h1,_,h3⟩=>⟨h1,h3 hc⟩
  have HM:Hid (∀ w1 B aao ac,Below w.heap.size w w1->zAi w1 (.slice oo l.length oc) B (.slice aao (zAA l).length ac) l->Calls Tryz.prog 66 #[.agg #[.slice oo l.length oc,.slice (some ⟨B,0,none⟩) l.length l.length,.slice aao (zAA l).length ac],.slice no now.length nc,.int .i64 claim] w1 (zGH l now claim w1)):=fun w1 B aao ac hb hW=>zEZ _ B _ _ l now claim w1 hc hW (hL.below hb)
  have HM2:Hid (∀ w1 B aao ac,Below w.heap.size w w1->zAi w1 (.slice oo l.length oc) B (.slice aao (zAA l).length ac) l->Calls Tryz.prog 66 #[.agg #[.slice oo l.length oc,.slice (some ⟨B,0,none⟩) l.length l.length,.slice aao (zAA l).length ac],.slice xo next.length xc,.int .i64 later] w1 (zGH l next later w1)):=fun w1 B aao ac hb hW=>zEZ _ B _ _ l next later w1 hcx hW (hX.below hb)
  have HWA:Hid (∀ w1 B aao ac,zAi w1 (.slice oo l.length oc) B (.slice aao (zAA l).length ac) l->∀ o,zAi (w1.alloc o) (.slice oo l.length oc) B (.slice aao (zAA l).length ac) l):=fun w1 B aao ac hW o=>hW.below ((Below.refl _ _).alloc (Nat.le_refl _) o)
  by_cases hcl:zBF l claim
  ·have hft:zBV l now claim next later=2:=by unfold zBV;rw [if_neg (by simpa using hlen),zDx hc hcl,if_pos (by decide)]
   rw [zEj (by rw [hft];decide),hft]
   have HM3:Hid (∀ w1 B aao ac,Below w.heap.size w w1->zAi w1 (.slice oo l.length oc) B (.slice aao (zAA l).length ac) l->∀ o,Calls Tryz.prog 66 #[.agg #[.slice oo l.length oc,.slice (some ⟨B,0,none⟩) l.length l.length,.slice aao (zAA l).length ac],.slice no now.length nc,.int .i64 claim] (w1.alloc o) fun e w'=>e=.returned (.tuple #[.slice none 0 0,.int .i64 2])/\Below w1.heap.size w1 w'):=fun w1 B aao ac hb hW o=>(HM.out _ B aao ac (hb.alloc hb.size o) (HWA.out _ B aao ac hW o)).mono fun e w' ⟨h1,h2,_⟩=>⟨h2 hcl,((Below.refl _ _).alloc (Nat.le_refl _) o).trans (h1.mono (by simp))⟩
   generalize (zAA l).length=an at *;rw [<- hlen];generalize now.length=ln at *;generalize l.length=n at *;clear hrd hT hV hL hX hc hcx HM HM2 HWA hcl hft hz h6 hlen
   go_enter Tryz.func107,Tryz.ntmps107
   go_wp2_with (first | (go_at_call 65;refine hrd2.mono ?_;rintro e w1 ⟨hb1,B,aao,ac,rfl,HW⟩;have hme:=HM3.out w1 B aao ac hb1 HW.out) | (go_at_call 66;refine (hme _).mono ?_;rintro e w2 ⟨rfl,hb2⟩))
   go_ret2
   exact ⟨rfl,hb1.trans (hb2.mono hb1.size)⟩
  ·have ht1:zA2 l now claim=0:=zCW hc hcl
   have hft:zBV l now claim next later=zA2 l next later:=by unfold zBV;rw [if_neg (by simpa using hlen),ht1];rfl
   have HM3:Hid (∀ w1 B aao ac,Below w.heap.size w w1->zAi w1 (.slice oo l.length oc) B (.slice aao (zAA l).length ac) l->Calls Tryz.prog 66 #[.agg #[.slice oo l.length oc,.slice (some ⟨B,0,none⟩) l.length l.length,.slice aao (zAA l).length ac],.slice no now.length nc,.int .i64 claim] (w1.alloc (.cells #[.slice oo l.length oc,.slice (some ⟨B,0,none⟩) l.length l.length,.slice aao (zAA l).length ac] 147)) fun e w'=>∃ bH,e=.returned (.tuple #[.slice (some ⟨bH,0,none⟩) l.length l.length,.int .i64 0])/\Below w1.heap.size w1 w'/\w1.heap.size < w'.heap.size/\w'.cell? ⟨w1.heap.size,0,none⟩=some (.slice oo l.length oc)/\w'.cell? ⟨w1.heap.size,1,none⟩=some (.slice (some ⟨B,0,none⟩) l.length l.length)/\w'.cell? ⟨w1.heap.size,2,none⟩=some (.slice aao (zAA l).length ac)/\Hid (zAi w' (.slice oo l.length oc) B (.slice aao (zAA l).length ac) l/\w'.rowIs bH 4 l.length (fun j=>.bool (tru l now claim j)))):=fun w1 B aao ac hb hW=>(HM.out _ B aao ac (hb.alloc hb.size _) (HWA.out _ B aao ac hW _)).mono fun e w' ⟨h1,_,h3⟩=>by
    obtain ⟨bH,he,hr⟩:=h3 hcl;have h1':Below (w1.heap.size+1) (w1.alloc (.cells #[.slice oo l.length oc,.slice (some ⟨B,0,none⟩) l.length l.length,.slice aao (zAA l).length ac] 147)) w':=by simpa using h1
    have hb':Below w1.heap.size w1 w':=((Below.refl _ _).alloc (Nat.le_refl _) _).trans (h1'.mono (Nat.le_succ _))
    refine ⟨bH,he,hb',by have:=h1'.size;simp at this;omega,(h1'.cell (p:=⟨w1.heap.size,0,none⟩) (Nat.lt_succ_self _)).trans (by simp [go_sem]),(h1'.cell (p:=⟨w1.heap.size,1,none⟩) (Nat.lt_succ_self _)).trans (by simp [go_sem]),(h1'.cell (p:=⟨w1.heap.size,2,none⟩) (Nat.lt_succ_self _)).trans (by simp [go_sem]),hW.below hb',hr⟩
   by_cases hcl2:zBF l later
   ·have hft2:zBV l now claim next later=2:=by rw [hft,zDx hcx hcl2]
    rw [zEj (by rw [hft2];decide),hft2]
    have HM4:Hid (∀ w1 B aao ac,Below w.heap.size w w1->zAi w1 (.slice oo l.length oc) B (.slice aao (zAA l).length ac) l->Calls Tryz.prog 66 #[.agg #[.slice oo l.length oc,.slice (some ⟨B,0,none⟩) l.length l.length,.slice aao (zAA l).length ac],.slice xo next.length xc,.int .i64 later] w1 fun e w'=>e=.returned (.tuple #[.slice none 0 0,.int .i64 2])/\Below w1.heap.size w1 w'):=fun w1 B aao ac hb hW=>(HM2.out _ B aao ac hb hW).mono fun e w' ⟨h1,h2,_⟩=>⟨h2 hcl2,h1⟩
    generalize (zAA l).length=an at *;rw [<- hlen] at HM4 ⊢;generalize now.length=ln at *;generalize hnn:l.length=n at *;clear hrd hT hV hL hX hc hcx HM HM2 HWA hcl hcl2 hft hft2 ht1 hz h6 hlen hnn
    go_enter Tryz.func107,Tryz.ntmps107
    go_wp2_with (first | (go_at_call 65;refine hrd2.mono ?_;rintro e w1 ⟨hb1,B,aao,ac,rfl,HW⟩;have hme:=HM3.out w1 B aao ac hb1 HW.out) | (go_at_call 66;refine hme.mono ?_;clear hme;rintro e w2 ⟨bH,rfl,hb2,hs2,d0,d1,d2,HW2⟩;have hb12:=hb1.trans (hb2.mono hb1.size);have hme2:=HM4.out w2 B aao ac hb12 HW2.out.1) | (go_at_call 66;refine hme2.mono ?_;rintro e w3 ⟨rfl,hb3⟩))
    go_ret2
    exact ⟨rfl,hb12.trans (hb3.mono hb12.size)⟩
   ·have hft2:zBV l now claim next later=0:=by rw [hft,zCW hcx hcl2]
    have HM4:Hid (∀ w1 B aao ac,Below w.heap.size w w1->zAi w1 (.slice oo l.length oc) B (.slice aao (zAA l).length ac) l->Calls Tryz.prog 66 #[.agg #[.slice oo l.length oc,.slice (some ⟨B,0,none⟩) l.length l.length,.slice aao (zAA l).length ac],.slice xo next.length xc,.int .i64 later] w1 fun e w'=>∃ bN,e=.returned (.tuple #[.slice (some ⟨bN,0,none⟩) l.length l.length,.int .i64 0])/\Below w1.heap.size w1 w'/\Hid (w'.rowIs bN 4 l.length (fun j=>.bool (tru l next later j)))):=fun w1 B aao ac hb hW=>(HM2.out _ B aao ac hb hW).mono fun e w' ⟨h1,_,h3⟩=>by
     obtain ⟨bN,he,hr⟩:=h3 hcl2;exact ⟨bN,he,h1,hr⟩
    have HYes:Hid (Fol l (tru l now claim) (tru l next later)->zA7 l now claim next later=true):=zIH hft2;have HNot:Hid (¬ Fol l (tru l now claim) (tru l next later)->zA7 l now claim next later=false):=zOd
    have HFol:Hid (Fol l (tru l now claim) (tru l next later)↔∀ p,p < l.length->zAP (l.getD p (0,0)).1=true->tru l now claim p=zDo l (tru l now claim) (tru l next later) p):=Iff.rfl
    have HCo:Hid (∀ w2 B bH bN aao ac p,zAi w2 (.slice oo l.length oc) B (.slice aao (zAA l).length ac) l->w2.rowIs bH 4 l.length (fun j=>.bool (tru l now claim j))->w2.rowIs bN 4 l.length (fun j=>.bool (tru l next later j))->p < l.length->zAP (l.getD p (0,0)).1=true->Calls Tryz.prog 136 #[.agg #[.slice oo l.length oc,.slice (some ⟨B,0,none⟩) l.length l.length,.slice aao (zAA l).length ac],.int .i64 (p:Int),.slice (some ⟨bH,0,none⟩) l.length l.length,.slice (some ⟨bN,0,none⟩) l.length l.length] w2 fun e w'=>e=.returned (.bool (zDo l (tru l now claim) (tru l next later) p))/\Below w2.heap.size w2 w'):=fun w2 B bH bN aao ac p hW hr hr2 hp hk=>by
     obtain ⟨b,off,cap,hv,_⟩:=id hW
     injection hv with e1 e2 e3
     subst e1 e3;exact zMd b off l.length oc B bH bN l _ _ p _ aao _ ac w2 (zIc hW hz hr hp hk) (fun j hj=>hr2.cell hj) hr2.lt
    have HG:Hid (∀ w2 B aao ac k,zAi w2 (.slice oo l.length oc) B (.slice aao (zAA l).length ac) l->k < (zAA l).length->∃ p:Nat,(∃ ab aoff,aao=some ⟨ab,aoff,none⟩/\ab < w2.heap.size/\w2.cell? ⟨ab,aoff+k,none⟩=some (.int .i64 (p:Int)))/\p < l.length/\zAP (l.getD p (0,0)).1=true/\(zAF l p).length=k):=fun w2 B aao ac k hW hk=>by
     obtain ⟨_,_,_,_,_,_,_,ao',ac',hsl,hai⟩:=hW
     injection hsl with e1 e2 e3
     subst e1;obtain ⟨ab,aoff,rfl,habl,haat⟩:=hai (by intro h;rw [h] at hk;simp at hk)
     obtain ⟨p,h1,h2,h3,h4⟩:=zB5 l l.length k hk;have h1':(zAA l).getD k 0=(p:Int):=h1;exact ⟨p,⟨ab,aoff,rfl,habl,by rw [haat k hk,h1']⟩,h2,h3,h4⟩
    have HLt:Hid (∀ p,p < l.length->zAP (l.getD p (0,0)).1=true->(zAF l p).length < (zAA l).length):=fun p hp hk=>zCH l hp hk
    have HUq:Hid (∀ p q,zAP (l.getD p (0,0)).1=true->zAP (l.getD q (0,0)).1=true->(zAF l p).length=(zAF l q).length->p=q):=fun p q h1 h2 he=>by
     rcases Nat.lt_trichotomy p q with h | h | h
     ·have:=zCH l h h1;omega
     ·exact h
     ·have:=zCH l h h2;omega
    rw [hft2];generalize zA7 l now claim next later=fr at *;generalize zDo l (tru l now claim) (tru l next later)=cm at *;generalize Fol l (tru l now claim) (tru l next later)=FP at *;generalize tru l now claim=tn at *;generalize tru l next later=tx at *;obtain ⟨an,han⟩:∃ an,an=(zAA l).length:=⟨_,rfl⟩
    rw [<- han] at hrd2 HM3 HM4 HCo HG HLt h6;rw [<- hlen] at HM4 ⊢;generalize now.length=ln at *;generalize hnn:l.length=n at *;clear hrd hT hV hL hX hc hcx HM HM2 HWA hcl hcl2 hft hft2 ht1 hz hlen hnn han
    go_enter Tryz.func107,Tryz.ntmps107
    go_wp2_with (first | (go_at_call 65;refine hrd2.mono ?_;rintro e w1 ⟨hb1,B,aao,ac,rfl,HW⟩;have hme:=HM3.out w1 B aao ac hb1 HW.out) | (go_at_call 66;refine hme.mono ?_;clear hme;rintro e w2 ⟨bH,rfl,hb2,hs2,d0,d1,d2,HW2⟩;have hb12:=hb1.trans (hb2.mono hb1.size);have hme2:=HM4.out w2 B aao ac hb12 HW2.out.1) | (go_at_call 66;refine hme2.mono ?_;clear hme2;rintro e w3 ⟨bN,rfl,hb3,HN3⟩;have g0:=(hb3.cell (p:=⟨w1.heap.size,0,none⟩) hs2).trans d0;have g1:=(hb3.cell (p:=⟨w1.heap.size,1,none⟩) hs2).trans d1;have g2:=(hb3.cell (p:=⟨w1.heap.size,2,none⟩) hs2).trans d2))
    have hb13:=hb12.trans (hb3.mono hb12.size);have hs3:=Nat.lt_of_lt_of_le hs2 hb3.size;have HW3:Hid (zAi w3 (.slice oo n oc) B (.slice aao an ac) l/\w3.rowIs bH 4 n (fun j=>.bool (tn j))):=⟨HW2.out.1.below hb3,zAh HW2.out.2 hb3⟩
    clear hrd2 HM3 HM4 HW HW2 d0 d1 d2
    go_loopw [56] (fun i wr=>∃ k:Nat,k <= an/\i=.int .i64 (k:Int)/\Hid (∀ p,p < n->zAP (l.getD p (0,0)).1=true->(zAF l p).length < k->tn p=cm p)/\Hid (Below w3.heap.size w3 wr)) (fun i _=>an - (intOf i).toNat)
    case atStart=>exact ⟨0,Nat.zero_le _,rfl,fun p _ _ h=>absurd h (Nat.not_lt_zero _),Below.refl _ _⟩
    case round=>
     obtain ⟨k,hk,rfl,HAll,HBel⟩:=hrel;have hbel:=HBel.out
     by_cases hlt:k < an
     ·have hWr:=HW3.out.1.below hbel
      obtain ⟨p,⟨ab,aoff,rfl,habl,hca⟩,hpn,hpk,hpi⟩:=HG.out wr B aao ac k hWr hlt;have hco:=HCo.out
      have HSt:Hid (∀ w',Below wr.heap.size wr w'->w'.cell? ⟨w1.heap.size,0,none⟩=some (.slice oo n oc)/\w'.cell? ⟨w1.heap.size,1,none⟩=some (.slice (some ⟨B,0,none⟩) n n)/\w'.cell? ⟨w1.heap.size,2,none⟩=some (.slice (some ⟨ab,aoff,none⟩) an ac)/\w'.cell? ⟨bH,p,none⟩=some (.bool (tn p))/\Below wr.heap.size wr w'):=fun w' hb=>by
       have hbw:=hbel.trans (hb.mono hbel.size);have hr:=zAh HW3.out.2 hbw;exact ⟨(hbw.cell (p:=⟨w1.heap.size,0,none⟩) hs3).trans g0,(hbw.cell (p:=⟨w1.heap.size,1,none⟩) hs3).trans g1,(hbw.cell (p:=⟨w1.heap.size,2,none⟩) hs3).trans g2,hr.cell hpn,hb⟩
      have hcc:=fun w' (hb:Below wr.heap.size wr w')=>HCo.out w' B bH bN _ ac p (hWr.below hb) (zAh (zAh HW3.out.2 hbel) hb) (zAh (zAh HN3.out hbel) hb) hpn hpk
      have hS:=HSt.out;have hB0:Below wr.heap.size wr wr:=Below.refl _ _
      have HNext:Hid (tn p=cm p->∀ q,q < n->zAP (l.getD q (0,0)).1=true->(zAF l q).length < k+1->tn q=cm q):=fun he q hq hqk hql=>by
       by_cases h:(zAF l q).length < k
       ·exact HAll.out q hq hqk h
       ·have hqp:q=p:=HUq.out q p hqk hpk (by omega)
        rw [hqp];exact he
      have HBad:Hid (tn p≠cm p->fr=false):=fun h=>HNot.out fun hf=>h (HFol.out.1 hf p hpn hpk)
      have hp0:(0:Int) <= (p:Int):=Int.natCast_nonneg _;have hpI:(p:Int) < (n:Int):=by omega
      generalize tn p=tv at *;generalize cm p=cv at *;clear HG HCo HAll HNot HYes HFol HLt HUq hco HSt hWr hpk hpi
      by_cases htv:tv=cv
      ·have HNx:=(show Hid _ from HNext.out htv)
       subst htv;clear HNext HBad
       go_wp2_with fail
       go_region_held3 (fun w'=>w'.cell? ⟨w1.heap.size,0,none⟩=some (.slice oo n oc)/\w'.cell? ⟨w1.heap.size,1,none⟩=some (.slice (some ⟨B,0,none⟩) n n)/\w'.cell? ⟨w1.heap.size,2,none⟩=some (.slice (some ⟨ab,aoff,none⟩) an ac)/\w'.cell? ⟨bH,p,none⟩=some (.bool tv)/\Below wr.heap.size wr w')
        (exact hS _ (by first | exact hB0 | exact hB0.drew | exact hB0.drew.trans hb4))
        (first | (go_at_call 136;refine (hcc _ hB0.drew).mono ?_;rintro e w4 ⟨rfl,hb4⟩))
       go_wp2_with fail
       have hbf:=hbel.trans ((hB0.drew.trans hb4).mono hbel.size);exact ⟨⟨k+1,hlt,by first | rfl | simp,HNx.out,hbf⟩,by simp [intOf];omega⟩
      ·have HF:=(show Hid _ from HBad.out htv)
       clear HNext HBad
       cases tv <;> cases cv
       ·exact absurd rfl htv
       ·go_wp2_with fail
        go_region_held3 (fun w'=>w'.cell? ⟨w1.heap.size,0,none⟩=some (.slice oo n oc)/\w'.cell? ⟨w1.heap.size,1,none⟩=some (.slice (some ⟨B,0,none⟩) n n)/\w'.cell? ⟨w1.heap.size,2,none⟩=some (.slice (some ⟨ab,aoff,none⟩) an ac)/\w'.cell? ⟨bH,p,none⟩=some (.bool false)/\Below wr.heap.size wr w')
         (exact hS _ (by first | exact hB0 | exact hB0.drew | exact hB0.drew.trans hb4))
         (first | (go_at_call 136;refine (hcc _ hB0.drew).mono ?_;rintro e w4 ⟨rfl,hb4⟩))
        go_wp2_with fail
        have hbf:=hbel.trans ((hB0.drew.trans hb4).mono hbel.size)
        go_ret2
        rw [HF.out];exact ⟨rfl,hb13.trans (hbf.mono hb13.size)⟩
       ·go_wp2_with fail
        go_region_held3 (fun w'=>w'.cell? ⟨w1.heap.size,0,none⟩=some (.slice oo n oc)/\w'.cell? ⟨w1.heap.size,1,none⟩=some (.slice (some ⟨B,0,none⟩) n n)/\w'.cell? ⟨w1.heap.size,2,none⟩=some (.slice (some ⟨ab,aoff,none⟩) an ac)/\w'.cell? ⟨bH,p,none⟩=some (.bool true)/\Below wr.heap.size wr w')
         (exact hS _ (by first | exact hB0 | exact hB0.drew | exact hB0.drew.trans hb4))
         (first | (go_at_call 136;refine (hcc _ hB0.drew).mono ?_;rintro e w4 ⟨rfl,hb4⟩))
        go_wp2_with fail
        have hbf:=hbel.trans ((hB0.drew.trans hb4).mono hbel.size)
        go_ret2
        rw [HF.out];exact ⟨rfl,hb13.trans (hbf.mono hb13.size)⟩
       ·exact absurd rfl htv
     ·obtain rfl:k=an:=by omega
      have HFr:Hid (fr=true):=HYes.out (HFol.out.2 fun p hp hpk=>HAll.out p hp hpk (HLt.out p hp hpk))
      clear HG HCo HAll HNot HYes HFol HLt HUq
      go_wp2_with fail
      go_ret2
      rw [HFr.out];exact ⟨rfl,hb13.trans (hbel.mono hb13.size)⟩
 ·have hft:zBV l now claim next later=zAQ now.length l:=by unfold zBV;rw [if_neg (by simpa using hlen),zD2 hc,if_pos hc]
  rw [zEj (by rw [hft];exact hc),hft]
  have hrd2:Calls Tryz.prog 65 #[.slice oo l.length oc,.int .i64 (now.length:Int)] w fun e w'=>Below w.heap.size w w'/\e=.returned (.tuple #[.agg #[.slice none 0 0,.slice none 0 0,.slice none 0 0],.int .i64 (zAQ now.length l)]):=hrd.mono fun e w' ⟨h1,h2,_⟩=>⟨h1,h2 hc⟩
  rw [<- hlen];generalize zAQ now.length l=x at *;generalize now.length=ln at *;generalize l.length=n at *;clear hrd hT hV hL hX hft hlen
  go_enter Tryz.func107,Tryz.ntmps107
  go_wp2_with (go_at_call 65;refine hrd2.mono ?_;rintro e w1 ⟨hb1,rfl⟩)
  go_ret2
  exact ⟨rfl,by first | exact hb1 | exact hb1.alloc hb1.size _⟩
theorem zNW (v nv xv:Value) (l:List (Int × Int)) (now next:List Bool) (claim later:Int) (w:World) (hB:0 < w.heap.size) (hT:zAJ w) (hV:zAX w v l) (hL:zAM w nv now) (hX:zAM w xv next) :
  Calls Tryz.prog 107 #[v,nv,.int .i64 claim,xv,.int .i64 later] w fun e w'=>e=.returned (.tuple #[.bool (zA7 l now claim next later),.int .i64 (zBV l now claim next later)])/\Below w.heap.size w w':=by
 obtain ⟨oo,oc,rfl,_⟩:=id hV;obtain ⟨no,nc,rfl,_⟩:=id hL;obtain ⟨xo,xc,rfl,_⟩:=id hX
 by_cases hlen:now.length=next.length
 ·exact zNm oo oc l no xo nc xc now next claim later w hB hT hV hL hX hlen
 ·have hf:zBV l now claim next later=1:=by unfold zBV;rw [if_pos hlen]
  rw [zEj (by rw [hf];decide),hf]
  exact zOv _ no xo _ nc _ xc claim later oo l.length oc rfl w hlen
def zDu (l:List (Int × Int)) (p:Nat):Nat:=if (l.getD p (0,0)).1=14 then p+1 else p
def zBY (l:List (Int × Int)) (g:Nat->Bool):Nat->Int
 | 0=>0
 | k+1=>zBY l g k+if g (zDu l ((zAA l).getD k 0).toNat)=true then 2 ^ k else 0
def zEr (l:List (Int × Int)) (g:Nat->Bool):Int:=zBY l g (zAA l).length
theorem zCl (l:List (Int × Int)) (g:Nat->Bool):∀ k,0 <= zBY l g k/\zBY l g k < 2 ^ k:=by
 intro k
 induction k with
 | zero=>simp [zBY]
 | succ k ih=>
  have h2:(0:Int) < 2 ^ k:=Int.pow_pos (by decide)
  rw [zBY,Int.pow_succ]
  split <;> omega
theorem zIW {l:List (Int × Int)} {g g':Nat->Bool}:∀ {k:Nat},zBY l g k=zBY l g' k->∀ j,j < k->g (zDu l ((zAA l).getD j 0).toNat)=g' (zDu l ((zAA l).getD j 0).toNat)
 | 0,_,j,hj=>by omega
 | k+1,h,j,hj=>by
  obtain ⟨a0,a1⟩:=zCl l g k;obtain ⟨b0,b1⟩:=zCl l g' k;have h2:(0:Int) < 2 ^ k:=Int.pow_pos (by decide)
  rw [zBY,zBY] at h
  rcases (show j < k\/j=k by omega) with h3 | h3
  ·refine zIW (k:=k) ?_ j h3
   split at h <;> split at h <;> omega
  ·subst h3
   generalize g (zDu l ((zAA l).getD j 0).toNat)=x at h ⊢;generalize g' (zDu l ((zAA l).getD j 0).toNat)=y at h ⊢
   cases x <;> cases y
   ·rfl
   ·rw [if_neg (by simp),if_pos rfl] at h;omega
   ·rw [if_pos rfl,if_neg (by simp)] at h;omega
   ·rfl
theorem zMP (l:List (Int × Int)):∀ (d n:Nat),∃ r,zAF l (n+d)=zAF l n++r:=by
 intro d
 induction d with
 | zero=>exact fun n=>⟨[],by simp⟩
 | succ d ih=>
  intro n;obtain ⟨r,hr⟩:=ih n;refine ⟨r++(if zAP (l.getD (n+d) (0,0)).1=true then [((n+d:Nat):Int)] else []),?_⟩
  rw [show n+(d+1)=(n+d)+1 by omega,zAF,hr,List.append_assoc]
theorem zKa {l:List (Int × Int)} {p:Nat} (hp:p < l.length) (hb:zAP (l.getD p (0,0)).1=true):(zAF l p).length < (zAA l).length/\(zAA l).getD (zAF l p).length 0=(p:Int):=by
 have h1:=zCH l hp hb;refine ⟨h1,?_⟩
 obtain ⟨r,hr⟩:=zMP l (l.length - (p+1)) (p+1);rw [show p+1+(l.length - (p+1))=l.length by omega,zB3 hb] at hr
 unfold zAA;rw [hr,List.append_assoc];simp [List.getD_eq_getElem?_getD]
theorem zNw {l:List (Int × Int)} {h g g':Nat->Bool} (e:zEr l g=zEr l g'):Fol l h g↔Fol l h g':=by
 have key:∀ p,p < l.length->zAP (l.getD p (0,0)).1=true->zDo l h g p=zDo l h g' p:=by
  intro p hp hb;obtain ⟨h1,h2⟩:=zKa hp hb;have h3:=zIW e (zAF l p).length h1;rw [h2] at h3;simp only [Int.toNat_natCast] at h3;unfold zDo zBm;unfold zDu at h3;have hk:14 <= (l.getD p (0,0)).1/\(l.getD p (0,0)).1 <= 18:=by simpa [zAP] using hb
  by_cases h14:(l.getD p (0,0)).1=14
  ·rw [if_pos h14] at h3
   rw [h14,h3]
   simp
  ·rw [if_neg h14] at h3
   rw [h3];have:(l.getD p (0,0)).1=15\/(l.getD p (0,0)).1=16\/(l.getD p (0,0)).1=17\/(l.getD p (0,0)).1=18:=by omega
   rcases this with h5 | h5 | h5 | h5 <;> rw [h5] <;> simp
 refine ⟨fun H p hp hb=>?_,fun H p hp hb=>?_⟩
 ·rw [H p hp hb,key p hp hb]
 ·rw [H p hp hb,key p hp hb]
end Go.Proofs.YtnihdlgfhhdhkaaGreatDoor
namespace Go.Proofs.YtnihdlgfhhdhkaaGreatDoor
open Go.ChangeShapes Go.WideShapes Go.ChangeAt Go.RowKit Go.Deep
set_option maxHeartbeats 6400000
set_option maxRecDepth 20000
theorem zIn:(Tryz.prog.info? 59).map (fun i=>(i.zero,i.size,i.bytes))=some (some (.agg #[.int .i64 0,.int .i64 0]),2,16):=by kernel_rfl
def SpO (w:World) (base:Nat) (v:Value) (l:List (Int × Int)):Prop:=w.ownsRow base 59 2 v l.length (zAe l)
theorem SpO.nil (w:World) (base:Nat):SpO w base (.slice none 0 0) []:=World.ownsRow_nil _ _ _ _
theorem SpO.later {w w':World} {base B:Nat} {v:Value} {l:List (Int × Int)} (h:SpO w base v l) (hb:Below B w w') (hB:w.heap.size <= B):SpO w' base v l:=zAR h hb hB
theorem SpO.shape {w:World} {base:Nat} {v:Value} {l:List (Int × Int)} (h:SpO w base v l):∃ ao cap,v=.slice ao l.length cap:=zAm h
def SpV (w:World) (v:Value) (l:List (Int × Int)):Prop:=∃ ao cap,v=.slice ao l.length cap/\(l≠[]->∃ b off,ao=some ⟨b,off,none⟩/\b < w.heap.size/\zAu w b off l)
theorem SpV.nil (w:World):SpV w (.slice none 0 0) []:=⟨none,0,rfl,fun h=>absurd rfl h⟩
theorem SpO.v {w:World} {base:Nat} {v:Value} {l:List (Int × Int)} (h:SpO w base v l):SpV w v l:=by
 rcases h.2 with ⟨rfl,h0⟩ | ⟨g,cap,cur,rfl,hb,hg,hnc,hcm,hcs,htake⟩
 ·have:l=[]:=by simpa using h0
  subst this;exact SpV.nil w
 ·refine ⟨_,cap,rfl,fun _=>⟨g,0,rfl,(Array.getElem?_eq_some_iff.1 hg).1,fun i hi=>?_⟩⟩
  obtain ⟨f0,f1⟩:=zEm l i hi;rw [World.ownsRow.cellAt h _ (by omega),World.ownsRow.cellAt h _ (by omega)]
  simpa using ⟨f0,f1⟩
section
variable {W : World}
theorem zJ9 {ops:Array Oper} {rest:List Oper} {o:Oper} {a:Act} {Q:Exit->Act->World->Prop} (y z:Int) (hgd:o.guard=none) (s x:Operand)
  (ho:o.op=.call { callee:=.builtin .append,args:=#[s,x],argTypes:=#[41,41]})
  (base n cap:Nat) (vo:Option Addr) (l:List (Int × Int)) (hl:l.length=n) (hs:a.eval s=.slice vo n cap) (hown:SpO W base (.slice vo n cap) l) (hx:a.eval x=.slice (some ⟨W.heap.size,0,none⟩) 1 1)
  (hsz:(n+1)*16 <= 140737488355328) (hbase:base <= W.heap.size)
  (h:∀ vo' cap' w',SpO w' base (.slice vo' (n+1) cap') (l++[(y,z)])->Below base W w'->(W.alloc (.cells #[.int .i64 y,.int .i64 z] 59)).grownBy w' (Value.slice vo n cap).ownBlock->wpList Tryz.prog ops Q rest (a.put o.dst (.slice vo' (n+1) cap')) w'):wpList Tryz.prog ops Q (o:: rest) a (W.alloc (.cells #[.int .i64 y,.int .i64 z] 59)):=by
 subst hl;obtain ⟨i0,hi,hz0,hz1,hz2⟩:=info_parts zIn;have hown':W.ownsRow base 59 2 (.slice vo l.length cap) l.length (zAe l):=hown
 refine wpList_append_own _ hgd s x 41 ho base 59 i0 (.agg #[.int .i64 0,.int .i64 0]) 2 16 Tryz.underlying41 hi hz0 hz1 hz2 rfl (by decide) (.slice vo l.length cap) l.length (zAe l) hs (hown'.alloc _) ⟨W.heap.size,0,none⟩ 1 1 [.int .i64 y,.int .i64 z] hx rfl (zDA _ _ _ _) (by intro u hu;simp at hu;rcases hu with rfl | rfl <;> rfl) (by unfold maxLen;omega) hsz (Nat.le_trans hbase (by simp)) ?_
 intro v' w4 hown' hgrow _;obtain ⟨a4,c4,rfl⟩:=zAm hown';refine h a4 c4 w4 ?_ (((Below.refl base W).alloc hbase _).grown hgrow (Nat.le_trans hbase (by simp)) (fun q hq=>(World.ownsRow.lt hown q hq).1)) hgrow
 unfold SpO;rw [zEK,List.length_append];exact hown'
end
end Go.Proofs.YtnihdlgfhhdhkaaGreatDoor
namespace Go.Proofs.YtnihdlgfhhdhkaaGreatDoor
open Go.ChangeShapes Go.WideShapes Go.ChangeAt Go.RowKit Go.Deep Go.Maps
open Terms Tm
set_option maxHeartbeats 6400000
set_option maxRecDepth 20000
theorem zFA (x:Int) (w:World) :
  Calls Tryz.prog 75 #[.int .i64 x] w fun e w'=>e=.returned (.bool (decide (¬ (-1000000 <= x/\x <= 1000000))))/\w'=w:=by
 by_cases h1:x < -1000000
 ·rw [show decide (¬ (-1000000 <= x/\x <= 1000000))=true by simp;omega]
  go_enter Tryz.func75,Tryz.ntmps75
  go_wp2
  all_goals go_ret
  all_goals exact ⟨rfl,rfl⟩
 ·by_cases h2:1000000 < x
  ·rw [show decide (¬ (-1000000 <= x/\x <= 1000000))=true by simp;omega]
   go_enter Tryz.func75,Tryz.ntmps75
   go_wp2
   all_goals go_ret
   all_goals exact ⟨rfl,rfl⟩
  ·rw [show decide (¬ (-1000000 <= x/\x <= 1000000))=false by simp;omega]
   go_enter Tryz.func75,Tryz.ntmps75
   go_wp2
   all_goals go_ret
   all_goals exact ⟨rfl,rfl⟩
theorem zGQ (c:Bool) (w:World) :
  Calls Tryz.prog 117 #[.bool c] w fun e w'=>e=.returned (.int .i64 (if c=true then 1 else 0))/\w'=w:=by
 cases c
 all_goals
  go_enter Tryz.func117,Tryz.ntmps117
  go_wp2
  all_goals go_ret
  all_goals exact ⟨rfl,rfl⟩
def zCv (k:Int):Nat:=if k=3 then 113 else if k=4 then 114 else if k=5 then 115 else if k=6 then 116 else if k=7 then 118 else if k=8 then 119 else 120
theorem zME {x:Int} (h:-1000000 <= x/\x <= 1000000):x.natAbs <= 1000000:=by omega
theorem zPD {x y:Int} (hx:-1000000 <= x/\x <= 1000000) (hy:-1000000 <= y/\y <= 1000000):-1000000000000 <= x*y/\x*y <= 1000000000000:=by
 have h:=Nat.mul_le_mul (zME hx) (zME hy);rw [<- Int.natAbs_mul] at h;omega
theorem zGC (k x y:Int) (w:World) (h3:3 <= k) (h9:k <= 9) (hx:-1000000 <= x/\x <= 1000000) (hy:-1000000 <= y/\y <= 1000000) (ht:8 <= k->(x=0\/x=1)/\(y=0\/y=1)) :
  Calls Tryz.prog (zCv k) #[.int .i64 x,.int .i64 y] w fun e w'=>e=.returned (.int .i64 (bin k x y))/\w'=w:=by
 have hk:k=3\/k=4\/k=5\/k=6\/k=7\/k=8\/k=9:=by omega
 have hm:=zPD hx hy;obtain ⟨hm1,hm2⟩:=hm;obtain ⟨hx1,hx2⟩:=hx;obtain ⟨hy1,hy2⟩:=hy;clear h3 h9
 rcases hk with rfl | rfl | rfl | rfl | rfl | rfl | rfl
 ·show Calls Tryz.prog 113 _ _ _
  clear ht
  go_enter Tryz.func113,Tryz.ntmps113
  go_wp2
  go_ret
  exact ⟨rfl,rfl⟩
 ·show Calls Tryz.prog 114 _ _ _
  clear ht
  go_enter Tryz.func114,Tryz.ntmps114
  go_wp2
  go_ret
  exact ⟨rfl,rfl⟩
 ·show Calls Tryz.prog 115 _ _ _
  clear ht
  go_enter Tryz.func115,Tryz.ntmps115
  go_wp2
  go_ret
  exact ⟨rfl,rfl⟩
 ·show Calls Tryz.prog 116 _ _ _
  clear ht;have htr:=fun w=>zGQ (x == y) w
  have hb:bin 6 x y=if (x == y)=true then 1 else 0:=by simp [bin]
  rw [<- hb] at htr;generalize bin 6 x y=z at htr ⊢;clear hb
  go_enter Tryz.func116,Tryz.ntmps116
  go_wp2_with (go_at_call 117;refine (htr _).mono ?_;rintro e w1 ⟨rfl,rfl⟩)
  go_ret
  exact ⟨rfl,rfl⟩
 ·show Calls Tryz.prog 118 _ _ _
  clear ht
  by_cases hc:x < y
  ·have htr:=fun w=>zGQ true w
   have hb:bin 7 x y=1:=by simp [bin,hc]
   rw [hb];clear hb
   go_enter Tryz.func118,Tryz.ntmps118
   go_wp2_with (go_at_call 117;refine (htr _).mono ?_;rintro e w1 ⟨rfl,rfl⟩)
   go_ret
   exact ⟨rfl,rfl⟩
  ·have htr:=fun w=>zGQ false w
   have hb:bin 7 x y=0:=by simp [bin,hc]
   rw [hb];clear hb
   go_enter Tryz.func118,Tryz.ntmps118
   go_wp2_with (go_at_call 117;refine (htr _).mono ?_;rintro e w1 ⟨rfl,rfl⟩)
   go_ret
   exact ⟨rfl,rfl⟩
 ·show Calls Tryz.prog 119 _ _ _
  obtain ⟨ha,hb⟩:=ht (by decide)
  clear ht hm1 hm2 hx1 hx2 hy1 hy2
  rcases ha with rfl | rfl <;> rcases hb with rfl | rfl
  all_goals
   go_enter Tryz.func119,Tryz.ntmps119
   go_wp2
   go_ret
   exact ⟨rfl,rfl⟩
 ·show Calls Tryz.prog 120 _ _ _
  obtain ⟨ha,hb⟩:=ht (by decide)
  clear ht hm1 hm2 hx1 hx2 hy1 hy2
  rcases ha with rfl | rfl <;> rcases hb with rfl | rfl
  all_goals
   go_enter Tryz.func120,Tryz.ntmps120
   go_wp2
   go_ret
   exact ⟨rfl,rfl⟩
def zCZ:Value->Option (DataW Unit × List MemPlace)
 | .func (.func f) first cap=>if first=#[]/\cap=#[] then some (.lit (.int .i64 f),[]) else none
 | .nilFunc=>some (.nil,[])
 | _=>none
theorem zLK {v:Value} {f:Nat} {ps:List MemPlace} (h:zCZ v=some (.lit (.int .i64 f),ps)):v=.func (.func f) #[] #[]:=by
 unfold zCZ at h
 split at h
 ·split at h
  ·rename_i hc
   obtain ⟨rfl,rfl⟩:=hc;simp at h
   rw [Int.ofNat.inj h.1]
  ·simp at h
 ·simp at h
 ·simp at h
theorem zA8 {H:Type} {P:Program} (w:World) {ops:Array Oper} {rest:List Oper} {o:Oper} {a:Act} {Q:Exit->Act->World->Prop}
  (hg:o.guard=none) (m x v:Operand) (t:TypeId) (hop:o.op=Op.insert t m x v)
  (k e:TypeId) (K:Keyed P k) (ht:P.underlying t=some (.map k e)) (R:Value->Option (DataW H × List MemPlace)) (b n:Nat) (D:DataW H)
  (hm:a.eval m=.map (some b)) (hown:w.ownsMap P k R b n D) (hn:n < maxLen) (key val:Value) (kl:Lit) (hx:a.eval x=key) (hv:a.eval v=val) (hkey:keyOf P k key=some kl)
  (d:DataW H) (ps:List MemPlace) (hval:R val=some (d,ps))
  (hK:∀ w',w'.ownsMap P k R b (n+1) (D.put kl d)->w.grownBy w' (some b)->wpList P ops Q rest (a.put o.dst undef) w') :
  wpList P ops Q (o:: rest) a w:=by
 refine wpList_plain hg fun K' hK'=>?_
 obtain ⟨w',hrun,r1,r2⟩:=hown.update K ht hn hkey hval;unfold Oper.wp;simp [execOp,hop,hm,hx,hv,hrun,Result.andThen]
 exact hK' _ _ (hK w' r1 r2)
def zKT:Nat->DataW Unit
 | 0=>.map []
 | n+1=>(zKT n).put (.int .i64 ((n:Int)+3)) (.lit (.int .i64 (zCv ((n:Int)+3))))
def zCs (w:World) (M:Nat):Prop:=w.ownsMap Tryz.prog 3 zCZ M 7 (zKT 7)
theorem zCs.later {w w':World} {M:Nat} (h:zCs w M) (hb:Below w.heap.size w w'):zCs w' M:=by
 have hlt:=World.ownsMap.lt h;obtain ⟨es,clock,h1,h2⟩:=h;exact ⟨es,clock,(hb.block M hlt).trans h1,h2⟩
theorem zDV:Keyed Tryz.prog 3:=int_keyed Tryz.underlying3
theorem zFb (k:Int) (h:3 <= k/\k <= 9):keyOf Tryz.prog 3 (.int .i64 k)=some (.int .i64 k):=keyOf_int_mk Tryz.underlying3 (WalkArith.wf_i64 (by omega))
theorem zCs.look {w:World} {M:Nat} (h:zCs w M) {k:Int} (h3:3 <= k) (h9:k <= 9) :
  (Instr.lookup 165 (.map (some M)) (.int .i64 k) false).run Tryz.prog w=.ok (.func (.func (zCv k)) #[] #[]) w:=by
 obtain ⟨v,ps,hrun,hv⟩:=World.ownsMap.lookup h zDV Tryz.underlying165 (z:=.nilFunc) (by kernel_rfl) (zd:=.nil) (zp:=[]) rfl (zFb k ⟨h3,h9⟩)
 have hat:(zKT 7).atKey (.int .i64 k) .nil=.lit (.int .i64 (zCv k)):=by
  have hk:k=3\/k=4\/k=5\/k=6\/k=7\/k=8\/k=9:=by omega
  rcases hk with rfl | rfl | rfl | rfl | rfl | rfl | rfl <;> rfl
 rw [hat] at hv;rw [hrun,zLK hv]
theorem zHI (w:World) :
  Calls Tryz.prog 76 #[] w fun e w'=>∃ M,w.heap.size <= M/\e=.returned (.map (some M))/\zCs w' M/\Below w.heap.size w w':=by
 have hmm:=@run_makeMap Tryz.prog;have h0:=World.ownsMap_made w Tryz.prog 3 zCZ
 go_enter Tryz.func76,Tryz.ntmps76
 go_wp2_with (first
  | (refine zA8 _ rfl _ _ _ 165 rfl 3 67 zDV Tryz.underlying165 zCZ w.heap.size 6 _ rfl h6 (by unfold maxLen;omega) _ _ _ rfl rfl (zFb 9 (by omega)) _ [] rfl ?_;intro w7 h7 g7)
  | (refine zA8 _ rfl _ _ _ 165 rfl 3 67 zDV Tryz.underlying165 zCZ w.heap.size 5 _ rfl h5 (by unfold maxLen;omega) _ _ _ rfl rfl (zFb 8 (by omega)) _ [] rfl ?_;intro w6 h6 g6)
  | (refine zA8 _ rfl _ _ _ 165 rfl 3 67 zDV Tryz.underlying165 zCZ w.heap.size 4 _ rfl h4 (by unfold maxLen;omega) _ _ _ rfl rfl (zFb 7 (by omega)) _ [] rfl ?_;intro w5 h5 g5)
  | (refine zA8 _ rfl _ _ _ 165 rfl 3 67 zDV Tryz.underlying165 zCZ w.heap.size 3 _ rfl h3 (by unfold maxLen;omega) _ _ _ rfl rfl (zFb 6 (by omega)) _ [] rfl ?_;intro w4 h4 g4)
  | (refine zA8 _ rfl _ _ _ 165 rfl 3 67 zDV Tryz.underlying165 zCZ w.heap.size 2 _ rfl h2 (by unfold maxLen;omega) _ _ _ rfl rfl (zFb 5 (by omega)) _ [] rfl ?_;intro w3 h3 g3)
  | (refine zA8 _ rfl _ _ _ 165 rfl 3 67 zDV Tryz.underlying165 zCZ w.heap.size 1 _ rfl h1 (by unfold maxLen;omega) _ _ _ rfl rfl (zFb 4 (by omega)) _ [] rfl ?_;intro w2 h2 g2)
  | (refine zA8 _ rfl _ _ _ 165 rfl 3 67 zDV Tryz.underlying165 zCZ w.heap.size 0 _ rfl h0 (by unfold maxLen;omega) _ _ _ rfl rfl (zFb 3 (by omega)) _ [] rfl ?_;intro w1 h1 g1))
 go_ret
 have hb0:Below w.heap.size w (w.alloc (.map #[] 0)):=(Below.refl _ _).alloc (Nat.le_refl _) _;have hb:∀ {x y:World},Below w.heap.size w x->x.grownBy y (some w.heap.size)->Below w.heap.size w y:=fun h g=>h.grown g h.size (fun j hj=>by cases hj;exact Nat.le_refl _)
 exact ⟨w.heap.size,Nat.le_refl _,rfl,h7,hb (hb (hb (hb (hb (hb (hb hb0 g1) g2) g3) g4) g5) g6) g7⟩
