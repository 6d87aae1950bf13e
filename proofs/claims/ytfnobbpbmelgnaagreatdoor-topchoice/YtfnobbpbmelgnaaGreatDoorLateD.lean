/- Joined texts. -/
import Derived.Test.YtfnobbpbmelgnaaGreatDoorLateC
import Derived.Deep.Cut
import Derived.Deep.CutBlock
import Derived.Deep.CutRange
import Derived.Deep.DeepCutAuto
namespace Go.Proofs.YtfnobbpbmelgnaaGreatDoor
open Go.ChangeShapes Go.WideShapes Go.ChangeAt Go.RowKit Go.Deep Go.Maps
open Terms Tm
set_option maxHeartbeats 6400000
set_option maxRecDepth 20000
def atB (sv nv tv:Value) (init many:Int) (lm:Nat):Obj:=.cells #[sv,.int .i64 init,nv,tv,.int .i64 many,.map (some lm)] 93 (0,0)
def LsAt (w:World) (base:Nat) (nv tv:Value) (N:List (List Int)):Prop:=
 ∃ us:List Value,w.ownsRow base 36 1 nv N.length us/\us.length=N.length/\∀ i,i < N.length->∃ ao c,us.getD i (.slice none 0 0)=.slice ao (N.getD i []).length c/\IntsV w (.slice ao (N.getD i []).length c) (N.getD i [])/\RowTy w (.slice ao (N.getD i []).length c) 3/\∀ a,ao=some a->tv.ownBlock≠some a.block/\base <= a.block
structure AtX (w:World) (base A lm:Nat) (S:List (Int × Int)) (N:List (List Int)) (T:List Int) (init many:Int) (sv nv tv:Value):Prop where
 box:w.heap[A]? = some (atB sv nv tv init many lm)
 bA:base <= A
 bl:base <= lm
 lies:LiesAt w lm S
 sp:SpO w base sv S
 nx:LsAt w base nv tv N
 st:w.ownsRow base 3 1 tv T.length (ivals T)
section
variable {w w' : World} {base A lm : Nat} {S : List (Int × Int)} {N : List (List Int)} {T : List Int} {init many : Int} {sv nv tv : Value}
theorem LsAt.chg {Z:Nat->Prop} (h:LsAt w base nv tv N) (hs:Chg Z w w') (h1:∀ i,Z i->nv.ownBlock≠some i/\∀ ao:Option Addr,∀ a,ao=some a->i=a.block->tv.ownBlock≠some i->¬ TyB w i 3):LsAt w' base nv tv N:=by
 obtain ⟨us,h2,h3,h4⟩:=h;refine ⟨us,owns_chg h2 hs (fun g e z=>(h1 g z).1 e),h3,fun i hi=>?_⟩
 obtain ⟨ao,c,e1,e2,e3,e4⟩:=h4 i hi;have hz:∀ a,ao=some a->¬ Z a.block:=fun a e z=>(h1 _ z).2 ao a e rfl (e4 a e).1 (by subst e;exact e3.ty)
 exact ⟨ao,c,e1,e2.chg hs hz,e3.chg hs hz,e4⟩
theorem AtX.ty (h:AtX w base A lm S N T init many sv nv tv):TyB w A 93:=⟨_,_,h.box⟩
theorem LiesAt.isMap {b:Nat} (h:LiesAt w b S):∃ es c,w.heap[b]? = some (.map es c):=by
 obtain ⟨f,h1,_⟩:=h;exact h1.isMap
theorem LiesAt.lt {b:Nat} (h:LiesAt w b S):b < w.heap.size:=by
 obtain ⟨es,c,h⟩:=h.isMap;exact (Array.getElem?_eq_some_iff.1 h).1
theorem AtX.lt (h:AtX w base A lm S N T init many sv nv tv):A < w.heap.size:=h.ty.lt
theorem AtX.base_le (h:AtX w base A lm S N T init many sv nv tv):base <= w.heap.size:=by have:=h.lt;have:=h.bA;omega
theorem AtX.chg {Z:Nat->Prop} (h:AtX w base A lm S N T init many sv nv tv) (hs:Chg Z w w') (hz:∀ i,Z i->i≠A/\i≠lm/\¬ TyB w i 97/\¬ TyB w i 36/\¬ TyB w i 3):AtX w' base A lm S N T init many sv nv tv:=by
 have zA:¬ Z A:=fun z=>(hz _ z).1 rfl
 have zl:¬ Z lm:=fun z=>(hz _ z).2.1 rfl
 obtain ⟨us,n1,n2,n3⟩:=id h.nx;refine ⟨(hs.block A h.lt zA).trans h.box,h.bA,h.bl,h.lies.kept (hs.block lm h.lies.lt zl),owns_chg h.sp hs (fun g e z=>(hz g z).2.2.1 (owns_ty h.sp e).2),h.nx.chg hs fun i z=>⟨fun e=>(hz i z).2.2.2.1 (owns_ty n1 e).2,fun _ _ _ _ _=>(hz i z).2.2.2.2⟩,owns_chg h.st hs (fun g e z=>(hz g z).2.2.2.2 (owns_ty h.st e).2)⟩
theorem AtX.below (h:AtX w base A lm S N T init many sv nv tv) (hb:Below w.heap.size w w'):AtX w' base A lm S N T init many sv nv tv:=h.chg (Chg.of (Z:=fun _=>False) hb) fun _ z=>z.elim
theorem AtX.sk {bs bl':Nat} (h:AtX w base A lm S N T init many sv nv tv) (hs:Sk bs bl' w w') (hm:TwoMaps w bs bl') (h1:lm≠bs) (h2:lm≠bl'):AtX w' base A lm S N T init many sv nv tv:=by
 obtain ⟨⟨es,c,e1⟩,⟨es',c',e2⟩⟩:=hm;refine h.chg hs.chg fun i z=>?_
 have hno:∀ t,¬ TyB w i t:=fun t ht=>by
  rcases z with rfl | rfl
  ·exact ht.no_map e1
  ·exact ht.no_map e2
 refine ⟨fun e=>hno _ (e ▸ h.ty),fun e=>?_,hno _,hno _,hno _⟩
 rcases z with rfl | rfl
 ·exact h1 e.symm
 ·exact h2 e.symm
def atZ (A lm:Nat) (sv:Value):Nat->Prop:=fun i=>i=A\/i=lm\/sv.ownBlock=some i
theorem AtX.put {S':List (Int × Int)} {sv':Value} (h:AtX w base A lm S N T init many sv nv tv) (hs:Chg (atZ A lm sv) w w') (hbx:w'.heap[A]? = some (atB sv' nv tv init many lm)) (hl:LiesAt w' lm S') (hsp:SpO w' base sv' S'):AtX w' base A lm S' N T init many sv' nv tv:=by
 obtain ⟨es,c,em⟩:=h.lies.isMap
 have hno:∀ i t,atZ A lm sv i->TyB w i t->t=93\/t=97:=fun i t z ht=>by
  rcases z with rfl | rfl | e
  ·exact .inl (ht.eq h.ty)
  ·exact absurd em ht.no_map
  ·exact .inr (ht.eq (owns_ty h.sp e).2)
 have hni:∀ i,atZ A lm sv i->¬ TyB w i 3:=fun i z ht=>by
  rcases hno i _ z ht with e | e
  ·exact absurd e (by decide)
  ·exact absurd e (by decide)
 have hnl:∀ i,atZ A lm sv i->¬ TyB w i 36:=fun i z ht=>by
  rcases hno i _ z ht with e | e
  ·exact absurd e (by decide)
  ·exact absurd e (by decide)
 obtain ⟨us,n1,n2,n3⟩:=id h.nx;exact ⟨hbx,h.bA,h.bl,hl,hsp,h.nx.chg hs fun i z=>⟨fun e=>hnl i z (owns_ty n1 e).2,fun _ _ _ _ _=>hni i z⟩,owns_chg h.st hs (fun g e z=>hni g z (owns_ty h.st e).2)⟩
theorem atB_set0 (w:World) (hb:w.heap[A]? = some (atB sv nv tv init many lm)) (v:Value):(w.setCell ⟨A,0,none⟩ v).heap[A]? = some (atB v nv tv init many lm):=by
 unfold atB at *;simp [World.setCell,Array.getElem?_modify,hb]
theorem atB_set2 (w:World) (hb:w.heap[A]? = some (atB sv nv tv init many lm)) (v:Value):(w.setCell ⟨A,2,none⟩ v).heap[A]? = some (atB sv v tv init many lm):=by
 unfold atB at *;simp [World.setCell,Array.getElem?_modify,hb]
theorem atB_set3 (w:World) (hb:w.heap[A]? = some (atB sv nv tv init many lm)) (v:Value):(w.setCell ⟨A,3,none⟩ v).heap[A]? = some (atB sv nv v init many lm):=by
 unfold atB at *;simp [World.setCell,Array.getElem?_modify,hb]
theorem atB_cells (hb:w.heap[A]? = some (atB sv nv tv init many lm)):w.cell? ⟨A,0,none⟩=some sv/\w.cell? ⟨A,1,none⟩=some (.int .i64 init)/\w.cell? ⟨A,2,none⟩=some nv/\w.cell? ⟨A,3,none⟩=some tv/\w.cell? ⟨A,4,none⟩=some (.int .i64 many)/\w.cell? ⟨A,5,none⟩=some (.map (some lm)):=by
 unfold atB at hb;refine ⟨?_,?_,?_,?_,?_,?_⟩ <;> simp [World.cell?,hb]
theorem atB_free (hb:w.heap[A]? = some (atB sv nv tv init many lm)) (i:Nat):w.frozen? ⟨A,i,none⟩=false:=by
 unfold atB at hb;simp [World.frozen?,hb]
end
theorem plTo_app (S a b:List (Int × Int)):plTo S (a++b)=plTo (plTo S a) b:=by
 unfold plTo;rw [List.foldl_append]
theorem plTo_take {S l:List (Int × Int)} {k:Nat} (h:k < l.length):plTo S (l.take (k+1))=plOne (plTo S (l.take k)) (l.getD k (0,0)):=by
 rw [List.take_add_one,List.getElem?_eq_getElem h]
 simp only [Option.toList_some];rw [plTo_snoc];simp [List.getD_eq_getElem?_getD,h]
theorem plTo_idx {S l:List (Int × Int)} {k:Nat} (h:k < l.length):(plTo S l).idxOf (l.getD k (0,0))=(plOne (plTo S (l.take k)) (l.getD k (0,0))).idxOf (l.getD k (0,0)):=by
 rw [<- plTo_take h];refine idx_pre ?_ ?_
 ·have e:plTo S l=plTo (plTo S (l.take (k+1))) (l.drop (k+1)):=by rw [<- plTo_app,List.take_append_drop]
  rw [e];exact plTo_pre _ _
 ·rw [plTo_take h]
  exact plOne_mem _ _
theorem plOne_in {S:List (Int × Int)} {p:Int × Int} (h:p∈S):plOne S p=S:=by unfold plOne;rw [if_pos h]
theorem plOne_out {S:List (Int × Int)} {p:Int × Int} (h:p∉S):plOne S p=S++[p]:=by unfold plOne;rw [if_neg h]
def plIx (S l:List (Int × Int)):List Int:=(List.range l.length).map fun (j:Nat)=>(((plTo S l).idxOf (l.getD j (0,0)):Nat):Int)
theorem plIx_len (S l:List (Int × Int)):(plIx S l).length=l.length:=by simp [plIx]
theorem plIx_at {S l:List (Int × Int)} {j:Nat} (h:j < l.length):(plIx S l).getD j 0=(((plTo S l).idxOf (l.getD j (0,0)):Nat):Int):=by simp [plIx,List.getD_eq_getElem?_getD,h]
theorem SpV.chg {Z:Nat->Prop} {w w':World} {ao:Option Addr} {n c:Nat} {x:List (Int × Int)} (h:SpV w (.slice ao n c) x) (hs:Chg Z w w') (hz:∀ a,ao=some a->¬ Z a.block):SpV w' (.slice ao n c) x:=by
 obtain ⟨ao',cap,e,h⟩:=h
 injection e with e1 e2 e3
 subst e1 e2 e3;refine ⟨ao,c,rfl,fun hne=>?_⟩
 obtain ⟨b,off,rfl,hlt,hat⟩:=h hne;exact ⟨b,off,rfl,Nat.lt_of_lt_of_le hlt hs.size,fun i hi=>⟨hs.cell (hat i hi).1 (hz ⟨b,off,none⟩ rfl),hs.cell (hat i hi).2 (hz ⟨b,off,none⟩ rfl)⟩⟩
theorem SpV.get {w:World} {ao:Option Addr} {n c:Nat} {x:List (Int × Int)} (h:SpV w (.slice ao n c) x) {i:Nat} (hi:i < x.length):∃ b off,ao=some ⟨b,off,none⟩/\b < w.heap.size/\w.cell? ⟨b,off+i*2,none⟩=some (.int .i64 (x.getD i (0,0)).1)/\w.cell? ⟨b,off+i*2+1,none⟩=some (.int .i64 (x.getD i (0,0)).2):=by
 obtain ⟨ao',cap,e,h⟩:=h
 injection e with e1 e2 e3
 subst e1;obtain ⟨b,off,rfl,hlt,hat⟩:=h (by rintro rfl;simp at hi)
 exact ⟨b,off,rfl,hlt,(hat i hi).1,(hat i hi).2⟩
structure PlB (w wr:World) (base A lm R n:Nat) (SL SS:List (Int × Int)) (sv svb svk nv tv:Value) (init many:Int) (rf:Nat->Value):Prop where
 box:wr.heap[A]? = some (atB svb nv tv init many lm)
 lies:LiesAt wr lm SL
 sp:SpO wr base svk SS
 row:wr.rowIs R 3 n rf
 chg:Chg (atZ A lm sv) w wr
 own:svk.ownBlock=sv.ownBlock\/∃ g,svk.ownBlock=some g/\w.heap.size <= g
 hR:w.heap.size <= R
section
variable {w wr w' : World} {base A lm R n : Nat} {SL SS S' : List (Int × Int)} {sv svb svk sv' nv tv : Value} {init many : Int} {rf : Nat -> Value}
theorem PlB.tyA (h:PlB w wr base A lm R n SL SS sv svb svk nv tv init many rf):TyB wr A 93:=⟨_,_,h.box⟩
theorem PlB.tyR (h:PlB w wr base A lm R n SL SS sv svb svk nv tv init many rf):TyB wr R 3:=by
 obtain ⟨cs,hcs,_⟩:=h.row;exact ⟨cs,(0,0),hcs⟩
theorem PlB.below (h:PlB w wr base A lm R n SL SS sv svb svk nv tv init many rf) (hb:Below wr.heap.size wr w'):PlB w w' base A lm R n SL SS sv svb svk nv tv init many rf:=
 ⟨(hb.block A h.tyA.lt).trans h.box,h.lies.kept (hb.block lm h.lies.lt),h.sp.later hb (Nat.le_refl _),h.row.of_block (hb.block R h.tyR.lt),h.chg.trans (Chg.of hb),h.own,h.hR⟩
theorem PlB.map (h:PlB w wr base A lm R n SL SS sv svb svk nv tv init many rf) (hg:wr.grownBy w' (some lm)) (hl:LiesAt w' lm S'):PlB w w' base A lm R n S' SS sv svb svk nv tv init many rf:=by
 obtain ⟨es,c,em⟩:=h.lies.isMap
 have hne:∀ i t,TyB wr i t->some i≠some lm:=fun i t ht e=>by
  injection e with e
  subst e;exact ht.no_map em
 have hb:∀ i t,TyB wr i t->w'.heap[i]? = wr.heap[i]?:=fun i t ht=>hg.block i ht.lt (hne i t ht)
 refine ⟨(hb A _ h.tyA).trans h.box,hl,owns_chg h.sp (Chg.grown hg) (fun g e z=>hne g _ (owns_ty h.sp e).2 z.symm),h.row.of_block (hb R _ h.tyR),h.chg.trans2 (Chg.grown hg) (fun i _ e=>?_),h.own,h.hR⟩
 injection e with e
 exact .inr (.inl e.symm)
theorem PlB.app (h:PlB w wr base A lm R n SL SS sv svb svk nv tv init many rf) (hg:wr.grownBy w' svk.ownBlock) (hs:SpO w' base sv' S') (ho:sv'.ownBlock=svk.ownBlock\/∃ g,sv'.ownBlock=some g/\w.heap.size <= g):PlB w w' base A lm R n SL S' sv svb sv' nv tv init many rf:=by
 obtain ⟨es,c,em⟩:=h.lies.isMap;have hne:∀ i t,TyB wr i t->t≠97->some i≠svk.ownBlock:=fun i t ht h2 e=>h2 (ht.eq (owns_ty h.sp e.symm).2)
 have hb:∀ i t,TyB wr i t->t≠97->w'.heap[i]? = wr.heap[i]?:=fun i t ht h2=>hg.block i ht.lt (hne i t ht h2)
 refine ⟨(hb A _ h.tyA (by decide)).trans h.box,h.lies.kept (hg.block lm h.lies.lt fun e=>(owns_ty h.sp e.symm).2.no_map em),hs,h.row.of_block (hb R _ h.tyR (by decide)),h.chg.trans2 (Chg.grown hg) (fun i hi e=>?_),?_,h.hR⟩
 ·rcases h.own with h1 | ⟨g,h1,h2⟩
  ·exact .inr (.inr (h1 ▸ e))
  ·rw [h1] at e
   injection e with e
   omega
 ·rcases ho with h1 | h1
  ·rw [h1];exact h.own
  ·exact .inr h1
theorem PlB.setA (h:PlB w wr base A lm R n SL SS sv svb svk nv tv init many rf):PlB w (wr.setCell ⟨A,0,none⟩ svk) base A lm R n SL SS sv svk svk nv tv init many rf:=by
 obtain ⟨es,c,em⟩:=h.lies.isMap;have hne:∀ i t,TyB wr i t->t≠93->i≠A:=fun i t ht h2 e=>h2 (ht.eq (e ▸ h.tyA))
 refine ⟨atB_set0 wr h.box svk,h.lies.kept (RowKit.Below.heap_setCell _ _ _ _ (fun e=>h.tyA.no_map (e ▸ em))),owns_chg h.sp (Chg.setCell wr _ _) (fun g e=>hne g _ (owns_ty h.sp e).2 (by decide)),h.row.of_block (RowKit.Below.heap_setCell _ _ _ _ (hne R _ h.tyR (by decide))),h.chg.trans2 (Chg.setCell wr _ _) (fun i _ e=>.inl e),h.own,h.hR⟩
theorem PlB.setR (h:PlB w wr base A lm R n SL SS sv svb svk nv tv init many rf) (k:Nat) (v:Value):PlB w (wr.setCell ⟨R,k,none⟩ v) base A lm R n SL SS sv svb svk nv tv init many (fun j=>if j=k then v else rf j):=by
 obtain ⟨es,c,em⟩:=h.lies.isMap;have hne:∀ i t,TyB wr i t->t≠3->i≠R:=fun i t ht h2 e=>h2 (ht.eq (e ▸ h.tyR))
 refine ⟨(RowKit.Below.heap_setCell _ _ _ _ (hne A _ h.tyA (by decide))).trans h.box,h.lies.kept (RowKit.Below.heap_setCell _ _ _ _ (fun e=>h.tyR.no_map (e ▸ em))),owns_chg h.sp (Chg.setCell wr _ _) (fun g e=>hne g _ (owns_ty h.sp e).2 (by decide)),h.row.set k v,h.chg.trans2 (Chg.setCell wr _ _) (fun i hi e=>?_),h.own,h.hR⟩
 have:=h.hR;simp only at e
 omega
end
def PlPost (w:World) (base A lm:Nat) (S:List (Int × Int)) (N:List (List Int)) (T:List Int) (init many:Int) (sv nv tv:Value) (l:List (Int × Int)) (e:Ending) (w':World):Prop:=
 e=.returned (.slice (some ⟨w.heap.size,0,none⟩) l.length l.length)/\∃ sv',AtX w' base A lm (plTo S l) N T init many sv' nv tv/\IntsV w' (.slice (some ⟨w.heap.size,0,none⟩) l.length l.length) (plIx S l)/\RowTy w' (.slice (some ⟨w.heap.size,0,none⟩) l.length l.length) 3/\Chg (atZ A lm sv) w w'/\(sv'.ownBlock=sv.ownBlock\/∃ g,sv'.ownBlock=some g/\w.heap.size <= g)
theorem places_any (w:World) (base A lm:Nat) (S:List (Int × Int)) (N:List (List Int)) (T:List Int) (init many:Int) (sv nv tv:Value) (l:List (Int × Int)) (so:Option Addr) (sc:Nat) (hX:AtX w base A lm S N T init many sv nv tv) (hl:SpV w (.slice so l.length sc) l) (hsep:∀ a,so=some a->¬ atZ A lm sv a.block) (hI:∀ j,j < l.length->I64s (l.getD j (0,0))) (hz:S.length+l.length <= 1000000000) :
    Calls Tryz.prog 27 #[.pointer (some ⟨A,0,none⟩),.slice so l.length sc] w (PlPost w base A lm S N T init many sv nv tv l):=by
  obtain ⟨n,hn⟩:∃ n,l.length=n:=⟨_,rfl⟩
  have HN:Hid (l.length=n):=hn;have HXt:Hid (AtX w base A lm S N T init many sv nv tv):=hX;have HI:Hid (∀ j,j < n->I64s (l.getD j (0,0))):=fun j hj=>hI j (by omega)
  have HLs:Hid (∀ wr,Chg (atZ A lm sv) w wr->SpV wr (.slice so n sc) l):=fun wr h=>by have:=hl.chg h hsep;rw [hn] at this;exact this
  have HSz:Hid (∀ k,(plTo S (l.take k)).length <= S.length+n):=fun k=>by
    have:=(plTo_length (l.take k) S).2;have h2:(l.take k).length <= l.length:=by rw [List.length_take];omega
    show _ <= _
    omega
  unfold PlPost;rw [hn];have hnz:S.length+n <= 1000000000:=by omega
  clear hX hl hsep hI hz hn;have hmk:=run_make_row' (P:=Tryz.prog) 36 3 (.int .i64 0) 8 Tryz.underlying36 infoInt rfl .i64 .i64 n (by omega) (by omega)
  have HS0:Hid (∀ W0,W0=w.alloc (.cells (madeCells #[.int .i64 0] n) 3)->PlB w W0 base A lm w.heap.size n (plTo S (l.take 0)) (plTo S (l.take 0)) sv sv sv nv tv init many (fun j=>.int .i64 (if j < 0 then (((plTo S l).idxOf (l.getD j (0,0)):Nat):Int) else 0))):=fun W0 e=>by
    subst e;have hb:Below w.heap.size w (w.alloc (.cells (madeCells #[.int .i64 0] n) 3)):=(Below.refl _ _).alloc (Nat.le_refl _) _;have hx:=HXt.out.below hb;exact ⟨hx.box,hx.lies,hx.sp,(World.rowIs_made w (.int .i64 0) n 3).congr (fun j _=>by simp),Chg.of hb,.inl rfl,Nat.le_refl _⟩
  go_enter Tryz.func27,Tryz.ntmps27
  go_wp2_with fail
  go_loopw [15] (fun i wr=>∃ k:Nat,k <= n/\i=.int .i64 k/\∃ svk,Hid (PlB w wr base A lm w.heap.size n (plTo S (l.take k)) (plTo S (l.take k)) sv svk svk nv tv init many (fun j=>.int .i64 (if j < k then (((plTo S l).idxOf (l.getD j (0,0)):Nat):Int) else 0)))) (fun i _=>n - (intOf i).toNat)
  case atStart=>exact ⟨0,Nat.zero_le _,rfl,sv,HS0.out _ rfl⟩
  case round=>
    obtain ⟨k,hk,rfl,svk,HA⟩:=hrel
    by_cases hlt:k < n
    · have hlt2:k < l.length:=by rw [HN.out];exact hlt
      obtain ⟨b,off,rfl,hbl,c0,c1⟩:=(HLs.out wr HA.out.chg).get hlt2;have hki:(k:Int) < (n:Int):=by omega
      have hIk:=HI.out k hlt;have HT:=(show Hid _ from plTo_take (S:=S) hlt2)
      have HD:=(show Hid _ from plTo_idx (S:=S) hlt2)
      have hSz:=HSz.out k
      have HRow:Hid (∀ ix:Nat,(plTo S l).idxOf (l.getD k (0,0))=ix->∀ j:Nat,(if j=k then Value.int .i64 (ix:Nat) else .int .i64 (if j < k then (((plTo S l).idxOf (l.getD j (0,0)):Nat):Int) else 0))=.int .i64 (if j < k+1 then (((plTo S l).idxOf (l.getD j (0,0)):Nat):Int) else 0)):=fun ix e j=>by
        by_cases h:j=k
        · subst h
          rw [if_pos rfl,if_pos (Nat.lt_succ_self _),e]
        · rw [if_neg h]
          by_cases h1:j < k
          · rw [if_pos h1,if_pos (by omega)]
          · rw [if_neg h1,if_neg (by omega)]
      generalize hSk:plTo S (l.take k)=Sk at *;generalize hp:l.getD k (0,0)=p at *;obtain ⟨x,y⟩:=p;simp only at c0 c1
      obtain ⟨vo,vc,rfl⟩:=HA.out.sp.shape;have hal:Below wr.heap.size wr (wr.alloc (.cells #[.int .i64 x,.int .i64 y] 97)):=(Below.refl _ _).alloc (Nat.le_refl _) _
      have HAd:Hid (∀ w2,Below wr.heap.size wr w2->PlB w w2 base A lm w.heap.size n Sk Sk sv (.slice vo Sk.length vc) (.slice vo Sk.length vc) nv tv init many (fun j=>.int .i64 (if j < k then (((plTo S l).idxOf (l.getD j (0,0)):Nat):Int) else 0))):=fun w2 h=>HA.out.below h
      obtain ⟨q0,q1,q2,q3,q4,q5⟩:=atB_cells (HAd.out _ hal).box;have s0:(wr.alloc (.cells #[.int .i64 x,.int .i64 y] 97)).cell? ⟨wr.heap.size,0,none⟩=some (.int .i64 x):=by simp [go_sem]
      have s1:(wr.alloc (.cells #[.int .i64 x,.int .i64 y] 97)).cell? ⟨wr.heap.size,1,none⟩=some (.int .i64 y):=by simp [go_sem]
      have hlk:=(HAd.out _ hal.drew).lies.look hIk;unfold spotV at hlk;simp only at hlk
      by_cases hmem:(x,y)∈Sk
      · rw [if_pos hmem,decide_eq_true hmem] at hlk
        have HV:Hid (((plTo S l).idxOf (x,y):Nat)=Sk.idxOf (x,y)):=by show _=_;rw [HD.out,plOne_in hmem]
        have HT2:Hid (plTo S (l.take (k+1))=Sk):=by show _=_;rw [HT.out,plOne_in hmem]
        generalize Sk.idxOf (x,y)=ix at *;generalize hW1:wr.alloc (.cells #[.int .i64 x,.int .i64 y] 97)=W1 at *
        go_upto_region 5 with fail
        go_cut [8,9] (fun u8 u9 wx=>u8=.int .i64 (ix:Nat)/\u9=.bool true/\wx=W1.drew)
        case first=>
          go_region_law (fail)
          all_goals go_wp2_with fail
          all_goals go_meet
          all_goals exact ⟨rfl,rfl,rfl⟩
        case rest=>
          obtain ⟨rfl,rfl,rfl⟩:=hcut;have hA6:=HAd.out _ hal.drew;have f0:=hA6.row.cell hlt;have f1:=hA6.row.frozen k;have HA7:=(show Hid _ from hA6.setR k (.int .i64 (ix:Nat)))
          clear hA6 hlk
          go_wp2_with fail
          go_roundw
          case rel=>
            refine ⟨k+1,by omega,by go_num,.slice vo Sk.length vc,?_⟩
            rw [HT2.out];have h8:=HA7.out;exact ⟨h8.box,h8.lies,h8.sp,h8.row.congr (fun j _=>HRow.out ix HV.out j),h8.chg,h8.own,h8.hR⟩
          case measure=>simp [intOf];omega
      · rw [if_neg hmem,decide_eq_false hmem] at hlk
        have HV:Hid (((plTo S l).idxOf (x,y):Nat)=Sk.length):=by show _=_;rw [HD.out,plOne_idx hmem]
        have HT2:Hid (plTo S (l.take (k+1))=Sk++[(x,y)]):=by show _=_;rw [HT.out,plOne_out hmem]
        obtain ⟨w2,hput,hl2,hg2⟩:=(HAd.out _ hal.drew.drew).lies.put hIk hmem (by unfold maxLen;omega)
        have hA2:=(HAd.out _ hal.drew.drew).map hg2 hl2;rw [plOne_out hmem] at hA2;have HA2:Hid (∀ w3,Below w2.heap.size w2 w3->PlB w w3 base A lm w.heap.size n (Sk++[(x,y)]) Sk sv (.slice vo Sk.length vc) (.slice vo Sk.length vc) nv tv init many (fun j=>.int .i64 (if j < k then (((plTo S l).idxOf (l.getD j (0,0)):Nat):Int) else 0))):=fun w3 h=>hA2.below h
        have s2:w2.cell? ⟨wr.heap.size,0,none⟩=some (.int .i64 x)/\w2.cell? ⟨wr.heap.size,1,none⟩=some (.int .i64 y):=by
          have hne:some wr.heap.size≠some lm:=by
            have:=(HAd.out wr (Below.refl _ _)).lies.lt;intro e
            injection e with e
            omega
          have hbk:=hg2.block wr.heap.size (World.block_lt_of_cell? _ _ s0) hne;exact ⟨(World.cell?_of_block hbk).trans s0,(World.cell?_of_block hbk).trans s1⟩
        obtain ⟨s20,s21⟩:=s2;unfold spotV at hput;simp only at hput
        clear hl2 hg2 hA2;generalize hW1:wr.alloc (.cells #[.int .i64 x,.int .i64 y] 97)=W1 at *
        go_upto_region 5 with fail
        go_cut [8,9] (fun u8 u9 wx=>u8=.int .i64 0/\u9=.bool false/\wx=W1.drew)
        case first=>
          go_region_law (fail)
          all_goals go_wp2_with fail
          all_goals go_meet
          all_goals exact ⟨rfl,rfl,rfl⟩
        case rest=>
          obtain ⟨rfl,rfl,rfl⟩:=hcut
          go_upto_region 8 with fail
          go_cut [] (fun wx=>wx=w2)
          case first=>
            go_region_law (fail)
            all_goals go_wp2_with fail
            all_goals go_meet
            all_goals rfl
          case rest=>
            obtain rfl:=hcut;clear hput hlk;obtain ⟨i0,hi,hz0,hz1,hz2⟩:=info_parts infoSpot;have hbA:Below wc.heap.size wc (wc.drew.alloc (.cells #[.int .i64 x,.int .i64 y] 97)):=((Below.refl _ _).drew).alloc (Nat.le_refl _) _
            have hown9:World.ownsRow (wc.drew.alloc (.cells #[.int .i64 x,.int .i64 y] 97)) base 97 2 (.slice vo Sk.length vc) Sk.length (flat Sk):=(HA2.out _ hbA).sp;have hbase9:base <= (wc.drew.alloc (.cells #[.int .i64 x,.int .i64 y] 97)).heap.size:=Nat.le_trans HXt.out.base_le (HA2.out _ hbA).chg.size
            have HApp:Hid (∀ g cap w9,World.ownsRow w9 base 97 2 (.slice (some ⟨g,0,none⟩) (Sk.length+1) cap) (Sk.length+1) (flat Sk++[.int .i64 x,.int .i64 y])->(wc.drew.alloc (.cells #[.int .i64 x,.int .i64 y] 97)).grownBy w9 (Value.slice vo Sk.length vc).ownBlock->((Value.slice vo Sk.length vc).ownBlock=some g\/g=(wc.drew.alloc (.cells #[.int .i64 x,.int .i64 y] 97)).heap.size)->PlB w w9 base A lm w.heap.size n (Sk++[(x,y)]) (Sk++[(x,y)]) sv (.slice vo Sk.length vc) (.slice (some ⟨g,0,none⟩) (Sk.length+1) cap) nv tv init many (fun j=>.int .i64 (if j < k then (((plTo S l).idxOf (l.getD j (0,0)):Nat):Int) else 0))):=fun g cap w9 h1 h2 h3=>by
              refine (HA2.out _ hbA).app h2 ?_ ?_
              · unfold SpO
                rw [flat_append,List.length_append];exact h1
              · rcases h3 with h | h
                · exact .inl (by rw [h];rfl)
                · exact .inr ⟨g,rfl,by have:=(HA2.out _ hbA).chg.size;omega⟩
            obtain ⟨p0,_,_,_,_,_⟩:=atB_cells (HA2.out wc (Below.refl _ _)).box;have p0':(wc.drew.alloc (.cells #[.int .i64 x,.int .i64 y] 97)).cell? ⟨A,0,none⟩=some (.slice vo Sk.length vc):=(atB_cells (HA2.out _ hbA).box).1
            have hnews:∀ j u,[Value.int .i64 x,Value.int .i64 y][j]? = some u->(wc.drew.alloc (.cells #[.int .i64 x,.int .i64 y] 97)).cell? ((⟨wc.heap.size,0,none⟩:Addr).add j)=some u:=two_new wc.drew _ _ _
            have HSl:Hid (∀ m:Nat,m=Sk.length->m+1 <= 1000000001):=fun m e=>by show _ <= _;omega
            generalize hWA:wc.drew.alloc (.cells #[.int .i64 x,.int .i64 y] 97)=WA at *;have hsk9:Sk.length <= 1000000000:=by omega
            go_upto_region 9 with fail
            go_region_law (first
              | (refine step_append_lies _ (by rfl) (.tmp 48) (.tmp 50) 61 (by rfl) base 97 i0 _ 2 16 Tryz.underlying61 hi hz0 hz1 hz2 (by rfl) (by decide) (.slice vo Sk.length vc) Sk.length (flat Sk) (by rfl) hown9 ⟨wc.heap.size,0,none⟩ 1 1 [.int .i64 x,.int .i64 y] (by rfl) (by rfl) hnews (by intro u hu;simp at hu;rcases hu with rfl | rfl <;> rfl) (by decide) (by unfold maxLen;omega) (by omega) hbase9 _ rfl ?_;intro g9 cap9 w9 hown hgrow hat hlt9;have hA9:=HApp.out g9 cap9 w9 hown hgrow hat;have z0:=(atB_cells hA9.box).1;have zf:=atB_free hA9.box 0;have hA10:=hA9.setA;have f0:=hA10.row.cell hlt;have f1:=hA10.row.frozen k;have HA9:=(show Hid _ from hA10.setR k (.int .i64 (Sk.length:Nat)));clear hA9 hA10 hown hgrow hat))
            all_goals go_wp2_with fail
            all_goals go_roundw
            all_goals first
              | (refine ⟨k+1,by omega,by go_num,.slice (some ⟨g9,0,none⟩) (Sk.length+1) cap9,?_⟩
                 rw [HT2.out]
                 have h8:=HA9.out
                 exact ⟨h8.box,h8.lies,h8.sp,h8.row.congr (fun j _=>HRow.out _ HV.out j),h8.chg,h8.own,h8.hR⟩)
              | (simp [intOf];omega)
    · obtain rfl:k=n:=by omega
      have HF:Hid (PlB w wr base A lm w.heap.size k (plTo S l) (plTo S l) sv svk svk nv tv init many (fun j=>.int .i64 (if j < k then (((plTo S l).idxOf (l.getD j (0,0)):Nat):Int) else 0))):=by
        have:=HA.out;rw [List.take_of_length_le (by rw [HN.out];exact Nat.le_refl _)] at this
        exact this
      clear HA
      go_wp2_with fail
      go_ret
      have h:=HF.out;obtain ⟨cs,hcs,_⟩:=id h.row;refine ⟨rfl,svk,HXt.out.put h.chg h.box h.lies h.sp,⟨some ⟨w.heap.size,0,none⟩,k,by rw [plIx_len,HN.out],fun _=>⟨w.heap.size,0,rfl,h.row.lt,fun i hi=>?_⟩⟩,fun a n c e=>?_,h.chg,h.own⟩
      · rw [plIx_len,HN.out] at hi
        rw [Nat.zero_add,h.row.cell hi,if_pos hi,plIx_at (by rw [HN.out];exact hi)]
      · injection e with e _ _
        injection e with e
        subst e;exact ⟨cs,(0,0),hcs⟩
variable {Pz : Nat -> Prop}
theorem zeroAnswer (w:World):(zeroValue 170).run Tryz.prog w=.ok (.agg #[.bool false]) w:=by kernel_rfl
theorem folR_sign {l:List (Int × Int)} {x y y':List Bool} {c d d':Int} (hl:y.length=y'.length) (ht:tcode l y d=0) (ht':tcode l y' d'=0) (e:signN l (tru l y d)=signN l (tru l y' d')):folR l x c y d=folR l x c y' d':=by
 have hf:fcode l x c y d=fcode l x c y' d':=by unfold fcode;rw [hl,ht,ht']
 unfold folR;rw [hf]
 split
 ·exact decide_eq_decide.2 (fol_sign e)
 ·rfl
def FoPost (Pz:Nat->Prop) (w0 w:World) (B bs bl n:Nat) (va vr pv fv:Value) (m:Mo) (ps:List (List (Int × Int))) (l:List (Int × Int)) (ho:Option Addr) (hc:Nat) (b:Bool) (e:Ending) (w':World):Prop:=
 e=.returned (.tuple #[.bool b,.int .i64 0])/\Sk bs bl w w'/\Hid (SvOk Pz w0 w' B bs bl (n+1) va vr pv fv m ps l ho hc)
def Li8 (w:World) (g:Nat) (y0 y1 y2 y3 y4 y5:Bool) (c s:Int):Prop:=w.cell? ⟨g,0,none⟩=some (.bool y0)/\w.cell? ⟨g,1,none⟩=some (.bool y1)/\w.cell? ⟨g,2,none⟩=some (.bool y2)/\w.cell? ⟨g,3,none⟩=some (.bool y3)/\w.cell? ⟨g,4,none⟩=some (.bool y4)/\w.cell? ⟨g,5,none⟩=some (.bool y5)/\w.cell? ⟨g,6,none⟩=some (.int .i64 c)/\w.cell? ⟨g,7,none⟩=some (.int .i64 s)
theorem Li8.of {w:World} {g:Nat} {y0 y1 y2 y3 y4 y5:Bool} {c s:Int} {t:TypeId} (h:w.heap[g]? = some (.cells #[.bool y0,.bool y1,.bool y2,.bool y3,.bool y4,.bool y5,.int .i64 c,.int .i64 s] t (0,0))):Li8 w g y0 y1 y2 y3 y4 y5 c s:=by
 refine ⟨?_,?_,?_,?_,?_,?_,?_,?_⟩ <;> simp [World.cell?,h]
theorem Li8.later {w w':World} {g:Nat} {y0 y1 y2 y3 y4 y5:Bool} {c s:Int} (h:Li8 w g y0 y1 y2 y3 y4 y5 c s) (hg:g < w.heap.size) (hb:Below w.heap.size w w'):Li8 w' g y0 y1 y2 y3 y4 y5 c s:=by
 obtain ⟨h0,h1,h2,h3,h4,h5,h6,h7⟩:=h;exact ⟨(hb.cell (p:=⟨g,0,none⟩) hg).trans h0,(hb.cell (p:=⟨g,1,none⟩) hg).trans h1,(hb.cell (p:=⟨g,2,none⟩) hg).trans h2,(hb.cell (p:=⟨g,3,none⟩) hg).trans h3,(hb.cell (p:=⟨g,4,none⟩) hg).trans h4,(hb.cell (p:=⟨g,5,none⟩) hg).trans h5,(hb.cell (p:=⟨g,6,none⟩) hg).trans h6,(hb.cell (p:=⟨g,7,none⟩) hg).trans h7⟩
theorem follows_any (w0 w:World) (B bs bl n:Nat) (va vr pv fv:Value) (m:Mo) (ps:List (List (Int × Int))) (l:List (Int × Int)) (ho:Option Addr) (hc:Nat) (x y:List Bool) (c d:Nat) (lo no so lo2 no2 so2:Option Addr) (lc nn nc sc lc2 nn2 nc2 sc2:Nat)
  (hB:0 < w0.heap.size) (hT:TabAt w0) (hV:TaskV w0 va vr pv fv m ps l) (hk:tkcode m ps l=0) (hS:SvOk Pz w0 w B bs bl n va vr pv fv m ps l ho hc) (hn:n < 1000000000000)
  (hx:BoolsV w (.slice lo ps.length lc) x) (hy:BoolsV w (.slice lo2 ps.length lc2) y) (hsg:IntsV w (.slice so2 (2 ^ (aheadL l).length) sc2) (sgL l y)) (hxl:x.length=ps.length) (hyl:y.length=ps.length) (hcN:c < 2 ^ (aheadL l).length) (hdN:d < 2 ^ (aheadL l).length) :
  Calls Tryz.prog 67 #[.pointer (some ⟨B,0,none⟩),.agg #[.slice lo ps.length lc,.slice no nn nc,.slice so (2 ^ (aheadL l).length) sc],.int .i64 (c:Int),.agg #[.slice lo2 ps.length lc2,.slice no2 nn2 nc2,.slice so2 (2 ^ (aheadL l).length) sc2],.int .i64 (d:Int)] w (FoPost Pz w0 w B bs bl n va vr pv fv m ps l ho hc (folR l x (c:Int) y (d:Int))):=by
 obtain ⟨hp0,hl0⟩:=tk_zero hk;obtain ⟨_,hps6⟩:=pcode_m hp0;obtain ⟨_,_,hz,_,h6⟩:=lcode_zero hl0;obtain ⟨fo,fc,rfl,_⟩:=id hV.fo;have hN64:2 ^ (aheadL l).length <= 64:=Nat.pow_le_pow_right (show 0 < 2 by decide) h6
 have htc:∀ (z:List Bool) (k:Nat),z.length=ps.length->k < 2 ^ (aheadL l).length->tcode l z (k:Int)=0:=fun z k hz1 hk1=>by
  refine tcode_ok (by rw [hz1];exact hl0) fun hno=>?_
  unfold ClaimNo at hno;have:((2 ^ (aheadL l).length:Nat):Int)=(2:Int) ^ (aheadL l).length:=by push_cast;rfl
  rcases hno with hno | hno
  ·omega
  ·rw [<- this] at hno;omega
 obtain ⟨g0,hg0,hgl⟩:=hS.li
 obtain ⟨sb,soff,rfl,hsb,hsat⟩:∃ sb soff,so2=some ⟨sb,soff,none⟩/\sb < w.heap.size/\w.cell? ⟨sb,soff+d,none⟩=some (.int .i64 (sgAt l y d)):=by
  obtain ⟨ao,cap,e1,h1⟩:=hsg
  injection e1 with e1 _ _
  subst e1;obtain ⟨b,off,rfl,hb,hat⟩:=h1 (by intro e;have:=congrArg List.length e;rw [sgL_len] at this;simp at this)
  refine ⟨b,off,rfl,hb,?_⟩
  have:=hat d (by rw [sgL_len];exact hdN)
  rw [this,sgL_at hdN]
 obtain ⟨sg,hsgd⟩:∃ sg,sgAt l y d=sg:=⟨_,rfl⟩
 have hsgb:-9223372036854775808 <= sg/\sg <= 9223372036854775807:=by
  obtain ⟨b0,b1⟩:=signTo_bounds l (tru l y (d:Int)) (aheadL l).length;have e:sg=signTo l (tru l y (d:Int)) (aheadL l).length:=by rw [<- hsgd];rfl
  have:((2 ^ (aheadL l).length:Nat):Int)=(2:Int) ^ (aheadL l).length:=by push_cast;rfl
  rw [<- this] at b1;omega
 rw [hsgd] at hsat
 obtain ⟨W3,hW3⟩:∃ W3,W3=((w.alloc (.cells #[.slice lo ps.length lc,.slice no nn nc,.slice so (2 ^ (aheadL l).length) sc] 140)).alloc (.cells #[.slice lo2 ps.length lc2,.slice no2 nn2 nc2,.slice (some ⟨sb,soff,none⟩) (2 ^ (aheadL l).length) sc2] 140)).alloc (.cells #[.bool false,.bool false,.bool false,.bool false,.bool false,.bool false,.int .i64 (c:Int),.int .i64 sg] 168):=⟨_,rfl⟩
 have hb3:Below w.heap.size w W3:=by rw [hW3];exact (((Below.refl _ _).alloc (Nat.le_refl _) _).alloc (by simp) _).alloc (by simp;omega) _
 have hz3:W3.heap.size=w.heap.size+3:=by rw [hW3];simp
 have hg3:W3.heap[w.heap.size+2]? = some (.cells #[.bool false,.bool false,.bool false,.bool false,.bool false,.bool false,.int .i64 (c:Int),.int .i64 sg] 168 (0,0)):=by
  rw [hW3]
  have:=(MapKept.heap_alloc ((w.alloc (.cells #[.slice lo ps.length lc,.slice no nn nc,.slice so (2 ^ (aheadL l).length) sc] 140)).alloc (.cells #[.slice lo2 ps.length lc2,.slice no2 nn2 nc2,.slice (some ⟨sb,soff,none⟩) (2 ^ (aheadL l).length) sc2] 140)) (.cells #[.bool false,.bool false,.bool false,.bool false,.bool false,.bool false,.int .i64 (c:Int),.int .i64 sg] 168)).1
  simpa using this
 obtain ⟨w4,y0,y1,y2,y3,y4,y5,hcopy,hsix,hg4,hgr4⟩:=copy_link W3.drew (w.heap.size+2) lo ps.length lc x (c:Int) sg 168 3 (hx.below hb3.drew) hxl hps6 hg3
 have hb4:Below w.heap.size w w4:=⟨hgr4.os.trans hb3.os,hgr4.tape.trans hb3.tape,hgr4.output.trans hb3.output,Nat.le_trans hb3.size hgr4.size,fun i hi=>(hgr4.block i (Nat.lt_of_lt_of_le hi hb3.size) (by intro e;injection e with e;omega)).trans (hb3.block i hi)⟩
 have hli4:=Li8.of hg4;have hlv:linkV x (c:Int) sg=.agg #[.bool y0,.bool y1,.bool y2,.bool y3,.bool y4,.bool y5,.int .i64 (c:Int),.int .i64 sg]:=by unfold linkV;rw [hsix];rfl
 obtain ⟨kl,hkl⟩:=keyLink y0 y1 y2 y3 y4 y5 (c:=(c:Int)) (s:=sg) (by omega) hsgb
 have hz4:w.heap.size+3 <= w4.heap.size:=by have:=hgr4.size;have e:W3.drew.heap.size=W3.heap.size:=rfl;omega
 have hk4:Below (w.heap.size+2) W3 w4:=⟨hgr4.os,hgr4.tape,hgr4.output,hgr4.size,fun i hi=>hgr4.block i (by show i < W3.heap.size;omega) (by intro e;injection e with e;omega)⟩
 have HBx:Hid (∀ w',Below (w.heap.size+2) W3 w'->w'.cell? ⟨w.heap.size,0,none⟩=some (.slice lo ps.length lc)/\w'.cell? ⟨w.heap.size+1,0,none⟩=some (.slice lo2 ps.length lc2)):=fun w' h=>by
  refine ⟨(h.cell (p:=⟨w.heap.size,0,none⟩) (by show w.heap.size < _;omega)).trans ?_,(h.cell (p:=⟨w.heap.size+1,0,none⟩) (by show w.heap.size+1 < _;omega)).trans ?_⟩ <;> (rw [hW3];simp [go_sem])
 have hs2:∀ o1 o2,((w.alloc o1).alloc o2).cell? ⟨sb,soff+d,none⟩=some (.int .i64 sg):=fun o1 o2=>(Below.cell (p:=⟨sb,soff+d,none⟩) (((Below.refl w.heap.size w).alloc (Nat.le_refl _) o1).alloc (by simp) o2) hsb).trans hsat
 have HLk:Hid (∀ w',w'.heap[bl]? = w.heap[bl]?->(Instr.lookup 88 (.map (some bl)) (.agg #[.bool y0,.bool y1,.bool y2,.bool y3,.bool y4,.bool y5,.int .i64 (c:Int),.int .i64 sg]) true).run Tryz.prog w'=.ok (.tuple #[(g0 kl).getD (.agg #[.bool false]),.bool (g0 kl).isSome]) w'):=fun w' h=>(hg0.kept h).look keyedLink Tryz.underlying88 (zeroAnswer _) hkl
 have HS6:Hid (∀ w',Below w.heap.size w w'->w'.cell? ⟨B,3,none⟩=some (.slice fo l.length fc)/\w'.cell? ⟨B,6,none⟩=some (.map (some bl))):=fun w' h=>⟨(hS.box.later h).c3,(hS.box.later h).c6⟩
 have hbl:bl < w.heap.size:=hg0.lt;have hdi:(d:Int) < ((2 ^ (aheadL l).length:Nat):Int):=by omega
 have HLi:Hid (∀ w',Below w4.heap.size w4 w'->Li8 w' (w.heap.size+1+1) y0 y1 y2 y3 y4 y5 (c:Int) sg):=fun w' h=>hli4.later (by omega) h
 unfold FoPost
 cases hgk:g0 kl with
 | some v=>
  obtain ⟨x',c',sg',b,hx'l,hkl',rfl,hall⟩:=hgl kl v hgk;have hinj:=keyedLink.inj hkl' (hlv ▸ hkl);obtain ⟨rfl,rfl,rfl⟩:=linkV_inj (hx'l.trans hxl.symm) hinj;have hbv:folR l x' (c:Int) y (d:Int)=b:=hall y (d:Int) hyl (htc y d hyl hdN) (by rw [<- hsgd];rfl)
  rw [hbv];have HLk2:Hid (∀ w',w'.heap[bl]? = w.heap[bl]?->(Instr.lookup 88 (.map (some bl)) (.agg #[.bool y0,.bool y1,.bool y2,.bool y3,.bool y4,.bool y5,.int .i64 (c:Int),.int .i64 sg']) true).run Tryz.prog w'=.ok (.tuple #[.agg #[.bool b],.bool true]) w'):=fun w' h=>by have:=HLk.out w' h;rw [hgk] at this;exact this
  have HFin:Hid (∀ w',Below w.heap.size w w'->Sk bs bl w w'/\SvOk Pz w0 w' B bs bl (n+1) va vr pv (.slice fo l.length fc) m ps l ho hc):=fun w' h=>⟨Sk.of h,(hS.below h).mono (Nat.le_succ _)⟩
  generalize ps.length=pn at *;generalize 2 ^ (aheadL l).length=N at *;generalize l.length=fn at *;clear HLk hS hgl hg0 hall hbv hT hV hx hy hsg htc hli4 hkl' hlv hkl hinj hgr4 hg3 hsix
  go_enter Tryz.func67,Tryz.ntmps67
  go_wp2_with fail
  rw [<- hW3];obtain ⟨u0,u1⟩:=HBx.out W3 (Below.refl _ _);obtain ⟨v0,v1⟩:=HBx.out w4 hk4;clear hW3
  go_region_held3 (fun w'=>w'.cell? ⟨w.heap.size,0,none⟩=some (.slice lo pn lc))
   (first | exact u0 | exact v0)
   (fail)
  have hbl4:w4.heap[bl]? = w.heap[bl]?:=hb4.block bl hbl;obtain ⟨_,q6⟩:=HS6.out w4 hb4;obtain ⟨i0,i1,i2,i3,i4,i5,i6,i7⟩:=HLi.out w4 (Below.refl _ _);clear u0 u1 v0 v1 hs2 HBx
  go_wp2_with fail
  go_cut [13,14] (fun u13 u14 w'=>∃ g13,u13=.pointer (some ⟨g13,0,none⟩)/\u14=.bool true/\Below w4.heap.size w4 w'/\w'.cell? ⟨g13,0,none⟩=some (.bool b))
  case first=>
   have hal:Below w4.heap.size w4 (w4.alloc (.cells #[.bool false] 170)):=(Below.refl _ _).alloc (Nat.le_refl _) _;have hlA:=HLk2.out w4.drew hbl4;have hlB:=HLk2.out (w4.alloc (.cells #[.bool false] 170)).drew ((hal.block bl (Nat.lt_of_lt_of_le hbl hb4.size)).trans hbl4);obtain ⟨_,q6'⟩:=HS6.out _ (hb4.trans (hal.mono hb4.size))
   obtain ⟨j0,j1,j2,j3,j4,j5,j6,j7⟩:=HLi.out _ hal
   go_region_law (fail)
   all_goals go_wp2_with fail
   all_goals go_meet
   all_goals exact ⟨_,rfl,rfl,((Below.refl _ _).alloc (Nat.le_refl _) _).drew,by simp [go_sem]⟩
  case rest=>
   obtain ⟨g13,rfl,rfl,hb5,d0⟩:=hcut;have hbF:=hb4.trans (hb5.mono hb4.size)
   go_wp2_with fail
   go_ret2
   obtain ⟨r1,r2⟩:=HFin.out _ hbF;exact ⟨rfl,r1,r2⟩
 | none=>
  have HLk2:Hid (∀ w',w'.heap[bl]? = w.heap[bl]?->(Instr.lookup 88 (.map (some bl)) (.agg #[.bool y0,.bool y1,.bool y2,.bool y3,.bool y4,.bool y5,.int .i64 (c:Int),.int .i64 sg]) true).run Tryz.prog w'=.ok (.tuple #[.agg #[.bool false],.bool false]) w'):=fun w' h=>by have:=HLk.out w' h;rw [hgk] at this;exact this
  have hfc:fcode l x (c:Int) y (d:Int)=0:=by
   unfold fcode;rw [if_neg (by rw [hxl,hyl];simp),if_neg (by rw [htc x c hxl hcN];simp)]
   exact htc y d hyl hdN
  have HFo:Hid (∀ w',Below w.heap.size w w'->Calls Tryz.prog 86 #[.slice fo l.length fc,.slice lo ps.length lc,.int .i64 (c:Int),.slice lo2 ps.length lc2,.int .i64 (d:Int)] w' fun e w''=>e=.returned (.tuple #[.bool (folR l x (c:Int) y (d:Int)),.int .i64 0])/\Below w'.heap.size w' w''):=fun w' h=>by
   have h0:=hS.bel.trans (h.mono hS.bel.size);have:=lfol_any _ _ _ l x y (c:Int) (d:Int) w' (Nat.lt_of_lt_of_le hB h0.size) (hT.below h0 hB) (hV.fo.below h0) (hx.below h) (hy.below h);rw [hfc] at this;exact this
  have hLO:LinkOk ps l kl (.agg #[.bool (folR l x (c:Int) y (d:Int))]):=⟨x,(c:Int),sg,_,hxl,hlv ▸ hkl,rfl,fun y' d' h1 h2 h3=>folR_sign (h1.trans hyl.symm) h2 (htc y d hyl hdN) (h3.trans (by rw [<- hsgd];rfl))⟩
  have HPut:Hid (∀ w',Below w.heap.size w w'->∃ w'',(Instr.mapUpdate 88 (.map (some bl)) (.agg #[.bool y0,.bool y1,.bool y2,.bool y3,.bool y4,.bool y5,.int .i64 (c:Int),.int .i64 sg]) (.agg #[.bool (folR l x (c:Int) y (d:Int))])).run Tryz.prog w'.drew=.ok () w''/\w'.grownBy w'' (some bl)/\Sk bs bl w w''/\SvOk Pz w0 w'' B bs bl (n+1) va vr pv (.slice fo l.length fc) m ps l ho hc):=fun w' h=>by
   have hm1:MapIs w'.drew 168 bl n g0:=hg0.kept (h.block _ hg0.lt);obtain ⟨w'',h1,h2,h3⟩:=hm1.put keyedLink Tryz.underlying88 (by unfold maxLen;omega) (val:=.agg #[.bool (folR l x (c:Int) y (d:Int))]) hkl (keyedLink.key hkl)
   have h4:w'.grownBy w'' (some bl):=⟨h3.os,h3.tape,h3.output,h3.size,h3.block⟩;exact ⟨w'',h1,h4,(Sk.of h).trans (Sk.grown h4 (.inr rfl)),(hS.below h).putL h4 hgl h2 hLO⟩
  generalize folR l x (c:Int) y (d:Int)=b at *;generalize ps.length=pn at *;generalize 2 ^ (aheadL l).length=N at *;generalize l.length=fn at *;clear HLk hS hgl hg0 hT hV hx hy hsg htc hli4 hlv hkl hgr4 hg3 hsix hLO hfc
  go_enter Tryz.func67,Tryz.ntmps67
  go_wp2_with fail
  rw [<- hW3];obtain ⟨u0,u1⟩:=HBx.out W3 (Below.refl _ _);obtain ⟨v0,v1⟩:=HBx.out w4 hk4;clear hW3
  go_region_held3 (fun w'=>w'.cell? ⟨w.heap.size,0,none⟩=some (.slice lo pn lc))
   (first | exact u0 | exact v0)
   (fail)
  have hbl4:w4.heap[bl]? = w.heap[bl]?:=hb4.block bl hbl;obtain ⟨_,q6⟩:=HS6.out w4 hb4;obtain ⟨i0,i1,i2,i3,i4,i5,i6,i7⟩:=HLi.out w4 (Below.refl _ _);clear u0 u1 v0 v1 hs2
  go_wp2_with fail
  go_cut [13,14] (fun u13 u14 w'=>∃ g13,u13=.pointer (some ⟨g13,0,none⟩)/\u14=.bool false/\Below w4.heap.size w4 w')
  case first=>
   have hal:Below w4.heap.size w4 (w4.alloc (.cells #[.bool false] 170)):=(Below.refl _ _).alloc (Nat.le_refl _) _;have hlA:=HLk2.out w4.drew hbl4;have hlB:=HLk2.out (w4.alloc (.cells #[.bool false] 170)).drew ((hal.block bl (Nat.lt_of_lt_of_le hbl hb4.size)).trans hbl4);obtain ⟨_,q6'⟩:=HS6.out _ (hb4.trans (hal.mono hb4.size))
   obtain ⟨j0,j1,j2,j3,j4,j5,j6,j7⟩:=HLi.out _ hal
   go_region_law (fail)
   all_goals go_wp2_with fail
   all_goals go_meet
   all_goals exact ⟨_,rfl,rfl,((Below.refl _ _).alloc (Nat.le_refl _) _).drew⟩
  case rest=>
   obtain ⟨g13,rfl,rfl,hb5⟩:=hcut;have hbF:=hb4.trans (hb5.mono hb4.size)
   have HSF:Hid (∀ w',Below wc.heap.size wc w'->w'.cell? ⟨B,3,none⟩=some (.slice fo fn fc)/\w'.cell? ⟨w.heap.size,0,none⟩=some (.slice lo pn lc)/\w'.cell? ⟨w.heap.size+1,0,none⟩=some (.slice lo2 pn lc2)):=fun w' h=>by
    have h1:=hb5.trans (h.mono hb5.size);obtain ⟨e1,e2⟩:=HBx.out w' (hk4.trans (h1.mono (by omega)))
    exact ⟨(HS6.out w' (hbF.trans (h.mono hbF.size))).1,e1,e2⟩
   have hfo:=HFo.out _ hbF.drew;have hB0:Below wc.heap.size wc wc:=Below.refl _ _
   go_wp2_with fail
   go_region_held3 (fun w'=>w'.cell? ⟨B,3,none⟩=some (.slice fo fn fc)/\w'.cell? ⟨w.heap.size,0,none⟩=some (.slice lo pn lc)/\w'.cell? ⟨w.heap.size+1,0,none⟩=some (.slice lo2 pn lc2))
    (first | exact HSF.out _ hb6 | exact HSF.out _ hB0.drew | exact HSF.out _ hB0)
    (first
     | (go_at_call 86;refine hfo.mono ?_;rintro e w6 ⟨rfl,hb6'⟩;have hb6:=hB0.drew.trans (hb6'.mono hB0.drew.size)))
   have hbG:=hbF.trans (hb6.mono hbF.size);obtain ⟨w7,hput,hg7,r1,r2⟩:=HPut.out _ hbG;obtain ⟨_,z6⟩:=HS6.out _ hbG;obtain ⟨k0,k1,k2,k3,k4,k5,k6,k7⟩:=HLi.out w6 (hb5.trans (hb6.mono hb5.size));have HR:Hid (Sk bs bl w w7/\SvOk Pz w0 w7 B bs bl (n+1) va vr pv (.slice fo fn fc) m ps l ho hc):=⟨r1,r2⟩;clear r1 r2 hg7 HPut
   go_wp2_with fail
   go_region_law (fail)
   all_goals go_wp2_with fail
   all_goals go_ret2
   all_goals exact ⟨rfl,HR.out.1,HR.out.2⟩
end Go.Proofs.YtfnobbpbmelgnaaGreatDoor
namespace Go.Proofs.YtfnobbpbmelgnaaGreatDoor
open Terms Tm
set_option maxHeartbeats 6400000
set_option maxRecDepth 20000
theorem sorted_rise {l:List Int} (h:l.Nodup):Rise (l.mergeSort leB):=by
 have hp:(l.mergeSort leB).Pairwise (fun x y=>leB x y=true):=List.pairwise_mergeSort (le:=leB) (by intro a b c;simp only [leB,decide_eq_true_eq];omega) (by intro a b;simp only [leB,Bool.or_eq_true,decide_eq_true_eq];omega) l
 have hn:(l.mergeSort leB).Nodup:=(List.mergeSort_perm l leB).nodup_iff.2 h;refine (hp.and hn).imp fun {a b} hab=>?_
 have h1:a <= b:=by simpa [leB] using hab.1
 have h2:a≠b:=hab.2;omega
theorem rise_length:∀ {l:List Int} {lo N:Int},Rise l->(∀ x∈l,lo <= x/\x < N)->lo <= N->(l.length:Int) <= N - lo
 | [],lo,N,_,_,h=>by simp;omega
 | x:: l,lo,N,h1,h2,_=>by
  obtain ⟨hx,t⟩:=List.pairwise_cons.1 h1;have h3:=h2 x (by simp)
  have:=rise_length (lo:=x+1) (N:=N) t (fun y hy=>⟨by have:=hx y hy;omega,(h2 y (by simp [hy])).2⟩) (by omega)
  simp only [List.length_cons];omega
theorem nodup_length {l:List Int} {N:Nat} (h:l.Nodup) (hi:∀ x∈l,0 <= x/\x < N):l.length <= N:=by
 have h1:=rise_length (lo:=0) (N:=N) (sorted_rise h) (fun x hx=>hi x ((List.mergeSort_perm l leB).mem_iff.1 hx)) (by omega)
 rw [List.length_mergeSort] at h1;omega
end Go.Proofs.YtfnobbpbmelgnaaGreatDoor
namespace Go.Proofs.YtfnobbpbmelgnaaGreatDoor
open Go.ChangeShapes Go.WideShapes Go.ChangeAt Go.RowKit Go.Deep Go.Maps
open Terms Tm
set_option maxHeartbeats 6400000
set_option maxRecDepth 20000
noncomputable def foTo (l:List (Int × Int)) (x:List Bool) (c:Int) (y:List Bool) (st:Int):Nat->List (Int × Int)
 | 0=>[]
 | k+1=>if folR l x c y (k:Int)=true then foTo l x c y st k++[(st,(k:Int))] else foTo l x c y st k
theorem foTo_len (l:List (Int × Int)) (x:List Bool) (c:Int) (y:List Bool) (st:Int):∀ k,(foTo l x c y st k).length <= k
 | 0=>Nat.le_refl _
 | k+1=>by
  rw [foTo];have:=foTo_len l x c y st k
  split
  ·rw [List.length_append,List.length_singleton];omega
  ·omega
noncomputable def behTo (m:Mo) (ps:List (List (Int × Int))) (l:List (Int × Int)) (code c:Int):Nat->List (Int × Int)
 | 0=>[]
 | i+1=>behTo m ps l code c i++foTo l (letL m ps code) c (letL m ps ((nextL m code).getD i 0)) ((nextL m code).getD i 0) (2 ^ (aheadL l).length)
noncomputable def behL (m:Mo) (ps:List (List (Int × Int))) (l:List (Int × Int)) (code c:Int):List (Int × Int):=behTo m ps l code c (nextL m code).length
theorem behTo_len {m:Mo} {ps:List (List (Int × Int))} {l:List (Int × Int)} (h:2 ^ (aheadL l).length <= 64) (code c:Int):∀ i,(behTo m ps l code c i).length <= i*64
 | 0=>Nat.le_refl _
 | i+1=>by
  rw [behTo,List.length_append];have:=behTo_len (m:=m) (ps:=ps) h code c i;have:=foTo_len l (letL m ps code) c (letL m ps ((nextL m code).getD i 0)) ((nextL m code).getD i 0) (2 ^ (aheadL l).length);omega
theorem nextL_st {m:Mo} (hm:mcode m=0) {x:Int} (hx:0 <= x/\x < prodTo m.vars m.vars.length) {y:Int} (hy:y∈nextL m x):0 <= y/\y < prodTo m.vars m.vars.length:=by
 have h1:=((upL_spec _).2 y).1 hy;unfold rawL at h1
 split at h1
 ·simp at h1;subst h1;exact hx
 ·obtain ⟨j,_,e⟩:=(rawTo_mem (Nat.le_refl _) y).1 h1
  exact ruleDo_state (mcode_vars hm) e
theorem nextL_len {m:Mo} (hm:mcode m=0) {x:Int} (hx:0 <= x/\x < prodTo m.vars m.vars.length):(nextL m x).length <= 4096:=by
 have h1:(nextL m x).Nodup:=by
  have:=(upL_spec (rawL m x)).1;exact List.Pairwise.imp (fun {a b} h=>by omega) this
 have h2:=(mcode_vars hm).prod (Nat.le_refl m.vars.length);have:=nodup_length (N:=(prodTo m.vars m.vars.length).toNat) h1 (fun y hy=>by have:=nextL_st hm hx hy;omega)
 omega
theorem Sk.after {bs bl:Nat} {wb w w':World} (h:Sk bs bl wb w) (hb:Below wb.heap.size w w'):Sk bs bl wb w':=
 ⟨hb.os.trans h.os,hb.tape.trans h.tape,hb.output.trans h.output,Nat.le_trans h.size hb.size,fun i hi h1 h2=>(hb.block i hi).trans (h.block i hi h1 h2)⟩
def Bx3 (w:World) (b:Nat) (x y z:Value):Prop:=(w.cell? ⟨b,0,none⟩=some x/\w.cell? ⟨b,1,none⟩=some y/\w.cell? ⟨b,2,none⟩=some z)/\RowTy w (.slice (some ⟨b,0,none⟩) 1 1) 140
theorem Bx3.new (w:World) (x y z:Value):Bx3 (w.alloc (.cells #[x,y,z] 140)) w.heap.size x y z:=by
 refine ⟨(St3.new w x y z _).2.1,fun a n c e=>?_⟩
 injection e with e _ _
 injection e with e
 subst e;exact ⟨_,_,(MapKept.heap_alloc w _).1⟩
theorem Bx3.sk {bs bl:Nat} {w w':World} {b:Nat} {x y z:Value} (h:Bx3 w b x y z) (hs:Sk bs bl w w') (hm:TwoMaps w bs bl):Bx3 w' b x y z:=
 ⟨⟨hs.cell hm h.1.1,hs.cell hm h.1.2.1,hs.cell hm h.1.2.2⟩,h.2.sk hs hm⟩
theorem Bx3.grown {w w':World} {b:Nat} {x y z:Value} {own:Option Nat} (h:Bx3 w b x y z) (hg:w.grownBy w' own) (ho:∀ g,own=some g->∃ cs fr,w.heap[g]? = some (.cells cs 97 fr)):Bx3 w' b x y z:=by
 obtain ⟨cs,fr,h1⟩:=h.2 _ _ _ rfl
 have e:∀ i v,w.cell? ⟨b,i,none⟩=some v->w'.cell? ⟨b,i,none⟩=some v:=fun i v hv=>by
  rw [World.cell?_of_block (hg.block b (Array.getElem?_eq_some_iff.1 h1).1 (fun e2=>by
   obtain ⟨cs',fr',h2⟩:=ho _ e2.symm;rw [h1] at h2
   injection h2 with h2
   injection h2 with _ h3 _
   exact absurd h3 (by decide)))]
  exact hv
 exact ⟨⟨e _ _ h.1.1,e _ _ h.1.2.1,e _ _ h.1.2.2⟩,h.2.grown hg (by decide) ho⟩
theorem Bx3.below {w w':World} {b:Nat} {x y z:Value} (h:Bx3 w b x y z) (hb:Below w.heap.size w w'):Bx3 w' b x y z:=by
 obtain ⟨cs,fr,h1⟩:=h.2 _ _ _ rfl;have hlt:b < w.heap.size:=(Array.getElem?_eq_some_iff.1 h1).1
 exact ⟨⟨(hb.cell (p:=⟨b,0,none⟩) hlt).trans h.1.1,(hb.cell (p:=⟨b,1,none⟩) hlt).trans h.1.2.1,(hb.cell (p:=⟨b,2,none⟩) hlt).trans h.1.2.2⟩,h.2.below hb⟩
theorem SpO.own {w:World} {base:Nat} {vo:Option Addr} {n cap:Nat} {x:List (Int × Int)} (h:SpO w base (.slice vo n cap) x) (o:Obj):∀ g,(Value.slice vo n cap).ownBlock=some g->base <= g/\∃ cs fr,(w.alloc o).heap[g]? = some (.cells cs 97 fr):=by
 intro g hg
 rcases h.2 with ⟨h0,_⟩ | ⟨g',cap',cur,h1,h2,h3,_⟩
 ·rw [h0] at hg;simp [Value.ownBlock] at hg
 ·rw [h1] at hg
  simp [Value.ownBlock] at hg
  subst hg;exact ⟨h2,cur,_,(Below.heap_alloc w o g' (Array.getElem?_eq_some_iff.1 h3).1).trans h3⟩
variable {Pz : Nat -> Prop}
theorem meets_in (w0 w:World) (B bs bl n:Nat) (va vr pv fv:Value) (m:Mo) (ps:List (List (Int × Int))) (l:List (Int × Int)) (ho:Option Addr) (hc:Nat) (code:Int) (c:Nat) (hI:-9223372036854775808 <= code/\code <= 9223372036854775807) (hB:0 < w0.heap.size) (hT:TabAt w0) (hV:TaskV w0 va vr pv fv m ps l) (hk:tkcode m ps l=0) (hS:SvOk Pz w0 w B bs bl n va vr pv fv m ps l ho hc) (hn:n+300000 < 1000000000000) (hcr:0 <= code/\code < prodTo m.vars m.vars.length) (hcN:c < 2 ^ (aheadL l).length) :
  Calls Tryz.prog 49 #[.pointer (some ⟨B,0,none⟩),.agg #[.int .i64 code,.int .i64 (c:Int)]] w fun e w'=>e=.returned (.tuple #[.int .i64 (metN l (letL m ps code) (c:Int)),.int .i64 0])/\Sk bs bl w w'/\Hid (SvOk Pz w0 w' B bs bl (n+1) va vr pv fv m ps l ho hc):=by
 obtain ⟨hp0,hl0⟩:=tk_zero hk;obtain ⟨hm0,_⟩:=pcode_m hp0;have hw:=wcode_yes hm0 hcr;obtain ⟨fo,fc,rfl,_⟩:=id hV.fo
 have htc:tcode l (letL m ps code) (c:Int)=0:=by
  refine tcode_ok (by rw [(tk_let hk hcr).2];exact hl0) fun hno=>?_
  unfold ClaimNo at hno;have:((2 ^ (aheadL l).length:Nat):Int)=(2:Int) ^ (aheadL l).length:=by push_cast;rfl
  rcases hno with hno | hno
  ·omega
  ·rw [<- this] at hno;omega
 obtain ⟨W1,hW1⟩:∃ W1,W1=w.alloc (.cells #[.int .i64 code,.int .i64 (c:Int)] 97):=⟨_,rfl⟩
 have hb1:Below w.heap.size w W1:=by rw [hW1];exact (Below.refl _ _).alloc (Nat.le_refl _) _
 have hs1:W1.cell? ⟨w.heap.size,0,none⟩=some (.int .i64 code)/\W1.cell? ⟨w.heap.size,1,none⟩=some (.int .i64 (c:Int)):=by rw [hW1];constructor <;> simp [go_sem]
 have hS1:=hS.below hb1;have hst:=stateOf_any w0 W1 B bs bl n va vr pv (.slice fo l.length fc) m ps l ho hc code hI hB hT hV hk hS1 (by omega)
 have hst2:Calls Tryz.prog 66 #[.pointer (some ⟨B,0,none⟩),.int .i64 code] W1 fun e w'=>∃ lo lc no nn nc so sn sc,e=.returned (.tuple #[.agg #[.slice lo ps.length lc,.slice no nn nc,.slice so sn sc],.int .i64 0])/\Hid (∀ w2,Below w'.heap.size w' w2->Sk bs bl w w2/\SvOk Pz w0 w2 B bs bl (n+1) va vr pv (.slice fo l.length fc) m ps l ho hc/\w2.cell? ⟨B,3,none⟩=some (.slice fo l.length fc)/\w2.cell? ⟨w.heap.size,0,none⟩=some (.int .i64 code)/\w2.cell? ⟨w.heap.size,1,none⟩=some (.int .i64 (c:Int))/\Calls Tryz.prog 68 #[.slice fo l.length fc,.slice lo ps.length lc,.int .i64 (c:Int)] w2 fun e w3=>e=.returned (.tuple #[.int .i64 (metN l (letL m ps code) (c:Int)),.int .i64 0])/\Below w2.heap.size w2 w3):=hst.mono fun e w' ⟨h1,h2,h3⟩=>by
  rcases h3 with ⟨_,lo,lc,no,nc,so,sc,h4,h5⟩ | ⟨h4,_⟩
  ·refine ⟨lo,lc,no,_,nc,so,_,sc,h4,fun w2 hb2=>?_⟩
   have hsk:=(h1.trans (Sk.of hb2));have hS2:=h2.out.below hb2;obtain ⟨lo',lc',no',nc',so',sc',e5,hx,_⟩:=h5.out
   injection e5 with e5
   simp only [Array.mk.injEq,List.cons.injEq,and_true] at e5;rw [<- e5.1] at hx;have h0:=hS2.bel;have hme:=lmeets_any (.slice fo l.length fc) (.slice lo ps.length lc) l (letL m ps code) (c:Int) w2 (Nat.lt_of_lt_of_le hB h0.size) (hT.below h0 hB) (hV.fo.below h0) (hx.below hb2);rw [htc] at hme
   exact ⟨(Sk.of hb1).trans hsk,hS2,hS2.box.c3,hsk.cell hS1.two hs1.1,hsk.cell hS1.two hs1.2,hme⟩
  ·exact absurd hw h4
 clear hst hS hT hV hk hw hS1 htc hp0 hl0 hm0;have HW1:Hid (W1=w.alloc (.cells #[.int .i64 code,.int .i64 (c:Int)] 97)):=hW1;generalize metN l (letL m ps code) (c:Int)=mm at *;generalize ps.length=pn at *;generalize l.length=fn at *
 go_enter Tryz.func49,Tryz.ntmps49
 go_wp2_with (first | (go_at_call 66;rw [<- hW1];refine hst2.mono ?_;rintro e w2 ⟨lo,lc,no,nn,nc,so,sn,sc,rfl,HR⟩))
 have hb2:∀ o,Below w2.heap.size w2 (w2.alloc o):=fun o=>(Below.refl _ _).alloc (Nat.le_refl _) o
 generalize hw3:w2.alloc (.cells #[.slice lo pn lc,.slice no nn nc,.slice so sn sc] 140)=w3 at *;have hb3:Below w2.heap.size w2 w3:=by rw [<- hw3];exact hb2 _
 have q0:w3.cell? ⟨w2.heap.size,0,none⟩=some (.slice lo pn lc):=by rw [<- hw3];simp [go_sem]
 have hlt3:w2.heap.size < w3.heap.size:=World.block_lt_of_cell? _ _ q0
 have HSF:Hid (∀ w',Below w3.heap.size w3 w'->w'.cell? ⟨B,3,none⟩=some (.slice fo fn fc)/\w'.cell? ⟨w2.heap.size,0,none⟩=some (.slice lo pn lc)/\w'.cell? ⟨w.heap.size,1,none⟩=some (.int .i64 (c:Int))):=fun w' h=>by
  obtain ⟨_,_,q3,_,q1,_⟩:=HR.out w' (hb3.trans (h.mono hb3.size));exact ⟨q3,(h.cell (p:=⟨w2.heap.size,0,none⟩) hlt3).trans q0,q1⟩
 have hB0:Below w3.heap.size w3 w3:=Below.refl _ _;obtain ⟨_,_,_,_,_,hme⟩:=HR.out w3.drew hb3.drew;clear hw3 hb2 q0 hst2 hs1 hW1
 go_region_held3 (fun w'=>w'.cell? ⟨B,3,none⟩=some (.slice fo fn fc)/\w'.cell? ⟨w2.heap.size,0,none⟩=some (.slice lo pn lc)/\w'.cell? ⟨w.heap.size,1,none⟩=some (.int .i64 (c:Int)))
  (first | exact HSF.out _ hb6 | exact HSF.out _ hB0.drew | exact HSF.out _ hB0)
  (first | (go_at_call 68;refine hme.mono ?_;rintro e w6 ⟨rfl,hb6'⟩;have hb6:=hB0.drew.trans (hb6'.mono hB0.drew.size)))
 go_wp2_with fail
 go_ret2
 obtain ⟨r1,r2,_⟩:=HR.out _ (hb3.trans (hb6.mono hb3.size));exact ⟨rfl,r1,r2⟩
end Go.Proofs.YtfnobbpbmelgnaaGreatDoor
namespace Go.Proofs.YtfnobbpbmelgnaaGreatDoor
open Go.ChangeShapes Go.WideShapes Go.ChangeAt Go.RowKit Go.Deep Go.Maps
open Terms Tm
set_option maxHeartbeats 6400000
set_option maxRecDepth 20000
variable {Pz : Nat -> Prop}
def BhPost (Pz:Nat->Prop) (w0 w:World) (B bs bl n:Nat) (va vr pv fv:Value) (m:Mo) (ps:List (List (Int × Int))) (l:List (Int × Int)) (ho:Option Addr) (hc:Nat) (code c:Int) (e:Ending) (w':World):Prop:=
 Sk bs bl w w'/\Hid (SvOk Pz w0 w' B bs bl (n+300000) va vr pv fv m ps l ho hc)/\((wcode m code=0/\∃ so sc,e=.returned (.tuple #[.slice so (behL m ps l code c).length sc,.int .i64 0])/\Hid (SpO w' w.heap.size (.slice so (behL m ps l code c).length sc) (behL m ps l code c)))\/(wcode m code≠0/\e=.returned (.tuple #[.slice none 0 0,.int .i64 (wcode m code)])))
theorem behind_in (w0 w:World) (B bs bl n:Nat) (va vr pv fv:Value) (m:Mo) (ps:List (List (Int × Int))) (l:List (Int × Int)) (ho:Option Addr) (hc:Nat) (code:Int) (c:Nat) (hI:-9223372036854775808 <= code/\code <= 9223372036854775807) (hB:0 < w0.heap.size) (hT:TabAt w0) (hV:TaskV w0 va vr pv fv m ps l) (hk:tkcode m ps l=0) (hS:SvOk Pz w0 w B bs bl n va vr pv fv m ps l ho hc) (hn:n+300000 < 1000000000000) (hcr:0 <= code/\code < prodTo m.vars m.vars.length) (hcN:c < 2 ^ (aheadL l).length) :
  Calls Tryz.prog 48 #[.pointer (some ⟨B,0,none⟩),.agg #[.int .i64 code,.int .i64 (c:Int)]] w (BhPost Pz w0 w B bs bl n va vr pv fv m ps l ho hc code (c:Int)):=by
 obtain ⟨hp0,hl0⟩:=tk_zero hk;obtain ⟨hm0,_⟩:=pcode_m hp0;obtain ⟨_,_,_,_,h6⟩:=lcode_zero hl0;have hw:=wcode_yes hm0 hcr;have hpr:=((mcode_vars hm0).prod (Nat.le_refl m.vars.length)).2;have hN64:2 ^ (aheadL l).length <= 64:=Nat.pow_le_pow_right (show 0 < 2 by decide) h6
 have hnn:=nextL_len hm0 hcr;obtain ⟨W1,hW1⟩:∃ W1,W1=w.alloc (.cells #[.int .i64 code,.int .i64 (c:Int)] 97):=⟨_,rfl⟩
 have hb1:Below w.heap.size w W1:=by rw [hW1];exact (Below.refl _ _).alloc (Nat.le_refl _) _
 have hs1:W1.cell? ⟨w.heap.size,0,none⟩=some (.int .i64 code)/\W1.cell? ⟨w.heap.size,1,none⟩=some (.int .i64 (c:Int)):=by rw [hW1];constructor <;> simp [go_sem]
 have hS1:=hS.below hb1;have hst:=stateOf_any w0 W1 B bs bl n va vr pv fv m ps l ho hc code hI hB hT hV hk hS1 (by omega)
 have hst2:Calls Tryz.prog 66 #[.pointer (some ⟨B,0,none⟩),.int .i64 code] W1 fun e w'=>∃ lo lc no nc so sc,e=.returned (.tuple #[.agg #[.slice lo ps.length lc,.slice no (nextL m code).length nc,.slice so (2 ^ (aheadL l).length) sc],.int .i64 0])/\Hid (Sk bs bl w w'/\SvOk Pz w0 w' B bs bl (n+1) va vr pv fv m ps l ho hc/\StOk Pz w' m ps l code (.agg #[.slice lo ps.length lc,.slice no (nextL m code).length nc,.slice so (2 ^ (aheadL l).length) sc]))/\Hid (w'.cell? ⟨w.heap.size,0,none⟩=some (.int .i64 code)/\w'.cell? ⟨w.heap.size,1,none⟩=some (.int .i64 (c:Int))):=hst.mono fun e w' ⟨h1,h2,h3⟩=>by
  rcases h3 with ⟨_,lo,lc,no,nc,so,sc,h4,h5⟩ | ⟨h4,_⟩
  ·exact ⟨lo,lc,no,nc,so,sc,h4,⟨(Sk.of hb1).trans h1,h2.out,h5.out⟩,h1.cell hS1.two hs1.1,h1.cell hS1.two hs1.2⟩
  ·exact absurd hw h4
 have HSt:Hid (∀ (w':World) (n':Nat) (c':Int),n' < 1000000000000->0 <= c'/\c' < prodTo m.vars m.vars.length->SvOk Pz w0 w' B bs bl n' va vr pv fv m ps l ho hc->Calls Tryz.prog 66 #[.pointer (some ⟨B,0,none⟩),.int .i64 c'] w' fun e w''=>∃ lo lc no nn2 nc so sc,e=.returned (.tuple #[.agg #[.slice lo ps.length lc,.slice no nn2 nc,.slice so (2 ^ (aheadL l).length) sc],.int .i64 0])/\Hid (Sk bs bl w' w''/\SvOk Pz w0 w'' B bs bl (n' + 1) va vr pv fv m ps l ho hc/\StOk Pz w'' m ps l c' (.agg #[.slice lo ps.length lc,.slice no nn2 nc,.slice so (2 ^ (aheadL l).length) sc]))):=fun w' n' c' hn' hc' hS'=>(stateOf_any w0 w' B bs bl n' va vr pv fv m ps l ho hc c' (by omega) hB hT hV hk hS' hn').mono fun e w'' ⟨h1,h2,h3⟩=>by
  rcases h3 with ⟨_,lo,lc,no,nc,so,sc,h4,h5⟩ | ⟨h4,_⟩
  ·exact ⟨lo,lc,no,_,nc,so,sc,h4,h1,h2.out,h5.out⟩
  ·exact absurd (wcode_yes hm0 hc') h4
 have HFo:Hid (∀ (w':World) (n' d:Nat) (c':Int) (lo no so lo2 no2 so2:Option Addr) (lc nn nc sc lc2 nn2 nc2 sc2:Nat),n' < 1000000000000->d < 2 ^ (aheadL l).length->0 <= c'/\c' < prodTo m.vars m.vars.length->SvOk Pz w0 w' B bs bl n' va vr pv fv m ps l ho hc->StOk Pz w' m ps l code (.agg #[.slice lo ps.length lc,.slice no nn nc,.slice so (2 ^ (aheadL l).length) sc])->StOk Pz w' m ps l c' (.agg #[.slice lo2 ps.length lc2,.slice no2 nn2 nc2,.slice so2 (2 ^ (aheadL l).length) sc2])->Calls Tryz.prog 67 #[.pointer (some ⟨B,0,none⟩),.agg #[.slice lo ps.length lc,.slice no nn nc,.slice so (2 ^ (aheadL l).length) sc],.int .i64 (c:Int),.agg #[.slice lo2 ps.length lc2,.slice no2 nn2 nc2,.slice so2 (2 ^ (aheadL l).length) sc2],.int .i64 (d:Int)] w' fun e w''=>e=.returned (.tuple #[.bool (folR l (letL m ps code) (c:Int) (letL m ps c') (d:Int)),.int .i64 0])/\Hid (Sk bs bl w' w''/\SvOk Pz w0 w'' B bs bl (n' + 1) va vr pv fv m ps l ho hc)):=fun w' n' d c' lo no so lo2 no2 so2 lc nn nc sc lc2 nn2 nc2 sc2 hn' hd hc' hS' hA hB'=>by
  obtain ⟨_,_,_,_,_,_,e1,hx,_,_,_⟩:=hA;obtain ⟨_,_,_,_,_,_,e2,hy,_,hz,_⟩:=hB';simp only [Value.agg.injEq,Array.mk.injEq,List.cons.injEq,Value.slice.injEq,and_true,true_and] at e1 e2;obtain ⟨⟨rfl,rfl⟩,⟨rfl,rfl,rfl⟩,rfl,rfl⟩:=e1;obtain ⟨⟨rfl,rfl⟩,⟨rfl,rfl,rfl⟩,rfl,rfl⟩:=e2
  exact (follows_any w0 w' B bs bl n' va vr pv fv m ps l ho hc (letL m ps code) (letL m ps c') c d _ _ _ _ _ _ _ _ _ _ _ _ _ _ hB hT hV hk hS' hn' hx hy hz (tk_let hk hcr).2 (tk_let hk hc').2 hcN hd).mono fun e w'' ⟨h1,h2,h3⟩=>⟨h1,h2,h3.out⟩
 have HCl:Hid (∀ (w':World) (n':Nat),SvOk Pz w0 w' B bs bl n' va vr pv fv m ps l ho hc->Calls Tryz.prog 46 #[.pointer (some ⟨B,0,none⟩)] w' fun e w''=>e=.returned (.int .i64 ((2 ^ (aheadL l).length:Nat):Int))/\w''=w'):=fun w' n' h=>claims_any B _ _ _ _ ho _ hc bs bl w' h6 h.box
 have HNx:Hid (∀ i,i < (nextL m code).length->0 <= (nextL m code).getD i 0/\(nextL m code).getD i 0 < prodTo m.vars m.vars.length):=fun i hi=>nextL_st hm0 hcr (by rw [List.getD_eq_getElem?_getD,List.getElem?_eq_getElem hi];exact List.getElem_mem hi)
 have HBt:Hid (∀ i,behTo m ps l code (c:Int) (i+1)=behTo m ps l code (c:Int) i++foTo l (letL m ps code) (c:Int) (letL m ps ((nextL m code).getD i 0)) ((nextL m code).getD i 0) (2 ^ (aheadL l).length)):=fun _=>rfl
 have HB0:Hid (behTo m ps l code (c:Int) 0=[]):=rfl;have HBl:Hid (∀ i,(behTo m ps l code (c:Int) i).length <= i*64):=behTo_len hN64 code (c:Int)
 have HInt:Hid (∀ (w':World) (lo no so:Option Addr) (lc nc sc:Nat),StOk Pz w' m ps l code (.agg #[.slice lo ps.length lc,.slice no (nextL m code).length nc,.slice so (2 ^ (aheadL l).length) sc])->∀ i,i < (nextL m code).length->∃ b off,no=some ⟨b,off,none⟩/\w'.cell? ⟨b,off+i,none⟩=some (.int .i64 ((nextL m code).getD i 0))):=fun w' lo no so lc nc sc hA i hi=>by
  obtain ⟨_,_,_,_,_,_,e1,_,hx,_,_⟩:=hA;simp only [Value.agg.injEq,Array.mk.injEq,List.cons.injEq,Value.slice.injEq,and_true,true_and] at e1;obtain ⟨⟨rfl,rfl⟩,⟨rfl,rfl⟩,rfl,rfl⟩:=e1;obtain ⟨ao,cap,e2,h1⟩:=hx
  injection e2 with e2 _ _
  subst e2;obtain ⟨b,off,rfl,_,hat⟩:=h1 (by intro e;rw [e] at hi;simp at hi)
  exact ⟨b,off,rfl,hat i hi⟩
 have hw0:w0.heap.size <= w.heap.size:=hS.bel.size;have hBlt:B < w.heap.size:=hS.box.lt;unfold BhPost behL;have HW:Hid (wcode m code=0):=hw;generalize (nextL m code).length=nn at *;generalize behTo m ps l code (c:Int)=bt at *;generalize m.vars.length=vn at *;generalize hpn:ps.length=pn at *;generalize 2 ^ (aheadL l).length=N at *
 clear hst hS hS1 hT hV hk hp0 hl0 hm0 h6 hw hpn hs1 hcN;subst hW1
 go_enter Tryz.func48,Tryz.ntmps48
 go_wp2_with (first | (go_at_call 66;refine hst2.mono ?_;rintro e w2 ⟨lo,lc,no,nc,so,sc,rfl,HR,HC⟩))
 obtain ⟨hsk2,hsv2,hso2⟩:=HR.out;obtain ⟨hc0,hc1⟩:=HC.out;have hb2:Below w2.heap.size w2 (w2.alloc (.cells #[.slice lo pn lc,.slice no nn nc,.slice so N sc] 140)):=(Below.refl _ _).alloc (Nat.le_refl _) _;have hbx:=Bx3.new w2 (.slice lo pn lc) (.slice no nn nc) (.slice so N sc)
 have hzb:(w2.alloc (.cells #[.slice lo pn lc,.slice no nn nc,.slice so N sc] 140)).heap.size=w2.heap.size+1:=by simp
 have hskb:=hsk2.trans (Sk.of (bs:=bs) (bl:=bl) hb2);have hsvb:=hsv2.below hb2;have hsob:=hso2.below hb2;have hsz2:=hsk2.size;have hcb1:(w2.alloc (.cells #[.slice lo pn lc,.slice no nn nc,.slice so N sc] 140)).cell? ⟨w.heap.size,1,none⟩=some (.int .i64 (c:Int)):=(hb2.cell (p:=⟨w.heap.size,1,none⟩) (World.block_lt_of_cell? _ _ hc1)).trans hc1
 generalize w2.alloc (.cells #[.slice lo pn lc,.slice no nn nc,.slice so N sc] 140)=Wb at *;have htw:=hsvb.two;have HTw:Hid (TwoMaps Wb bs bl):=htw;have HSob:Hid (∀ w',Sk bs bl Wb w'->StOk Pz w' m ps l code (.agg #[.slice lo pn lc,.slice no nn nc,.slice so N sc])):=fun w' h=>hsob.sk h htw
 have HBxb:Hid (∀ w',Sk bs bl Wb w'->(w'.cell? ⟨w2.heap.size,0,none⟩=some (.slice lo pn lc)/\w'.cell? ⟨w2.heap.size,1,none⟩=some (.slice no nn nc)/\w'.cell? ⟨w2.heap.size,2,none⟩=some (.slice so N sc))/\w'.cell? ⟨w.heap.size,1,none⟩=some (.int .i64 (c:Int))):=fun w' h=>⟨(hbx.sk h htw).1,h.cell htw hcb1⟩
 have HSvb:Hid (SvOk Pz w0 Wb B bs bl (n+1) va vr pv fv m ps l ho hc):=hsvb;have HSkb:Hid (Sk bs bl w Wb):=hskb;clear hst2 HR HC hsk2 hsv2 hso2 hc0 hc1 hb2 hbx hskb hsvb hsob hcb1 htw
 go_loopw [8,29] (fun u i wr=>∃ k:Nat,k <= nn/\i=.int .i64 k/\(∃ po pk pc,u=.slice po pk pc/\pk <= k*64/\Hid ((bt k).length=pk/\SpO wr Wb.heap.size (.slice po pk pc) (bt k)))/\Hid (Sk bs bl Wb wr/\SvOk Pz w0 wr B bs bl (n+1+k*65) va vr pv fv m ps l ho hc)) (fun _ i _=>nn - (intOf i).toNat)
 case atStart=>exact ⟨0,Nat.zero_le _,rfl,⟨none,0,0,rfl,Nat.zero_le _,by rw [HB0.out];rfl,by rw [HB0.out];exact SpO.nil _ _⟩,Sk.refl _ _ _,HSvb.out⟩
 case round=>
  obtain ⟨k,hkn,rfl,⟨po,pk,pc,rfl,hpk,HSp⟩,HSS⟩:=hrel
  by_cases hlt:k < nn
  ·obtain ⟨hskr,hsvr⟩:=HSS.out
   obtain ⟨nb,noff,rfl,hcell⟩:=HInt.out wr lo no so lc nc sc (HSob.out wr hskr) k hlt;have hin:=HNx.out k hlt;have hst:=HSt.out wr (n+1+k*65) _ (by omega) hin hsvr
   have hki:(k:Int) < (nn:Int):=by omega
   have HBk:=(show Hid _ from HBt.out k)
   have HSpk:Hid (∀ w',Sk bs bl wr w'->SpO w' Wb.heap.size (.slice po pk pc) (bt k)):=fun w' h=>HSp.out.2.sk h hsvr.two
   have HSl:Hid ((bt k).length=pk):=HSp.out.1
   have HFk:Hid (∀ (w':World) (n' d:Nat) (lo2 no2 so2:Option Addr) (lc2 nn2 nc2 sc2:Nat),n' < 1000000000000->d < N->SvOk Pz w0 w' B bs bl n' va vr pv fv m ps l ho hc->Sk bs bl Wb w'->StOk Pz w' m ps l ((nextL m code).getD k 0) (.agg #[.slice lo2 pn lc2,.slice no2 nn2 nc2,.slice so2 N sc2])->Calls Tryz.prog 67 #[.pointer (some ⟨B,0,none⟩),.agg #[.slice lo pn lc,.slice (some ⟨nb,noff,none⟩) nn nc,.slice so N sc],.int .i64 (c:Int),.agg #[.slice lo2 pn lc2,.slice no2 nn2 nc2,.slice so2 N sc2],.int .i64 (d:Int)] w' fun e w''=>e=.returned (.tuple #[.bool (folR l (letL m ps code) (c:Int) (letL m ps ((nextL m code).getD k 0)) (d:Int)),.int .i64 0])/\Hid (Sk bs bl w' w''/\SvOk Pz w0 w'' B bs bl (n' + 1) va vr pv fv m ps l ho hc)):=fun w' n' d lo2 no2 so2 lc2 nn2 nc2 sc2 h1 h2 h3 h4 h5=>HFo.out w' n' d _ lo _ so lo2 no2 so2 lc nn nc sc lc2 nn2 nc2 sc2 h1 h2 hin h3 (HSob.out w' h4) h5
   have HF0:Hid (foTo l (letL m ps code) (c:Int) (letL m ps ((nextL m code).getD k 0)) ((nextL m code).getD k 0) 0=[]):=rfl
   have HFS:Hid (∀ d:Nat,foTo l (letL m ps code) (c:Int) (letL m ps ((nextL m code).getD k 0)) ((nextL m code).getD k 0) (d+1)=if folR l (letL m ps code) (c:Int) (letL m ps ((nextL m code).getD k 0)) (d:Int)=true then foTo l (letL m ps code) (c:Int) (letL m ps ((nextL m code).getD k 0)) ((nextL m code).getD k 0) d++[((nextL m code).getD k 0,(d:Int))] else foTo l (letL m ps code) (c:Int) (letL m ps ((nextL m code).getD k 0)) ((nextL m code).getD k 0) d):=fun _=>rfl
   have HFl:Hid (∀ d,(foTo l (letL m ps code) (c:Int) (letL m ps ((nextL m code).getD k 0)) ((nextL m code).getD k 0) d).length <= d):=foTo_len _ _ _ _ _
   have HStk:Hid (∀ (w' w'':World) (v:Value),StOk Pz w' m ps l ((nextL m code).getD k 0) v->TwoMaps w' bs bl->Sk bs bl w' w''->StOk Pz w'' m ps l ((nextL m code).getD k 0) v):=fun w' w'' v h1 h2 h3=>h1.sk h3 h2
   have HStg:Hid (∀ (w' w'':World) (v:Value) (own:Option Nat),StOk Pz w' m ps l ((nextL m code).getD k 0) v->w'.grownBy w'' own->(∀ g,own=some g->∃ cs fr,w'.heap[g]? = some (.cells cs 97 fr))->StOk Pz w'' m ps l ((nextL m code).getD k 0) v):=fun w' w'' v own h1 h2 h3=>h1.grown h2 h3
   have HStb:Hid (∀ (w':World) (v:Value) (o:Obj),StOk Pz w' m ps l ((nextL m code).getD k 0) v->StOk Pz (w'.alloc o) m ps l ((nextL m code).getD k 0) v):=fun w' v o h1=>h1.below ((Below.refl _ _).alloc (Nat.le_refl _) o)
   generalize foTo l (letL m ps code) (c:Int) (letL m ps ((nextL m code).getD k 0)) ((nextL m code).getD k 0)=ft at *;generalize hfr:(fun d:Nat=>folR l (letL m ps code) (c:Int) (letL m ps ((nextL m code).getD k 0)) (d:Int))=fr at *
   have HFr:Hid (∀ d:Nat,folR l (letL m ps code) (c:Int) (letL m ps ((nextL m code).getD k 0)) (d:Int)=fr d):=fun d=>by rw [<- hfr]
   generalize hstk:(fun (w':World) (v:Value)=>StOk Pz w' m ps l ((nextL m code).getD k 0) v)=SK at *
   have HSK:Hid (∀ (w':World) (v:Value),StOk Pz w' m ps l ((nextL m code).getD k 0) v↔SK w' v):=fun w' v=>by rw [<- hstk]
   clear hfr hstk
   have hst':Calls Tryz.prog 66 #[.pointer (some ⟨B,0,none⟩),.int .i64 ((nextL m code).getD k 0)] wr fun e w''=>∃ lo lc no nn2 nc so sc,e=.returned (.tuple #[.agg #[.slice lo pn lc,.slice no nn2 nc,.slice so N sc],.int .i64 0])/\Hid (Sk bs bl wr w''/\SvOk Pz w0 w'' B bs bl (n+1+k*65+1) va vr pv fv m ps l ho hc/\SK w'' (.agg #[.slice lo pn lc,.slice no nn2 nc,.slice so N sc])):=hst.mono fun e w'' ⟨a1,a2,a3,a4,a5,a6,a7,h1,h2⟩=>⟨a1,a2,a3,a4,a5,a6,a7,h1,h2.out.1,h2.out.2.1,(HSK.out _ _).1 h2.out.2.2⟩
   clear hst HInt HSt HNx HBt HB0;generalize (nextL m code).getD k 0=cd at *;clear hsvr HSp
   go_wp2_with (first | (go_at_call 66;refine hst'.mono ?_;rintro e w3 ⟨lo2,lc2,no2,nn2,nc2,so2,sc2,rfl,HR3⟩;have hcl:=HCl.out _ _ (HR3.out.2.1.below ((Below.refl w3.heap.size w3).alloc (Nat.le_refl _) (.cells #[.slice lo2 pn lc2,.slice no2 nn2 nc2,.slice so2 N sc2] 140)))) | (go_at_call 46;refine hcl.mono ?_;rintro e w4 ⟨rfl,hw4⟩))
   have hbA:Below w3.heap.size w3 (w3.alloc (.cells #[.slice lo2 pn lc2,.slice no2 nn2 nc2,.slice so2 N sc2] 140)):=(Below.refl _ _).alloc (Nat.le_refl _) _
   have HIn:Hid (SpO (w3.alloc (.cells #[.slice lo2 pn lc2,.slice no2 nn2 nc2,.slice so2 N sc2] 140)) Wb.heap.size (.slice po pk pc) (bt k)/\Sk bs bl Wb (w3.alloc (.cells #[.slice lo2 pn lc2,.slice no2 nn2 nc2,.slice so2 N sc2] 140))/\SvOk Pz w0 (w3.alloc (.cells #[.slice lo2 pn lc2,.slice no2 nn2 nc2,.slice so2 N sc2] 140)) B bs bl (n+1+k*65+1) va vr pv fv m ps l ho hc/\SK (w3.alloc (.cells #[.slice lo2 pn lc2,.slice no2 nn2 nc2,.slice so2 N sc2] 140)) (.agg #[.slice lo2 pn lc2,.slice no2 nn2 nc2,.slice so2 N sc2])/\Bx3 (w3.alloc (.cells #[.slice lo2 pn lc2,.slice no2 nn2 nc2,.slice so2 N sc2] 140)) w3.heap.size (.slice lo2 pn lc2) (.slice no2 nn2 nc2) (.slice so2 N sc2)):=
    ⟨(HSpk.out w3 HR3.out.1).later hbA (Nat.le_refl _),(hskr.trans HR3.out.1).trans (Sk.of hbA),HR3.out.2.1.below hbA,(HSK.out _ _).1 (HStb.out _ _ _ ((HSK.out _ _).2 HR3.out.2.2)),Bx3.new _ _ _ _⟩
   clear HR3 HSpk hst' hcl hbA HStb;generalize w3.alloc (.cells #[.slice lo2 pn lc2,.slice no2 nn2 nc2,.slice so2 N sc2] 140)=Wc at *;have HSKk:Hid (∀ (w' w'':World) (v:Value),SK w' v->TwoMaps w' bs bl->Sk bs bl w' w''->SK w'' v):=fun w' w'' v h1 h2 h3=>(HSK.out _ _).1 (HStk.out w' w'' v ((HSK.out _ _).2 h1) h2 h3)
   have HSKg:Hid (∀ (w' w'':World) (v:Value) (own:Option Nat),SK w' v->w'.grownBy w'' own->(∀ g,own=some g->∃ cs fr,w'.heap[g]? = some (.cells cs 97 fr))->SK w'' v):=fun w' w'' v own h1 h2 h3=>(HSK.out _ _).1 (HStg.out w' w'' v own ((HSK.out _ _).2 h1) h2 h3)
   have HSKa:Hid (∀ (w':World) (v:Value) (o:Obj),SK w' v->SK (w'.alloc o) v):=fun w' v o h1=>HSKg.out w' (w'.alloc o) v none h1 (World.grownBy_alloc w' o none) (fun g e=>by simp at e)
   have HFk2:Hid (∀ (w':World) (n' d:Nat),n' < 1000000000000->d < N->SvOk Pz w0 w' B bs bl n' va vr pv fv m ps l ho hc->Sk bs bl Wb w'->SK w' (.agg #[.slice lo2 pn lc2,.slice no2 nn2 nc2,.slice so2 N sc2])->Calls Tryz.prog 67 #[.pointer (some ⟨B,0,none⟩),.agg #[.slice lo pn lc,.slice (some ⟨nb,noff,none⟩) nn nc,.slice so N sc],.int .i64 (c:Int),.agg #[.slice lo2 pn lc2,.slice no2 nn2 nc2,.slice so2 N sc2],.int .i64 (d:Int)] w' fun e w''=>e=.returned (.tuple #[.bool (fr d),.int .i64 0])/\Hid (Sk bs bl w' w''/\SvOk Pz w0 w'' B bs bl (n' + 1) va vr pv fv m ps l ho hc)):=fun w' n' d h1 h2 h3 h4 h5=>by
    have:=HFk.out w' n' d lo2 no2 so2 lc2 nn2 nc2 sc2 h1 h2 h3 h4 ((HSK.out _ _).2 h5);rw [HFr.out] at this;exact this
   have HFS2:Hid (∀ d:Nat,ft (d+1)=if fr d=true then ft d++[(cd,(d:Int))] else ft d):=fun d=>by
    have:=HFS.out d;rw [HFr.out] at this;exact this
   clear HFk HFS HFr HSK HStk HStg HFo
   go_loopw [8,44] (fun u i wr2=>∃ d:Nat,d <= N/\i=.int .i64 d/\(∃ po pk2 pc,u=.slice po pk2 pc/\pk2 <= pk+d/\Hid ((bt k++ft d).length=pk2/\SpO wr2 Wb.heap.size (.slice po pk2 pc) (bt k++ft d)))/\Hid (Sk bs bl Wb wr2/\SvOk Pz w0 wr2 B bs bl (n+1+k*65+1+d) va vr pv fv m ps l ho hc/\SK wr2 (.agg #[.slice lo2 pn lc2,.slice no2 nn2 nc2,.slice so2 N sc2])/\Bx3 wr2 w3.heap.size (.slice lo2 pn lc2) (.slice no2 nn2 nc2) (.slice so2 N sc2))) (fun _ i _=>N - (intOf i).toNat)
   case atStart=>exact ⟨0,Nat.zero_le _,rfl,⟨po,pk,pc,rfl,Nat.le_refl _,by rw [HF0.out,List.append_nil];exact HSl.out,by rw [HF0.out,List.append_nil];exact HIn.out.1⟩,HIn.out.2⟩
   case round=>
    obtain ⟨d,hdN,rfl,⟨po2,pk2,pc2,rfl,hpk2,HSp2⟩,HS2⟩:=hrel
    by_cases hd:d < N
    ·obtain ⟨hsk2,hsv2,hSK2,hbx2⟩:=HS2.out
     have hfo:=HFk2.out _ (n+1+k*65+1+d) d (by omega) hd hsv2 hsk2 hSK2
     obtain ⟨⟨x0,x1,x2⟩,x3⟩:=HBxb.out _ hsk2;obtain ⟨⟨z0,z1,z2⟩,_⟩:=id hbx2;have htw2:=hsv2.two;have HE:=(show Hid _ from HFS2.out d)
     have HNx2:Hid (∀ w',Sk bs bl wr w'->SpO w' Wb.heap.size (.slice po2 pk2 pc2) (bt k++ft d)/\Sk bs bl Wb w'/\SK w' (.agg #[.slice lo2 pn lc2,.slice no2 nn2 nc2,.slice so2 N sc2])/\Bx3 w' w3.heap.size (.slice lo2 pn lc2) (.slice no2 nn2 nc2) (.slice so2 N sc2)):=fun w' h=>⟨HSp2.out.2.sk h htw2,hsk2.trans h,HSKk.out _ _ _ hSK2 htw2 h,hbx2.sk h htw2⟩
     have HSl2:Hid ((bt k++ft d).length=pk2):=HSp2.out.1;clear hskr
     cases hfd:fr d with
     | false=>
      rw [hfd] at hfo HE;have HE2:Hid (ft (d+1)=ft d):=by have:=HE.out;rw [if_neg (by simp)] at this;exact this
      clear HE hsv2 hSK2 hbx2 HSp2 HS2 hfd
      go_wp2_with (first | (go_at_call 67;refine hfo.mono ?_;rintro e w5 ⟨rfl,HR5⟩))
      obtain ⟨q1,q2,q3,q4⟩:=HNx2.out _ HR5.out.1
      have HQ:=(show Hid (SpO w5 Wb.heap.size (.slice po2 pk2 pc2) (bt k++ft d)/\Sk bs bl Wb w5/\SvOk Pz w0 w5 B bs bl (n+1+k*65+1+d+1) va vr pv fv m ps l ho hc/\SK w5 (.agg #[.slice lo2 pn lc2,.slice no2 nn2 nc2,.slice so2 N sc2])/\Bx3 w5 w3.heap.size (.slice lo2 pn lc2) (.slice no2 nn2 nc2) (.slice so2 N sc2)) from ⟨q1,q2,HR5.out.2,q3,q4⟩)
      clear q1 q2 q3 q4 HR5
      go_roundw
      case rel=>exact ⟨d+1,by omega,by go_num,⟨po2,pk2,pc2,rfl,by omega,by rw [HE2.out];exact HSl2.out,by rw [HE2.out];exact HQ.out.1⟩,HQ.out.2⟩
      case measure=>simp [intOf];omega
     | true=>
      rw [hfd] at hfo HE;have HE2:Hid (ft (d+1)=ft d++[(cd,(d:Int))]):=by have:=HE.out;rw [if_pos rfl] at this;exact this
      clear HE hsv2 hSK2 hbx2 HSp2 HS2 hfd
      go_wp2_with (first | (go_at_call 67;refine hfo.mono ?_;rintro e w5 ⟨rfl,HR5⟩;obtain ⟨q1,q2,q3,q4⟩:=HNx2.out _ HR5.out.1;have HQ:=(show Hid (SpO w5 Wb.heap.size (.slice po2 pk2 pc2) (bt k++ft d)/\Sk bs bl Wb w5/\SvOk Pz w0 w5 B bs bl (n+1+k*65+1+d+1) va vr pv fv m ps l ho hc/\SK w5 (.agg #[.slice lo2 pn lc2,.slice no2 nn2 nc2,.slice so2 N sc2])/\Bx3 w5 w3.heap.size (.slice lo2 pn lc2) (.slice no2 nn2 nc2) (.slice so2 N sc2)) from ⟨q1,q2,HR5.out.2,q3,q4⟩);clear q1 q2 q3 q4 HR5;have hsp5:=HQ.out.1;have hsz5:=HQ.out.2.1.size) | (at_builtin;refine push_sp cd (d:Int) rfl _ _ rfl Wb.heap.size pk2 pc2 po2 (bt k++ft d) HSl2.out rfl hsp5 rfl (by omega) hsz5 ?_;intro vo6 cap6 w6 ho6 hb6 hg6))
      have hown:=hsp5.own (.cells #[.int .i64 cd,.int .i64 (d:Int)] 97)
      have HQ6:Hid (SpO w6 Wb.heap.size (.slice vo6 (pk2+1) cap6) (bt k++ft d++[(cd,(d:Int))])/\Sk bs bl Wb w6/\SvOk Pz w0 w6 B bs bl (n+1+k*65+1+d+1) va vr pv fv m ps l ho hc/\SK w6 (.agg #[.slice lo2 pn lc2,.slice no2 nn2 nc2,.slice so2 N sc2])/\Bx3 w6 w3.heap.size (.slice lo2 pn lc2) (.slice no2 nn2 nc2) (.slice so2 N sc2)):=by
       have ha:Below w5.heap.size w5 (w5.alloc (.cells #[.int .i64 cd,.int .i64 (d:Int)] 97)):=(Below.refl _ _).alloc (Nat.le_refl _) _;refine ⟨ho6,HQ.out.2.1.after hb6,(HQ.out.2.2.1.below ha).spots hg6 (fun g e=>?_),HSKg.out _ _ _ _ (HSKa.out _ _ _ HQ.out.2.2.2.1) hg6 (fun g e=>(hown g e).2),(HQ.out.2.2.2.2.below ha).grown hg6 (fun g e=>(hown g e).2)⟩
       obtain ⟨h1,h2⟩:=hown g e;have:=HSkb.out.size;exact ⟨by omega,by omega,h2⟩
      clear hown ho6 hb6 hg6 hsp5 HQ
      go_wp2_with fail
      go_roundw
      case rel=>exact ⟨d+1,by omega,by go_num,⟨vo6,pk2+1,cap6,rfl,by omega,by rw [HE2.out,<- List.append_assoc,List.length_append,HSl2.out];rfl,by rw [HE2.out,<- List.append_assoc];exact HQ6.out.1⟩,HQ6.out.2⟩
      case measure=>simp [intOf];omega
    ·obtain rfl:d=N:=by omega
     have HSl2:Hid ((bt (k+1)).length=pk2/\SpO wr Wb.heap.size (.slice po2 pk2 pc2) (bt (k+1))):=by rw [HBk.out];exact HSp2.out
     have HS3:Hid (Sk bs bl Wb wr/\SvOk Pz w0 wr B bs bl (n+1+(k+1)*65) va vr pv fv m ps l ho hc):=⟨HS2.out.1,HS2.out.2.1.mono (by omega)⟩
     clear HSp2 HS2
     go_wp2_with fail
     go_roundw
     case rel=>exact ⟨k+1,by omega,by go_num,⟨po2,pk2,pc2,rfl,by omega,HSl2.out.1,HSl2.out.2⟩,HS3⟩
     case measure=>simp [intOf];omega
  ·obtain rfl:k=nn:=by omega
   have HSl:Hid ((bt k).length=pk):=HSp.out.1;have HSpp:Hid (SpO wr Wb.heap.size (.slice po pk pc) (bt k)):=HSp.out.2;have hwb:w.heap.size <= Wb.heap.size:=HSkb.out.size;clear HSp
   go_wp2_with fail
   go_ret2
   exact ⟨HSkb.out.trans HSS.out.1,HSS.out.2.mono (by omega),.inl ⟨HW.out,po,pc,by rw [HSl.out];rfl,by rw [HSl.out];exact owns_mono HSpp.out hwb⟩⟩
end Go.Proofs.YtfnobbpbmelgnaaGreatDoor
namespace Go.Proofs.YtfnobbpbmelgnaaGreatDoor
open Go.ChangeShapes Go.WideShapes Go.ChangeAt Go.RowKit Go.Deep Go.Maps
open Terms Tm
set_option maxHeartbeats 6400000
set_option maxRecDepth 20000
section
variable {w w1 w2 : World} {base A lm : Nat} {S : List (Int × Int)} {N : List (List Int)} {T : List Int} {init many : Int} {sv nv tv nv' tv' : Value}
theorem AtX.appN {us:List Value} {r:List Int} {ao:Option Addr} {c:Nat} (h:AtX w1 base A lm S N T init many sv nv tv) (hus:w1.ownsRow base 36 1 nv N.length us/\us.length=N.length/\∀ i,i < N.length->∃ ao c,us.getD i (.slice none 0 0)=.slice ao (N.getD i []).length c/\IntsV w1 (.slice ao (N.getD i []).length c) (N.getD i [])/\RowTy w1 (.slice ao (N.getD i []).length c) 3/\∀ a,ao=some a->tv.ownBlock≠some a.block/\base <= a.block)
    (hr:IntsV w1 (.slice ao r.length c) r) (hty:RowTy w1 (.slice ao r.length c) 3) (hap:∀ a,ao=some a->tv.ownBlock≠some a.block/\base <= a.block) (hg:w1.grownBy w2 nv.ownBlock) (ho:w2.ownsRow base 36 1 nv' (N.length+1) (us++[.slice ao r.length c])):AtX (w2.setCell ⟨A,2,none⟩ nv') base A lm S (N++[r]) T init many sv nv' tv:=by
  obtain ⟨n1,n2,n3⟩:=hus;obtain ⟨es,cl,em⟩:=h.lies.isMap;have hc:Chg (fun i=>i=A\/nv.ownBlock=some i) w1 (w2.setCell ⟨A,2,none⟩ nv'):=((Chg.grown hg).weaken (fun i _ e=>.inr e)).trans2 (Chg.setCell w2 _ _) (fun i _ e=>.inl e)
  have hno:∀ i t,(i=A\/nv.ownBlock=some i)->TyB w1 i t->t=93\/t=36:=fun i t z ht=>by
    rcases z with rfl | e
    · exact .inl (ht.eq h.ty)
    · exact .inr (ht.eq (owns_ty n1 e).2)
  have hni:∀ i,(i=A\/nv.ownBlock=some i)->¬ TyB w1 i 3:=fun i z ht=>by
    rcases hno i _ z ht with e | e
    · exact absurd e (by decide)
    · exact absurd e (by decide)
  have hns:∀ i,(i=A\/nv.ownBlock=some i)->¬ TyB w1 i 97:=fun i z ht=>by
    rcases hno i _ z ht with e | e
    · exact absurd e (by decide)
    · exact absurd e (by decide)
  have hnm:∀ i,(i=A\/nv.ownBlock=some i)->i≠lm:=fun i z e=>by
    subst e
    rcases z with rfl | e
    · exact h.ty.no_map em
    · exact (owns_ty n1 e).2.no_map em
  have hbx:w2.heap[A]? = some (atB sv nv tv init many lm):=(hg.block A h.lt fun e=>by have:=h.ty.eq (owns_ty n1 e.symm).2;exact absurd this (by decide)).trans h.box
  have hA2:TyB w2 A 93:=⟨_,_,hbx⟩;refine ⟨atB_set2 w2 hbx nv',h.bA,h.bl,h.lies.kept (hc.block lm h.lies.lt (fun z=>hnm _ z rfl)),owns_chg h.sp hc (fun g e z=>hns g z (owns_ty h.sp e).2),⟨us++[.slice ao r.length c],?_,by simp [n2],fun i hi=>?_⟩,owns_chg h.st hc (fun g e z=>hni g z (owns_ty h.st e).2)⟩
  · rw [List.length_append,List.length_singleton]
    exact owns_chg ho (Chg.setCell w2 _ _) (fun g e z=>by
      have h1:=(owns_ty ho e).2;have z':g=A:=z;subst z'
      exact absurd (h1.eq hA2) (by decide))
  · have hget:∀ (α:Type) (x y:List α) (d:α) (j:Nat),(x++y).getD j d=if j < x.length then x.getD j d else y.getD (j - x.length) d:=fun α x y d j=>by
      by_cases hj:j < x.length
      · rw [if_pos hj];simp [List.getD_eq_getElem?_getD,List.getElem?_append_left hj]
      · rw [if_neg hj];simp [List.getD_eq_getElem?_getD,List.getElem?_append_right (Nat.le_of_not_lt hj)]
    by_cases hlt:i < N.length
    · obtain ⟨ao',c',e1,e2,e3,e4⟩:=n3 i hlt
      have hz:∀ a,ao'=some a->¬ (a.block=A\/nv.ownBlock=some a.block):=fun a e z=>hni _ z (by subst e;exact e3.ty)
      rw [hget,hget,n2,if_pos hlt,if_pos hlt];exact ⟨ao',c',e1,e2.chg hc hz,e3.chg hc hz,e4⟩
    · have hi2:i=N.length:=by simp at hi;omega
      have hz:∀ a,ao=some a->¬ (a.block=A\/nv.ownBlock=some a.block):=fun a e z=>hni _ z (by subst e;exact hty.ty)
      rw [hget,hget,n2,if_neg hlt,if_neg hlt,hi2,Nat.sub_self];exact ⟨ao,c,rfl,hr.chg hc hz,hty.chg hc hz,hap⟩
theorem AtX.appT {x:Int} (h:AtX w1 base A lm S N T init many sv nv tv) (hg:w1.grownBy w2 tv.ownBlock) (ho:w2.ownsRow base 3 1 tv' (T.length+1) (ivals T++[.int .i64 x])) (hown:tv'.ownBlock=tv.ownBlock\/∃ g,tv'.ownBlock=some g/\w1.heap.size <= g):AtX (w2.setCell ⟨A,3,none⟩ tv') base A lm S N (T++[x]) init many sv nv tv':=by
 obtain ⟨us,n1,n2,n3⟩:=id h.nx;obtain ⟨es,cl,em⟩:=h.lies.isMap;have hc:Chg (fun i=>i=A\/tv.ownBlock=some i) w1 (w2.setCell ⟨A,3,none⟩ tv'):=((Chg.grown hg).weaken (fun i _ e=>.inr e)).trans2 (Chg.setCell w2 _ _) (fun i _ e=>.inl e)
 have hno:∀ i t,(i=A\/tv.ownBlock=some i)->TyB w1 i t->t=93\/t=3:=fun i t z ht=>by
  rcases z with rfl | e
  ·exact .inl (ht.eq h.ty)
  ·exact .inr (ht.eq (owns_ty h.st e).2)
 have hnl:∀ i,(i=A\/tv.ownBlock=some i)->¬ TyB w1 i 36:=fun i z ht=>by
  rcases hno i _ z ht with e | e
  ·exact absurd e (by decide)
  ·exact absurd e (by decide)
 have hns:∀ i,(i=A\/tv.ownBlock=some i)->¬ TyB w1 i 97:=fun i z ht=>by
  rcases hno i _ z ht with e | e
  ·exact absurd e (by decide)
  ·exact absurd e (by decide)
 have hnm:∀ i,(i=A\/tv.ownBlock=some i)->i≠lm:=fun i z e=>by
  subst e
  rcases z with rfl | e
  ·exact h.ty.no_map em
  ·exact (owns_ty h.st e).2.no_map em
 have hbx:w2.heap[A]? = some (atB sv nv tv init many lm):=(hg.block A h.lt fun e=>by have:=h.ty.eq (owns_ty h.st e.symm).2;exact absurd this (by decide)).trans h.box
 have hA2:TyB w2 A 93:=⟨_,_,hbx⟩;refine ⟨atB_set3 w2 hbx tv',h.bA,h.bl,h.lies.kept (hc.block lm h.lies.lt (fun z=>hnm _ z rfl)),owns_chg h.sp hc (fun g e z=>hns g z (owns_ty h.sp e).2),⟨us,owns_chg n1 hc (fun g e z=>hnl g z (owns_ty n1 e).2),n2,fun i hi=>?_⟩,?_⟩
 ·obtain ⟨ao',c',e1,e2,e3,e4⟩:=n3 i hi
  have hz:∀ a,ao'=some a->¬ (a.block=A\/tv.ownBlock=some a.block):=fun a e z=>by
   rcases z with z | z
   ·subst e
    have:=e3.ty;rw [z] at this;exact absurd (this.eq h.ty) (by decide)
   ·exact (e4 a e).1 z
  refine ⟨ao',c',e1,e2.chg hc hz,e3.chg hc hz,fun a e=>⟨fun e5=>?_,(e4 a e).2⟩⟩
  rcases hown with h1 | ⟨g,h1,h2⟩
  ·rw [h1] at e5
   exact (e4 a e).1 e5
  ·rw [h1] at e5
   injection e5 with e5
   subst e;have:=e3.ty.lt;omega
 ·have e:ivals (T++[x])=ivals T++[.int .i64 x]:=by simp [ivals]
  rw [e,List.length_append,List.length_singleton]
  exact owns_chg ho (Chg.setCell w2 _ _) (fun g e z=>by
   have h1:=(owns_ty ho e).2;have z':g=A:=z;subst z'
   exact absurd (h1.eq hA2) (by decide))
end
section
variable {Pz Pz' : Nat -> Prop} {w0 w w' : World} {B bs bl n : Nat} {va vr pv fv : Value} {m : Mo} {ps : List (List (Int × Int))} {l : List (Int × Int)} {ho : Option Addr} {hc : Nat}
theorem SvOk.chg2 {Z:Nat->Prop} (h:SvOk Pz w0 w B bs bl n va vr pv fv m ps l ho hc) (hs:Chg Z w w') (hz:∀ i,Z i->w0.heap.size <= i/\i≠B/\i≠bs/\i≠bl/\¬ TyB w i 4/\(TyB w i 3->¬ Pz i)) (hp:∀ b,b < w.heap.size->Pz b->Pz' b) (hup:∀ b,w'.heap.size <= b->Pz' b):SvOk Pz' w0 w' B bs bl n va vr pv fv m ps l ho hc:=by
 have k:=h.chg hs hz;obtain ⟨f,h1,h2⟩:=h.st;have zs:¬ Z bs:=fun z=>(hz _ z).2.2.1 rfl
 refine ⟨k.box,k.bel,k.lo1,k.lo2,k.ne,k.ah,k.aty,hup,fun a e=>hp _ (by have:=h.aty;rw [e] at this;exact this.ty.lt) (h.aP a e),⟨f,h1.chg hs zs,fun kl v hv=>?_⟩,k.li⟩
 obtain ⟨code,e1,e2,e3⟩:=h2 kl v hv;obtain ⟨lo,lc,no,nc,so,sc,g1,g2,g3,g4,g5,g6,g7,g8,g9⟩:=e3.chg hs fun i z=>(hz i z).2.2.2.2
 obtain ⟨lo',lc',no',nc',so',sc',g1',_,_,_,_,g6',g7',_,_⟩:=e3;rw [g1] at g1';simp only [Value.agg.injEq,Array.mk.injEq,List.cons.injEq,Value.slice.injEq,and_true,true_and] at g1';obtain ⟨⟨rfl,rfl⟩,⟨rfl,rfl⟩,rfl,rfl⟩:=g1'
 exact ⟨code,e1,e2,lo,lc,no,nc,so,sc,g1,g2,g3,g4,g5,g6,g7,fun a e=>by subst e;exact hp _ g6'.ty.lt (g8 a rfl),fun a e=>by subst e;exact hp _ g7'.ty.lt (g9 a rfl)⟩
end
def offT (tv:Value):Nat->Prop:=fun b=>tv.ownBlock≠some b
structure ExW (w0 w:World) (base A lm B bs bl n:Nat) (va vr pv fv:Value) (m:Mo) (ps:List (List (Int × Int))) (l:List (Int × Int)) (ho:Option Addr) (hc:Nat) (S:List (Int × Int)) (N:List (List Int)) (T:List Int) (init many:Int) (sv nv tv:Value):Prop where
 su:SvOk (offT tv) w0 w B bs bl n va vr pv fv m ps l ho hc
 tl:AtX w base A lm S N T init many sv nv tv
 lo:w0.heap.size <= base/\B < base/\bs < base/\bl < base
section
variable {w0 w w' w1 w2 : World} {base A lm B bs bl n n' : Nat} {va vr pv fv : Value} {m : Mo} {ps : List (List (Int × Int))} {l : List (Int × Int)} {ho : Option Addr} {hc : Nat} {S S' : List (Int × Int)} {N : List (List Int)} {T : List Int} {init many : Int} {sv sv' nv tv nv' tv' : Value}
theorem ExW.below (h:ExW w0 w base A lm B bs bl n va vr pv fv m ps l ho hc S N T init many sv nv tv) (hb:Below w.heap.size w w'):ExW w0 w' base A lm B bs bl n va vr pv fv m ps l ho hc S N T init many sv nv tv:=⟨h.su.below hb,h.tl.below hb,h.lo⟩
theorem ExW.call (h:ExW w0 w base A lm B bs bl n va vr pv fv m ps l ho hc S N T init many sv nv tv) (hs:Sk bs bl w w') (hv:SvOk (offT tv) w0 w' B bs bl n' va vr pv fv m ps l ho hc):ExW w0 w' base A lm B bs bl n' va vr pv fv m ps l ho hc S N T init many sv nv tv:=
 ⟨hv,h.tl.sk hs h.su.two (by have:=h.tl.bl;have:=h.lo;omega) (by have:=h.tl.bl;have:=h.lo;omega),h.lo⟩
theorem ExW.far (h:ExW w0 w base A lm B bs bl n va vr pv fv m ps l ho hc S N T init many sv nv tv) {i:Nat} (hi:base <= i):w0.heap.size <= i/\i≠B/\i≠bs/\i≠bl:=by
 have:=h.lo;omega
theorem ExW.put (h:ExW w0 w base A lm B bs bl n va vr pv fv m ps l ho hc S N T init many sv nv tv) (hs:Chg (atZ A lm sv) w w') (hX:AtX w' base A lm S' N T init many sv' nv tv):ExW w0 w' base A lm B bs bl n va vr pv fv m ps l ho hc S' N T init many sv' nv tv:=by
 refine ⟨h.su.chg hs fun i z=>?_,hX,h.lo⟩
 obtain ⟨es,c,em⟩:=h.tl.lies.isMap
 rcases z with rfl | rfl | e
 ·obtain ⟨a,b,c,d⟩:=h.far h.tl.bA
  exact ⟨a,b,c,d,fun ht=>absurd (ht.eq h.tl.ty) (by decide),fun ht=>absurd (ht.eq h.tl.ty) (by decide)⟩
 ·obtain ⟨a,b,c,d⟩:=h.far h.tl.bl
  exact ⟨a,b,c,d,fun ht=>absurd em ht.no_map,fun ht=>absurd em ht.no_map⟩
 ·obtain ⟨o1,o2⟩:=owns_ty h.tl.sp e
  obtain ⟨a,b,c,d⟩:=h.far o1;exact ⟨a,b,c,d,fun ht=>absurd (ht.eq o2) (by decide),fun ht=>absurd (ht.eq o2) (by decide)⟩
theorem ExW.appN {us:List Value} {r:List Int} {ao:Option Addr} {c:Nat} (h:ExW w0 w1 base A lm B bs bl n va vr pv fv m ps l ho hc S N T init many sv nv tv) (hus:w1.ownsRow base 36 1 nv N.length us/\us.length=N.length/\∀ i,i < N.length->∃ ao c,us.getD i (.slice none 0 0)=.slice ao (N.getD i []).length c/\IntsV w1 (.slice ao (N.getD i []).length c) (N.getD i [])/\RowTy w1 (.slice ao (N.getD i []).length c) 3/\∀ a,ao=some a->tv.ownBlock≠some a.block/\base <= a.block)
  (hr:IntsV w1 (.slice ao r.length c) r) (hty:RowTy w1 (.slice ao r.length c) 3) (hap:∀ a,ao=some a->tv.ownBlock≠some a.block/\base <= a.block) (hg:w1.grownBy w2 nv.ownBlock) (ho':w2.ownsRow base 36 1 nv' (N.length+1) (us++[.slice ao r.length c])):ExW w0 (w2.setCell ⟨A,2,none⟩ nv') base A lm B bs bl n va vr pv fv m ps l ho hc S (N++[r]) T init many sv nv' tv:=by
 have hch:Chg (fun i=>i=A\/nv.ownBlock=some i) w1 (w2.setCell ⟨A,2,none⟩ nv'):=((Chg.grown hg).weaken (fun i _ e=>.inr e)).trans2 (Chg.setCell w2 _ _) (fun i _ e=>.inl e)
 refine ⟨h.su.chg hch fun i z=>?_,h.tl.appN hus hr hty hap hg ho',h.lo⟩
 rcases z with rfl | e
 ·obtain ⟨a,b,c,d⟩:=h.far h.tl.bA
  exact ⟨a,b,c,d,fun ht=>absurd (ht.eq h.tl.ty) (by decide),fun ht=>absurd (ht.eq h.tl.ty) (by decide)⟩
 ·obtain ⟨o1,o2⟩:=owns_ty hus.1 e
  obtain ⟨a,b,c,d⟩:=h.far o1;exact ⟨a,b,c,d,fun ht=>absurd (ht.eq o2) (by decide),fun ht=>absurd (ht.eq o2) (by decide)⟩
theorem ExW.appT {x:Int} (h:ExW w0 w1 base A lm B bs bl n va vr pv fv m ps l ho hc S N T init many sv nv tv) (hg:w1.grownBy w2 tv.ownBlock) (ho':w2.ownsRow base 3 1 tv' (T.length+1) (ivals T++[.int .i64 x])) (hown:tv'.ownBlock=tv.ownBlock\/∃ g,tv'.ownBlock=some g/\w1.heap.size <= g):ExW w0 (w2.setCell ⟨A,3,none⟩ tv') base A lm B bs bl n va vr pv fv m ps l ho hc S N (T++[x]) init many sv nv tv':=by
 have hch:Chg (fun i=>i=A\/tv.ownBlock=some i) w1 (w2.setCell ⟨A,3,none⟩ tv'):=((Chg.grown hg).weaken (fun i _ e=>.inr e)).trans2 (Chg.setCell w2 _ _) (fun i _ e=>.inl e)
 have hX:=h.tl.appT hg ho' hown;refine ⟨h.su.chg2 hch (fun i z=>?_) (fun b hb hp=>?_) (fun b hb e=>?_),hX,h.lo⟩
 ·rcases z with rfl | e
  ·obtain ⟨a,b,c,d⟩:=h.far h.tl.bA
   exact ⟨a,b,c,d,fun ht=>absurd (ht.eq h.tl.ty) (by decide),fun ht=>absurd (ht.eq h.tl.ty) (by decide)⟩
  ·obtain ⟨o1,o2⟩:=owns_ty h.tl.st e
   obtain ⟨a,b,c,d⟩:=h.far o1;exact ⟨a,b,c,d,fun ht=>absurd (ht.eq o2) (by decide),fun _ hp=>hp e⟩
 ·intro e
  rcases hown with h1 | ⟨g,h1,h2⟩
  ·rw [h1] at e
   exact hp e
  ·rw [h1] at e
   injection e with e
   omega
 ·have:=(owns_ty hX.st e).2.lt
  omega
end
theorem infoIL:(Tryz.prog.info? 36).map (fun i=>(i.zero,i.size,i.bytes))=some (some (.slice none 0 0),1,24):=by kernel_rfl
theorem xfo_mem {l:List (Int × Int)} {x:List Bool} {c:Int} {y:List Bool} {st:Int} {p:Int × Int}:∀ k,p∈foTo l x c y st k->p.1=st/\∃ d:Nat,d < k/\p.2=(d:Int)/\folR l x c y (d:Int)=true
 | 0,h=>by simp [foTo] at h
 | k+1,h=>by
  rw [foTo] at h
  split at h
  ·next hf=>
   rw [List.mem_append,List.mem_singleton] at h
   rcases h with h | rfl
   ·obtain ⟨h1,d,h2,h3⟩:=xfo_mem k h
    exact ⟨h1,d,by omega,h3⟩
   ·exact ⟨rfl,k,by omega,rfl,hf⟩
  ·obtain ⟨h1,d,h2,h3⟩:=xfo_mem k h
   exact ⟨h1,d,by omega,h3⟩
theorem xbe_mem {m:Mo} {ps:List (List (Int × Int))} {l:List (Int × Int)} {code c:Int} {p:Int × Int}:∀ i,i <= (nextL m code).length->p∈behTo m ps l code c i->p.1∈nextL m code/\∃ d:Nat,d < 2 ^ (aheadL l).length/\p.2=(d:Int)/\folR l (letL m ps code) c (letL m ps p.1) (d:Int)=true
 | 0,_,h=>by simp [behTo] at h
 | i+1,hi,h=>by
  rw [behTo,List.mem_append] at h
  rcases h with h | h
  ·exact xbe_mem i (by omega) h
  ·obtain ⟨h1,d,h2,h3,h4⟩:=xfo_mem _ h
   refine ⟨?_,d,h2,h3,by rw [h1];exact h4⟩
   rw [h1,List.getD_eq_getElem?_getD,List.getElem?_eq_getElem (by omega)]
   exact List.getElem_mem _
theorem behL_spot {m:Mo} {ps:List (List (Int × Int))} {l:List (Int × Int)} {code c:Int} (hm:mcode m=0) (hcr:0 <= code/\code < prodTo m.vars m.vars.length) {p:Int × Int} (h:p∈behL m ps l code c):(0 <= p.1/\p.1 < prodTo m.vars m.vars.length)/\∃ d:Nat,d < 2 ^ (aheadL l).length/\p.2=(d:Int):=by
 obtain ⟨h1,d,h2,h3,_⟩:=xbe_mem _ (Nat.le_refl _) h;exact ⟨nextL_st hm hcr h1,d,h2,h3⟩
theorem behL_len {m:Mo} {ps:List (List (Int × Int))} {l:List (Int × Int)} {code c:Int} (hm:mcode m=0) (hcr:0 <= code/\code < prodTo m.vars m.vars.length) (h6:(aheadL l).length <= 6):(behL m ps l code c).length <= 262144:=by
 have h1:=behTo_len (m:=m) (ps:=ps) (l:=l) (Nat.pow_le_pow_right (show 0 < 2 by decide) h6) code c (nextL m code).length
 have h2:=nextL_len hm hcr;unfold behL;omega
theorem spot_I64 {m:Mo} {ps:List (List (Int × Int))} {l:List (Int × Int)} (hk:tkcode m ps l=0) {p:Int × Int} (h:(0 <= p.1/\p.1 < prodTo m.vars m.vars.length)/\∃ d:Nat,d < 2 ^ (aheadL l).length/\p.2=(d:Int)):I64s p:=by
 obtain ⟨hp0,hl0⟩:=tk_zero hk;obtain ⟨hm0,_⟩:=pcode_m hp0;obtain ⟨_,_,_,_,h6⟩:=lcode_zero hl0;have hpr:=((mcode_vars hm0).prod (Nat.le_refl m.vars.length)).2;have hN64:2 ^ (aheadL l).length <= 64:=Nat.pow_le_pow_right (show 0 < 2 by decide) h6
 obtain ⟨h1,d,h2,h3⟩:=h;unfold I64s;omega
def GoPost (w0:World) (base A lm B bs bl n:Nat) (va vr pv fv:Value) (m:Mo) (ps:List (List (Int × Int))) (l:List (Int × Int)) (ho:Option Addr) (hc:Nat) (S:List (Int × Int)) (N:List (List Int)) (T:List Int) (init many:Int) (code:Int) (c:Nat) (e:Ending) (w':World):Prop:=
 e=.returned (.int .i64 (if 20000 < (plTo S (behL m ps l code (c:Int))).length then 12 else 0))/\∃ sv nv tv,Hid (ExW w0 w' base A lm B bs bl (n+300001) va vr pv fv m ps l ho hc (plTo S (behL m ps l code (c:Int))) (N++[plIx S (behL m ps l code (c:Int))]) (T++[metN l (letL m ps code) (c:Int)]) init many sv nv tv)
theorem goThrough_any (w0 w:World) (base A lm B bs bl n:Nat) (va vr pv fv:Value) (m:Mo) (ps:List (List (Int × Int))) (l:List (Int × Int)) (ho:Option Addr) (hc:Nat) (S:List (Int × Int)) (N:List (List Int)) (T:List Int) (init many:Int) (sv nv tv:Value) (code:Int) (c:Nat) (hB:0 < w0.heap.size) (hT:TabAt w0) (hV:TaskV w0 va vr pv fv m ps l) (hk:tkcode m ps l=0) (hX:ExW w0 w base A lm B bs bl n va vr pv fv m ps l ho hc S N T init many sv nv tv) (hn:n+600000 < 1000000000000) (hcr:0 <= code/\code < prodTo m.vars m.vars.length) (hcN:c < 2 ^ (aheadL l).length) (hzS:S.length <= 20000) (hzN:N.length <= 20000) (hzT:T.length <= 20000) :
  Calls Tryz.prog 28 #[.pointer (some ⟨A,0,none⟩),.pointer (some ⟨B,0,none⟩),.agg #[.int .i64 code,.int .i64 (c:Int)]] w (GoPost w0 base A lm B bs bl n va vr pv fv m ps l ho hc S N T init many code c):=by
 obtain ⟨hp0,hl0⟩:=tk_zero hk;obtain ⟨hm0,_⟩:=pcode_m hp0;obtain ⟨_,_,_,_,h6⟩:=lcode_zero hl0;have hpr:=((mcode_vars hm0).prod (Nat.le_refl m.vars.length)).2;have hI:-9223372036854775808 <= code/\code <= 9223372036854775807:=by omega
 have hbl:=behL_len (ps:=ps) (c:=(c:Int)) hm0 hcr h6;have hIs:∀ j,j < (behL m ps l code (c:Int)).length->I64s ((behL m ps l code (c:Int)).getD j (0,0)):=fun j hj=>spot_I64 hk (behL_spot hm0 hcr (c:=(c:Int)) (ps:=ps) (by rw [List.getD_eq_getElem?_getD,List.getElem?_eq_getElem hj];exact List.getElem_mem _))
 have hw0:=wcode_yes hm0 hcr;obtain ⟨W1,hW1⟩:∃ W1,W1=w.alloc (.cells #[.int .i64 code,.int .i64 (c:Int)] 97):=⟨_,rfl⟩
 have hb1:Below w.heap.size w W1:=by rw [hW1];exact (Below.refl _ _).alloc (Nat.le_refl _) _
 have hs1:W1.cell? ⟨w.heap.size,0,none⟩=some (.int .i64 code)/\W1.cell? ⟨w.heap.size,1,none⟩=some (.int .i64 (c:Int)):=by rw [hW1];constructor <;> simp [go_sem]
 have hX1:=hX.below hb1
 have hbe:Calls Tryz.prog 48 #[.pointer (some ⟨B,0,none⟩),.agg #[.int .i64 code,.int .i64 (c:Int)]] W1 fun e w2=>∃ so sc,e=.returned (.tuple #[.slice so (behL m ps l code (c:Int)).length sc,.int .i64 0])/\(w2.cell? ⟨w.heap.size,0,none⟩=some (.int .i64 code)/\w2.cell? ⟨w.heap.size,1,none⟩=some (.int .i64 (c:Int)))/\Hid (ExW w0 w2 base A lm B bs bl (n+300000) va vr pv fv m ps l ho hc S N T init many sv nv tv/\SpO w2 W1.heap.size (.slice so (behL m ps l code (c:Int)).length sc) (behL m ps l code (c:Int))):=
  (behind_in w0 W1 B bs bl n va vr pv fv m ps l ho hc code c hI hB hT hV hk hX1.su (by omega) hcr hcN).mono fun e w2 ⟨h1,h2,h3⟩=>by
   rcases h3 with ⟨_,so,sc,h4,h5⟩ | ⟨h4,_⟩
   ·exact ⟨so,sc,h4,⟨h1.cell hX1.su.two hs1.1,h1.cell hX1.su.two hs1.2⟩,hX1.call h1 h2.out,h5.out⟩
   ·exact absurd hw0 h4
 have HMe:Hid (∀ w2,ExW w0 w2 base A lm B bs bl (n+300000) va vr pv fv m ps l ho hc S N T init many sv nv tv->Calls Tryz.prog 49 #[.pointer (some ⟨B,0,none⟩),.agg #[.int .i64 code,.int .i64 (c:Int)]] w2 fun e w3=>e=.returned (.tuple #[.int .i64 (metN l (letL m ps code) (c:Int)),.int .i64 0])/\Hid (ExW w0 w3 base A lm B bs bl (n+300001) va vr pv fv m ps l ho hc S N T init many sv nv tv/\∀ so sc,SpO w2 W1.heap.size (.slice so (behL m ps l code (c:Int)).length sc) (behL m ps l code (c:Int))->SpO w3 W1.heap.size (.slice so (behL m ps l code (c:Int)).length sc) (behL m ps l code (c:Int)))):=fun w2 hx=>
  (meets_in w0 w2 B bs bl (n+300000) va vr pv fv m ps l ho hc code c hI hB hT hV hk hx.su (by omega) hcr hcN).mono fun e w3 ⟨h1,h2,h3⟩=>⟨h1,hx.call h2 h3.out,fun so sc h=>h.sk h2 hx.su.two⟩
 have HPl:Hid (∀ w3 so sc,ExW w0 w3 base A lm B bs bl (n+300001) va vr pv fv m ps l ho hc S N T init many sv nv tv->SpO w3 W1.heap.size (.slice so (behL m ps l code (c:Int)).length sc) (behL m ps l code (c:Int))->Calls Tryz.prog 27 #[.pointer (some ⟨A,0,none⟩),.slice so (behL m ps l code (c:Int)).length sc] w3.drew fun e w4=>e=.returned (.slice (some ⟨w3.heap.size,0,none⟩) (behL m ps l code (c:Int)).length (behL m ps l code (c:Int)).length)/\∃ us sv',w4.cell? ⟨A,2,none⟩=some nv/\(w4.alloc (.cells #[.slice (some ⟨w3.heap.size,0,none⟩) (behL m ps l code (c:Int)).length (behL m ps l code (c:Int)).length] 36)).cell? ⟨A,2,none⟩=some nv/\(w4.alloc (.cells #[.slice (some ⟨w3.heap.size,0,none⟩) (behL m ps l code (c:Int)).length (behL m ps l code (c:Int)).length] 36)).ownsRow base 36 1 nv N.length us/\base <= (w4.alloc (.cells #[.slice (some ⟨w3.heap.size,0,none⟩) (behL m ps l code (c:Int)).length (behL m ps l code (c:Int)).length] 36)).heap.size/\Hid (∀ g cap w9,World.ownsRow w9 base 36 1 (.slice (some ⟨g,0,none⟩) (N.length+1) cap) (N.length+1) (us++[.slice (some ⟨w3.heap.size,0,none⟩) (behL m ps l code (c:Int)).length (behL m ps l code (c:Int)).length])->(w4.alloc (.cells #[.slice (some ⟨w3.heap.size,0,none⟩) (behL m ps l code (c:Int)).length (behL m ps l code (c:Int)).length] 36)).grownBy w9 nv.ownBlock->(w9.cell? ⟨A,2,none⟩=some nv/\w9.frozen? ⟨A,2,none⟩=false)/\ExW w0 (w9.setCell ⟨A,2,none⟩ (.slice (some ⟨g,0,none⟩) (N.length+1) cap)) base A lm B bs bl (n+300001) va vr pv fv m ps l ho hc (plTo S (behL m ps l code (c:Int))) (N++[plIx S (behL m ps l code (c:Int))]) T init many sv' (.slice (some ⟨g,0,none⟩) (N.length+1) cap) tv)):=fun w3 so sc hx hsp=>by
  have hbd:Below w3.heap.size w3 w3.drew:=(Below.refl _ _).drew;have hx3:=hx.below hbd;have hsp3:=hsp.later hbd (Nat.le_refl _)
  have hsep:∀ a,so=some a->¬ atZ A lm sv a.block:=fun a e z=>by
   have hge:=owns_ge hsp a _ _ (by rw [e])
   rcases z with z | z | z
   ·have:=hX1.tl.lt;omega
   ·have:=hX1.tl.lies.lt;omega
   ·have:=(owns_ty hX1.tl.sp z).2.lt;omega
  refine (places_any w3.drew base A lm S N T init many sv nv tv _ so sc hx3.tl hsp3.v hsep hIs (by omega)).mono fun e w4 ⟨h1,sv',h2,h3,h4,h5,h6⟩=>?_
  have hx4:=hx3.put h5 h2;have hba:Below w4.heap.size w4 (w4.alloc (.cells #[.slice (some ⟨w3.heap.size,0,none⟩) (behL m ps l code (c:Int)).length (behL m ps l code (c:Int)).length] 36)):=(Below.refl _ _).alloc (Nat.le_refl _) _;have hx5:=hx4.below hba;obtain ⟨us,hus⟩:=id hx5.tl.nx;have hbs3:base <= w3.heap.size:=hx.tl.base_le
  refine ⟨h1,us,sv',(atB_cells hx4.tl.box).2.2.1,(atB_cells hx5.tl.box).2.2.1,hus.1,hx5.tl.base_le,fun g cap w9 g1 g2=>⟨?_,?_⟩⟩
  ·have hbx:w9.heap[A]? = some (atB sv' nv tv init many lm):=(g2.block A hx5.tl.lt fun e=>by have:=hx5.tl.ty.eq (owns_ty hus.1 e.symm).2;exact absurd this (by decide)).trans hx5.tl.box
   exact ⟨(atB_cells hbx).2.2.1,atB_free hbx 2⟩
  ·have e:(behL m ps l code (c:Int)).length=(plIx S (behL m ps l code (c:Int))).length:=(plIx_len _ _).symm
   have hr5:=h3.below hba;have ht5:=h4.below hba;have hr6:IntsV (w4.alloc (.cells #[.slice (some ⟨w3.heap.size,0,none⟩) (behL m ps l code (c:Int)).length (behL m ps l code (c:Int)).length] 36)) (.slice (some ⟨w3.heap.size,0,none⟩) (plIx S (behL m ps l code (c:Int))).length (behL m ps l code (c:Int)).length) (plIx S (behL m ps l code (c:Int))):=by rw [<- e];exact hr5
   have ht6:RowTy (w4.alloc (.cells #[.slice (some ⟨w3.heap.size,0,none⟩) (behL m ps l code (c:Int)).length (behL m ps l code (c:Int)).length] 36)) (.slice (some ⟨w3.heap.size,0,none⟩) (plIx S (behL m ps l code (c:Int))).length (behL m ps l code (c:Int)).length) 3:=by rw [<- e];exact ht5
   refine hx5.appN hus hr6 ht6 (fun a ea=>?_) g2 (by rw [<- e];exact g1)
   injection ea with ea
   subst ea;refine ⟨fun e2=>?_,hbs3⟩
   have:=(owns_ty hx.tl.st e2).2.lt;simp only at this
   omega
 clear hX hX1 hT hV hk hp0 hl0 hm0 hIs hw0;unfold GoPost;generalize behL m ps l code (c:Int)=beh at *;generalize metN l (letL m ps code) (c:Int)=mt at *;have HPn:Hid (∀ w' sv nv tv N T n,ExW w0 w' base A lm B bs bl n va vr pv fv m ps l ho hc (plTo S beh) N T init many sv nv tv->∃ vo vc,sv=.slice vo (plTo S beh).length vc):=fun w' sv nv tv N T n h=>h.tl.sp.shape
 have hpn:(plTo S beh).length <= 300000:=by have:=(plTo_length beh S).2;omega
 generalize plTo S beh=PS at *;generalize plIx S beh=PI at *;generalize hbn:beh.length=bn at *;have HTs:Hid (∀ w' sv nv n S N,ExW w0 w' base A lm B bs bl n va vr pv fv m ps l ho hc S N T init many sv nv tv->∃ xo xc,tv=.slice xo T.length xc):=fun w' sv nv n S N h=>owns_slice h.tl.st
 have HNs:Hid (∀ w',ExW w0 w' base A lm B bs bl (n+300000) va vr pv fv m ps l ho hc S N T init many sv nv tv->∃ xo xc,nv=.slice xo N.length xc):=fun w' h=>by
  obtain ⟨us,h1,_⟩:=h.tl.nx;exact owns_slice h1
 obtain ⟨i0,hi,hz0,hz1,hz2⟩:=info_parts infoIL;obtain ⟨j0,hj,jz0,jz1,jz2⟩:=info_parts infoInt
 go_enter Tryz.func28,Tryz.ntmps28
 go_upto_region 7 with (first | (go_at_call 48;rw [<- hW1];refine hbe.mono ?_;rintro e w2 ⟨so,sc,rfl,⟨b0,b1⟩,HX2⟩;have hme:=HMe.out w2 HX2.out.1) | (go_at_call 49;refine hme.mono ?_;rintro e w3 ⟨rfl,HX3⟩))
 have hpl:=HPl.out w3 so sc HX3.out.1 (HX3.out.2 so sc HX2.out.2);have a2:w3.cell? ⟨A,2,none⟩=some nv:=(atB_cells HX3.out.1.tl.box).2.2.1;obtain ⟨no,nc,rfl⟩:=HNs.out w2 HX2.out.1;clear hbe hme HMe HPl HX2 HX3 HNs hs1 b0 b1
 go_cut [] (fun wx=>∃ sv' nv',Hid (ExW w0 wx base A lm B bs bl (n+300001) va vr pv fv m ps l ho hc PS (N++[PI]) T init many sv' nv' tv))
 case first=>
  go_region_law (first
   | (refine step_append_lies _ (by rfl) (.tmp 33) (.tmp 37) 62 (by rfl) base 36 i0 _ 1 24 Tryz.underlying62 hi hz0 hz1 hz2 (by rfl) (by decide) (.slice no N.length nc) N.length us (by rfl) hown4 ⟨w4.heap.size,0,none⟩ 1 1 [.slice (some ⟨w3.heap.size,0,none⟩) bn bn] (by rfl) (by rfl) (cell_one_new _ _ _) (by intro u hu;simp at hu;subst hu;rfl) (by decide) (by unfold maxLen;omega) (by omega) hba4 _ rfl ?_;intro g9 cap9 w9 hown hgrow hat hlt9;obtain ⟨⟨z0,zf⟩,hx9⟩:=HN4.out g9 cap9 w9 hown hgrow;have HX9:=(show Hid _ from hx9);clear hx9 hown hgrow hat)
   | (go_simp;go_at_call 27;refine hpl.mono ?_;rintro e w4 ⟨rfl,us,sv4,y0,y1,hown4,hba4,HN4⟩))
  all_goals go_wp2_with fail
  all_goals go_meet
  all_goals exact ⟨_,_,HX9⟩
 case rest=>
  obtain ⟨sv5,nv5,HX5⟩:=hcut;obtain ⟨xo,xc,rfl⟩:=HTs.out wc sv5 nv5 _ PS _ HX5.out;obtain ⟨vo5,vc5,rfl⟩:=HPn.out wc _ _ _ _ _ _ HX5.out;have hba:Below wc.heap.size wc (wc.alloc (.cells #[.int .i64 mt] 3)):=(Below.refl _ _).alloc (Nat.le_refl _) _;have hx6:=HX5.out.below hba
  have hown6:World.ownsRow (wc.alloc (.cells #[.int .i64 mt] 3)) base 3 1 (.slice xo T.length xc) T.length (ivals T):=hx6.tl.st;have hbs6:=hx6.tl.base_le;have a3:wc.cell? ⟨A,3,none⟩=some (.slice xo T.length xc):=(atB_cells HX5.out.tl.box).2.2.2.1
  have HT6:Hid (∀ g cap w9,World.ownsRow w9 base 3 1 (.slice (some ⟨g,0,none⟩) (T.length+1) cap) (T.length+1) (ivals T++[.int .i64 mt])->(wc.alloc (.cells #[.int .i64 mt] 3)).grownBy w9 (Value.slice xo T.length xc).ownBlock->((Value.slice xo T.length xc).ownBlock=some g\/g=(wc.alloc (.cells #[.int .i64 mt] 3)).heap.size)->(w9.cell? ⟨A,3,none⟩=some (.slice xo T.length xc)/\w9.frozen? ⟨A,3,none⟩=false)/\(w9.setCell ⟨A,3,none⟩ (.slice (some ⟨g,0,none⟩) (T.length+1) cap)).cell? ⟨A,0,none⟩=some (.slice vo5 PS.length vc5)/\Hid (ExW w0 (w9.setCell ⟨A,3,none⟩ (.slice (some ⟨g,0,none⟩) (T.length+1) cap)) base A lm B bs bl (n+300001) va vr pv fv m ps l ho hc PS (N++[PI]) (T++[mt]) init many (.slice vo5 PS.length vc5) nv5 (.slice (some ⟨g,0,none⟩) (T.length+1) cap))):=fun g cap w9 h1 h2 h3=>by
   have hbx:w9.heap[A]? = some (atB (.slice vo5 PS.length vc5) nv5 (.slice xo T.length xc) init many lm):=(h2.block A hx6.tl.lt fun e=>by have:=hx6.tl.ty.eq (owns_ty hx6.tl.st e.symm).2;exact absurd this (by decide)).trans hx6.tl.box
   have hxx:=hx6.appT h2 h1 (by
    rcases h3 with h | h
    ·exact .inl (by rw [h];rfl)
    ·exact .inr ⟨g,rfl,by omega⟩)
   exact ⟨⟨(atB_cells hbx).2.2.2.1,atB_free hbx 3⟩,(atB_cells hxx.tl.box).1,hxx⟩
  clear hx6 HX5 HTs HPn
  by_cases hfull:20000 < PS.length
  ·have hfi:(20000:Int) < (PS.length:Int):=by omega
   go_wp2_with (first | (at_builtin;refine wpList_append_lies _ rfl (.tmp 47) (.tmp 49) 36 rfl base 3 j0 _ 1 8 Tryz.underlying36 hj jz0 jz1 jz2 rfl (by decide) (.slice xo T.length xc) T.length (ivals T) rfl hown6 ⟨wc.heap.size,0,none⟩ 1 1 [.int .i64 mt] rfl rfl (cell_one_new _ _ _) (by intro u hu;simp at hu;subst hu;rfl) (by decide) (by unfold maxLen;omega) (by omega) hbs6 _ rfl ?_;intro g9 cap9 w9 hown hgrow hat hlt9;obtain ⟨⟨z0,zf⟩,z1,HX9⟩:=HT6.out g9 cap9 w9 hown hgrow hat;clear hown hgrow hat))
   go_ret
   exact ⟨by first | rfl | simp [hfull],_,_,_,HX9⟩
  ·have hfi:¬ (20000:Int) < (PS.length:Int):=by omega
   go_wp2_with (first | (at_builtin;refine wpList_append_lies _ rfl (.tmp 47) (.tmp 49) 36 rfl base 3 j0 _ 1 8 Tryz.underlying36 hj jz0 jz1 jz2 rfl (by decide) (.slice xo T.length xc) T.length (ivals T) rfl hown6 ⟨wc.heap.size,0,none⟩ 1 1 [.int .i64 mt] rfl rfl (cell_one_new _ _ _) (by intro u hu;simp at hu;subst hu;rfl) (by decide) (by unfold maxLen;omega) (by omega) hbs6 _ rfl ?_;intro g9 cap9 w9 hown hgrow hat hlt9;obtain ⟨⟨z0,zf⟩,z1,HX9⟩:=HT6.out g9 cap9 w9 hown hgrow hat;clear hown hgrow hat))
   go_ret
   exact ⟨by first | rfl | simp [hfull],_,_,_,HX9⟩
variable {Pz : Nat -> Prop}
theorem SvOk.made {w0 w w':World} {n:Nat} {va vr pv fv:Value} {m:Mo} {ps:List (List (Int × Int))} {l:List (Int × Int)} {ho:Option Addr} {hc:Nat} (hb:Below w0.heap.size w0 w) (hb2:Below w.heap.size w w') (hn:w.heap.size <= n) (hs:SurvAt w' (n+2) va vr pv fv (.slice ho (aheadL l).length hc) n (n+1))
  (ho':w'.ownsRow w.heap.size 3 1 (.slice ho (aheadL l).length hc) (aheadL l).length (ivals (aheadL l))) (h1:w'.heap[n]? = some (.map #[] 0)) (h2:w'.heap[n+1]? = some (.map #[] 0)):SvOk (fun _=>True) w0 w' (n+2) n (n+1) 0 va vr pv fv m ps l ho hc:=by
 have:=hb.size;exact ⟨hs,hb.trans (hb2.mono hb.size),by omega,by omega,by omega,intsV_of_owns ho',RowTy.owns ho',fun _ _=>trivial,fun _ _=>trivial,⟨_,MapIs.new _ h1,fun kl v h=>by simp at h⟩,⟨_,MapIs.new _ h2,fun kl v h=>by simp at h⟩⟩
end Go.Proofs.YtfnobbpbmelgnaaGreatDoor
namespace Go.Proofs.YtfnobbpbmelgnaaGreatDoor
open Go.ChangeShapes Go.WideShapes Go.ChangeAt Go.RowKit Go.Deep Go.Maps
open Terms Tm
set_option maxHeartbeats 6400000
set_option maxRecDepth 20000
def spOk (m:Mo) (l:List (Int × Int)) (p:Int × Int):Prop:=(0 <= p.1/\p.1 < prodTo m.vars m.vars.length)/\∃ d:Nat,d < 2 ^ (aheadL l).length/\p.2=(d:Int)
noncomputable def xpBh (m:Mo) (ps:List (List (Int × Int))) (l:List (Int × Int)) (p:Int × Int):List (Int × Int):=behL m ps l p.1 p.2
noncomputable def xpP (m:Mo) (ps:List (List (Int × Int))) (l:List (Int × Int)) (k:Nat):List (Int × Int):=exS (begL m ps l) (xpBh m ps l) k
noncomputable def xpAt (m:Mo) (ps:List (List (Int × Int))) (l:List (Int × Int)) (k:Nat):Int × Int:=(xpP m ps l k).getD k (0,0)
noncomputable def xpN (m:Mo) (ps:List (List (Int × Int))) (l:List (Int × Int)):Nat->List (List Int)
 | 0=>[]
 | k+1=>xpN m ps l k++[plIx (xpP m ps l k) (xpBh m ps l (xpAt m ps l k))]
noncomputable def xpT (m:Mo) (ps:List (List (Int × Int))) (l:List (Int × Int)):Nat->List Int
 | 0=>[]
 | k+1=>xpT m ps l k++[metN l (letL m ps (xpAt m ps l k).1) (xpAt m ps l k).2]
section
variable {m : Mo} {ps : List (List (Int × Int))} {l : List (Int × Int)}
theorem xpP_succ (k:Nat):xpP m ps l (k+1)=plTo (xpP m ps l k) (xpBh m ps l (xpAt m ps l k)):=rfl
theorem xpN_len:∀ k,(xpN m ps l k).length=k
 | 0=>rfl
 | k+1=>by rw [xpN,List.length_append,xpN_len k];rfl
theorem xpT_len:∀ k,(xpT m ps l k).length=k
 | 0=>rfl
 | k+1=>by rw [xpT,List.length_append,xpT_len k];rfl
theorem xbg_mem {p:Int × Int}:∀ k,p∈begTo m ps l k->p.1=begC m/\∃ d:Nat,d < k/\p.2=(d:Int)/\tru l (letL m ps (begC m)) (d:Int) 0≠true
 | 0,h=>by simp [begTo] at h
 | k+1,h=>by
  rw [begTo] at h
  split at h
  ·obtain ⟨h1,d,h2,h3⟩:=xbg_mem k h
   exact ⟨h1,d,by omega,h3⟩
  ·next hf=>
   rw [List.mem_append,List.mem_singleton] at h
   rcases h with h | rfl
   ·obtain ⟨h1,d,h2,h3⟩:=xbg_mem k h
    exact ⟨h1,d,by omega,h3⟩
   ·exact ⟨rfl,k,by omega,rfl,hf⟩
theorem begL_spot (hk:tkcode m ps l=0) {p:Int × Int} (h:p∈begL m ps l):spOk m l p:=by
 obtain ⟨h1,d,h2,h3,_⟩:=xbg_mem _ h;exact ⟨by rw [h1];exact tk_beg hk,d,h2,h3⟩
theorem xpBh_spot (hk:tkcode m ps l=0) {s p:Int × Int} (hs:spOk m l s) (h:p∈xpBh m ps l s):spOk m l p:=behL_spot (pcode_m (tk_zero hk).1).1 hs.1 h
theorem xpP_zero (hk:tkcode m ps l=0):∀ p∈xpP m ps l 0,spOk m l p:=fun p hp=>by
 rcases (plTo_iff _ _ _).1 hp with h | h
 ·exact absurd h List.not_mem_nil
 ·exact begL_spot hk h
theorem xpAt_mem {k:Nat} (h:k < (xpP m ps l k).length):xpAt m ps l k∈xpP m ps l k:=by
 unfold xpAt;rw [List.getD_eq_getElem?_getD,List.getElem?_eq_getElem h]
 exact List.getElem_mem _
theorem xpP_next (hk:tkcode m ps l=0) {k:Nat} (hl:k < (xpP m ps l k).length) (h:∀ p∈xpP m ps l k,spOk m l p):∀ p∈xpP m ps l (k+1),spOk m l p:=fun p hp=>by
 rw [xpP_succ] at hp
 rcases (plTo_iff _ _ _).1 hp with h1 | h1
 ·exact h p h1
 ·exact xpBh_spot hk (h _ (xpAt_mem hl)) h1
end
def ExDone (m:Mo) (ps:List (List (Int × Int))) (l:List (Int × Int)) (K:Nat):Prop:=(xpP m ps l K).length=K/\K <= 20000/\(∀ j,j < K->j < (xpP m ps l j).length)/\∀ p∈xpP m ps l K,spOk m l p
def ExFull (m:Mo) (ps:List (List (Int × Int))) (l:List (Int × Int)):Prop:=∃ k,(∀ j,j <= k->j < (xpP m ps l j).length)/\20000 < (xpP m ps l (k+1)).length
def GrX (w:World) (base:Nat) (m:Mo) (ps:List (List (Int × Int))) (l:List (Int × Int)) (K:Nat) (sv nv tv:Value):Prop:=SpO w base sv (xpP m ps l K)/\LsAt w base nv tv (xpN m ps l K)/\w.ownsRow base 3 1 tv (xpT m ps l K).length (ivals (xpT m ps l K))
def ExAns (w:World) (m:Mo) (ps:List (List (Int × Int))) (l:List (Int × Int)) (e:Ending) (w':World):Prop:=
 (tkcode m ps l=0/\∃ K,ExDone m ps l K/\∃ sv nv tv,e=.returned (.tuple #[.agg #[sv,.int .i64 ((begL m ps l).length:Nat),nv,tv,.int .i64 ((aheadL l).length:Nat)],.int .i64 0])/\Below w.heap.size w w'/\Hid (GrX w' w.heap.size m ps l K sv nv tv))\/
 (tkcode m ps l=0/\ExFull m ps l/\e=.returned (.tuple #[.agg #[.slice none 0 0,.int .i64 0,.slice none 0 0,.slice none 0 0,.int .i64 0],.int .i64 12])/\Below w.heap.size w w')\/
 (tkcode m ps l≠0/\e=.returned (.tuple #[.agg #[.slice none 0 0,.int .i64 0,.slice none 0 0,.slice none 0 0,.int .i64 0],.int .i64 (tkcode m ps l)])/\Below w.heap.size w w')
theorem ex_not_both {m:Mo} {ps:List (List (Int × Int))} {l:List (Int × Int)} {K:Nat} (h:ExDone m ps l K):¬ ExFull m ps l:=by
 rintro ⟨k,h1,h2⟩
 obtain ⟨d1,d2,_,_⟩:=h
 by_cases hk:k+1 <= K
 ·have:=(exS_le (begL m ps l) (xpBh m ps l) hk).length_le
  unfold xpP at h2 d1;omega
 ·have:=h1 K (by omega)
  omega
def grB (sv nv tv:Value) (init many:Int):Obj:=.cells #[sv,.int .i64 init,nv,tv,.int .i64 many] 64 (0,0)
section
variable {w w' : World} {X : Nat} {sv nv tv : Value} {init many : Int}
theorem grB_cells (hb:w.heap[X]? = some (grB sv nv tv init many)):w.cell? ⟨X,0,none⟩=some sv/\w.cell? ⟨X,1,none⟩=some (.int .i64 init)/\w.cell? ⟨X,2,none⟩=some nv/\w.cell? ⟨X,3,none⟩=some tv/\w.cell? ⟨X,4,none⟩=some (.int .i64 many):=by
 unfold grB at hb;refine ⟨?_,?_,?_,?_,?_⟩ <;> simp [World.cell?,hb]
theorem grB_free (hb:w.heap[X]? = some (grB sv nv tv init many)) (i:Nat):w.frozen? ⟨X,i,none⟩=false:=by
 unfold grB at hb;simp [World.frozen?,hb]
theorem chg_box (w:World) (X:Nat) (a b c d e:Value):Chg (fun i=>i=X) w (((((w.setCell ⟨X,0,none⟩ a).setCell ⟨X,1,none⟩ b).setCell ⟨X,2,none⟩ c).setCell ⟨X,3,none⟩ d).setCell ⟨X,4,none⟩ e):=
 (((((Chg.setCell w ⟨X,0,none⟩ a).trans (Chg.setCell _ ⟨X,1,none⟩ b)).trans (Chg.setCell _ ⟨X,2,none⟩ c)).trans (Chg.setCell _ ⟨X,3,none⟩ d)).trans (Chg.setCell _ ⟨X,4,none⟩ e))
theorem GrX.chg {base K:Nat} {m:Mo} {ps:List (List (Int × Int))} {l:List (Int × Int)} (h:GrX w base m ps l K sv nv tv) (hs:Chg (fun i=>i=X) w w') (ht:TyB w X 64):GrX w' base m ps l K sv nv tv:=by
 obtain ⟨h1,h2,h3⟩:=h;obtain ⟨us,n1,_⟩:=id h2;have hno:∀ g t,TyB w g t->t≠64->g≠X:=fun g t hg hn e=>hn (hg.eq (e ▸ ht))
 exact ⟨owns_chg h1 hs (fun g e=>hno g _ (owns_ty h1 e).2 (by decide)),h2.chg hs (fun i z=>⟨fun e=>hno i _ (owns_ty n1 e).2 (by decide) z,fun _ _ _ _ _ hi=>hno i _ hi (by decide) z⟩),owns_chg h3 hs (fun g e=>hno g _ (owns_ty h3 e).2 (by decide))⟩
theorem LsAt.mono {base base':Nat} {N:List (List Int)} (h:LsAt w base nv tv N) (hb:base' <= base):LsAt w base' nv tv N:=by
 obtain ⟨us,h1,h2,h3⟩:=h;refine ⟨us,owns_mono h1 hb,h2,fun i hi=>?_⟩
 obtain ⟨ao,c,e1,e2,e3,e4⟩:=h3 i hi;exact ⟨ao,c,e1,e2,e3,fun a e=>⟨(e4 a e).1,Nat.le_trans hb (e4 a e).2⟩⟩
end
end Go.Proofs.YtfnobbpbmelgnaaGreatDoor
namespace Go.Proofs.YtfnobbpbmelgnaaGreatDoor
open Go.ChangeShapes Go.WideShapes Go.ChangeAt Go.RowKit Go.Deep
open Terms Tm
set_option maxHeartbeats 6400000
set_option maxRecDepth 20000
section
variable {m : Mo} {l : List (Int × Int)}
end
theorem xp_bound {m:Mo} {ps:List (List (Int × Int))} {l:List (Int × Int)} {k P:Nat} (hP:prodTo m.vars m.vars.length=(P:Nat)) (hs:∀ p∈xpP m ps l k,spOk m l p):(xpP m ps l k).length <= P*2 ^ (aheadL l).length:=by
 have hnd:(xpP m ps l k).Nodup:=exS_nodup _ _ k
 have hcode:∀ p∈xpP m ps l k,0 <= p.1*((2 ^ (aheadL l).length:Nat):Int)+p.2/\p.1*((2 ^ (aheadL l).length:Nat):Int)+p.2 < ((P*2 ^ (aheadL l).length:Nat):Int):=fun p hp=>by
  obtain ⟨⟨h1,h2⟩,d,h3,h4⟩:=hs p hp;generalize 2 ^ (aheadL l).length=N at *;have h5:p.1*(N:Int) <= ((P:Int) - 1)*N:=Int.mul_le_mul_of_nonneg_right (by omega) (by omega)
  have h6:0 <= p.1*(N:Int):=Int.mul_nonneg h1 (by omega)
  have h7:((P:Int) - 1)*(N:Int)=(P:Int)*N - N:=by rw [Int.sub_mul];omega
  have h8:((P*N:Nat):Int)=(P:Int)*N:=by push_cast;rfl
  omega
 have hnd2:((xpP m ps l k).map fun p=>p.1*((2 ^ (aheadL l).length:Nat):Int)+p.2).Nodup:=by
  refine List.Pairwise.map _ (fun a b hab=>hab) ?_
  refine List.Pairwise.imp_of_mem ?_ hnd
  intro a b ha hb hne e;obtain ⟨_,d,h3,h4⟩:=hs a ha;obtain ⟨_,d',h3',h4'⟩:=hs b hb;generalize 2 ^ (aheadL l).length=N at *;have hN:(0:Int) < N:=by omega
  have e1:a.2=b.2:=by
   rw [h4,h4'];have r1:((d:Int)+a.1*N) % (N:Int)=(d:Int):=by rw [Int.add_mul_emod_self_right];exact Int.emod_eq_of_lt (by omega) (by omega)
   have r2:((d':Int)+b.1*N) % (N:Int)=(d':Int):=by rw [Int.add_mul_emod_self_right];exact Int.emod_eq_of_lt (by omega) (by omega)
   have e':(d:Int)+a.1*N=(d':Int)+b.1*N:=by rw [h4,h4'] at e;omega
   rw [<- r1,<- r2,e']
  have e2:a.1*(N:Int)=b.1*N:=by omega
  exact hne (Prod.ext (Int.eq_of_mul_eq_mul_right (by omega) e2) e1)
 have:=nodup_length (N:=P*2 ^ (aheadL l).length) hnd2 (fun y hy=>by
  obtain ⟨p,hp,rfl⟩:=List.mem_map.1 hy
  exact hcode p hp)
 rw [List.length_map] at this;exact this
theorem xp_few {m:Mo} {ps:List (List (Int × Int))} {l:List (Int × Int)} {P:Nat} (hk:tkcode m ps l=0) (hP:prodTo m.vars m.vars.length=(P:Nat)) (hz:P*2 ^ (aheadL l).length <= 20000):¬ ExFull m ps l:=by
 rintro ⟨k,h1,h2⟩
 have hs:∀ j,j <= k+1->∀ p∈xpP m ps l j,spOk m l p:=fun j=>by
  induction j with
  | zero=>exact fun _=>xpP_zero hk
  | succ j ih=>exact fun hj=>xpP_next hk (h1 j (by omega)) (ih (by omega))
 have:=xp_bound hP (hs (k+1) (Nat.le_refl _));omega
end Go.Proofs.YtfnobbpbmelgnaaGreatDoor
namespace Go.Proofs.YtfnobbpbmelgnaaGreatDoor
open Go.ChangeShapes Go.WideShapes Go.ChangeAt Go.RowKit Go.Deep Go.Maps
open Terms Tm
set_option maxHeartbeats 6400000
set_option maxRecDepth 20000
theorem explore_bad (va vr pv fv:Value) (m:Mo) (ps:List (List (Int × Int))) (l:List (Int × Int)) (w:World) (hB:0 < w.heap.size) (hT:TabAt w) (hV:TaskV w va vr pv fv m ps l) (hk:tkcode m ps l≠0) :
  Calls Tryz.prog 15 #[.agg #[va,vr,pv,fv]] w (ExAns w m ps l):=by
 unfold ExAns;obtain ⟨ao,ac,rfl⟩:=hV.mo.1.shape;obtain ⟨ro,rc,rfl⟩:=hV.mo.2.shape;obtain ⟨po,pc,rfl⟩:=hV.ps.shape;obtain ⟨fo,fc,rfl,_⟩:=id hV.fo
 obtain ⟨W0,hW0⟩:∃ W0,W0=(w.alloc (.cells #[.slice ao m.vars.length ac,.slice ro m.rules.length rc,.slice po ps.length pc,.slice fo l.length fc] 34)).alloc (.cells #[.slice none 0 0,.int .i64 0,.slice none 0 0,.slice none 0 0,.int .i64 0] 64):=⟨_,rfl⟩
 have hbW:Below w.heap.size w W0:=by rw [hW0];exact ((Below.refl _ _).alloc (Nat.le_refl _) _).alloc (by simp) _
 have hzW:W0.heap.size=w.heap.size+2:=by rw [hW0];simp
 have hX0:W0.heap[w.heap.size+1]? = some (grB (.slice none 0 0) (.slice none 0 0) (.slice none 0 0) 0 0):=by
  rw [hW0];have:=(MapKept.heap_alloc (w.alloc (.cells #[.slice ao m.vars.length ac,.slice ro m.rules.length rc,.slice po ps.length pc,.slice fo l.length fc] 34)) (.cells #[.slice none 0 0,.int .i64 0,.slice none 0 0,.slice none 0 0,.int .i64 0] 64)).1;rw [World.size_alloc] at this;exact this
 have hsv:=surveyOf_bad _ _ _ _ m ps l W0 (Nat.lt_of_lt_of_le hB hbW.size) (hT.below hbW hB) (hV.below hbW) hk
 have HFin:Hid (∀ w1,Below W0.heap.size W0 w1->(w1.cell? ⟨w.heap.size+1,0,none⟩=some (.slice none 0 0)/\w1.cell? ⟨w.heap.size+1,1,none⟩=some (.int .i64 0)/\w1.cell? ⟨w.heap.size+1,2,none⟩=some (.slice none 0 0)/\w1.cell? ⟨w.heap.size+1,3,none⟩=some (.slice none 0 0)/\w1.cell? ⟨w.heap.size+1,4,none⟩=some (.int .i64 0))/\(∀ i,w1.frozen? ⟨w.heap.size+1,i,none⟩=false)/\Below w.heap.size w w1):=fun w1 h=>by
  have hb:=(h.block (w.heap.size+1) (by omega)).trans hX0
  exact ⟨grB_cells hb,grB_free hb,hbW.trans (h.mono hbW.size)⟩
 have HK:Hid (tkcode m ps l≠0):=hk;generalize tkcode m ps l=tc at *;generalize m.vars.length=vn at *;generalize m.rules.length=rn at *;generalize ps.length=pn at *;generalize l.length=fn at *;clear hV hT
 go_enter Tryz.func15,Tryz.ntmps15
 go_wp2_with (first | (go_at_call 25;rw [<- hW0];refine hsv.mono ?_;rintro e w1 ⟨rfl,hb1⟩;obtain ⟨⟨x0,x1,x2,x3,x4⟩,xf,hbw⟩:=HFin.out w1 hb1;have f0:=xf 0;have f1:=xf 1;have f2:=xf 2;have f3:=xf 3;have f4:=xf 4))
 have hbF:Below w.heap.size w (((((w1.setCell ⟨w.heap.size+1,0,none⟩ (.slice none 0 0)).setCell ⟨w.heap.size+1,1,none⟩ (.int .i64 0)).setCell ⟨w.heap.size+1,2,none⟩ (.slice none 0 0)).setCell ⟨w.heap.size+1,3,none⟩ (.slice none 0 0)).setCell ⟨w.heap.size+1,4,none⟩ (.int .i64 0)):=hbw.trans ((chg_box w1 (w.heap.size+1) _ _ _ _ _).below (fun i e=>by omega) (by have:=hbw.size;omega))
 refine bodyPost_ret (v:=.tuple #[.agg #[.slice none 0 0,.int .i64 0,.slice none 0 0,.slice none 0 0,.int .i64 0],.int .i64 tc]) ?_ rfl (.inr (.inr ⟨HK.out,rfl,hbF⟩))
 simp [results,Tryz.results15,go_sem,x0,x1,x2,x3,x4]
theorem ex_start (W0 w1 w2:World) (n:Nat) (va vr pv fv:Value) (m:Mo) (ps:List (List (Int × Int))) (l:List (Int × Int)) (ho:Option Addr) (hc:Nat) (so:Option Addr) (sc:Nat) (hk:tkcode m ps l=0) (hb1:Below W0.heap.size W0 w1) (hn:W0.heap.size <= n) (hs:SurvAt w1 (n+2) va vr pv fv (.slice ho (aheadL l).length hc) n (n+1)) (hor:w1.ownsRow W0.heap.size 3 1 (.slice ho (aheadL l).length hc) (aheadL l).length (ivals (aheadL l))) (hm:w1.heap[n]? = some (.map #[] 0)/\w1.heap[n+1]? = some (.map #[] 0)) (hb2:Below w1.heap.size w1 w2) (hsp:SpO w2 w1.heap.size (.slice so (begL m ps l).length sc) (begL m ps l)) :
  Calls Tryz.prog 27 #[.pointer (some ⟨w2.heap.size+1,0,none⟩),.slice so (begL m ps l).length sc] ((w2.alloc (.map #[] 0)).alloc (.cells #[.slice none 0 0,.int .i64 ((begL m ps l).length:Nat),.slice none 0 0,.slice none 0 0,.int .i64 ((aheadL l).length:Nat),.map (some w2.heap.size)] 93)) fun e w3=>∃ v sv,e=.returned v/\Hid (ExW W0 w3 w2.heap.size (w2.heap.size+1) w2.heap.size (n+2) n (n+1) (0*300001) va vr pv fv m ps l ho hc (xpP m ps l 0) (xpN m ps l 0) (xpT m ps l 0) ((begL m ps l).length:Nat) ((aheadL l).length:Nat) sv (.slice none 0 0) (.slice none 0 0)):=by
 have hbl:=begL_len hk;have hv1:SvOk (fun _=>True) W0 w1 (n+2) n (n+1) 0 va vr pv fv m ps l ho hc:=SvOk.made (Below.refl _ _) hb1 hn hs hor hm.1 hm.2
 have hv2:=hv1.below hb2;have hl1:=hv2.box.lt;have hl2:n < w2.heap.size:=by omega
 obtain ⟨WA,hWA⟩:∃ WA,WA=(w2.alloc (.map #[] 0)).alloc (.cells #[.slice none 0 0,.int .i64 ((begL m ps l).length:Nat),.slice none 0 0,.slice none 0 0,.int .i64 ((aheadL l).length:Nat),.map (some w2.heap.size)] 93):=⟨_,rfl⟩
 have hbA:Below w2.heap.size w2 WA:=by rw [hWA];exact ((Below.refl _ _).alloc (Nat.le_refl _) _).alloc (by simp) _
 have hmA:WA.heap[w2.heap.size]? = some (.map #[] 0):=by
  rw [hWA,Below.heap_alloc _ _ _ (by simp)]
  exact (MapKept.heap_alloc w2 _).1
 have hxA:WA.heap[w2.heap.size+1]? = some (atB (.slice none 0 0) (.slice none 0 0) (.slice none 0 0) ((begL m ps l).length:Nat) ((aheadL l).length:Nat) w2.heap.size):=by
  rw [hWA];have:=(MapKept.heap_alloc (w2.alloc (.map #[] 0)) (.cells #[.slice none 0 0,.int .i64 ((begL m ps l).length:Nat),.slice none 0 0,.slice none 0 0,.int .i64 ((aheadL l).length:Nat),.map (some w2.heap.size)] 93)).1;rw [World.size_alloc] at this;exact this
 have hX:ExW W0 WA w2.heap.size (w2.heap.size+1) w2.heap.size (n+2) n (n+1) (0*300001) va vr pv fv m ps l ho hc [] (xpN m ps l 0) (xpT m ps l 0) ((begL m ps l).length:Nat) ((aheadL l).length:Nat) (.slice none 0 0) (.slice none 0 0) (.slice none 0 0):=by
  refine ⟨((hv2.re (Pz':=offT (.slice none 0 0)) (fun _ _ _ e=>by simp [Value.ownBlock] at e) (fun _ _ e=>by simp [Value.ownBlock] at e)).below hbA).mono (by omega),⟨hxA,by omega,Nat.le_refl _,LiesAt.new hmA,SpO.nil _ _,⟨[],World.ownsRow_nil _ _ _ _,rfl,fun i hi=>by simp [xpN] at hi⟩,World.ownsRow_nil _ _ _ _⟩,?_,?_,?_,?_⟩
  ·have:=hv2.bel.size;omega
  ·omega
  ·omega
  ·omega
 have hsv:=(hsp.later hbA (Nat.le_refl _)).v;have hIs:∀ j,j < (begL m ps l).length->I64s ((begL m ps l).getD j (0,0)):=fun j hj=>spot_I64 hk (begL_spot hk (by rw [List.getD_eq_getElem?_getD,List.getElem?_eq_getElem hj];exact List.getElem_mem _))
 have hsep:∀ a,so=some a->¬ atZ (w2.heap.size+1) w2.heap.size (.slice none 0 0) a.block:=fun a e z=>by
  have hlt:a.block < w2.heap.size:=by
   rcases hsp.2 with ⟨h0,_⟩ | ⟨g,cap,cur,h1,_,h3,_⟩
   ·rw [e] at h0;simp at h0
   ·rw [e] at h1
    injection h1 with h1 _ _
    injection h1 with h1
    subst h1;exact (Array.getElem?_eq_some_iff.1 h3).1
  rcases z with z | z | z
  ·omega
  ·omega
  ·simp [Value.ownBlock] at z
 rw [<- hWA];refine (places_any WA w2.heap.size (w2.heap.size+1) w2.heap.size [] _ _ _ _ _ _ _ _ so sc hX.tl hsv hsep hIs (by simp;omega)).mono fun e w3 ⟨h1,sv',h2,h3,h4,h5,h6⟩=>?_
 exact ⟨_,sv',h1,hX.put h5 h2⟩
theorem ex_round (W0 wr:World) (base A lm B bs bl k:Nat) (va vr pv fv:Value) (m:Mo) (ps:List (List (Int × Int))) (l:List (Int × Int)) (ho:Option Addr) (hc:Nat) (init many:Int) (sv nv tv:Value) (hB:0 < W0.heap.size) (hT:TabAt W0) (hV:TaskV W0 va vr pv fv m ps l) (hk:tkcode m ps l=0) (hX:ExW W0 wr base A lm B bs bl (k*300001) va vr pv fv m ps l ho hc (xpP m ps l k) (xpN m ps l k) (xpT m ps l k) init many sv nv tv) (hlt:k < (xpP m ps l k).length) (hz:(xpP m ps l k).length <= 20000) (hsp:∀ p∈xpP m ps l k,spOk m l p) :
  Calls Tryz.prog 28 #[.pointer (some ⟨A,0,none⟩),.pointer (some ⟨B,0,none⟩),.agg #[.int .i64 (xpAt m ps l k).1,.int .i64 (xpAt m ps l k).2]] wr fun e w'=>e=.returned (.int .i64 (if 20000 < (xpP m ps l (k+1)).length then 12 else 0))/\∃ sv nv tv,Hid (ExW W0 w' base A lm B bs bl ((k+1)*300001) va vr pv fv m ps l ho hc (xpP m ps l (k+1)) (xpN m ps l (k+1)) (xpT m ps l (k+1)) init many sv nv tv):=by
 obtain ⟨h1,d,h2,h3⟩:=hsp _ (xpAt_mem hlt);have hgo:=goThrough_any W0 wr base A lm B bs bl (k*300001) va vr pv fv m ps l ho hc (xpP m ps l k) (xpN m ps l k) (xpT m ps l k) init many sv nv tv (xpAt m ps l k).1 d hB hT hV hk hX (by omega) h1 h2 hz (by rw [xpN_len];omega) (by rw [xpT_len];omega)
 unfold GoPost at hgo;rw [<- h3] at hgo;refine hgo.mono fun e w' ⟨g1,sv',nv',tv',g2⟩=>⟨g1,sv',nv',tv',?_⟩
 have e1:(k+1)*300001=k*300001+300001:=by omega
 rw [e1];exact g2
theorem explore_ok (va vr pv fv:Value) (m:Mo) (ps:List (List (Int × Int))) (l:List (Int × Int)) (w:World) (hB:0 < w.heap.size) (hT:TabAt w) (hV:TaskV w va vr pv fv m ps l) (hk:tkcode m ps l=0) :
  Calls Tryz.prog 15 #[.agg #[va,vr,pv,fv]] w (ExAns w m ps l):=by
 unfold ExAns;obtain ⟨ao,ac,rfl⟩:=hV.mo.1.shape;obtain ⟨ro,rc,rfl⟩:=hV.mo.2.shape;obtain ⟨po,pc,rfl⟩:=hV.ps.shape;obtain ⟨fo,fc,rfl,_⟩:=id hV.fo
 obtain ⟨W0,hW0⟩:∃ W0,W0=(w.alloc (.cells #[.slice ao m.vars.length ac,.slice ro m.rules.length rc,.slice po ps.length pc,.slice fo l.length fc] 34)).alloc (.cells #[.slice none 0 0,.int .i64 0,.slice none 0 0,.slice none 0 0,.int .i64 0] 64):=⟨_,rfl⟩
 have hbW:Below w.heap.size w W0:=by rw [hW0];exact ((Below.refl _ _).alloc (Nat.le_refl _) _).alloc (by simp) _
 have hzW:W0.heap.size=w.heap.size+2:=by rw [hW0];simp
 have hX0:W0.heap[w.heap.size+1]? = some (grB (.slice none 0 0) (.slice none 0 0) (.slice none 0 0) 0 0):=by
  rw [hW0];have:=(MapKept.heap_alloc (w.alloc (.cells #[.slice ao m.vars.length ac,.slice ro m.rules.length rc,.slice po ps.length pc,.slice fo l.length fc] 34)) (.cells #[.slice none 0 0,.int .i64 0,.slice none 0 0,.slice none 0 0,.int .i64 0] 64)).1;rw [World.size_alloc] at this;exact this
 have hB0:0 < W0.heap.size:=Nat.lt_of_lt_of_le hB hbW.size;have hT0:=hT.below hbW hB;have hV0:=hV.below hbW;have hsv:=surveyOf_ok _ _ _ _ m ps l W0 hB0 hT0 hV0 hk
 have HFin:Hid (∀ w1,Below W0.heap.size W0 w1->(w1.cell? ⟨w.heap.size+1,0,none⟩=some (.slice none 0 0)/\w1.cell? ⟨w.heap.size+1,1,none⟩=some (.int .i64 0)/\w1.cell? ⟨w.heap.size+1,2,none⟩=some (.slice none 0 0)/\w1.cell? ⟨w.heap.size+1,3,none⟩=some (.slice none 0 0)/\w1.cell? ⟨w.heap.size+1,4,none⟩=some (.int .i64 0))/\(∀ i,w1.frozen? ⟨w.heap.size+1,i,none⟩=false)/\TyB w1 (w.heap.size+1) 64/\Below w.heap.size w w1):=fun w1 h=>by
  have hb:=(h.block (w.heap.size+1) (by omega)).trans hX0
  exact ⟨grB_cells hb,grB_free hb,⟨_,_,hb⟩,hbW.trans (h.mono hbW.size)⟩
 have HBe:Hid (∀ (w1:World) (B bs bl:Nat) (ho:Option Addr) (hcp:Nat),Below W0.heap.size W0 w1->SurvAt w1 B (.slice ao m.vars.length ac) (.slice ro m.rules.length rc) (.slice po ps.length pc) (.slice fo l.length fc) (.slice ho (aheadL l).length hcp) bs bl->Calls Tryz.prog 26 #[.pointer (some ⟨B,0,none⟩)] w1 fun e w'=>∃ so sc,e=.returned (.tuple #[.slice so (begL m ps l).length sc,.int .i64 0])/\Below w1.heap.size w1 w'/\Hid (SpO w' w1.heap.size (.slice so (begL m ps l).length sc) (begL m ps l))):=fun w1 B bs bl ho hcp h hs=>begin_any B _ _ _ _ m ps l ho hcp bs bl w1 (Nat.lt_of_lt_of_le hB0 h.size) (hT0.below h hB0) (hV0.below h) hk hs
 have HSt:=(show Hid _ from fun (w1 w2:World) (n:Nat) (ho:Option Addr) (hc:Nat) (so:Option Addr) (sc:Nat)=>ex_start W0 w1 w2 n (.slice ao m.vars.length ac) (.slice ro m.rules.length rc) (.slice po ps.length pc) (.slice fo l.length fc) m ps l ho hc so sc hk)
 have HRd:=(show Hid _ from fun (wr:World) (base A lm B bs bl k:Nat) (ho:Option Addr) (hc:Nat) (sv nv tv:Value)=>ex_round W0 wr base A lm B bs bl k (.slice ao m.vars.length ac) (.slice ro m.rules.length rc) (.slice po ps.length pc) (.slice fo l.length fc) m ps l ho hc ((begL m ps l).length:Nat) ((aheadL l).length:Nat) sv nv tv hB0 hT0 hV0 hk)
 have HP0:Hid ((∀ p∈xpP m ps l 0,spOk m l p)/\(xpP m ps l 0).length <= 20000):=⟨xpP_zero hk,by
  have h1:=(plTo_length (begL m ps l) []).2;have h2:=begL_len hk;have e:xpP m ps l 0=plTo [] (begL m ps l):=rfl;rw [e];simp at h1
  omega⟩
 have HPn:Hid (∀ k,k < (xpP m ps l k).length->(∀ p∈xpP m ps l k,spOk m l p)->∀ p∈xpP m ps l (k+1),spOk m l p):=fun k h1 h2=>xpP_next hk h1 h2
 have HK:Hid (tkcode m ps l=0):=hk;have hbn:=begL_len hk;have han:=(lcode_zero (tk_zero hk).2).2.2.2.2;unfold SurvPost at hsv;clear hV hT hV0 hT0 hk;generalize hbl:(begL m ps l).length=bn at *;generalize hal:(aheadL l).length=an at *;generalize m.vars.length=vn at *;generalize m.rules.length=rn at *;generalize ps.length=pn at *;generalize l.length=fn at *
 have hmm:=@run_makeMap Tryz.prog
 go_enter Tryz.func15,Tryz.ntmps15
 go_upto_region 8 with (first | (go_at_call 25;rw [<- hW0];refine hsv.mono ?_;rintro e w1 ⟨n,ho,hcp,rfl,hb1,hn1,_,HS,HO,HM⟩;have hbe:=HBe.out w1 _ _ _ _ _ hb1 HS.out) | (go_at_call 26;refine hbe.mono ?_;rintro e w2 ⟨so,sc,rfl,hb2,HSp⟩;have hst:=HSt.out w1 w2 n ho hcp so sc hb1 hn1 HS.out HO.out HM.out hb2 HSp.out;have x4:=(HS.out.later hb2).c4))
 go_wp2_with (first | (go_at_call 27;refine hst.mono ?_;rintro e w3 ⟨v3,sv3,rfl,HX3⟩))
 generalize hA:w2.heap.size+1=A at *;generalize hlm:w2.heap.size=lm at *;generalize hBn:n+2=B at *;generalize hbs:n+1=bl at *;clear hst hsv hbe HSt HBe HS HO HM HSp x4 hb1 hb2 hmm hlm
 go_loopw [8] (fun i wr=>∃ k pk:Nat,i=.int .i64 k/\k <= pk/\pk <= 20000/\Hid ((xpP m ps l k).length=pk/\(∀ p∈xpP m ps l k,spOk m l p)/\∀ j,j < k->j < (xpP m ps l j).length)/\∃ vo vc nv tv,Hid (ExW W0 wr lm A lm B n bl (k*300001) (.slice ao vn ac) (.slice ro rn rc) (.slice po pn pc) (.slice fo fn fc) m ps l ho hcp (xpP m ps l k) (xpN m ps l k) (xpT m ps l k) (bn:Nat) (an:Nat) (.slice vo pk vc) nv tv)) (fun i _=>20001 - (intOf i).toNat)
 case atStart=>
  obtain ⟨vo,vc,e⟩:=HX3.out.tl.sp.shape;refine ⟨0,(xpP m ps l 0).length,rfl,Nat.zero_le _,HP0.out.2,⟨rfl,HP0.out.1,fun j hj=>by omega⟩,vo,vc,.slice none 0 0,.slice none 0 0,?_⟩
  rw [<- e];exact HX3.out
 case round=>
  obtain ⟨k,pk,rfl,hkp,hpk,HK2,vo,vc,nv,tv,HX⟩:=hrel;obtain ⟨a0,a1,a2,a3,a4,a5⟩:=atB_cells HX.out.tl.box
  by_cases hlt:k < pk
  ·have hki:(k:Int) < (pk:Int):=by omega
   have hlt2:k < (xpP m ps l k).length:=by rw [HK2.out.1];exact hlt
   obtain ⟨b,off,rfl,_,c0,c1⟩:=HX.out.tl.sp.v.get hlt2;have hrd:=HRd.out wr lm A lm B n bl k ho hcp _ nv tv HX.out hlt2 (by rw [HK2.out.1];exact hpk) HK2.out.2.1
   have HKn:Hid ((∀ p∈xpP m ps l (k+1),spOk m l p)/\∀ j,j < k+1->j < (xpP m ps l j).length):=⟨HPn.out k hlt2 HK2.out.2.1,fun j hj=>by
    by_cases h:j < k
    ·exact HK2.out.2.2 j h
    ·obtain rfl:j=k:=by omega
     exact hlt2⟩
   have e1:(xpP m ps l k).getD k (0,0)=xpAt m ps l k:=rfl;rw [e1] at c0 c1;clear e1 HX HRd hlt2;generalize xpAt m ps l k=s at *;obtain ⟨x,y⟩:=s;simp only at c0 c1 hrd
   by_cases hfull:20000 < (xpP m ps l (k+1)).length
   ·rw [if_pos hfull] at hrd
    have HFu:Hid (ExFull m ps l):=⟨k,fun j hj=>HKn.out.2 j (by omega),hfull⟩
    clear hfull HKn HK2
    go_wp2_with (first | (go_at_call 28;refine hrd.mono ?_;rintro e w4 ⟨rfl,sv4,nv4,tv4,HX4⟩;obtain ⟨⟨x0,x1,x2,x3,x4⟩,xf,_,hbw⟩:=HFin.out w4 HX4.out.su.bel;have f0:=xf 0;have f1:=xf 1;have f2:=xf 2;have f3:=xf 3;have f4:=xf 4))
    have hbF:Below w.heap.size w (((((w4.setCell ⟨w.heap.size+1,0,none⟩ (.slice none 0 0)).setCell ⟨w.heap.size+1,1,none⟩ (.int .i64 0)).setCell ⟨w.heap.size+1,2,none⟩ (.slice none 0 0)).setCell ⟨w.heap.size+1,3,none⟩ (.slice none 0 0)).setCell ⟨w.heap.size+1,4,none⟩ (.int .i64 0)):=hbw.trans ((chg_box w4 (w.heap.size+1) _ _ _ _ _).below (fun i e=>by omega) (by have:=hbw.size;omega))
    refine bodyPost_ret (v:=.tuple #[.agg #[.slice none 0 0,.int .i64 0,.slice none 0 0,.slice none 0 0,.int .i64 0],.int .i64 12]) ?_ rfl (.inr (.inl ⟨HK.out,HFu.out,rfl,hbF⟩))
    simp [results,Tryz.results15,go_sem,x0,x1,x2,x3,x4]
   ·rw [if_neg hfull] at hrd
    have HLe:Hid ((xpP m ps l (k+1)).length <= 20000/\pk <= (xpP m ps l (k+1)).length):=⟨by omega,by
     rw [<- HK2.out.1]
     exact (exS_pre (begL m ps l) (xpBh m ps l) k).length_le⟩
    clear hfull HK2
    go_wp2_with (first | (go_at_call 28;refine hrd.mono ?_;rintro e w4 ⟨rfl,sv4,nv4,tv4,HX4⟩))
    go_roundw
    case rel=>
     obtain ⟨vo4,vc4,e⟩:=HX4.out.tl.sp.shape;refine ⟨k+1,(xpP m ps l (k+1)).length,by go_num,by have:=HLe.out.2;omega,HLe.out.1,⟨rfl,HKn.out⟩,vo4,vc4,nv4,tv4,?_⟩
     rw [<- e];exact HX4.out
    case measure=>simp [intOf];omega
  ·obtain rfl:k=pk:=by omega
   obtain ⟨⟨x0,x1,x2,x3,x4⟩,xf,hty,hbw⟩:=HFin.out wr HX.out.su.bel;have f0:=xf 0;have f1:=xf 1;have f2:=xf 2;have f3:=xf 3;have f4:=xf 4;have HDn:Hid (ExDone m ps l k):=⟨HK2.out.1,hpk,HK2.out.2.2,HK2.out.2.1⟩
   have HG:Hid (GrX wr w.heap.size m ps l k (.slice vo k vc) nv tv):=by
    have hle:w.heap.size <= lm:=by have:=HX.out.lo.1;have:=hbW.size;omega
    exact ⟨owns_mono HX.out.tl.sp hle,HX.out.tl.nx.mono hle,owns_mono HX.out.tl.st hle⟩
   obtain ⟨no,nn,nc,rfl⟩:∃ no nn nc,nv=.slice no nn nc:=by
    obtain ⟨us,h1,_⟩:=HX.out.tl.nx;obtain ⟨x,y,e⟩:=owns_slice h1;exact ⟨_,_,_,e⟩
   obtain ⟨xo,xn,xc,rfl⟩:∃ xo xn xc,tv=.slice xo xn xc:=by
    obtain ⟨x,y,e⟩:=owns_slice HX.out.tl.st;exact ⟨_,_,_,e⟩
   have HBF:Hid (∀ w8,Chg (fun i=>i=w.heap.size+1) wr w8->Below w.heap.size w w8/\GrX w8 w.heap.size m ps l k (.slice vo k vc) (.slice no nn nc) (.slice xo xn xc)):=fun w8 h=>⟨hbw.trans (h.below (fun i e=>by omega) (by have:=hbw.size;omega)),HG.out.chg h hty⟩
   clear HX HK2 HRd HG hty
   go_wp2_with fail
   obtain ⟨r1,r2⟩:=HBF.out _ (chg_box wr (w.heap.size+1) _ _ _ _ _);refine bodyPost_ret (v:=.tuple #[.agg #[.slice vo k vc,.int .i64 (bn:Nat),.slice no nn nc,.slice xo xn xc,.int .i64 (an:Nat)],.int .i64 0]) ?_ rfl (.inl ⟨HK.out,k,HDn.out,_,_,_,rfl,r1,r2⟩)
   simp [results,Tryz.results15,go_sem,x0,x1,x2,x3,x4]
theorem explore_any (va vr pv fv:Value) (m:Mo) (ps:List (List (Int × Int))) (l:List (Int × Int)) (w:World) (hB:0 < w.heap.size) (hT:TabAt w) (hV:TaskV w va vr pv fv m ps l) :
  Calls Tryz.prog 15 #[.agg #[va,vr,pv,fv]] w (ExAns w m ps l):=by
 by_cases hk:tkcode m ps l=0
 ·exact explore_ok va vr pv fv m ps l w hB hT hV hk
 ·exact explore_bad va vr pv fv m ps l w hB hT hV hk
end Go.Proofs.YtfnobbpbmelgnaaGreatDoor
namespace Go.Proofs.YtfnobbpbmelgnaaGreatDoor
open Go.ChangeShapes Go.WideShapes Go.ChangeAt Go.RowKit Go.Deep
open Terms
set_option maxHeartbeats 6400000
set_option maxRecDepth 20000
def clmTo (a:List Int) (h:Nat->Nat->Bool) (j:Nat):Nat->Int
 | 0=>0
 | k+1=>clmTo a h j k+if h (a.getD k 0).toNat j=true then 2 ^ k else 0
theorem clmTo_bounds (a:List Int) (h:Nat->Nat->Bool) (j:Nat):∀ k,0 <= clmTo a h j k/\clmTo a h j k < 2 ^ k:=by
 intro k
 induction k with
 | zero=>simp [clmTo]
 | succ k ih=>
  have h2:(0:Int) < 2 ^ k:=Int.pow_pos (by decide)
  simp only [clmTo];rw [Int.pow_succ]
  split <;> omega
