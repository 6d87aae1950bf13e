/- Joined texts. -/
import Derived.Test.YtlepcjafgdlmgaaDoorLateA
import Derived.Deep.Cut
import Derived.Test.YtlepcjafgdlmgaaDoorTasksOf
namespace Go.Proofs.YtlepcjafgdlmgaaDoor
open Terms Tm
set_option maxHeartbeats 6400000
set_option maxRecDepth 20000
theorem wordsB_len (vars:List Vr) (l:List (Int × Int)):(wordsB vars l).length=l.length:=by simp [wordsB]
theorem words_line {vars:List Vr} {l:List (Int × Int)} (hd:ByteArray) (hh:hd.data.toList.length <= 5) (h:TermFit vars l) (hn:NamesFit vars):([hd]++wordsB vars l).length <= 100/\(lineL ([hd]++wordsB vars l)).length <= 70000000:=by
 have h1:=h.1;have h2:=h.len hn;refine ⟨by rw [List.length_append,wordsB_len];simp;omega,?_⟩
 rw [line_words,List.length_append,List.length_append]
 simp
 simp at hh
 omega
theorem name_len {vars:List Vr} (hn:NamesFit vars) {i:Nat} (hi:i < vars.length):(nmL (vars.getD i vr0)).length <= 1000000:=by
 have:=hn i hi;unfold nmL;simpa using this
theorem line_len {m:Mo} {ps:List (List (Int × Int))} {l:List (Int × Int)} (hf:TkFit m ps l):∀ x∈linesW m ps l,x.length <= 100/\(lineL x).length <= 70000000:=by
 intro x hx;unfold linesW at hx
 rcases List.mem_append.1 hx with hx | hx
 ·rcases List.mem_append.1 hx with hx | hx
  ·rcases List.mem_append.1 hx with hx | hx
   ·obtain ⟨v,hv,rfl⟩:=List.mem_map.1 hx
    obtain ⟨i,hi,rfl⟩:=List.getElem_of_mem hv;have hnm:=name_len hf.names hi;obtain ⟨n1,n2,n3⟩:=hf.nums i hi;rw [List.getD_eq_getElem?_getD,List.getElem?_eq_getElem hi,Option.getD_some] at hnm n1 n2 n3
    have i1:=itoa_len n1.1 n1.2;have i2:=itoa_len n2.1 n2.2;have i3:=itoa_len n3.1 n3.2;refine ⟨by simp [varWd],?_⟩
    rw [line_var];unfold varL;simp only [List.length_append,List.length_cons,List.length_nil];omega
   ·obtain ⟨r,hr,hx⟩:=List.mem_flatMap.1 hx
    obtain ⟨i,hi,rfl⟩:=List.getElem_of_mem hr;have hg:=hf.guard i hi;have hs:=hf.setv i hi;rw [List.getD_eq_getElem?_getD,List.getElem?_eq_getElem hi,Option.getD_some] at hg hs
    unfold rulesWd at hx
    rcases List.mem_cons.1 hx with rfl | hx
    ·exact words_line bRule (by decide) hg hf.names
    ·obtain ⟨s,hsm,rfl⟩:=List.mem_map.1 hx
     obtain ⟨j,hj,rfl⟩:=List.getElem_of_mem hsm;have hsj:=hs j hj;rw [List.getD_eq_getElem?_getD,List.getElem?_eq_getElem hj,Option.getD_some] at hsj
     obtain ⟨⟨v0,v1⟩,ht⟩:=hsj;have h1:=ht.1;have h2:=ht.len hf.names;have h3:=name_len hf.names (i:=m.rules[i].sets[j].var.toNat) (by omega)
     refine ⟨by unfold setWd;rw [List.length_append,wordsB_len];simp;omega,?_⟩
     rw [line_set];unfold setL;simp only [List.length_append,List.length_cons,List.length_nil];omega
  ·obtain ⟨p,hp,rfl⟩:=List.mem_map.1 hx
   obtain ⟨i,hi,rfl⟩:=List.getElem_of_mem hp;have hg:=hf.props i hi;rw [List.getD_eq_getElem?_getD,List.getElem?_eq_getElem hi,Option.getD_some] at hg
   exact words_line bProp (by decide) hg hf.names
 ·obtain rfl:=List.mem_singleton.1 hx
  exact words_line bCheck (by decide) hf.form hf.names
theorem posR_le {m:Mo} {ps:List (List (Int × Int))} {l:List (Int × Int)} (hf:TkFit m ps l):∀ k,k <= m.rules.length->posR m k <= 6+k*7
 | 0,_=>by rw [posR_zero];have:=hf.nv;omega
 | k+1,hk=>by
  rw [posR_succ (by omega)]
  have h1:=posR_le hf k (by omega)
  have h2:=hf.nsets k (by omega)
  omega
theorem lines_few {m:Mo} {ps:List (List (Int × Int))} {l:List (Int × Int)} (hf:TkFit m ps l):(linesW m ps l).length <= 100:=by
 rw [lines_len];have h1:=posR_le hf m.rules.length (Nat.le_refl _);have h2:=hf.nr;have h3:=hf.np;omega
def textL (m:Mo) (ps:List (List (Int × Int))) (l:List (Int × Int)) (k:Nat):List UInt8:=((linesW m ps l).take k).flatMap lineL
theorem text_len {m:Mo} {ps:List (List (Int × Int))} {l:List (Int × Int)} (hf:TkFit m ps l) {k:Nat} (hk:k <= (linesW m ps l).length):(textL m ps l k).length <= 7000000000:=by
 have h1:=flatMap_len lineL [] (l:=linesW m ps l) (B:=70000000) (fun i hi=>(line_len hf _ (by rw [List.getD_eq_getElem?_getD,List.getElem?_eq_getElem hi,Option.getD_some];exact List.getElem_mem hi)).2) k hk
 have h2:=lines_few hf;have h3:k*70000000 <= 100*70000000:=Nat.mul_le_mul_right _ (by omega)
 unfold textL;omega
theorem text_snoc {m:Mo} {ps:List (List (Int × Int))} {l:List (Int × Int)} {k:Nat} (h:k < (linesW m ps l).length):textL m ps l (k+1)=textL m ps l k++Lib.join (((linesW m ps l).getD k []).map (·.data.toList)) [32]++[10]:=by
 unfold textL;rw [flatMap_snoc lineL [] h];unfold lineL;rw [List.append_assoc]
theorem text_all {m:Mo} {ps:List (List (Int × Int))} {l:List (Int × Int)}:textL m ps l (linesW m ps l).length=showL m ps l:=by
 unfold textL;rw [List.take_length,show_lines]
end Go.Proofs.YtlepcjafgdlmgaaDoor
namespace Go.Proofs.YtlepcjafgdlmgaaDoor
open Go.ChangeShapes Go.WideShapes Go.ChangeAt Go.RowKit Go.Deep Go.Shelf
open Terms Tm
set_option maxHeartbeats 6400000
set_option maxRecDepth 20000
attribute [local go_sem] Oper.semAt_some
theorem isb_kept {T e:TypeId} {B b:Nat} {bs:List Value} {w w':World} (h:Lib.IsBuilderF T e B b bs w) (hk:∀ (k:Nat) c t fr,w.heap[k]? = some (.cells c t fr)->w'.heap[k]? = some (.cells c t fr)):Lib.IsBuilderF T e B b bs w':=by
 have one:∀ p,Lib.BuilderAtF T e B b p bs w->Lib.BuilderAtF T e B b p bs w':=fun p ⟨hB,v,hb,hown,hne⟩=>by
  refine ⟨hB,v,hk _ _ _ _ hb,⟨hown.1,?_⟩,hne⟩
  rcases hown.2 with hn | ⟨g,cap,cur,fz,hv,hb2,hg,rest⟩
  ·exact .inl hn
  ·exact .inr ⟨g,cap,cur,fz,hv,hb2,hk _ _ _ _ hg,rest⟩
 exact h.elim (fun h=>.inl (one _ h)) (fun h=>.inr (one _ h))
theorem lines_fn (P:Nat) (w:World):Calls Tryd.prog 12 #[.pointer (some ⟨P,0,none⟩)] w fun e w'=>e=.returned (.func (.func 24) #[] #[.pointer (some ⟨w.heap.size,0,none⟩)])/\w'=w.alloc (.cells #[.pointer (some ⟨P,0,none⟩)] 70):=by
 go_enter Tryd.func12,Tryd.ntmps12
 go_wp2_with fail
 go_ret
 exact ⟨by first | rfl | simp,by first | rfl | simp⟩
structure ShI (W0:World) (P Bp:Nat) (m:Mo) (ps:List (List (Int × Int))) (l:List (Int × Int)) (k:Nat) (W:World):Prop where
 ln:LnW W0 P Bp W
 bld:Lib.IsBuilderF 45 5 W0.heap.size W0.heap.size (Lib.byteCells (textL m ps l k)) W
section
variable {W0 A B : World} {P Bp k : Nat} {m : Mo} {ps : List (List (Int × Int))} {l : List (Int × Int)}
theorem ShI.later (h:ShI W0 P Bp m ps l k A) (hb:Below A.heap.size A B):ShI W0 P Bp m ps l k B:=
 ⟨h.ln.keep hb,isb_kept h.bld fun i _ _ _ hi=>(hb.block i (Array.getElem?_eq_some_iff.1 hi).1).trans hi⟩
theorem ShI.kept {row:Option Nat} {n:Nat} (h:ShI W0 P Bp m ps l k A) (hn:W0.heap.size <= n) (hg:A.grownBy B row) (hr:∀ r,row=some r->n <= r/\∃ o:Obj,A.heap[r]? = some o/\o.isCells=false):ShI W0 P Bp m ps l k B:=by
 have hk:∀ (i:Nat) c t fr,A.heap[i]? = some (.cells c t fr)->B.heap[i]? = some (.cells c t fr):=fun i c t fr hi=>(hg.block i (Array.getElem?_eq_some_iff.1 hi).1 (fun e=>by
  obtain ⟨_,o,ho,hc⟩:=hr i e.symm;rw [hi] at ho;obtain rfl:=Option.some.inj ho
  simp [Obj.isCells] at hc)).trans hi
 exact ⟨⟨h.ln.bel.grown hg h.ln.bel.size (fun r e=>Nat.le_trans hn (hr r e).1),hk _ _ _ _ h.ln.box⟩,isb_kept h.bld hk⟩
end
theorem LineAt.kept {A B:World} {v:Value} {x:List ByteArray} {row:Option Nat} (h:LineAt A v x) (hg:A.grownBy B row) (hr:∀ r,row=some r->∃ o:Obj,A.heap[r]? = some o/\o.isCells=false):LineAt B v x:=by
 obtain ⟨b,c,h1,h2,h3,h4⟩:=h;refine ⟨b,c,h1,h2,Nat.lt_of_lt_of_le h3 hg.size,fun j y hj=>?_⟩
 have h5:=h4 j y hj;refine (World.cell?_of_block (hg.block b h3 fun e=>?_)).trans h5
 obtain ⟨o,ho,hc⟩:=hr b e.symm;unfold World.cell? at h5;rw [ho] at h5
 cases o <;> simp [Obj.isCells] at hc h5
def shAct (n0:Nat) (v:Value) (r:Nat->Value):Act:=⟨#[r 0,r 1,r 2,r 3,r 4,r 5,.pointer (some ⟨n0,0,none⟩),v,r 8,r 9,r 10,r 11,r 12,r 13,r 14,r 15,r 16,r 17,r 18,r 19,r 20,r 21],[]⟩
theorem show_bad (va vr pv fv:Value) (m:Mo) (ps:List (List (Int × Int))) (l:List (Int × Int)) (w:World) (hB:0 < w.heap.size) (hT:TabAt w) (hV:TaskV w va vr pv fv m ps l) (hk:tkcode m ps l≠0) :
  Calls Tryd.prog 5 #[.agg #[va,vr,pv,fv]] w fun e w'=>e=.returned (.tuple #[.string ⟨#[]⟩,.int .i64 (tkcode m ps l)])/\Below w.heap.size w w':=by
 have hA1:Below w.heap.size w (w.alloc (.cells #[va,vr,pv,fv] 29)):=(Below.refl _ _).alloc (Nat.le_refl _) _;have hck:=pcheck_any va vr pv fv m ps l _ (Nat.lt_of_lt_of_le hB hA1.size) (hT.below hA1 hB) (hV.below hA1)
 have HT:Hid (∀ w',Below w.heap.size w w'->0 < w'.heap.size/\TabAt w'/\TaskV w' va vr pv fv m ps l):=fun w' h=>⟨Nat.lt_of_lt_of_le hB h.size,hT.below h hB,hV.below h⟩
 generalize tkcode m ps l=c at *;have hk1:(c != 0)=true:=by simpa using hk
 clear hk;obtain ⟨vo,vc,rfl,_⟩:=id hV.mo.1;obtain ⟨ro,rc,rfl,_⟩:=id hV.mo.2;obtain ⟨po,pc,rfl,_⟩:=id hV.ps;obtain ⟨fo,fc,rfl,_⟩:=id hV.fo;clear hB hT hV
 go_enter Tryd.func5,Tryd.ntmps5
 go_upto_region 2 with (go_at_call 11;refine hck.mono ?_;rintro e w1 ⟨rfl,hb1⟩)
 have hbw1:=hA1.trans (hb1.mono hA1.size)
 go_wp2_with fail
 refine bodyPost_ret (v:=.tuple #[.string ⟨#[]⟩,.int .i64 c]) ?_ rfl ⟨rfl,hbw1⟩
 simp [results,Tryd.results5,go_sem]
theorem show_ok (va vr pv fv:Value) (m:Mo) (ps:List (List (Int × Int))) (l:List (Int × Int)) (w:World) (hB:0 < w.heap.size) (hT:TabAt w) (hV:TaskV w va vr pv fv m ps l) (hk:tkcode m ps l=0) :
  Calls Tryd.prog 5 #[.agg #[va,vr,pv,fv]] w fun e w'=>e=.returned (.tuple #[.string ⟨(showL m ps l).toArray⟩,.int .i64 0])/\Below w.heap.size w w':=by
 have hA1:Below w.heap.size w (w.alloc (.cells #[va,vr,pv,fv] 29)):=(Below.refl _ _).alloc (Nat.le_refl _) _;have hck:=pcheck_any va vr pv fv m ps l _ (Nat.lt_of_lt_of_le hB hA1.size) (hT.below hA1 hB) (hV.below hA1)
 have HT:Hid (∀ w',Below w.heap.size w w'->0 < w'.heap.size/\TabAt w'/\TaskV w' va vr pv fv m ps l):=fun w' h=>⟨Nat.lt_of_lt_of_le hB h.size,hT.below h hB,hV.below h⟩
 rw [hk] at hck;have hln:=fun P w'=>lines_fn P w'
 obtain ⟨vo,vc,rfl,_⟩:=id hV.mo.1;obtain ⟨ro,rc,rfl,_⟩:=id hV.mo.2;obtain ⟨po,pc,rfl,_⟩:=id hV.ps;obtain ⟨fo,fc,rfl,_⟩:=id hV.fo;clear hB hT hV;refine (callsIn_wide (n:=8)).1 ?_
 refine callsIn_of_wp_marks Tryd.func5 rfl trivial ?_ rfl
 simp only [Tryd.ntmps5,List.size_toArray,List.length_cons,List.length_nil,Nat.reduceAdd,Nat.reduceSub,Array.replicate_succ,Array.replicate_zero,List.push_toArray,List.append_toArray,List.nil_append,List.cons_append];refine wpIn_wide.2 ?_
 go_upto_region 2 with (go_at_call 11;refine hck.mono ?_;rintro e w1 ⟨rfl,hb1⟩)
 have hbw1:=hA1.trans (hb1.mono hA1.size);have hX:w1.heap[w.heap.size]? = some (.cells #[.slice vo m.vars.length vc,.slice ro m.rules.length rc,.slice po ps.length pc,.slice fo l.length fc] 29 (0,0)):=(hb1.block _ (by simp)).trans (heap_new _ _)
 have x0:w1.cell? ⟨w.heap.size,0,none⟩=some (.slice vo m.vars.length vc):=by unfold World.cell?;rw [hX];rfl
 have x1:w1.cell? ⟨w.heap.size,1,none⟩=some (.slice ro m.rules.length rc):=by unfold World.cell?;rw [hX];rfl
 have x2:w1.cell? ⟨w.heap.size,2,none⟩=some (.slice po ps.length pc):=by unfold World.cell?;rw [hX];rfl
 have x3:w1.cell? ⟨w.heap.size,3,none⟩=some (.slice fo l.length fc):=by unfold World.cell?;rw [hX];rfl
 clear hck hX
 go_wp2_with (go_at_call 12;refine (hln _ _).mono ?_;rintro e w2 ⟨rfl,rfl⟩)
 obtain ⟨W0,hW0⟩:∃ W0,W0=w1.alloc (.cells #[.slice vo m.vars.length vc,.slice ro m.rules.length rc,.slice po ps.length pc,.slice fo l.length fc] 41):=⟨_,rfl⟩
 have hb10:Below w1.heap.size w1 W0:=by rw [hW0];exact (Below.refl _ _).alloc (Nat.le_refl _) _
 have hbw0:=hbw1.trans (hb10.mono hbw1.size)
 have hP:PadAt W0 w1.heap.size (.slice vo m.vars.length vc) (.slice ro m.rules.length rc) (.slice po ps.length pc) (.slice fo l.length fc):=by
  have h:=heap_new w1 (.cells #[.slice vo m.vars.length vc,.slice ro m.rules.length rc,.slice po ps.length pc,.slice fo l.length fc] 41);rw [<- hW0] at h;refine ⟨(Array.getElem?_eq_some_iff.1 h).1,?_,?_,?_,?_⟩ <;> (unfold World.cell?;rw [h];rfl)
 have hn0:w1.heap.size+1=W0.heap.size:=by rw [hW0];simp
 rw [<- hW0];rw [hn0];clear hW0;obtain ⟨hB,hT,hV⟩:=HT.out W0 hbw0;obtain ⟨W3,hW3⟩:∃ W3,W3=(W0.alloc (.cells #[.pointer none,.slice none 0 0] 45)).alloc (.cells #[.pointer (some ⟨w1.heap.size,0,none⟩)] 70):=⟨_,rfl⟩
 have hz3:W3.heap.size=W0.heap.size+1+1:=by rw [hW3];simp
 have hI3:ShI W0 w1.heap.size (W0.heap.size+1) m ps l 0 W3:=by
  have h1:=heap_new W0 (.cells #[.pointer none,.slice none 0 0] 45);have h2:=heap_new (W0.alloc (.cells #[.pointer none,.slice none 0 0] 45)) (.cells #[.pointer (some ⟨w1.heap.size,0,none⟩)] 70);have hz:(W0.alloc (.cells #[.pointer none,.slice none 0 0] 45)).heap.size=W0.heap.size+1:=by simp
  rw [hz,<- hW3] at h2
  have h3:W3.heap[W0.heap.size]? = some (.cells #[.pointer none,.slice none 0 0] 45 (0,0)):=by
   rw [hW3];exact (Below.heap_alloc _ _ _ (by simp)).trans h1
  refine ⟨⟨by rw [hW3];exact ((Below.refl _ _).alloc (Nat.le_refl _) _).alloc (by simp) _,h2⟩,.inl ⟨Nat.le_refl _,.slice none 0 0,h3,⟨by simp [textL,Lib.byteCells],.inl ⟨rfl,by simp [textL,Lib.byteCells]⟩⟩,by simp [Value.ownBlock]⟩⟩
 rw [<- hW3];clear hW3 x0 x1 x2 x3;have hf:=tk_fit hk;have hbw3:=hbw0.trans (hI3.ln.bel.mono hbw0.size);refine wpIn_wide (n:=8).1 ?_
 refine range_ln (m:=8) (N:=(linesW m ps l).length) (by decide) rfl (enters_of Tryd.func24 (by kernel_rfl) rfl) (fun k args W=>∃ v,args=#[v]/\LineAt W v ((linesW m ps l).getD k [])) (fun k args W ⟨v,e,_⟩=>by rw [e];rfl) (LnK W0.heap.size)
  (fun L J W hbW hJ hY h0=>lines_by 7 L w1.heap.size (W0.heap.size+1) _ _ _ _ m ps l W0 hB hT hP hV hk J hJ (fun pre x post e v W1 hj hl hv=>hY pre.length #[v] W1 (by rw [e];simp) hj ⟨v,rfl,by rw [e];simpa using hv⟩) W (hI3.ln.keep hbW) h0)
  ?Kt ?Kb (fun k W=>ShI W0 w1.heap.size (W0.heap.size+1) m ps l k W)
  (fun k A B row hs hg hr=>hs.kept (n:=W3.heap.size) (by omega) hg hr) (fun k A B h hb=>h.later hb) hI3
  (fun k a' W=>∃ v r,LineAt W v ((linesW m ps l).getD k [])/\a'=shAct W0.heap.size v r) (fun k a' _ X Y row hs hg hr=>by
   obtain ⟨v,r,h1,h2⟩:=hs
   exact ⟨v,r,h1.kept hg (fun r e=>(hr r e).2),h2⟩) ?assign ?body ?done
 case Kt=>exact fun h k=>⟨h.1.trans k.1,fun b cs t ht hb=>k.2 b cs t ht (h.2 b cs t ht hb)⟩
 case Kb=>
  intro W q o o' hq ho hc _;refine ⟨⟨rfl,rfl,rfl,by simp [World.putObj],fun k hk=>World.putObj_heap_other (by omega)⟩,fun b cs t _ hb=>(World.putObj_heap_other (fun e=>?_)).trans hb⟩
  subst e;rw [hb] at ho;obtain rfl:=Option.some.inj ho;simp [Obj.isCells] at hc
 case assign=>
  rintro L k args W K hkN hi ⟨v,rfl,hv⟩ hK
  obtain ⟨x,hx⟩:∃ x,x=(linesW m ps l).getD k []:=⟨_,rfl⟩
  have HX:Hid (x=(linesW m ps l).getD k []):=hx;rw [<- hx] at hv;obtain ⟨xb,xc,rfl,hxr⟩:=id hv;have HV:Hid (LineAt W (.slice (some ⟨xb,0,none⟩) x.length xc) x):=hv;clear hxr hx hv
  gi_wp2
  refine hK _ _ ?ka ?kb ?kc ?kd
  case ka=>exact KeepsFrom.refl _ _
  case kb=>exact ⟨Below.refl _ _,fun _ _ _ _ h=>h⟩
  case kc=>exact hi
  case kd=>exact ⟨_,fun i=>List.getD [_,_,_,_,_,_,undef,undef,_,_,_,_,_,_,_,_,_,_,_,_,_,_] i undef,by rw [<- HX.out];exact HV.out,rfl⟩
 case body=>
  rintro L k a' W hkN hi ⟨v,r,hv,rfl⟩
  unfold shAct;obtain ⟨x,hx⟩:∃ x,x=(linesW m ps l).getD k []:=⟨_,rfl⟩
  rw [<- hx] at hv;obtain ⟨xb,xc,rfl,hxc,hxl,hxv⟩:=hv;have hll:=line_len hf x (show x∈linesW m ps l by rw [hx];rw [List.getD_eq_getElem?_getD,List.getElem?_eq_getElem hkN,Option.getD_some];exact List.getElem_mem hkN)
  have hsn:=text_snoc hkN;rw [<- hx] at hsn;clear hx;have htl:=text_len hf (Nat.le_of_lt hkN)
  have hjl:(Lib.join ((x).map (·.data.toList)) [32]).length <= 70000000:=by
   have:=hll.2;unfold lineL at this;rw [List.length_append] at this;omega
  have HSn:Hid (textL m ps l (k+1)=textL m ps l k++Lib.join ((x).map (·.data.toList)) [32]++[10]):=hsn;have hx100:=hll.1;clear hsn hll;have hjn:=sh_strings_Join xb 0 xc (x) ⟨#[32]⟩ W (fun j y hj=>by rw [Nat.zero_add];exact hxv j y hj) hxl (by omega) hxc (by show (Lib.join _ [32]).length <= _;omega)
  have HI:Hid (ShI W0 w1.heap.size (W0.heap.size+1) m ps l k W):=hi;have HBW:Hid (W0.heap.size <= W.heap.size):=hi.ln.bel.size;have HTl:Hid ((textL m ps l k).length <= 7000000000):=htl;clear hi htl hxv hP hV hI3;obtain ⟨jn,hjnE⟩:∃ jn,jn=Lib.join ((x).map (·.data.toList)) [32]:=⟨_,rfl⟩
  have HJn:Hid (jn=Lib.join ((x).map (·.data.toList)) [32]):=hjnE;have hjn2:Calls Tryd.prog 14 #[.slice (some ⟨xb,0,none⟩) (x).length xc,.string ⟨#[32]⟩] W fun e w'=>e=.returned (.string ⟨jn.toArray⟩)/\Below W.heap.size W w':=by rw [hjnE];exact hjn
  rw [<- hjnE] at hjl;clear hjn hjnE
  gi_wp2
  refine ⟨trivial,CallsIn.inRound L (callsIn_wide.2 (hjn2.mono ?_))⟩
  rintro e w4 ⟨rfl,hb4⟩
  have hI4:=HI.out.later hb4;have hw1:=sh_Builder_WriteString_k W0.heap.size W0.heap.size _ ⟨jn.toArray⟩ w4 hI4.bld (by rw [Lib.byteCells_length];have:=HTl.out;show _+jn.length <= _;omega) (Nat.le_trans HBW.out hb4.size)
  have HI4:Hid (Below W.heap.size W w4/\ShI W0 w1.heap.size (W0.heap.size+1) m ps l k w4):=⟨hb4,hI4⟩;clear hI4 hjn2 hb4
  gi_wp2
  refine ⟨trivial,CallsIn.inRound L (callsIn_wide.2 (hw1.mono ?_))⟩
  rintro e w5 ⟨rfl,hBa5,hb5,hO5⟩
  have hw2:=sh_Builder_WriteString_k W0.heap.size W0.heap.size _ ⟨#[10]⟩ w5 (.inr hBa5) (by rw [List.length_append,Lib.byteCells_length,Lib.strCells_length];have:=HTl.out;show _+jn.length+1 <= _;omega) (by have:=HI4.out.1.size;have:=hb5.size;have:=HBW.out;omega)
  have H5:Hid (Below W0.heap.size w4 w5/\Lib.OthersKept 5 (some W0.heap.size) w4 w5):=⟨hb5,hO5⟩;clear hw1 hb5 hO5 hBa5
  gi_wp2
  refine ⟨trivial,CallsIn.inRound L (callsIn_wide.2 (hw2.mono ?_))⟩
  rintro e w6 ⟨rfl,hBa6,hb6,hO6⟩
  have hO:=H5.out.2.trans hO6;have hB6:=H5.out.1.trans hb6
  have hcells:∀ (b:Nat) cs t,t=70\/t=61->w4.heap[b]? = some (.cells cs t (0,0))->w6.heap[b]? = some (.cells cs t (0,0)):=fun b cs t ht hb=>by
   refine hO b _ hb (fun e=>?_) (fun c fz e=>?_)
   ·injection e with e
    subst e
    rcases HI4.out.2.bld with ⟨_,v,h1,_⟩ | ⟨_,v,h1,_⟩ <;>
    ·rw [hb] at h1
     injection h1 with h1
     injection h1 with _ h2 _
     rcases ht with rfl | rfl <;> exact absurd h2 (by decide)
   ·injection e with _ h2 _
    rcases ht with rfl | rfl <;> exact absurd h2 (by decide)
  have hln6:LnW W0 w1.heap.size (W0.heap.size+1) w6:=⟨HI4.out.2.ln.bel.trans hB6,hcells _ _ _ (.inl rfl) HI4.out.2.ln.box⟩
  have HR:Hid (KeepsFrom W3.heap.size W w6/\LnK W0.heap.size W w6/\ShI W0 w1.heap.size (W0.heap.size+1) m ps l (k+1) w6):=by
   have hb4:=HI4.out.1;refine ⟨⟨Nat.le_trans hb4.size (Nat.le_trans H5.out.1.size hb6.size),fun q o hq ho hc=>?_⟩,⟨(hb4.mono HBW.out).trans hB6,fun b cs t ht hb=>hcells b cs t ht ((hb4.block b (Array.getElem?_eq_some_iff.1 hb).1).trans hb)⟩,hln6,.inr ?_⟩
   ·refine hO q o ((hb4.block q (Array.getElem?_eq_some_iff.1 ho).1).trans ho) (fun e=>by injection e with e;omega) (fun c fz e=>by subst e;simp [Obj.isCells] at hc)
   ·rw [HSn.out,<- HJn.out,Lib.byteCells_append,Lib.byteCells_append]
    exact hBa6
  clear hO hB6 hcells hln6 hBa6 hb6 hO6 hw2
  gi_wp2
  trace_state
  exact HR.out
 case done=>
  rintro D W hD hi hK
  have hbd:=hi.bld;rw [text_all] at hbd;have hst:=sh_Builder_String_any_k W0.heap.size W0.heap.size (showL m ps l) W hbd hi.ln.bel.size;have hbW:=hbw0.trans (hi.ln.bel.mono hbw0.size);have hw0:=hbw0.size;clear hbd hi hI3 hP hV hT hB hf
  go_wp2_with (go_at_call 15;refine hst.mono ?_;rintro e w5 ⟨rfl,_,hb5,hO5⟩)
  have hVD:w5.heap[D]? = some (.deferred (some [])):=hO5 D _ hK (fun e=>by injection e with e;omega) (fun c fz e=>by cases e)
  refine ⟨by simp,.inl ⟨_,_,rfl,run_takeDeferred hVD,?_⟩⟩
  refine ⟨.tuple #[.string ⟨(showL m ps l).toArray⟩,.int .i64 0],?_,rfl,?_⟩
  ·simp [results,Tryd.results5,go_sem]
  ·have h5:=hbW.trans (hb5.mono hw0)
   exact ⟨h5.os,h5.tape,h5.output,Nat.le_trans h5.size (by simp [World.putObj]),fun k hk=>(World.putObj_heap_other (by omega)).trans (h5.block k hk)⟩
end Go.Proofs.YtlepcjafgdlmgaaDoor
namespace Go.Proofs.YtlepcjafgdlmgaaDoor
open Go.ChangeShapes Go.WideShapes Go.ChangeAt Go.RowKit Go.Deep
open Terms Tm
set_option maxHeartbeats 6400000
set_option maxRecDepth 20000
theorem tx_app {a b c:List UInt8} (h:c=a++b):ByteArray.mk a.toArray++ByteArray.mk b.toArray=ByteArray.mk c.toArray:=by rw [h];exact ba_app a b
theorem termWords_any (va vr fv:Value) (m:Mo) (l:List (Int × Int)) (w:World) (hV:ModelV w va vr m) (hL:OpsV w fv l) (h60:l.length <= 60) (hn:NamesFit m.vars) (hf:∀ i,i < l.length->OpFit m.vars (l.getD i (0,0))) :
  Calls Tryd.prog 18 #[.agg #[va,vr],fv] w fun e w'=>e=.returned (tx (termW m.vars l))/\Below w.heap.size w w':=by
 obtain ⟨W1,hW1⟩:∃ W1,W1=w.alloc (.cells #[va,vr] 25):=⟨_,rfl⟩
 have hb1:Below w.heap.size w W1:=by rw [hW1];exact (Below.refl _ _).alloc (Nat.le_refl _) _
 have hz1:W1.heap.size=w.heap.size+1:=by rw [hW1];simp
 have HBx:Hid (∀ w1,Below W1.heap.size W1 w1->Below w.heap.size w w1/\w1.cell? ⟨w.heap.size,0,none⟩=some va/\w1.cell? ⟨w.heap.size,1,none⟩=some vr):=fun w1 h=>by
  have hl:w.heap.size < W1.heap.size:=by omega
  refine ⟨hb1.trans (h.mono hb1.size),(h.cell (p:=⟨w.heap.size,0,none⟩) hl).trans ?_,(h.cell (p:=⟨w.heap.size,1,none⟩) hl).trans ?_⟩ <;> (rw [hW1];simp [go_sem])
 have HOp:Hid (∀ (w1:World) (k:Nat),Below w.heap.size w w1->k < l.length->Calls Tryd.prog 31 #[.agg #[va,vr],.agg #[.int .i64 (l.getD k (0,0)).1,.int .i64 (l.getD k (0,0)).2]] w1 fun e w'=>e=.returned (tx (opW m.vars (l.getD k (0,0))))/\Below w1.heap.size w1 w'):=fun w1 k h hk=>opWord_any va vr m _ _ w1 (hV.below h) (hf k hk)
 have HLc:Hid (∀ (w1:World) (k:Nat),Below w.heap.size w w1->k < l.length->∃ b off cap,fv=.slice (some ⟨b,off,none⟩) l.length cap/\b < w.heap.size/\w1.cell? ⟨b,off+k*2,none⟩=some (.int .i64 (l.getD k (0,0)).1)/\w1.cell? ⟨b,off+k*2+1,none⟩=some (.int .i64 (l.getD k (0,0)).2)):=fun w1 k h hk=>by
  obtain ⟨fo,fc,rfl,hx⟩:=id hL;obtain ⟨b,off,rfl,hlt,hat⟩:=hx.2 (by rintro rfl;simp at hk)
  obtain ⟨c0,c1⟩:=hat k hk;exact ⟨b,off,fc,rfl,hlt,(h.cell (p:=⟨b,_,none⟩) hlt).trans c0,(h.cell (p:=⟨b,_,none⟩) hlt).trans c1⟩
 have HSn:Hid (∀ k,k < l.length->termW m.vars (l.take (k+1))=(termW m.vars (l.take k)++[32])++opW m.vars (l.getD k (0,0))):=fun k hk=>by rw [termW_snoc hk];simp
 have HLn:Hid (∀ k,k <= l.length->(termW m.vars (l.take k)).length <= 100000000):=fun k hk=>by have:=termW_len hf hn k hk;omega
 have HOl:Hid (∀ k,k < l.length->(opW m.vars (l.getD k (0,0))).length <= 1000004):=fun k hk=>opW_len (hf k hk) hn
 have HEn:Hid (termW m.vars (l.take l.length)=termW m.vars l):=by show _=_;rw [List.take_length]
 have H00:Hid (termW m.vars (l.take 0)=[]):=rfl;obtain ⟨ao,ac,rfl⟩:=hV.1.shape;obtain ⟨ro,rc,rfl⟩:=hV.2.shape;obtain ⟨fo,fc,rfl,_⟩:=id hL;obtain ⟨n,hn2⟩:∃ n,n=l.length:=⟨_,rfl⟩
 rw [<- hn2] at HOp HLc HSn HLn HOl HEn h60 ⊢;obtain ⟨TW,hTW⟩:∃ TW:Nat->List UInt8,TW=fun k=>termW m.vars (l.take k):=⟨_,rfl⟩
 have HSn:Hid (∀ k,k < n->TW (k+1)=(TW k++[32])++opW m.vars (l.getD k (0,0))):=by rw [hTW];exact HSn.out
 have HLn:Hid (∀ k,k <= n->(TW k).length <= 100000000):=by rw [hTW];exact HLn.out
 have HEn:Hid (TW n=termW m.vars l):=by rw [hTW];exact HEn.out
 have H00:Hid (TW 0=[]):=by rw [hTW];exact H00.out
 clear hTW;generalize termW m.vars l=res at *;generalize m.vars.length=vn at *;generalize m.rules.length=rn at *;clear hV hL hf hn2 hn;unfold tx at *
 go_enter Tryd.func18,Tryd.ntmps18
 go_wp2_with fail
 rw [<- hW1];clear hW1
 go_loopw [5,6] (fun s i wr=>∃ k:Nat,k <= n/\i=.int .i64 (k:Int)/\s=.string ⟨(TW k).toArray⟩/\Hid (Below W1.heap.size W1 wr)) (fun _ i _=>n - (intOf i).toNat)
 case atStart=>exact ⟨0,Nat.zero_le _,rfl,by rw [H00.out],Below.refl _ _⟩
 case round=>
  obtain ⟨k,hk,rfl,rfl,HBr⟩:=hrel;have hbr:=HBr.out;obtain ⟨hbw,a0,a1⟩:=HBx.out wr hbr
  by_cases hlt:k < n
  ·obtain ⟨b,off,cap,hfv,hbl,c0,c1⟩:=HLc.out wr k hbw hlt
   injection hfv with e1 _ e3
   subst e1 e3;have hop:=HOp.out wr.drew k hbw.drew hlt;have hs1:=HLn.out k hk;have hs2:=HOl.out k hlt;have hs3:=HSn.out k hlt;have HS3:Hid (TW (k+1)=(TW k++[32])++opW m.vars (l.getD k (0,0))):=hs3;have hki:(k:Int) < (n:Int):=by omega
   generalize opW m.vars (l.getD k (0,0))=ow at *;generalize l.getD k (0,0)=xy at *;obtain ⟨x,y⟩:=xy;simp only at hop c0 c1
   obtain ⟨s0,hs0⟩:∃ s0,s0=TW k:=⟨_,rfl⟩
   rw [<- hs0] at hs1 HS3 ⊢;have hadd1:ByteArray.mk s0.toArray++ByteArray.mk #[32]=ByteArray.mk (s0++[32]).toArray:=tx_app (b:=[32]) rfl;obtain ⟨s1,hs1e⟩:∃ s1,s1=s0++[32]:=⟨_,rfl⟩
   have hl1:s1.length <= 100000001:=by rw [hs1e];simp;omega
   rw [<- hs1e] at hadd1 HS3;have hadd2:ByteArray.mk s1.toArray++ByteArray.mk ow.toArray=ByteArray.mk (TW (k+1)).toArray:=tx_app HS3.out;have hlim1:¬ 9223372036854775807 < s0.length+1:=by omega
   have hlim2:¬ 9223372036854775807 < s1.length+ow.length:=by omega
   have hB0:Below wr.heap.size wr wr:=Below.refl _ _
   have HSC:Hid (∀ w',Below wr.heap.size wr w'->(w'.cell? ⟨w.heap.size,0,none⟩=some (.slice ao vn ac)/\w'.cell? ⟨w.heap.size,1,none⟩=some (.slice ro rn rc))/\w'.cell? ⟨b,off+k*2,none⟩=some (.int .i64 x)/\w'.cell? ⟨b,off+k*2+1,none⟩=some (.int .i64 y)):=fun w' h=>by
    have hl:w.heap.size < wr.heap.size:=by have:=hbr.size;omega
    have hl2:b < wr.heap.size:=Nat.lt_of_lt_of_le hbl hbw.size;exact ⟨⟨(h.cell (p:=⟨w.heap.size,0,none⟩) hl).trans a0,(h.cell (p:=⟨w.heap.size,1,none⟩) hl).trans a1⟩,(h.cell (p:=⟨b,_,none⟩) hl2).trans c0,(h.cell (p:=⟨b,_,none⟩) hl2).trans c1⟩
   clear hs0 hs1e hs3
   go_wp2_with fail
   go_region_held3 (fun w'=>(w'.cell? ⟨w.heap.size,0,none⟩=some (.slice ao vn ac)/\w'.cell? ⟨w.heap.size,1,none⟩=some (.slice ro rn rc))/\w'.cell? ⟨b,off+k*2,none⟩=some (.int .i64 x)/\w'.cell? ⟨b,off+k*2+1,none⟩=some (.int .i64 y))
    (first | exact HSC.out _ hb12 | exact HSC.out _ hB0.drew | exact HSC.out _ hB0)
    (first
     | (go_at_call 31;refine hop.mono ?_;rintro e w5 ⟨rfl,hb5⟩;have hb12:=hB0.drew.trans (hb5.mono hB0.drew.size)))
   go_wp2_with fail
   go_roundw
   case rel=>exact ⟨k+1,by omega,by go_num,by first | rfl | trivial,hbr.trans (hb12.mono hbr.size)⟩
   case measure=>simp [intOf];omega
  ·obtain rfl:n=k:=by omega
   rw [HEn.out]
   go_wp2_with fail
   go_ret
   exact ⟨rfl,hbw⟩
theorem tx_nm {a c:List UInt8} {b:ByteArray} (h:c=a++b.data.toList):ByteArray.mk a.toArray++b=ByteArray.mk c.toArray:=by
 have e:b=ByteArray.mk b.data.toList.toArray:=by simp
 rw [h,<- ba_app,<- e]
theorem shown_bad (va vr pv fv:Value) (m:Mo) (ps:List (List (Int × Int))) (l:List (Int × Int)) (w:World) (hp1:ps.length*24 <= 140737488355328) (hV:TaskV w va vr pv fv m ps l) (hk:tkcode m ps l≠0) :
  Calls Tryd.prog 6 #[.agg #[va,vr,pv,fv]] w fun e w'=>e=.returned (.tuple #[tx [],.int .i64 (tkcode m ps l)])/\Below w.heap.size w w':=by
 have hA:∀ o,Below w.heap.size w (w.alloc o):=fun o=>(Below.refl _ _).alloc (Nat.le_refl _) o
 have hch:=fun o=>taskFault_any va vr pv fv m ps l (w.alloc o) hp1 (hV.below (hA o))
 generalize tkcode m ps l=q at *;clear hV
 go_enter Tryd.func6,Tryd.ntmps6
 go_wp2_with (go_at_call 16;refine (hch _).mono ?_;rintro e w1 ⟨rfl,hb1⟩)
 go_ret2
 exact ⟨rfl,(hA _).trans (hb1.mono (hA _).size)⟩
theorem shown_ok (va vr pv fv:Value) (m:Mo) (ps:List (List (Int × Int))) (l:List (Int × Int)) (w:World) (hp1:ps.length*24 <= 140737488355328) (hV:TaskV w va vr pv fv m ps l) (hk:tkcode m ps l=0) (hF:TkFit m ps l) :
  Calls Tryd.prog 6 #[.agg #[va,vr,pv,fv]] w fun e w'=>e=.returned (.tuple #[tx (showL m ps l),.int .i64 0])/\Below w.heap.size w w':=by
 obtain ⟨W1,hW1⟩:∃ W1,W1=w.alloc (.cells #[va,vr,pv,fv] 29):=⟨_,rfl⟩
 have hb1:Below w.heap.size w W1:=by rw [hW1];exact (Below.refl _ _).alloc (Nat.le_refl _) _
 have hz1:W1.heap.size=w.heap.size+1:=by rw [hW1];simp
 have hch:=taskFault_any va vr pv fv m ps l W1 hp1 (hV.below hb1);rw [hk] at hch
 have HBx:Hid (∀ w1,Below W1.heap.size W1 w1->Below w.heap.size w w1/\w.heap.size < w1.heap.size/\w1.cell? ⟨w.heap.size,0,none⟩=some va/\w1.cell? ⟨w.heap.size,1,none⟩=some vr/\w1.cell? ⟨w.heap.size,2,none⟩=some pv/\w1.cell? ⟨w.heap.size,3,none⟩=some fv):=fun w1 h=>by
  have hl:w.heap.size < W1.heap.size:=by omega
  refine ⟨hb1.trans (h.mono hb1.size),Nat.lt_of_lt_of_le hl h.size,(h.cell (p:=⟨w.heap.size,0,none⟩) hl).trans ?_,(h.cell (p:=⟨w.heap.size,1,none⟩) hl).trans ?_,(h.cell (p:=⟨w.heap.size,2,none⟩) hl).trans ?_,(h.cell (p:=⟨w.heap.size,3,none⟩) hl).trans ?_⟩ <;> (rw [hW1];simp [go_sem])
 have HTw:Hid (∀ (w1:World) (t:List (Int × Int)) (tv:Value),Below w.heap.size w w1->OpsV w1 tv t->TermFit m.vars t->Calls Tryd.prog 18 #[.agg #[va,vr],tv] w1 fun e w'=>e=.returned (tx (termW m.vars t))/\Below w1.heap.size w1 w'):=fun w1 t tv h ht hf=>termWords_any va vr tv m t w1 (hV.mo.below h) ht hf.1 hF.names hf.2
 have HVr:Hid (∀ (w1:World) (k:Nat),Below w.heap.size w w1->k < m.vars.length->∃ b off cap,va=.slice (some ⟨b,off,none⟩) m.vars.length cap/\b < w.heap.size/\VarAt w1 b (off+k*4) (m.vars.getD k vr0)):=fun w1 k h hk=>by
  obtain ⟨ao,ac,e⟩:=hV.mo.1.shape;have h9:=hV.mo.1;rw [e] at h9;obtain ⟨b,off,rfl,hlt,hat⟩:=h9.at (i:=k) hk;exact ⟨b,off,ac,e,hlt,hat.below h hlt⟩
 have HSv:Hid (∀ k,k < m.vars.length->varsL (m.vars.take (k+1))=varsL (m.vars.take k)++varL (m.vars.getD k vr0)):=fun k hk=>flatMap_snoc varL vr0 hk
 have HLv:Hid (∀ k,k <= m.vars.length->(varsL (m.vars.take k)).length <= 30000000):=fun k hk=>by
  have h1:=flatMap_len varL vr0 (l:=m.vars) (B:=4100000) (fun i hi=>by
   have h2:=hF.nums i hi;have h3:=hF.names i hi;have e1:=itoa_len h2.1.1 h2.1.2;have e2:=itoa_len h2.2.1.1 h2.2.1.2;have e3:=itoa_len h2.2.2.1 h2.2.2.2;have e4:(nmL (m.vars.getD i vr0)).length=(m.vars.getD i vr0).name.size:=by unfold nmL;rw [Array.length_toList];rfl
   unfold varL;simp only [List.length_append,List.length_cons,List.length_nil]
   omega) k hk
  have:=hF.nv;unfold varsL;omega
 have HNv:Hid (∀ k,k < m.vars.length->((-1000000 <= (m.vars.getD k vr0).lo/\(m.vars.getD k vr0).lo <= 1000000)/\(-1000000 <= (m.vars.getD k vr0).hi/\(m.vars.getD k vr0).hi <= 1000000)/\(-1000000 <= (m.vars.getD k vr0).ini/\(m.vars.getD k vr0).ini <= 1000000))/\(m.vars.getD k vr0).name.size <= 1000000):=fun k hk=>⟨hF.nums k hk,hF.names k hk⟩
 have HEv:Hid (varsL (m.vars.take m.vars.length)=varsL m.vars):=by show _=_;rw [List.take_length]
 have H0v:Hid (varsL (m.vars.take 0)=[]):=rfl
 have HRl:Hid (∀ (w1:World) (k:Nat),Below w.heap.size w w1->k < m.rules.length->∃ b off cap go gn gc so sc,vr=.slice (some ⟨b,off,none⟩) m.rules.length cap/\b < w.heap.size/\w1.cell? ⟨b,off+k*2,none⟩=some (.slice go gn gc)/\OpsV w1 (.slice go gn gc) (m.rules.getD k ru0).guard/\w1.cell? ⟨b,off+k*2+1,none⟩=some (.slice so (m.rules.getD k ru0).sets.length sc)/\SetsV w1 (.slice so (m.rules.getD k ru0).sets.length sc) (m.rules.getD k ru0).sets):=fun w1 k h hk=>by
  obtain ⟨ro,rc,e⟩:=hV.mo.2.shape;have h9:=hV.mo.2.below h;have h8:=hV.mo.2;rw [e] at h9 h8;obtain ⟨b,off,rfl,hlt,hat⟩:=h8.at (i:=k) hk;obtain ⟨⟨u,q1,q2⟩,v,q3,q4⟩:=hat.below h hlt;obtain ⟨go,gc,rfl⟩:=q2.shape;obtain ⟨so,sc,rfl⟩:=q4.shape;exact ⟨b,off,rc,go,_,gc,so,sc,e,hlt,q1,q2,q3,q4⟩
 have HPr:Hid (∀ (w1:World) (k:Nat),Below w.heap.size w w1->k < ps.length->∃ b off cap go gn gc,pv=.slice (some ⟨b,off,none⟩) ps.length cap/\b < w.heap.size/\w1.cell? ⟨b,off+k,none⟩=some (.slice go gn gc)/\OpsV w1 (.slice go gn gc) (ps.getD k [])):=fun w1 k h hk=>by
  obtain ⟨po,pc,e⟩:=hV.ps.shape;have h8:=hV.ps;rw [e] at h8;obtain ⟨b,off,rfl,hlt,u,q1,q2⟩:=h8.at (i:=k) hk;obtain ⟨go,gc,rfl⟩:=q2.shape;exact ⟨b,off,pc,go,_,gc,e,hlt,(h.cell (p:=⟨b,_,none⟩) hlt).trans q1,q2.below h⟩
 obtain ⟨FR,hFR⟩:∃ FR:Nat->List UInt8,FR=fun k=>varsL m.vars++rulesL m.vars (m.rules.take k):=⟨_,rfl⟩
 obtain ⟨FP,hFP⟩:∃ FP:Nat->List UInt8,FP=fun k=>FR m.rules.length++propsLn m.vars (ps.take k):=⟨_,rfl⟩
 have H0r:Hid (FR 0=varsL m.vars):=by show _=_;rw [hFR];simp [rulesL]
 have HSr:Hid (∀ k,k < m.rules.length->FR (k+1)=(FR k++ruleL0 m.vars (m.rules.getD k ru0))++setsL m.vars (m.rules.getD k ru0).sets):=fun k hk=>by
  rw [hFR]
  show varsL m.vars++rulesL m.vars (m.rules.take (k+1))=_
  rw [show rulesL m.vars (m.rules.take (k+1))=rulesL m.vars (m.rules.take k)++ruleL m.vars (m.rules.getD k ru0) from flatMap_snoc _ ru0 hk]
  simp [ruleL,List.append_assoc]
 have HLst:Hid (∀ k,k < m.rules.length->∀ j,j <= (m.rules.getD k ru0).sets.length->(setsL m.vars ((m.rules.getD k ru0).sets.take j)).length <= 400000000):=fun k hk j hj=>by
  have h1:=flatMap_len (setL m.vars) st0 (l:=(m.rules.getD k ru0).sets) (B:=61000400) (fun i hi=>by
   have h2:=hF.setv k hk i hi;have h3:=hF.names ((m.rules.getD k ru0).sets.getD i st0).var.toNat (by omega)
   have e1:=h2.2.len hF.names;have e4:(nmL (m.vars.getD ((m.rules.getD k ru0).sets.getD i st0).var.toNat vr0)).length=(m.vars.getD ((m.rules.getD k ru0).sets.getD i st0).var.toNat vr0).name.size:=by unfold nmL;rw [Array.length_toList];rfl
   unfold setL;simp only [List.length_append,List.length_cons,List.length_nil]
   omega) j hj
  have:=hF.nsets k hk;unfold setsL;omega
 have HLg:Hid (∀ k,k < m.rules.length->(ruleL0 m.vars (m.rules.getD k ru0)).length <= 60000400):=fun k hk=>by
  have e1:=(hF.guard k hk).len hF.names
  show _ <= _
  unfold ruleL0;simp only [List.length_append,List.length_cons,List.length_nil];omega
 have HLr:Hid (∀ k,k <= m.rules.length->(FR k).length <= 6000000000):=fun k hk=>by
  have h0:=HLv.out m.vars.length (Nat.le_refl _);rw [HEv.out] at h0
  have h1:=flatMap_len (ruleL m.vars) ru0 (l:=m.rules) (B:=460000400) (fun i hi=>by
   have e1:=HLg.out i hi;have e2:=HLst.out i hi _ (Nat.le_refl _);rw [List.take_length] at e2;unfold ruleL;simp only [List.length_append]
   omega) k hk
  have:=hF.nr;rw [hFR]
  show (varsL m.vars++rulesL m.vars (m.rules.take k)).length <= _
  rw [List.length_append];unfold rulesL;omega
 have H0p:Hid (FP 0=FR m.rules.length):=by show _=_;rw [hFP];simp [propsLn]
 have HSp:Hid (∀ k,k < ps.length->FP (k+1)=FP k++propL m.vars (ps.getD k [])):=fun k hk=>by
  rw [hFP]
  show FR m.rules.length++propsLn m.vars (ps.take (k+1))=_
  rw [show propsLn m.vars (ps.take (k+1))=propsLn m.vars (ps.take k)++propL m.vars (ps.getD k []) from flatMap_snoc _ [] hk]
  simp [List.append_assoc]
 have HLp:Hid (∀ k,k <= ps.length->(FP k).length <= 7000000000):=fun k hk=>by
  have h0:=HLr.out m.rules.length (Nat.le_refl _)
  have h1:=flatMap_len (propL m.vars) [] (l:=ps) (B:=60000400) (fun i hi=>by
   have e1:=(hF.props i hi).len hF.names;unfold propL;simp only [List.length_append,List.length_cons,List.length_nil]
   omega) k hk
  have:=hF.np;rw [hFP]
  show (FR m.rules.length++propsLn m.vars (ps.take k)).length <= _
  rw [List.length_append];unfold propsLn;omega
 have HEe:Hid (showL m ps l=FP ps.length++checkL m.vars l):=by
  show _=_
  rw [hFP]
  show _=(FR m.rules.length++propsLn m.vars (ps.take ps.length))++checkL m.vars l
  rw [List.take_length,hFR]
  show _=((varsL m.vars++rulesL m.vars (m.rules.take m.rules.length))++propsLn m.vars ps)++checkL m.vars l
  rw [List.take_length];rfl
 have HLc:Hid ((termW m.vars l).length <= 60000300):=hF.form.len hF.names;obtain ⟨ao,ac,rfl⟩:=hV.mo.1.shape;obtain ⟨ro,rc,rfl⟩:=hV.mo.2.shape;obtain ⟨po,pc,rfl⟩:=hV.ps.shape;obtain ⟨fo,fc,rfl,_⟩:=id hV.fo;obtain ⟨vn,hvn⟩:∃ vn,vn=m.vars.length:=⟨_,rfl⟩
 have HVn:Hid (vn=m.vars.length):=hvn;have hvM:vn <= 6:=by rw [hvn];exact hF.nv
 obtain ⟨rn,hrn⟩:∃ rn,rn=m.rules.length:=⟨_,rfl⟩
 have HRn:Hid (rn=m.rules.length):=hrn;have hrM:rn <= 12:=by rw [hrn];exact hF.nr
 obtain ⟨pn,hpn⟩:∃ pn,pn=ps.length:=⟨_,rfl⟩
 have HPn:Hid (pn=ps.length):=hpn;have hpM:pn <= 6:=by rw [hpn];exact hF.np
 obtain ⟨fn,hfn⟩:∃ fn,fn=l.length:=⟨_,rfl⟩
 obtain ⟨FV,hFV⟩:∃ FV:Nat->List UInt8,FV=fun k=>varsL (m.vars.take k):=⟨_,rfl⟩
 have HSv:Hid (∀ k,k < m.vars.length->FV (k+1)=FV k++varL (m.vars.getD k vr0)):=by rw [hFV];exact HSv.out
 have HLv:Hid (∀ k,k <= m.vars.length->(FV k).length <= 30000000):=by rw [hFV];exact HLv.out
 have HEv:Hid (FV m.vars.length=varsL m.vars):=by rw [hFV];exact HEv.out
 have H0v:Hid (FV 0=[]):=by rw [hFV];exact H0v.out
 rw [<- hvn] at hW1 hch HBx HTw HVr HSv HLv HNv HEv ⊢;rw [<- hrn,<- hpn,<- hfn] at hW1 hch HBx ⊢;rw [<- hrn] at HTw;have HTK:Hid (TaskV w (.slice ao vn ac) (.slice ro rn rc) (.slice po pn pc) (.slice fo fn fc) m ps l):=by rw [hvn,hrn,hpn,hfn];exact hV
 have HFt:Hid (TkFit m ps l):=hF;rw [<- hrn] at HRl HSr HLst HLg HLr H0p;rw [<- hpn] at HPr HSp HLp HEe;clear hFV hFR hFP hvn hrn hpn hfn hV hk hF;generalize showL m ps l=res at *;unfold tx at *;rw [hW1] at hch
 go_enter Tryd.func6,Tryd.ntmps6
 go_wp2_with (go_at_call 16;refine hch.mono ?_;rintro e w1 ⟨rfl,hbf⟩;rw [<- hW1] at hbf)
 have HB1:Hid (Below W1.heap.size W1 w1):=hbf;clear hch hW1
 go_loopw [5,6] (fun s i wr=>∃ k:Nat,k <= vn/\i=.int .i64 (k:Int)/\s=.string ⟨(FV k).toArray⟩/\Hid (Below W1.heap.size W1 wr)) (fun _ i _=>vn - (intOf i).toNat)
 case atStart=>exact ⟨0,Nat.zero_le _,rfl,by rw [H0v.out],HB1⟩
 case round=>
  obtain ⟨k,hk,rfl,rfl,HBr⟩:=hrel;have hbr:=HBr.out;obtain ⟨hbw,hsw,k0,k1,k2,k3⟩:=HBx.out wr hbr
  by_cases hlt:k < vn
  ·obtain ⟨b,off,cap,hva,hbl,c0,c1,c2,c3⟩:=HVr.out wr k hbw hlt
   injection hva with e1 _ e3
   subst e1 e3;obtain ⟨⟨⟨b0,b1⟩,⟨b2,b3⟩,b4,b5⟩,b6⟩:=HNv.out k hlt;have hs0:=HLv.out k hk;have HEq0:Hid (FV (k+1)=FV k++varL (m.vars.getD k vr0)):=HSv.out k hlt;have hki:(k:Int) < (vn:Int):=by omega
   generalize m.vars.getD k vr0=v at *;obtain ⟨nm,lo,hi,ini⟩:=v;simp only at c0 c1 c2 c3 b0 b1 b2 b3 b4 b5 b6
   have HEq:Hid (FV (k+1)=FV k++([118,97,114,32]++nm.data.toList++[32]++Lib.itoa lo++[32]++Lib.itoa hi++[32]++Lib.itoa ini++[10])):=HEq0.out;have hd1:=fun w'=>dec_any lo w' (by omega) (by omega)
   have hd2:=fun w'=>dec_any hi w' (by omega) (by omega)
   have hd3:=fun w'=>dec_any ini w' (by omega) (by omega)
   have q1:=itoa_len b0 b1;have q2:=itoa_len b2 b3;have q3:=itoa_len b4 b5;unfold tx at hd1 hd2 hd3;generalize Lib.itoa lo=tlo at *;generalize Lib.itoa hi=thi at *;generalize Lib.itoa ini=tin at *;obtain ⟨s0,es0⟩:∃ s0,s0=FV k:=⟨_,rfl⟩
   rw [<- es0] at hs0 HEq ⊢;obtain ⟨s1,es1⟩:∃ x,x=s0++[118,97,114,32]:=⟨_,rfl⟩
   have ls1:s1.length <= s0.length+4:=by rw [es1,List.length_append];first | exact Nat.le_refl _ | simp | (simp [ByteArray.size])
   have a0:ByteArray.mk s0.toArray++ByteArray.mk #[118,97,114,32]=ByteArray.mk s1.toArray:=tx_app (b:=[118,97,114,32]) es1;have m0:¬ 9223372036854775807 < s0.length+4:=by omega
   obtain ⟨s2,es2⟩:∃ x,x=s1++nm.data.toList:=⟨_,rfl⟩
   have ls2:s2.length <= s1.length+nm.size:=by rw [es2,List.length_append];first | exact Nat.le_refl _ | simp | (simp [ByteArray.size])
   have a1:ByteArray.mk s1.toArray++nm=ByteArray.mk s2.toArray:=tx_nm es2;have m1:¬ 9223372036854775807 < s1.length+nm.size:=by omega
   obtain ⟨s3,es3⟩:∃ x,x=s2++[32]:=⟨_,rfl⟩
   have ls3:s3.length <= s2.length+1:=by rw [es3,List.length_append];first | exact Nat.le_refl _ | simp | (simp [ByteArray.size])
   have a2:ByteArray.mk s2.toArray++ByteArray.mk #[32]=ByteArray.mk s3.toArray:=tx_app (b:=[32]) es3;have m2:¬ 9223372036854775807 < s2.length+1:=by omega
   obtain ⟨s4,es4⟩:∃ x,x=s3++tlo:=⟨_,rfl⟩
   have ls4:s4.length <= s3.length+tlo.length:=by rw [es4,List.length_append];first | exact Nat.le_refl _ | simp | (simp [ByteArray.size])
   have a3:ByteArray.mk s3.toArray++ByteArray.mk tlo.toArray=ByteArray.mk s4.toArray:=tx_app es4;have m3:¬ 9223372036854775807 < s3.length+tlo.length:=by omega
   obtain ⟨s5,es5⟩:∃ x,x=s4++[32]:=⟨_,rfl⟩
   have ls5:s5.length <= s4.length+1:=by rw [es5,List.length_append];first | exact Nat.le_refl _ | simp | (simp [ByteArray.size])
   have a4:ByteArray.mk s4.toArray++ByteArray.mk #[32]=ByteArray.mk s5.toArray:=tx_app (b:=[32]) es5;have m4:¬ 9223372036854775807 < s4.length+1:=by omega
   obtain ⟨s6,es6⟩:∃ x,x=s5++thi:=⟨_,rfl⟩
   have ls6:s6.length <= s5.length+thi.length:=by rw [es6,List.length_append];first | exact Nat.le_refl _ | simp | (simp [ByteArray.size])
   have a5:ByteArray.mk s5.toArray++ByteArray.mk thi.toArray=ByteArray.mk s6.toArray:=tx_app es6;have m5:¬ 9223372036854775807 < s5.length+thi.length:=by omega
   obtain ⟨s7,es7⟩:∃ x,x=s6++[32]:=⟨_,rfl⟩
   have ls7:s7.length <= s6.length+1:=by rw [es7,List.length_append];first | exact Nat.le_refl _ | simp | (simp [ByteArray.size])
   have a6:ByteArray.mk s6.toArray++ByteArray.mk #[32]=ByteArray.mk s7.toArray:=tx_app (b:=[32]) es7;have m6:¬ 9223372036854775807 < s6.length+1:=by omega
   obtain ⟨s8,es8⟩:∃ x,x=s7++tin:=⟨_,rfl⟩
   have ls8:s8.length <= s7.length+tin.length:=by rw [es8,List.length_append];first | exact Nat.le_refl _ | simp | (simp [ByteArray.size])
   have a7:ByteArray.mk s7.toArray++ByteArray.mk tin.toArray=ByteArray.mk s8.toArray:=tx_app es8;have m7:¬ 9223372036854775807 < s7.length+tin.length:=by omega
   have a8:ByteArray.mk s8.toArray++ByteArray.mk #[10]=ByteArray.mk (FV (k+1)).toArray:=tx_app (b:=[10]) (by rw [HEq.out,es8,es7,es6,es5,es4,es3,es2,es1];simp [List.append_assoc])
   have m8:¬ 9223372036854775807 < s8.length+1:=by omega
   clear es1 es2 es3 es4 es5 es6 es7 es8;obtain ⟨Wv,hWv⟩:∃ Wv,Wv=wr.alloc (.cells #[.string nm,.int .i64 lo,.int .i64 hi,.int .i64 ini] 57):=⟨_,rfl⟩
   have hbv:Below wr.heap.size wr Wv:=by rw [hWv];exact (Below.refl _ _).alloc (Nat.le_refl _) _
   have HSC:Hid (∀ w',Below Wv.heap.size Wv w'->w'.cell? ⟨wr.heap.size,0,none⟩=some (.string nm)/\w'.cell? ⟨wr.heap.size,1,none⟩=some (.int .i64 lo)/\w'.cell? ⟨wr.heap.size,2,none⟩=some (.int .i64 hi)/\w'.cell? ⟨wr.heap.size,3,none⟩=some (.int .i64 ini)):=fun w' h=>by
    have hl:wr.heap.size < Wv.heap.size:=by rw [hWv];simp
    refine ⟨(h.cell (p:=⟨wr.heap.size,0,none⟩) hl).trans ?_,(h.cell (p:=⟨wr.heap.size,1,none⟩) hl).trans ?_,(h.cell (p:=⟨wr.heap.size,2,none⟩) hl).trans ?_,(h.cell (p:=⟨wr.heap.size,3,none⟩) hl).trans ?_⟩ <;> (rw [hWv];simp [go_sem])
   have hB0:Below Wv.heap.size Wv Wv:=Below.refl _ _;clear es0 HEq HEq0
   go_wp2_with fail
   rw [<- hWv];clear hWv;have tk1:=True.intro;have tk2:=True.intro
   go_region_held3 (fun w'=>w'.cell? ⟨wr.heap.size,0,none⟩=some (.string nm)/\w'.cell? ⟨wr.heap.size,1,none⟩=some (.int .i64 lo)/\w'.cell? ⟨wr.heap.size,2,none⟩=some (.int .i64 hi)/\w'.cell? ⟨wr.heap.size,3,none⟩=some (.int .i64 ini))
    (first | exact HSC.out _ hb13 | exact HSC.out _ hb12 | exact HSC.out _ hb11 | exact HSC.out _ hB0.drew | exact HSC.out _ hB0)
    (first
     | (clear tk1;go_at_call 17;refine (hd1 _).mono ?_;rintro e w5 ⟨rfl,hb5⟩;have hb11:=hB0.drew.trans (hb5.mono hB0.drew.size))
     | (clear tk2;go_at_call 17;refine (hd2 _).mono ?_;rintro e w6 ⟨rfl,hb6⟩;have hb12:=hb11.trans (hb6.mono hb11.size))
     | (go_at_call 17;refine (hd3 _).mono ?_;rintro e w7 ⟨rfl,hb7⟩;have hb13:=hb12.trans (hb7.mono hb12.size)))
   go_wp2_with fail
   go_roundw
   case rel=>exact ⟨k+1,by omega,by go_num,by first | rfl | trivial,hbr.trans ((hbv.trans (hb13.mono hbv.size)).mono hbr.size)⟩
   case measure=>simp [intOf];omega
  ·obtain rfl:vn=k:=by omega
   rw [HEv.out,<- H0r.out]
   go_wp2_with fail
   clear hlt hk k0 k1 k2 k3 hbw hsw hbr;generalize wr=wo at *
   go_loopw [5,8] (fun s i wr=>∃ k:Nat,k <= rn/\i=.int .i64 (k:Int)/\s=.string ⟨(FR k).toArray⟩/\Hid (Below W1.heap.size W1 wr)) (fun _ i _=>rn - (intOf i).toNat)
   case atStart=>exact ⟨0,Nat.zero_le _,rfl,rfl,HBr⟩
   case round=>
    obtain ⟨k,hk,rfl,rfl,HBr⟩:=hrel;have hbr:=HBr.out;obtain ⟨hbw,hsw,k0,k1,k2,k3⟩:=HBx.out wr hbr
    by_cases hlt:k < rn
    ·obtain ⟨b,off,cap,go,gn,gc,so,sc,hvr,hbl,c0,hG,c1,hSt⟩:=HRl.out wr k hbw hlt
     injection hvr with e1 _ e3
     subst e1 e3;have HGf:=HFt.out.guard k (by rw [<- HRn.out];exact hlt)
     have HSf:Hid _:=HFt.out.setv k (by rw [<- HRn.out];exact hlt)
     have HSm:=HFt.out.nsets k (by rw [<- HRn.out];exact hlt)
     have hs0:=HLr.out k hk;have HEq0:Hid _:=HSr.out k hlt;have HLs0:Hid _:=HLst.out k hlt;have hlg:=HLg.out k hlt;have hki:(k:Int) < (rn:Int):=by omega
     generalize m.rules.getD k ru0=r at *;obtain ⟨gd,sts⟩:=r;simp only at c0 c1 hG hSt HGf HSf HSm HEq0 HLs0
     obtain ⟨G0,eG0⟩:∃ G0,G0=FR k++ruleL0 m.vars ⟨gd,sts⟩:=⟨_,rfl⟩
     have HEqB:Hid (FR (k+1)=G0++setsL m.vars sts):=by show _=_;rw [eG0];exact HEq0.out
     have hlG:G0.length <= 6100000000:=by rw [eG0,List.length_append];omega
     have HEqA:Hid (G0=FR k++([114,117,108,101]++termW m.vars gd++[10])):=eG0;obtain ⟨FG,hFG⟩:∃ FG:Nat->List UInt8,FG=fun j=>G0++setsL m.vars (sts.take j):=⟨_,rfl⟩
     have H0g:Hid (FG 0=G0):=by show _=_;rw [hFG];simp [setsL]
     have HSg:Hid (∀ j,j < sts.length->FG (j+1)=FG j++setL m.vars (sts.getD j st0)):=fun j hj=>by
      rw [hFG]
      show G0++setsL m.vars (sts.take (j+1))=_
      rw [show setsL m.vars (sts.take (j+1))=setsL m.vars (sts.take j)++setL m.vars (sts.getD j st0) from flatMap_snoc _ st0 hj,<- List.append_assoc]
     have HEg:Hid (FG sts.length=FR (k+1)):=by show _=_;rw [hFG,HEqB.out];show G0++setsL m.vars (sts.take sts.length)=_;rw [List.take_length]
     have HLgj:Hid (∀ j,j <= sts.length->(FG j).length <= 6600000000):=fun j hj=>by
      have:=HLs0.out j hj;rw [hFG]
      show (G0++setsL m.vars (sts.take j)).length <= _
      rw [List.length_append];omega
     have hlt2:=HGf.len HFt.out.names;obtain ⟨sn,esn⟩:∃ sn,sn=sts.length:=⟨_,rfl⟩
     have HSN:Hid (sn=sts.length):=esn;rw [<- esn] at c1 hSt HSf HSm HSg HEg HLgj;obtain ⟨Wb,hWb⟩:∃ Wb,Wb=wr.alloc (.cells #[.slice go gn gc,.slice so sn sc] 61):=⟨_,rfl⟩
     have hbb:Below wr.heap.size wr Wb:=by rw [hWb];exact (Below.refl _ _).alloc (Nat.le_refl _) _
     have hbrb:=hbr.trans (hbb.mono hbr.size);obtain ⟨hbwb,hswb,j0,j1,j2,j3⟩:=HBx.out Wb hbrb;have htw:=HTw.out Wb gd _ hbwb (hG.below hbb) HGf
     have HIn:Hid (∀ w',Below Wb.heap.size Wb w'->Below W1.heap.size W1 w'/\w'.cell? ⟨wr.heap.size,1,none⟩=some (.slice so sn sc)/\SetsV w' (.slice so sn sc) sts):=fun w' h=>by
      have hl:wr.heap.size < Wb.heap.size:=by rw [hWb];simp
      exact ⟨hbrb.trans (h.mono hbrb.size),(h.cell (p:=⟨wr.heap.size,1,none⟩) hl).trans (by rw [hWb];simp [go_sem]),(hSt.below hbb).below h⟩
     have HEq:Hid (G0=FR k++([114,117,108,101]++termW m.vars gd++[10])):=HEqA;generalize termW m.vars gd=tg at *;obtain ⟨s0,es0⟩:∃ s0,s0=FR k:=⟨_,rfl⟩
     rw [<- es0] at hs0 HEq ⊢;obtain ⟨s1,es1⟩:∃ x,x=s0++[114,117,108,101]:=⟨_,rfl⟩
     have ls1:s1.length <= s0.length+4:=by rw [es1,List.length_append];first | exact Nat.le_refl _ | simp | (simp [ByteArray.size])
     have a0:ByteArray.mk s0.toArray++ByteArray.mk #[114,117,108,101]=ByteArray.mk s1.toArray:=tx_app (b:=[114,117,108,101]) es1;have m0:¬ 9223372036854775807 < s0.length+4:=by omega
     obtain ⟨s2,es2⟩:∃ x,x=s1++tg:=⟨_,rfl⟩
     have ls2:s2.length <= s1.length+tg.length:=by rw [es2,List.length_append];first | exact Nat.le_refl _ | simp | (simp [ByteArray.size])
     have a1:ByteArray.mk s1.toArray++ByteArray.mk tg.toArray=ByteArray.mk s2.toArray:=tx_app es2;have m1:¬ 9223372036854775807 < s1.length+tg.length:=by omega
     have a2:ByteArray.mk s2.toArray++ByteArray.mk #[10]=ByteArray.mk (G0).toArray:=tx_app (b:=[10]) (by rw [HEq.out,es2,es1];simp [List.append_assoc])
     have m2:¬ 9223372036854775807 < s2.length+1:=by omega
     clear es1 es2;clear es0 eG0 hFG esn HEq HEqA HEq0 hG hSt hlg HLs0 HGf;rw [hWb] at htw j0 j1
     go_wp2_with (go_at_call 18;refine htw.mono ?_;rintro e w5 ⟨rfl,hb5⟩;rw [<- hWb] at hb5)
     clear htw a0 a1 a2 m0 m1 m2;have HB5:Hid (Below Wb.heap.size Wb w5):=hb5;rw [<- H0g.out];generalize wr.heap.size=rb at *
     go_loopw [5,10] (fun s i wr=>∃ j:Nat,j <= sn/\i=.int .i64 (j:Int)/\s=.string ⟨(FG j).toArray⟩/\Hid (Below Wb.heap.size Wb wr)) (fun _ i _=>sn - (intOf i).toNat)
     case atStart=>exact ⟨0,Nat.zero_le _,rfl,rfl,HB5⟩
     case round=>
      obtain ⟨j,hj,rfl,rfl,HBq⟩:=hrel;obtain ⟨hbq,d1,hSq⟩:=HIn.out wr HBq.out;obtain ⟨hbwq,hswq,u0,u1,u2,u3⟩:=HBx.out wr hbq
      by_cases hltj:j < sn
      ·obtain ⟨b2,off2,rfl,hbl2,hat2⟩:=hSq.at (i:=j) (by rw [<- HSN.out];exact hltj)
       obtain ⟨⟨hv0,hv1⟩,hTf⟩:=HSf.out j hltj;have hs0:=HLgj.out j hj;have HEq0:Hid _:=HSg.out j hltj;have hji:(j:Int) < (sn:Int):=by omega
       generalize sts.getD j st0=st at *;obtain ⟨sv,sl⟩:=st;simp only at hv0 hv1 hTf
       obtain ⟨p,rfl⟩:=Int.eq_ofNat_of_zero_le hv0;have hpv:p < vn:=by rw [HVn.out];omega
       have hpi:(p:Int) < (vn:Int):=by omega
       obtain ⟨d2,uv,d3,hO⟩:=hat2;simp only at d2
       obtain ⟨uo,uc,rfl⟩:=hO.shape;obtain ⟨b3,off3,cap3,hva,hbl3,d4,_⟩:=HVr.out wr p hbwq hpv
       injection hva with e1 _ e3
       subst e1 e3;have hnm:=(HNv.out p hpv).2;have hlt3:=hTf.len HFt.out.names;have HEq:Hid (FG (j+1)=FG j++([115,101,116,32]++(m.vars.getD p vr0).name.data.toList++termW m.vars sl++[10])):=HEq0.out;generalize (m.vars.getD p vr0).name=nm at *;have htw:=HTw.out wr.drew sl _ hbwq.drew (hO.below (Below.refl _ _).drew) hTf
       generalize termW m.vars sl=tv at *;obtain ⟨s0,es0⟩:∃ s0,s0=FG j:=⟨_,rfl⟩
       rw [<- es0] at hs0 HEq ⊢;obtain ⟨s1,es1⟩:∃ x,x=s0++[115,101,116,32]:=⟨_,rfl⟩
       have ls1:s1.length <= s0.length+4:=by rw [es1,List.length_append];first | exact Nat.le_refl _ | simp | (simp [ByteArray.size])
       have a0:ByteArray.mk s0.toArray++ByteArray.mk #[115,101,116,32]=ByteArray.mk s1.toArray:=tx_app (b:=[115,101,116,32]) es1;have m0:¬ 9223372036854775807 < s0.length+4:=by omega
       obtain ⟨s2,es2⟩:∃ x,x=s1++nm.data.toList:=⟨_,rfl⟩
       have ls2:s2.length <= s1.length+nm.size:=by rw [es2,List.length_append];first | exact Nat.le_refl _ | simp | (simp [ByteArray.size])
       have a1:ByteArray.mk s1.toArray++nm=ByteArray.mk s2.toArray:=tx_nm es2;have m1:¬ 9223372036854775807 < s1.length+nm.size:=by omega
       obtain ⟨s3,es3⟩:∃ x,x=s2++tv:=⟨_,rfl⟩
       have ls3:s3.length <= s2.length+tv.length:=by rw [es3,List.length_append];first | exact Nat.le_refl _ | simp | (simp [ByteArray.size])
       have a2:ByteArray.mk s2.toArray++ByteArray.mk tv.toArray=ByteArray.mk s3.toArray:=tx_app es3;have m2:¬ 9223372036854775807 < s2.length+tv.length:=by omega
       have a3:ByteArray.mk s3.toArray++ByteArray.mk #[10]=ByteArray.mk (FG (j+1)).toArray:=tx_app (b:=[10]) (by rw [HEq.out,es3,es2,es1];simp [List.append_assoc])
       have m3:¬ 9223372036854775807 < s3.length+1:=by omega
       clear es1 es2 es3;have hB0:Below wr.heap.size wr wr:=Below.refl _ _
       have HSC:Hid (∀ w',Below wr.heap.size wr w'->w'.cell? ⟨w.heap.size,0,none⟩=some (.slice (some ⟨b3,off3,none⟩) vn ac)/\w'.cell? ⟨w.heap.size,1,none⟩=some (.slice (some ⟨b,off,none⟩) rn rc)/\w'.cell? ⟨rb,1,none⟩=some (.slice (some ⟨b2,off2,none⟩) sn sc)/\w'.cell? ⟨b2,off2+j*2,none⟩=some (.int .i64 (p:Int))/\w'.cell? ⟨b2,off2+j*2+1,none⟩=some (.slice uo sl.length uc)/\w'.cell? ⟨b3,off3+p*4,none⟩=some (.string nm)):=fun w' h=>⟨(h.cell (p:=⟨w.heap.size,0,none⟩) (World.block_lt_of_cell? _ ⟨w.heap.size,0,none⟩ u0)).trans u0,(h.cell (p:=⟨w.heap.size,1,none⟩) (World.block_lt_of_cell? _ ⟨w.heap.size,1,none⟩ u1)).trans u1,(h.cell (p:=⟨rb,1,none⟩) (World.block_lt_of_cell? _ ⟨rb,1,none⟩ d1)).trans d1,(h.cell (p:=⟨b2,_,none⟩) hbl2).trans d2,(h.cell (p:=⟨b2,_,none⟩) hbl2).trans d3,(h.cell (p:=⟨b3,off3+p*4,none⟩) (World.block_lt_of_cell? _ ⟨b3,off3+p*4,none⟩ d4)).trans d4⟩
       clear es0 HEq HEq0 hO hTf hSq;generalize sl.length=sln at *
       go_wp2_with fail
       go_region_held3 (fun w'=>w'.cell? ⟨w.heap.size,0,none⟩=some (.slice (some ⟨b3,off3,none⟩) vn ac)/\w'.cell? ⟨w.heap.size,1,none⟩=some (.slice (some ⟨b,off,none⟩) rn rc)/\w'.cell? ⟨rb,1,none⟩=some (.slice (some ⟨b2,off2,none⟩) sn sc)/\w'.cell? ⟨b2,off2+j*2,none⟩=some (.int .i64 (p:Int))/\w'.cell? ⟨b2,off2+j*2+1,none⟩=some (.slice uo sln uc)/\w'.cell? ⟨b3,off3+p*4,none⟩=some (.string nm))
        (first | exact HSC.out _ hb12 | exact HSC.out _ hB0.drew | exact HSC.out _ hB0)
        (first
         | (go_at_call 18;refine htw.mono ?_;rintro e w6 ⟨rfl,hb6⟩;have hb12:=hB0.drew.trans (hb6.mono hB0.drew.size)))
       go_wp2_with fail
       go_roundw
       case rel=>exact ⟨j+1,by omega,by go_num,by first | rfl | trivial,HBq.out.trans (hb12.mono HBq.out.size)⟩
       case measure=>simp [intOf];omega
      ·obtain rfl:sn=j:=by omega
       rw [HEg.out]
       go_wp2_with fail
       go_roundw
       case rel=>exact ⟨k+1,by omega,by go_num,by first | rfl | trivial,hbq⟩
       case measure=>simp [intOf];omega
    ·obtain rfl:rn=k:=by omega
     rw [<- H0p.out]
     go_wp2_with fail
     clear hlt hk k0 k1 k2 k3 hbw hsw hbr;generalize wr=wo2 at *
     go_loopw [5,11] (fun s i wr=>∃ k:Nat,k <= pn/\i=.int .i64 (k:Int)/\s=.string ⟨(FP k).toArray⟩/\Hid (Below W1.heap.size W1 wr)) (fun _ i _=>pn - (intOf i).toNat)
     case atStart=>exact ⟨0,Nat.zero_le _,rfl,rfl,HBr⟩
     case round=>
      obtain ⟨k,hk,rfl,rfl,HBr⟩:=hrel;have hbr:=HBr.out;obtain ⟨hbw,hsw,k0,k1,k2,k3⟩:=HBx.out wr hbr
      by_cases hlt:k < pn
      ·obtain ⟨b,off,cap,go,gn,gc,hpv,hbl,c0,hG⟩:=HPr.out wr k hbw hlt
       injection hpv with e1 _ e3
       subst e1 e3;have hPf:=HFt.out.props k (by rw [<- HPn.out];exact hlt)
       have hs0:=HLp.out k hk;have HEq0:Hid _:=HSp.out k hlt;have hki:(k:Int) < (pn:Int):=by omega
       generalize ps.getD k []=pt at *;have hlt3:=hPf.len HFt.out.names;have HEq:Hid (FP (k+1)=FP k++([112,114,111,112]++termW m.vars pt++[10])):=HEq0.out;have htw:=HTw.out wr.drew pt _ hbw.drew (hG.below (Below.refl _ _).drew) hPf;generalize termW m.vars pt=tv at *;obtain ⟨s0,es0⟩:∃ s0,s0=FP k:=⟨_,rfl⟩
       rw [<- es0] at hs0 HEq ⊢;obtain ⟨s1,es1⟩:∃ x,x=s0++[112,114,111,112]:=⟨_,rfl⟩
       have ls1:s1.length <= s0.length+4:=by rw [es1,List.length_append];first | exact Nat.le_refl _ | simp | (simp [ByteArray.size])
       have a0:ByteArray.mk s0.toArray++ByteArray.mk #[112,114,111,112]=ByteArray.mk s1.toArray:=tx_app (b:=[112,114,111,112]) es1;have m0:¬ 9223372036854775807 < s0.length+4:=by omega
       obtain ⟨s2,es2⟩:∃ x,x=s1++tv:=⟨_,rfl⟩
       have ls2:s2.length <= s1.length+tv.length:=by rw [es2,List.length_append];first | exact Nat.le_refl _ | simp | (simp [ByteArray.size])
       have a1:ByteArray.mk s1.toArray++ByteArray.mk tv.toArray=ByteArray.mk s2.toArray:=tx_app es2;have m1:¬ 9223372036854775807 < s1.length+tv.length:=by omega
       have a2:ByteArray.mk s2.toArray++ByteArray.mk #[10]=ByteArray.mk (FP (k+1)).toArray:=tx_app (b:=[10]) (by rw [HEq.out,es2,es1];simp [List.append_assoc])
       have m2:¬ 9223372036854775807 < s2.length+1:=by omega
       clear es1 es2;have hB0:Below wr.heap.size wr wr:=Below.refl _ _
       have HSC:Hid (∀ w',Below wr.heap.size wr w'->w'.cell? ⟨w.heap.size,0,none⟩=some (.slice ao vn ac)/\w'.cell? ⟨w.heap.size,1,none⟩=some (.slice ro rn rc)/\w'.cell? ⟨w.heap.size,2,none⟩=some (.slice (some ⟨b,off,none⟩) pn pc)/\w'.cell? ⟨b,off+k,none⟩=some (.slice go gn gc)):=fun w' h=>⟨(h.cell (p:=⟨w.heap.size,0,none⟩) hsw).trans k0,(h.cell (p:=⟨w.heap.size,1,none⟩) hsw).trans k1,(h.cell (p:=⟨w.heap.size,2,none⟩) hsw).trans k2,(h.cell (p:=⟨b,_,none⟩) (Nat.lt_of_lt_of_le hbl hbw.size)).trans c0⟩
       clear es0 HEq HEq0 hG hPf
       go_wp2_with fail
       go_region_held3 (fun w'=>w'.cell? ⟨w.heap.size,0,none⟩=some (.slice ao vn ac)/\w'.cell? ⟨w.heap.size,1,none⟩=some (.slice ro rn rc)/\w'.cell? ⟨w.heap.size,2,none⟩=some (.slice (some ⟨b,off,none⟩) pn pc)/\w'.cell? ⟨b,off+k,none⟩=some (.slice go gn gc))
        (first | exact HSC.out _ hb12 | exact HSC.out _ hB0.drew | exact HSC.out _ hB0)
        (first
         | (go_at_call 18;refine htw.mono ?_;rintro e w6 ⟨rfl,hb6⟩;have hb12:=hB0.drew.trans (hb6.mono hB0.drew.size)))
       go_wp2_with fail
       go_roundw
       case rel=>exact ⟨k+1,by omega,by go_num,by first | rfl | trivial,hbr.trans (hb12.mono hbr.size)⟩
       case measure=>simp [intOf];omega
      ·obtain rfl:pn=k:=by omega
       have hs0:=HLp.out pn hk;have hlc:=HLc.out;have HEq:Hid (res=FP pn++([99,104,101,99,107]++termW m.vars l++[10])):=HEe.out;have htw:=HTw.out wr l _ hbw (HTK.out.fo.below hbw) HFt.out.form;generalize termW m.vars l=tv at *;obtain ⟨s0,es0⟩:∃ s0,s0=FP pn:=⟨_,rfl⟩
       rw [<- es0] at hs0 HEq ⊢;obtain ⟨s1,es1⟩:∃ x,x=s0++[99,104,101,99,107]:=⟨_,rfl⟩
       have ls1:s1.length <= s0.length+5:=by rw [es1,List.length_append];first | exact Nat.le_refl _ | simp | (simp [ByteArray.size])
       have a0:ByteArray.mk s0.toArray++ByteArray.mk #[99,104,101,99,107]=ByteArray.mk s1.toArray:=tx_app (b:=[99,104,101,99,107]) es1;have m0:¬ 9223372036854775807 < s0.length+5:=by omega
       obtain ⟨s2,es2⟩:∃ x,x=s1++tv:=⟨_,rfl⟩
       have ls2:s2.length <= s1.length+tv.length:=by rw [es2,List.length_append];first | exact Nat.le_refl _ | simp | (simp [ByteArray.size])
       have a1:ByteArray.mk s1.toArray++ByteArray.mk tv.toArray=ByteArray.mk s2.toArray:=tx_app es2;have m1:¬ 9223372036854775807 < s1.length+tv.length:=by omega
       have a2:ByteArray.mk s2.toArray++ByteArray.mk #[10]=ByteArray.mk (res).toArray:=tx_app (b:=[10]) (by rw [HEq.out,es2,es1];simp [List.append_assoc])
       have m2:¬ 9223372036854775807 < s2.length+1:=by omega
       clear es1 es2;clear es0 HEq
       go_wp2_with (go_at_call 18;refine htw.mono ?_;rintro e w6 ⟨rfl,hb6⟩)
       go_ret2
       exact ⟨rfl,hbw.trans (hb6.mono hbw.size)⟩
theorem four_kept {w w':World} {x0 x1 x2 x3:Value} {t:TypeId} (h:Below (w.alloc (.cells #[x0,x1,x2,x3] t)).heap.size (w.alloc (.cells #[x0,x1,x2,x3] t)) w'):w'.cell? ⟨w.heap.size,0,none⟩=some x0/\w'.cell? ⟨w.heap.size,1,none⟩=some x1/\w'.cell? ⟨w.heap.size,2,none⟩=some x2/\w'.cell? ⟨w.heap.size,3,none⟩=some x3:=⟨(h.cell (p:=⟨w.heap.size,0,none⟩) (by simp)).trans (by simp [go_sem]),(h.cell (p:=⟨w.heap.size,1,none⟩) (by simp)).trans (by simp [go_sem]),(h.cell (p:=⟨w.heap.size,2,none⟩) (by simp)).trans (by simp [go_sem]),(h.cell (p:=⟨w.heap.size,3,none⟩) (by simp)).trans (by simp [go_sem])⟩
noncomputable def showT (m:Mo) (ps:List (List (Int × Int))) (l:List (Int × Int)):ByteArray:=if tkcode m ps l=0 then ⟨(showL m ps l).toArray⟩ else ⟨#[]⟩
theorem show_any (va vr pv fv:Value) (m:Mo) (ps:List (List (Int × Int))) (l:List (Int × Int)) (w:World) (hB:0 < w.heap.size) (hT:TabAt w) (hV:TaskV w va vr pv fv m ps l) :
  Calls Tryd.prog 5 #[.agg #[va,vr,pv,fv]] w fun e w'=>e=.returned (.tuple #[.string (showT m ps l),.int .i64 (tkcode m ps l)])/\Below w.heap.size w w':=by
 unfold showT
 by_cases hk:tkcode m ps l=0
 ·rw [if_pos hk]
  have h:=show_ok va vr pv fv m ps l w hB hT hV hk;rw [hk];exact h
 ·rw [if_neg hk]
  exact show_bad va vr pv fv m ps l w hB hT hV hk
theorem shown_any (va vr pv fv:Value) (m:Mo) (ps:List (List (Int × Int))) (l:List (Int × Int)) (w:World) (hp1:ps.length*24 <= 140737488355328) (hV:TaskV w va vr pv fv m ps l) :
  Calls Tryd.prog 6 #[.agg #[va,vr,pv,fv]] w fun e w'=>e=.returned (.tuple #[.string (showT m ps l),.int .i64 (tkcode m ps l)])/\Below w.heap.size w w':=by
 unfold showT
 by_cases hk:tkcode m ps l=0
 ·rw [if_pos hk]
  have h:=shown_ok va vr pv fv m ps l w hp1 hV hk (tk_fit hk);rw [hk];exact h
 ·rw [if_neg hk]
  exact shown_bad va vr pv fv m ps l w hp1 hV hk
theorem sheetShows_walk (va vr pv fv:Value) (m:Mo) (ps:List (List (Int × Int))) (l:List (Int × Int)) (w:World) (hB:0 < w.heap.size) (hT:TabAt w) (hZ:TkSz m ps l) (hV:TaskV w va vr pv fv m ps l) :
  Calls Tryd.prog 3 #[.agg #[va,vr,pv,fv]] w fun e w'=>e=.returned (.bool true)/\Below w.heap.size w w':=by
 obtain ⟨ao,ac,rfl⟩:=hV.mo.1.shape;obtain ⟨ro,rc,rfl⟩:=hV.mo.2.shape;obtain ⟨po,pc,rfl⟩:=hV.ps.shape;obtain ⟨fo,fc,rfl,_⟩:=id hV.fo
 have HTk:Hid (∀ w1,Below w.heap.size w w1->Calls Tryd.prog 4 #[.agg #[.slice ao m.vars.length ac,.slice ro m.rules.length rc,.slice po ps.length pc,.slice fo l.length fc]] w1 fun e w'=>∃ ao vn ac ro rn rc po pn pc fo fn fc,e=.returned (.agg #[.slice ao vn ac,.slice ro rn rc,.slice po pn pc,.slice fo fn fc])/\Below w1.heap.size w1 w'/\Hid (TaskV w' (.slice ao vn ac) (.slice ro rn rc) (.slice po pn pc) (.slice fo fn fc) m ps l)):=fun w1 h=>tasks_any _ _ _ _ m ps l w1 hZ (hV.below h)
 have HCk:Hid (∀ w1 va vr pv fv,Below w.heap.size w w1->TaskV w1 va vr pv fv m ps l->Calls Tryd.prog 5 #[.agg #[va,vr,pv,fv]] w1 fun e w'=>e=.returned (.tuple #[.string (showT m ps l),.int .i64 (tkcode m ps l)])/\Below w1.heap.size w1 w'):=fun w1 va vr pv fv h hv=>show_any va vr pv fv m ps l w1 (Nat.lt_of_lt_of_le hB h.size) (hT.below h hB) hv
 have HRf:Hid (∀ w1,Below w.heap.size w w1->Calls Tryd.prog 6 #[.agg #[.slice ao m.vars.length ac,.slice ro m.rules.length rc,.slice po ps.length pc,.slice fo l.length fc]] w1 fun e w'=>e=.returned (.tuple #[.string (showT m ps l),.int .i64 (tkcode m ps l)])/\Below w1.heap.size w1 w'):=fun w1 h=>shown_any _ _ _ _ m ps l w1 hZ.p1 (hV.below h)
 have HSm:Hid (∀ w1 va vr pv fv,Below w.heap.size w w1->TaskV w1 va vr pv fv m ps l->Calls Tryd.prog 7 #[.agg #[va,vr,pv,fv],.agg #[.slice ao m.vars.length ac,.slice ro m.rules.length rc,.slice po ps.length pc,.slice fo l.length fc]] w1 fun e w'=>e=.returned (.bool true)/\Below w1.heap.size w1 w'):=fun w1 va vr pv fv h hv=>sameTask_b va vr pv fv _ _ _ _ m ps l w1 hZ hv (hV.below h)
 have hA:∀ o,Below w.heap.size w (w.alloc o):=fun o=>(Below.refl _ _).alloc (Nat.le_refl _) o
 generalize tkcode m ps l=x at *;generalize showT m ps l=tx at *;generalize m.vars.length=vn at *;generalize m.rules.length=rn at *;generalize ps.length=pn at *;generalize l.length=fn at *;clear hV hZ hT;have htk:=HTk.out _ (hA (.cells #[.slice ao vn ac,.slice ro rn rc,.slice po pn pc,.slice fo fn fc] 29))
 go_enter Tryd.func3,Tryd.ntmps3
 go_wp2_with (first
  | (go_at_call 4;refine htk.mono ?_;rintro e w1 ⟨a1,n1,c1,a2,n2,c2,a3,n3,c3,a4,n4,c4,rfl,hb1,HV1⟩;have hbw1:=(hA _).trans (hb1.mono (hA _).size);have hb1A:Below w1.heap.size w1 (w1.alloc (.cells #[.slice a1 n1 c1,.slice a2 n2 c2,.slice a3 n3 c3,.slice a4 n4 c4] 29)):=(Below.refl _ _).alloc (Nat.le_refl _) _;have hck:=HCk.out _ _ _ _ _ (hbw1.trans (hb1A.mono hbw1.size)) (HV1.out.below hb1A))
  | (go_at_call 5;refine hck.mono ?_;rintro e w2 ⟨rfl,hb2⟩;have hb12:Below w1.heap.size w1 w2:=hb1A.trans (hb2.mono hb1A.size);have hbw2:=hbw1.trans (hb12.mono hbw1.size);have q2:=four_kept (hb1.trans (hb12.mono hb1.size));obtain ⟨k0,k1,k2,k3⟩:=q2;have hrf:=HRf.out w2 hbw2)
  | (go_at_call 6;refine hrf.mono ?_;rintro e w3 ⟨rfl,hb3⟩;have hb13:=hb12.trans (hb3.mono hb12.size);have hbw3:=hbw1.trans (hb13.mono hbw1.size);have q3:=four_kept (hb1.trans (hb13.mono hb1.size));obtain ⟨g0,g1,g2,g3⟩:=q3;have q4:=four_kept (hb2.trans (hb3.mono hb2.size));obtain ⟨y0,y1,y2,y3⟩:=q4;have hsm:=HSm.out w3 _ _ _ _ hbw3 (HV1.out.below hb13))
  | (go_at_call 7;refine hsm.mono ?_;rintro e w4 ⟨rfl,hb4⟩))
 go_ret
 exact ⟨by first | rfl | simp,hbw3.trans (hb4.mono hbw3.size)⟩
