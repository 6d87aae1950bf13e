/- Joined texts. -/
import Derived.Test.YtfnobbpbmelgnaaGreatDoorLateD
namespace Go.Proofs.YtfnobbpbmelgnaaGreatDoor
open Go.ChangeShapes Go.WideShapes Go.ChangeAt Go.RowKit Go.Deep Go.Maps
open Terms Tm
set_option maxHeartbeats 6400000
set_option maxRecDepth 20000
theorem infoIL:(Tryz.prog.info? 36).map (fun i=>(i.zero,i.size,i.bytes))=some (some (.slice none 0 0),1,24):=by kernel_rfl
theorem xfo_mem {l:List (Int × Int)} {x:List Bool} {c:Int} {y:List Bool} {st:Int} {p:Int × Int}:∀ k,p∈foTo l x c y st k->p.1=st/\∃ d:Nat,d < k/\p.2=(d:Int)/\folR l x c y (d:Int)=true
 | 0,h=>by simp [foTo] at h
 | k+1,h=>by
  rw [foTo] at h
  split at h
  ·next hf=>
   rw [List.mem_append,List.mem_singleton] at h
   rcases h with h | rfl
   ·obtain ⟨h1,d,h2,h3⟩:=xfo_mem k h
    exact ⟨h1,d,by omega,h3⟩
   ·exact ⟨rfl,k,by omega,rfl,hf⟩
  ·obtain ⟨h1,d,h2,h3⟩:=xfo_mem k h
   exact ⟨h1,d,by omega,h3⟩
theorem xbe_mem {m:Mo} {ps:List (List (Int × Int))} {l:List (Int × Int)} {code c:Int} {p:Int × Int}:∀ i,i <= (nextL m code).length->p∈behTo m ps l code c i->p.1∈nextL m code/\∃ d:Nat,d < 2 ^ (aheadL l).length/\p.2=(d:Int)/\folR l (letL m ps code) c (letL m ps p.1) (d:Int)=true
 | 0,_,h=>by simp [behTo] at h
 | i+1,hi,h=>by
  rw [behTo,List.mem_append] at h
  rcases h with h | h
  ·exact xbe_mem i (by omega) h
  ·obtain ⟨h1,d,h2,h3,h4⟩:=xfo_mem _ h
   refine ⟨?_,d,h2,h3,by rw [h1];exact h4⟩
   rw [h1,List.getD_eq_getElem?_getD,List.getElem?_eq_getElem (by omega)]
   exact List.getElem_mem _
theorem behL_spot {m:Mo} {ps:List (List (Int × Int))} {l:List (Int × Int)} {code c:Int} (hm:mcode m=0) (hcr:0 <= code/\code < prodTo m.vars m.vars.length) {p:Int × Int} (h:p∈behL m ps l code c):(0 <= p.1/\p.1 < prodTo m.vars m.vars.length)/\∃ d:Nat,d < 2 ^ (aheadL l).length/\p.2=(d:Int):=by
 obtain ⟨h1,d,h2,h3,_⟩:=xbe_mem _ (Nat.le_refl _) h;exact ⟨nextL_st hm hcr h1,d,h2,h3⟩
theorem behL_len {m:Mo} {ps:List (List (Int × Int))} {l:List (Int × Int)} {code c:Int} (hm:mcode m=0) (hcr:0 <= code/\code < prodTo m.vars m.vars.length) (h6:(aheadL l).length <= 6):(behL m ps l code c).length <= 262144:=by
 have h1:=behTo_len (m:=m) (ps:=ps) (l:=l) (Nat.pow_le_pow_right (show 0 < 2 by decide) h6) code c (nextL m code).length
 have h2:=nextL_len hm hcr;unfold behL;omega
theorem spot_I64 {m:Mo} {ps:List (List (Int × Int))} {l:List (Int × Int)} (hk:tkcode m ps l=0) {p:Int × Int} (h:(0 <= p.1/\p.1 < prodTo m.vars m.vars.length)/\∃ d:Nat,d < 2 ^ (aheadL l).length/\p.2=(d:Int)):I64s p:=by
 obtain ⟨hp0,hl0⟩:=tk_zero hk;obtain ⟨hm0,_⟩:=pcode_m hp0;obtain ⟨_,_,_,_,h6⟩:=lcode_zero hl0;have hpr:=((mcode_vars hm0).prod (Nat.le_refl m.vars.length)).2;have hN64:2 ^ (aheadL l).length <= 64:=Nat.pow_le_pow_right (show 0 < 2 by decide) h6
 obtain ⟨h1,d,h2,h3⟩:=h;unfold I64s;omega
def GoPost (w0:World) (base A lm B bs bl n:Nat) (va vr pv fv:Value) (m:Mo) (ps:List (List (Int × Int))) (l:List (Int × Int)) (ho:Option Addr) (hc:Nat) (S:List (Int × Int)) (N:List (List Int)) (T:List Int) (init many:Int) (code:Int) (c:Nat) (e:Ending) (w':World):Prop:=
 e=.returned (.int .i64 (if 20000 < (plTo S (behL m ps l code (c:Int))).length then 12 else 0))/\∃ sv nv tv,Hid (ExW w0 w' base A lm B bs bl (n+300001) va vr pv fv m ps l ho hc (plTo S (behL m ps l code (c:Int))) (N++[plIx S (behL m ps l code (c:Int))]) (T++[metN l (letL m ps code) (c:Int)]) init many sv nv tv)
theorem goThrough_any (w0 w:World) (base A lm B bs bl n:Nat) (va vr pv fv:Value) (m:Mo) (ps:List (List (Int × Int))) (l:List (Int × Int)) (ho:Option Addr) (hc:Nat) (S:List (Int × Int)) (N:List (List Int)) (T:List Int) (init many:Int) (sv nv tv:Value) (code:Int) (c:Nat) (hB:0 < w0.heap.size) (hT:TabAt w0) (hV:TaskV w0 va vr pv fv m ps l) (hk:tkcode m ps l=0) (hX:ExW w0 w base A lm B bs bl n va vr pv fv m ps l ho hc S N T init many sv nv tv) (hn:n+600000 < 1000000000000) (hcr:0 <= code/\code < prodTo m.vars m.vars.length) (hcN:c < 2 ^ (aheadL l).length) (hzS:S.length <= 20000) (hzN:N.length <= 20000) (hzT:T.length <= 20000) :
  Calls Tryz.prog 28 #[.pointer (some ⟨A,0,none⟩),.pointer (some ⟨B,0,none⟩),.agg #[.int .i64 code,.int .i64 (c:Int)]] w (GoPost w0 base A lm B bs bl n va vr pv fv m ps l ho hc S N T init many code c):=by
 obtain ⟨hp0,hl0⟩:=tk_zero hk;obtain ⟨hm0,_⟩:=pcode_m hp0;obtain ⟨_,_,_,_,h6⟩:=lcode_zero hl0;have hpr:=((mcode_vars hm0).prod (Nat.le_refl m.vars.length)).2;have hI:-9223372036854775808 <= code/\code <= 9223372036854775807:=by omega
 have hbl:=behL_len (ps:=ps) (c:=(c:Int)) hm0 hcr h6;have hIs:∀ j,j < (behL m ps l code (c:Int)).length->I64s ((behL m ps l code (c:Int)).getD j (0,0)):=fun j hj=>spot_I64 hk (behL_spot hm0 hcr (c:=(c:Int)) (ps:=ps) (by rw [List.getD_eq_getElem?_getD,List.getElem?_eq_getElem hj];exact List.getElem_mem _))
 have hw0:=wcode_yes hm0 hcr;obtain ⟨W1,hW1⟩:∃ W1,W1=w.alloc (.cells #[.int .i64 code,.int .i64 (c:Int)] 97):=⟨_,rfl⟩
 have hb1:Below w.heap.size w W1:=by rw [hW1];exact (Below.refl _ _).alloc (Nat.le_refl _) _
 have hs1:W1.cell? ⟨w.heap.size,0,none⟩=some (.int .i64 code)/\W1.cell? ⟨w.heap.size,1,none⟩=some (.int .i64 (c:Int)):=by rw [hW1];constructor <;> simp [go_sem]
 have hX1:=hX.below hb1
 have hbe:Calls Tryz.prog 48 #[.pointer (some ⟨B,0,none⟩),.agg #[.int .i64 code,.int .i64 (c:Int)]] W1 fun e w2=>∃ so sc,e=.returned (.tuple #[.slice so (behL m ps l code (c:Int)).length sc,.int .i64 0])/\(w2.cell? ⟨w.heap.size,0,none⟩=some (.int .i64 code)/\w2.cell? ⟨w.heap.size,1,none⟩=some (.int .i64 (c:Int)))/\Hid (ExW w0 w2 base A lm B bs bl (n+300000) va vr pv fv m ps l ho hc S N T init many sv nv tv/\SpO w2 W1.heap.size (.slice so (behL m ps l code (c:Int)).length sc) (behL m ps l code (c:Int))):=
  (behind_in w0 W1 B bs bl n va vr pv fv m ps l ho hc code c hI hB hT hV hk hX1.su (by omega) hcr hcN).mono fun e w2 ⟨h1,h2,h3⟩=>by
   rcases h3 with ⟨_,so,sc,h4,h5⟩ | ⟨h4,_⟩
   ·exact ⟨so,sc,h4,⟨h1.cell hX1.su.two hs1.1,h1.cell hX1.su.two hs1.2⟩,hX1.call h1 h2.out,h5.out⟩
   ·exact absurd hw0 h4
 have HMe:Hid (∀ w2,ExW w0 w2 base A lm B bs bl (n+300000) va vr pv fv m ps l ho hc S N T init many sv nv tv->Calls Tryz.prog 49 #[.pointer (some ⟨B,0,none⟩),.agg #[.int .i64 code,.int .i64 (c:Int)]] w2 fun e w3=>e=.returned (.tuple #[.int .i64 (metN l (letL m ps code) (c:Int)),.int .i64 0])/\Hid (ExW w0 w3 base A lm B bs bl (n+300001) va vr pv fv m ps l ho hc S N T init many sv nv tv/\∀ so sc,SpO w2 W1.heap.size (.slice so (behL m ps l code (c:Int)).length sc) (behL m ps l code (c:Int))->SpO w3 W1.heap.size (.slice so (behL m ps l code (c:Int)).length sc) (behL m ps l code (c:Int)))):=fun w2 hx=>
  (meets_in w0 w2 B bs bl (n+300000) va vr pv fv m ps l ho hc code c hI hB hT hV hk hx.su (by omega) hcr hcN).mono fun e w3 ⟨h1,h2,h3⟩=>⟨h1,hx.call h2 h3.out,fun so sc h=>h.sk h2 hx.su.two⟩
 have HPl:Hid (∀ w3 so sc,ExW w0 w3 base A lm B bs bl (n+300001) va vr pv fv m ps l ho hc S N T init many sv nv tv->SpO w3 W1.heap.size (.slice so (behL m ps l code (c:Int)).length sc) (behL m ps l code (c:Int))->Calls Tryz.prog 27 #[.pointer (some ⟨A,0,none⟩),.slice so (behL m ps l code (c:Int)).length sc] w3.drew fun e w4=>e=.returned (.slice (some ⟨w3.heap.size,0,none⟩) (behL m ps l code (c:Int)).length (behL m ps l code (c:Int)).length)/\∃ us sv',w4.cell? ⟨A,2,none⟩=some nv/\(w4.alloc (.cells #[.slice (some ⟨w3.heap.size,0,none⟩) (behL m ps l code (c:Int)).length (behL m ps l code (c:Int)).length] 36)).cell? ⟨A,2,none⟩=some nv/\(w4.alloc (.cells #[.slice (some ⟨w3.heap.size,0,none⟩) (behL m ps l code (c:Int)).length (behL m ps l code (c:Int)).length] 36)).ownsRow base 36 1 nv N.length us/\base <= (w4.alloc (.cells #[.slice (some ⟨w3.heap.size,0,none⟩) (behL m ps l code (c:Int)).length (behL m ps l code (c:Int)).length] 36)).heap.size/\Hid (∀ g cap w9,World.ownsRow w9 base 36 1 (.slice (some ⟨g,0,none⟩) (N.length+1) cap) (N.length+1) (us++[.slice (some ⟨w3.heap.size,0,none⟩) (behL m ps l code (c:Int)).length (behL m ps l code (c:Int)).length])->(w4.alloc (.cells #[.slice (some ⟨w3.heap.size,0,none⟩) (behL m ps l code (c:Int)).length (behL m ps l code (c:Int)).length] 36)).grownBy w9 nv.ownBlock->(w9.cell? ⟨A,2,none⟩=some nv/\w9.frozen? ⟨A,2,none⟩=false)/\ExW w0 (w9.setCell ⟨A,2,none⟩ (.slice (some ⟨g,0,none⟩) (N.length+1) cap)) base A lm B bs bl (n+300001) va vr pv fv m ps l ho hc (plTo S (behL m ps l code (c:Int))) (N++[plIx S (behL m ps l code (c:Int))]) T init many sv' (.slice (some ⟨g,0,none⟩) (N.length+1) cap) tv)):=fun w3 so sc hx hsp=>by
  have hbd:Below w3.heap.size w3 w3.drew:=(Below.refl _ _).drew;have hx3:=hx.below hbd;have hsp3:=hsp.later hbd (Nat.le_refl _)
  have hsep:∀ a,so=some a->¬ atZ A lm sv a.block:=fun a e z=>by
   have hge:=owns_ge hsp a _ _ (by rw [e])
   rcases z with z | z | z
   ·have:=hX1.tl.lt;omega
   ·have:=hX1.tl.lies.lt;omega
   ·have:=(owns_ty hX1.tl.sp z).2.lt;omega
  refine (places_any w3.drew base A lm S N T init many sv nv tv _ so sc hx3.tl hsp3.v hsep hIs (by omega)).mono fun e w4 ⟨h1,sv',h2,h3,h4,h5,h6⟩=>?_
  have hx4:=hx3.put h5 h2;have hba:Below w4.heap.size w4 (w4.alloc (.cells #[.slice (some ⟨w3.heap.size,0,none⟩) (behL m ps l code (c:Int)).length (behL m ps l code (c:Int)).length] 36)):=(Below.refl _ _).alloc (Nat.le_refl _) _;have hx5:=hx4.below hba;obtain ⟨us,hus⟩:=id hx5.tl.nx;have hbs3:base <= w3.heap.size:=hx.tl.base_le
  refine ⟨h1,us,sv',(atB_cells hx4.tl.box).2.2.1,(atB_cells hx5.tl.box).2.2.1,hus.1,hx5.tl.base_le,fun g cap w9 g1 g2=>⟨?_,?_⟩⟩
  ·have hbx:w9.heap[A]? = some (atB sv' nv tv init many lm):=(g2.block A hx5.tl.lt fun e=>by have:=hx5.tl.ty.eq (owns_ty hus.1 e.symm).2;exact absurd this (by decide)).trans hx5.tl.box
   exact ⟨(atB_cells hbx).2.2.1,atB_free hbx 2⟩
  ·have e:(behL m ps l code (c:Int)).length=(plIx S (behL m ps l code (c:Int))).length:=(plIx_len _ _).symm
   have hr5:=h3.below hba;have ht5:=h4.below hba;have hr6:IntsV (w4.alloc (.cells #[.slice (some ⟨w3.heap.size,0,none⟩) (behL m ps l code (c:Int)).length (behL m ps l code (c:Int)).length] 36)) (.slice (some ⟨w3.heap.size,0,none⟩) (plIx S (behL m ps l code (c:Int))).length (behL m ps l code (c:Int)).length) (plIx S (behL m ps l code (c:Int))):=by rw [<- e];exact hr5
   have ht6:RowTy (w4.alloc (.cells #[.slice (some ⟨w3.heap.size,0,none⟩) (behL m ps l code (c:Int)).length (behL m ps l code (c:Int)).length] 36)) (.slice (some ⟨w3.heap.size,0,none⟩) (plIx S (behL m ps l code (c:Int))).length (behL m ps l code (c:Int)).length) 3:=by rw [<- e];exact ht5
   refine hx5.appN hus hr6 ht6 (fun a ea=>?_) g2 (by rw [<- e];exact g1)
   injection ea with ea
   subst ea;refine ⟨fun e2=>?_,hbs3⟩
   have:=(owns_ty hx.tl.st e2).2.lt;simp only at this
   omega
 clear hX hX1 hT hV hk hp0 hl0 hm0 hIs hw0;unfold GoPost;generalize behL m ps l code (c:Int)=beh at *;generalize metN l (letL m ps code) (c:Int)=mt at *;have HPn:Hid (∀ w' sv nv tv N T n,ExW w0 w' base A lm B bs bl n va vr pv fv m ps l ho hc (plTo S beh) N T init many sv nv tv->∃ vo vc,sv=.slice vo (plTo S beh).length vc):=fun w' sv nv tv N T n h=>h.tl.sp.shape
 have hpn:(plTo S beh).length <= 300000:=by have:=(plTo_length beh S).2;omega
 generalize plTo S beh=PS at *;generalize plIx S beh=PI at *;generalize hbn:beh.length=bn at *;have HTs:Hid (∀ w' sv nv n S N,ExW w0 w' base A lm B bs bl n va vr pv fv m ps l ho hc S N T init many sv nv tv->∃ xo xc,tv=.slice xo T.length xc):=fun w' sv nv n S N h=>owns_slice h.tl.st
 have HNs:Hid (∀ w',ExW w0 w' base A lm B bs bl (n+300000) va vr pv fv m ps l ho hc S N T init many sv nv tv->∃ xo xc,nv=.slice xo N.length xc):=fun w' h=>by
  obtain ⟨us,h1,_⟩:=h.tl.nx;exact owns_slice h1
 obtain ⟨i0,hi,hz0,hz1,hz2⟩:=info_parts infoIL;obtain ⟨j0,hj,jz0,jz1,jz2⟩:=info_parts infoInt
 go_enter Tryz.func28,Tryz.ntmps28
 go_upto_region 7 with (first | (go_at_call 48;rw [<- hW1];refine hbe.mono ?_;rintro e w2 ⟨so,sc,rfl,⟨b0,b1⟩,HX2⟩;have hme:=HMe.out w2 HX2.out.1) | (go_at_call 49;refine hme.mono ?_;rintro e w3 ⟨rfl,HX3⟩))
 have hpl:=HPl.out w3 so sc HX3.out.1 (HX3.out.2 so sc HX2.out.2);have a2:w3.cell? ⟨A,2,none⟩=some nv:=(atB_cells HX3.out.1.tl.box).2.2.1;obtain ⟨no,nc,rfl⟩:=HNs.out w2 HX2.out.1;clear hbe hme HMe HPl HX2 HX3 HNs hs1 b0 b1
 go_cut [] (fun wx=>∃ sv' nv',Hid (ExW w0 wx base A lm B bs bl (n+300001) va vr pv fv m ps l ho hc PS (N++[PI]) T init many sv' nv' tv))
 case first=>
  go_region_law (first
   | (refine step_append_lies _ (by rfl) (.tmp 33) (.tmp 37) 62 (by rfl) base 36 i0 _ 1 24 Tryz.underlying62 hi hz0 hz1 hz2 (by rfl) (by decide) (.slice no N.length nc) N.length us (by rfl) hown4 ⟨w4.heap.size,0,none⟩ 1 1 [.slice (some ⟨w3.heap.size,0,none⟩) bn bn] (by rfl) (by rfl) (cell_one_new _ _ _) (by intro u hu;simp at hu;subst hu;rfl) (by decide) (by unfold maxLen;omega) (by omega) hba4 _ rfl ?_;intro g9 cap9 w9 hown hgrow hat hlt9;obtain ⟨⟨z0,zf⟩,hx9⟩:=HN4.out g9 cap9 w9 hown hgrow;have HX9:=(show Hid _ from hx9);clear hx9 hown hgrow hat)
   | (go_simp;go_at_call 27;refine hpl.mono ?_;rintro e w4 ⟨rfl,us,sv4,y0,y1,hown4,hba4,HN4⟩))
  all_goals go_wp2_with fail
  all_goals go_meet
  all_goals exact ⟨_,_,HX9⟩
 case rest=>
  obtain ⟨sv5,nv5,HX5⟩:=hcut;obtain ⟨xo,xc,rfl⟩:=HTs.out wc sv5 nv5 _ PS _ HX5.out;obtain ⟨vo5,vc5,rfl⟩:=HPn.out wc _ _ _ _ _ _ HX5.out;have hba:Below wc.heap.size wc (wc.alloc (.cells #[.int .i64 mt] 3)):=(Below.refl _ _).alloc (Nat.le_refl _) _;have hx6:=HX5.out.below hba
  have hown6:World.ownsRow (wc.alloc (.cells #[.int .i64 mt] 3)) base 3 1 (.slice xo T.length xc) T.length (ivals T):=hx6.tl.st;have hbs6:=hx6.tl.base_le;have a3:wc.cell? ⟨A,3,none⟩=some (.slice xo T.length xc):=(atB_cells HX5.out.tl.box).2.2.2.1
  have HT6:Hid (∀ g cap w9,World.ownsRow w9 base 3 1 (.slice (some ⟨g,0,none⟩) (T.length+1) cap) (T.length+1) (ivals T++[.int .i64 mt])->(wc.alloc (.cells #[.int .i64 mt] 3)).grownBy w9 (Value.slice xo T.length xc).ownBlock->((Value.slice xo T.length xc).ownBlock=some g\/g=(wc.alloc (.cells #[.int .i64 mt] 3)).heap.size)->(w9.cell? ⟨A,3,none⟩=some (.slice xo T.length xc)/\w9.frozen? ⟨A,3,none⟩=false)/\(w9.setCell ⟨A,3,none⟩ (.slice (some ⟨g,0,none⟩) (T.length+1) cap)).cell? ⟨A,0,none⟩=some (.slice vo5 PS.length vc5)/\Hid (ExW w0 (w9.setCell ⟨A,3,none⟩ (.slice (some ⟨g,0,none⟩) (T.length+1) cap)) base A lm B bs bl (n+300001) va vr pv fv m ps l ho hc PS (N++[PI]) (T++[mt]) init many (.slice vo5 PS.length vc5) nv5 (.slice (some ⟨g,0,none⟩) (T.length+1) cap))):=fun g cap w9 h1 h2 h3=>by
   have hbx:w9.heap[A]? = some (atB (.slice vo5 PS.length vc5) nv5 (.slice xo T.length xc) init many lm):=(h2.block A hx6.tl.lt fun e=>by have:=hx6.tl.ty.eq (owns_ty hx6.tl.st e.symm).2;exact absurd this (by decide)).trans hx6.tl.box
   have hxx:=hx6.appT h2 h1 (by
    rcases h3 with h | h
    ·exact .inl (by rw [h];rfl)
    ·exact .inr ⟨g,rfl,by omega⟩)
   exact ⟨⟨(atB_cells hbx).2.2.2.1,atB_free hbx 3⟩,(atB_cells hxx.tl.box).1,hxx⟩
  clear hx6 HX5 HTs HPn
  by_cases hfull:20000 < PS.length
  ·have hfi:(20000:Int) < (PS.length:Int):=by omega
   go_wp2_with (first | (at_builtin;refine wpList_append_lies _ rfl (.tmp 47) (.tmp 49) 36 rfl base 3 j0 _ 1 8 Tryz.underlying36 hj jz0 jz1 jz2 rfl (by decide) (.slice xo T.length xc) T.length (ivals T) rfl hown6 ⟨wc.heap.size,0,none⟩ 1 1 [.int .i64 mt] rfl rfl (cell_one_new _ _ _) (by intro u hu;simp at hu;subst hu;rfl) (by decide) (by unfold maxLen;omega) (by omega) hbs6 _ rfl ?_;intro g9 cap9 w9 hown hgrow hat hlt9;obtain ⟨⟨z0,zf⟩,z1,HX9⟩:=HT6.out g9 cap9 w9 hown hgrow hat;clear hown hgrow hat))
   go_ret
   exact ⟨by first | rfl | simp [hfull],_,_,_,HX9⟩
  ·have hfi:¬ (20000:Int) < (PS.length:Int):=by omega
   go_wp2_with (first | (at_builtin;refine wpList_append_lies _ rfl (.tmp 47) (.tmp 49) 36 rfl base 3 j0 _ 1 8 Tryz.underlying36 hj jz0 jz1 jz2 rfl (by decide) (.slice xo T.length xc) T.length (ivals T) rfl hown6 ⟨wc.heap.size,0,none⟩ 1 1 [.int .i64 mt] rfl rfl (cell_one_new _ _ _) (by intro u hu;simp at hu;subst hu;rfl) (by decide) (by unfold maxLen;omega) (by omega) hbs6 _ rfl ?_;intro g9 cap9 w9 hown hgrow hat hlt9;obtain ⟨⟨z0,zf⟩,z1,HX9⟩:=HT6.out g9 cap9 w9 hown hgrow hat;clear hown hgrow hat))
   go_ret
   exact ⟨by first | rfl | simp [hfull],_,_,_,HX9⟩
variable {Pz : Nat -> Prop}
theorem SvOk.made {w0 w w':World} {n:Nat} {va vr pv fv:Value} {m:Mo} {ps:List (List (Int × Int))} {l:List (Int × Int)} {ho:Option Addr} {hc:Nat} (hb:Below w0.heap.size w0 w) (hb2:Below w.heap.size w w') (hn:w.heap.size <= n) (hs:SurvAt w' (n+2) va vr pv fv (.slice ho (aheadL l).length hc) n (n+1))
  (ho':w'.ownsRow w.heap.size 3 1 (.slice ho (aheadL l).length hc) (aheadL l).length (ivals (aheadL l))) (h1:w'.heap[n]? = some (.map #[] 0)) (h2:w'.heap[n+1]? = some (.map #[] 0)):SvOk (fun _=>True) w0 w' (n+2) n (n+1) 0 va vr pv fv m ps l ho hc:=by
 have:=hb.size;exact ⟨hs,hb.trans (hb2.mono hb.size),by omega,by omega,by omega,intsV_of_owns ho',RowTy.owns ho',fun _ _=>trivial,fun _ _=>trivial,⟨_,MapIs.new _ h1,fun kl v h=>by simp at h⟩,⟨_,MapIs.new _ h2,fun kl v h=>by simp at h⟩⟩
end Go.Proofs.YtfnobbpbmelgnaaGreatDoor
namespace Go.Proofs.YtfnobbpbmelgnaaGreatDoor
open Go.ChangeShapes Go.WideShapes Go.ChangeAt Go.RowKit Go.Deep Go.Maps
open Terms Tm
set_option maxHeartbeats 6400000
set_option maxRecDepth 20000
def spOk (m:Mo) (l:List (Int × Int)) (p:Int × Int):Prop:=(0 <= p.1/\p.1 < prodTo m.vars m.vars.length)/\∃ d:Nat,d < 2 ^ (aheadL l).length/\p.2=(d:Int)
noncomputable def xpBh (m:Mo) (ps:List (List (Int × Int))) (l:List (Int × Int)) (p:Int × Int):List (Int × Int):=behL m ps l p.1 p.2
noncomputable def xpP (m:Mo) (ps:List (List (Int × Int))) (l:List (Int × Int)) (k:Nat):List (Int × Int):=exS (begL m ps l) (xpBh m ps l) k
noncomputable def xpAt (m:Mo) (ps:List (List (Int × Int))) (l:List (Int × Int)) (k:Nat):Int × Int:=(xpP m ps l k).getD k (0,0)
noncomputable def xpN (m:Mo) (ps:List (List (Int × Int))) (l:List (Int × Int)):Nat->List (List Int)
 | 0=>[]
 | k+1=>xpN m ps l k++[plIx (xpP m ps l k) (xpBh m ps l (xpAt m ps l k))]
noncomputable def xpT (m:Mo) (ps:List (List (Int × Int))) (l:List (Int × Int)):Nat->List Int
 | 0=>[]
 | k+1=>xpT m ps l k++[metN l (letL m ps (xpAt m ps l k).1) (xpAt m ps l k).2]
section
variable {m : Mo} {ps : List (List (Int × Int))} {l : List (Int × Int)}
theorem xpP_succ (k:Nat):xpP m ps l (k+1)=plTo (xpP m ps l k) (xpBh m ps l (xpAt m ps l k)):=rfl
theorem xpN_len:∀ k,(xpN m ps l k).length=k
 | 0=>rfl
 | k+1=>by rw [xpN,List.length_append,xpN_len k];rfl
theorem xpT_len:∀ k,(xpT m ps l k).length=k
 | 0=>rfl
 | k+1=>by rw [xpT,List.length_append,xpT_len k];rfl
theorem xbg_mem {p:Int × Int}:∀ k,p∈begTo m ps l k->p.1=begC m/\∃ d:Nat,d < k/\p.2=(d:Int)/\tru l (letL m ps (begC m)) (d:Int) 0≠true
 | 0,h=>by simp [begTo] at h
 | k+1,h=>by
  rw [begTo] at h
  split at h
  ·obtain ⟨h1,d,h2,h3⟩:=xbg_mem k h
   exact ⟨h1,d,by omega,h3⟩
  ·next hf=>
   rw [List.mem_append,List.mem_singleton] at h
   rcases h with h | rfl
   ·obtain ⟨h1,d,h2,h3⟩:=xbg_mem k h
    exact ⟨h1,d,by omega,h3⟩
   ·exact ⟨rfl,k,by omega,rfl,hf⟩
theorem begL_spot (hk:tkcode m ps l=0) {p:Int × Int} (h:p∈begL m ps l):spOk m l p:=by
 obtain ⟨h1,d,h2,h3,_⟩:=xbg_mem _ h;exact ⟨by rw [h1];exact tk_beg hk,d,h2,h3⟩
theorem xpBh_spot (hk:tkcode m ps l=0) {s p:Int × Int} (hs:spOk m l s) (h:p∈xpBh m ps l s):spOk m l p:=behL_spot (pcode_m (tk_zero hk).1).1 hs.1 h
theorem xpP_zero (hk:tkcode m ps l=0):∀ p∈xpP m ps l 0,spOk m l p:=fun p hp=>by
 rcases (plTo_iff _ _ _).1 hp with h | h
 ·exact absurd h List.not_mem_nil
 ·exact begL_spot hk h
theorem xpAt_mem {k:Nat} (h:k < (xpP m ps l k).length):xpAt m ps l k∈xpP m ps l k:=by
 unfold xpAt;rw [List.getD_eq_getElem?_getD,List.getElem?_eq_getElem h]
 exact List.getElem_mem _
theorem xpP_next (hk:tkcode m ps l=0) {k:Nat} (hl:k < (xpP m ps l k).length) (h:∀ p∈xpP m ps l k,spOk m l p):∀ p∈xpP m ps l (k+1),spOk m l p:=fun p hp=>by
 rw [xpP_succ] at hp
 rcases (plTo_iff _ _ _).1 hp with h1 | h1
 ·exact h p h1
 ·exact xpBh_spot hk (h _ (xpAt_mem hl)) h1
end
def ExDone (m:Mo) (ps:List (List (Int × Int))) (l:List (Int × Int)) (K:Nat):Prop:=(xpP m ps l K).length=K/\K <= 20000/\(∀ j,j < K->j < (xpP m ps l j).length)/\∀ p∈xpP m ps l K,spOk m l p
def ExFull (m:Mo) (ps:List (List (Int × Int))) (l:List (Int × Int)):Prop:=∃ k,(∀ j,j <= k->j < (xpP m ps l j).length)/\20000 < (xpP m ps l (k+1)).length
def GrX (w:World) (base:Nat) (m:Mo) (ps:List (List (Int × Int))) (l:List (Int × Int)) (K:Nat) (sv nv tv:Value):Prop:=SpO w base sv (xpP m ps l K)/\LsAt w base nv tv (xpN m ps l K)/\w.ownsRow base 3 1 tv (xpT m ps l K).length (ivals (xpT m ps l K))
def ExAns (w:World) (m:Mo) (ps:List (List (Int × Int))) (l:List (Int × Int)) (e:Ending) (w':World):Prop:=
 (tkcode m ps l=0/\∃ K,ExDone m ps l K/\∃ sv nv tv,e=.returned (.tuple #[.agg #[sv,.int .i64 ((begL m ps l).length:Nat),nv,tv,.int .i64 ((aheadL l).length:Nat)],.int .i64 0])/\Below w.heap.size w w'/\Hid (GrX w' w.heap.size m ps l K sv nv tv))\/
 (tkcode m ps l=0/\ExFull m ps l/\e=.returned (.tuple #[.agg #[.slice none 0 0,.int .i64 0,.slice none 0 0,.slice none 0 0,.int .i64 0],.int .i64 12])/\Below w.heap.size w w')\/
 (tkcode m ps l≠0/\e=.returned (.tuple #[.agg #[.slice none 0 0,.int .i64 0,.slice none 0 0,.slice none 0 0,.int .i64 0],.int .i64 (tkcode m ps l)])/\Below w.heap.size w w')
theorem ex_not_both {m:Mo} {ps:List (List (Int × Int))} {l:List (Int × Int)} {K:Nat} (h:ExDone m ps l K):¬ ExFull m ps l:=by
 rintro ⟨k,h1,h2⟩
 obtain ⟨d1,d2,_,_⟩:=h
 by_cases hk:k+1 <= K
 ·have:=(exS_le (begL m ps l) (xpBh m ps l) hk).length_le
  unfold xpP at h2 d1;omega
 ·have:=h1 K (by omega)
  omega
def grB (sv nv tv:Value) (init many:Int):Obj:=.cells #[sv,.int .i64 init,nv,tv,.int .i64 many] 64 (0,0)
section
variable {w w' : World} {X : Nat} {sv nv tv : Value} {init many : Int}
theorem grB_cells (hb:w.heap[X]? = some (grB sv nv tv init many)):w.cell? ⟨X,0,none⟩=some sv/\w.cell? ⟨X,1,none⟩=some (.int .i64 init)/\w.cell? ⟨X,2,none⟩=some nv/\w.cell? ⟨X,3,none⟩=some tv/\w.cell? ⟨X,4,none⟩=some (.int .i64 many):=by
 unfold grB at hb;refine ⟨?_,?_,?_,?_,?_⟩ <;> simp [World.cell?,hb]
theorem grB_free (hb:w.heap[X]? = some (grB sv nv tv init many)) (i:Nat):w.frozen? ⟨X,i,none⟩=false:=by
 unfold grB at hb;simp [World.frozen?,hb]
theorem chg_box (w:World) (X:Nat) (a b c d e:Value):Chg (fun i=>i=X) w (((((w.setCell ⟨X,0,none⟩ a).setCell ⟨X,1,none⟩ b).setCell ⟨X,2,none⟩ c).setCell ⟨X,3,none⟩ d).setCell ⟨X,4,none⟩ e):=
 (((((Chg.setCell w ⟨X,0,none⟩ a).trans (Chg.setCell _ ⟨X,1,none⟩ b)).trans (Chg.setCell _ ⟨X,2,none⟩ c)).trans (Chg.setCell _ ⟨X,3,none⟩ d)).trans (Chg.setCell _ ⟨X,4,none⟩ e))
theorem GrX.chg {base K:Nat} {m:Mo} {ps:List (List (Int × Int))} {l:List (Int × Int)} (h:GrX w base m ps l K sv nv tv) (hs:Chg (fun i=>i=X) w w') (ht:TyB w X 64):GrX w' base m ps l K sv nv tv:=by
 obtain ⟨h1,h2,h3⟩:=h;obtain ⟨us,n1,_⟩:=id h2;have hno:∀ g t,TyB w g t->t≠64->g≠X:=fun g t hg hn e=>hn (hg.eq (e ▸ ht))
 exact ⟨owns_chg h1 hs (fun g e=>hno g _ (owns_ty h1 e).2 (by decide)),h2.chg hs (fun i z=>⟨fun e=>hno i _ (owns_ty n1 e).2 (by decide) z,fun _ _ _ _ _ hi=>hno i _ hi (by decide) z⟩),owns_chg h3 hs (fun g e=>hno g _ (owns_ty h3 e).2 (by decide))⟩
theorem LsAt.mono {base base':Nat} {N:List (List Int)} (h:LsAt w base nv tv N) (hb:base' <= base):LsAt w base' nv tv N:=by
 obtain ⟨us,h1,h2,h3⟩:=h;refine ⟨us,owns_mono h1 hb,h2,fun i hi=>?_⟩
 obtain ⟨ao,c,e1,e2,e3,e4⟩:=h3 i hi;exact ⟨ao,c,e1,e2,e3,fun a e=>⟨(e4 a e).1,Nat.le_trans hb (e4 a e).2⟩⟩
end
end Go.Proofs.YtfnobbpbmelgnaaGreatDoor
namespace Go.Proofs.YtfnobbpbmelgnaaGreatDoor
open Go.ChangeShapes Go.WideShapes Go.ChangeAt Go.RowKit Go.Deep
open Terms Tm
set_option maxHeartbeats 6400000
set_option maxRecDepth 20000
section
variable {m : Mo} {l : List (Int × Int)}
end
theorem xp_bound {m:Mo} {ps:List (List (Int × Int))} {l:List (Int × Int)} {k P:Nat} (hP:prodTo m.vars m.vars.length=(P:Nat)) (hs:∀ p∈xpP m ps l k,spOk m l p):(xpP m ps l k).length <= P*2 ^ (aheadL l).length:=by
 have hnd:(xpP m ps l k).Nodup:=exS_nodup _ _ k
 have hcode:∀ p∈xpP m ps l k,0 <= p.1*((2 ^ (aheadL l).length:Nat):Int)+p.2/\p.1*((2 ^ (aheadL l).length:Nat):Int)+p.2 < ((P*2 ^ (aheadL l).length:Nat):Int):=fun p hp=>by
  obtain ⟨⟨h1,h2⟩,d,h3,h4⟩:=hs p hp;generalize 2 ^ (aheadL l).length=N at *;have h5:p.1*(N:Int) <= ((P:Int) - 1)*N:=Int.mul_le_mul_of_nonneg_right (by omega) (by omega)
  have h6:0 <= p.1*(N:Int):=Int.mul_nonneg h1 (by omega)
  have h7:((P:Int) - 1)*(N:Int)=(P:Int)*N - N:=by rw [Int.sub_mul];omega
  have h8:((P*N:Nat):Int)=(P:Int)*N:=by push_cast;rfl
  omega
 have hnd2:((xpP m ps l k).map fun p=>p.1*((2 ^ (aheadL l).length:Nat):Int)+p.2).Nodup:=by
  refine List.Pairwise.map _ (fun a b hab=>hab) ?_
  refine List.Pairwise.imp_of_mem ?_ hnd
  intro a b ha hb hne e;obtain ⟨_,d,h3,h4⟩:=hs a ha;obtain ⟨_,d',h3',h4'⟩:=hs b hb;generalize 2 ^ (aheadL l).length=N at *;have hN:(0:Int) < N:=by omega
  have e1:a.2=b.2:=by
   rw [h4,h4'];have r1:((d:Int)+a.1*N) % (N:Int)=(d:Int):=by rw [Int.add_mul_emod_self_right];exact Int.emod_eq_of_lt (by omega) (by omega)
   have r2:((d':Int)+b.1*N) % (N:Int)=(d':Int):=by rw [Int.add_mul_emod_self_right];exact Int.emod_eq_of_lt (by omega) (by omega)
   have e':(d:Int)+a.1*N=(d':Int)+b.1*N:=by rw [h4,h4'] at e;omega
   rw [<- r1,<- r2,e']
  have e2:a.1*(N:Int)=b.1*N:=by omega
  exact hne (Prod.ext (Int.eq_of_mul_eq_mul_right (by omega) e2) e1)
 have:=nodup_length (N:=P*2 ^ (aheadL l).length) hnd2 (fun y hy=>by
  obtain ⟨p,hp,rfl⟩:=List.mem_map.1 hy
  exact hcode p hp)
 rw [List.length_map] at this;exact this
theorem xp_few {m:Mo} {ps:List (List (Int × Int))} {l:List (Int × Int)} {P:Nat} (hk:tkcode m ps l=0) (hP:prodTo m.vars m.vars.length=(P:Nat)) (hz:P*2 ^ (aheadL l).length <= 20000):¬ ExFull m ps l:=by
 rintro ⟨k,h1,h2⟩
 have hs:∀ j,j <= k+1->∀ p∈xpP m ps l j,spOk m l p:=fun j=>by
  induction j with
  | zero=>exact fun _=>xpP_zero hk
  | succ j ih=>exact fun hj=>xpP_next hk (h1 j (by omega)) (ih (by omega))
 have:=xp_bound hP (hs (k+1) (Nat.le_refl _));omega
end Go.Proofs.YtfnobbpbmelgnaaGreatDoor
namespace Go.Proofs.YtfnobbpbmelgnaaGreatDoor
open Go.ChangeShapes Go.WideShapes Go.ChangeAt Go.RowKit Go.Deep Go.Maps
open Terms Tm
set_option maxHeartbeats 6400000
set_option maxRecDepth 20000
theorem explore_bad (va vr pv fv:Value) (m:Mo) (ps:List (List (Int × Int))) (l:List (Int × Int)) (w:World) (hB:0 < w.heap.size) (hT:TabAt w) (hV:TaskV w va vr pv fv m ps l) (hk:tkcode m ps l≠0) :
  Calls Tryz.prog 15 #[.agg #[va,vr,pv,fv]] w (ExAns w m ps l):=by
 unfold ExAns;obtain ⟨ao,ac,rfl⟩:=hV.mo.1.shape;obtain ⟨ro,rc,rfl⟩:=hV.mo.2.shape;obtain ⟨po,pc,rfl⟩:=hV.ps.shape;obtain ⟨fo,fc,rfl,_⟩:=id hV.fo
 obtain ⟨W0,hW0⟩:∃ W0,W0=(w.alloc (.cells #[.slice ao m.vars.length ac,.slice ro m.rules.length rc,.slice po ps.length pc,.slice fo l.length fc] 34)).alloc (.cells #[.slice none 0 0,.int .i64 0,.slice none 0 0,.slice none 0 0,.int .i64 0] 64):=⟨_,rfl⟩
 have hbW:Below w.heap.size w W0:=by rw [hW0];exact ((Below.refl _ _).alloc (Nat.le_refl _) _).alloc (by simp) _
 have hzW:W0.heap.size=w.heap.size+2:=by rw [hW0];simp
 have hX0:W0.heap[w.heap.size+1]? = some (grB (.slice none 0 0) (.slice none 0 0) (.slice none 0 0) 0 0):=by
  rw [hW0];have:=(MapKept.heap_alloc (w.alloc (.cells #[.slice ao m.vars.length ac,.slice ro m.rules.length rc,.slice po ps.length pc,.slice fo l.length fc] 34)) (.cells #[.slice none 0 0,.int .i64 0,.slice none 0 0,.slice none 0 0,.int .i64 0] 64)).1;rw [World.size_alloc] at this;exact this
 have hsv:=surveyOf_bad _ _ _ _ m ps l W0 (Nat.lt_of_lt_of_le hB hbW.size) (hT.below hbW hB) (hV.below hbW) hk
 have HFin:Hid (∀ w1,Below W0.heap.size W0 w1->(w1.cell? ⟨w.heap.size+1,0,none⟩=some (.slice none 0 0)/\w1.cell? ⟨w.heap.size+1,1,none⟩=some (.int .i64 0)/\w1.cell? ⟨w.heap.size+1,2,none⟩=some (.slice none 0 0)/\w1.cell? ⟨w.heap.size+1,3,none⟩=some (.slice none 0 0)/\w1.cell? ⟨w.heap.size+1,4,none⟩=some (.int .i64 0))/\(∀ i,w1.frozen? ⟨w.heap.size+1,i,none⟩=false)/\Below w.heap.size w w1):=fun w1 h=>by
  have hb:=(h.block (w.heap.size+1) (by omega)).trans hX0
  exact ⟨grB_cells hb,grB_free hb,hbW.trans (h.mono hbW.size)⟩
 have HK:Hid (tkcode m ps l≠0):=hk;generalize tkcode m ps l=tc at *;generalize m.vars.length=vn at *;generalize m.rules.length=rn at *;generalize ps.length=pn at *;generalize l.length=fn at *;clear hV hT
 go_enter Tryz.func15,Tryz.ntmps15
 go_wp2_with (first | (go_at_call 25;rw [<- hW0];refine hsv.mono ?_;rintro e w1 ⟨rfl,hb1⟩;obtain ⟨⟨x0,x1,x2,x3,x4⟩,xf,hbw⟩:=HFin.out w1 hb1;have f0:=xf 0;have f1:=xf 1;have f2:=xf 2;have f3:=xf 3;have f4:=xf 4))
 have hbF:Below w.heap.size w (((((w1.setCell ⟨w.heap.size+1,0,none⟩ (.slice none 0 0)).setCell ⟨w.heap.size+1,1,none⟩ (.int .i64 0)).setCell ⟨w.heap.size+1,2,none⟩ (.slice none 0 0)).setCell ⟨w.heap.size+1,3,none⟩ (.slice none 0 0)).setCell ⟨w.heap.size+1,4,none⟩ (.int .i64 0)):=hbw.trans ((chg_box w1 (w.heap.size+1) _ _ _ _ _).below (fun i e=>by omega) (by have:=hbw.size;omega))
 refine bodyPost_ret (v:=.tuple #[.agg #[.slice none 0 0,.int .i64 0,.slice none 0 0,.slice none 0 0,.int .i64 0],.int .i64 tc]) ?_ rfl (.inr (.inr ⟨HK.out,rfl,hbF⟩))
 simp [results,Tryz.results15,go_sem,x0,x1,x2,x3,x4]
theorem ex_start (W0 w1 w2:World) (n:Nat) (va vr pv fv:Value) (m:Mo) (ps:List (List (Int × Int))) (l:List (Int × Int)) (ho:Option Addr) (hc:Nat) (so:Option Addr) (sc:Nat) (hk:tkcode m ps l=0) (hb1:Below W0.heap.size W0 w1) (hn:W0.heap.size <= n) (hs:SurvAt w1 (n+2) va vr pv fv (.slice ho (aheadL l).length hc) n (n+1)) (hor:w1.ownsRow W0.heap.size 3 1 (.slice ho (aheadL l).length hc) (aheadL l).length (ivals (aheadL l))) (hm:w1.heap[n]? = some (.map #[] 0)/\w1.heap[n+1]? = some (.map #[] 0)) (hb2:Below w1.heap.size w1 w2) (hsp:SpO w2 w1.heap.size (.slice so (begL m ps l).length sc) (begL m ps l)) :
  Calls Tryz.prog 27 #[.pointer (some ⟨w2.heap.size+1,0,none⟩),.slice so (begL m ps l).length sc] ((w2.alloc (.map #[] 0)).alloc (.cells #[.slice none 0 0,.int .i64 ((begL m ps l).length:Nat),.slice none 0 0,.slice none 0 0,.int .i64 ((aheadL l).length:Nat),.map (some w2.heap.size)] 93)) fun e w3=>∃ v sv,e=.returned v/\Hid (ExW W0 w3 w2.heap.size (w2.heap.size+1) w2.heap.size (n+2) n (n+1) (0*300001) va vr pv fv m ps l ho hc (xpP m ps l 0) (xpN m ps l 0) (xpT m ps l 0) ((begL m ps l).length:Nat) ((aheadL l).length:Nat) sv (.slice none 0 0) (.slice none 0 0)):=by
 have hbl:=begL_len hk;have hv1:SvOk (fun _=>True) W0 w1 (n+2) n (n+1) 0 va vr pv fv m ps l ho hc:=SvOk.made (Below.refl _ _) hb1 hn hs hor hm.1 hm.2
 have hv2:=hv1.below hb2;have hl1:=hv2.box.lt;have hl2:n < w2.heap.size:=by omega
 obtain ⟨WA,hWA⟩:∃ WA,WA=(w2.alloc (.map #[] 0)).alloc (.cells #[.slice none 0 0,.int .i64 ((begL m ps l).length:Nat),.slice none 0 0,.slice none 0 0,.int .i64 ((aheadL l).length:Nat),.map (some w2.heap.size)] 93):=⟨_,rfl⟩
 have hbA:Below w2.heap.size w2 WA:=by rw [hWA];exact ((Below.refl _ _).alloc (Nat.le_refl _) _).alloc (by simp) _
 have hmA:WA.heap[w2.heap.size]? = some (.map #[] 0):=by
  rw [hWA,Below.heap_alloc _ _ _ (by simp)]
  exact (MapKept.heap_alloc w2 _).1
 have hxA:WA.heap[w2.heap.size+1]? = some (atB (.slice none 0 0) (.slice none 0 0) (.slice none 0 0) ((begL m ps l).length:Nat) ((aheadL l).length:Nat) w2.heap.size):=by
  rw [hWA];have:=(MapKept.heap_alloc (w2.alloc (.map #[] 0)) (.cells #[.slice none 0 0,.int .i64 ((begL m ps l).length:Nat),.slice none 0 0,.slice none 0 0,.int .i64 ((aheadL l).length:Nat),.map (some w2.heap.size)] 93)).1;rw [World.size_alloc] at this;exact this
 have hX:ExW W0 WA w2.heap.size (w2.heap.size+1) w2.heap.size (n+2) n (n+1) (0*300001) va vr pv fv m ps l ho hc [] (xpN m ps l 0) (xpT m ps l 0) ((begL m ps l).length:Nat) ((aheadL l).length:Nat) (.slice none 0 0) (.slice none 0 0) (.slice none 0 0):=by
  refine ⟨((hv2.re (Pz':=offT (.slice none 0 0)) (fun _ _ _ e=>by simp [Value.ownBlock] at e) (fun _ _ e=>by simp [Value.ownBlock] at e)).below hbA).mono (by omega),⟨hxA,by omega,Nat.le_refl _,LiesAt.new hmA,SpO.nil _ _,⟨[],World.ownsRow_nil _ _ _ _,rfl,fun i hi=>by simp [xpN] at hi⟩,World.ownsRow_nil _ _ _ _⟩,?_,?_,?_,?_⟩
  ·have:=hv2.bel.size;omega
  ·omega
  ·omega
  ·omega
 have hsv:=(hsp.later hbA (Nat.le_refl _)).v;have hIs:∀ j,j < (begL m ps l).length->I64s ((begL m ps l).getD j (0,0)):=fun j hj=>spot_I64 hk (begL_spot hk (by rw [List.getD_eq_getElem?_getD,List.getElem?_eq_getElem hj];exact List.getElem_mem _))
 have hsep:∀ a,so=some a->¬ atZ (w2.heap.size+1) w2.heap.size (.slice none 0 0) a.block:=fun a e z=>by
  have hlt:a.block < w2.heap.size:=by
   rcases hsp.2 with ⟨h0,_⟩ | ⟨g,cap,cur,h1,_,h3,_⟩
   ·rw [e] at h0;simp at h0
   ·rw [e] at h1
    injection h1 with h1 _ _
    injection h1 with h1
    subst h1;exact (Array.getElem?_eq_some_iff.1 h3).1
  rcases z with z | z | z
  ·omega
  ·omega
  ·simp [Value.ownBlock] at z
 rw [<- hWA];refine (places_any WA w2.heap.size (w2.heap.size+1) w2.heap.size [] _ _ _ _ _ _ _ _ so sc hX.tl hsv hsep hIs (by simp;omega)).mono fun e w3 ⟨h1,sv',h2,h3,h4,h5,h6⟩=>?_
 exact ⟨_,sv',h1,hX.put h5 h2⟩
theorem ex_round (W0 wr:World) (base A lm B bs bl k:Nat) (va vr pv fv:Value) (m:Mo) (ps:List (List (Int × Int))) (l:List (Int × Int)) (ho:Option Addr) (hc:Nat) (init many:Int) (sv nv tv:Value) (hB:0 < W0.heap.size) (hT:TabAt W0) (hV:TaskV W0 va vr pv fv m ps l) (hk:tkcode m ps l=0) (hX:ExW W0 wr base A lm B bs bl (k*300001) va vr pv fv m ps l ho hc (xpP m ps l k) (xpN m ps l k) (xpT m ps l k) init many sv nv tv) (hlt:k < (xpP m ps l k).length) (hz:(xpP m ps l k).length <= 20000) (hsp:∀ p∈xpP m ps l k,spOk m l p) :
  Calls Tryz.prog 28 #[.pointer (some ⟨A,0,none⟩),.pointer (some ⟨B,0,none⟩),.agg #[.int .i64 (xpAt m ps l k).1,.int .i64 (xpAt m ps l k).2]] wr fun e w'=>e=.returned (.int .i64 (if 20000 < (xpP m ps l (k+1)).length then 12 else 0))/\∃ sv nv tv,Hid (ExW W0 w' base A lm B bs bl ((k+1)*300001) va vr pv fv m ps l ho hc (xpP m ps l (k+1)) (xpN m ps l (k+1)) (xpT m ps l (k+1)) init many sv nv tv):=by
 obtain ⟨h1,d,h2,h3⟩:=hsp _ (xpAt_mem hlt);have hgo:=goThrough_any W0 wr base A lm B bs bl (k*300001) va vr pv fv m ps l ho hc (xpP m ps l k) (xpN m ps l k) (xpT m ps l k) init many sv nv tv (xpAt m ps l k).1 d hB hT hV hk hX (by omega) h1 h2 hz (by rw [xpN_len];omega) (by rw [xpT_len];omega)
 unfold GoPost at hgo;rw [<- h3] at hgo;refine hgo.mono fun e w' ⟨g1,sv',nv',tv',g2⟩=>⟨g1,sv',nv',tv',?_⟩
 have e1:(k+1)*300001=k*300001+300001:=by omega
 rw [e1];exact g2
theorem explore_ok (va vr pv fv:Value) (m:Mo) (ps:List (List (Int × Int))) (l:List (Int × Int)) (w:World) (hB:0 < w.heap.size) (hT:TabAt w) (hV:TaskV w va vr pv fv m ps l) (hk:tkcode m ps l=0) :
  Calls Tryz.prog 15 #[.agg #[va,vr,pv,fv]] w (ExAns w m ps l):=by
 unfold ExAns;obtain ⟨ao,ac,rfl⟩:=hV.mo.1.shape;obtain ⟨ro,rc,rfl⟩:=hV.mo.2.shape;obtain ⟨po,pc,rfl⟩:=hV.ps.shape;obtain ⟨fo,fc,rfl,_⟩:=id hV.fo
 obtain ⟨W0,hW0⟩:∃ W0,W0=(w.alloc (.cells #[.slice ao m.vars.length ac,.slice ro m.rules.length rc,.slice po ps.length pc,.slice fo l.length fc] 34)).alloc (.cells #[.slice none 0 0,.int .i64 0,.slice none 0 0,.slice none 0 0,.int .i64 0] 64):=⟨_,rfl⟩
 have hbW:Below w.heap.size w W0:=by rw [hW0];exact ((Below.refl _ _).alloc (Nat.le_refl _) _).alloc (by simp) _
 have hzW:W0.heap.size=w.heap.size+2:=by rw [hW0];simp
 have hX0:W0.heap[w.heap.size+1]? = some (grB (.slice none 0 0) (.slice none 0 0) (.slice none 0 0) 0 0):=by
  rw [hW0];have:=(MapKept.heap_alloc (w.alloc (.cells #[.slice ao m.vars.length ac,.slice ro m.rules.length rc,.slice po ps.length pc,.slice fo l.length fc] 34)) (.cells #[.slice none 0 0,.int .i64 0,.slice none 0 0,.slice none 0 0,.int .i64 0] 64)).1;rw [World.size_alloc] at this;exact this
 have hB0:0 < W0.heap.size:=Nat.lt_of_lt_of_le hB hbW.size;have hT0:=hT.below hbW hB;have hV0:=hV.below hbW;have hsv:=surveyOf_ok _ _ _ _ m ps l W0 hB0 hT0 hV0 hk
 have HFin:Hid (∀ w1,Below W0.heap.size W0 w1->(w1.cell? ⟨w.heap.size+1,0,none⟩=some (.slice none 0 0)/\w1.cell? ⟨w.heap.size+1,1,none⟩=some (.int .i64 0)/\w1.cell? ⟨w.heap.size+1,2,none⟩=some (.slice none 0 0)/\w1.cell? ⟨w.heap.size+1,3,none⟩=some (.slice none 0 0)/\w1.cell? ⟨w.heap.size+1,4,none⟩=some (.int .i64 0))/\(∀ i,w1.frozen? ⟨w.heap.size+1,i,none⟩=false)/\TyB w1 (w.heap.size+1) 64/\Below w.heap.size w w1):=fun w1 h=>by
  have hb:=(h.block (w.heap.size+1) (by omega)).trans hX0
  exact ⟨grB_cells hb,grB_free hb,⟨_,_,hb⟩,hbW.trans (h.mono hbW.size)⟩
 have HBe:Hid (∀ (w1:World) (B bs bl:Nat) (ho:Option Addr) (hcp:Nat),Below W0.heap.size W0 w1->SurvAt w1 B (.slice ao m.vars.length ac) (.slice ro m.rules.length rc) (.slice po ps.length pc) (.slice fo l.length fc) (.slice ho (aheadL l).length hcp) bs bl->Calls Tryz.prog 26 #[.pointer (some ⟨B,0,none⟩)] w1 fun e w'=>∃ so sc,e=.returned (.tuple #[.slice so (begL m ps l).length sc,.int .i64 0])/\Below w1.heap.size w1 w'/\Hid (SpO w' w1.heap.size (.slice so (begL m ps l).length sc) (begL m ps l))):=fun w1 B bs bl ho hcp h hs=>begin_any B _ _ _ _ m ps l ho hcp bs bl w1 (Nat.lt_of_lt_of_le hB0 h.size) (hT0.below h hB0) (hV0.below h) hk hs
 have HSt:=(show Hid _ from fun (w1 w2:World) (n:Nat) (ho:Option Addr) (hc:Nat) (so:Option Addr) (sc:Nat)=>ex_start W0 w1 w2 n (.slice ao m.vars.length ac) (.slice ro m.rules.length rc) (.slice po ps.length pc) (.slice fo l.length fc) m ps l ho hc so sc hk)
 have HRd:=(show Hid _ from fun (wr:World) (base A lm B bs bl k:Nat) (ho:Option Addr) (hc:Nat) (sv nv tv:Value)=>ex_round W0 wr base A lm B bs bl k (.slice ao m.vars.length ac) (.slice ro m.rules.length rc) (.slice po ps.length pc) (.slice fo l.length fc) m ps l ho hc ((begL m ps l).length:Nat) ((aheadL l).length:Nat) sv nv tv hB0 hT0 hV0 hk)
 have HP0:Hid ((∀ p∈xpP m ps l 0,spOk m l p)/\(xpP m ps l 0).length <= 20000):=⟨xpP_zero hk,by
  have h1:=(plTo_length (begL m ps l) []).2;have h2:=begL_len hk;have e:xpP m ps l 0=plTo [] (begL m ps l):=rfl;rw [e];simp at h1
  omega⟩
 have HPn:Hid (∀ k,k < (xpP m ps l k).length->(∀ p∈xpP m ps l k,spOk m l p)->∀ p∈xpP m ps l (k+1),spOk m l p):=fun k h1 h2=>xpP_next hk h1 h2
 have HK:Hid (tkcode m ps l=0):=hk;have hbn:=begL_len hk;have han:=(lcode_zero (tk_zero hk).2).2.2.2.2;unfold SurvPost at hsv;clear hV hT hV0 hT0 hk;generalize hbl:(begL m ps l).length=bn at *;generalize hal:(aheadL l).length=an at *;generalize m.vars.length=vn at *;generalize m.rules.length=rn at *;generalize ps.length=pn at *;generalize l.length=fn at *
 have hmm:=@run_makeMap Tryz.prog
 go_enter Tryz.func15,Tryz.ntmps15
 go_upto_region 8 with (first | (go_at_call 25;rw [<- hW0];refine hsv.mono ?_;rintro e w1 ⟨n,ho,hcp,rfl,hb1,hn1,_,HS,HO,HM⟩;have hbe:=HBe.out w1 _ _ _ _ _ hb1 HS.out) | (go_at_call 26;refine hbe.mono ?_;rintro e w2 ⟨so,sc,rfl,hb2,HSp⟩;have hst:=HSt.out w1 w2 n ho hcp so sc hb1 hn1 HS.out HO.out HM.out hb2 HSp.out;have x4:=(HS.out.later hb2).c4))
 go_wp2_with (first | (go_at_call 27;refine hst.mono ?_;rintro e w3 ⟨v3,sv3,rfl,HX3⟩))
 generalize hA:w2.heap.size+1=A at *;generalize hlm:w2.heap.size=lm at *;generalize hBn:n+2=B at *;generalize hbs:n+1=bl at *;clear hst hsv hbe HSt HBe HS HO HM HSp x4 hb1 hb2 hmm hlm
 go_loopw [8] (fun i wr=>∃ k pk:Nat,i=.int .i64 k/\k <= pk/\pk <= 20000/\Hid ((xpP m ps l k).length=pk/\(∀ p∈xpP m ps l k,spOk m l p)/\∀ j,j < k->j < (xpP m ps l j).length)/\∃ vo vc nv tv,Hid (ExW W0 wr lm A lm B n bl (k*300001) (.slice ao vn ac) (.slice ro rn rc) (.slice po pn pc) (.slice fo fn fc) m ps l ho hcp (xpP m ps l k) (xpN m ps l k) (xpT m ps l k) (bn:Nat) (an:Nat) (.slice vo pk vc) nv tv)) (fun i _=>20001 - (intOf i).toNat)
 case atStart=>
  obtain ⟨vo,vc,e⟩:=HX3.out.tl.sp.shape;refine ⟨0,(xpP m ps l 0).length,rfl,Nat.zero_le _,HP0.out.2,⟨rfl,HP0.out.1,fun j hj=>by omega⟩,vo,vc,.slice none 0 0,.slice none 0 0,?_⟩
  rw [<- e];exact HX3.out
 case round=>
  obtain ⟨k,pk,rfl,hkp,hpk,HK2,vo,vc,nv,tv,HX⟩:=hrel;obtain ⟨a0,a1,a2,a3,a4,a5⟩:=atB_cells HX.out.tl.box
  by_cases hlt:k < pk
  ·have hki:(k:Int) < (pk:Int):=by omega
   have hlt2:k < (xpP m ps l k).length:=by rw [HK2.out.1];exact hlt
   obtain ⟨b,off,rfl,_,c0,c1⟩:=HX.out.tl.sp.v.get hlt2;have hrd:=HRd.out wr lm A lm B n bl k ho hcp _ nv tv HX.out hlt2 (by rw [HK2.out.1];exact hpk) HK2.out.2.1
   have HKn:Hid ((∀ p∈xpP m ps l (k+1),spOk m l p)/\∀ j,j < k+1->j < (xpP m ps l j).length):=⟨HPn.out k hlt2 HK2.out.2.1,fun j hj=>by
    by_cases h:j < k
    ·exact HK2.out.2.2 j h
    ·obtain rfl:j=k:=by omega
     exact hlt2⟩
   have e1:(xpP m ps l k).getD k (0,0)=xpAt m ps l k:=rfl;rw [e1] at c0 c1;clear e1 HX HRd hlt2;generalize xpAt m ps l k=s at *;obtain ⟨x,y⟩:=s;simp only at c0 c1 hrd
   by_cases hfull:20000 < (xpP m ps l (k+1)).length
   ·rw [if_pos hfull] at hrd
    have HFu:Hid (ExFull m ps l):=⟨k,fun j hj=>HKn.out.2 j (by omega),hfull⟩
    clear hfull HKn HK2
    go_wp2_with (first | (go_at_call 28;refine hrd.mono ?_;rintro e w4 ⟨rfl,sv4,nv4,tv4,HX4⟩;obtain ⟨⟨x0,x1,x2,x3,x4⟩,xf,_,hbw⟩:=HFin.out w4 HX4.out.su.bel;have f0:=xf 0;have f1:=xf 1;have f2:=xf 2;have f3:=xf 3;have f4:=xf 4))
    have hbF:Below w.heap.size w (((((w4.setCell ⟨w.heap.size+1,0,none⟩ (.slice none 0 0)).setCell ⟨w.heap.size+1,1,none⟩ (.int .i64 0)).setCell ⟨w.heap.size+1,2,none⟩ (.slice none 0 0)).setCell ⟨w.heap.size+1,3,none⟩ (.slice none 0 0)).setCell ⟨w.heap.size+1,4,none⟩ (.int .i64 0)):=hbw.trans ((chg_box w4 (w.heap.size+1) _ _ _ _ _).below (fun i e=>by omega) (by have:=hbw.size;omega))
    refine bodyPost_ret (v:=.tuple #[.agg #[.slice none 0 0,.int .i64 0,.slice none 0 0,.slice none 0 0,.int .i64 0],.int .i64 12]) ?_ rfl (.inr (.inl ⟨HK.out,HFu.out,rfl,hbF⟩))
    simp [results,Tryz.results15,go_sem,x0,x1,x2,x3,x4]
   ·rw [if_neg hfull] at hrd
    have HLe:Hid ((xpP m ps l (k+1)).length <= 20000/\pk <= (xpP m ps l (k+1)).length):=⟨by omega,by
     rw [<- HK2.out.1]
     exact (exS_pre (begL m ps l) (xpBh m ps l) k).length_le⟩
    clear hfull HK2
    go_wp2_with (first | (go_at_call 28;refine hrd.mono ?_;rintro e w4 ⟨rfl,sv4,nv4,tv4,HX4⟩))
    go_roundw
    case rel=>
     obtain ⟨vo4,vc4,e⟩:=HX4.out.tl.sp.shape;refine ⟨k+1,(xpP m ps l (k+1)).length,by go_num,by have:=HLe.out.2;omega,HLe.out.1,⟨rfl,HKn.out⟩,vo4,vc4,nv4,tv4,?_⟩
     rw [<- e];exact HX4.out
    case measure=>simp [intOf];omega
  ·obtain rfl:k=pk:=by omega
   obtain ⟨⟨x0,x1,x2,x3,x4⟩,xf,hty,hbw⟩:=HFin.out wr HX.out.su.bel;have f0:=xf 0;have f1:=xf 1;have f2:=xf 2;have f3:=xf 3;have f4:=xf 4;have HDn:Hid (ExDone m ps l k):=⟨HK2.out.1,hpk,HK2.out.2.2,HK2.out.2.1⟩
   have HG:Hid (GrX wr w.heap.size m ps l k (.slice vo k vc) nv tv):=by
    have hle:w.heap.size <= lm:=by have:=HX.out.lo.1;have:=hbW.size;omega
    exact ⟨owns_mono HX.out.tl.sp hle,HX.out.tl.nx.mono hle,owns_mono HX.out.tl.st hle⟩
   obtain ⟨no,nn,nc,rfl⟩:∃ no nn nc,nv=.slice no nn nc:=by
    obtain ⟨us,h1,_⟩:=HX.out.tl.nx;obtain ⟨x,y,e⟩:=owns_slice h1;exact ⟨_,_,_,e⟩
   obtain ⟨xo,xn,xc,rfl⟩:∃ xo xn xc,tv=.slice xo xn xc:=by
    obtain ⟨x,y,e⟩:=owns_slice HX.out.tl.st;exact ⟨_,_,_,e⟩
   have HBF:Hid (∀ w8,Chg (fun i=>i=w.heap.size+1) wr w8->Below w.heap.size w w8/\GrX w8 w.heap.size m ps l k (.slice vo k vc) (.slice no nn nc) (.slice xo xn xc)):=fun w8 h=>⟨hbw.trans (h.below (fun i e=>by omega) (by have:=hbw.size;omega)),HG.out.chg h hty⟩
   clear HX HK2 HRd HG hty
   go_wp2_with fail
   obtain ⟨r1,r2⟩:=HBF.out _ (chg_box wr (w.heap.size+1) _ _ _ _ _);refine bodyPost_ret (v:=.tuple #[.agg #[.slice vo k vc,.int .i64 (bn:Nat),.slice no nn nc,.slice xo xn xc,.int .i64 (an:Nat)],.int .i64 0]) ?_ rfl (.inl ⟨HK.out,k,HDn.out,_,_,_,rfl,r1,r2⟩)
   simp [results,Tryz.results15,go_sem,x0,x1,x2,x3,x4]
theorem explore_any (va vr pv fv:Value) (m:Mo) (ps:List (List (Int × Int))) (l:List (Int × Int)) (w:World) (hB:0 < w.heap.size) (hT:TabAt w) (hV:TaskV w va vr pv fv m ps l) :
  Calls Tryz.prog 15 #[.agg #[va,vr,pv,fv]] w (ExAns w m ps l):=by
 by_cases hk:tkcode m ps l=0
 ·exact explore_ok va vr pv fv m ps l w hB hT hV hk
 ·exact explore_bad va vr pv fv m ps l w hB hT hV hk
end Go.Proofs.YtfnobbpbmelgnaaGreatDoor
namespace Go.Proofs.YtfnobbpbmelgnaaGreatDoor
open Go.ChangeShapes Go.WideShapes Go.ChangeAt Go.RowKit Go.Deep
open Terms
set_option maxHeartbeats 6400000
set_option maxRecDepth 20000
def clmTo (a:List Int) (h:Nat->Nat->Bool) (j:Nat):Nat->Int
 | 0=>0
 | k+1=>clmTo a h j k+if h (a.getD k 0).toNat j=true then 2 ^ k else 0
theorem clmTo_bounds (a:List Int) (h:Nat->Nat->Bool) (j:Nat):∀ k,0 <= clmTo a h j k/\clmTo a h j k < 2 ^ k:=by
 intro k
 induction k with
 | zero=>simp [clmTo]
 | succ k ih=>
  have h2:(0:Int) < 2 ^ k:=Int.pow_pos (by decide)
  simp only [clmTo];rw [Int.pow_succ]
  split <;> omega
end Go.Proofs.YtfnobbpbmelgnaaGreatDoor
namespace Go.Proofs.YtfnobbpbmelgnaaGreatDoor
open Terms
set_option maxHeartbeats 6400000
set_option maxRecDepth 20000
theorem bit_clm (a:List Int) (h:Nat->Nat->Bool) (j:Nat):∀ n k,k < n->bitB (clmTo a h j n) k=h (a.getD k 0).toNat j:=by
 intro n
 induction n with
 | zero=>intro k hk;omega
 | succ n ih=>
  intro k hk;obtain ⟨b0,b1⟩:=clmTo_bounds a h j n;have hp:(0:Int) < 2 ^ k:=Int.pow_pos (by decide)
  by_cases e:k=n
  ·subst e
   have e1:clmTo a h j (k+1)=clmTo a h j k+if h (a.getD k 0).toNat j=true then 2 ^ k else 0:=rfl
   by_cases hb:h (a.getD k 0).toNat j=true
   ·rw [if_pos hb] at e1
    have:(clmTo a h j k+2 ^ k) / 2 ^ k=1:=by
     rw [show clmTo a h j k+2 ^ k=clmTo a h j k+1*2 ^ k by omega,Int.add_mul_ediv_right _ _ (by omega),Int.ediv_eq_zero_of_lt b0 b1]
     rfl
    rw [hb,e1];unfold bitB;rw [this];rfl
   ·rw [if_neg hb,Int.add_zero] at e1
    rw [e1,Bool.eq_false_iff.2 hb];unfold bitB;rw [Int.ediv_eq_zero_of_lt b0 b1];rfl
  ·have hkn:k < n:=by omega
   rw [<- ih k hkn];have e1:clmTo a h j (n+1)=clmTo a h j n+if h (a.getD n 0).toNat j=true then 2 ^ n else 0:=rfl
   by_cases hb:h (a.getD n 0).toNat j=true
   ·rw [if_pos hb] at e1
    obtain ⟨d,hd⟩:∃ d,n=k+1+d:=⟨n - (k+1),by omega⟩
    have e2:(2:Int) ^ n=(2*2 ^ d)*2 ^ k:=by rw [hd,Int.pow_add,Int.pow_succ];simp [Int.mul_comm,Int.mul_left_comm,Int.mul_assoc]
    have e3:clmTo a h j (n+1) / 2 ^ k % 2=clmTo a h j n / 2 ^ k % 2:=by
     rw [e1,e2,Int.add_mul_ediv_right _ _ (by omega)]
     omega
    unfold bitB;rw [e3]
   ·rw [if_neg hb,Int.add_zero] at e1
    rw [e1]
theorem op_at {T:Tm} {l:List (Int × Int)} (ho:T.ops=l) {q:Nat} (hq:q < T.size):l.getD q (0,0)=((T.sub q).kind,(T.sub q).val):=by
 obtain ⟨r,hr⟩:=Tm.sub_drop T q hq;rw [ho] at hr;have h0:l.getD q (0,0)=(l.drop q).getD 0 (0,0):=by simp [List.getD_eq_getElem?_getD]
 rw [h0,hr,<- Tm.ops_head (T.sub q) (0,0)];have hne:=Tm.ops_ne (T.sub q)
 cases hx:(T.sub q).ops with
 | nil=>exact absurd hx hne
 | cons x s=>simp
theorem sub_one {T:Tm} {q:Nat} {k v:Int} {a:Tm} (hq:q < T.size) (e:T.sub q=.un k v a):T.sub (q+1)=a:=by
 have:=Tm.sub_sub T q 1 hq (by rw [e];have:=a.size_pos;simp [Tm.size];omega)
 rw [this,e];exact Tm.sub_zero a
theorem sub_fst {T:Tm} {q:Nat} {k v:Int} {a b:Tm} (hq:q < T.size) (e:T.sub q=.bi k v a b):T.sub (q+1)=a:=by
 have ha:=a.size_pos;have:=Tm.sub_sub T q 1 hq (by rw [e];simp [Tm.size];omega)
 rw [this,e]
 show (if 0 < a.size then a.sub 0 else b.sub (0 - a.size))=a
 rw [if_pos (by omega),Tm.sub_zero]
theorem sub_snd {T:Tm} (hw:T.Wf) {l:List (Int × Int)} (ho:T.ops=l) {q:Nat} {k v:Int} {a b:Tm} (hq:q < T.size) (e:T.sub q=.bi k v a b):T.sub (sec l q)=b:=by
 have ha:=a.size_pos;have hb:=b.size_pos;have hf:=Tm.sub_fits T hq;rw [e] at hf;simp only [Tm.size] at hf;have h1:=(Tm.end_at hw (q:=q+1) (by omega)).1
 rw [ho,sub_fst hq e] at h1;have hs:sec l q=q+(1+a.size):=by unfold sec;rw [h1];omega
 rw [hs,Tm.sub_sub T q (1+a.size) hq (by rw [e];simp only [Tm.size];omega),e,show 1+a.size=a.size+1 by omega]
 show (if a.size < a.size then a.sub a.size else b.sub (a.size - a.size))=b
 rw [if_neg (by omega),Nat.sub_self,Tm.sub_zero]
theorem line_tru {T:Tm} (hw:T.Wf) {l:List (Int × Int)} (ho:T.ops=l) (hz:endsCode (l.map Prod.fst)=0) (σ:Nat->Nat->Bool) (letter:List Bool) (i:Nat) (hl:∀ v:Int,0 <= v->letter.getD v.toNat false=σ i v.toNat) (hv:∀ q,q < l.length->(l.getD q (0,0)).1=13->0 <= (l.getD q (0,0)).2) (h8:∀ q,q < l.length->8 <= (l.getD q (0,0)).1) :
  ∀ d p,l.length <= p+d->p < l.length->tru l letter (clmTo (aheadL l) (fun q=>(T.sub q).hb σ) i (aheadL l).length) p=(T.sub p).hb σ i:=by
 have hsz:T.size=l.length:=by rw [<- Tm.ops_length,ho]
 intro d
 induction d with
 | zero=>intro p h1 h2;omega
 | succ d ih=>
  intro p h1 h2;have hq:p < T.size:=by omega
  have hop:=op_at ho hq;obtain ⟨q1,q2⟩:=part_in hz h2
  cases hb:lookB (l.getD p (0,0)).1 with
  | true=>
   rw [tru_look h2 hb]
   have hlt:(aheadTo l p).length < (aheadL l).length:=by
    have:=aheadTo_mono l (p:=p+1) (n:=l.length) (by omega)
    rw [aheadTo_yes hb,List.length_append] at this;exact this
   rw [bit_clm _ _ _ _ _ hlt];obtain ⟨p',e1,e2,e3,e4⟩:=aheadTo_get l l.length (aheadTo l p).length hlt;have e1':(aheadL l).getD (aheadTo l p).length 0=(p':Int):=e1;rw [e1']
   have:p'=p:=by
    rcases Nat.lt_trichotomy p' p with h | h | h
    ·have:=aheadTo_mono l (p:=p' + 1) (n:=p) (by omega)
     rw [aheadTo_yes e3,List.length_append] at this;simp at this;omega
    ·exact h
    ·have:=aheadTo_mono l (p:=p+1) (n:=p') (by omega)
     rw [aheadTo_yes hb,List.length_append] at this;simp at this;omega
   rw [this];rfl
  | false=>
   rw [tru_mk h2 hb (fun h=>(q2 h).1)]
   have hwf:=Tm.sub_wf hw p;rw [hop] at hb q1 q2 ⊢;have hvp:=hv p h2;rw [hop] at hvp
   cases hT:T.sub p with
   | leaf k v=>
    rw [hT] at hb hvp hwf;simp only [Tm.kind,Tm.val] at hb hvp ⊢;unfold mkB
    by_cases k13:k=13
    ·subst k13
     rw [if_pos rfl,Tm.hb_prop];exact hl v (hvp rfl)
    ·by_cases k11:k=11
     ·subst k11
      rw [Tm.hb_yes];rfl
     ·rw [Tm.hb_no _ _ _ k13 k11]
      have hpn:pn k=0:=hwf.2;have k8:k≠8:=fun e=>by rw [e] at hpn;exact absurd hpn (by decide)
      have k9:k≠9:=fun e=>by rw [e] at hpn;exact absurd hpn (by decide)
      have k10:k≠10:=fun e=>by rw [e] at hpn;exact absurd hpn (by decide)
      simp [k13,k11,k8,k9,k10]
   | un k v a=>
    have hs1:=sub_one hq hT;rw [hT] at hb hwf q1;simp only [Tm.kind,Tm.val] at hb q1 ⊢;have hpn:pn k=1:=hwf.2.1;have hok:okK k=true:=hwf.1
    have hk:k=10:=by
     have h14:¬ (14 <= k/\k <= 18):=by simpa [lookB] using hb
     unfold pn at hpn
     split at hpn
     ·omega
     ·split at hpn <;> omega
    subst hk;rw [ih (p+1) (by omega) (q1 (by rw [hpn];exact Nat.le_refl _)),hs1,Tm.hb_not]
    rfl
   | bi k v a b=>
    have hs1:=sub_fst hq hT;have hs2:=sub_snd hw ho hq hT;have h8p:=h8 p h2;rw [hop,hT] at h8p;rw [hT] at hb hwf q1 q2;simp only [Tm.kind,Tm.val] at hb q1 q2 ⊢;have hpn:pn k=2:=hwf.2.1;rw [ih (p+1) (by omega) (q1 (by omega)),ih (sec l p) (by have:=(q2 hpn).1;omega) (q2 hpn).2,hs1,hs2]
    simp only [Tm.kind] at h8p
    have hk:k=8\/k=9:=by
     have h14:¬ (14 <= k/\k <= 18):=by simpa [lookB] using hb
     unfold pn at hpn
     split at hpn
     ·omega
     ·split at hpn <;> omega
    rcases hk with rfl | rfl
    ·rw [Tm.hb_and];rfl
    ·rw [Tm.hb_or];rfl
theorem kind_cases {k:Int} (h:lookB k=true):k=14\/k=15\/k=16\/k=17\/k=18:=by
 have:14 <= k/\k <= 18:=by simpa [lookB] using h
 omega
theorem look_parts {T:Tm} (hw:T.Wf) {l:List (Int × Int)} (ho:T.ops=l) {p:Nat} (hp:p < l.length) (hb:lookB (l.getD p (0,0)).1=true) :
  (∃ k v a,(k=14\/k=17\/k=18)/\(l.getD p (0,0)).1=k/\T.sub p=.un k v a/\T.sub (p+1)=a)\/(∃ k v a b,(k=15\/k=16)/\(l.getD p (0,0)).1=k/\T.sub p=.bi k v a b/\T.sub (p+1)=a/\T.sub (sec l p)=b):=by
 have hsz:T.size=l.length:=by rw [<- Tm.ops_length,ho]
 have hq:p < T.size:=by omega
 have hop:=op_at ho hq;have hwf:=Tm.sub_wf hw p;have hk:=kind_cases hb;rw [hop] at hk ⊢
 cases hT:T.sub p with
 | leaf k v=>
  rw [hT] at hk hwf;have hpn:pn k=0:=hwf.2;simp only [Tm.kind] at hk
  exfalso
  rcases hk with rfl | rfl | rfl | rfl | rfl <;> exact absurd hpn (by decide)
 | un k v a=>
  have h1:=sub_one hq hT;rw [hT] at hk hwf;have hpn:pn k=1:=hwf.2.1;simp only [Tm.kind] at hk ⊢
  left
  refine ⟨k,v,a,?_,rfl,rfl,h1⟩
  rcases hk with rfl | rfl | rfl | rfl | rfl
  ·exact .inl rfl
  ·exact absurd hpn (by decide)
  ·exact absurd hpn (by decide)
  ·exact .inr (.inl rfl)
  ·exact .inr (.inr rfl)
 | bi k v a b=>
  have h1:=sub_fst hq hT;have h2:=sub_snd hw ho hq hT;rw [hT] at hk hwf;have hpn:pn k=2:=hwf.2.1;simp only [Tm.kind] at hk ⊢
  right
  refine ⟨k,v,a,b,?_,rfl,rfl,h1,h2⟩
  rcases hk with rfl | rfl | rfl | rfl | rfl
  ·exact absurd hpn (by decide)
  ·exact .inl rfl
  ·exact .inr rfl
  ·exact absurd hpn (by decide)
  ·exact absurd hpn (by decide)
theorem line_come {T:Tm} (hw:T.Wf) {l:List (Int × Int)} (ho:T.ops=l) (σ:Nat->Nat->Bool) {p:Nat} (hp:p < l.length) (hb:lookB (l.getD p (0,0)).1=true) (i:Nat) :
  (T.sub p).hb σ i=comeB (l.getD p (0,0)).1 ((T.sub (p+1)).hb σ i) ((T.sub (sec l p)).hb σ i) ((T.sub p).hb σ (i+1)) ((T.sub (p+1)).hb σ (i+1)):=by
 rcases look_parts hw ho hp hb with ⟨k,v,a,hk,e1,e2,e3⟩ | ⟨k,v,a,b,hk,e1,e2,e3,e4⟩
 ·rw [e1,e2,e3]
  rcases hk with rfl | rfl | rfl
  ·rw [Tm.hb_next];rfl
  ·rw [Tm.hb_fin,untB_step,<- Tm.hb_fin σ v];simp [comeB]
  ·rw [Tm.hb_glob,untB_step,<- Tm.hb_glob σ v];simp [comeB]
 ·rw [e1,e2,e3,e4]
  rcases hk with rfl | rfl
  ·rw [Tm.hb_until,untB_step,<- Tm.hb_until σ v];rfl
  ·rw [Tm.hb_rel,untB_step,<- Tm.hb_rel σ v]
   show (_||_)=(_&&(_||_))
   cases Tm.hb σ a i <;> cases Tm.hb σ b i <;> simp
theorem line_meets {T:Tm} (hw:T.Wf) {l:List (Int × Int)} (ho:T.ops=l) {ls:List (List Bool)} {s:Nat} (hs:s < ls.length) {p:Nat} (hp:p < l.length) (hb:lookB (l.getD p (0,0)).1=true) :
  ∃ i,s <= i/\i < ls.length/\waitB (l.getD p (0,0)).1 ((T.sub p).hb (sig ls s) i) ((T.sub (p+1)).hb (sig ls s) i) ((T.sub (sec l p)).hb (sig ls s) i)=false:=by
 refine Classical.byContradiction fun hno=>?_
 have hall:∀ i,s <= i->waitB (l.getD p (0,0)).1 ((T.sub p).hb (sig ls s) i) ((T.sub (p+1)).hb (sig ls s) i) ((T.sub (sec l p)).hb (sig ls s) i)=true:=fun i hi=>by
  have hm:s <= moAt s ls.length i/\moAt s ls.length i < ls.length:=⟨by unfold moAt;split <;> omega,moAt_lt hs⟩
  refine Classical.byContradiction fun hf=>hno ⟨moAt s ls.length i,hm.1,hm.2,?_⟩
  rw [hb_mo hs,hb_mo hs,hb_mo hs];exact Bool.eq_false_iff.2 hf
 rcases look_parts hw ho hp hb with ⟨k,v,a,hk,e1,e2,e3⟩ | ⟨k,v,a,b,hk,e1,e2,e3,e4⟩
 ·rw [e1,e2,e3] at hall
  rcases hk with rfl | rfl | rfl
  ·exact absurd (hall s (Nat.le_refl _)) (by simp [waitB])
  ·have h1:∀ i,s <= i->Tm.hb (sig ls s) (.un 17 v a) i=true/\Tm.hb (sig ls s) a i=false:=fun i hi=>by simpa [waitB] using hall i hi
   have h0:=(h1 s (Nat.le_refl _)).1;rw [Tm.hb_fin,untB_iff] at h0
   rcases h0 with ⟨j,hj,hu,_⟩ | ⟨hd,_⟩
   ·rw [(h1 j hj).2] at hu;cases hu
   ·cases hd
  ·have h1:∀ i,s <= i->Tm.hb (sig ls s) (.un 18 v a) i=false/\Tm.hb (sig ls s) a i=true:=fun i hi=>by simpa [waitB] using hall i hi
   have h0:=(h1 s (Nat.le_refl _)).1
   have:Tm.hb (sig ls s) (.un 18 v a) s=true:=by
    rw [Tm.hb_glob,untB_iff];exact .inr ⟨rfl,fun m hm=>(h1 m hm).2⟩
   rw [this] at h0;cases h0
 ·rw [e1,e2,e3,e4] at hall
  rcases hk with rfl | rfl
  ·have h1:∀ i,s <= i->Tm.hb (sig ls s) (.bi 15 v a b) i=true/\Tm.hb (sig ls s) b i=false:=fun i hi=>by simpa [waitB] using hall i hi
   have h0:=(h1 s (Nat.le_refl _)).1;rw [Tm.hb_until,untB_iff] at h0
   rcases h0 with ⟨j,hj,hu,_⟩ | ⟨hd,_⟩
   ·rw [(h1 j hj).2] at hu;cases hu
   ·cases hd
  ·have h1:∀ i,s <= i->Tm.hb (sig ls s) (.bi 16 v a b) i=false/\Tm.hb (sig ls s) b i=true:=fun i hi=>by simpa [waitB] using hall i hi
   have h0:=(h1 s (Nat.le_refl _)).1
   have:Tm.hb (sig ls s) (.bi 16 v a b) s=true:=by
    rw [Tm.hb_rel,untB_iff];exact .inr ⟨rfl,fun m hm=>(h1 m hm).2⟩
   rw [this] at h0;cases h0
theorem const_from {t:Nat->Bool} {i j:Nat} (h:∀ m,i <= m->m < j->t m=t (m+1)):∀ m,i <= m->m <= j->t i=t m:=by
 intro m
 induction m with
 | zero=>intro h1 _;rw [Nat.le_zero.1 h1]
 | succ m ih=>
  intro h1 h2
  by_cases e:i=m+1
  ·rw [e]
  ·rw [ih (by omega) (by omega),h m (by omega) (by omega)]
theorem unt_unique {u v t:Nat->Bool} (d:Bool) (hst:∀ i,t i=(u i||(v i&&t (i+1)))) (i:Nat):t i=untB u v d i\/∀ m,i <= m->u m=false/\v m=true/\t m=!d:=by
  by_cases hex:∃ j,i <= j/\(u j=true\/v j=false)
  · left
    obtain ⟨j0,h0,h1⟩:=hex;obtain ⟨j,hj,hp,hless⟩:=Tm.least (P:=fun j=>u j=true\/v j=false) i j0 h0 h1
    have hmid:∀ m,i <= m->m < j->u m=false/\v m=true:=fun m a b=>by
      have:=hless m a b
      constructor
      · exact Bool.eq_false_iff.2 fun e=>this (.inl e)
      · exact Classical.byContradiction fun e=>this (.inr (Bool.eq_false_iff.2 e))
    have h1:=const_from (t:=t) (i:=i) (j:=j) (fun m a b=>by have:=hmid m a b;rw [hst m,this.1,this.2];simp) j hj (Nat.le_refl _)
    have h2:=const_from (t:=untB u v d) (i:=i) (j:=j) (fun m a b=>by have:=hmid m a b;rw [untB_step u v d m,this.1,this.2];simp) j hj (Nat.le_refl _)
    rw [h1,h2,hst j,untB_step]
    rcases hp with h | h
    · rw [h];simp
    · rw [h];simp
  · have hall:∀ m,i <= m->u m=false/\v m=true:=fun m hm=>by
      constructor
      · exact Bool.eq_false_iff.2 fun e=>hex ⟨m,hm,.inl e⟩
      · exact Classical.byContradiction fun e=>hex ⟨m,hm,.inr (Bool.eq_false_iff.2 e)⟩
    have hc:∀ m,i <= m->t i=t m:=fun m hm=>const_from (t:=t) (i:=i) (j:=m) (fun k a _=>by have:=hall k a;rw [hst k,this.1,this.2];simp) m hm (Nat.le_refl _)
    by_cases e:t i=d
    · left
      rw [e,unt_stuck (u:=u) (v:=v) (d:=d) hall]
    · right
      intro m hm;refine ⟨(hall m hm).1,(hall m hm).2,?_⟩
      rw [<- hc m hm];generalize t i=x at e
      cases d <;> cases x <;> first | rfl | exact absurd rfl e
theorem line_only {T:Tm} (hw:T.Wf) {l:List (Int × Int)} (ho:T.ops=l) (hz:endsCode (l.map Prod.fst)=0) {ls:List (List Bool)} {s:Nat} (hs:s < ls.length) (t:Nat->Nat->Bool)
  (hper:∀ i p,t (moAt s ls.length i) p=t i p)
  (hmk:∀ i p,p < l.length->lookB (l.getD p (0,0)).1=false->(1 <= pn (l.getD p (0,0)).1->t i (p+1)=(T.sub (p+1)).hb (sig ls s) i)->(pn (l.getD p (0,0)).1=2->t i (sec l p)=(T.sub (sec l p)).hb (sig ls s) i)->t i p=(T.sub p).hb (sig ls s) i)
  (hfol:∀ i p,p < l.length->lookB (l.getD p (0,0)).1=true->t i p=comeB (l.getD p (0,0)).1 (t i (p+1)) (t i (sec l p)) (t (i+1) p) (t (i+1) (p+1)))
  (hmet:∀ p,p < l.length->lookB (l.getD p (0,0)).1=true->∃ i,s <= i/\i < ls.length/\waitB (l.getD p (0,0)).1 (t i p) (t i (p+1)) (t i (sec l p))=false) :
  ∀ d p,l.length <= p+d->p < l.length->∀ i,t i p=(T.sub p).hb (sig ls s) i:=by
 intro d
 induction d with
 | zero=>intro p h1 h2;omega
 | succ d ih=>
  intro p h1 h2 i;obtain ⟨q1,q2⟩:=part_in hz h2
  cases hb:lookB (l.getD p (0,0)).1 with
  | false=>exact hmk i p h2 hb (fun h=>ih (p+1) (by omega) (q1 h) i) (fun h=>ih (sec l p) (by have:=(q2 h).1;omega) (q2 h).2 i)
  | true=>
   have hnw:∀ c,(∀ m,c <= m->waitB (l.getD p (0,0)).1 (t m p) (t m (p+1)) (t m (sec l p))=true)->False:=fun c hall=>by
    obtain ⟨i0,a1,a2,a3⟩:=hmet p h2 hb
    have hj:moAt s ls.length (i0+c*(ls.length - s))=i0:=by
     unfold moAt
     split
     ·rename_i hlt
      have:c*(ls.length - s)=0:=by
       rcases Nat.eq_zero_or_pos c with h | h
       ·rw [h,Nat.zero_mul]
       ·have:ls.length - s <= c*(ls.length - s):=Nat.le_mul_of_pos_left _ h
        omega
      omega
     ·rw [show i0+c*(ls.length - s) - s=(i0 - s)+c*(ls.length - s) by omega,Nat.add_mul_mod_self_right,Nat.mod_eq_of_lt (by omega)]
      omega
    have hle:c <= i0+c*(ls.length - s):=by
     have:c*1 <= c*(ls.length - s):=Nat.mul_le_mul_left _ (by omega)
     omega
    have:=hall _ hle;rw [<- hper (i0+c*(ls.length - s)) p,<- hper (i0+c*(ls.length - s)) (p+1),<- hper (i0+c*(ls.length - s)) (sec l p),hj,a3] at this
    cases this
   rcases look_parts hw ho h2 hb with ⟨k,v,a,hk,e1,e2,e3⟩ | ⟨k,v,a,b,hk,e1,e2,e3,e4⟩
   ·have hp1:p+1 < l.length:=q1 (by rw [e1];rcases hk with rfl | rfl | rfl <;> decide)
    have ha:∀ i,t i (p+1)=Tm.hb (sig ls s) a i:=fun i=>by rw [ih (p+1) (by omega) hp1 i,e3]
    have hf:=fun i=>hfol i p h2 hb
    rw [e1] at hnw;rw [e2]
    rcases hk with rfl | rfl | rfl
    ·have:=hf i
     rw [e1] at this;rw [this,Tm.hb_next,<- ha];rfl
    ·rw [Tm.hb_fin]
     rcases unt_unique (u:=Tm.hb (sig ls s) a) (v:=fun _=>true) (t:=fun i=>t i p) false (fun i=>by show t i p=_;rw [hf i,e1,ha];rfl) i with h | h
     ·exact h
     ·exact (hnw i fun m hm=>by have:=h m hm;rw [ha,this.1,this.2.2];rfl).elim
    ·rw [Tm.hb_glob]
     rcases unt_unique (u:=fun _=>false) (v:=Tm.hb (sig ls s) a) (t:=fun i=>t i p) true (fun i=>by show t i p=_;rw [hf i,e1,ha];simp [comeB]) i with h | h
     ·exact h
     ·exact (hnw i fun m hm=>by have:=h m hm;rw [ha,this.2.1,this.2.2];rfl).elim
   ·have hp2:pn (l.getD p (0,0)).1=2:=by rw [e1];rcases hk with rfl | rfl <;> rfl
    have hp1:p+1 < l.length:=q1 (by omega)
    have ha:∀ i,t i (p+1)=Tm.hb (sig ls s) a i:=fun i=>by rw [ih (p+1) (by omega) hp1 i,e3]
    have hbb:∀ i,t i (sec l p)=Tm.hb (sig ls s) b i:=fun i=>by rw [ih (sec l p) (by have:=(q2 hp2).1;omega) (q2 hp2).2 i,e4]
    have hf:=fun i=>hfol i p h2 hb
    rw [e1] at hnw;rw [e2]
    rcases hk with rfl | rfl
    ·rw [Tm.hb_until]
     rcases unt_unique (u:=Tm.hb (sig ls s) b) (v:=Tm.hb (sig ls s) a) (t:=fun i=>t i p) false (fun i=>by show t i p=_;rw [hf i,e1,ha,hbb];rfl) i with h | h
     ·exact h
     ·exact (hnw i fun m hm=>by have:=h m hm;rw [hbb,this.1,this.2.2];cases t m (p+1) <;> rfl).elim
    ·rw [Tm.hb_rel]
     rcases unt_unique (u:=fun j=>Tm.hb (sig ls s) a j&&Tm.hb (sig ls s) b j) (v:=Tm.hb (sig ls s) b) (t:=fun i=>t i p) true (fun i=>by show t i p=_;rw [hf i,e1,ha,hbb];show (_&&(_||_))=(_||_);cases Tm.hb (sig ls s) a i <;> cases Tm.hb (sig ls s) b i <;> simp) i with h | h
     ·exact h
     ·exact (hnw i fun m hm=>by have:=h m hm;rw [hbb,this.2.1,this.2.2];cases t m (p+1) <;> rfl).elim
theorem mk_hb {T:Tm} (hw:T.Wf) {l:List (Int × Int)} (ho:T.ops=l) (σ:Nat->Nat->Bool) (letter:List Bool) (i:Nat) (hl:∀ v:Int,0 <= v->letter.getD v.toNat false=σ i v.toNat) (hv:∀ q,q < l.length->(l.getD q (0,0)).1=13->0 <= (l.getD q (0,0)).2) (h8:∀ q,q < l.length->8 <= (l.getD q (0,0)).1) {p:Nat} (h2:p < l.length) (hb:lookB (l.getD p (0,0)).1=false) {x y:Bool} (hx1:1 <= pn (l.getD p (0,0)).1->x=(T.sub (p+1)).hb σ i) (hx2:pn (l.getD p (0,0)).1=2->y=(T.sub (sec l p)).hb σ i):mkB (l.getD p (0,0)) letter x y=(T.sub p).hb σ i:=by
 have hsz:T.size=l.length:=by rw [<- Tm.ops_length,ho]
 have hq:p < T.size:=by omega
 have hop:=op_at ho hq;have hwf:=Tm.sub_wf hw p;rw [hop] at hb hx1 hx2 ⊢;have hvp:=hv p h2;rw [hop] at hvp
 cases hT:T.sub p with
 | leaf k v=>
  rw [hT] at hb hvp hwf;simp only [Tm.kind,Tm.val] at hb hvp ⊢;unfold mkB
  by_cases k13:k=13
  ·subst k13
   rw [if_pos rfl,Tm.hb_prop];exact hl v (hvp rfl)
  ·by_cases k11:k=11
   ·subst k11
    rw [Tm.hb_yes];rfl
   ·rw [Tm.hb_no _ _ _ k13 k11]
    have hpn:pn k=0:=hwf.2;have k8:k≠8:=fun e=>by rw [e] at hpn;exact absurd hpn (by decide)
    have k9:k≠9:=fun e=>by rw [e] at hpn;exact absurd hpn (by decide)
    have k10:k≠10:=fun e=>by rw [e] at hpn;exact absurd hpn (by decide)
    simp [k13,k11,k8,k9,k10]
 | un k v a=>
  have hs1:=sub_one hq hT;rw [hT] at hb hwf hx1;simp only [Tm.kind,Tm.val] at hb hx1 ⊢;have hpn:pn k=1:=hwf.2.1;have hok:okK k=true:=hwf.1
  have hk:k=10:=by
   have h14:¬ (14 <= k/\k <= 18):=by simpa [lookB] using hb
   unfold pn at hpn
   split at hpn
   ·omega
   ·split at hpn <;> omega
  subst hk;rw [hx1 (by rw [hpn];exact Nat.le_refl _),hs1,Tm.hb_not]
  rfl
 | bi k v a b=>
  have hs1:=sub_fst hq hT;have hs2:=sub_snd hw ho hq hT;have h8p:=h8 p h2;rw [hop,hT] at h8p;rw [hT] at hb hwf hx1 hx2;simp only [Tm.kind,Tm.val] at hb hx1 hx2 ⊢;have hpn:pn k=2:=hwf.2.1;rw [hx1 (by omega),hx2 hpn,hs1,hs2]
  simp only [Tm.kind] at h8p
  have hk:k=8\/k=9:=by
   have h14:¬ (14 <= k/\k <= 18):=by simpa [lookB] using hb
   unfold pn at hpn
   split at hpn
   ·omega
   ·split at hpn <;> omega
  rcases hk with rfl | rfl
  ·rw [Tm.hb_and];rfl
  ·rw [Tm.hb_or];rfl
theorem bits_eq:∀ (n:Nat) (x y:Int),0 <= x->x < 2 ^ n->0 <= y->y < 2 ^ n->(∀ k,k < n->bitB x k=bitB y k)->x=y:=by
 intro n
 induction n with
 | zero=>intro x y a b c d _;simp at b d;omega
 | succ n ih=>
  intro x y a b c d h;rw [Int.pow_succ] at b d;have h0:bitB x 0=bitB y 0:=h 0 (by omega)
  have e0:x % 2=y % 2:=by
   unfold bitB at h0;simp only [Int.pow_zero,Int.ediv_one] at h0;have hx:x % 2=0\/x % 2=1:=by omega
   have hy:y % 2=0\/y % 2=1:=by omega
   rcases hx with hx | hx <;> rcases hy with hy | hy
   ·rw [hx,hy]
   ·rw [hx,hy] at h0;simp at h0
   ·rw [hx,hy] at h0;simp at h0
   ·rw [hx,hy]
  have hh:x / 2=y / 2:=ih (x / 2) (y / 2) (by omega) (by omega) (by omega) (by omega) fun k hk=>by
   have:=h (k+1) (by omega)
   unfold bitB at this ⊢;rw [Int.pow_succ,Int.mul_comm,<- Int.ediv_ediv_of_nonneg (by decide),<- Int.ediv_ediv_of_nonneg (by decide)] at this
   exact this
  omega
theorem claims_only {T:Tm} (hw:T.Wf) {l:List (Int × Int)} (ho:T.ops=l) (hz:endsCode (l.map Prod.fst)=0) (hv:∀ q,q < l.length->(l.getD q (0,0)).1=13->0 <= (l.getD q (0,0)).2) (h8:∀ q,q < l.length->8 <= (l.getD q (0,0)).1) {ls:List (List Bool)} {s:Nat} (hs:s < ls.length) (mine:Nat->Int)
  (hm:∀ i,i < ls.length->0 <= mine i/\mine i < 2 ^ (aheadL l).length)
  (hfol:∀ i,i < ls.length->∀ p,p < l.length->lookB (l.getD p (0,0)).1=true->tru l (ls.getD i []) (mine i) p=comeB (l.getD p (0,0)).1 (tru l (ls.getD i []) (mine i) (p+1)) (tru l (ls.getD i []) (mine i) (sec l p)) (tru l (ls.getD (moAt s ls.length (i+1)) []) (mine (moAt s ls.length (i+1))) p) (tru l (ls.getD (moAt s ls.length (i+1)) []) (mine (moAt s ls.length (i+1))) (p+1)))
  (hmet:∀ p,p < l.length->lookB (l.getD p (0,0)).1=true->∃ i,s <= i/\i < ls.length/\waitB (l.getD p (0,0)).1 (tru l (ls.getD i []) (mine i) p) (tru l (ls.getD i []) (mine i) (p+1)) (tru l (ls.getD i []) (mine i) (sec l p))=false) :
  ∀ i,i < ls.length->mine i=clmTo (aheadL l) (fun q=>(T.sub q).hb (sig ls s)) i (aheadL l).length:=by
 have hmm:∀ i,moAt s ls.length (moAt s ls.length i)=moAt s ls.length i:=fun i=>moAt_low (moAt_lt hs)
 have key:=line_only hw ho hz hs (fun i p=>tru l (ls.getD (moAt s ls.length i) []) (mine (moAt s ls.length i)) p)
  (fun i p=>by simp only [hmm])
  (fun i p h2 hb hx1 hx2=>by
   obtain ⟨_,q2⟩:=part_in hz h2
   show tru _ _ _ _=_
   rw [tru_mk h2 hb (fun h=>(q2 h).1)]
   exact mk_hb hw ho (sig ls s) _ i (fun v _=>rfl) hv h8 h2 hb hx1 hx2)
  (fun i p h2 hb=>by
   have:=hfol (moAt s ls.length i) (moAt_lt hs) p h2 hb
   have e:moAt s ls.length (moAt s ls.length i+1)=moAt s ls.length (i+1):=by
    unfold moAt
    by_cases h:i < ls.length
    ·rw [if_pos h]
    ·rw [if_neg h,if_neg (show ¬ i+1 < ls.length by omega)]
     have hL:0 < ls.length - s:=by omega
     have hr:=Nat.mod_lt (i - s) hL;have e1:i+1 - s=(i - s)+1:=by omega
     rw [e1,<- Nat.mod_add_mod]
     by_cases h3:s+(i - s) % (ls.length - s)+1 < ls.length
     ·rw [if_pos h3,Nat.mod_eq_of_lt (show (i - s) % (ls.length - s)+1 < ls.length - s by omega)];omega
     ·rw [if_neg h3,show s+(i - s) % (ls.length - s)+1 - s=(i - s) % (ls.length - s)+1 by omega]
   rw [e] at this
   exact this)
  (fun p h2 hb=>by
   obtain ⟨i,a1,a2,a3⟩:=hmet p h2 hb
   exact ⟨i,a1,a2,by simp only [moAt_low a2];exact a3⟩)
 intro i hi;obtain ⟨c0,c1⟩:=clmTo_bounds (aheadL l) (fun q=>(T.sub q).hb (sig ls s)) i (aheadL l).length
 refine bits_eq _ _ _ (hm i hi).1 (hm i hi).2 c0 c1 fun k hk=>?_
 rw [bit_clm _ _ _ _ _ hk];obtain ⟨p,e1,e2,e3,e4⟩:=aheadTo_get l l.length k hk;have e1':(aheadL l).getD k 0=(p:Int):=e1;have:=key l.length p (by omega) e2 i
 simp only [moAt_low hi] at this;rw [tru_look e2 e3,e4] at this;rw [this,e1'];rfl
theorem claims_tru {T:Tm} (hw:T.Wf) {l:List (Int × Int)} (ho:T.ops=l) (hz:endsCode (l.map Prod.fst)=0) (hv:∀ q,q < l.length->(l.getD q (0,0)).1=13->0 <= (l.getD q (0,0)).2) (h8:∀ q,q < l.length->8 <= (l.getD q (0,0)).1) {ls:List (List Bool)} {s:Nat} {i:Nat} (hi:i < ls.length) {p:Nat} (hp:p < l.length) :
  tru l (ls.getD i []) (clmTo (aheadL l) (fun q=>(T.sub q).hb (sig ls s)) i (aheadL l).length) p=(T.sub p).hb (sig ls s) i:=
 line_tru hw ho hz (sig ls s) _ i (fun v _=>by unfold sig;rw [moAt_low hi]) hv h8 l.length p (by omega) hp
theorem claims_fit {T:Tm} (hw:T.Wf) {l:List (Int × Int)} (ho:T.ops=l) (hz:endsCode (l.map Prod.fst)=0) (hv:∀ q,q < l.length->(l.getD q (0,0)).1=13->0 <= (l.getD q (0,0)).2) (h8:∀ q,q < l.length->8 <= (l.getD q (0,0)).1) {ls:List (List Bool)} {s:Nat} (hs:s < ls.length) (mine:Nat->Int)
  (hm:∀ i,i < ls.length->mine i=clmTo (aheadL l) (fun q=>(T.sub q).hb (sig ls s)) i (aheadL l).length) :
  (∀ i,i < ls.length->∀ p,p < l.length->lookB (l.getD p (0,0)).1=true->tru l (ls.getD i []) (mine i) p=comeB (l.getD p (0,0)).1 (tru l (ls.getD i []) (mine i) (p+1)) (tru l (ls.getD i []) (mine i) (sec l p)) (tru l (ls.getD (moAt s ls.length (i+1)) []) (mine (moAt s ls.length (i+1))) p) (tru l (ls.getD (moAt s ls.length (i+1)) []) (mine (moAt s ls.length (i+1))) (p+1)))/\
  ∀ p,p < l.length->lookB (l.getD p (0,0)).1=true->∃ i,s <= i/\i < ls.length/\waitB (l.getD p (0,0)).1 (tru l (ls.getD i []) (mine i) p) (tru l (ls.getD i []) (mine i) (p+1)) (tru l (ls.getD i []) (mine i) (sec l p))=false:=by
 have two:∀ p,p < l.length->lookB (l.getD p (0,0)).1=true->p+1 < l.length/\((l.getD p (0,0)).1=15\/(l.getD p (0,0)).1=16->sec l p < l.length):=fun p hp hb=>by
  obtain ⟨q1,q2⟩:=part_in hz hp;have hk:=kind_cases hb;generalize (l.getD p (0,0)).1=k at *;refine ⟨q1 (by rcases hk with rfl | rfl | rfl | rfl | rfl <;> decide),fun h=>(q2 (by rcases h with rfl | rfl <;> rfl)).2⟩
 have sec_free:∀ k (x y y' z nx:Bool),lookB k=true->(k=15\/k=16->y=y')->comeB k x y z nx=comeB k x y' z nx:=fun k x y y' z nx hb h=>by
  rcases kind_cases hb with rfl | rfl | rfl | rfl | rfl
  ·rfl
  ·rw [h (.inl rfl)]
  ·rw [h (.inr rfl)]
  ·rfl
  ·rfl
 have sec_free2:∀ k (a x y y':Bool),lookB k=true->(k=15\/k=16->y=y')->waitB k a x y=waitB k a x y':=fun k a x y y' hb h=>by
  rcases kind_cases hb with rfl | rfl | rfl | rfl | rfl
  ·rfl
  ·rw [h (.inl rfl)]
  ·rw [h (.inr rfl)]
  ·rfl
  ·rfl
 refine ⟨fun i hi p hp hb=>?_,fun p hp hb=>?_⟩
 ·obtain ⟨p1,p2⟩:=two p hp hb
  have hj:=moAt_lt (s:=s) (n:=ls.length) (i:=i+1) hs;rw [hm i hi,hm _ hj,claims_tru hw ho hz hv h8 hi hp,claims_tru hw ho hz hv h8 hi p1,claims_tru hw ho hz hv h8 hj hp,claims_tru hw ho hz hv h8 hj p1,hb_mo hs,hb_mo hs];rw [sec_free _ _ _ ((T.sub (sec l p)).hb (sig ls s) i) _ _ hb (fun h=>claims_tru hw ho hz hv h8 hi (p2 h))]
  exact line_come hw ho (sig ls s) hp hb i
 ·obtain ⟨p1,p2⟩:=two p hp hb
  obtain ⟨i,a1,a2,a3⟩:=line_meets hw ho hs hp hb;refine ⟨i,a1,a2,?_⟩
  rw [hm i a2,claims_tru hw ho hz hv h8 a2 hp,claims_tru hw ho hz hv h8 a2 p1,sec_free2 _ _ _ _ ((T.sub (sec l p)).hb (sig ls s) i) hb (fun h=>claims_tru hw ho hz hv h8 a2 (p2 h))]
  exact a3
end Go.Proofs.YtfnobbpbmelgnaaGreatDoor
namespace Go.Proofs.YtfnobbpbmelgnaaGreatDoor
open Go.ChangeShapes Go.WideShapes Go.ChangeAt Go.RowKit Go.Deep
open Terms
set_option maxHeartbeats 6400000
set_option maxRecDepth 20000
theorem met_clm (l:List (Int × Int)) (h:Nat->Bool):∀ k,metTo l h k=clmTo (aheadL l) (fun q _=>!waitAt l h q) 0 k:=by
 intro k
 induction k with
 | zero=>simp [metTo,clmTo]
 | succ k ih=>
  simp only [metTo,clmTo,ih]
  by_cases hw:waitAt l h ((aheadL l).getD k 0).toNat=true
  ·rw [if_pos hw,if_neg (by rw [hw];decide)]
  ·rw [if_neg hw,if_pos (by rw [Bool.not_eq_true'] ;exact Bool.eq_false_iff.2 hw)]
theorem met_bit (l:List (Int × Int)) (h:Nat->Bool) {n j:Nat} (hj:j < n):bitB (metTo l h n) j=!waitAt l h ((aheadL l).getD j 0).toNat:=by
 rw [met_clm,bit_clm _ _ _ _ _ hj]
theorem good_at {m:Nat} {x:List (Int × Int)} {T:Tm} (hF:FOk m x T) {q:Nat} (hq:q < x.length):lopErr 3 (x.getD q (0,0))=0:=hF.good _ (by rw [List.getD_eq_getElem?_getD,List.getElem?_eq_getElem hq,Option.getD_some];exact List.getElem_mem hq)
theorem good_vals {m:Nat} {x:List (Int × Int)} {T:Tm} (hF:FOk m x T):(∀ q,q < x.length->(x.getD q (0,0)).1=13->0 <= (x.getD q (0,0)).2)/\∀ q,q < x.length->8 <= (x.getD q (0,0)).1:=by
 refine ⟨fun q hq h13=>?_,fun q hq=>?_⟩
 ·have:=good_at hF hq
  generalize x.getD q (0,0)=o at *;unfold lopErr at this;obtain ⟨k,v⟩:=o;simp only at h13
  subst h13;simp at this ⊢
  omega
 ·have:=good_at hF hq
  generalize x.getD q (0,0)=o at *;unfold lopErr at this;obtain ⟨k,v⟩:=o;simp only at this ⊢
  by_cases h:k < 8
  ·exfalso
   revert this
   simp
   omega
  ·omega
theorem ahead_mono (l:List (Int × Int)):∀ (d n:Nat),∃ r,aheadTo l (n+d)=aheadTo l n++r:=by
 intro d
 induction d with
 | zero=>intro n;exact ⟨[],by simp⟩
 | succ d ih=>
  intro n;obtain ⟨r,h⟩:=ih n;rw [show n+(d+1)=(n+d)+1 by omega]
  simp only [aheadTo]
  split
  ·exact ⟨r++[((n+d:Nat):Int)],by rw [h,List.append_assoc]⟩
  ·exact ⟨r,by rw [List.append_nil];exact h⟩
theorem ahead_at {l:List (Int × Int)} {p:Nat} (hp:p < l.length) (hb:lookB (l.getD p (0,0)).1=true):(aheadTo l p).length < (aheadL l).length/\(aheadL l).getD (aheadTo l p).length 0=(p:Int):=by
 obtain ⟨r,h⟩:=ahead_mono l (l.length - (p+1)) (p+1);rw [show p+1+(l.length - (p+1))=l.length by omega] at h
 have h1:aheadTo l (p+1)=aheadTo l p++[(p:Int)]:=by simp only [aheadTo];rw [if_pos hb]
 unfold aheadL;rw [h,h1];refine ⟨by simp,?_⟩
 simp [List.getD_eq_getElem?_getD]
end Go.Proofs.YtfnobbpbmelgnaaGreatDoor
namespace Go.Proofs.YtfnobbpbmelgnaaGreatDoor
open Go.ChangeShapes Go.WideShapes Go.ChangeAt Go.RowKit Go.Deep
open Terms Tm
set_option maxHeartbeats 6400000
set_option maxRecDepth 20000
theorem good_more {v v':Int} (h:v <= v'):∀ {T:Tm},T.Good v->T.Good v'
 | .leaf _ _,hg=>by
  rcases hg with hg | ⟨h1,h2,h3⟩ | hg
  ·exact .inl hg
  ·exact .inr (.inl ⟨h1,h2,by omega⟩)
  ·exact .inr (.inr hg)
 | .un _ _ _,hg=>⟨hg.1,hg.2.1,good_more h hg.2.2⟩
 | .bi _ _ _ _,hg=>⟨hg.1,hg.2.1,hg.2.2.1,good_more h hg.2.2.2.1,good_more h hg.2.2.2.2⟩
theorem kcode_more {v v':Int} (h:v <= v') (h6:v' <= 6) {l:List (Int × Int)} {tr:Bool} (hk:kcode v l tr=0):kcode v' l tr=0:=by
 unfold kcode at hk ⊢
 by_cases hx:xcode v l (treeOf l)=0
 ·rw [if_pos hx] at hk
  obtain ⟨h0,_,hops,hg,ht,hsz⟩:=xcode_zero hx (treeOf_spec l);have h2:=xcode_good (vars:=v') (by omega) h6 (good_more h hg) hsz
  rw [hops,if_pos ht] at h2;rw [if_pos h2];exact hk
 ·rw [if_neg hx] at hk
  exact absurd hk hx
theorem rcode_more {v v':Int} (h:v <= v') (h6:v' <= 6) {r:Ru} (hr:rcode v r=0):rcode v' r=0:=by
 unfold rcode at hr ⊢
 split at hr
 ·simp at hr
 ·rename_i h1
  rw [if_neg h1]
  split at hr
  ·rename_i h2
   rw [if_pos (kcode_more h h6 h2)];refine firstOf_none fun j hj=>?_
   have h3:=firstOf_zero hr j hj;unfold sAt at h3 ⊢
   split at h3
   ·simp at h3
   ·rename_i h4
    rw [if_neg (by omega)]
    split at h3
    ·simp at h3
    ·rename_i h5
     rw [if_neg h5];exact kcode_more h h6 h3
  ·rename_i h2
   exact absurd hr h2
theorem vals_two {a b:Vr} (hG:GV a b) {c:Int} (hc:0 <= c/\c < vspan a*vspan b):(valsL [a,b] c).length=2/\envBad (valsL [a,b] c)=false/\(∀ i,i < 2->inB [a,b] (valsL [a,b] c) i)/\codeTo [a,b] (valsL [a,b] c) 2=c:=by
 have hv:=varsOk_of hG.vcode
 have hg:∀ i,i < 2->(valsL [a,b] c).getD i 0=valAt [a,b] c i:=fun i hi=>by
  unfold valsL;rw [List.getD_eq_getElem?_getD,List.getElem?_map,List.getElem?_range (by simpa using hi)];rfl
 have hin:∀ i,i < 2->inB [a,b] (valsL [a,b] c) i:=fun i hi=>by
  unfold inB;rw [hg i hi];exact valAt_in hv c (by simpa using hi)
 refine ⟨by simp [valsL],envBad_ok fun j hj=>?_,hin,?_⟩
 ·have hj2:j < 2:=by simpa [valsL] using hj
  obtain ⟨h1,h2⟩:=hin j hj2;obtain ⟨na,nb,p0,p1,p2,p3,p4,p5,q0,q1,q2,q3,q4,q5⟩:=hG;have hj3:j=0\/j=1:=by omega
  rcases hj3 with rfl | rfl
  ·have h3:a.lo <= (valsL [a,b] c).getD 0 0:=h1
   have h4:(valsL [a,b] c).getD 0 0 <= a.hi:=h2;omega
  ·have h3:b.lo <= (valsL [a,b] c).getD 1 0:=h1
   have h4:(valsL [a,b] c).getD 1 0 <= b.hi:=h2;omega
 ·show (0*vspan a+((valsL [a,b] c).getD 0 0 - a.lo))*vspan b+((valsL [a,b] c).getD 1 0 - b.lo)=c
  rw [hg 0 (by omega),hg 1 (by omega),val_zero hG hc.1 hc.2,val_one]
  rw [show 0*vspan a+(a.lo+c / vspan b - a.lo)=c / vspan b by omega,show b.lo+c % vspan b - b.lo=c % vspan b by omega]
  have:=Int.mul_ediv_add_emod c (vspan b);rw [Int.mul_comm] at this;exact this
section
variable {a b : Vr} {rules : List Ru} {c : Int} (hG : GV a b) (hc : 0 <= c /\ c < vspan a * vspan b) (h5 : rules.length <= 5) (hr : ∀ j, j < rules.length -> rcode 2 (rules.getD j ru0) = 0)
include hG hc h5 hr
end
end Go.Proofs.YtfnobbpbmelgnaaGreatDoor
/-
  Rules that are copied and put together anew: how they lie; literals; operations of a region in whatever order.
-/
namespace Go.Proofs.YtfnobbpbmelgnaaGreatDoor
open Go.ChangeShapes Go.WideShapes Go.ChangeAt Go.RowKit Go.Deep
open Terms Tm
/-- the cells of rules, by their two slices. -/
def ruFlat (l:List (Value × Value)):List Value:=l.flatMap fun p=>[p.1,p.2]
def pr0:Value × Value:=(.nilIface,.nilIface)
set_option maxRecDepth 20000 in
theorem ruFlat_length:∀ l:List (Value × Value),(ruFlat l).length=l.length*2
  | []=>rfl
  | p:: l=>by
    have:ruFlat (p:: l)=[p.1,p.2]++ruFlat l:=rfl
    rw [this,List.length_append,ruFlat_length l];simp;omega
set_option maxRecDepth 20000 in
theorem ruFlat_at:∀ (l:List (Value × Value)) (j:Nat),j < l.length→(ruFlat l)[j*2]? = some (l.getD j pr0).1∧(ruFlat l)[j*2+1]? = some (l.getD j pr0).2
  | [],j,h=>by simp at h
  | p:: l,0,_=>⟨rfl,rfl⟩
  | p:: l,j+1,h=>by
    have:=ruFlat_at l j (by simpa using h)
    rw [show (j+1)*2=j*2+1+1 by omega]
    exact this
/-- each rule's two slices. -/
structure RuPairs (w:World) (l:List (Value × Value)) (rules:List Ru):Prop where
  len:l.length=rules.length
  g:∀ i,i < rules.length→OpsV w (l.getD i pr0).1 (rules.getD i ru0).guard
  s:∀ i,i < rules.length→SetsV w (l.getD i pr0).2 (rules.getD i ru0).sets
set_option maxRecDepth 20000 in
theorem RuPairs.below {w w':World} {l:List (Value × Value)} {rules:List Ru} (h:RuPairs w l rules) (hb:Below w.heap.size w w'):RuPairs w' l rules:=
  ⟨h.len,fun i hi=>(h.g i hi).below hb,fun i hi=>(h.s i hi).below hb⟩
set_option maxRecDepth 20000 in
theorem RuPairs.app {w:World} {l l2:List (Value × Value)} {r r2:List Ru} (h:RuPairs w l r) (h2:RuPairs w l2 r2):RuPairs w (l++l2) (r++r2):=by
  have e:=h.len
  have key:∀ i,i < (r++r2).length→(i < r.length∧(l++l2).getD i pr0=l.getD i pr0∧(r++r2).getD i ru0=r.getD i ru0)∨(∃ k,k < r2.length∧(l++l2).getD i pr0=l2.getD k pr0∧(r++r2).getD i ru0=r2.getD k ru0):=fun i hi=>by
    by_cases hlt:i < r.length
    · left
      refine ⟨hlt,?_,?_⟩
      · rw [List.getD_eq_getElem?_getD,List.getD_eq_getElem?_getD,List.getElem?_append_left (by omega)]
      · rw [List.getD_eq_getElem?_getD,List.getD_eq_getElem?_getD,List.getElem?_append_left hlt]
    · right
      refine ⟨i - r.length,by rw [List.length_append] at hi;omega,?_,?_⟩
      · rw [List.getD_eq_getElem?_getD,List.getD_eq_getElem?_getD,List.getElem?_append_right (by omega),e]
      · rw [List.getD_eq_getElem?_getD,List.getD_eq_getElem?_getD,List.getElem?_append_right (by omega)]
  refine ⟨by rw [List.length_append,List.length_append,h.len,h2.len],fun i hi=>?_,fun i hi=>?_⟩
  · rcases key i hi with ⟨h3,h4,h5⟩ | ⟨k,h3,h4,h5⟩
    · rw [h4,h5];exact h.g i h3
    · rw [h4,h5];exact h2.g k h3
  · rcases key i hi with ⟨h3,h4,h5⟩ | ⟨k,h3,h4,h5⟩
    · rw [h4,h5];exact h.s i h3
    · rw [h4,h5];exact h2.s k h3
set_option maxRecDepth 20000 in
theorem RuPairs.nil (w:World):RuPairs w [] []:=⟨rfl,fun i hi=>by simp at hi,fun i hi=>by simp at hi⟩
set_option maxRecDepth 20000 in
theorem RuPairs.cons {w:World} {x y:Value} {l:List (Value × Value)} {r:Ru} {rs:List Ru} (hg:OpsV w x r.guard) (hs:SetsV w y r.sets) (h:RuPairs w l rs):RuPairs w ((x,y):: l) (r:: rs):=by
  refine ⟨by simp [h.len],fun i hi=>?_,fun i hi=>?_⟩
  · match i,hi with
    | 0,_=>exact hg
    | i+1,hi=>exact h.g i (by simpa using hi)
  · match i,hi with
    | 0,_=>exact hs
    | i+1,hi=>exact h.s i (by simpa using hi)
set_option maxRecDepth 20000 in
theorem ruFlat_app (l l2:List (Value × Value)):ruFlat (l++l2)=ruFlat l++ruFlat l2:=by simp [ruFlat]
set_option maxRecDepth 20000 in
theorem opsV_slice {w:World} {v:Value} {l:List (Int × Int)} (h:OpsV w v l):∃ ao c,v=.slice ao l.length c:=by
  obtain ⟨ao,c,rfl,_⟩:=h;exact ⟨ao,c,rfl⟩
set_option maxRecDepth 20000 in
theorem setsV_slice {w:World} {v:Value} {l:List St} (h:SetsV w v l):∃ ao c,v=.slice ao l.length c:=by
  obtain ⟨ao,c,rfl,_⟩:=h;exact ⟨ao,c,rfl⟩
set_option maxRecDepth 20000 in
theorem RuPairs.one {w:World} {l:List (Value × Value)} {rules:List Ru} (h:RuPairs w l rules):∀ u∈ruFlat l,u.oneCell'=true:=by
  intro u hu
  unfold ruFlat at hu
  obtain ⟨p,hp,hu⟩:=List.mem_flatMap.1 hu
  obtain ⟨i,hi,he⟩:=List.getElem_of_mem hp
  have hg:=h.g i (by rw [← h.len];exact hi)
  have hs:=h.s i (by rw [← h.len];exact hi)
  rw [List.getD_eq_getElem?_getD,List.getElem?_eq_getElem hi] at hg hs
  simp only [Option.getD_some,he] at hg hs
  simp only [List.mem_cons,List.not_mem_nil,or_false] at hu
  rcases hu with rfl | rfl
  · obtain ⟨_,_,e⟩:=opsV_slice hg;rw [e];rfl
  · obtain ⟨_,_,e⟩:=setsV_slice hs;rw [e];rfl
set_option maxRecDepth 20000 in
/-- a model's rules, as their two slices each. -/
theorem rules_pairs {W:World} {ro:Option Addr} {rn rc:Nat} {rules:List Ru} (h:RulesV W (.slice ro rn rc) rules):∃ l,RuPairs W l rules∧rules.length=rn∧(ro=none→rc=0∧rn=0)∧∀ w',Below W.heap.size W w'→∀ ad,ro=some ad→∀ j u,(ruFlat l)[j]? = some u→w'.cell? (ad.add j)=some u:=by
  obtain ⟨ao,cap,e,h1,h2⟩:=h
  injection e with e1 e2 e3
  subst e1 e2 e3
  by_cases hp:0 < rules.length
  · obtain ⟨rb,roff,rfl,hb,hc⟩:=h2 hp
    have hcell:∀ i,i < rules.length→∃ x y,W.cell? ⟨rb,roff+i*2,none⟩=some x∧W.cell? ⟨rb,roff+i*2+1,none⟩=some y∧OpsV W x (rules.getD i ru0).guard∧SetsV W y (rules.getD i ru0).sets:=fun i hi=>by
      obtain ⟨⟨u,h3,h4⟩,u',h5,h6⟩:=hc i hi
      exact ⟨u,u',h3,h5,h4,h6⟩
    let f:Nat→Value × Value:=fun i=>((W.cell? ⟨rb,roff+i*2,none⟩).getD .nilIface,(W.cell? ⟨rb,roff+i*2+1,none⟩).getD .nilIface)
    have hf:∀ i,i < rules.length→((List.range rules.length).map f).getD i pr0=f i:=fun i hi=>by
      rw [List.getD_eq_getElem?_getD,List.getElem?_map,List.getElem?_range hi];rfl
    refine ⟨(List.range rules.length).map f,⟨by simp,fun i hi=>?_,fun i hi=>?_⟩,rfl,(fun h=>by cases h),fun w' hbw ad he j u hj=>?_⟩
    · rw [hf i hi]
      obtain ⟨x,y,h3,h4,h5,h6⟩:=hcell i hi
      show OpsV W ((W.cell? ⟨rb,roff+i*2,none⟩).getD .nilIface) _
      rw [h3];exact h5
    · rw [hf i hi]
      obtain ⟨x,y,h3,h4,h5,h6⟩:=hcell i hi
      show SetsV W ((W.cell? ⟨rb,roff+i*2+1,none⟩).getD .nilIface) _
      rw [h4];exact h6
    · injection he with he
      subst he
      have hjl:j < (ruFlat ((List.range rules.length).map f)).length:=by
        rcases Nat.lt_or_ge j (ruFlat ((List.range rules.length).map f)).length with h | h
        · exact h
        · rw [List.getElem?_eq_none h] at hj;cases hj
      rw [ruFlat_length] at hjl
      have hlen:((List.range rules.length).map f).length=rules.length:=by simp
      have hadd:(⟨rb,roff,none⟩:Addr).add j=⟨rb,roff+j,none⟩:=by simp [Addr.add]
      rw [hadd,hbw.cell (p:=⟨rb,roff+j,none⟩) hb]
      have hk:j / 2 < rules.length:=by omega
      obtain ⟨q1,q2⟩:=ruFlat_at ((List.range rules.length).map f) (j / 2) (by omega)
      obtain ⟨x,y,h3,h4,_,_⟩:=hcell (j / 2) hk
      rw [hf _ hk] at q1 q2
      rcases Nat.mod_two_eq_zero_or_one j with hm | hm
      · have hjj:j / 2*2=j:=by omega
        rw [hjj] at q1 h3
        rw [q1] at hj
        injection hj with hj
        rw [← hj,h3]
        show some x=some ((W.cell? ⟨rb,roff+j / 2*2,none⟩).getD .nilIface)
        rw [hjj,h3];rfl
      · have hjj:j / 2*2+1=j:=by omega
        rw [hjj] at q2
        rw [show roff+j / 2*2+1=roff+j by omega] at h4
        rw [q2] at hj
        injection hj with hj
        rw [← hj,h4]
        show some y=some ((W.cell? ⟨rb,roff+j / 2*2+1,none⟩).getD .nilIface)
        rw [show roff+j / 2*2+1=roff+j by omega,h4];rfl
  · have h0:rules=[]:=List.length_eq_zero_iff.1 (by omega)
    subst h0
    exact ⟨[],RuPairs.nil _,rfl,h1.2,fun w' _ ad _ j u hj=>by simp [ruFlat] at hj⟩
set_option maxRecDepth 20000 in
theorem pairs_rules {w:World} {base n:Nat} {v:Value} {l:List (Value × Value)} {rules:List Ru} (h:w.ownsRow base 57 2 v n (ruFlat l)) (hn:n=rules.length) (hp:RuPairs w l rules):RulesV w v rules:=by
  subst hn
  rcases h.2 with ⟨rfl,h0⟩ | ⟨g,cap,cur,rfl,hb,hg,hnc,hcm,hcs,htake⟩
  · exact ⟨none,0,by rw [h0],⟨by omega,fun _=>⟨rfl,h0⟩⟩,fun h=>by omega⟩
  · refine ⟨_,cap,rfl,⟨hnc,fun h=>by simp at h⟩,fun _=>⟨g,0,rfl,(Array.getElem?_eq_some_iff.1 hg).1,fun i hi=>?_⟩⟩
    obtain ⟨f0,f1⟩:=ruFlat_at l i (by rw [hp.len];exact hi)
    refine ⟨⟨_,?_,hp.g i hi⟩,_,?_,hp.s i hi⟩
    · rw [Nat.zero_add,h.cellAt _ (by omega)];exact f0
    · rw [Nat.zero_add,h.cellAt _ (by omega)];exact f1

set_option maxRecDepth 20000 in
/-- an op that is written out. -/
theorem ops_lit {w:World} {g:Nat} {k x:Int} {t:TypeId} {fr:Nat × Nat} (h:w.heap[g]? = some (.cells #[.int .i64 k,.int .i64 x] t fr)):OpsV w (.slice (some ⟨g,0,none⟩) 1 1) [(k,x)]:=by
  have hlt:g < w.heap.size:=(Array.getElem?_eq_some_iff.1 h).1
  refine ⟨_,1,rfl,⟨by simp,fun e=>by cases e⟩,fun _=>⟨g,0,rfl,hlt,fun i hi=>?_⟩⟩
  have h0:i=0:=by simp at hi;omega
  subst h0
  constructor
  · simp [World.cell?,h]
  · simp [World.cell?,h]
set_option maxRecDepth 20000 in
theorem sets_nil (w:World):SetsV w (.slice none 0 0) []:=⟨none,0,rfl,⟨by simp,fun _=>⟨rfl,rfl⟩⟩,fun h=>by simp at h⟩
set_option maxRecDepth 20000 in
theorem sets_one {w:World} {g:Nat} {i:Int} {v:Value} {l:List (Int × Int)} {t:TypeId} {fr:Nat × Nat} (h:w.heap[g]? = some (.cells #[.int .i64 i,v] t fr)) (hv:OpsV w v l):SetsV w (.slice (some ⟨g,0,none⟩) 1 1) [⟨i,l⟩]:=by
  have hlt:g < w.heap.size:=(Array.getElem?_eq_some_iff.1 h).1
  refine ⟨_,1,rfl,⟨by simp,fun e=>by cases e⟩,fun _=>⟨g,0,rfl,hlt,fun j hj=>?_⟩⟩
  have h0:j=0:=by simp at hj;omega
  subst h0
  exact ⟨by simp [World.cell?,h],v,by simp [World.cell?,h],hv⟩
set_option maxRecDepth 20000 in
theorem sets_two {w:World} {g:Nat} {i j:Int} {v u:Value} {l k:List (Int × Int)} {t:TypeId} {fr:Nat × Nat} (h:w.heap[g]? = some (.cells #[.int .i64 i,v,.int .i64 j,u] t fr)) (hv:OpsV w v l) (hu:OpsV w u k):SetsV w (.slice (some ⟨g,0,none⟩) 2 2) [⟨i,l⟩,⟨j,k⟩]:=by
  have hlt:g < w.heap.size:=(Array.getElem?_eq_some_iff.1 h).1
  refine ⟨_,2,rfl,⟨by simp,fun e=>by cases e⟩,fun _=>⟨g,0,rfl,hlt,fun n hn=>?_⟩⟩
  have h0:n=0∨n=1:=by simp at hn;omega
  rcases h0 with rfl | rfl
  · exact ⟨by simp [World.cell?,h],v,by simp [World.cell?,h],hv⟩
  · exact ⟨by simp [World.cell?,h],u,by simp [World.cell?,h],hu⟩
set_option maxRecDepth 20000 in
theorem heap_keep (w:World) (o:Obj) {b:Nat} {x:Obj} (h:w.heap[b]? = some x):(w.alloc o).heap[b]? = some x:=
  (Below.heap_alloc w o b (Array.getElem?_eq_some_iff.1 h).1).trans h
set_option maxRecDepth 20000 in
theorem heap_grown {u w:World} {row:Option Nat} (hg:u.grownBy w row) {b:Nat} {x:Obj} (h:u.heap[b]? = some x) (hne:row≠some b):w.heap[b]? = some x:=
  (hg.block b (Array.getElem?_eq_some_iff.1 h).1 (fun e=>hne e.symm)).trans h
end Go.Proofs.YtfnobbpbmelgnaaGreatDoor
namespace Go.Proofs.YtfnobbpbmelgnaaGreatDoor
open Go.ChangeShapes Go.WideShapes Go.ChangeAt Go.RowKit Go.Deep
set_option maxHeartbeats 6400000
set_option maxRecDepth 20000
end Go.Proofs.YtfnobbpbmelgnaaGreatDoor
namespace Go.Proofs.YtfnobbpbmelgnaaGreatDoor
open Go.ChangeShapes Go.WideShapes Go.ChangeAt Go.RowKit Go.Deep
open Terms Tm
set_option maxHeartbeats 6400000
set_option maxRecDepth 20000
theorem taskR_any (c0 c1 c2 c3 c4 c5 c6:Value) (a b:Vr) (rules:List Ru) (rawv:Value) (rs:List (Int × Int)) (tempo:Nat) (w:World) (hG:GV a b) (ht:tempo <= 6) (hR:Raws w w.heap.size rawv rs)
  (hmd:∀ w',Below w.heap.size w w'->Calls Tryz.prog 12 #[.agg #[c0,c1,c2,c3,c4,c5,c6]] w' fun e w2=>∃ va vr,e=.returned (.agg #[va,vr])/\Below w'.heap.size w' w2/\GModelR w2 va vr [a,b] rules) :
  Calls Tryz.prog 6 #[.agg #[c0,c1,c2,c3,c4,c5,c6],rawv,.int .i64 (tempo:Int)] w fun e w'=>∃ ao ac ro rn rc pb fo fn fc l T mm,e=.returned (.agg #[.slice ao 2 ac,.slice ro rn rc,.slice (some ⟨pb,0,none⟩) 3 3,.slice fo fn fc])/\Below w.heap.size w w'/\Hid (TaskV w' (.slice ao 2 ac) (.slice ro rn rc) (.slice (some ⟨pb,0,none⟩) 3 3) (.slice fo fn fc) ⟨[a,b],rules⟩ propsL l)/\Hid ((mcode ⟨[a,b],rules⟩=0/\rules.length <= 5/\∀ j,j < rules.length->rcode 2 (rules.getD j ru0)=0)/\FOk mm l T/\l.length=fn/\l≠[])/\mm <= tempo/\fn <= 17:=by
 have HMd:Hid (∀ w',Below w.heap.size w w'->Calls Tryz.prog 12 #[.agg #[c0,c1,c2,c3,c4,c5,c6]] w' fun e w2=>∃ ao ac ro rn rc,e=.returned (.agg #[.slice ao 2 ac,.slice ro rn rc])/\Below w'.heap.size w' w2/\Hid (ModelV w2 (.slice ao 2 ac) (.slice ro rn rc) ⟨[a,b],rules⟩/\(mcode ⟨[a,b],rules⟩=0/\rules.length <= 5/\∀ j,j < rules.length->rcode 2 (rules.getD j ru0)=0)/\True/\∀ j,j < rules.length->(rules.getD j ru0).guard≠[])):=fun w' h=>(hmd w' h).mono fun e w2 ⟨va,vr,h1,h2,h3⟩=>by
  obtain ⟨ao,ac,ro,rn,rc,rfl,rfl,_⟩:=h3.gm.shape;obtain ⟨g1,g2,g3⟩:=h3;exact ⟨ao,ac,ro,rn,rc,h1,h2,g1,⟨hG.mcode (by omega) g3,g2,g3⟩,trivial,fun j hj=>rcode_guard (g3 j hj)⟩
 have HPr:Hid (∀ w',Calls Tryz.prog 13 #[] w' fun e w2=>∃ pb,e=.returned (.slice (some ⟨pb,0,none⟩) 3 3)/\Below w'.heap.size w' w2/\Hid (TermsV w2 (.slice (some ⟨pb,0,none⟩) 3 3) propsL)):=fun w'=>(propsFn_any w').mono fun e w2 ⟨pb,h1,h2,h3⟩=>⟨pb,h1,h2,h3⟩
 have HFo:Hid (∀ w',Below w.heap.size w w'->Calls Tryz.prog 14 #[rawv,.int .i64 3,.int .i64 (tempo:Int)] w' fun e w2=>∃ fo fn fc l T mm,e=.returned (.slice fo fn fc)/\mm <= tempo/\fn <= 17/\Below w'.heap.size w' w2/\Hid (OpsV w2 (.slice fo fn fc) l/\FOk mm l T/\l.length=fn/\l≠[])):=fun w' h=>(formulaFn_any rawv rs 3 tempo w' (by decide) (by decide) (by omega) (hR.up h)).mono fun e w2 ⟨fo,fc,l,mm,h1,h2,h3,h4,h5,h6⟩=>by
  obtain ⟨T,hT⟩:=h2.ok;exact ⟨fo,l.length,fc,l,T,mm,h1,h3,h4,h6,h5,hT,rfl,h2.ne⟩
 obtain ⟨ra,rn0,rc0,hra⟩:∃ a n c,rawv=.slice a n c:=by obtain ⟨⟨a,c,h,_⟩,_,_⟩:=hR;exact ⟨_,_,_,h⟩
 subst hra;clear hmd hR;obtain ⟨W1,hW1⟩:∃ W1,W1=(w.alloc (.cells #[c0,c1,c2,c3,c4,c5,c6] 25)).alloc (.cells #[.slice none 0 0,.slice none 0 0,.slice none 0 0,.slice none 0 0] 34):=⟨_,rfl⟩
 have hb1:Below w.heap.size w W1:=by rw [hW1];exact ((Below.refl _ _).alloc (Nat.le_refl _) _).alloc (by simp) _
 have hmo:=HMd.out W1 hb1
 have HBx:Hid (∀ w',Below (w.heap.size+2) W1 w'->(w'.cell? ⟨w.heap.size+1,0,none⟩=some (.slice none 0 0)/\w'.cell? ⟨w.heap.size+1,1,none⟩=some (.slice none 0 0)/\w'.cell? ⟨w.heap.size+1,2,none⟩=some (.slice none 0 0)/\w'.cell? ⟨w.heap.size+1,3,none⟩=some (.slice none 0 0))/\(w'.frozen? ⟨w.heap.size+1,0,none⟩=false/\w'.frozen? ⟨w.heap.size+1,1,none⟩=false/\w'.frozen? ⟨w.heap.size+1,2,none⟩=false/\w'.frozen? ⟨w.heap.size+1,3,none⟩=false)):=fun w' h=>by
  have hlt:w.heap.size+1 < w.heap.size+2:=by omega
  refine ⟨⟨?_,?_,?_,?_⟩,?_,?_,?_,?_⟩
  ·exact (h.cell (p:=⟨w.heap.size+1,0,none⟩) hlt).trans (by rw [hW1];simp [go_sem])
  ·exact (h.cell (p:=⟨w.heap.size+1,1,none⟩) hlt).trans (by rw [hW1];simp [go_sem])
  ·exact (h.cell (p:=⟨w.heap.size+1,2,none⟩) hlt).trans (by rw [hW1];simp [go_sem])
  ·exact (h.cell (p:=⟨w.heap.size+1,3,none⟩) hlt).trans (by rw [hW1];simp [go_sem])
  ·exact (h.frozen (p:=⟨w.heap.size+1,0,none⟩) hlt).trans (by rw [hW1];simp [go_sem])
  ·exact (h.frozen (p:=⟨w.heap.size+1,1,none⟩) hlt).trans (by rw [hW1];simp [go_sem])
  ·exact (h.frozen (p:=⟨w.heap.size+1,2,none⟩) hlt).trans (by rw [hW1];simp [go_sem])
  ·exact (h.frozen (p:=⟨w.heap.size+1,3,none⟩) hlt).trans (by rw [hW1];simp [go_sem])
 have hz1:W1.heap.size=w.heap.size+2:=by rw [hW1];simp
 subst hW1
 go_enter Tryz.func6,Tryz.ntmps6
 go_wp2_with (first
  | (go_at_call 12;refine hmo.mono ?_;rintro e w2 ⟨ao,ac,ro,rn,rc,rfl,hb2,HM⟩;have hbw2:=hb1.trans (hb2.mono hb1.size);have hpr:=HPr.out w2)
  | (go_at_call 13;refine hpr.mono ?_;rintro e w3 ⟨pb,rfl,hb3,HP⟩;have hbw3:=hbw2.trans (hb3.mono hbw2.size);have hfo:=HFo.out w3 hbw3)
  | (go_at_call 14;refine hfo.mono ?_;rintro e w4 ⟨fo,fn,fc,l,T,mm,rfl,hmm,hfn,hb4,HF⟩;have hbw4:=hbw3.trans (hb4.mono hbw3.size);have hb24:=(hb2.trans (hb3.mono hb2.size)).trans (hb4.mono (Nat.le_trans hb2.size hb3.size));obtain ⟨⟨k0,k1,k2,k3⟩,g0,g1,g2,g3⟩:=HBx.out w4 (hb24.mono (by omega))))
 have hn:NilTo (w.heap.size+1) w4 ((((w4.setCell ⟨w.heap.size+1,0,none⟩ (.slice ao 2 ac)).setCell ⟨w.heap.size+1,1,none⟩ (.slice ro rn rc)).setCell ⟨w.heap.size+1,2,none⟩ (.slice (some ⟨pb,0,none⟩) 3 3)).setCell ⟨w.heap.size+1,3,none⟩ (.slice fo fn fc)):=by
  refine ⟨by simp,fun i v hv=>?_,fun b hb=>?_⟩
  ·have hblk:=(hb24.mono (show w.heap.size+2 <= _ by omega)).block (w.heap.size+1) (by omega)
   have hx:((w.alloc (.cells #[c0,c1,c2,c3,c4,c5,c6] 25)).alloc (.cells #[.slice none 0 0,.slice none 0 0,.slice none 0 0,.slice none 0 0] 34)).cell? ⟨w.heap.size+1,i,none⟩=some v:=by rw [<- hv];exact (World.cell?_of_block hblk).symm
   have hy:=(MapKept.heap_alloc (w.alloc (.cells #[c0,c1,c2,c3,c4,c5,c6] 25)) (.cells #[.slice none 0 0,.slice none 0 0,.slice none 0 0,.slice none 0 0] 34)).1;rw [World.size_alloc] at hy;simp only [World.cell?,hy] at hx
   have hi:i < 4:=by
    rcases Nat.lt_or_ge i 4 with h | h
    ·exact h
    ·simp [Array.getElem?_eq_none (show (#[Value.slice none 0 0,.slice none 0 0,.slice none 0 0,.slice none 0 0]:Array Value).size <= i from h)] at hx
   rcases (show i=0\/i=1\/i=2\/i=3 by omega) with rfl | rfl | rfl | rfl <;> simpa using hx.symm
  ·rw [RowKit.Below.heap_setCell _ _ _ _ hb,RowKit.Below.heap_setCell _ _ _ _ hb,RowKit.Below.heap_setCell _ _ _ _ hb,RowKit.Below.heap_setCell _ _ _ _ hb]
 obtain ⟨m1,m2,_,m4⟩:=HM.out;obtain ⟨f1,f2,f3,f4⟩:=HF.out;have hb34:Below w2.heap.size w2 w4:=hb3.trans (hb4.mono hb3.size)
 refine bodyPost_ret (v:=.agg #[.slice ao 2 ac,.slice ro rn rc,.slice (some ⟨pb,0,none⟩) 3 3,.slice fo fn fc]) ?_ rfl ⟨ao,ac,ro,rn,rc,pb,fo,fn,fc,l,T,mm,rfl,(((hbw4.setCell (p:=⟨w.heap.size+1,0,none⟩) (by simp) _).setCell (p:=⟨w.heap.size+1,1,none⟩) (by simp) _).setCell (p:=⟨w.heap.size+1,2,none⟩) (by simp) _).setCell (p:=⟨w.heap.size+1,3,none⟩) (by simp) _,⟨⟨(m1.1.below hb34).nilTo hn,(m1.2.below hb34).nilTo m4 hn⟩,(HP.out.below hb4).nilTo (fun j hj=>?_) hn,f1.nilTo hn⟩,⟨m2,f2,f3,f4⟩,hmm,hfn⟩
 ·simp [results,Tryz.results6,go_sem,k0,k1,k2,k3]
 ·have hj3:j < 3:=hj
  rcases (show j=0\/j=1\/j=2 by omega) with rfl | rfl | rfl <;> simp [propsL]
end Go.Proofs.YtfnobbpbmelgnaaGreatDoor
namespace Go.Proofs.YtfnobbpbmelgnaaGreatDoor
open Go.ChangeShapes Go.WideShapes Go.ChangeAt Go.RowKit Go.Deep
open Terms
set_option maxHeartbeats 6400000
set_option maxRecDepth 20000
theorem cell_later {w w':World} (hb:Below w.heap.size w w') {p:Addr} {x:Value} (h:w.cell? p=some x):w'.cell? p=some x:=(hb.cell (World.block_lt_of_cell? w p h)).trans h
section
variable {o : Oper} {a : Act} {w : World} {Q : Exit -> Act -> World -> Prop}
end
end Go.Proofs.YtfnobbpbmelgnaaGreatDoor
namespace Go.Proofs.YtfnobbpbmelgnaaGreatDoor
open Go.ChangeShapes Go.WideShapes Go.ChangeAt Go.RowKit Go.Deep Go.Maps
open Terms Tm
set_option maxHeartbeats 6400000
set_option maxRecDepth 20000
def tkB (va vr pv fv:Value):Obj:=.cells #[va,vr,pv,fv] 34 (0,0)
theorem tkB_cells {w:World} {X:Nat} {va vr pv fv:Value} (hb:w.heap[X]? = some (tkB va vr pv fv)):w.cell? ⟨X,0,none⟩=some va/\w.cell? ⟨X,1,none⟩=some vr/\w.cell? ⟨X,2,none⟩=some pv/\w.cell? ⟨X,3,none⟩=some fv:=by
 unfold tkB at hb;refine ⟨?_,?_,?_,?_⟩ <;> simp [World.cell?,hb]
theorem tkB_free {w:World} {X:Nat} {va vr pv fv:Value} (hb:w.heap[X]? = some (tkB va vr pv fv)) (i:Nat):w.frozen? ⟨X,i,none⟩=false:=by
 unfold tkB at hb;simp [World.frozen?,hb]
section
variable {w1 wx w' : World} {X : Nat} {va vr pv : Value} {fo : Option Addr} {fn fc : Nat} {m : Mo} {l : List (Int × Int)}
end
end Go.Proofs.YtfnobbpbmelgnaaGreatDoor
namespace Go.Proofs.YtfnobbpbmelgnaaGreatDoor
open Go.ChangeShapes Go.WideShapes Go.ChangeAt Go.RowKit Go.Deep
set_option maxHeartbeats 6400000
set_option maxRecDepth 20000
structure EarlyE (ops:Array Oper) (m e:Nat) (J:Bool->World->Prop) (post:Nat->Value->World->Prop) (l:Array Bool) (q:Nat->Value) (w:World):Prop where
 size:l.size=ops.size
 later:∀ i,m <= i->¬ doneAt l i
 closed:∀ i k,doneAt l i->waits ops i k=true->doneAt l k
 inv:∀ b:Bool,(b=true↔doneAt l e)->J b w
 posts:∀ i t,i < m->doneAt l i->dstOf ops i=some t->post i (q t) w
theorem wp_anywayE {P:Program} {id:Nat} {ops:Array Oper} {Q:Exit->Act->World->Prop} {a0:Act} {w0:World} (hmo:P.follows .mixedOrders=true) (ds:List Nat) (m e:Nat) (he:e < m) (J:Bool->World->Prop) (post:Nat->Value->World->Prop)
    (hsh:shapeOk ops ds a0.tmps.size m=true)
    (start:J false { w0 with drawn:=w0.drawn+1})
    (step:∀ (i:Nat) (o:Oper),i < m->ops[i]? = some o->∀ q w b,(i=e->b=false)->J b w->(∀ k t,waits ops i k=true->dstOf ops k=some t->post k (q t) w)->Oper.wp P o (frm a0 ds q) w (fun a' w'=>∃ v,a'=(frm a0 ds q).put o.dst v/\J (b||decide (i=e)) w'/\(∀ j x,j < m->j≠i->post j x w->post j x w')/\post i v w') Q)
    (last:∀ q w,J true w->(∀ i t,i < m->dstOf ops i=some t->post i (q t) w)->wpOps P ops Q ((List.range' m (ops.size - m))) (frm a0 ds q) w) :
    (Code.region id ops true).wp P Q a0 w0:=by
  have hs:=shape_of hsh;refine wp_region_any hmo ?_
  refine wpAny_invA (fun k l a w=>k=leftA l/\((∃ q,a=frm a0 ds q/\EarlyE ops m e J post l q w)\/(l.size=ops.size/\∃ j,m <= j/\j <= ops.size/\(∀ i,doneAt l i↔i < j)/\wpOps P ops Q (List.range' j (ops.size - j)) a w))) ?_ _ _ _ _ ⟨?_,.inl ⟨_,(frm_start a0 ds).symm,?_⟩⟩
  · rintro k l a w ⟨hk,hI⟩
    have hlsz:l.size=ops.size:=hI.elim (fun ⟨_,_,hE⟩=>hE.size) (fun ⟨h,_⟩=>h)
    refine ⟨fun hr=>?_,fun h0=>?_,fun k' hk' i hi=>?_⟩
    · rcases hI with ⟨q,rfl,hE⟩ | ⟨_,j,hj1,hj2,hd,hw⟩
      · exact absurd hr (ready_early hs hE.size hs.lt (hE.later m (Nat.le_refl _)))
      · by_cases hjs:j=ops.size
        · subst hjs
          rw [Nat.sub_self] at hw;exact hw
        · exact absurd hr (ready_early hs hlsz (j:=j) (by omega) (fun h=>by have:=(hd j).1 h;omega))
    · cases hr:Region.ready .any ops l with
      | nil=>rfl
      | cons x xs=>
        have hx:=(ready_iff hlsz (i:=x)).1 (by rw [hr];exact List.mem_cons_self)
        exact absurd (left_zeroA (by omega) (by omega)) hx.2.1
    · obtain ⟨h1,h2,h3⟩:=(ready_iff hlsz).1 hi
      have ho:ops[i]? = some ops[i]:=Array.getElem?_eq_getElem h1
      have hgd:=hs.guard i _ ho;have hleft:=left_setA (by omega:i < l.size) h2
      have late:∀ (j:Nat) (a:Act) (w:World),m <= j->j <= ops.size->(∀ i,doneAt l i↔i < j)->wpOps P ops Q (List.range' j (ops.size - j)) a w->wpOp P ops Q i (fun a' w'=>k'=leftA (l.setIfInBounds i true)/\((∃ q,a'=frm a0 ds q/\EarlyE ops m e J post (l.setIfInBounds i true) q w')\/((l.setIfInBounds i true).size=ops.size/\∃ j,m <= j/\j <= ops.size/\(∀ i',doneAt (l.setIfInBounds i true) i'↔i' < j)/\wpOps P ops Q (List.range' j (ops.size - j)) a' w'))) a w:=by
        intro j a w hj1 hj2 hd hw
        have hij:i=j:=by
          have hge:j <= i:=by
            rcases Nat.lt_or_ge i j with h | h
            · exact absurd ((hd i).2 h) h2
            · exact h
          rcases Nat.lt_or_ge j i with h | h
          · rcases hs.late i j (by omega) h1 h with h4 | h4
            · omega
            · have:=(hd j).1 (h3 j h4);omega
          · omega
        subst hij;rw [show ops.size - i=(ops.size - (i+1))+1 by omega,List.range'_succ,wpOps_cons] at hw
        refine wpOp_mono (fun a' w' h'=>⟨by omega,.inr ⟨by rw [Array.size_setIfInBounds];exact hlsz,i+1,by omega,by omega,fun i'=>?_,h'⟩⟩) hw
        rw [done_set (by omega),hd]
        omega
      rcases hI with ⟨q,rfl,hE⟩ | ⟨_,j,hj1,hj2,hd,hw⟩
      · by_cases him:i < m
        · obtain ⟨t,ht,hdt,hts,hne⟩:=hs.dst i _ him ho
          obtain ⟨bd,hbd⟩:∃ bd:Bool,bd=true↔doneAt l e:=by
            by_cases hx:doneAt l e
            · exact ⟨true,⟨fun _=>hx,fun _=>rfl⟩⟩
            · exact ⟨false,⟨(fun h=>by cases h),fun h=>absurd h hx⟩⟩
          have hst:=step i _ him ho q w bd (fun hie=>by
            cases bd with
            | false=>rfl
            | true=>exact absurd (hie ▸ hbd.1 rfl) h2) (hE.inv bd hbd) (fun k t' hk ht'=>by
            have hkd:=h3 k hk
            have hkm:k < m:=by
              rcases Nat.lt_or_ge k m with h | h
              · exact h
              · exact absurd hkd (hE.later k h)
            exact hE.posts k t' hkm hkd ht')
          unfold wpOp;rw [ho]
          show if Region.wanted ops[i] (yielded ops (frm a0 ds q).tmps)=true then _ else _
          rw [if_pos (by unfold Region.wanted;rw [hgd])]
          refine .inl (Oper.wp_mono ?_ hst)
          rintro a' w' ⟨v,rfl,hb,hsta,hp⟩
          rw [ht,frm_put hdt];refine ⟨by omega,.inl ⟨_,rfl,⟨by rw [Array.size_setIfInBounds];exact hlsz,fun i' hi' hd'=>?_,fun i' k0 hd' hk0=>?_,fun b' hb'=>?_,fun i' t' hi' hd' ht'=>?_⟩⟩⟩
          · rcases (done_set (by omega)).1 hd' with h | h
            · omega
            · exact hE.later i' hi' h
          · rw [done_set (by omega)]
            rcases (done_set (by omega)).1 hd' with h | h
            · subst h;exact .inr (h3 k0 hk0)
            · exact .inr (hE.closed i' k0 h hk0)
          · have hbb:b'=(bd||decide (i=e)):=by
              rw [done_set (by omega)] at hb'
              apply Bool.eq_iff_iff.2
              rw [hb',Bool.or_eq_true,decide_eq_true_eq,hbd]
              constructor
              · rintro (h | h)
                · exact .inr h.symm
                · exact .inl h
              · rintro (h | h)
                · exact .inr h
                · exact .inl h.symm
            rw [hbb];exact hb
          · by_cases hii:i'=i
            · subst hii
              have:t'=t:=by
                unfold dstOf at ht';rw [ho] at ht';exact Option.some.inj (ht'.symm.trans ht)
              subst this;rw [setV_same];exact hp
            · rcases (done_set (by omega)).1 hd' with h | h
              · exact absurd h hii
              · rw [setV_other (fun e=>hne i' hi' hii (by rw [ht',e]))]
                exact hsta i' _ hi' hii (hE.posts i' t' hi' h ht')
        · have him2:i=m:=by
            rcases Nat.lt_or_ge m i with h | h
            · rcases hs.late i m (by omega) h1 h with h4 | h4
              · omega
              · exact absurd (h3 m h4) (hE.later m (Nat.le_refl _))
            · omega
          subst him2;have hall:=all_early hs hE.closed h3
          exact late i _ w (Nat.le_refl _) (by omega) (fun i'=>⟨fun h=>by
            rcases Nat.lt_or_ge i' i with h' | h'
            · exact h'
            · exact absurd h (hE.later i' h'),fun h=>hall i' h⟩) (last q w (hE.inv true ⟨fun _=>hall e he,fun _=>rfl⟩) fun i' t' hi' ht'=>hE.posts i' t' hi' (hall i' hi') ht')
      · exact late j a w hj1 hj2 hd hw
  · unfold leftA
    simp
  · have hnd:∀ i,¬ doneAt (Array.replicate ops.size false) i:=fun i h=>by
      unfold doneAt at h;rw [Array.getElem?_replicate] at h
      split at h <;> cases h
    exact ⟨by simp,fun i _=>hnd i,fun i _ h=>absurd h (hnd i),(fun b hb=>by
      cases b with
      | false=>exact start
      | true=>exact absurd (hb.1 rfl) (hnd e)),fun i _ _ h=>absurd h (hnd i)⟩
