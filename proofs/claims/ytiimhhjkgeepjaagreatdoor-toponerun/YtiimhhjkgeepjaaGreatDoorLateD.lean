/- Joined texts. -/
import Derived.Test.YtiimhhjkgeepjaaGreatDoorLateC
import Derived.Deep.Cut
import Derived.Deep.CutBlock
import Derived.Deep.CutRange
import Derived.Deep.DeepCutAuto
namespace Go.Proofs.YtiimhhjkgeepjaaGreatDoor
open Go.ChangeShapes Go.WideShapes Go.ChangeAt Go.RowKit Go.Deep Go.Maps
open Terms Tm
set_option maxHeartbeats 6400000
set_option maxRecDepth 20000
def zPS (w:World) (base A lm:Nat) (S:List (Int × Int)) (N:List (List Int)) (T:List Int) (init many:Int) (sv nv tv:Value) (l:List (Int × Int)) (e:Ending) (w':World):Prop:=
 e=.returned (.slice (some ⟨w.heap.size,0,none⟩) l.length l.length)/\∃ sv',AtX w' base A lm (zAb S l) N T init many sv' nv tv/\zAD w' (.slice (some ⟨w.heap.size,0,none⟩) l.length l.length) (zDj S l)/\zAe w' (.slice (some ⟨w.heap.size,0,none⟩) l.length l.length) 3/\Chg (atZ A lm sv) w w'/\(sv'.ownBlock=sv.ownBlock\/∃ g,sv'.ownBlock=some g/\w.heap.size <= g)
theorem zIF (w:World) (base A lm:Nat) (S:List (Int × Int)) (N:List (List Int)) (T:List Int) (init many:Int) (sv nv tv:Value) (l:List (Int × Int)) (so:Option Addr) (sc:Nat) (hX:AtX w base A lm S N T init many sv nv tv) (hl:SpV w (.slice so l.length sc) l) (hsep:∀ a,so=some a->¬ atZ A lm sv a.block) (hI:∀ j,j < l.length->zEG (l.getD j (0,0))) (hz:S.length+l.length <= 1000000000) :
    Calls Tryz.prog 53 #[.pointer (some ⟨A,0,none⟩),.slice so l.length sc] w (zPS w base A lm S N T init many sv nv tv l):=by
  obtain ⟨n,hn⟩:∃ n,l.length=n:=⟨_,rfl⟩
  have HN:Hid (l.length=n):=hn;have HXt:Hid (AtX w base A lm S N T init many sv nv tv):=hX;have HI:Hid (∀ j,j < n->zEG (l.getD j (0,0))):=fun j hj=>hI j (by omega)
  have HLs:Hid (∀ wr,Chg (atZ A lm sv) w wr->SpV wr (.slice so n sc) l):=fun wr h=>by have:=hl.chg h hsep;rw [hn] at this;exact this
  have HSz:Hid (∀ k,(zAb S (l.take k)).length <= S.length+n):=fun k=>by
    have:=(zD3 (l.take k) S).2;have h2:(l.take k).length <= l.length:=by rw [List.length_take];omega
    show _ <= _
    omega
  unfold zPS;rw [hn];have hnz:S.length+n <= 1000000000:=by omega
  clear hX hl hsep hI hz hn;have hmk:=run_make_row' (P:=Tryz.prog) 37 3 (.int .i64 0) 8 Tryz.underlying37 zA8 rfl .i64 .i64 n (by omega) (by omega)
  have HS0:Hid (∀ W0,W0=w.alloc (.cells (madeCells #[.int .i64 0] n) 3)->PlB w W0 base A lm w.heap.size n (zAb S (l.take 0)) (zAb S (l.take 0)) sv sv sv nv tv init many (fun j=>.int .i64 (if j < 0 then (((zAb S l).idxOf (l.getD j (0,0)):Nat):Int) else 0))):=fun W0 e=>by
    subst e;have hb:Below w.heap.size w (w.alloc (.cells (madeCells #[.int .i64 0] n) 3)):=(Below.refl _ _).alloc (Nat.le_refl _) _;have hx:=HXt.out.below hb;exact ⟨hx.box,hx.lies,hx.sp,(World.rowIs_made w (.int .i64 0) n 3).congr (fun j _=>by simp),Chg.of hb,.inl rfl,Nat.le_refl _⟩
  go_enter Tryz.func53,Tryz.ntmps53
  go_wp2_with fail
  go_loopw [15] (fun i wr=>∃ k:Nat,k <= n/\i=.int .i64 k/\∃ svk,Hid (PlB w wr base A lm w.heap.size n (zAb S (l.take k)) (zAb S (l.take k)) sv svk svk nv tv init many (fun j=>.int .i64 (if j < k then (((zAb S l).idxOf (l.getD j (0,0)):Nat):Int) else 0)))) (fun i _=>n - (intOf i).toNat)
  case atStart=>exact ⟨0,Nat.zero_le _,rfl,sv,HS0.out _ rfl⟩
  case round=>
    obtain ⟨k,hk,rfl,svk,HA⟩:=hrel
    by_cases hlt:k < n
    · have hlt2:k < l.length:=by rw [HN.out];exact hlt
      obtain ⟨b,off,rfl,hbl,c0,c1⟩:=(HLs.out wr HA.out.chg).get hlt2;have hki:(k:Int) < (n:Int):=by omega
      have hIk:=HI.out k hlt;have HT:=(show Hid _ from zGj (S:=S) hlt2)
      have HD:=(show Hid _ from zPr (S:=S) hlt2)
      have hSz:=HSz.out k
      have HRow:Hid (∀ ix:Nat,(zAb S l).idxOf (l.getD k (0,0))=ix->∀ j:Nat,(if j=k then Value.int .i64 (ix:Nat) else .int .i64 (if j < k then (((zAb S l).idxOf (l.getD j (0,0)):Nat):Int) else 0))=.int .i64 (if j < k+1 then (((zAb S l).idxOf (l.getD j (0,0)):Nat):Int) else 0)):=fun ix e j=>by
        by_cases h:j=k
        · subst h
          rw [if_pos rfl,if_pos (Nat.lt_succ_self _),e]
        · rw [if_neg h]
          by_cases h1:j < k
          · rw [if_pos h1,if_pos (by omega)]
          · rw [if_neg h1,if_neg (by omega)]
      generalize hSk:zAb S (l.take k)=Sk at *;generalize hp:l.getD k (0,0)=p at *;obtain ⟨x,y⟩:=p;simp only at c0 c1
      obtain ⟨vo,vc,rfl⟩:=HA.out.sp.shape;have hal:Below wr.heap.size wr (wr.alloc (.cells #[.int .i64 x,.int .i64 y] 133)):=(Below.refl _ _).alloc (Nat.le_refl _) _
      have HAd:Hid (∀ w2,Below wr.heap.size wr w2->PlB w w2 base A lm w.heap.size n Sk Sk sv (.slice vo Sk.length vc) (.slice vo Sk.length vc) nv tv init many (fun j=>.int .i64 (if j < k then (((zAb S l).idxOf (l.getD j (0,0)):Nat):Int) else 0))):=fun w2 h=>HA.out.below h
      obtain ⟨q0,q1,q2,q3,q4,q5⟩:=zBl (HAd.out _ hal).box;have s0:(wr.alloc (.cells #[.int .i64 x,.int .i64 y] 133)).cell? ⟨wr.heap.size,0,none⟩=some (.int .i64 x):=by simp [go_sem]
      have s1:(wr.alloc (.cells #[.int .i64 x,.int .i64 y] 133)).cell? ⟨wr.heap.size,1,none⟩=some (.int .i64 y):=by simp [go_sem]
      have hlk:=(HAd.out _ hal.drew).lies.look hIk;unfold zFw at hlk;simp only at hlk
      by_cases hmem:(x,y)∈Sk
      · rw [if_pos hmem,decide_eq_true hmem] at hlk
        have HV:Hid (((zAb S l).idxOf (x,y):Nat)=Sk.idxOf (x,y)):=by show _=_;rw [HD.out,zKj hmem]
        have HT2:Hid (zAb S (l.take (k+1))=Sk):=by show _=_;rw [HT.out,zKj hmem]
        generalize Sk.idxOf (x,y)=ix at *;generalize hW1:wr.alloc (.cells #[.int .i64 x,.int .i64 y] 133)=W1 at *
        go_upto_region 5 with fail
        go_cut [8,9] (fun u8 u9 wx=>u8=.int .i64 (ix:Nat)/\u9=.bool true/\wx=W1.drew)
        case first=>
          go_region_law (fail)
          all_goals go_wp2_with fail
          all_goals go_meet
          all_goals exact ⟨rfl,rfl,rfl⟩
        case rest=>
          obtain ⟨rfl,rfl,rfl⟩:=hcut;have hA6:=HAd.out _ hal.drew;have f0:=hA6.row.cell hlt;have f1:=hA6.row.frozen k;have HA7:=(show Hid _ from hA6.setR k (.int .i64 (ix:Nat)))
          clear hA6 hlk
          go_wp2_with fail
          go_roundw
          case rel=>
            refine ⟨k+1,by omega,by go_num,.slice vo Sk.length vc,?_⟩
            rw [HT2.out];have h8:=HA7.out;exact ⟨h8.box,h8.lies,h8.sp,h8.row.congr (fun j _=>HRow.out ix HV.out j),h8.chg,h8.own,h8.hR⟩
          case measure=>simp [intOf];omega
      · rw [if_neg hmem,decide_eq_false hmem] at hlk
        have HV:Hid (((zAb S l).idxOf (x,y):Nat)=Sk.length):=by show _=_;rw [HD.out,zJM hmem]
        have HT2:Hid (zAb S (l.take (k+1))=Sk++[(x,y)]):=by show _=_;rw [HT.out,zI2 hmem]
        obtain ⟨w2,hput,hl2,hg2⟩:=(HAd.out _ hal.drew.drew).lies.put hIk hmem (by unfold maxLen;omega)
        have hA2:=(HAd.out _ hal.drew.drew).map hg2 hl2;rw [zI2 hmem] at hA2;have HA2:Hid (∀ w3,Below w2.heap.size w2 w3->PlB w w3 base A lm w.heap.size n (Sk++[(x,y)]) Sk sv (.slice vo Sk.length vc) (.slice vo Sk.length vc) nv tv init many (fun j=>.int .i64 (if j < k then (((zAb S l).idxOf (l.getD j (0,0)):Nat):Int) else 0))):=fun w3 h=>hA2.below h
        have s2:w2.cell? ⟨wr.heap.size,0,none⟩=some (.int .i64 x)/\w2.cell? ⟨wr.heap.size,1,none⟩=some (.int .i64 y):=by
          have hne:some wr.heap.size≠some lm:=by
            have:=(HAd.out wr (Below.refl _ _)).lies.lt;intro e
            injection e with e
            omega
          have hbk:=hg2.block wr.heap.size (World.block_lt_of_cell? _ _ s0) hne;exact ⟨(World.cell?_of_block hbk).trans s0,(World.cell?_of_block hbk).trans s1⟩
        obtain ⟨s20,s21⟩:=s2;unfold zFw at hput;simp only at hput
        clear hl2 hg2 hA2;generalize hW1:wr.alloc (.cells #[.int .i64 x,.int .i64 y] 133)=W1 at *
        go_upto_region 5 with fail
        go_cut [8,9] (fun u8 u9 wx=>u8=.int .i64 0/\u9=.bool false/\wx=W1.drew)
        case first=>
          go_region_law (fail)
          all_goals go_wp2_with fail
          all_goals go_meet
          all_goals exact ⟨rfl,rfl,rfl⟩
        case rest=>
          obtain ⟨rfl,rfl,rfl⟩:=hcut
          go_upto_region 8 with fail
          go_cut [] (fun wx=>wx=w2)
          case first=>
            go_region_law (fail)
            all_goals go_wp2_with fail
            all_goals go_meet
            all_goals rfl
          case rest=>
            obtain rfl:=hcut;clear hput hlk;obtain ⟨i0,hi,hz0,hz1,hz2⟩:=info_parts zKO;have hbA:Below wc.heap.size wc (wc.drew.alloc (.cells #[.int .i64 x,.int .i64 y] 133)):=((Below.refl _ _).drew).alloc (Nat.le_refl _) _
            have hown9:World.ownsRow (wc.drew.alloc (.cells #[.int .i64 x,.int .i64 y] 133)) base 133 2 (.slice vo Sk.length vc) Sk.length (zAm Sk):=(HA2.out _ hbA).sp;have hbase9:base <= (wc.drew.alloc (.cells #[.int .i64 x,.int .i64 y] 133)).heap.size:=Nat.le_trans HXt.out.base_le (HA2.out _ hbA).chg.size
            have HApp:Hid (∀ g cap w9,World.ownsRow w9 base 133 2 (.slice (some ⟨g,0,none⟩) (Sk.length+1) cap) (Sk.length+1) (zAm Sk++[.int .i64 x,.int .i64 y])->(wc.drew.alloc (.cells #[.int .i64 x,.int .i64 y] 133)).grownBy w9 (Value.slice vo Sk.length vc).ownBlock->((Value.slice vo Sk.length vc).ownBlock=some g\/g=(wc.drew.alloc (.cells #[.int .i64 x,.int .i64 y] 133)).heap.size)->PlB w w9 base A lm w.heap.size n (Sk++[(x,y)]) (Sk++[(x,y)]) sv (.slice vo Sk.length vc) (.slice (some ⟨g,0,none⟩) (Sk.length+1) cap) nv tv init many (fun j=>.int .i64 (if j < k then (((zAb S l).idxOf (l.getD j (0,0)):Nat):Int) else 0))):=fun g cap w9 h1 h2 h3=>by
              refine (HA2.out _ hbA).app h2 ?_ ?_
              · unfold SpO
                rw [zEz,List.length_append];exact h1
              · rcases h3 with h | h
                · exact .inl (by rw [h];rfl)
                · exact .inr ⟨g,rfl,by have:=(HA2.out _ hbA).chg.size;omega⟩
            obtain ⟨p0,_,_,_,_,_⟩:=zBl (HA2.out wc (Below.refl _ _)).box;have p0':(wc.drew.alloc (.cells #[.int .i64 x,.int .i64 y] 133)).cell? ⟨A,0,none⟩=some (.slice vo Sk.length vc):=(zBl (HA2.out _ hbA).box).1
            have hnews:∀ j u,[Value.int .i64 x,Value.int .i64 y][j]? = some u->(wc.drew.alloc (.cells #[.int .i64 x,.int .i64 y] 133)).cell? ((⟨wc.heap.size,0,none⟩:Addr).add j)=some u:=zDr wc.drew _ _ _
            have HSl:Hid (∀ m:Nat,m=Sk.length->m+1 <= 1000000001):=fun m e=>by show _ <= _;omega
            generalize hWA:wc.drew.alloc (.cells #[.int .i64 x,.int .i64 y] 133)=WA at *;have hsk9:Sk.length <= 1000000000:=by omega
            go_upto_region 9 with fail
            go_region_law (first
              | (refine step_append_lies _ (by rfl) (.tmp 48) (.tmp 50) 91 (by rfl) base 133 i0 _ 2 16 Tryz.underlying91 hi hz0 hz1 hz2 (by rfl) (by decide) (.slice vo Sk.length vc) Sk.length (zAm Sk) (by rfl) hown9 ⟨wc.heap.size,0,none⟩ 1 1 [.int .i64 x,.int .i64 y] (by rfl) (by rfl) hnews (by intro u hu;simp at hu;rcases hu with rfl | rfl <;> rfl) (by decide) (by unfold maxLen;omega) (by omega) hbase9 _ rfl ?_;intro g9 cap9 w9 hown hgrow hat hlt9;have hA9:=HApp.out g9 cap9 w9 hown hgrow hat;have z0:=(zBl hA9.box).1;have zf:=zHj hA9.box 0;have hA10:=hA9.setA;have f0:=hA10.row.cell hlt;have f1:=hA10.row.frozen k;have HA9:=(show Hid _ from hA10.setR k (.int .i64 (Sk.length:Nat)));clear hA9 hA10 hown hgrow hat))
            all_goals go_wp2_with fail
            all_goals go_roundw
            all_goals first
              | (refine ⟨k+1,by omega,by go_num,.slice (some ⟨g9,0,none⟩) (Sk.length+1) cap9,?_⟩
                 rw [HT2.out]
                 have h8:=HA9.out
                 exact ⟨h8.box,h8.lies,h8.sp,h8.row.congr (fun j _=>HRow.out _ HV.out j),h8.chg,h8.own,h8.hR⟩)
              | (simp [intOf];omega)
    · obtain rfl:k=n:=by omega
      have HF:Hid (PlB w wr base A lm w.heap.size k (zAb S l) (zAb S l) sv svk svk nv tv init many (fun j=>.int .i64 (if j < k then (((zAb S l).idxOf (l.getD j (0,0)):Nat):Int) else 0))):=by
        have:=HA.out;rw [List.take_of_length_le (by rw [HN.out];exact Nat.le_refl _)] at this
        exact this
      clear HA
      go_wp2_with fail
      go_ret
      have h:=HF.out;obtain ⟨cs,hcs,_⟩:=id h.row;refine ⟨rfl,svk,HXt.out.put h.chg h.box h.lies h.sp,⟨some ⟨w.heap.size,0,none⟩,k,by rw [zFZ,HN.out],fun _=>⟨w.heap.size,0,rfl,h.row.lt,fun i hi=>?_⟩⟩,fun a n c e=>?_,h.chg,h.own⟩
      · rw [zFZ,HN.out] at hi
        rw [Nat.zero_add,h.row.cell hi,if_pos hi,zL8 (by rw [HN.out];exact hi)]
      · injection e with e _ _
        injection e with e
        subst e;exact ⟨cs,(0,0),hcs⟩
variable {Pz : Nat -> Prop}
theorem zNO (w:World):(zeroValue 233).run Tryz.prog w=.ok (.agg #[.bool false]) w:=by kernel_rfl
theorem zOt {l:List (Int × Int)} {x y y':List Bool} {c d d':Int} (hl:y.length=y'.length) (ht:zBE l y d=0) (ht':zBE l y' d'=0) (e:zFo l (tru l y d)=zFo l (tru l y' d')):zBM l x c y d=zBM l x c y' d':=by
 have hf:zBn l x c y d=zBn l x c y' d':=by unfold zBn;rw [hl,ht,ht']
 unfold zBM;rw [hf]
 split
 ·exact decide_eq_decide.2 (zQu e)
 ·rfl
def zN1 (Pz:Nat->Prop) (w0 w:World) (B bs bl n:Nat) (va vr pv fv:Value) (m:Mo) (ps:List (List (Int × Int))) (l:List (Int × Int)) (ho:Option Addr) (hc:Nat) (b:Bool) (e:Ending) (w':World):Prop:=
 e=.returned (.tuple #[.bool b,.int .i64 0])/\Sk bs bl w w'/\Hid (SvOk Pz w0 w' B bs bl (n+1) va vr pv fv m ps l ho hc)
def Li8 (w:World) (g:Nat) (y0 y1 y2 y3 y4 y5:Bool) (c s:Int):Prop:=w.cell? ⟨g,0,none⟩=some (.bool y0)/\w.cell? ⟨g,1,none⟩=some (.bool y1)/\w.cell? ⟨g,2,none⟩=some (.bool y2)/\w.cell? ⟨g,3,none⟩=some (.bool y3)/\w.cell? ⟨g,4,none⟩=some (.bool y4)/\w.cell? ⟨g,5,none⟩=some (.bool y5)/\w.cell? ⟨g,6,none⟩=some (.int .i64 c)/\w.cell? ⟨g,7,none⟩=some (.int .i64 s)
theorem Li8.of {w:World} {g:Nat} {y0 y1 y2 y3 y4 y5:Bool} {c s:Int} {t:TypeId} (h:w.heap[g]? = some (.cells #[.bool y0,.bool y1,.bool y2,.bool y3,.bool y4,.bool y5,.int .i64 c,.int .i64 s] t (0,0))):Li8 w g y0 y1 y2 y3 y4 y5 c s:=by
 refine ⟨?_,?_,?_,?_,?_,?_,?_,?_⟩ <;> simp [World.cell?,h]
theorem Li8.later {w w':World} {g:Nat} {y0 y1 y2 y3 y4 y5:Bool} {c s:Int} (h:Li8 w g y0 y1 y2 y3 y4 y5 c s) (hg:g < w.heap.size) (hb:Below w.heap.size w w'):Li8 w' g y0 y1 y2 y3 y4 y5 c s:=by
 obtain ⟨h0,h1,h2,h3,h4,h5,h6,h7⟩:=h;exact ⟨(hb.cell (p:=⟨g,0,none⟩) hg).trans h0,(hb.cell (p:=⟨g,1,none⟩) hg).trans h1,(hb.cell (p:=⟨g,2,none⟩) hg).trans h2,(hb.cell (p:=⟨g,3,none⟩) hg).trans h3,(hb.cell (p:=⟨g,4,none⟩) hg).trans h4,(hb.cell (p:=⟨g,5,none⟩) hg).trans h5,(hb.cell (p:=⟨g,6,none⟩) hg).trans h6,(hb.cell (p:=⟨g,7,none⟩) hg).trans h7⟩
theorem zK8 (w0 w:World) (B bs bl n:Nat) (va vr pv fv:Value) (m:Mo) (ps:List (List (Int × Int))) (l:List (Int × Int)) (ho:Option Addr) (hc:Nat) (x y:List Bool) (c d:Nat) (lo no so lo2 no2 so2:Option Addr) (lc nn nc sc lc2 nn2 nc2 sc2:Nat)
  (hB:0 < w0.heap.size) (hT:zAJ w0) (hV:TaskV w0 va vr pv fv m ps l) (hk:zAK m ps l=0) (hS:SvOk Pz w0 w B bs bl n va vr pv fv m ps l ho hc) (hn:n < 1000000000000)
  (hx:zAQ w (.slice lo ps.length lc) x) (hy:zAQ w (.slice lo2 ps.length lc2) y) (hsg:zAD w (.slice so2 (2 ^ (zAA l).length) sc2) (sgL l y)) (hxl:x.length=ps.length) (hyl:y.length=ps.length) (hcN:c < 2 ^ (zAA l).length) (hdN:d < 2 ^ (zAA l).length) :
  Calls Tryz.prog 116 #[.pointer (some ⟨B,0,none⟩),.agg #[.slice lo ps.length lc,.slice no nn nc,.slice so (2 ^ (zAA l).length) sc],.int .i64 (c:Int),.agg #[.slice lo2 ps.length lc2,.slice no2 nn2 nc2,.slice so2 (2 ^ (zAA l).length) sc2],.int .i64 (d:Int)] w (zN1 Pz w0 w B bs bl n va vr pv fv m ps l ho hc (zBM l x (c:Int) y (d:Int))):=by
 obtain ⟨hp0,hl0⟩:=zA3 hk;obtain ⟨_,hps6⟩:=zBJ hp0;obtain ⟨_,_,hz,_,h6⟩:=zAv hl0;obtain ⟨fo,fc,rfl,_⟩:=id hV.fo;have hN64:2 ^ (zAA l).length <= 64:=Nat.pow_le_pow_right (show 0 < 2 by decide) h6
 have htc:∀ (z:List Bool) (k:Nat),z.length=ps.length->k < 2 ^ (zAA l).length->zBE l z (k:Int)=0:=fun z k hz1 hk1=>by
  refine zC5 (by rw [hz1];exact hl0) fun hno=>?_
  unfold zBW at hno;have:((2 ^ (zAA l).length:Nat):Int)=(2:Int) ^ (zAA l).length:=by push_cast;rfl
  rcases hno with hno | hno
  ·omega
  ·rw [<- this] at hno;omega
 obtain ⟨g0,hg0,hgl⟩:=hS.li
 obtain ⟨sb,soff,rfl,hsb,hsat⟩:∃ sb soff,so2=some ⟨sb,soff,none⟩/\sb < w.heap.size/\w.cell? ⟨sb,soff+d,none⟩=some (.int .i64 (zFl l y d)):=by
  obtain ⟨ao,cap,e1,h1⟩:=hsg
  injection e1 with e1 _ _
  subst e1;obtain ⟨b,off,rfl,hb,hat⟩:=h1 (by intro e;have:=congrArg List.length e;rw [zL3] at this;simp at this)
  refine ⟨b,off,rfl,hb,?_⟩
  have:=hat d (by rw [zL3];exact hdN)
  rw [this,zSh hdN]
 obtain ⟨sg,hsgd⟩:∃ sg,zFl l y d=sg:=⟨_,rfl⟩
 have hsgb:-9223372036854775808 <= sg/\sg <= 9223372036854775807:=by
  obtain ⟨b0,b1⟩:=zDM l (tru l y (d:Int)) (zAA l).length;have e:sg=zBw l (tru l y (d:Int)) (zAA l).length:=by rw [<- hsgd];rfl
  have:((2 ^ (zAA l).length:Nat):Int)=(2:Int) ^ (zAA l).length:=by push_cast;rfl
  rw [<- this] at b1;omega
 rw [hsgd] at hsat
 obtain ⟨W3,hW3⟩:∃ W3,W3=((w.alloc (.cells #[.slice lo ps.length lc,.slice no nn nc,.slice so (2 ^ (zAA l).length) sc] 203)).alloc (.cells #[.slice lo2 ps.length lc2,.slice no2 nn2 nc2,.slice (some ⟨sb,soff,none⟩) (2 ^ (zAA l).length) sc2] 203)).alloc (.cells #[.bool false,.bool false,.bool false,.bool false,.bool false,.bool false,.int .i64 (c:Int),.int .i64 sg] 231):=⟨_,rfl⟩
 have hb3:Below w.heap.size w W3:=by rw [hW3];exact (((Below.refl _ _).alloc (Nat.le_refl _) _).alloc (by simp) _).alloc (by simp;omega) _
 have hz3:W3.heap.size=w.heap.size+3:=by rw [hW3];simp
 have hg3:W3.heap[w.heap.size+2]? = some (.cells #[.bool false,.bool false,.bool false,.bool false,.bool false,.bool false,.int .i64 (c:Int),.int .i64 sg] 231 (0,0)):=by
  rw [hW3]
  have:=(MapKept.heap_alloc ((w.alloc (.cells #[.slice lo ps.length lc,.slice no nn nc,.slice so (2 ^ (zAA l).length) sc] 203)).alloc (.cells #[.slice lo2 ps.length lc2,.slice no2 nn2 nc2,.slice (some ⟨sb,soff,none⟩) (2 ^ (zAA l).length) sc2] 203)) (.cells #[.bool false,.bool false,.bool false,.bool false,.bool false,.bool false,.int .i64 (c:Int),.int .i64 sg] 231)).1
  simpa using this
 obtain ⟨w4,y0,y1,y2,y3,y4,y5,hcopy,hsix,hg4,hgr4⟩:=zOB W3.drew (w.heap.size+2) lo ps.length lc x (c:Int) sg 231 3 (hx.below hb3.drew) hxl hps6 hg3
 have hb4:Below w.heap.size w w4:=⟨hgr4.os.trans hb3.os,hgr4.tape.trans hb3.tape,hgr4.output.trans hb3.output,Nat.le_trans hb3.size hgr4.size,fun i hi=>(hgr4.block i (Nat.lt_of_lt_of_le hi hb3.size) (by intro e;injection e with e;omega)).trans (hb3.block i hi)⟩
 have hli4:=Li8.of hg4;have hlv:zGx x (c:Int) sg=.agg #[.bool y0,.bool y1,.bool y2,.bool y3,.bool y4,.bool y5,.int .i64 (c:Int),.int .i64 sg]:=by unfold zGx;rw [hsix];rfl
 obtain ⟨kl,hkl⟩:=zRd y0 y1 y2 y3 y4 y5 (c:=(c:Int)) (s:=sg) (by omega) hsgb
 have hz4:w.heap.size+3 <= w4.heap.size:=by have:=hgr4.size;have e:W3.drew.heap.size=W3.heap.size:=rfl;omega
 have hk4:Below (w.heap.size+2) W3 w4:=⟨hgr4.os,hgr4.tape,hgr4.output,hgr4.size,fun i hi=>hgr4.block i (by show i < W3.heap.size;omega) (by intro e;injection e with e;omega)⟩
 have HBx:Hid (∀ w',Below (w.heap.size+2) W3 w'->w'.cell? ⟨w.heap.size,0,none⟩=some (.slice lo ps.length lc)/\w'.cell? ⟨w.heap.size+1,0,none⟩=some (.slice lo2 ps.length lc2)):=fun w' h=>by
  refine ⟨(h.cell (p:=⟨w.heap.size,0,none⟩) (by show w.heap.size < _;omega)).trans ?_,(h.cell (p:=⟨w.heap.size+1,0,none⟩) (by show w.heap.size+1 < _;omega)).trans ?_⟩ <;> (rw [hW3];simp [go_sem])
 have hs2:∀ o1 o2,((w.alloc o1).alloc o2).cell? ⟨sb,soff+d,none⟩=some (.int .i64 sg):=fun o1 o2=>(Below.cell (p:=⟨sb,soff+d,none⟩) (((Below.refl w.heap.size w).alloc (Nat.le_refl _) o1).alloc (by simp) o2) hsb).trans hsat
 have HLk:Hid (∀ w',w'.heap[bl]? = w.heap[bl]?->(Instr.lookup 124 (.map (some bl)) (.agg #[.bool y0,.bool y1,.bool y2,.bool y3,.bool y4,.bool y5,.int .i64 (c:Int),.int .i64 sg]) true).run Tryz.prog w'=.ok (.tuple #[(g0 kl).getD (.agg #[.bool false]),.bool (g0 kl).isSome]) w'):=fun w' h=>(hg0.kept h).look zEx Tryz.underlying124 (zNO _) hkl
 have HS6:Hid (∀ w',Below w.heap.size w w'->w'.cell? ⟨B,3,none⟩=some (.slice fo l.length fc)/\w'.cell? ⟨B,6,none⟩=some (.map (some bl))):=fun w' h=>⟨(hS.box.later h).c3,(hS.box.later h).c6⟩
 have hbl:bl < w.heap.size:=hg0.lt;have hdi:(d:Int) < ((2 ^ (zAA l).length:Nat):Int):=by omega
 have HLi:Hid (∀ w',Below w4.heap.size w4 w'->Li8 w' (w.heap.size+1+1) y0 y1 y2 y3 y4 y5 (c:Int) sg):=fun w' h=>hli4.later (by omega) h
 unfold zN1
 cases hgk:g0 kl with
 | some v=>
  obtain ⟨x',c',sg',b,hx'l,hkl',rfl,hall⟩:=hgl kl v hgk;have hinj:=zEx.inj hkl' (hlv ▸ hkl);obtain ⟨rfl,rfl,rfl⟩:=zOJ (hx'l.trans hxl.symm) hinj;have hbv:zBM l x' (c:Int) y (d:Int)=b:=hall y (d:Int) hyl (htc y d hyl hdN) (by rw [<- hsgd];rfl)
  rw [hbv];have HLk2:Hid (∀ w',w'.heap[bl]? = w.heap[bl]?->(Instr.lookup 124 (.map (some bl)) (.agg #[.bool y0,.bool y1,.bool y2,.bool y3,.bool y4,.bool y5,.int .i64 (c:Int),.int .i64 sg']) true).run Tryz.prog w'=.ok (.tuple #[.agg #[.bool b],.bool true]) w'):=fun w' h=>by have:=HLk.out w' h;rw [hgk] at this;exact this
  have HFin:Hid (∀ w',Below w.heap.size w w'->Sk bs bl w w'/\SvOk Pz w0 w' B bs bl (n+1) va vr pv (.slice fo l.length fc) m ps l ho hc):=fun w' h=>⟨Sk.of h,(hS.below h).mono (Nat.le_succ _)⟩
  generalize ps.length=pn at *;generalize 2 ^ (zAA l).length=N at *;generalize l.length=fn at *;clear HLk hS hgl hg0 hall hbv hT hV hx hy hsg htc hli4 hkl' hlv hkl hinj hgr4 hg3 hsix
  go_enter Tryz.func116,Tryz.ntmps116
  go_wp2_with fail
  rw [<- hW3];obtain ⟨u0,u1⟩:=HBx.out W3 (Below.refl _ _);obtain ⟨v0,v1⟩:=HBx.out w4 hk4;clear hW3
  go_region_held3 (fun w'=>w'.cell? ⟨w.heap.size,0,none⟩=some (.slice lo pn lc))
   (first | exact u0 | exact v0)
   (fail)
  have hbl4:w4.heap[bl]? = w.heap[bl]?:=hb4.block bl hbl;obtain ⟨_,q6⟩:=HS6.out w4 hb4;obtain ⟨i0,i1,i2,i3,i4,i5,i6,i7⟩:=HLi.out w4 (Below.refl _ _);clear u0 u1 v0 v1 hs2 HBx
  go_wp2_with fail
  go_cut [13,14] (fun u13 u14 w'=>∃ g13,u13=.pointer (some ⟨g13,0,none⟩)/\u14=.bool true/\Below w4.heap.size w4 w'/\w'.cell? ⟨g13,0,none⟩=some (.bool b))
  case first=>
   have hal:Below w4.heap.size w4 (w4.alloc (.cells #[.bool false] 233)):=(Below.refl _ _).alloc (Nat.le_refl _) _;have hlA:=HLk2.out w4.drew hbl4;have hlB:=HLk2.out (w4.alloc (.cells #[.bool false] 233)).drew ((hal.block bl (Nat.lt_of_lt_of_le hbl hb4.size)).trans hbl4);obtain ⟨_,q6'⟩:=HS6.out _ (hb4.trans (hal.mono hb4.size))
   obtain ⟨j0,j1,j2,j3,j4,j5,j6,j7⟩:=HLi.out _ hal
   go_region_law (fail)
   all_goals go_wp2_with fail
   all_goals go_meet
   all_goals exact ⟨_,rfl,rfl,((Below.refl _ _).alloc (Nat.le_refl _) _).drew,by simp [go_sem]⟩
  case rest=>
   obtain ⟨g13,rfl,rfl,hb5,d0⟩:=hcut;have hbF:=hb4.trans (hb5.mono hb4.size)
   go_wp2_with fail
   go_ret2
   obtain ⟨r1,r2⟩:=HFin.out _ hbF;exact ⟨rfl,r1,r2⟩
 | none=>
  have HLk2:Hid (∀ w',w'.heap[bl]? = w.heap[bl]?->(Instr.lookup 124 (.map (some bl)) (.agg #[.bool y0,.bool y1,.bool y2,.bool y3,.bool y4,.bool y5,.int .i64 (c:Int),.int .i64 sg]) true).run Tryz.prog w'=.ok (.tuple #[.agg #[.bool false],.bool false]) w'):=fun w' h=>by have:=HLk.out w' h;rw [hgk] at this;exact this
  have hfc:zBn l x (c:Int) y (d:Int)=0:=by
   unfold zBn;rw [if_neg (by rw [hxl,hyl];simp),if_neg (by rw [htc x c hxl hcN];simp)]
   exact htc y d hyl hdN
  have HFo:Hid (∀ w',Below w.heap.size w w'->Calls Tryz.prog 158 #[.slice fo l.length fc,.slice lo ps.length lc,.int .i64 (c:Int),.slice lo2 ps.length lc2,.int .i64 (d:Int)] w' fun e w''=>e=.returned (.tuple #[.bool (zBM l x (c:Int) y (d:Int)),.int .i64 0])/\Below w'.heap.size w' w''):=fun w' h=>by
   have h0:=hS.bel.trans (h.mono hS.bel.size);have:=zQ0 _ _ _ l x y (c:Int) (d:Int) w' (Nat.lt_of_lt_of_le hB h0.size) (hT.below h0 hB) (hV.fo.below h0) (hx.below h) (hy.below h);rw [hfc] at this;exact this
  have hLO:zH6 ps l kl (.agg #[.bool (zBM l x (c:Int) y (d:Int))]):=⟨x,(c:Int),sg,_,hxl,hlv ▸ hkl,rfl,fun y' d' h1 h2 h3=>zOt (h1.trans hyl.symm) h2 (htc y d hyl hdN) (h3.trans (by rw [<- hsgd];rfl))⟩
  have HPut:Hid (∀ w',Below w.heap.size w w'->∃ w'',(Instr.mapUpdate 124 (.map (some bl)) (.agg #[.bool y0,.bool y1,.bool y2,.bool y3,.bool y4,.bool y5,.int .i64 (c:Int),.int .i64 sg]) (.agg #[.bool (zBM l x (c:Int) y (d:Int))])).run Tryz.prog w'.drew=.ok () w''/\w'.grownBy w'' (some bl)/\Sk bs bl w w''/\SvOk Pz w0 w'' B bs bl (n+1) va vr pv (.slice fo l.length fc) m ps l ho hc):=fun w' h=>by
   have hm1:zAg w'.drew 231 bl n g0:=hg0.kept (h.block _ hg0.lt);obtain ⟨w'',h1,h2,h3⟩:=hm1.put zEx Tryz.underlying124 (by unfold maxLen;omega) (val:=.agg #[.bool (zBM l x (c:Int) y (d:Int))]) hkl (zEx.key hkl)
   have h4:w'.grownBy w'' (some bl):=⟨h3.os,h3.tape,h3.output,h3.size,h3.block⟩;exact ⟨w'',h1,h4,(Sk.of h).trans (Sk.grown h4 (.inr rfl)),(hS.below h).putL h4 hgl h2 hLO⟩
  generalize zBM l x (c:Int) y (d:Int)=b at *;generalize ps.length=pn at *;generalize 2 ^ (zAA l).length=N at *;generalize l.length=fn at *;clear HLk hS hgl hg0 hT hV hx hy hsg htc hli4 hlv hkl hgr4 hg3 hsix hLO hfc
  go_enter Tryz.func116,Tryz.ntmps116
  go_wp2_with fail
  rw [<- hW3];obtain ⟨u0,u1⟩:=HBx.out W3 (Below.refl _ _);obtain ⟨v0,v1⟩:=HBx.out w4 hk4;clear hW3
  go_region_held3 (fun w'=>w'.cell? ⟨w.heap.size,0,none⟩=some (.slice lo pn lc))
   (first | exact u0 | exact v0)
   (fail)
  have hbl4:w4.heap[bl]? = w.heap[bl]?:=hb4.block bl hbl;obtain ⟨_,q6⟩:=HS6.out w4 hb4;obtain ⟨i0,i1,i2,i3,i4,i5,i6,i7⟩:=HLi.out w4 (Below.refl _ _);clear u0 u1 v0 v1 hs2
  go_wp2_with fail
  go_cut [13,14] (fun u13 u14 w'=>∃ g13,u13=.pointer (some ⟨g13,0,none⟩)/\u14=.bool false/\Below w4.heap.size w4 w')
  case first=>
   have hal:Below w4.heap.size w4 (w4.alloc (.cells #[.bool false] 233)):=(Below.refl _ _).alloc (Nat.le_refl _) _;have hlA:=HLk2.out w4.drew hbl4;have hlB:=HLk2.out (w4.alloc (.cells #[.bool false] 233)).drew ((hal.block bl (Nat.lt_of_lt_of_le hbl hb4.size)).trans hbl4);obtain ⟨_,q6'⟩:=HS6.out _ (hb4.trans (hal.mono hb4.size))
   obtain ⟨j0,j1,j2,j3,j4,j5,j6,j7⟩:=HLi.out _ hal
   go_region_law (fail)
   all_goals go_wp2_with fail
   all_goals go_meet
   all_goals exact ⟨_,rfl,rfl,((Below.refl _ _).alloc (Nat.le_refl _) _).drew⟩
  case rest=>
   obtain ⟨g13,rfl,rfl,hb5⟩:=hcut;have hbF:=hb4.trans (hb5.mono hb4.size)
   have HSF:Hid (∀ w',Below wc.heap.size wc w'->w'.cell? ⟨B,3,none⟩=some (.slice fo fn fc)/\w'.cell? ⟨w.heap.size,0,none⟩=some (.slice lo pn lc)/\w'.cell? ⟨w.heap.size+1,0,none⟩=some (.slice lo2 pn lc2)):=fun w' h=>by
    have h1:=hb5.trans (h.mono hb5.size);obtain ⟨e1,e2⟩:=HBx.out w' (hk4.trans (h1.mono (by omega)))
    exact ⟨(HS6.out w' (hbF.trans (h.mono hbF.size))).1,e1,e2⟩
   have hfo:=HFo.out _ hbF.drew;have hB0:Below wc.heap.size wc wc:=Below.refl _ _
   go_wp2_with fail
   go_region_held3 (fun w'=>w'.cell? ⟨B,3,none⟩=some (.slice fo fn fc)/\w'.cell? ⟨w.heap.size,0,none⟩=some (.slice lo pn lc)/\w'.cell? ⟨w.heap.size+1,0,none⟩=some (.slice lo2 pn lc2))
    (first | exact HSF.out _ hb6 | exact HSF.out _ hB0.drew | exact HSF.out _ hB0)
    (first
     | (go_at_call 158;refine hfo.mono ?_;rintro e w6 ⟨rfl,hb6'⟩;have hb6:=hB0.drew.trans (hb6'.mono hB0.drew.size)))
   have hbG:=hbF.trans (hb6.mono hbF.size);obtain ⟨w7,hput,hg7,r1,r2⟩:=HPut.out _ hbG;obtain ⟨_,z6⟩:=HS6.out _ hbG;obtain ⟨k0,k1,k2,k3,k4,k5,k6,k7⟩:=HLi.out w6 (hb5.trans (hb6.mono hb5.size));have HR:Hid (Sk bs bl w w7/\SvOk Pz w0 w7 B bs bl (n+1) va vr pv (.slice fo fn fc) m ps l ho hc):=⟨r1,r2⟩;clear r1 r2 hg7 HPut
   go_wp2_with fail
   go_region_law (fail)
   all_goals go_wp2_with fail
   all_goals go_ret2
   all_goals exact ⟨rfl,HR.out.1,HR.out.2⟩
end Go.Proofs.YtiimhhjkgeepjaaGreatDoor
namespace Go.Proofs.YtiimhhjkgeepjaaGreatDoor
open Terms Tm
set_option maxHeartbeats 6400000
set_option maxRecDepth 20000
theorem zLf {l:List Int} (h:l.Nodup):Rise (l.mergeSort leB):=by
 have hp:(l.mergeSort leB).Pairwise (fun x y=>leB x y=true):=List.pairwise_mergeSort (le:=leB) (by intro a b c;simp only [leB,decide_eq_true_eq];omega) (by intro a b;simp only [leB,Bool.or_eq_true,decide_eq_true_eq];omega) l
 have hn:(l.mergeSort leB).Nodup:=(List.mergeSort_perm l leB).nodup_iff.2 h;refine (hp.and hn).imp fun {a b} hab=>?_
 have h1:a <= b:=by simpa [leB] using hab.1
 have h2:a≠b:=hab.2;omega
theorem zG4:∀ {l:List Int} {lo N:Int},Rise l->(∀ x∈l,lo <= x/\x < N)->lo <= N->(l.length:Int) <= N - lo
 | [],lo,N,_,_,h=>by simp;omega
 | x:: l,lo,N,h1,h2,_=>by
  obtain ⟨hx,t⟩:=List.pairwise_cons.1 h1;have h3:=h2 x (by simp)
  have:=zG4 (lo:=x+1) (N:=N) t (fun y hy=>⟨by have:=hx y hy;omega,(h2 y (by simp [hy])).2⟩) (by omega)
  simp only [List.length_cons];omega
theorem zDo {l:List Int} {N:Nat} (h:l.Nodup) (hi:∀ x∈l,0 <= x/\x < N):l.length <= N:=by
 have h1:=zG4 (lo:=0) (N:=N) (zLf h) (fun x hx=>hi x ((List.mergeSort_perm l leB).mem_iff.1 hx)) (by omega)
 rw [List.length_mergeSort] at h1;omega
end Go.Proofs.YtiimhhjkgeepjaaGreatDoor
namespace Go.Proofs.YtiimhhjkgeepjaaGreatDoor
open Go.ChangeShapes Go.WideShapes Go.ChangeAt Go.RowKit Go.Deep Go.Maps
open Terms Tm
set_option maxHeartbeats 6400000
set_option maxRecDepth 20000
noncomputable def zC1 (l:List (Int × Int)) (x:List Bool) (c:Int) (y:List Bool) (st:Int):Nat->List (Int × Int)
 | 0=>[]
 | k+1=>if zBM l x c y (k:Int)=true then zC1 l x c y st k++[(st,(k:Int))] else zC1 l x c y st k
theorem zHQ (l:List (Int × Int)) (x:List Bool) (c:Int) (y:List Bool) (st:Int):∀ k,(zC1 l x c y st k).length <= k
 | 0=>Nat.le_refl _
 | k+1=>by
  rw [zC1];have:=zHQ l x c y st k
  split
  ·rw [List.length_append,List.length_singleton];omega
  ·omega
noncomputable def zCu (m:Mo) (ps:List (List (Int × Int))) (l:List (Int × Int)) (code c:Int):Nat->List (Int × Int)
 | 0=>[]
 | i+1=>zCu m ps l code c i++zC1 l (zAG m ps code) c (zAG m ps ((zAB m code).getD i 0)) ((zAB m code).getD i 0) (2 ^ (zAA l).length)
noncomputable def zAl (m:Mo) (ps:List (List (Int × Int))) (l:List (Int × Int)) (code c:Int):List (Int × Int):=zCu m ps l code c (zAB m code).length
theorem zGb {m:Mo} {ps:List (List (Int × Int))} {l:List (Int × Int)} (h:2 ^ (zAA l).length <= 64) (code c:Int):∀ i,(zCu m ps l code c i).length <= i*64
 | 0=>Nat.le_refl _
 | i+1=>by
  rw [zCu,List.length_append];have:=zGb (m:=m) (ps:=ps) h code c i;have:=zHQ l (zAG m ps code) c (zAG m ps ((zAB m code).getD i 0)) ((zAB m code).getD i 0) (2 ^ (zAA l).length);omega
theorem zEl {m:Mo} (hm:mcode m=0) {x:Int} (hx:0 <= x/\x < zAC m.vars m.vars.length) {y:Int} (hy:y∈zAB m x):0 <= y/\y < zAC m.vars m.vars.length:=by
 have h1:=((zDq _).2 y).1 hy;unfold zEH at h1
 split at h1
 ·simp at h1;subst h1;exact hx
 ·obtain ⟨j,_,e⟩:=(zI7 (Nat.le_refl _) y).1 h1
  exact zGI (zAt hm) e
theorem zI5 {m:Mo} (hm:mcode m=0) {x:Int} (hx:0 <= x/\x < zAC m.vars m.vars.length):(zAB m x).length <= 4096:=by
 have h1:(zAB m x).Nodup:=by
  have:=(zDq (zEH m x)).1;exact List.Pairwise.imp (fun {a b} h=>by omega) this
 have h2:=(zAt hm).prod (Nat.le_refl m.vars.length);have:=zDo (N:=(zAC m.vars m.vars.length).toNat) h1 (fun y hy=>by have:=zEl hm hx hy;omega)
 omega
theorem Sk.after {bs bl:Nat} {wb w w':World} (h:Sk bs bl wb w) (hb:Below wb.heap.size w w'):Sk bs bl wb w':=
 ⟨hb.os.trans h.os,hb.tape.trans h.tape,hb.output.trans h.output,Nat.le_trans h.size hb.size,fun i hi h1 h2=>(hb.block i hi).trans (h.block i hi h1 h2)⟩
def Bx3 (w:World) (b:Nat) (x y z:Value):Prop:=(w.cell? ⟨b,0,none⟩=some x/\w.cell? ⟨b,1,none⟩=some y/\w.cell? ⟨b,2,none⟩=some z)/\zAe w (.slice (some ⟨b,0,none⟩) 1 1) 203
theorem Bx3.new (w:World) (x y z:Value):Bx3 (w.alloc (.cells #[x,y,z] 203)) w.heap.size x y z:=by
 refine ⟨(St3.new w x y z _).2.1,fun a n c e=>?_⟩
 injection e with e _ _
 injection e with e
 subst e;exact ⟨_,_,(MapKept.heap_alloc w _).1⟩
theorem Bx3.sk {bs bl:Nat} {w w':World} {b:Nat} {x y z:Value} (h:Bx3 w b x y z) (hs:Sk bs bl w w') (hm:zBz w bs bl):Bx3 w' b x y z:=
 ⟨⟨hs.cell hm h.1.1,hs.cell hm h.1.2.1,hs.cell hm h.1.2.2⟩,h.2.sk hs hm⟩
theorem Bx3.grown {w w':World} {b:Nat} {x y z:Value} {own:Option Nat} (h:Bx3 w b x y z) (hg:w.grownBy w' own) (ho:∀ g,own=some g->∃ cs fr,w.heap[g]? = some (.cells cs 133 fr)):Bx3 w' b x y z:=by
 obtain ⟨cs,fr,h1⟩:=h.2 _ _ _ rfl
 have e:∀ i v,w.cell? ⟨b,i,none⟩=some v->w'.cell? ⟨b,i,none⟩=some v:=fun i v hv=>by
  rw [World.cell?_of_block (hg.block b (Array.getElem?_eq_some_iff.1 h1).1 (fun e2=>by
   obtain ⟨cs',fr',h2⟩:=ho _ e2.symm;rw [h1] at h2
   injection h2 with h2
   injection h2 with _ h3 _
   exact absurd h3 (by decide)))]
  exact hv
 exact ⟨⟨e _ _ h.1.1,e _ _ h.1.2.1,e _ _ h.1.2.2⟩,h.2.grown hg (by decide) ho⟩
theorem Bx3.below {w w':World} {b:Nat} {x y z:Value} (h:Bx3 w b x y z) (hb:Below w.heap.size w w'):Bx3 w' b x y z:=by
 obtain ⟨cs,fr,h1⟩:=h.2 _ _ _ rfl;have hlt:b < w.heap.size:=(Array.getElem?_eq_some_iff.1 h1).1
 exact ⟨⟨(hb.cell (p:=⟨b,0,none⟩) hlt).trans h.1.1,(hb.cell (p:=⟨b,1,none⟩) hlt).trans h.1.2.1,(hb.cell (p:=⟨b,2,none⟩) hlt).trans h.1.2.2⟩,h.2.below hb⟩
theorem SpO.own {w:World} {base:Nat} {vo:Option Addr} {n cap:Nat} {x:List (Int × Int)} (h:SpO w base (.slice vo n cap) x) (o:Obj):∀ g,(Value.slice vo n cap).ownBlock=some g->base <= g/\∃ cs fr,(w.alloc o).heap[g]? = some (.cells cs 133 fr):=by
 intro g hg
 rcases h.2 with ⟨h0,_⟩ | ⟨g',cap',cur,h1,h2,h3,_⟩
 ·rw [h0] at hg;simp [Value.ownBlock] at hg
 ·rw [h1] at hg
  simp [Value.ownBlock] at hg
  subst hg;exact ⟨h2,cur,_,(Below.heap_alloc w o g' (Array.getElem?_eq_some_iff.1 h3).1).trans h3⟩
variable {Pz : Nat -> Prop}
theorem zQ8 (w0 w:World) (B bs bl n:Nat) (va vr pv fv:Value) (m:Mo) (ps:List (List (Int × Int))) (l:List (Int × Int)) (ho:Option Addr) (hc:Nat) (code:Int) (c:Nat) (hI:-9223372036854775808 <= code/\code <= 9223372036854775807) (hB:0 < w0.heap.size) (hT:zAJ w0) (hV:TaskV w0 va vr pv fv m ps l) (hk:zAK m ps l=0) (hS:SvOk Pz w0 w B bs bl n va vr pv fv m ps l ho hc) (hn:n+300000 < 1000000000000) (hcr:0 <= code/\code < zAC m.vars m.vars.length) (hcN:c < 2 ^ (zAA l).length) :
  Calls Tryz.prog 80 #[.pointer (some ⟨B,0,none⟩),.agg #[.int .i64 code,.int .i64 (c:Int)]] w fun e w'=>e=.returned (.tuple #[.int .i64 (zCW l (zAG m ps code) (c:Int)),.int .i64 0])/\Sk bs bl w w'/\Hid (SvOk Pz w0 w' B bs bl (n+1) va vr pv fv m ps l ho hc):=by
 obtain ⟨hp0,hl0⟩:=zA3 hk;obtain ⟨hm0,_⟩:=zBJ hp0;have hw:=zBk hm0 hcr;obtain ⟨fo,fc,rfl,_⟩:=id hV.fo
 have htc:zBE l (zAG m ps code) (c:Int)=0:=by
  refine zC5 (by rw [(zEE hk hcr).2];exact hl0) fun hno=>?_
  unfold zBW at hno;have:((2 ^ (zAA l).length:Nat):Int)=(2:Int) ^ (zAA l).length:=by push_cast;rfl
  rcases hno with hno | hno
  ·omega
  ·rw [<- this] at hno;omega
 obtain ⟨W1,hW1⟩:∃ W1,W1=w.alloc (.cells #[.int .i64 code,.int .i64 (c:Int)] 133):=⟨_,rfl⟩
 have hb1:Below w.heap.size w W1:=by rw [hW1];exact (Below.refl _ _).alloc (Nat.le_refl _) _
 have hs1:W1.cell? ⟨w.heap.size,0,none⟩=some (.int .i64 code)/\W1.cell? ⟨w.heap.size,1,none⟩=some (.int .i64 (c:Int)):=by rw [hW1];constructor <;> simp [go_sem]
 have hS1:=hS.below hb1;have hst:=zE8 w0 W1 B bs bl n va vr pv (.slice fo l.length fc) m ps l ho hc code hI hB hT hV hk hS1 (by omega)
 have hst2:Calls Tryz.prog 115 #[.pointer (some ⟨B,0,none⟩),.int .i64 code] W1 fun e w'=>∃ lo lc no nn nc so sn sc,e=.returned (.tuple #[.agg #[.slice lo ps.length lc,.slice no nn nc,.slice so sn sc],.int .i64 0])/\Hid (∀ w2,Below w'.heap.size w' w2->Sk bs bl w w2/\SvOk Pz w0 w2 B bs bl (n+1) va vr pv (.slice fo l.length fc) m ps l ho hc/\w2.cell? ⟨B,3,none⟩=some (.slice fo l.length fc)/\w2.cell? ⟨w.heap.size,0,none⟩=some (.int .i64 code)/\w2.cell? ⟨w.heap.size,1,none⟩=some (.int .i64 (c:Int))/\Calls Tryz.prog 117 #[.slice fo l.length fc,.slice lo ps.length lc,.int .i64 (c:Int)] w2 fun e w3=>e=.returned (.tuple #[.int .i64 (zCW l (zAG m ps code) (c:Int)),.int .i64 0])/\Below w2.heap.size w2 w3):=hst.mono fun e w' ⟨h1,h2,h3⟩=>by
  rcases h3 with ⟨_,lo,lc,no,nc,so,sc,h4,h5⟩ | ⟨h4,_⟩
  ·refine ⟨lo,lc,no,_,nc,so,_,sc,h4,fun w2 hb2=>?_⟩
   have hsk:=(h1.trans (Sk.of hb2));have hS2:=h2.out.below hb2;obtain ⟨lo',lc',no',nc',so',sc',e5,hx,_⟩:=h5.out
   injection e5 with e5
   simp only [Array.mk.injEq,List.cons.injEq,and_true] at e5;rw [<- e5.1] at hx;have h0:=hS2.bel;have hme:=zNT (.slice fo l.length fc) (.slice lo ps.length lc) l (zAG m ps code) (c:Int) w2 (Nat.lt_of_lt_of_le hB h0.size) (hT.below h0 hB) (hV.fo.below h0) (hx.below hb2);rw [htc] at hme
   exact ⟨(Sk.of hb1).trans hsk,hS2,hS2.box.c3,hsk.cell hS1.two hs1.1,hsk.cell hS1.two hs1.2,hme⟩
  ·exact absurd hw h4
 clear hst hS hT hV hk hw hS1 htc hp0 hl0 hm0;have HW1:Hid (W1=w.alloc (.cells #[.int .i64 code,.int .i64 (c:Int)] 133)):=hW1;generalize zCW l (zAG m ps code) (c:Int)=mm at *;generalize ps.length=pn at *;generalize l.length=fn at *
 go_enter Tryz.func80,Tryz.ntmps80
 go_wp2_with (first | (go_at_call 115;rw [<- hW1];refine hst2.mono ?_;rintro e w2 ⟨lo,lc,no,nn,nc,so,sn,sc,rfl,HR⟩))
 have hb2:∀ o,Below w2.heap.size w2 (w2.alloc o):=fun o=>(Below.refl _ _).alloc (Nat.le_refl _) o
 generalize hw3:w2.alloc (.cells #[.slice lo pn lc,.slice no nn nc,.slice so sn sc] 203)=w3 at *;have hb3:Below w2.heap.size w2 w3:=by rw [<- hw3];exact hb2 _
 have q0:w3.cell? ⟨w2.heap.size,0,none⟩=some (.slice lo pn lc):=by rw [<- hw3];simp [go_sem]
 have hlt3:w2.heap.size < w3.heap.size:=World.block_lt_of_cell? _ _ q0
 have HSF:Hid (∀ w',Below w3.heap.size w3 w'->w'.cell? ⟨B,3,none⟩=some (.slice fo fn fc)/\w'.cell? ⟨w2.heap.size,0,none⟩=some (.slice lo pn lc)/\w'.cell? ⟨w.heap.size,1,none⟩=some (.int .i64 (c:Int))):=fun w' h=>by
  obtain ⟨_,_,q3,_,q1,_⟩:=HR.out w' (hb3.trans (h.mono hb3.size));exact ⟨q3,(h.cell (p:=⟨w2.heap.size,0,none⟩) hlt3).trans q0,q1⟩
 have hB0:Below w3.heap.size w3 w3:=Below.refl _ _;obtain ⟨_,_,_,_,_,hme⟩:=HR.out w3.drew hb3.drew;clear hw3 hb2 q0 hst2 hs1 hW1
 go_region_held3 (fun w'=>w'.cell? ⟨B,3,none⟩=some (.slice fo fn fc)/\w'.cell? ⟨w2.heap.size,0,none⟩=some (.slice lo pn lc)/\w'.cell? ⟨w.heap.size,1,none⟩=some (.int .i64 (c:Int)))
  (first | exact HSF.out _ hb6 | exact HSF.out _ hB0.drew | exact HSF.out _ hB0)
  (first | (go_at_call 117;refine hme.mono ?_;rintro e w6 ⟨rfl,hb6'⟩;have hb6:=hB0.drew.trans (hb6'.mono hB0.drew.size)))
 go_wp2_with fail
 go_ret2
 obtain ⟨r1,r2,_⟩:=HR.out _ (hb3.trans (hb6.mono hb3.size));exact ⟨rfl,r1,r2⟩
end Go.Proofs.YtiimhhjkgeepjaaGreatDoor
namespace Go.Proofs.YtiimhhjkgeepjaaGreatDoor
open Go.ChangeShapes Go.WideShapes Go.ChangeAt Go.RowKit Go.Deep Go.Maps
open Terms Tm
set_option maxHeartbeats 6400000
set_option maxRecDepth 20000
variable {Pz : Nat -> Prop}
def zPD (Pz:Nat->Prop) (w0 w:World) (B bs bl n:Nat) (va vr pv fv:Value) (m:Mo) (ps:List (List (Int × Int))) (l:List (Int × Int)) (ho:Option Addr) (hc:Nat) (code c:Int) (e:Ending) (w':World):Prop:=
 Sk bs bl w w'/\Hid (SvOk Pz w0 w' B bs bl (n+300000) va vr pv fv m ps l ho hc)/\((zAr m code=0/\∃ so sc,e=.returned (.tuple #[.slice so (zAl m ps l code c).length sc,.int .i64 0])/\Hid (SpO w' w.heap.size (.slice so (zAl m ps l code c).length sc) (zAl m ps l code c)))\/(zAr m code≠0/\e=.returned (.tuple #[.slice none 0 0,.int .i64 (zAr m code)])))
theorem zPi (w0 w:World) (B bs bl n:Nat) (va vr pv fv:Value) (m:Mo) (ps:List (List (Int × Int))) (l:List (Int × Int)) (ho:Option Addr) (hc:Nat) (code:Int) (c:Nat) (hI:-9223372036854775808 <= code/\code <= 9223372036854775807) (hB:0 < w0.heap.size) (hT:zAJ w0) (hV:TaskV w0 va vr pv fv m ps l) (hk:zAK m ps l=0) (hS:SvOk Pz w0 w B bs bl n va vr pv fv m ps l ho hc) (hn:n+300000 < 1000000000000) (hcr:0 <= code/\code < zAC m.vars m.vars.length) (hcN:c < 2 ^ (zAA l).length) :
  Calls Tryz.prog 79 #[.pointer (some ⟨B,0,none⟩),.agg #[.int .i64 code,.int .i64 (c:Int)]] w (zPD Pz w0 w B bs bl n va vr pv fv m ps l ho hc code (c:Int)):=by
 obtain ⟨hp0,hl0⟩:=zA3 hk;obtain ⟨hm0,_⟩:=zBJ hp0;obtain ⟨_,_,_,_,h6⟩:=zAv hl0;have hw:=zBk hm0 hcr;have hpr:=((zAt hm0).prod (Nat.le_refl m.vars.length)).2;have hN64:2 ^ (zAA l).length <= 64:=Nat.pow_le_pow_right (show 0 < 2 by decide) h6
 have hnn:=zI5 hm0 hcr;obtain ⟨W1,hW1⟩:∃ W1,W1=w.alloc (.cells #[.int .i64 code,.int .i64 (c:Int)] 133):=⟨_,rfl⟩
 have hb1:Below w.heap.size w W1:=by rw [hW1];exact (Below.refl _ _).alloc (Nat.le_refl _) _
 have hs1:W1.cell? ⟨w.heap.size,0,none⟩=some (.int .i64 code)/\W1.cell? ⟨w.heap.size,1,none⟩=some (.int .i64 (c:Int)):=by rw [hW1];constructor <;> simp [go_sem]
 have hS1:=hS.below hb1;have hst:=zE8 w0 W1 B bs bl n va vr pv fv m ps l ho hc code hI hB hT hV hk hS1 (by omega)
 have hst2:Calls Tryz.prog 115 #[.pointer (some ⟨B,0,none⟩),.int .i64 code] W1 fun e w'=>∃ lo lc no nc so sc,e=.returned (.tuple #[.agg #[.slice lo ps.length lc,.slice no (zAB m code).length nc,.slice so (2 ^ (zAA l).length) sc],.int .i64 0])/\Hid (Sk bs bl w w'/\SvOk Pz w0 w' B bs bl (n+1) va vr pv fv m ps l ho hc/\zAy Pz w' m ps l code (.agg #[.slice lo ps.length lc,.slice no (zAB m code).length nc,.slice so (2 ^ (zAA l).length) sc]))/\Hid (w'.cell? ⟨w.heap.size,0,none⟩=some (.int .i64 code)/\w'.cell? ⟨w.heap.size,1,none⟩=some (.int .i64 (c:Int))):=hst.mono fun e w' ⟨h1,h2,h3⟩=>by
  rcases h3 with ⟨_,lo,lc,no,nc,so,sc,h4,h5⟩ | ⟨h4,_⟩
  ·exact ⟨lo,lc,no,nc,so,sc,h4,⟨(Sk.of hb1).trans h1,h2.out,h5.out⟩,h1.cell hS1.two hs1.1,h1.cell hS1.two hs1.2⟩
  ·exact absurd hw h4
 have HSt:Hid (∀ (w':World) (n':Nat) (c':Int),n' < 1000000000000->0 <= c'/\c' < zAC m.vars m.vars.length->SvOk Pz w0 w' B bs bl n' va vr pv fv m ps l ho hc->Calls Tryz.prog 115 #[.pointer (some ⟨B,0,none⟩),.int .i64 c'] w' fun e w''=>∃ lo lc no nn2 nc so sc,e=.returned (.tuple #[.agg #[.slice lo ps.length lc,.slice no nn2 nc,.slice so (2 ^ (zAA l).length) sc],.int .i64 0])/\Hid (Sk bs bl w' w''/\SvOk Pz w0 w'' B bs bl (n' + 1) va vr pv fv m ps l ho hc/\zAy Pz w'' m ps l c' (.agg #[.slice lo ps.length lc,.slice no nn2 nc,.slice so (2 ^ (zAA l).length) sc]))):=fun w' n' c' hn' hc' hS'=>(zE8 w0 w' B bs bl n' va vr pv fv m ps l ho hc c' (by omega) hB hT hV hk hS' hn').mono fun e w'' ⟨h1,h2,h3⟩=>by
  rcases h3 with ⟨_,lo,lc,no,nc,so,sc,h4,h5⟩ | ⟨h4,_⟩
  ·exact ⟨lo,lc,no,_,nc,so,sc,h4,h1,h2.out,h5.out⟩
  ·exact absurd (zBk hm0 hc') h4
 have HFo:Hid (∀ (w':World) (n' d:Nat) (c':Int) (lo no so lo2 no2 so2:Option Addr) (lc nn nc sc lc2 nn2 nc2 sc2:Nat),n' < 1000000000000->d < 2 ^ (zAA l).length->0 <= c'/\c' < zAC m.vars m.vars.length->SvOk Pz w0 w' B bs bl n' va vr pv fv m ps l ho hc->zAy Pz w' m ps l code (.agg #[.slice lo ps.length lc,.slice no nn nc,.slice so (2 ^ (zAA l).length) sc])->zAy Pz w' m ps l c' (.agg #[.slice lo2 ps.length lc2,.slice no2 nn2 nc2,.slice so2 (2 ^ (zAA l).length) sc2])->Calls Tryz.prog 116 #[.pointer (some ⟨B,0,none⟩),.agg #[.slice lo ps.length lc,.slice no nn nc,.slice so (2 ^ (zAA l).length) sc],.int .i64 (c:Int),.agg #[.slice lo2 ps.length lc2,.slice no2 nn2 nc2,.slice so2 (2 ^ (zAA l).length) sc2],.int .i64 (d:Int)] w' fun e w''=>e=.returned (.tuple #[.bool (zBM l (zAG m ps code) (c:Int) (zAG m ps c') (d:Int)),.int .i64 0])/\Hid (Sk bs bl w' w''/\SvOk Pz w0 w'' B bs bl (n' + 1) va vr pv fv m ps l ho hc)):=fun w' n' d c' lo no so lo2 no2 so2 lc nn nc sc lc2 nn2 nc2 sc2 hn' hd hc' hS' hA hB'=>by
  obtain ⟨_,_,_,_,_,_,e1,hx,_,_,_⟩:=hA;obtain ⟨_,_,_,_,_,_,e2,hy,_,hz,_⟩:=hB';simp only [Value.agg.injEq,Array.mk.injEq,List.cons.injEq,Value.slice.injEq,and_true,true_and] at e1 e2;obtain ⟨⟨rfl,rfl⟩,⟨rfl,rfl,rfl⟩,rfl,rfl⟩:=e1;obtain ⟨⟨rfl,rfl⟩,⟨rfl,rfl,rfl⟩,rfl,rfl⟩:=e2
  exact (zK8 w0 w' B bs bl n' va vr pv fv m ps l ho hc (zAG m ps code) (zAG m ps c') c d _ _ _ _ _ _ _ _ _ _ _ _ _ _ hB hT hV hk hS' hn' hx hy hz (zEE hk hcr).2 (zEE hk hc').2 hcN hd).mono fun e w'' ⟨h1,h2,h3⟩=>⟨h1,h2,h3.out⟩
 have HCl:Hid (∀ (w':World) (n':Nat),SvOk Pz w0 w' B bs bl n' va vr pv fv m ps l ho hc->Calls Tryz.prog 77 #[.pointer (some ⟨B,0,none⟩)] w' fun e w''=>e=.returned (.int .i64 ((2 ^ (zAA l).length:Nat):Int))/\w''=w'):=fun w' n' h=>zFQ B _ _ _ _ ho _ hc bs bl w' h6 h.box
 have HNx:Hid (∀ i,i < (zAB m code).length->0 <= (zAB m code).getD i 0/\(zAB m code).getD i 0 < zAC m.vars m.vars.length):=fun i hi=>zEl hm0 hcr (by rw [List.getD_eq_getElem?_getD,List.getElem?_eq_getElem hi];exact List.getElem_mem hi)
 have HBt:Hid (∀ i,zCu m ps l code (c:Int) (i+1)=zCu m ps l code (c:Int) i++zC1 l (zAG m ps code) (c:Int) (zAG m ps ((zAB m code).getD i 0)) ((zAB m code).getD i 0) (2 ^ (zAA l).length)):=fun _=>rfl
 have HB0:Hid (zCu m ps l code (c:Int) 0=[]):=rfl;have HBl:Hid (∀ i,(zCu m ps l code (c:Int) i).length <= i*64):=zGb hN64 code (c:Int)
 have HInt:Hid (∀ (w':World) (lo no so:Option Addr) (lc nc sc:Nat),zAy Pz w' m ps l code (.agg #[.slice lo ps.length lc,.slice no (zAB m code).length nc,.slice so (2 ^ (zAA l).length) sc])->∀ i,i < (zAB m code).length->∃ b off,no=some ⟨b,off,none⟩/\w'.cell? ⟨b,off+i,none⟩=some (.int .i64 ((zAB m code).getD i 0))):=fun w' lo no so lc nc sc hA i hi=>by
  obtain ⟨_,_,_,_,_,_,e1,_,hx,_,_⟩:=hA;simp only [Value.agg.injEq,Array.mk.injEq,List.cons.injEq,Value.slice.injEq,and_true,true_and] at e1;obtain ⟨⟨rfl,rfl⟩,⟨rfl,rfl⟩,rfl,rfl⟩:=e1;obtain ⟨ao,cap,e2,h1⟩:=hx
  injection e2 with e2 _ _
  subst e2;obtain ⟨b,off,rfl,_,hat⟩:=h1 (by intro e;rw [e] at hi;simp at hi)
  exact ⟨b,off,rfl,hat i hi⟩
 have hw0:w0.heap.size <= w.heap.size:=hS.bel.size;have hBlt:B < w.heap.size:=hS.box.lt;unfold zPD zAl;have HW:Hid (zAr m code=0):=hw;generalize (zAB m code).length=nn at *;generalize zCu m ps l code (c:Int)=bt at *;generalize m.vars.length=vn at *;generalize hpn:ps.length=pn at *;generalize 2 ^ (zAA l).length=N at *
 clear hst hS hS1 hT hV hk hp0 hl0 hm0 h6 hw hpn hs1 hcN;subst hW1
 go_enter Tryz.func79,Tryz.ntmps79
 go_wp2_with (first | (go_at_call 115;refine hst2.mono ?_;rintro e w2 ⟨lo,lc,no,nc,so,sc,rfl,HR,HC⟩))
 obtain ⟨hsk2,hsv2,hso2⟩:=HR.out;obtain ⟨hc0,hc1⟩:=HC.out;have hb2:Below w2.heap.size w2 (w2.alloc (.cells #[.slice lo pn lc,.slice no nn nc,.slice so N sc] 203)):=(Below.refl _ _).alloc (Nat.le_refl _) _;have hbx:=Bx3.new w2 (.slice lo pn lc) (.slice no nn nc) (.slice so N sc)
 have hzb:(w2.alloc (.cells #[.slice lo pn lc,.slice no nn nc,.slice so N sc] 203)).heap.size=w2.heap.size+1:=by simp
 have hskb:=hsk2.trans (Sk.of (bs:=bs) (bl:=bl) hb2);have hsvb:=hsv2.below hb2;have hsob:=hso2.below hb2;have hsz2:=hsk2.size;have hcb1:(w2.alloc (.cells #[.slice lo pn lc,.slice no nn nc,.slice so N sc] 203)).cell? ⟨w.heap.size,1,none⟩=some (.int .i64 (c:Int)):=(hb2.cell (p:=⟨w.heap.size,1,none⟩) (World.block_lt_of_cell? _ _ hc1)).trans hc1
 generalize w2.alloc (.cells #[.slice lo pn lc,.slice no nn nc,.slice so N sc] 203)=Wb at *;have htw:=hsvb.two;have HTw:Hid (zBz Wb bs bl):=htw;have HSob:Hid (∀ w',Sk bs bl Wb w'->zAy Pz w' m ps l code (.agg #[.slice lo pn lc,.slice no nn nc,.slice so N sc])):=fun w' h=>hsob.sk h htw
 have HBxb:Hid (∀ w',Sk bs bl Wb w'->(w'.cell? ⟨w2.heap.size,0,none⟩=some (.slice lo pn lc)/\w'.cell? ⟨w2.heap.size,1,none⟩=some (.slice no nn nc)/\w'.cell? ⟨w2.heap.size,2,none⟩=some (.slice so N sc))/\w'.cell? ⟨w.heap.size,1,none⟩=some (.int .i64 (c:Int))):=fun w' h=>⟨(hbx.sk h htw).1,h.cell htw hcb1⟩
 have HSvb:Hid (SvOk Pz w0 Wb B bs bl (n+1) va vr pv fv m ps l ho hc):=hsvb;have HSkb:Hid (Sk bs bl w Wb):=hskb;clear hst2 HR HC hsk2 hsv2 hso2 hc0 hc1 hb2 hbx hskb hsvb hsob hcb1 htw
 go_loopw [8,29] (fun u i wr=>∃ k:Nat,k <= nn/\i=.int .i64 k/\(∃ po pk pc,u=.slice po pk pc/\pk <= k*64/\Hid ((bt k).length=pk/\SpO wr Wb.heap.size (.slice po pk pc) (bt k)))/\Hid (Sk bs bl Wb wr/\SvOk Pz w0 wr B bs bl (n+1+k*65) va vr pv fv m ps l ho hc)) (fun _ i _=>nn - (intOf i).toNat)
 case atStart=>exact ⟨0,Nat.zero_le _,rfl,⟨none,0,0,rfl,Nat.zero_le _,by rw [HB0.out];rfl,by rw [HB0.out];exact SpO.nil _ _⟩,Sk.refl _ _ _,HSvb.out⟩
 case round=>
  obtain ⟨k,hkn,rfl,⟨po,pk,pc,rfl,hpk,HSp⟩,HSS⟩:=hrel
  by_cases hlt:k < nn
  ·obtain ⟨hskr,hsvr⟩:=HSS.out
   obtain ⟨nb,noff,rfl,hcell⟩:=HInt.out wr lo no so lc nc sc (HSob.out wr hskr) k hlt;have hin:=HNx.out k hlt;have hst:=HSt.out wr (n+1+k*65) _ (by omega) hin hsvr
   have hki:(k:Int) < (nn:Int):=by omega
   have HBk:=(show Hid _ from HBt.out k)
   have HSpk:Hid (∀ w',Sk bs bl wr w'->SpO w' Wb.heap.size (.slice po pk pc) (bt k)):=fun w' h=>HSp.out.2.sk h hsvr.two
   have HSl:Hid ((bt k).length=pk):=HSp.out.1
   have HFk:Hid (∀ (w':World) (n' d:Nat) (lo2 no2 so2:Option Addr) (lc2 nn2 nc2 sc2:Nat),n' < 1000000000000->d < N->SvOk Pz w0 w' B bs bl n' va vr pv fv m ps l ho hc->Sk bs bl Wb w'->zAy Pz w' m ps l ((zAB m code).getD k 0) (.agg #[.slice lo2 pn lc2,.slice no2 nn2 nc2,.slice so2 N sc2])->Calls Tryz.prog 116 #[.pointer (some ⟨B,0,none⟩),.agg #[.slice lo pn lc,.slice (some ⟨nb,noff,none⟩) nn nc,.slice so N sc],.int .i64 (c:Int),.agg #[.slice lo2 pn lc2,.slice no2 nn2 nc2,.slice so2 N sc2],.int .i64 (d:Int)] w' fun e w''=>e=.returned (.tuple #[.bool (zBM l (zAG m ps code) (c:Int) (zAG m ps ((zAB m code).getD k 0)) (d:Int)),.int .i64 0])/\Hid (Sk bs bl w' w''/\SvOk Pz w0 w'' B bs bl (n' + 1) va vr pv fv m ps l ho hc)):=fun w' n' d lo2 no2 so2 lc2 nn2 nc2 sc2 h1 h2 h3 h4 h5=>HFo.out w' n' d _ lo _ so lo2 no2 so2 lc nn nc sc lc2 nn2 nc2 sc2 h1 h2 hin h3 (HSob.out w' h4) h5
   have HF0:Hid (zC1 l (zAG m ps code) (c:Int) (zAG m ps ((zAB m code).getD k 0)) ((zAB m code).getD k 0) 0=[]):=rfl
   have HFS:Hid (∀ d:Nat,zC1 l (zAG m ps code) (c:Int) (zAG m ps ((zAB m code).getD k 0)) ((zAB m code).getD k 0) (d+1)=if zBM l (zAG m ps code) (c:Int) (zAG m ps ((zAB m code).getD k 0)) (d:Int)=true then zC1 l (zAG m ps code) (c:Int) (zAG m ps ((zAB m code).getD k 0)) ((zAB m code).getD k 0) d++[((zAB m code).getD k 0,(d:Int))] else zC1 l (zAG m ps code) (c:Int) (zAG m ps ((zAB m code).getD k 0)) ((zAB m code).getD k 0) d):=fun _=>rfl
   have HFl:Hid (∀ d,(zC1 l (zAG m ps code) (c:Int) (zAG m ps ((zAB m code).getD k 0)) ((zAB m code).getD k 0) d).length <= d):=zHQ _ _ _ _ _
   have HStk:Hid (∀ (w' w'':World) (v:Value),zAy Pz w' m ps l ((zAB m code).getD k 0) v->zBz w' bs bl->Sk bs bl w' w''->zAy Pz w'' m ps l ((zAB m code).getD k 0) v):=fun w' w'' v h1 h2 h3=>h1.sk h3 h2
   have HStg:Hid (∀ (w' w'':World) (v:Value) (own:Option Nat),zAy Pz w' m ps l ((zAB m code).getD k 0) v->w'.grownBy w'' own->(∀ g,own=some g->∃ cs fr,w'.heap[g]? = some (.cells cs 133 fr))->zAy Pz w'' m ps l ((zAB m code).getD k 0) v):=fun w' w'' v own h1 h2 h3=>h1.grown h2 h3
   have HStb:Hid (∀ (w':World) (v:Value) (o:Obj),zAy Pz w' m ps l ((zAB m code).getD k 0) v->zAy Pz (w'.alloc o) m ps l ((zAB m code).getD k 0) v):=fun w' v o h1=>h1.below ((Below.refl _ _).alloc (Nat.le_refl _) o)
   generalize zC1 l (zAG m ps code) (c:Int) (zAG m ps ((zAB m code).getD k 0)) ((zAB m code).getD k 0)=ft at *;generalize hfr:(fun d:Nat=>zBM l (zAG m ps code) (c:Int) (zAG m ps ((zAB m code).getD k 0)) (d:Int))=fr at *
   have HFr:Hid (∀ d:Nat,zBM l (zAG m ps code) (c:Int) (zAG m ps ((zAB m code).getD k 0)) (d:Int)=fr d):=fun d=>by rw [<- hfr]
   generalize hstk:(fun (w':World) (v:Value)=>zAy Pz w' m ps l ((zAB m code).getD k 0) v)=SK at *
   have HSK:Hid (∀ (w':World) (v:Value),zAy Pz w' m ps l ((zAB m code).getD k 0) v↔SK w' v):=fun w' v=>by rw [<- hstk]
   clear hfr hstk
   have hst':Calls Tryz.prog 115 #[.pointer (some ⟨B,0,none⟩),.int .i64 ((zAB m code).getD k 0)] wr fun e w''=>∃ lo lc no nn2 nc so sc,e=.returned (.tuple #[.agg #[.slice lo pn lc,.slice no nn2 nc,.slice so N sc],.int .i64 0])/\Hid (Sk bs bl wr w''/\SvOk Pz w0 w'' B bs bl (n+1+k*65+1) va vr pv fv m ps l ho hc/\SK w'' (.agg #[.slice lo pn lc,.slice no nn2 nc,.slice so N sc])):=hst.mono fun e w'' ⟨a1,a2,a3,a4,a5,a6,a7,h1,h2⟩=>⟨a1,a2,a3,a4,a5,a6,a7,h1,h2.out.1,h2.out.2.1,(HSK.out _ _).1 h2.out.2.2⟩
   clear hst HInt HSt HNx HBt HB0;generalize (zAB m code).getD k 0=cd at *;clear hsvr HSp
   go_wp2_with (first | (go_at_call 115;refine hst'.mono ?_;rintro e w3 ⟨lo2,lc2,no2,nn2,nc2,so2,sc2,rfl,HR3⟩;have hcl:=HCl.out _ _ (HR3.out.2.1.below ((Below.refl w3.heap.size w3).alloc (Nat.le_refl _) (.cells #[.slice lo2 pn lc2,.slice no2 nn2 nc2,.slice so2 N sc2] 203)))) | (go_at_call 77;refine hcl.mono ?_;rintro e w4 ⟨rfl,hw4⟩))
   have hbA:Below w3.heap.size w3 (w3.alloc (.cells #[.slice lo2 pn lc2,.slice no2 nn2 nc2,.slice so2 N sc2] 203)):=(Below.refl _ _).alloc (Nat.le_refl _) _
   have HIn:Hid (SpO (w3.alloc (.cells #[.slice lo2 pn lc2,.slice no2 nn2 nc2,.slice so2 N sc2] 203)) Wb.heap.size (.slice po pk pc) (bt k)/\Sk bs bl Wb (w3.alloc (.cells #[.slice lo2 pn lc2,.slice no2 nn2 nc2,.slice so2 N sc2] 203))/\SvOk Pz w0 (w3.alloc (.cells #[.slice lo2 pn lc2,.slice no2 nn2 nc2,.slice so2 N sc2] 203)) B bs bl (n+1+k*65+1) va vr pv fv m ps l ho hc/\SK (w3.alloc (.cells #[.slice lo2 pn lc2,.slice no2 nn2 nc2,.slice so2 N sc2] 203)) (.agg #[.slice lo2 pn lc2,.slice no2 nn2 nc2,.slice so2 N sc2])/\Bx3 (w3.alloc (.cells #[.slice lo2 pn lc2,.slice no2 nn2 nc2,.slice so2 N sc2] 203)) w3.heap.size (.slice lo2 pn lc2) (.slice no2 nn2 nc2) (.slice so2 N sc2)):=
    ⟨(HSpk.out w3 HR3.out.1).later hbA (Nat.le_refl _),(hskr.trans HR3.out.1).trans (Sk.of hbA),HR3.out.2.1.below hbA,(HSK.out _ _).1 (HStb.out _ _ _ ((HSK.out _ _).2 HR3.out.2.2)),Bx3.new _ _ _ _⟩
   clear HR3 HSpk hst' hcl hbA HStb;generalize w3.alloc (.cells #[.slice lo2 pn lc2,.slice no2 nn2 nc2,.slice so2 N sc2] 203)=Wc at *;have HSKk:Hid (∀ (w' w'':World) (v:Value),SK w' v->zBz w' bs bl->Sk bs bl w' w''->SK w'' v):=fun w' w'' v h1 h2 h3=>(HSK.out _ _).1 (HStk.out w' w'' v ((HSK.out _ _).2 h1) h2 h3)
   have HSKg:Hid (∀ (w' w'':World) (v:Value) (own:Option Nat),SK w' v->w'.grownBy w'' own->(∀ g,own=some g->∃ cs fr,w'.heap[g]? = some (.cells cs 133 fr))->SK w'' v):=fun w' w'' v own h1 h2 h3=>(HSK.out _ _).1 (HStg.out w' w'' v own ((HSK.out _ _).2 h1) h2 h3)
   have HSKa:Hid (∀ (w':World) (v:Value) (o:Obj),SK w' v->SK (w'.alloc o) v):=fun w' v o h1=>HSKg.out w' (w'.alloc o) v none h1 (World.grownBy_alloc w' o none) (fun g e=>by simp at e)
   have HFk2:Hid (∀ (w':World) (n' d:Nat),n' < 1000000000000->d < N->SvOk Pz w0 w' B bs bl n' va vr pv fv m ps l ho hc->Sk bs bl Wb w'->SK w' (.agg #[.slice lo2 pn lc2,.slice no2 nn2 nc2,.slice so2 N sc2])->Calls Tryz.prog 116 #[.pointer (some ⟨B,0,none⟩),.agg #[.slice lo pn lc,.slice (some ⟨nb,noff,none⟩) nn nc,.slice so N sc],.int .i64 (c:Int),.agg #[.slice lo2 pn lc2,.slice no2 nn2 nc2,.slice so2 N sc2],.int .i64 (d:Int)] w' fun e w''=>e=.returned (.tuple #[.bool (fr d),.int .i64 0])/\Hid (Sk bs bl w' w''/\SvOk Pz w0 w'' B bs bl (n' + 1) va vr pv fv m ps l ho hc)):=fun w' n' d h1 h2 h3 h4 h5=>by
    have:=HFk.out w' n' d lo2 no2 so2 lc2 nn2 nc2 sc2 h1 h2 h3 h4 ((HSK.out _ _).2 h5);rw [HFr.out] at this;exact this
   have HFS2:Hid (∀ d:Nat,ft (d+1)=if fr d=true then ft d++[(cd,(d:Int))] else ft d):=fun d=>by
    have:=HFS.out d;rw [HFr.out] at this;exact this
   clear HFk HFS HFr HSK HStk HStg HFo
   go_loopw [8,44] (fun u i wr2=>∃ d:Nat,d <= N/\i=.int .i64 d/\(∃ po pk2 pc,u=.slice po pk2 pc/\pk2 <= pk+d/\Hid ((bt k++ft d).length=pk2/\SpO wr2 Wb.heap.size (.slice po pk2 pc) (bt k++ft d)))/\Hid (Sk bs bl Wb wr2/\SvOk Pz w0 wr2 B bs bl (n+1+k*65+1+d) va vr pv fv m ps l ho hc/\SK wr2 (.agg #[.slice lo2 pn lc2,.slice no2 nn2 nc2,.slice so2 N sc2])/\Bx3 wr2 w3.heap.size (.slice lo2 pn lc2) (.slice no2 nn2 nc2) (.slice so2 N sc2))) (fun _ i _=>N - (intOf i).toNat)
   case atStart=>exact ⟨0,Nat.zero_le _,rfl,⟨po,pk,pc,rfl,Nat.le_refl _,by rw [HF0.out,List.append_nil];exact HSl.out,by rw [HF0.out,List.append_nil];exact HIn.out.1⟩,HIn.out.2⟩
   case round=>
    obtain ⟨d,hdN,rfl,⟨po2,pk2,pc2,rfl,hpk2,HSp2⟩,HS2⟩:=hrel
    by_cases hd:d < N
    ·obtain ⟨hsk2,hsv2,hSK2,hbx2⟩:=HS2.out
     have hfo:=HFk2.out _ (n+1+k*65+1+d) d (by omega) hd hsv2 hsk2 hSK2
     obtain ⟨⟨x0,x1,x2⟩,x3⟩:=HBxb.out _ hsk2;obtain ⟨⟨z0,z1,z2⟩,_⟩:=id hbx2;have htw2:=hsv2.two;have HE:=(show Hid _ from HFS2.out d)
     have HNx2:Hid (∀ w',Sk bs bl wr w'->SpO w' Wb.heap.size (.slice po2 pk2 pc2) (bt k++ft d)/\Sk bs bl Wb w'/\SK w' (.agg #[.slice lo2 pn lc2,.slice no2 nn2 nc2,.slice so2 N sc2])/\Bx3 w' w3.heap.size (.slice lo2 pn lc2) (.slice no2 nn2 nc2) (.slice so2 N sc2)):=fun w' h=>⟨HSp2.out.2.sk h htw2,hsk2.trans h,HSKk.out _ _ _ hSK2 htw2 h,hbx2.sk h htw2⟩
     have HSl2:Hid ((bt k++ft d).length=pk2):=HSp2.out.1;clear hskr
     cases hfd:fr d with
     | false=>
      rw [hfd] at hfo HE;have HE2:Hid (ft (d+1)=ft d):=by have:=HE.out;rw [if_neg (by simp)] at this;exact this
      clear HE hsv2 hSK2 hbx2 HSp2 HS2 hfd
      go_wp2_with (first | (go_at_call 116;refine hfo.mono ?_;rintro e w5 ⟨rfl,HR5⟩))
      obtain ⟨q1,q2,q3,q4⟩:=HNx2.out _ HR5.out.1
      have HQ:=(show Hid (SpO w5 Wb.heap.size (.slice po2 pk2 pc2) (bt k++ft d)/\Sk bs bl Wb w5/\SvOk Pz w0 w5 B bs bl (n+1+k*65+1+d+1) va vr pv fv m ps l ho hc/\SK w5 (.agg #[.slice lo2 pn lc2,.slice no2 nn2 nc2,.slice so2 N sc2])/\Bx3 w5 w3.heap.size (.slice lo2 pn lc2) (.slice no2 nn2 nc2) (.slice so2 N sc2)) from ⟨q1,q2,HR5.out.2,q3,q4⟩)
      clear q1 q2 q3 q4 HR5
      go_roundw
      case rel=>exact ⟨d+1,by omega,by go_num,⟨po2,pk2,pc2,rfl,by omega,by rw [HE2.out];exact HSl2.out,by rw [HE2.out];exact HQ.out.1⟩,HQ.out.2⟩
      case measure=>simp [intOf];omega
     | true=>
      rw [hfd] at hfo HE;have HE2:Hid (ft (d+1)=ft d++[(cd,(d:Int))]):=by have:=HE.out;rw [if_pos rfl] at this;exact this
      clear HE hsv2 hSK2 hbx2 HSp2 HS2 hfd
      go_wp2_with (first | (go_at_call 116;refine hfo.mono ?_;rintro e w5 ⟨rfl,HR5⟩;obtain ⟨q1,q2,q3,q4⟩:=HNx2.out _ HR5.out.1;have HQ:=(show Hid (SpO w5 Wb.heap.size (.slice po2 pk2 pc2) (bt k++ft d)/\Sk bs bl Wb w5/\SvOk Pz w0 w5 B bs bl (n+1+k*65+1+d+1) va vr pv fv m ps l ho hc/\SK w5 (.agg #[.slice lo2 pn lc2,.slice no2 nn2 nc2,.slice so2 N sc2])/\Bx3 w5 w3.heap.size (.slice lo2 pn lc2) (.slice no2 nn2 nc2) (.slice so2 N sc2)) from ⟨q1,q2,HR5.out.2,q3,q4⟩);clear q1 q2 q3 q4 HR5;have hsp5:=HQ.out.1;have hsz5:=HQ.out.2.1.size) | (at_builtin;refine zLy cd (d:Int) rfl _ _ rfl Wb.heap.size pk2 pc2 po2 (bt k++ft d) HSl2.out rfl hsp5 rfl (by omega) hsz5 ?_;intro vo6 cap6 w6 ho6 hb6 hg6))
      have hown:=hsp5.own (.cells #[.int .i64 cd,.int .i64 (d:Int)] 133)
      have HQ6:Hid (SpO w6 Wb.heap.size (.slice vo6 (pk2+1) cap6) (bt k++ft d++[(cd,(d:Int))])/\Sk bs bl Wb w6/\SvOk Pz w0 w6 B bs bl (n+1+k*65+1+d+1) va vr pv fv m ps l ho hc/\SK w6 (.agg #[.slice lo2 pn lc2,.slice no2 nn2 nc2,.slice so2 N sc2])/\Bx3 w6 w3.heap.size (.slice lo2 pn lc2) (.slice no2 nn2 nc2) (.slice so2 N sc2)):=by
       have ha:Below w5.heap.size w5 (w5.alloc (.cells #[.int .i64 cd,.int .i64 (d:Int)] 133)):=(Below.refl _ _).alloc (Nat.le_refl _) _;refine ⟨ho6,HQ.out.2.1.after hb6,(HQ.out.2.2.1.below ha).spots hg6 (fun g e=>?_),HSKg.out _ _ _ _ (HSKa.out _ _ _ HQ.out.2.2.2.1) hg6 (fun g e=>(hown g e).2),(HQ.out.2.2.2.2.below ha).grown hg6 (fun g e=>(hown g e).2)⟩
       obtain ⟨h1,h2⟩:=hown g e;have:=HSkb.out.size;exact ⟨by omega,by omega,h2⟩
      clear hown ho6 hb6 hg6 hsp5 HQ
      go_wp2_with fail
      go_roundw
      case rel=>exact ⟨d+1,by omega,by go_num,⟨vo6,pk2+1,cap6,rfl,by omega,by rw [HE2.out,<- List.append_assoc,List.length_append,HSl2.out];rfl,by rw [HE2.out,<- List.append_assoc];exact HQ6.out.1⟩,HQ6.out.2⟩
      case measure=>simp [intOf];omega
    ·obtain rfl:d=N:=by omega
     have HSl2:Hid ((bt (k+1)).length=pk2/\SpO wr Wb.heap.size (.slice po2 pk2 pc2) (bt (k+1))):=by rw [HBk.out];exact HSp2.out
     have HS3:Hid (Sk bs bl Wb wr/\SvOk Pz w0 wr B bs bl (n+1+(k+1)*65) va vr pv fv m ps l ho hc):=⟨HS2.out.1,HS2.out.2.1.mono (by omega)⟩
     clear HSp2 HS2
     go_wp2_with fail
     go_roundw
     case rel=>exact ⟨k+1,by omega,by go_num,⟨po2,pk2,pc2,rfl,by omega,HSl2.out.1,HSl2.out.2⟩,HS3⟩
     case measure=>simp [intOf];omega
  ·obtain rfl:k=nn:=by omega
   have HSl:Hid ((bt k).length=pk):=HSp.out.1;have HSpp:Hid (SpO wr Wb.heap.size (.slice po pk pc) (bt k)):=HSp.out.2;have hwb:w.heap.size <= Wb.heap.size:=HSkb.out.size;clear HSp
   go_wp2_with fail
   go_ret2
   exact ⟨HSkb.out.trans HSS.out.1,HSS.out.2.mono (by omega),.inl ⟨HW.out,po,pc,by rw [HSl.out];rfl,by rw [HSl.out];exact zAw HSpp.out hwb⟩⟩
end Go.Proofs.YtiimhhjkgeepjaaGreatDoor
namespace Go.Proofs.YtiimhhjkgeepjaaGreatDoor
open Go.ChangeShapes Go.WideShapes Go.ChangeAt Go.RowKit Go.Deep Go.Maps
open Terms Tm
set_option maxHeartbeats 6400000
set_option maxRecDepth 20000
section
variable {w w1 w2 : World} {base A lm : Nat} {S : List (Int × Int)} {N : List (List Int)} {T : List Int} {init many : Int} {sv nv tv nv' tv' : Value}
theorem AtX.appN {us:List Value} {r:List Int} {ao:Option Addr} {c:Nat} (h:AtX w1 base A lm S N T init many sv nv tv) (hus:w1.ownsRow base 37 1 nv N.length us/\us.length=N.length/\∀ i,i < N.length->∃ ao c,us.getD i (.slice none 0 0)=.slice ao (N.getD i []).length c/\zAD w1 (.slice ao (N.getD i []).length c) (N.getD i [])/\zAe w1 (.slice ao (N.getD i []).length c) 3/\∀ a,ao=some a->tv.ownBlock≠some a.block/\base <= a.block)
    (hr:zAD w1 (.slice ao r.length c) r) (hty:zAe w1 (.slice ao r.length c) 3) (hap:∀ a,ao=some a->tv.ownBlock≠some a.block/\base <= a.block) (hg:w1.grownBy w2 nv.ownBlock) (ho:w2.ownsRow base 37 1 nv' (N.length+1) (us++[.slice ao r.length c])):AtX (w2.setCell ⟨A,2,none⟩ nv') base A lm S (N++[r]) T init many sv nv' tv:=by
  obtain ⟨n1,n2,n3⟩:=hus;obtain ⟨es,cl,em⟩:=h.lies.isMap;have hc:Chg (fun i=>i=A\/nv.ownBlock=some i) w1 (w2.setCell ⟨A,2,none⟩ nv'):=((Chg.grown hg).weaken (fun i _ e=>.inr e)).trans2 (Chg.setCell w2 _ _) (fun i _ e=>.inl e)
  have hno:∀ i t,(i=A\/nv.ownBlock=some i)->TyB w1 i t->t=129\/t=37:=fun i t z ht=>by
    rcases z with rfl | e
    · exact .inl (ht.eq h.ty)
    · exact .inr (ht.eq (zAd n1 e).2)
  have hni:∀ i,(i=A\/nv.ownBlock=some i)->¬ TyB w1 i 3:=fun i z ht=>by
    rcases hno i _ z ht with e | e
    · exact absurd e (by decide)
    · exact absurd e (by decide)
  have hns:∀ i,(i=A\/nv.ownBlock=some i)->¬ TyB w1 i 133:=fun i z ht=>by
    rcases hno i _ z ht with e | e
    · exact absurd e (by decide)
    · exact absurd e (by decide)
  have hnm:∀ i,(i=A\/nv.ownBlock=some i)->i≠lm:=fun i z e=>by
    subst e
    rcases z with rfl | e
    · exact h.ty.no_map em
    · exact (zAd n1 e).2.no_map em
  have hbx:w2.heap[A]? = some (atB sv nv tv init many lm):=(hg.block A h.lt fun e=>by have:=h.ty.eq (zAd n1 e.symm).2;exact absurd this (by decide)).trans h.box
  have hA2:TyB w2 A 129:=⟨_,_,hbx⟩;refine ⟨zP2 w2 hbx nv',h.bA,h.bl,h.lies.kept (hc.block lm h.lies.lt (fun z=>hnm _ z rfl)),zBV h.sp hc (fun g e z=>hns g z (zAd h.sp e).2),⟨us++[.slice ao r.length c],?_,by simp [n2],fun i hi=>?_⟩,zBV h.st hc (fun g e z=>hni g z (zAd h.st e).2)⟩
  · rw [List.length_append,List.length_singleton]
    exact zBV ho (Chg.setCell w2 _ _) (fun g e z=>by
      have h1:=(zAd ho e).2;have z':g=A:=z;subst z'
      exact absurd (h1.eq hA2) (by decide))
  · have hget:∀ (α:Type) (x y:List α) (d:α) (j:Nat),(x++y).getD j d=if j < x.length then x.getD j d else y.getD (j - x.length) d:=fun α x y d j=>by
      by_cases hj:j < x.length
      · rw [if_pos hj];simp [List.getD_eq_getElem?_getD,List.getElem?_append_left hj]
      · rw [if_neg hj];simp [List.getD_eq_getElem?_getD,List.getElem?_append_right (Nat.le_of_not_lt hj)]
    by_cases hlt:i < N.length
    · obtain ⟨ao',c',e1,e2,e3,e4⟩:=n3 i hlt
      have hz:∀ a,ao'=some a->¬ (a.block=A\/nv.ownBlock=some a.block):=fun a e z=>hni _ z (by subst e;exact e3.ty)
      rw [hget,hget,n2,if_pos hlt,if_pos hlt];exact ⟨ao',c',e1,e2.chg hc hz,e3.chg hc hz,e4⟩
    · have hi2:i=N.length:=by simp at hi;omega
      have hz:∀ a,ao=some a->¬ (a.block=A\/nv.ownBlock=some a.block):=fun a e z=>hni _ z (by subst e;exact hty.ty)
      rw [hget,hget,n2,if_neg hlt,if_neg hlt,hi2,Nat.sub_self];exact ⟨ao,c,rfl,hr.chg hc hz,hty.chg hc hz,hap⟩
theorem AtX.appT {x:Int} (h:AtX w1 base A lm S N T init many sv nv tv) (hg:w1.grownBy w2 tv.ownBlock) (ho:w2.ownsRow base 3 1 tv' (T.length+1) (zAL T++[.int .i64 x])) (hown:tv'.ownBlock=tv.ownBlock\/∃ g,tv'.ownBlock=some g/\w1.heap.size <= g):AtX (w2.setCell ⟨A,3,none⟩ tv') base A lm S N (T++[x]) init many sv nv tv':=by
 obtain ⟨us,n1,n2,n3⟩:=id h.nx;obtain ⟨es,cl,em⟩:=h.lies.isMap;have hc:Chg (fun i=>i=A\/tv.ownBlock=some i) w1 (w2.setCell ⟨A,3,none⟩ tv'):=((Chg.grown hg).weaken (fun i _ e=>.inr e)).trans2 (Chg.setCell w2 _ _) (fun i _ e=>.inl e)
 have hno:∀ i t,(i=A\/tv.ownBlock=some i)->TyB w1 i t->t=129\/t=3:=fun i t z ht=>by
  rcases z with rfl | e
  ·exact .inl (ht.eq h.ty)
  ·exact .inr (ht.eq (zAd h.st e).2)
 have hnl:∀ i,(i=A\/tv.ownBlock=some i)->¬ TyB w1 i 37:=fun i z ht=>by
  rcases hno i _ z ht with e | e
  ·exact absurd e (by decide)
  ·exact absurd e (by decide)
 have hns:∀ i,(i=A\/tv.ownBlock=some i)->¬ TyB w1 i 133:=fun i z ht=>by
  rcases hno i _ z ht with e | e
  ·exact absurd e (by decide)
  ·exact absurd e (by decide)
 have hnm:∀ i,(i=A\/tv.ownBlock=some i)->i≠lm:=fun i z e=>by
  subst e
  rcases z with rfl | e
  ·exact h.ty.no_map em
  ·exact (zAd h.st e).2.no_map em
 have hbx:w2.heap[A]? = some (atB sv nv tv init many lm):=(hg.block A h.lt fun e=>by have:=h.ty.eq (zAd h.st e.symm).2;exact absurd this (by decide)).trans h.box
 have hA2:TyB w2 A 129:=⟨_,_,hbx⟩;refine ⟨zQe w2 hbx tv',h.bA,h.bl,h.lies.kept (hc.block lm h.lies.lt (fun z=>hnm _ z rfl)),zBV h.sp hc (fun g e z=>hns g z (zAd h.sp e).2),⟨us,zBV n1 hc (fun g e z=>hnl g z (zAd n1 e).2),n2,fun i hi=>?_⟩,?_⟩
 ·obtain ⟨ao',c',e1,e2,e3,e4⟩:=n3 i hi
  have hz:∀ a,ao'=some a->¬ (a.block=A\/tv.ownBlock=some a.block):=fun a e z=>by
   rcases z with z | z
   ·subst e
    have:=e3.ty;rw [z] at this;exact absurd (this.eq h.ty) (by decide)
   ·exact (e4 a e).1 z
  refine ⟨ao',c',e1,e2.chg hc hz,e3.chg hc hz,fun a e=>⟨fun e5=>?_,(e4 a e).2⟩⟩
  rcases hown with h1 | ⟨g,h1,h2⟩
  ·rw [h1] at e5
   exact (e4 a e).1 e5
  ·rw [h1] at e5
   injection e5 with e5
   subst e;have:=e3.ty.lt;omega
 ·have e:zAL (T++[x])=zAL T++[.int .i64 x]:=by simp [zAL]
  rw [e,List.length_append,List.length_singleton]
  exact zBV ho (Chg.setCell w2 _ _) (fun g e z=>by
   have h1:=(zAd ho e).2;have z':g=A:=z;subst z'
   exact absurd (h1.eq hA2) (by decide))
end
section
variable {Pz Pz' : Nat -> Prop} {w0 w w' : World} {B bs bl n : Nat} {va vr pv fv : Value} {m : Mo} {ps : List (List (Int × Int))} {l : List (Int × Int)} {ho : Option Addr} {hc : Nat}
theorem SvOk.chg2 {Z:Nat->Prop} (h:SvOk Pz w0 w B bs bl n va vr pv fv m ps l ho hc) (hs:Chg Z w w') (hz:∀ i,Z i->w0.heap.size <= i/\i≠B/\i≠bs/\i≠bl/\¬ TyB w i 4/\(TyB w i 3->¬ Pz i)) (hp:∀ b,b < w.heap.size->Pz b->Pz' b) (hup:∀ b,w'.heap.size <= b->Pz' b):SvOk Pz' w0 w' B bs bl n va vr pv fv m ps l ho hc:=by
 have k:=h.chg hs hz;obtain ⟨f,h1,h2⟩:=h.st;have zs:¬ Z bs:=fun z=>(hz _ z).2.2.1 rfl
 refine ⟨k.box,k.bel,k.lo1,k.lo2,k.ne,k.ah,k.aty,hup,fun a e=>hp _ (by have:=h.aty;rw [e] at this;exact this.ty.lt) (h.aP a e),⟨f,h1.chg hs zs,fun kl v hv=>?_⟩,k.li⟩
 obtain ⟨code,e1,e2,e3⟩:=h2 kl v hv;obtain ⟨lo,lc,no,nc,so,sc,g1,g2,g3,g4,g5,g6,g7,g8,g9⟩:=e3.chg hs fun i z=>(hz i z).2.2.2.2
 obtain ⟨lo',lc',no',nc',so',sc',g1',_,_,_,_,g6',g7',_,_⟩:=e3;rw [g1] at g1';simp only [Value.agg.injEq,Array.mk.injEq,List.cons.injEq,Value.slice.injEq,and_true,true_and] at g1';obtain ⟨⟨rfl,rfl⟩,⟨rfl,rfl⟩,rfl,rfl⟩:=g1'
 exact ⟨code,e1,e2,lo,lc,no,nc,so,sc,g1,g2,g3,g4,g5,g6,g7,fun a e=>by subst e;exact hp _ g6'.ty.lt (g8 a rfl),fun a e=>by subst e;exact hp _ g7'.ty.lt (g9 a rfl)⟩
end
def zQX (tv:Value):Nat->Prop:=fun b=>tv.ownBlock≠some b
structure ExW (w0 w:World) (base A lm B bs bl n:Nat) (va vr pv fv:Value) (m:Mo) (ps:List (List (Int × Int))) (l:List (Int × Int)) (ho:Option Addr) (hc:Nat) (S:List (Int × Int)) (N:List (List Int)) (T:List Int) (init many:Int) (sv nv tv:Value):Prop where
 su:SvOk (zQX tv) w0 w B bs bl n va vr pv fv m ps l ho hc
 tl:AtX w base A lm S N T init many sv nv tv
 lo:w0.heap.size <= base/\B < base/\bs < base/\bl < base
section
variable {w0 w w' w1 w2 : World} {base A lm B bs bl n n' : Nat} {va vr pv fv : Value} {m : Mo} {ps : List (List (Int × Int))} {l : List (Int × Int)} {ho : Option Addr} {hc : Nat} {S S' : List (Int × Int)} {N : List (List Int)} {T : List Int} {init many : Int} {sv sv' nv tv nv' tv' : Value}
theorem ExW.below (h:ExW w0 w base A lm B bs bl n va vr pv fv m ps l ho hc S N T init many sv nv tv) (hb:Below w.heap.size w w'):ExW w0 w' base A lm B bs bl n va vr pv fv m ps l ho hc S N T init many sv nv tv:=⟨h.su.below hb,h.tl.below hb,h.lo⟩
theorem ExW.call (h:ExW w0 w base A lm B bs bl n va vr pv fv m ps l ho hc S N T init many sv nv tv) (hs:Sk bs bl w w') (hv:SvOk (zQX tv) w0 w' B bs bl n' va vr pv fv m ps l ho hc):ExW w0 w' base A lm B bs bl n' va vr pv fv m ps l ho hc S N T init many sv nv tv:=
 ⟨hv,h.tl.sk hs h.su.two (by have:=h.tl.bl;have:=h.lo;omega) (by have:=h.tl.bl;have:=h.lo;omega),h.lo⟩
theorem ExW.far (h:ExW w0 w base A lm B bs bl n va vr pv fv m ps l ho hc S N T init many sv nv tv) {i:Nat} (hi:base <= i):w0.heap.size <= i/\i≠B/\i≠bs/\i≠bl:=by
 have:=h.lo;omega
theorem ExW.put (h:ExW w0 w base A lm B bs bl n va vr pv fv m ps l ho hc S N T init many sv nv tv) (hs:Chg (atZ A lm sv) w w') (hX:AtX w' base A lm S' N T init many sv' nv tv):ExW w0 w' base A lm B bs bl n va vr pv fv m ps l ho hc S' N T init many sv' nv tv:=by
 refine ⟨h.su.chg hs fun i z=>?_,hX,h.lo⟩
 obtain ⟨es,c,em⟩:=h.tl.lies.isMap
 rcases z with rfl | rfl | e
 ·obtain ⟨a,b,c,d⟩:=h.far h.tl.bA
  exact ⟨a,b,c,d,fun ht=>absurd (ht.eq h.tl.ty) (by decide),fun ht=>absurd (ht.eq h.tl.ty) (by decide)⟩
 ·obtain ⟨a,b,c,d⟩:=h.far h.tl.bl
  exact ⟨a,b,c,d,fun ht=>absurd em ht.no_map,fun ht=>absurd em ht.no_map⟩
 ·obtain ⟨o1,o2⟩:=zAd h.tl.sp e
  obtain ⟨a,b,c,d⟩:=h.far o1;exact ⟨a,b,c,d,fun ht=>absurd (ht.eq o2) (by decide),fun ht=>absurd (ht.eq o2) (by decide)⟩
theorem ExW.appN {us:List Value} {r:List Int} {ao:Option Addr} {c:Nat} (h:ExW w0 w1 base A lm B bs bl n va vr pv fv m ps l ho hc S N T init many sv nv tv) (hus:w1.ownsRow base 37 1 nv N.length us/\us.length=N.length/\∀ i,i < N.length->∃ ao c,us.getD i (.slice none 0 0)=.slice ao (N.getD i []).length c/\zAD w1 (.slice ao (N.getD i []).length c) (N.getD i [])/\zAe w1 (.slice ao (N.getD i []).length c) 3/\∀ a,ao=some a->tv.ownBlock≠some a.block/\base <= a.block)
  (hr:zAD w1 (.slice ao r.length c) r) (hty:zAe w1 (.slice ao r.length c) 3) (hap:∀ a,ao=some a->tv.ownBlock≠some a.block/\base <= a.block) (hg:w1.grownBy w2 nv.ownBlock) (ho':w2.ownsRow base 37 1 nv' (N.length+1) (us++[.slice ao r.length c])):ExW w0 (w2.setCell ⟨A,2,none⟩ nv') base A lm B bs bl n va vr pv fv m ps l ho hc S (N++[r]) T init many sv nv' tv:=by
 have hch:Chg (fun i=>i=A\/nv.ownBlock=some i) w1 (w2.setCell ⟨A,2,none⟩ nv'):=((Chg.grown hg).weaken (fun i _ e=>.inr e)).trans2 (Chg.setCell w2 _ _) (fun i _ e=>.inl e)
 refine ⟨h.su.chg hch fun i z=>?_,h.tl.appN hus hr hty hap hg ho',h.lo⟩
 rcases z with rfl | e
 ·obtain ⟨a,b,c,d⟩:=h.far h.tl.bA
  exact ⟨a,b,c,d,fun ht=>absurd (ht.eq h.tl.ty) (by decide),fun ht=>absurd (ht.eq h.tl.ty) (by decide)⟩
 ·obtain ⟨o1,o2⟩:=zAd hus.1 e
  obtain ⟨a,b,c,d⟩:=h.far o1;exact ⟨a,b,c,d,fun ht=>absurd (ht.eq o2) (by decide),fun ht=>absurd (ht.eq o2) (by decide)⟩
theorem ExW.appT {x:Int} (h:ExW w0 w1 base A lm B bs bl n va vr pv fv m ps l ho hc S N T init many sv nv tv) (hg:w1.grownBy w2 tv.ownBlock) (ho':w2.ownsRow base 3 1 tv' (T.length+1) (zAL T++[.int .i64 x])) (hown:tv'.ownBlock=tv.ownBlock\/∃ g,tv'.ownBlock=some g/\w1.heap.size <= g):ExW w0 (w2.setCell ⟨A,3,none⟩ tv') base A lm B bs bl n va vr pv fv m ps l ho hc S N (T++[x]) init many sv nv tv':=by
 have hch:Chg (fun i=>i=A\/tv.ownBlock=some i) w1 (w2.setCell ⟨A,3,none⟩ tv'):=((Chg.grown hg).weaken (fun i _ e=>.inr e)).trans2 (Chg.setCell w2 _ _) (fun i _ e=>.inl e)
 have hX:=h.tl.appT hg ho' hown;refine ⟨h.su.chg2 hch (fun i z=>?_) (fun b hb hp=>?_) (fun b hb e=>?_),hX,h.lo⟩
 ·rcases z with rfl | e
  ·obtain ⟨a,b,c,d⟩:=h.far h.tl.bA
   exact ⟨a,b,c,d,fun ht=>absurd (ht.eq h.tl.ty) (by decide),fun ht=>absurd (ht.eq h.tl.ty) (by decide)⟩
  ·obtain ⟨o1,o2⟩:=zAd h.tl.st e
   obtain ⟨a,b,c,d⟩:=h.far o1;exact ⟨a,b,c,d,fun ht=>absurd (ht.eq o2) (by decide),fun _ hp=>hp e⟩
 ·intro e
  rcases hown with h1 | ⟨g,h1,h2⟩
  ·rw [h1] at e
   exact hp e
  ·rw [h1] at e
   injection e with e
   omega
 ·have:=(zAd hX.st e).2.lt
  omega
end
theorem zSy:(Tryz.prog.info? 37).map (fun i=>(i.zero,i.size,i.bytes))=some (some (.slice none 0 0),1,24):=by kernel_rfl
theorem zIY {l:List (Int × Int)} {x:List Bool} {c:Int} {y:List Bool} {st:Int} {p:Int × Int}:∀ k,p∈zC1 l x c y st k->p.1=st/\∃ d:Nat,d < k/\p.2=(d:Int)/\zBM l x c y (d:Int)=true
 | 0,h=>by simp [zC1] at h
 | k+1,h=>by
  rw [zC1] at h
  split at h
  ·next hf=>
   rw [List.mem_append,List.mem_singleton] at h
   rcases h with h | rfl
   ·obtain ⟨h1,d,h2,h3⟩:=zIY k h
    exact ⟨h1,d,by omega,h3⟩
   ·exact ⟨rfl,k,by omega,rfl,hf⟩
  ·obtain ⟨h1,d,h2,h3⟩:=zIY k h
   exact ⟨h1,d,by omega,h3⟩
theorem zGu {m:Mo} {ps:List (List (Int × Int))} {l:List (Int × Int)} {code c:Int} {p:Int × Int}:∀ i,i <= (zAB m code).length->p∈zCu m ps l code c i->p.1∈zAB m code/\∃ d:Nat,d < 2 ^ (zAA l).length/\p.2=(d:Int)/\zBM l (zAG m ps code) c (zAG m ps p.1) (d:Int)=true
 | 0,_,h=>by simp [zCu] at h
 | i+1,hi,h=>by
  rw [zCu,List.mem_append] at h
  rcases h with h | h
  ·exact zGu i (by omega) h
  ·obtain ⟨h1,d,h2,h3,h4⟩:=zIY _ h
   refine ⟨?_,d,h2,h3,by rw [h1];exact h4⟩
   rw [h1,List.getD_eq_getElem?_getD,List.getElem?_eq_getElem (by omega)]
   exact List.getElem_mem _
theorem zI0 {m:Mo} {ps:List (List (Int × Int))} {l:List (Int × Int)} {code c:Int} (hm:mcode m=0) (hcr:0 <= code/\code < zAC m.vars m.vars.length) {p:Int × Int} (h:p∈zAl m ps l code c):(0 <= p.1/\p.1 < zAC m.vars m.vars.length)/\∃ d:Nat,d < 2 ^ (zAA l).length/\p.2=(d:Int):=by
 obtain ⟨h1,d,h2,h3,_⟩:=zGu _ (Nat.le_refl _) h;exact ⟨zEl hm hcr h1,d,h2,h3⟩
theorem zJy {m:Mo} {ps:List (List (Int × Int))} {l:List (Int × Int)} {code c:Int} (hm:mcode m=0) (hcr:0 <= code/\code < zAC m.vars m.vars.length) (h6:(zAA l).length <= 6):(zAl m ps l code c).length <= 262144:=by
 have h1:=zGb (m:=m) (ps:=ps) (l:=l) (Nat.pow_le_pow_right (show 0 < 2 by decide) h6) code c (zAB m code).length
 have h2:=zI5 hm hcr;unfold zAl;omega
theorem zKQ {m:Mo} {ps:List (List (Int × Int))} {l:List (Int × Int)} (hk:zAK m ps l=0) {p:Int × Int} (h:(0 <= p.1/\p.1 < zAC m.vars m.vars.length)/\∃ d:Nat,d < 2 ^ (zAA l).length/\p.2=(d:Int)):zEG p:=by
 obtain ⟨hp0,hl0⟩:=zA3 hk;obtain ⟨hm0,_⟩:=zBJ hp0;obtain ⟨_,_,_,_,h6⟩:=zAv hl0;have hpr:=((zAt hm0).prod (Nat.le_refl m.vars.length)).2;have hN64:2 ^ (zAA l).length <= 64:=Nat.pow_le_pow_right (show 0 < 2 by decide) h6
 obtain ⟨h1,d,h2,h3⟩:=h;unfold zEG;omega
def zKm (w0:World) (base A lm B bs bl n:Nat) (va vr pv fv:Value) (m:Mo) (ps:List (List (Int × Int))) (l:List (Int × Int)) (ho:Option Addr) (hc:Nat) (S:List (Int × Int)) (N:List (List Int)) (T:List Int) (init many:Int) (code:Int) (c:Nat) (e:Ending) (w':World):Prop:=
 e=.returned (.int .i64 (if 20000 < (zAb S (zAl m ps l code (c:Int))).length then 12 else 0))/\∃ sv nv tv,Hid (ExW w0 w' base A lm B bs bl (n+300001) va vr pv fv m ps l ho hc (zAb S (zAl m ps l code (c:Int))) (N++[zDj S (zAl m ps l code (c:Int))]) (T++[zCW l (zAG m ps code) (c:Int)]) init many sv nv tv)
theorem zJc (w0 w:World) (base A lm B bs bl n:Nat) (va vr pv fv:Value) (m:Mo) (ps:List (List (Int × Int))) (l:List (Int × Int)) (ho:Option Addr) (hc:Nat) (S:List (Int × Int)) (N:List (List Int)) (T:List Int) (init many:Int) (sv nv tv:Value) (code:Int) (c:Nat) (hB:0 < w0.heap.size) (hT:zAJ w0) (hV:TaskV w0 va vr pv fv m ps l) (hk:zAK m ps l=0) (hX:ExW w0 w base A lm B bs bl n va vr pv fv m ps l ho hc S N T init many sv nv tv) (hn:n+600000 < 1000000000000) (hcr:0 <= code/\code < zAC m.vars m.vars.length) (hcN:c < 2 ^ (zAA l).length) (hzS:S.length <= 20000) (hzN:N.length <= 20000) (hzT:T.length <= 20000) :
  Calls Tryz.prog 54 #[.pointer (some ⟨A,0,none⟩),.pointer (some ⟨B,0,none⟩),.agg #[.int .i64 code,.int .i64 (c:Int)]] w (zKm w0 base A lm B bs bl n va vr pv fv m ps l ho hc S N T init many code c):=by
 obtain ⟨hp0,hl0⟩:=zA3 hk;obtain ⟨hm0,_⟩:=zBJ hp0;obtain ⟨_,_,_,_,h6⟩:=zAv hl0;have hpr:=((zAt hm0).prod (Nat.le_refl m.vars.length)).2;have hI:-9223372036854775808 <= code/\code <= 9223372036854775807:=by omega
 have hbl:=zJy (ps:=ps) (c:=(c:Int)) hm0 hcr h6;have hIs:∀ j,j < (zAl m ps l code (c:Int)).length->zEG ((zAl m ps l code (c:Int)).getD j (0,0)):=fun j hj=>zKQ hk (zI0 hm0 hcr (c:=(c:Int)) (ps:=ps) (by rw [List.getD_eq_getElem?_getD,List.getElem?_eq_getElem hj];exact List.getElem_mem _))
 have hw0:=zBk hm0 hcr;obtain ⟨W1,hW1⟩:∃ W1,W1=w.alloc (.cells #[.int .i64 code,.int .i64 (c:Int)] 133):=⟨_,rfl⟩
 have hb1:Below w.heap.size w W1:=by rw [hW1];exact (Below.refl _ _).alloc (Nat.le_refl _) _
 have hs1:W1.cell? ⟨w.heap.size,0,none⟩=some (.int .i64 code)/\W1.cell? ⟨w.heap.size,1,none⟩=some (.int .i64 (c:Int)):=by rw [hW1];constructor <;> simp [go_sem]
 have hX1:=hX.below hb1
 have hbe:Calls Tryz.prog 79 #[.pointer (some ⟨B,0,none⟩),.agg #[.int .i64 code,.int .i64 (c:Int)]] W1 fun e w2=>∃ so sc,e=.returned (.tuple #[.slice so (zAl m ps l code (c:Int)).length sc,.int .i64 0])/\(w2.cell? ⟨w.heap.size,0,none⟩=some (.int .i64 code)/\w2.cell? ⟨w.heap.size,1,none⟩=some (.int .i64 (c:Int)))/\Hid (ExW w0 w2 base A lm B bs bl (n+300000) va vr pv fv m ps l ho hc S N T init many sv nv tv/\SpO w2 W1.heap.size (.slice so (zAl m ps l code (c:Int)).length sc) (zAl m ps l code (c:Int))):=
  (zPi w0 W1 B bs bl n va vr pv fv m ps l ho hc code c hI hB hT hV hk hX1.su (by omega) hcr hcN).mono fun e w2 ⟨h1,h2,h3⟩=>by
   rcases h3 with ⟨_,so,sc,h4,h5⟩ | ⟨h4,_⟩
   ·exact ⟨so,sc,h4,⟨h1.cell hX1.su.two hs1.1,h1.cell hX1.su.two hs1.2⟩,hX1.call h1 h2.out,h5.out⟩
   ·exact absurd hw0 h4
 have HMe:Hid (∀ w2,ExW w0 w2 base A lm B bs bl (n+300000) va vr pv fv m ps l ho hc S N T init many sv nv tv->Calls Tryz.prog 80 #[.pointer (some ⟨B,0,none⟩),.agg #[.int .i64 code,.int .i64 (c:Int)]] w2 fun e w3=>e=.returned (.tuple #[.int .i64 (zCW l (zAG m ps code) (c:Int)),.int .i64 0])/\Hid (ExW w0 w3 base A lm B bs bl (n+300001) va vr pv fv m ps l ho hc S N T init many sv nv tv/\∀ so sc,SpO w2 W1.heap.size (.slice so (zAl m ps l code (c:Int)).length sc) (zAl m ps l code (c:Int))->SpO w3 W1.heap.size (.slice so (zAl m ps l code (c:Int)).length sc) (zAl m ps l code (c:Int)))):=fun w2 hx=>
  (zQ8 w0 w2 B bs bl (n+300000) va vr pv fv m ps l ho hc code c hI hB hT hV hk hx.su (by omega) hcr hcN).mono fun e w3 ⟨h1,h2,h3⟩=>⟨h1,hx.call h2 h3.out,fun so sc h=>h.sk h2 hx.su.two⟩
 have HPl:Hid (∀ w3 so sc,ExW w0 w3 base A lm B bs bl (n+300001) va vr pv fv m ps l ho hc S N T init many sv nv tv->SpO w3 W1.heap.size (.slice so (zAl m ps l code (c:Int)).length sc) (zAl m ps l code (c:Int))->Calls Tryz.prog 53 #[.pointer (some ⟨A,0,none⟩),.slice so (zAl m ps l code (c:Int)).length sc] w3.drew fun e w4=>e=.returned (.slice (some ⟨w3.heap.size,0,none⟩) (zAl m ps l code (c:Int)).length (zAl m ps l code (c:Int)).length)/\∃ us sv',w4.cell? ⟨A,2,none⟩=some nv/\(w4.alloc (.cells #[.slice (some ⟨w3.heap.size,0,none⟩) (zAl m ps l code (c:Int)).length (zAl m ps l code (c:Int)).length] 37)).cell? ⟨A,2,none⟩=some nv/\(w4.alloc (.cells #[.slice (some ⟨w3.heap.size,0,none⟩) (zAl m ps l code (c:Int)).length (zAl m ps l code (c:Int)).length] 37)).ownsRow base 37 1 nv N.length us/\base <= (w4.alloc (.cells #[.slice (some ⟨w3.heap.size,0,none⟩) (zAl m ps l code (c:Int)).length (zAl m ps l code (c:Int)).length] 37)).heap.size/\Hid (∀ g cap w9,World.ownsRow w9 base 37 1 (.slice (some ⟨g,0,none⟩) (N.length+1) cap) (N.length+1) (us++[.slice (some ⟨w3.heap.size,0,none⟩) (zAl m ps l code (c:Int)).length (zAl m ps l code (c:Int)).length])->(w4.alloc (.cells #[.slice (some ⟨w3.heap.size,0,none⟩) (zAl m ps l code (c:Int)).length (zAl m ps l code (c:Int)).length] 37)).grownBy w9 nv.ownBlock->(w9.cell? ⟨A,2,none⟩=some nv/\w9.frozen? ⟨A,2,none⟩=false)/\ExW w0 (w9.setCell ⟨A,2,none⟩ (.slice (some ⟨g,0,none⟩) (N.length+1) cap)) base A lm B bs bl (n+300001) va vr pv fv m ps l ho hc (zAb S (zAl m ps l code (c:Int))) (N++[zDj S (zAl m ps l code (c:Int))]) T init many sv' (.slice (some ⟨g,0,none⟩) (N.length+1) cap) tv)):=fun w3 so sc hx hsp=>by
  have hbd:Below w3.heap.size w3 w3.drew:=(Below.refl _ _).drew;have hx3:=hx.below hbd;have hsp3:=hsp.later hbd (Nat.le_refl _)
  have hsep:∀ a,so=some a->¬ atZ A lm sv a.block:=fun a e z=>by
   have hge:=zME hsp a _ _ (by rw [e])
   rcases z with z | z | z
   ·have:=hX1.tl.lt;omega
   ·have:=hX1.tl.lies.lt;omega
   ·have:=(zAd hX1.tl.sp z).2.lt;omega
  refine (zIF w3.drew base A lm S N T init many sv nv tv _ so sc hx3.tl hsp3.v hsep hIs (by omega)).mono fun e w4 ⟨h1,sv',h2,h3,h4,h5,h6⟩=>?_
  have hx4:=hx3.put h5 h2;have hba:Below w4.heap.size w4 (w4.alloc (.cells #[.slice (some ⟨w3.heap.size,0,none⟩) (zAl m ps l code (c:Int)).length (zAl m ps l code (c:Int)).length] 37)):=(Below.refl _ _).alloc (Nat.le_refl _) _;have hx5:=hx4.below hba;obtain ⟨us,hus⟩:=id hx5.tl.nx;have hbs3:base <= w3.heap.size:=hx.tl.base_le
  refine ⟨h1,us,sv',(zBl hx4.tl.box).2.2.1,(zBl hx5.tl.box).2.2.1,hus.1,hx5.tl.base_le,fun g cap w9 g1 g2=>⟨?_,?_⟩⟩
  ·have hbx:w9.heap[A]? = some (atB sv' nv tv init many lm):=(g2.block A hx5.tl.lt fun e=>by have:=hx5.tl.ty.eq (zAd hus.1 e.symm).2;exact absurd this (by decide)).trans hx5.tl.box
   exact ⟨(zBl hbx).2.2.1,zHj hbx 2⟩
  ·have e:(zAl m ps l code (c:Int)).length=(zDj S (zAl m ps l code (c:Int))).length:=(zFZ _ _).symm
   have hr5:=h3.below hba;have ht5:=h4.below hba;have hr6:zAD (w4.alloc (.cells #[.slice (some ⟨w3.heap.size,0,none⟩) (zAl m ps l code (c:Int)).length (zAl m ps l code (c:Int)).length] 37)) (.slice (some ⟨w3.heap.size,0,none⟩) (zDj S (zAl m ps l code (c:Int))).length (zAl m ps l code (c:Int)).length) (zDj S (zAl m ps l code (c:Int))):=by rw [<- e];exact hr5
   have ht6:zAe (w4.alloc (.cells #[.slice (some ⟨w3.heap.size,0,none⟩) (zAl m ps l code (c:Int)).length (zAl m ps l code (c:Int)).length] 37)) (.slice (some ⟨w3.heap.size,0,none⟩) (zDj S (zAl m ps l code (c:Int))).length (zAl m ps l code (c:Int)).length) 3:=by rw [<- e];exact ht5
   refine hx5.appN hus hr6 ht6 (fun a ea=>?_) g2 (by rw [<- e];exact g1)
   injection ea with ea
   subst ea;refine ⟨fun e2=>?_,hbs3⟩
   have:=(zAd hx.tl.st e2).2.lt;simp only at this
   omega
 clear hX hX1 hT hV hk hp0 hl0 hm0 hIs hw0;unfold zKm;generalize zAl m ps l code (c:Int)=beh at *;generalize zCW l (zAG m ps code) (c:Int)=mt at *;have HPn:Hid (∀ w' sv nv tv N T n,ExW w0 w' base A lm B bs bl n va vr pv fv m ps l ho hc (zAb S beh) N T init many sv nv tv->∃ vo vc,sv=.slice vo (zAb S beh).length vc):=fun w' sv nv tv N T n h=>h.tl.sp.shape
 have hpn:(zAb S beh).length <= 300000:=by have:=(zD3 beh S).2;omega
 generalize zAb S beh=PS at *;generalize zDj S beh=PI at *;generalize hbn:beh.length=bn at *;have HTs:Hid (∀ w' sv nv n S N,ExW w0 w' base A lm B bs bl n va vr pv fv m ps l ho hc S N T init many sv nv tv->∃ xo xc,tv=.slice xo T.length xc):=fun w' sv nv n S N h=>zAU h.tl.st
 have HNs:Hid (∀ w',ExW w0 w' base A lm B bs bl (n+300000) va vr pv fv m ps l ho hc S N T init many sv nv tv->∃ xo xc,nv=.slice xo N.length xc):=fun w' h=>by
  obtain ⟨us,h1,_⟩:=h.tl.nx;exact zAU h1
 obtain ⟨i0,hi,hz0,hz1,hz2⟩:=info_parts zSy;obtain ⟨j0,hj,jz0,jz1,jz2⟩:=info_parts zA8
 go_enter Tryz.func54,Tryz.ntmps54
 go_upto_region 7 with (first | (go_at_call 79;rw [<- hW1];refine hbe.mono ?_;rintro e w2 ⟨so,sc,rfl,⟨b0,b1⟩,HX2⟩;have hme:=HMe.out w2 HX2.out.1) | (go_at_call 80;refine hme.mono ?_;rintro e w3 ⟨rfl,HX3⟩))
 have hpl:=HPl.out w3 so sc HX3.out.1 (HX3.out.2 so sc HX2.out.2);have a2:w3.cell? ⟨A,2,none⟩=some nv:=(zBl HX3.out.1.tl.box).2.2.1;obtain ⟨no,nc,rfl⟩:=HNs.out w2 HX2.out.1;clear hbe hme HMe HPl HX2 HX3 HNs hs1 b0 b1
 go_cut [] (fun wx=>∃ sv' nv',Hid (ExW w0 wx base A lm B bs bl (n+300001) va vr pv fv m ps l ho hc PS (N++[PI]) T init many sv' nv' tv))
 case first=>
  go_region_law (first
   | (refine step_append_lies _ (by rfl) (.tmp 33) (.tmp 37) 92 (by rfl) base 37 i0 _ 1 24 Tryz.underlying92 hi hz0 hz1 hz2 (by rfl) (by decide) (.slice no N.length nc) N.length us (by rfl) hown4 ⟨w4.heap.size,0,none⟩ 1 1 [.slice (some ⟨w3.heap.size,0,none⟩) bn bn] (by rfl) (by rfl) (cell_one_new _ _ _) (by intro u hu;simp at hu;subst hu;rfl) (by decide) (by unfold maxLen;omega) (by omega) hba4 _ rfl ?_;intro g9 cap9 w9 hown hgrow hat hlt9;obtain ⟨⟨z0,zf⟩,hx9⟩:=HN4.out g9 cap9 w9 hown hgrow;have HX9:=(show Hid _ from hx9);clear hx9 hown hgrow hat)
   | (go_simp;go_at_call 53;refine hpl.mono ?_;rintro e w4 ⟨rfl,us,sv4,y0,y1,hown4,hba4,HN4⟩))
  all_goals go_wp2_with fail
  all_goals go_meet
  all_goals exact ⟨_,_,HX9⟩
 case rest=>
  obtain ⟨sv5,nv5,HX5⟩:=hcut;obtain ⟨xo,xc,rfl⟩:=HTs.out wc sv5 nv5 _ PS _ HX5.out;obtain ⟨vo5,vc5,rfl⟩:=HPn.out wc _ _ _ _ _ _ HX5.out;have hba:Below wc.heap.size wc (wc.alloc (.cells #[.int .i64 mt] 3)):=(Below.refl _ _).alloc (Nat.le_refl _) _;have hx6:=HX5.out.below hba
  have hown6:World.ownsRow (wc.alloc (.cells #[.int .i64 mt] 3)) base 3 1 (.slice xo T.length xc) T.length (zAL T):=hx6.tl.st;have hbs6:=hx6.tl.base_le;have a3:wc.cell? ⟨A,3,none⟩=some (.slice xo T.length xc):=(zBl HX5.out.tl.box).2.2.2.1
  have HT6:Hid (∀ g cap w9,World.ownsRow w9 base 3 1 (.slice (some ⟨g,0,none⟩) (T.length+1) cap) (T.length+1) (zAL T++[.int .i64 mt])->(wc.alloc (.cells #[.int .i64 mt] 3)).grownBy w9 (Value.slice xo T.length xc).ownBlock->((Value.slice xo T.length xc).ownBlock=some g\/g=(wc.alloc (.cells #[.int .i64 mt] 3)).heap.size)->(w9.cell? ⟨A,3,none⟩=some (.slice xo T.length xc)/\w9.frozen? ⟨A,3,none⟩=false)/\(w9.setCell ⟨A,3,none⟩ (.slice (some ⟨g,0,none⟩) (T.length+1) cap)).cell? ⟨A,0,none⟩=some (.slice vo5 PS.length vc5)/\Hid (ExW w0 (w9.setCell ⟨A,3,none⟩ (.slice (some ⟨g,0,none⟩) (T.length+1) cap)) base A lm B bs bl (n+300001) va vr pv fv m ps l ho hc PS (N++[PI]) (T++[mt]) init many (.slice vo5 PS.length vc5) nv5 (.slice (some ⟨g,0,none⟩) (T.length+1) cap))):=fun g cap w9 h1 h2 h3=>by
   have hbx:w9.heap[A]? = some (atB (.slice vo5 PS.length vc5) nv5 (.slice xo T.length xc) init many lm):=(h2.block A hx6.tl.lt fun e=>by have:=hx6.tl.ty.eq (zAd hx6.tl.st e.symm).2;exact absurd this (by decide)).trans hx6.tl.box
   have hxx:=hx6.appT h2 h1 (by
    rcases h3 with h | h
    ·exact .inl (by rw [h];rfl)
    ·exact .inr ⟨g,rfl,by omega⟩)
   exact ⟨⟨(zBl hbx).2.2.2.1,zHj hbx 3⟩,(zBl hxx.tl.box).1,hxx⟩
  clear hx6 HX5 HTs HPn
  by_cases hfull:20000 < PS.length
  ·have hfi:(20000:Int) < (PS.length:Int):=by omega
   go_wp2_with (first | (at_builtin;refine wpList_append_lies _ rfl (.tmp 47) (.tmp 49) 37 rfl base 3 j0 _ 1 8 Tryz.underlying37 hj jz0 jz1 jz2 rfl (by decide) (.slice xo T.length xc) T.length (zAL T) rfl hown6 ⟨wc.heap.size,0,none⟩ 1 1 [.int .i64 mt] rfl rfl (cell_one_new _ _ _) (by intro u hu;simp at hu;subst hu;rfl) (by decide) (by unfold maxLen;omega) (by omega) hbs6 _ rfl ?_;intro g9 cap9 w9 hown hgrow hat hlt9;obtain ⟨⟨z0,zf⟩,z1,HX9⟩:=HT6.out g9 cap9 w9 hown hgrow hat;clear hown hgrow hat))
   go_ret
   exact ⟨by first | rfl | simp [hfull],_,_,_,HX9⟩
  ·have hfi:¬ (20000:Int) < (PS.length:Int):=by omega
   go_wp2_with (first | (at_builtin;refine wpList_append_lies _ rfl (.tmp 47) (.tmp 49) 37 rfl base 3 j0 _ 1 8 Tryz.underlying37 hj jz0 jz1 jz2 rfl (by decide) (.slice xo T.length xc) T.length (zAL T) rfl hown6 ⟨wc.heap.size,0,none⟩ 1 1 [.int .i64 mt] rfl rfl (cell_one_new _ _ _) (by intro u hu;simp at hu;subst hu;rfl) (by decide) (by unfold maxLen;omega) (by omega) hbs6 _ rfl ?_;intro g9 cap9 w9 hown hgrow hat hlt9;obtain ⟨⟨z0,zf⟩,z1,HX9⟩:=HT6.out g9 cap9 w9 hown hgrow hat;clear hown hgrow hat))
   go_ret
   exact ⟨by first | rfl | simp [hfull],_,_,_,HX9⟩
variable {Pz : Nat -> Prop}
theorem SvOk.made {w0 w w':World} {n:Nat} {va vr pv fv:Value} {m:Mo} {ps:List (List (Int × Int))} {l:List (Int × Int)} {ho:Option Addr} {hc:Nat} (hb:Below w0.heap.size w0 w) (hb2:Below w.heap.size w w') (hn:w.heap.size <= n) (hs:SurvAt w' (n+2) va vr pv fv (.slice ho (zAA l).length hc) n (n+1))
  (ho':w'.ownsRow w.heap.size 3 1 (.slice ho (zAA l).length hc) (zAA l).length (zAL (zAA l))) (h1:w'.heap[n]? = some (.map #[] 0)) (h2:w'.heap[n+1]? = some (.map #[] 0)):SvOk (fun _=>True) w0 w' (n+2) n (n+1) 0 va vr pv fv m ps l ho hc:=by
 have:=hb.size;exact ⟨hs,hb.trans (hb2.mono hb.size),by omega,by omega,by omega,zBH ho',zAe.owns ho',fun _ _=>trivial,fun _ _=>trivial,⟨_,zAg.new _ h1,fun kl v h=>by simp at h⟩,⟨_,zAg.new _ h2,fun kl v h=>by simp at h⟩⟩
end Go.Proofs.YtiimhhjkgeepjaaGreatDoor
namespace Go.Proofs.YtiimhhjkgeepjaaGreatDoor
open Go.ChangeShapes Go.WideShapes Go.ChangeAt Go.RowKit Go.Deep Go.Maps
open Terms Tm
set_option maxHeartbeats 6400000
set_option maxRecDepth 20000
def zDI (m:Mo) (l:List (Int × Int)) (p:Int × Int):Prop:=(0 <= p.1/\p.1 < zAC m.vars m.vars.length)/\∃ d:Nat,d < 2 ^ (zAA l).length/\p.2=(d:Int)
noncomputable def zB2 (m:Mo) (ps:List (List (Int × Int))) (l:List (Int × Int)) (p:Int × Int):List (Int × Int):=zAl m ps l p.1 p.2
noncomputable def xpP (m:Mo) (ps:List (List (Int × Int))) (l:List (Int × Int)) (k:Nat):List (Int × Int):=exS (zAX m ps l) (zB2 m ps l) k
noncomputable def zCc (m:Mo) (ps:List (List (Int × Int))) (l:List (Int × Int)) (k:Nat):Int × Int:=(xpP m ps l k).getD k (0,0)
noncomputable def xpN (m:Mo) (ps:List (List (Int × Int))) (l:List (Int × Int)):Nat->List (List Int)
 | 0=>[]
 | k+1=>xpN m ps l k++[zDj (xpP m ps l k) (zB2 m ps l (zCc m ps l k))]
noncomputable def xpT (m:Mo) (ps:List (List (Int × Int))) (l:List (Int × Int)):Nat->List Int
 | 0=>[]
 | k+1=>xpT m ps l k++[zCW l (zAG m ps (zCc m ps l k).1) (zCc m ps l k).2]
section
variable {m : Mo} {ps : List (List (Int × Int))} {l : List (Int × Int)}
theorem zHT (k:Nat):xpP m ps l (k+1)=zAb (xpP m ps l k) (zB2 m ps l (zCc m ps l k)):=rfl
theorem zC8:∀ k,(xpN m ps l k).length=k
 | 0=>rfl
 | k+1=>by rw [xpN,List.length_append,zC8 k];rfl
theorem zDC:∀ k,(xpT m ps l k).length=k
 | 0=>rfl
 | k+1=>by rw [xpT,List.length_append,zDC k];rfl
theorem zFN {p:Int × Int}:∀ k,p∈zB8 m ps l k->p.1=zB9 m/\∃ d:Nat,d < k/\p.2=(d:Int)/\tru l (zAG m ps (zB9 m)) (d:Int) 0≠true
 | 0,h=>by simp [zB8] at h
 | k+1,h=>by
  rw [zB8] at h
  split at h
  ·obtain ⟨h1,d,h2,h3⟩:=zFN k h
   exact ⟨h1,d,by omega,h3⟩
  ·next hf=>
   rw [List.mem_append,List.mem_singleton] at h
   rcases h with h | rfl
   ·obtain ⟨h1,d,h2,h3⟩:=zFN k h
    exact ⟨h1,d,by omega,h3⟩
   ·exact ⟨rfl,k,by omega,rfl,hf⟩
theorem zI1 (hk:zAK m ps l=0) {p:Int × Int} (h:p∈zAX m ps l):zDI m l p:=by
 obtain ⟨h1,d,h2,h3,_⟩:=zFN _ h;exact ⟨by rw [h1];exact zFP hk,d,h2,h3⟩
theorem zOK (hk:zAK m ps l=0) {s p:Int × Int} (hs:zDI m l s) (h:p∈zB2 m ps l s):zDI m l p:=zI0 (zBJ (zA3 hk).1).1 hs.1 h
theorem zKC (hk:zAK m ps l=0):∀ p∈xpP m ps l 0,zDI m l p:=fun p hp=>by
 rcases (zDU _ _ _).1 hp with h | h
 ·exact absurd h List.not_mem_nil
 ·exact zI1 hk h
theorem zKL {k:Nat} (h:k < (xpP m ps l k).length):zCc m ps l k∈xpP m ps l k:=by
 unfold zCc;rw [List.getD_eq_getElem?_getD,List.getElem?_eq_getElem h]
 exact List.getElem_mem _
theorem zKv (hk:zAK m ps l=0) {k:Nat} (hl:k < (xpP m ps l k).length) (h:∀ p∈xpP m ps l k,zDI m l p):∀ p∈xpP m ps l (k+1),zDI m l p:=fun p hp=>by
 rw [zHT] at hp
 rcases (zDU _ _ _).1 hp with h1 | h1
 ·exact h p h1
 ·exact zOK hk (h _ (zKL hl)) h1
end
def zBB (m:Mo) (ps:List (List (Int × Int))) (l:List (Int × Int)) (K:Nat):Prop:=(xpP m ps l K).length=K/\K <= 20000/\(∀ j,j < K->j < (xpP m ps l j).length)/\∀ p∈xpP m ps l K,zDI m l p
def zD6 (m:Mo) (ps:List (List (Int × Int))) (l:List (Int × Int)):Prop:=∃ k,(∀ j,j <= k->j < (xpP m ps l j).length)/\20000 < (xpP m ps l (k+1)).length
def GrX (w:World) (base:Nat) (m:Mo) (ps:List (List (Int × Int))) (l:List (Int × Int)) (K:Nat) (sv nv tv:Value):Prop:=SpO w base sv (xpP m ps l K)/\zGK w base nv tv (xpN m ps l K)/\w.ownsRow base 3 1 tv (xpT m ps l K).length (zAL (xpT m ps l K))
def zIL (w:World) (m:Mo) (ps:List (List (Int × Int))) (l:List (Int × Int)) (e:Ending) (w':World):Prop:=
 (zAK m ps l=0/\∃ K,zBB m ps l K/\∃ sv nv tv,e=.returned (.tuple #[.agg #[sv,.int .i64 ((zAX m ps l).length:Nat),nv,tv,.int .i64 ((zAA l).length:Nat)],.int .i64 0])/\Below w.heap.size w w'/\Hid (GrX w' w.heap.size m ps l K sv nv tv))\/
 (zAK m ps l=0/\zD6 m ps l/\e=.returned (.tuple #[.agg #[.slice none 0 0,.int .i64 0,.slice none 0 0,.slice none 0 0,.int .i64 0],.int .i64 12])/\Below w.heap.size w w')\/
 (zAK m ps l≠0/\e=.returned (.tuple #[.agg #[.slice none 0 0,.int .i64 0,.slice none 0 0,.slice none 0 0,.int .i64 0],.int .i64 (zAK m ps l)])/\Below w.heap.size w w')
theorem zLO {m:Mo} {ps:List (List (Int × Int))} {l:List (Int × Int)} {K:Nat} (h:zBB m ps l K):¬ zD6 m ps l:=by
 rintro ⟨k,h1,h2⟩
 obtain ⟨d1,d2,_,_⟩:=h
 by_cases hk:k+1 <= K
 ·have:=(zGR (zAX m ps l) (zB2 m ps l) hk).length_le
  unfold xpP at h2 d1;omega
 ·have:=h1 K (by omega)
  omega
def grB (sv nv tv:Value) (init many:Int):Obj:=.cells #[sv,.int .i64 init,nv,tv,.int .i64 many] 94 (0,0)
section
variable {w w' : World} {X : Nat} {sv nv tv : Value} {init many : Int}
theorem zEt (hb:w.heap[X]? = some (grB sv nv tv init many)):w.cell? ⟨X,0,none⟩=some sv/\w.cell? ⟨X,1,none⟩=some (.int .i64 init)/\w.cell? ⟨X,2,none⟩=some nv/\w.cell? ⟨X,3,none⟩=some tv/\w.cell? ⟨X,4,none⟩=some (.int .i64 many):=by
 unfold grB at hb;refine ⟨?_,?_,?_,?_,?_⟩ <;> simp [World.cell?,hb]
theorem zKa (hb:w.heap[X]? = some (grB sv nv tv init many)) (i:Nat):w.frozen? ⟨X,i,none⟩=false:=by
 unfold grB at hb;simp [World.frozen?,hb]
theorem zIk (w:World) (X:Nat) (a b c d e:Value):Chg (fun i=>i=X) w (((((w.setCell ⟨X,0,none⟩ a).setCell ⟨X,1,none⟩ b).setCell ⟨X,2,none⟩ c).setCell ⟨X,3,none⟩ d).setCell ⟨X,4,none⟩ e):=
 (((((Chg.setCell w ⟨X,0,none⟩ a).trans (Chg.setCell _ ⟨X,1,none⟩ b)).trans (Chg.setCell _ ⟨X,2,none⟩ c)).trans (Chg.setCell _ ⟨X,3,none⟩ d)).trans (Chg.setCell _ ⟨X,4,none⟩ e))
theorem GrX.chg {base K:Nat} {m:Mo} {ps:List (List (Int × Int))} {l:List (Int × Int)} (h:GrX w base m ps l K sv nv tv) (hs:Chg (fun i=>i=X) w w') (ht:TyB w X 94):GrX w' base m ps l K sv nv tv:=by
 obtain ⟨h1,h2,h3⟩:=h;obtain ⟨us,n1,_⟩:=id h2;have hno:∀ g t,TyB w g t->t≠94->g≠X:=fun g t hg hn e=>hn (hg.eq (e ▸ ht))
 exact ⟨zBV h1 hs (fun g e=>hno g _ (zAd h1 e).2 (by decide)),h2.chg hs (fun i z=>⟨fun e=>hno i _ (zAd n1 e).2 (by decide) z,fun _ _ _ _ _ hi=>hno i _ hi (by decide) z⟩),zBV h3 hs (fun g e=>hno g _ (zAd h3 e).2 (by decide))⟩
theorem zGK.mono {base base':Nat} {N:List (List Int)} (h:zGK w base nv tv N) (hb:base' <= base):zGK w base' nv tv N:=by
 obtain ⟨us,h1,h2,h3⟩:=h;refine ⟨us,zAw h1 hb,h2,fun i hi=>?_⟩
 obtain ⟨ao,c,e1,e2,e3,e4⟩:=h3 i hi;exact ⟨ao,c,e1,e2,e3,fun a e=>⟨(e4 a e).1,Nat.le_trans hb (e4 a e).2⟩⟩
end
end Go.Proofs.YtiimhhjkgeepjaaGreatDoor
namespace Go.Proofs.YtiimhhjkgeepjaaGreatDoor
open Go.ChangeShapes Go.WideShapes Go.ChangeAt Go.RowKit Go.Deep
open Terms
set_option maxHeartbeats 6400000
set_option maxRecDepth 20000
def zBN (a:List Int) (h:Nat->Nat->Bool) (j:Nat):Nat->Int
 | 0=>0
 | k+1=>zBN a h j k+if h (a.getD k 0).toNat j=true then 2 ^ k else 0
theorem zES (a:List Int) (h:Nat->Nat->Bool) (j:Nat):∀ k,0 <= zBN a h j k/\zBN a h j k < 2 ^ k:=by
 intro k
 induction k with
 | zero=>simp [zBN]
 | succ k ih=>
  have h2:(0:Int) < 2 ^ k:=Int.pow_pos (by decide)
  simp only [zBN];rw [Int.pow_succ]
  split <;> omega
end Go.Proofs.YtiimhhjkgeepjaaGreatDoor
namespace Go.Proofs.YtiimhhjkgeepjaaGreatDoor.Terms
namespace Tm
set_option maxHeartbeats 6400000
set_option maxRecDepth 20000
def ho (σ:Nat->Nat->Bool):Tm->Nat->Prop
 | leaf k v=>fun i=>if k=13 then σ i v.toNat=true else k=11
 | un k _ a=>fun i=>if k=10 then ¬ ho σ a i else if k=14 then ho σ a (i+1) else if k=17 then ∃ j,i <= j/\ho σ a j else ∀ j,i <= j->ho σ a j
 | bi k _ a b=>fun i=>if k=8 then ho σ a i/\ho σ b i else if k=9 then ho σ a i\/ho σ b i else if k=15 then ∃ j,i <= j/\ho σ b j/\∀ m,i <= m->m < j->ho σ a m else ∀ j,i <= j->ho σ b j\/∃ m,i <= m/\m < j/\ho σ a m
theorem ho_shift (σ:Nat->Nat->Bool) (d:Nat) (t:Tm):∀ i,ho (fun j=>σ (j+d)) t i↔ho σ t (i+d):=by
 induction t with
 | leaf k v=>intro i;simp only [ho]
 | un k v a ih=>
  intro i;simp only [ho]
  split
  ·rw [ih]
  ·split
   ·rw [ih,show i+1+d=i+d+1 by omega]
   ·split
    ·constructor
     ·rintro ⟨j,h1,h2⟩;exact ⟨j+d,by omega,(ih j).1 h2⟩
     ·rintro ⟨j,h1,h2⟩;exact ⟨j - d,by omega,(ih _).2 (by rwa [show j - d+d=j by omega])⟩
    ·constructor
     ·intro h j hj;have:=(ih _).1 (h (j - d) (by omega));rwa [show j - d+d=j by omega] at this
     ·intro h j hj;exact (ih j).2 (h (j+d) (by omega))
 | bi k v a b iha ihb=>
  intro i;simp only [ho]
  split
  ·rw [iha,ihb]
  ·split
   ·rw [iha,ihb]
   ·split
    ·constructor
     ·rintro ⟨j,h1,h2,h3⟩
      refine ⟨j+d,by omega,(ihb j).1 h2,fun m hm hmj=>?_⟩
      have:=(iha _).1 (h3 (m - d) (by omega) (by omega))
      rwa [show m - d+d=m by omega] at this
     ·rintro ⟨j,h1,h2,h3⟩
      refine ⟨j - d,by omega,(ihb _).2 (by rwa [show j - d+d=j by omega]),fun m hm hmj=>(iha m).2 (h3 (m+d) (by omega) (by omega))⟩
    ·constructor
     ·intro h j hj
      rcases h (j - d) (by omega) with h1 | ⟨m,h1,h2,h3⟩
      ·left;have:=(ihb _).1 h1;rwa [show j - d+d=j by omega] at this
      ·exact .inr ⟨m+d,by omega,by omega,(iha m).1 h3⟩
     ·intro h j hj
      rcases h (j+d) (by omega) with h1 | ⟨m,h1,h2,h3⟩
      ·exact .inl ((ihb j).2 h1)
      ·exact .inr ⟨m - d,by omega,by omega,(iha _).2 (by rwa [show m - d+d=m by omega])⟩
def Per (σ:Nat->Nat->Bool) (s L:Nat):Prop:=∀ i,s <= i->σ (i+L)=σ i
theorem ho_per {σ:Nat->Nat->Bool} {s L:Nat} (h:Per σ s L) (t:Tm) {i:Nat} (hi:s <= i):ho σ t (i+L)↔ho σ t i:=by
 have h1:=ho_shift σ (i+L) t 0;have h2:=ho_shift σ i t 0;rw [Nat.zero_add] at h1 h2;rw [<- h1,<- h2]
 have:(fun j=>σ (j+(i+L)))=fun j=>σ (j+i):=by
  funext j
  rw [show j+(i+L)=(j+i)+L by omega]
  exact h _ (by omega)
 rw [this]
open Classical in
noncomputable def hb (σ:Nat->Nat->Bool) (t:Tm) (i:Nat):Bool:=decide (ho σ t i)
open Classical in
theorem hb_iff {σ:Nat->Nat->Bool} {t:Tm} {i:Nat}:hb σ t i=true↔ho σ t i:=by unfold hb;exact decide_eq_true_iff
theorem bool_eq {x y:Bool} (h:x=true↔y=true):x=y:=by cases x <;> cases y <;> simp_all
theorem hb_per {σ:Nat->Nat->Bool} {s L:Nat} (h:Per σ s L) (t:Tm) {i:Nat} (hi:s <= i):hb σ t (i+L)=hb σ t i:=bool_eq (by rw [hb_iff,hb_iff];exact ho_per h t hi)
theorem hb_prop (σ:Nat->Nat->Bool) (v:Int) (i:Nat):hb σ (leaf 13 v) i=σ i v.toNat:=bool_eq (by rw [hb_iff];simp [ho])
theorem hb_yes (σ:Nat->Nat->Bool) (v:Int) (i:Nat):hb σ (leaf 11 v) i=true:=by rw [hb_iff];simp [ho]
theorem hb_no {k:Int} (σ:Nat->Nat->Bool) (v:Int) (i:Nat) (h1:k≠13) (h2:k≠11):hb σ (leaf k v) i=false:=by
 have:¬ hb σ (leaf k v) i=true:=by rw [hb_iff];simp [ho,h1,h2]
 simpa using this
theorem hb_not (σ:Nat->Nat->Bool) (v:Int) (a:Tm) (i:Nat):hb σ (un 10 v a) i=!hb σ a i:=bool_eq (by rw [hb_iff,Bool.not_eq_true',<- Bool.not_eq_true,hb_iff];simp [ho])
theorem hb_next (σ:Nat->Nat->Bool) (v:Int) (a:Tm) (i:Nat):hb σ (un 14 v a) i=hb σ a (i+1):=bool_eq (by rw [hb_iff,hb_iff];simp [ho])
theorem hb_and (σ:Nat->Nat->Bool) (v:Int) (a b:Tm) (i:Nat):hb σ (bi 8 v a b) i=(hb σ a i&&hb σ b i):=bool_eq (by rw [hb_iff,Bool.and_eq_true,hb_iff,hb_iff];simp [ho])
theorem hb_or (σ:Nat->Nat->Bool) (v:Int) (a b:Tm) (i:Nat):hb σ (bi 9 v a b) i=(hb σ a i||hb σ b i):=bool_eq (by rw [hb_iff,Bool.or_eq_true,hb_iff,hb_iff];simp [ho])
end Tm
def Unt (u v:Nat->Bool) (d:Bool) (i:Nat):Prop:=(∃ j,i <= j/\u j=true/\∀ m,i <= m->m < j->v m=true)\/(d=true/\∀ m,i <= m->v m=true)
theorem zPy (u v:Nat->Bool) (d:Bool) (i:Nat):Unt u v d i↔u i=true\/(v i=true/\Unt u v d (i+1)):=by
 constructor
 ·rintro (⟨j,h1,h2,h3⟩ | ⟨h1,h2⟩)
  ·by_cases e:j=i
   ·subst e;exact .inl h2
   ·exact .inr ⟨h3 i (by omega) (by omega),.inl ⟨j,by omega,h2,fun m hm hmj=>h3 m (by omega) hmj⟩⟩
  ·exact .inr ⟨h2 i (by omega),.inr ⟨h1,fun m hm=>h2 m (by omega)⟩⟩
 ·rintro (h | ⟨h1,(⟨j,h2,h3,h4⟩ | ⟨h2,h3⟩)⟩)
  ·exact .inl ⟨i,by omega,h,fun m hm hmi=>by omega⟩
  ·refine .inl ⟨j,by omega,h3,fun m hm hmj=>?_⟩
   by_cases e:m=i
   ·subst e;exact h1
   ·exact h4 m (by omega) hmj
  ·refine .inr ⟨h2,fun m hm=>?_⟩
   by_cases e:m=i
   ·subst e;exact h1
   ·exact h3 m (by omega)
open Classical in
noncomputable def zB6 (u v:Nat->Bool) (d:Bool) (i:Nat):Bool:=decide (Unt u v d i)
open Classical in
theorem zBa {u v:Nat->Bool} {d:Bool} {i:Nat}:zB6 u v d i=true↔Unt u v d i:=by unfold zB6;exact decide_eq_true_iff
theorem zCe (u v:Nat->Bool) (d:Bool) (i:Nat):zB6 u v d i=(u i||(v i&&zB6 u v d (i+1))):=Tm.bool_eq (by rw [zBa,zPy,Bool.or_eq_true,Bool.and_eq_true,zBa])
def stp (u v:Nat->Bool) (x:Bool):Nat->Nat->Bool
 | 0,_=>x
 | k+1,i=>u i||(v i&&stp u v x k (i+1))
theorem zMU (u v:Nat->Bool) (d:Bool):∀ k i,stp u v (zB6 u v d (i+k)) k i=zB6 u v d i:=by
 intro k
 induction k with
 | zero=>intro i;rfl
 | succ k ih=>intro i;simp only [stp];rw [show i+(k+1)=(i+1)+k by omega,ih,<- zCe]
theorem zSw (u v:Nat->Bool):∀ k i,(∀ x y,stp u v x k i=stp u v y k i)\/((∀ m,i <= m->m < i+k->u m=false/\v m=true)/\∀ x,stp u v x k i=x):=by
 intro k
 induction k with
 | zero=>intro i;exact .inr ⟨fun m h1 h2=>by omega,fun x=>rfl⟩
 | succ k ih=>
  intro i
  cases hu:u i with
  | true=>left;intro x y;simp [stp,hu]
  | false=>
   cases hv:v i with
   | false=>left;intro x y;simp [stp,hu,hv]
   | true=>
    rcases ih (i+1) with h | ⟨h1,h2⟩
    ·left;intro x y;simp only [stp];rw [h x y]
    ·right
     refine ⟨fun m hm hmk=>?_,fun x=>by simp [stp,hu,hv,h2]⟩
     by_cases e:m=i
     ·subst e;exact ⟨hu,hv⟩
     ·exact h1 m (by omega) (by omega)
theorem zJO {u v:Nat->Bool} {d:Bool} {i:Nat} (h:∀ m,i <= m->u m=false/\v m=true):zB6 u v d i=d:=by
 cases d with
 | true=>rw [zBa];exact .inr ⟨rfl,fun m hm=>(h m hm).2⟩
 | false=>
  have:¬ zB6 u v false i=true:=by
   rw [zBa]
   rintro (⟨j,h1,h2,_⟩ | ⟨h1,_⟩)
   ·rw [(h j h1).1] at h2;cases h2
   ·cases h1
  simpa using this
theorem zMA {u:Nat->Bool} {s L:Nat} (hL:0 < L) (hp:∀ i,s <= i->u (i+L)=u i) {x:Bool} {a:Nat} (ha:s <= a) (h:∀ m,a <= m->m < a+L->u m=x):∀ m,a <= m->u m=x:=by
 intro m
 induction m using Nat.strongRecOn with
 | ind m ih=>
  intro hm
  by_cases hl:m < a+L
  ·exact h m hm hl
  ·have:=ih (m - L) (by omega) (by omega)
   rw [<- this,<- hp (m - L) (by omega),show m - L+L=m by omega]
theorem zSI {u v:Nat->Bool} {d:Bool} {s L:Nat} (hu:∀ i,s <= i->u (i+L)=u i) (hv:∀ i,s <= i->v (i+L)=v i) {i:Nat} (hi:s <= i):zB6 u v d (i+L)=zB6 u v d i:=by
 refine Tm.bool_eq ?_
 rw [zBa,zBa]
 constructor
 ·rintro (⟨j,h1,h2,h3⟩ | ⟨h1,h2⟩)
  ·refine .inl ⟨j - L,by omega,?_,fun m hm hmj=>?_⟩
   ·rw [<- hu _ (by omega),show j - L+L=j by omega];exact h2
   ·rw [<- hv _ (by omega)];exact h3 _ (by omega) (by omega)
  ·refine .inr ⟨h1,fun m hm=>?_⟩
   rw [<- hv _ (by omega)];exact h2 _ (by omega)
 ·rintro (⟨j,h1,h2,h3⟩ | ⟨h1,h2⟩)
  ·refine .inl ⟨j+L,by omega,?_,fun m hm hmj=>?_⟩
   ·rw [hu _ (by omega)];exact h2
   ·have:=h3 (m - L) (by omega) (by omega)
    rw [<- hv _ (by omega),show m - L+L=m by omega] at this;exact this
  ·refine .inr ⟨h1,fun m hm=>?_⟩
   have:=h2 (m - L) (by omega)
   rw [<- hv _ (by omega),show m - L+L=m by omega] at this;exact this
theorem zPE {u v:Nat->Bool} {d:Bool} {s n:Nat} (hsn:s < n) (hu:∀ i,s <= i->u (i+(n - s))=u i) (hv:∀ i,s <= i->v (i+(n - s))=v i) {i:Nat} (hi:i <= n) :
  stp u v (stp u v d (n - s) s) (n - i) i=zB6 u v d i:=by
 have hper:=zSI (d:=d) hu hv (Nat.le_refl s)
 have hx:stp u v d (n - s) s=zB6 u v d n:=by
  rcases zSw u v (n - s) s with h | ⟨h1,h2⟩
  ·rw [h d (zB6 u v d (s+(n - s))),zMU,<- hper,show s+(n - s)=n by omega]
  ·rw [h2,zJO]
   intro m hm;exact ⟨zMA (by omega) hu (Nat.le_refl s) (fun m a b=>(h1 m a b).1) m (by omega),zMA (by omega) hv (Nat.le_refl s) (fun m a b=>(h1 m a b).2) m (by omega)⟩
 rw [hx];have:=zMU u v d (n - i) i
 rwa [show i+(n - i)=n by omega] at this
namespace Tm
theorem hb_fin (σ:Nat->Nat->Bool) (v:Int) (a:Tm) (i:Nat):hb σ (un 17 v a) i=zB6 (hb σ a) (fun _=>true) false i:=bool_eq (by
 rw [hb_iff,zBa];simp only [ho,Unt,show ¬ (17:Int)=10 by decide,show ¬ (17:Int)=14 by decide,if_false,if_true]
 constructor
 ·rintro ⟨j,h1,h2⟩;exact .inl ⟨j,h1,hb_iff.2 h2,fun _ _ _=>trivial⟩
 ·rintro (⟨j,h1,h2,_⟩ | ⟨h,_⟩)
  ·exact ⟨j,h1,hb_iff.1 h2⟩
  ·cases h)
theorem hb_glob (σ:Nat->Nat->Bool) (v:Int) (a:Tm) (i:Nat):hb σ (un 18 v a) i=zB6 (fun _=>false) (hb σ a) true i:=bool_eq (by
 rw [hb_iff,zBa];simp only [ho,Unt,show ¬ (18:Int)=10 by decide,show ¬ (18:Int)=14 by decide,show ¬ (18:Int)=17 by decide,if_false]
 constructor
 ·intro h;exact .inr ⟨trivial,fun m hm=>hb_iff.2 (h m hm)⟩
 ·rintro (⟨j,h1,h2,_⟩ | ⟨_,h⟩)
  ·cases h2
  ·exact fun j hj=>hb_iff.1 (h j hj))
theorem hb_until (σ:Nat->Nat->Bool) (v:Int) (a b:Tm) (i:Nat):hb σ (bi 15 v a b) i=zB6 (hb σ b) (hb σ a) false i:=bool_eq (by
 rw [hb_iff,zBa];simp only [ho,Unt,show ¬ (15:Int)=8 by decide,show ¬ (15:Int)=9 by decide,if_false,if_true]
 constructor
 ·rintro ⟨j,h1,h2,h3⟩;exact .inl ⟨j,h1,hb_iff.2 h2,fun m hm hmj=>hb_iff.2 (h3 m hm hmj)⟩
 ·rintro (⟨j,h1,h2,h3⟩ | ⟨h,_⟩)
  ·exact ⟨j,h1,hb_iff.1 h2,fun m hm hmj=>hb_iff.1 (h3 m hm hmj)⟩
  ·cases h)
theorem least {P:Nat->Prop} (i:Nat):∀ j,i <= j->P j->∃ m,i <= m/\P m/\∀ k,i <= k->k < m->¬ P k:=by
 intro j
 induction j using Nat.strongRecOn with
 | ind j ih=>
  intro hj hp
  by_cases h:∃ k,i <= k/\k < j/\P k
  ·obtain ⟨k,h1,h2,h3⟩:=h;exact ih k h2 h1 h3
  ·exact ⟨j,hj,hp,fun k h1 h2 h3=>h ⟨k,h1,h2,h3⟩⟩
theorem hb_rel (σ:Nat->Nat->Bool) (v:Int) (a b:Tm) (i:Nat):hb σ (bi 16 v a b) i=zB6 (fun j=>hb σ a j&&hb σ b j) (hb σ b) true i:=bool_eq (by
 rw [hb_iff,zBa];simp only [ho,Unt,show ¬ (16:Int)=8 by decide,show ¬ (16:Int)=9 by decide,show ¬ (16:Int)=15 by decide,if_false,Bool.and_eq_true,true_and]
 constructor
 ·intro h
  by_cases hall:∀ m,i <= m->ho σ b m
  ·exact .inr fun m hm=>hb_iff.2 (hall m hm)
  ·left
   have ⟨j,hj,hnb⟩:∃ j,i <= j/\¬ ho σ b j:=by
    by_cases hx:∃ j,i <= j/\¬ ho σ b j
    ·exact hx
    ·exact absurd (fun m hm=>Classical.byContradiction fun hn=>hx ⟨m,hm,hn⟩) hall
   obtain ⟨m,hm,hnm,hlow⟩:=least (P:=fun j=>¬ ho σ b j) i j hj hnb
   rcases h m hm with hb' | ⟨q,h1,h2,h3⟩
   ·exact absurd hb' hnm
   ·exact ⟨q,h1,⟨hb_iff.2 h3,hb_iff.2 (Classical.byContradiction fun hn=>hlow q h1 h2 hn)⟩,fun z hz hzq=>hb_iff.2 (Classical.byContradiction fun hn=>hlow z hz (by omega) hn)⟩
 ·rintro (⟨j,h1,⟨h2,h2'⟩,h3⟩ | h) q hq
  ·by_cases hl:q < j
   ·exact .inl (hb_iff.1 (h3 q hq hl))
   ·by_cases he:q=j
    ·subst he;exact .inl (hb_iff.1 h2')
    ·exact .inr ⟨j,h1,by omega,hb_iff.1 h2⟩
  ·exact .inl (hb_iff.1 (h q hq)))
end Tm
end Go.Proofs.YtiimhhjkgeepjaaGreatDoor.Terms
namespace Go.Proofs.YtiimhhjkgeepjaaGreatDoor.Terms
set_option maxHeartbeats 6400000
set_option maxRecDepth 20000
def zAY (s n i:Nat):Nat:=if i < n then i else s+(i - s) % (n - s)
theorem zBe {s n i:Nat} (h:i < n):zAY s n i=i:=by unfold zAY;rw [if_pos h]
theorem zDY {s n i:Nat} (h:s < n):zAY s n i < n:=by
 unfold zAY
 split
 ·assumption
 ·have:=Nat.mod_lt (i - s) (show 0 < n - s by omega)
  omega
theorem zGX {s n i:Nat} (hs:s < n) (h:n <= i):zAY s n i=zAY s n (i - (n - s)):=by
 have hm:(i - s) % (n - s)=(i - (n - s) - s) % (n - s):=by
  rw [show i - s=(i - (n - s) - s)+(n - s) by omega,Nat.add_mod_right]
 unfold zAY;rw [if_neg (by omega),hm]
 split
 ·rw [Nat.mod_eq_of_lt (by omega)];omega
 ·rfl
theorem zQI {s n i:Nat} (hs:s < n) (h:s <= i):zAY s n (i+(n - s))=zAY s n i:=by
 rw [zGX hs (by omega),show i+(n - s) - (n - s)=i by omega]
def sig (ls:List (List Bool)) (s:Nat) (i v:Nat):Bool:=(ls.getD (zAY s ls.length i) []).getD v false
theorem zMD {ls:List (List Bool)} {s:Nat} (hs:s < ls.length):Tm.Per (sig ls s) s (ls.length - s):=fun i hi=>by funext v;unfold sig;rw [zQI hs hi]
theorem zGt {ls:List (List Bool)} {s:Nat} (hs:s < ls.length) (t:Tm):∀ i,t.hb (sig ls s) (zAY s ls.length i)=t.hb (sig ls s) i:=by
 intro i
 induction i using Nat.strongRecOn with
 | ind i ih=>
  by_cases h:i < ls.length
  ·rw [zBe h]
  ·rw [zGX hs (by omega),ih _ (by omega)]
   have:=Tm.hb_per (zMD hs) t (i:=i - (ls.length - s)) (by omega)
   rw [<- this,show i - (ls.length - s)+(ls.length - s)=i by omega]
namespace Tm
noncomputable def uT (σ:Nat->Nat->Bool):Tm->Nat->Bool
 | leaf k v=>fun i=>hb σ (leaf k v) i
 | un k v a=>fun i=>if k=17 then hb σ a i else if k=18 then false else hb σ (un k v a) i
 | bi k v a b=>fun i=>if k=15 then hb σ b i else if k=16 then hb σ a i&&hb σ b i else hb σ (bi k v a b) i
noncomputable def vT (σ:Nat->Nat->Bool):Tm->Nat->Bool
 | leaf _ _=>fun _=>false
 | un k _ a=>fun i=>if k=17 then true else if k=18 then hb σ a i else false
 | bi k _ a b=>fun i=>if k=15 then hb σ a i else if k=16 then hb σ b i else false
def dT (k:Int):Bool:=decide (k=18\/k=16)
theorem untB_plain (u:Nat->Bool) (i:Nat):zB6 u (fun _=>false) false i=u i:=by rw [zCe];simp
theorem uT_per {σ:Nat->Nat->Bool} {s L:Nat} (h:Per σ s L) (t:Tm) {i:Nat} (hi:s <= i):uT σ t (i+L)=uT σ t i:=by
 cases t with
 | leaf k v=>exact hb_per h _ hi
 | un k v a=>simp only [uT];rw [hb_per h _ hi,hb_per h _ hi]
 | bi k v a b=>simp only [uT];rw [hb_per h _ hi,hb_per h _ hi,hb_per h _ hi]
theorem vT_per {σ:Nat->Nat->Bool} {s L:Nat} (h:Per σ s L) (t:Tm) {i:Nat} (hi:s <= i):vT σ t (i+L)=vT σ t i:=by
 cases t with
 | leaf k v=>rfl
 | un k v a=>simp only [vT];rw [hb_per h _ hi]
 | bi k v a b=>simp only [vT];rw [hb_per h _ hi,hb_per h _ hi]
theorem hb_unt (σ:Nat->Nat->Bool) {t:Tm} (hw:t.Wf) (i:Nat):hb σ t i=zB6 (uT σ t) (vT σ t) (dT t.kind) i:=by
 cases t with
 | leaf k v=>
  have hk:dT k=false:=by
   obtain ⟨_,h2⟩:=hw;simp only [dT,decide_eq_false_iff_not]
   rintro (rfl | rfl) <;> exact absurd h2 (by decide)
  show _=zB6 _ (fun _=>false) (dT k) i
  rw [hk,untB_plain];rfl
 | un k v a=>
  by_cases h17:k=17
  ·subst h17;rw [hb_fin];rfl
  ·by_cases h18:k=18
   ·subst h18;rw [hb_glob];rfl
   ·have hk:dT k=false:=by
     obtain ⟨_,h2,_⟩:=hw;simp only [dT,decide_eq_false_iff_not]
     rintro (rfl | rfl)
     ·exact h18 rfl
     ·exact absurd h2 (by decide)
    have e1:uT σ (un k v a)=hb σ (un k v a):=by funext j;simp only [uT];rw [if_neg h17,if_neg h18]
    have e2:vT σ (un k v a)=fun _=>false:=by funext j;simp only [vT];rw [if_neg h17,if_neg h18]
    rw [e1,e2]
    show _=zB6 _ _ (dT k) i
    rw [hk,untB_plain]
 | bi k v a b=>
  by_cases h15:k=15
  ·subst h15;rw [hb_until];rfl
  ·by_cases h16:k=16
   ·subst h16;rw [hb_rel];rfl
   ·have hk:dT k=false:=by
     obtain ⟨_,h2,_⟩:=hw;simp only [dT,decide_eq_false_iff_not]
     rintro (rfl | rfl)
     ·exact absurd h2 (by decide)
     ·exact h16 rfl
    have e1:uT σ (bi k v a b)=hb σ (bi k v a b):=by funext j;simp only [uT];rw [if_neg h15,if_neg h16]
    have e2:vT σ (bi k v a b)=fun _=>false:=by funext j;simp only [vT];rw [if_neg h15,if_neg h16]
    rw [e1,e2]
    show _=zB6 _ _ (dT k) i
    rw [hk,untB_plain]
end Tm
def zDc (props:Int) (ls:List (List Bool)):Bool:=ls.any fun l=>decide ((l.length:Int)≠props)
def zCM (props:Int) (ss ll:List (List Bool)):Int:=
 if props < 0\/6 < props then 2 else if 12 < ss.length\/ll.length < 1\/12 < ll.length then 1 else if zDc props (ss++ll)=true then 3 else 0
theorem zGA {props:Int} {ss ll:List (List Bool)} (h:props < 0\/6 < props):zCM props ss ll=2:=by unfold zCM;rw [if_pos h]
theorem zHN {props:Int} {ss ll:List (List Bool)} (h:¬ (props < 0\/6 < props)) (h2:12 < ss.length\/ll.length < 1\/12 < ll.length):zCM props ss ll=1:=by unfold zCM;rw [if_neg h,if_pos h2]
theorem zHC {props:Int} {ss ll:List (List Bool)} (h:¬ (props < 0\/6 < props)) (h2:¬ (12 < ss.length\/ll.length < 1\/12 < ll.length)) (h3:zDc props (ss++ll)=true):zCM props ss ll=3:=by unfold zCM;rw [if_neg h,if_neg h2,if_pos h3]
theorem zJH {props:Int} {ss ll:List (List Bool)} (h:¬ (props < 0\/6 < props)) (h2:¬ (12 < ss.length\/ll.length < 1\/12 < ll.length)) (h3:zDc props (ss++ll)=false):zCM props ss ll=0:=by unfold zCM;rw [if_neg h,if_neg h2,if_neg (by rw [h3];decide)]
theorem zJS {props:Int} {ls:List (List Bool)} {i:Nat} (hi:i < ls.length) (h:((ls.getD i []).length:Int)≠props):zDc props ls=true:=by
 unfold zDc;rw [List.any_eq_true];refine ⟨ls.getD i [],?_,by simpa using h⟩
 rw [List.getD_eq_getElem?_getD,List.getElem?_eq_getElem hi]
 exact List.getElem_mem hi
theorem zK9 {props:Int} {ls:List (List Bool)} (h:∀ i,i < ls.length->((ls.getD i []).length:Int)=props):zDc props ls=false:=by
 unfold zDc;rw [List.any_eq_false];intro l hl;obtain ⟨i,hi,rfl⟩:=List.getElem_of_mem hl;have:=h i hi;rw [List.getD_eq_getElem?_getD,List.getElem?_eq_getElem hi] at this
 simpa using this
theorem zFA {props:Int} {ss ll:List (List Bool)} (h:zCM props ss ll=0):(0 <= props/\props <= 6)/\ss.length <= 12/\1 <= ll.length/\ll.length <= 12/\∀ i,i < (ss++ll).length->(((ss++ll).getD i []).length:Int)=props:=by
 by_cases hr:props < 0\/6 < props
 ·rw [zGA hr] at h;omega
 ·by_cases hs:12 < ss.length\/ll.length < 1\/12 < ll.length
  ·rw [zHN hr hs] at h;omega
  ·cases hb:zDc props (ss++ll) with
   | true=>rw [zHC hr hs hb] at h;omega
   | false=>
    refine ⟨by omega,by omega,by omega,by omega,fun i hi=>?_⟩
    exact Classical.byContradiction fun hn=>by rw [zJS hi hn] at hb;cases hb
end Go.Proofs.YtiimhhjkgeepjaaGreatDoor.Terms
namespace Go.Proofs.YtiimhhjkgeepjaaGreatDoor
open Terms
set_option maxHeartbeats 6400000
set_option maxRecDepth 20000
theorem zIr (a:List Int) (h:Nat->Nat->Bool) (j:Nat):∀ n k,k < n->zCH (zBN a h j n) k=h (a.getD k 0).toNat j:=by
 intro n
 induction n with
 | zero=>intro k hk;omega
 | succ n ih=>
  intro k hk;obtain ⟨b0,b1⟩:=zES a h j n;have hp:(0:Int) < 2 ^ k:=Int.pow_pos (by decide)
  by_cases e:k=n
  ·subst e
   have e1:zBN a h j (k+1)=zBN a h j k+if h (a.getD k 0).toNat j=true then 2 ^ k else 0:=rfl
   by_cases hb:h (a.getD k 0).toNat j=true
   ·rw [if_pos hb] at e1
    have:(zBN a h j k+2 ^ k) / 2 ^ k=1:=by
     rw [show zBN a h j k+2 ^ k=zBN a h j k+1*2 ^ k by omega,Int.add_mul_ediv_right _ _ (by omega),Int.ediv_eq_zero_of_lt b0 b1]
     rfl
    rw [hb,e1];unfold zCH;rw [this];rfl
   ·rw [if_neg hb,Int.add_zero] at e1
    rw [e1,Bool.eq_false_iff.2 hb];unfold zCH;rw [Int.ediv_eq_zero_of_lt b0 b1];rfl
  ·have hkn:k < n:=by omega
   rw [<- ih k hkn];have e1:zBN a h j (n+1)=zBN a h j n+if h (a.getD n 0).toNat j=true then 2 ^ n else 0:=rfl
   by_cases hb:h (a.getD n 0).toNat j=true
   ·rw [if_pos hb] at e1
    obtain ⟨d,hd⟩:∃ d,n=k+1+d:=⟨n - (k+1),by omega⟩
    have e2:(2:Int) ^ n=(2*2 ^ d)*2 ^ k:=by rw [hd,Int.pow_add,Int.pow_succ];simp [Int.mul_comm,Int.mul_left_comm,Int.mul_assoc]
    have e3:zBN a h j (n+1) / 2 ^ k % 2=zBN a h j n / 2 ^ k % 2:=by
     rw [e1,e2,Int.add_mul_ediv_right _ _ (by omega)]
     omega
    unfold zCH;rw [e3]
   ·rw [if_neg hb,Int.add_zero] at e1
    rw [e1]
theorem op_at {T:Tm} {l:List (Int × Int)} (ho:T.ops=l) {q:Nat} (hq:q < T.size):l.getD q (0,0)=((T.sub q).kind,(T.sub q).val):=by
 obtain ⟨r,hr⟩:=Tm.sub_drop T q hq;rw [ho] at hr;have h0:l.getD q (0,0)=(l.drop q).getD 0 (0,0):=by simp [List.getD_eq_getElem?_getD]
 rw [h0,hr,<- Tm.ops_head (T.sub q) (0,0)];have hne:=Tm.ops_ne (T.sub q)
 cases hx:(T.sub q).ops with
 | nil=>exact absurd hx hne
 | cons x s=>simp
theorem zIZ {T:Tm} {q:Nat} {k v:Int} {a:Tm} (hq:q < T.size) (e:T.sub q=.un k v a):T.sub (q+1)=a:=by
 have:=Tm.sub_sub T q 1 hq (by rw [e];have:=a.size_pos;simp [Tm.size];omega)
 rw [this,e];exact Tm.sub_zero a
theorem zGm {T:Tm} {q:Nat} {k v:Int} {a b:Tm} (hq:q < T.size) (e:T.sub q=.bi k v a b):T.sub (q+1)=a:=by
 have ha:=a.size_pos;have:=Tm.sub_sub T q 1 hq (by rw [e];simp [Tm.size];omega)
 rw [this,e]
 show (if 0 < a.size then a.sub 0 else b.sub (0 - a.size))=a
 rw [if_pos (by omega),Tm.sub_zero]
theorem zIx {T:Tm} (hw:T.Wf) {l:List (Int × Int)} (ho:T.ops=l) {q:Nat} {k v:Int} {a b:Tm} (hq:q < T.size) (e:T.sub q=.bi k v a b):T.sub (sec l q)=b:=by
 have ha:=a.size_pos;have hb:=b.size_pos;have hf:=Tm.sub_fits T hq;rw [e] at hf;simp only [Tm.size] at hf;have h1:=(Tm.end_at hw (q:=q+1) (by omega)).1
 rw [ho,zGm hq e] at h1;have hs:sec l q=q+(1+a.size):=by unfold sec;rw [h1];omega
 rw [hs,Tm.sub_sub T q (1+a.size) hq (by rw [e];simp only [Tm.size];omega),e,show 1+a.size=a.size+1 by omega]
 show (if a.size < a.size then a.sub a.size else b.sub (a.size - a.size))=b
 rw [if_neg (by omega),Nat.sub_self,Tm.sub_zero]
theorem zP9 {T:Tm} (hw:T.Wf) {l:List (Int × Int)} (ho:T.ops=l) (hz:zAE (l.map Prod.fst)=0) (σ:Nat->Nat->Bool) (letter:List Bool) (i:Nat) (hl:∀ v:Int,0 <= v->letter.getD v.toNat false=σ i v.toNat) (hv:∀ q,q < l.length->(l.getD q (0,0)).1=13->0 <= (l.getD q (0,0)).2) (h8:∀ q,q < l.length->8 <= (l.getD q (0,0)).1) :
  ∀ d p,l.length <= p+d->p < l.length->tru l letter (zBN (zAA l) (fun q=>(T.sub q).hb σ) i (zAA l).length) p=(T.sub p).hb σ i:=by
 have hsz:T.size=l.length:=by rw [<- Tm.ops_length,ho]
 intro d
 induction d with
 | zero=>intro p h1 h2;omega
 | succ d ih=>
  intro p h1 h2;have hq:p < T.size:=by omega
  have hop:=op_at ho hq;obtain ⟨q1,q2⟩:=zDZ hz h2
  cases hb:zAP (l.getD p (0,0)).1 with
  | true=>
   rw [zHW h2 hb]
   have hlt:(zAF l p).length < (zAA l).length:=by
    have:=zDa l (p:=p+1) (n:=l.length) (by omega)
    rw [zCT hb,List.length_append] at this;exact this
   rw [zIr _ _ _ _ _ hlt];obtain ⟨p',e1,e2,e3,e4⟩:=zCV l l.length (zAF l p).length hlt;have e1':(zAA l).getD (zAF l p).length 0=(p':Int):=e1;rw [e1']
   have:p'=p:=by
    rcases Nat.lt_trichotomy p' p with h | h | h
    ·have:=zDa l (p:=p' + 1) (n:=p) (by omega)
     rw [zCT e3,List.length_append] at this;simp at this;omega
    ·exact h
    ·have:=zDa l (p:=p+1) (n:=p') (by omega)
     rw [zCT hb,List.length_append] at this;simp at this;omega
   rw [this];rfl
  | false=>
   rw [zKu h2 hb (fun h=>(q2 h).1)]
   have hwf:=Tm.sub_wf hw p;rw [hop] at hb q1 q2 ⊢;have hvp:=hv p h2;rw [hop] at hvp
   cases hT:T.sub p with
   | leaf k v=>
    rw [hT] at hb hvp hwf;simp only [Tm.kind,Tm.val] at hb hvp ⊢;unfold mkB
    by_cases k13:k=13
    ·subst k13
     rw [if_pos rfl,Tm.hb_prop];exact hl v (hvp rfl)
    ·by_cases k11:k=11
     ·subst k11
      rw [Tm.hb_yes];rfl
     ·rw [Tm.hb_no _ _ _ k13 k11]
      have hpn:pn k=0:=hwf.2;have k8:k≠8:=fun e=>by rw [e] at hpn;exact absurd hpn (by decide)
      have k9:k≠9:=fun e=>by rw [e] at hpn;exact absurd hpn (by decide)
      have k10:k≠10:=fun e=>by rw [e] at hpn;exact absurd hpn (by decide)
      simp [k13,k11,k8,k9,k10]
   | un k v a=>
    have hs1:=zIZ hq hT;rw [hT] at hb hwf q1;simp only [Tm.kind,Tm.val] at hb q1 ⊢;have hpn:pn k=1:=hwf.2.1;have hok:okK k=true:=hwf.1
    have hk:k=10:=by
     have h14:¬ (14 <= k/\k <= 18):=by simpa [zAP] using hb
     unfold pn at hpn
     split at hpn
     ·omega
     ·split at hpn <;> omega
    subst hk;rw [ih (p+1) (by omega) (q1 (by rw [hpn];exact Nat.le_refl _)),hs1,Tm.hb_not]
    rfl
   | bi k v a b=>
    have hs1:=zGm hq hT;have hs2:=zIx hw ho hq hT;have h8p:=h8 p h2;rw [hop,hT] at h8p;rw [hT] at hb hwf q1 q2;simp only [Tm.kind,Tm.val] at hb q1 q2 ⊢;have hpn:pn k=2:=hwf.2.1;rw [ih (p+1) (by omega) (q1 (by omega)),ih (sec l p) (by have:=(q2 hpn).1;omega) (q2 hpn).2,hs1,hs2]
    simp only [Tm.kind] at h8p
    have hk:k=8\/k=9:=by
     have h14:¬ (14 <= k/\k <= 18):=by simpa [zAP] using hb
     unfold pn at hpn
     split at hpn
     ·omega
     ·split at hpn <;> omega
    rcases hk with rfl | rfl
    ·rw [Tm.hb_and];rfl
    ·rw [Tm.hb_or];rfl
theorem zEQ {k:Int} (h:zAP k=true):k=14\/k=15\/k=16\/k=17\/k=18:=by
 have:14 <= k/\k <= 18:=by simpa [zAP] using h
 omega
theorem zFb {T:Tm} (hw:T.Wf) {l:List (Int × Int)} (ho:T.ops=l) {p:Nat} (hp:p < l.length) (hb:zAP (l.getD p (0,0)).1=true) :
  (∃ k v a,(k=14\/k=17\/k=18)/\(l.getD p (0,0)).1=k/\T.sub p=.un k v a/\T.sub (p+1)=a)\/(∃ k v a b,(k=15\/k=16)/\(l.getD p (0,0)).1=k/\T.sub p=.bi k v a b/\T.sub (p+1)=a/\T.sub (sec l p)=b):=by
 have hsz:T.size=l.length:=by rw [<- Tm.ops_length,ho]
 have hq:p < T.size:=by omega
 have hop:=op_at ho hq;have hwf:=Tm.sub_wf hw p;have hk:=zEQ hb;rw [hop] at hk ⊢
 cases hT:T.sub p with
 | leaf k v=>
  rw [hT] at hk hwf;have hpn:pn k=0:=hwf.2;simp only [Tm.kind] at hk
  exfalso
  rcases hk with rfl | rfl | rfl | rfl | rfl <;> exact absurd hpn (by decide)
 | un k v a=>
  have h1:=zIZ hq hT;rw [hT] at hk hwf;have hpn:pn k=1:=hwf.2.1;simp only [Tm.kind] at hk ⊢
  left
  refine ⟨k,v,a,?_,rfl,rfl,h1⟩
  rcases hk with rfl | rfl | rfl | rfl | rfl
  ·exact .inl rfl
  ·exact absurd hpn (by decide)
  ·exact absurd hpn (by decide)
  ·exact .inr (.inl rfl)
  ·exact .inr (.inr rfl)
 | bi k v a b=>
  have h1:=zGm hq hT;have h2:=zIx hw ho hq hT;rw [hT] at hk hwf;have hpn:pn k=2:=hwf.2.1;simp only [Tm.kind] at hk ⊢
  right
  refine ⟨k,v,a,b,?_,rfl,rfl,h1,h2⟩
  rcases hk with rfl | rfl | rfl | rfl | rfl
  ·exact absurd hpn (by decide)
  ·exact .inl rfl
  ·exact .inr rfl
  ·exact absurd hpn (by decide)
  ·exact absurd hpn (by decide)
theorem zO2 {T:Tm} (hw:T.Wf) {l:List (Int × Int)} (ho:T.ops=l) (σ:Nat->Nat->Bool) {p:Nat} (hp:p < l.length) (hb:zAP (l.getD p (0,0)).1=true) (i:Nat) :
  (T.sub p).hb σ i=zBm (l.getD p (0,0)).1 ((T.sub (p+1)).hb σ i) ((T.sub (sec l p)).hb σ i) ((T.sub p).hb σ (i+1)) ((T.sub (p+1)).hb σ (i+1)):=by
 rcases zFb hw ho hp hb with ⟨k,v,a,hk,e1,e2,e3⟩ | ⟨k,v,a,b,hk,e1,e2,e3,e4⟩
 ·rw [e1,e2,e3]
  rcases hk with rfl | rfl | rfl
  ·rw [Tm.hb_next];rfl
  ·rw [Tm.hb_fin,zCe,<- Tm.hb_fin σ v];simp [zBm]
  ·rw [Tm.hb_glob,zCe,<- Tm.hb_glob σ v];simp [zBm]
 ·rw [e1,e2,e3,e4]
  rcases hk with rfl | rfl
  ·rw [Tm.hb_until,zCe,<- Tm.hb_until σ v];rfl
  ·rw [Tm.hb_rel,zCe,<- Tm.hb_rel σ v]
   show (_||_)=(_&&(_||_))
   cases Tm.hb σ a i <;> cases Tm.hb σ b i <;> simp
theorem zMa {T:Tm} (hw:T.Wf) {l:List (Int × Int)} (ho:T.ops=l) {ls:List (List Bool)} {s:Nat} (hs:s < ls.length) {p:Nat} (hp:p < l.length) (hb:zAP (l.getD p (0,0)).1=true) :
  ∃ i,s <= i/\i < ls.length/\zBT (l.getD p (0,0)).1 ((T.sub p).hb (sig ls s) i) ((T.sub (p+1)).hb (sig ls s) i) ((T.sub (sec l p)).hb (sig ls s) i)=false:=by
 refine Classical.byContradiction fun hno=>?_
 have hall:∀ i,s <= i->zBT (l.getD p (0,0)).1 ((T.sub p).hb (sig ls s) i) ((T.sub (p+1)).hb (sig ls s) i) ((T.sub (sec l p)).hb (sig ls s) i)=true:=fun i hi=>by
  have hm:s <= zAY s ls.length i/\zAY s ls.length i < ls.length:=⟨by unfold zAY;split <;> omega,zDY hs⟩
  refine Classical.byContradiction fun hf=>hno ⟨zAY s ls.length i,hm.1,hm.2,?_⟩
  rw [zGt hs,zGt hs,zGt hs];exact Bool.eq_false_iff.2 hf
 rcases zFb hw ho hp hb with ⟨k,v,a,hk,e1,e2,e3⟩ | ⟨k,v,a,b,hk,e1,e2,e3,e4⟩
 ·rw [e1,e2,e3] at hall
  rcases hk with rfl | rfl | rfl
  ·exact absurd (hall s (Nat.le_refl _)) (by simp [zBT])
  ·have h1:∀ i,s <= i->Tm.hb (sig ls s) (.un 17 v a) i=true/\Tm.hb (sig ls s) a i=false:=fun i hi=>by simpa [zBT] using hall i hi
   have h0:=(h1 s (Nat.le_refl _)).1;rw [Tm.hb_fin,zBa] at h0
   rcases h0 with ⟨j,hj,hu,_⟩ | ⟨hd,_⟩
   ·rw [(h1 j hj).2] at hu;cases hu
   ·cases hd
  ·have h1:∀ i,s <= i->Tm.hb (sig ls s) (.un 18 v a) i=false/\Tm.hb (sig ls s) a i=true:=fun i hi=>by simpa [zBT] using hall i hi
   have h0:=(h1 s (Nat.le_refl _)).1
   have:Tm.hb (sig ls s) (.un 18 v a) s=true:=by
    rw [Tm.hb_glob,zBa];exact .inr ⟨rfl,fun m hm=>(h1 m hm).2⟩
   rw [this] at h0;cases h0
 ·rw [e1,e2,e3,e4] at hall
  rcases hk with rfl | rfl
  ·have h1:∀ i,s <= i->Tm.hb (sig ls s) (.bi 15 v a b) i=true/\Tm.hb (sig ls s) b i=false:=fun i hi=>by simpa [zBT] using hall i hi
   have h0:=(h1 s (Nat.le_refl _)).1;rw [Tm.hb_until,zBa] at h0
   rcases h0 with ⟨j,hj,hu,_⟩ | ⟨hd,_⟩
   ·rw [(h1 j hj).2] at hu;cases hu
   ·cases hd
  ·have h1:∀ i,s <= i->Tm.hb (sig ls s) (.bi 16 v a b) i=false/\Tm.hb (sig ls s) b i=true:=fun i hi=>by simpa [zBT] using hall i hi
   have h0:=(h1 s (Nat.le_refl _)).1
   have:Tm.hb (sig ls s) (.bi 16 v a b) s=true:=by
    rw [Tm.hb_rel,zBa];exact .inr ⟨rfl,fun m hm=>(h1 m hm).2⟩
   rw [this] at h0;cases h0
theorem zFk {t:Nat->Bool} {i j:Nat} (h:∀ m,i <= m->m < j->t m=t (m+1)):∀ m,i <= m->m <= j->t i=t m:=by
 intro m
 induction m with
 | zero=>intro h1 _;rw [Nat.le_zero.1 h1]
 | succ m ih=>
  intro h1 h2
  by_cases e:i=m+1
  ·rw [e]
  ·rw [ih (by omega) (by omega),h m (by omega) (by omega)]
theorem zER {u v t:Nat->Bool} (d:Bool) (hst:∀ i,t i=(u i||(v i&&t (i+1)))) (i:Nat):t i=zB6 u v d i\/∀ m,i <= m->u m=false/\v m=true/\t m=!d:=by
  by_cases hex:∃ j,i <= j/\(u j=true\/v j=false)
  · left
    obtain ⟨j0,h0,h1⟩:=hex;obtain ⟨j,hj,hp,hless⟩:=Tm.least (P:=fun j=>u j=true\/v j=false) i j0 h0 h1
    have hmid:∀ m,i <= m->m < j->u m=false/\v m=true:=fun m a b=>by
      have:=hless m a b
      constructor
      · exact Bool.eq_false_iff.2 fun e=>this (.inl e)
      · exact Classical.byContradiction fun e=>this (.inr (Bool.eq_false_iff.2 e))
    have h1:=zFk (t:=t) (i:=i) (j:=j) (fun m a b=>by have:=hmid m a b;rw [hst m,this.1,this.2];simp) j hj (Nat.le_refl _)
    have h2:=zFk (t:=zB6 u v d) (i:=i) (j:=j) (fun m a b=>by have:=hmid m a b;rw [zCe u v d m,this.1,this.2];simp) j hj (Nat.le_refl _)
    rw [h1,h2,hst j,zCe]
    rcases hp with h | h
    · rw [h];simp
    · rw [h];simp
  · have hall:∀ m,i <= m->u m=false/\v m=true:=fun m hm=>by
      constructor
      · exact Bool.eq_false_iff.2 fun e=>hex ⟨m,hm,.inl e⟩
      · exact Classical.byContradiction fun e=>hex ⟨m,hm,.inr (Bool.eq_false_iff.2 e)⟩
    have hc:∀ m,i <= m->t i=t m:=fun m hm=>zFk (t:=t) (i:=i) (j:=m) (fun k a _=>by have:=hall k a;rw [hst k,this.1,this.2];simp) m hm (Nat.le_refl _)
    by_cases e:t i=d
    · left
      rw [e,zJO (u:=u) (v:=v) (d:=d) hall]
    · right
      intro m hm;refine ⟨(hall m hm).1,(hall m hm).2,?_⟩
      rw [<- hc m hm];generalize t i=x at e
      cases d <;> cases x <;> first | rfl | exact absurd rfl e
theorem zO8 {T:Tm} (hw:T.Wf) {l:List (Int × Int)} (ho:T.ops=l) (hz:zAE (l.map Prod.fst)=0) {ls:List (List Bool)} {s:Nat} (hs:s < ls.length) (t:Nat->Nat->Bool)
  (hper:∀ i p,t (zAY s ls.length i) p=t i p)
  (hmk:∀ i p,p < l.length->zAP (l.getD p (0,0)).1=false->(1 <= pn (l.getD p (0,0)).1->t i (p+1)=(T.sub (p+1)).hb (sig ls s) i)->(pn (l.getD p (0,0)).1=2->t i (sec l p)=(T.sub (sec l p)).hb (sig ls s) i)->t i p=(T.sub p).hb (sig ls s) i)
  (hfol:∀ i p,p < l.length->zAP (l.getD p (0,0)).1=true->t i p=zBm (l.getD p (0,0)).1 (t i (p+1)) (t i (sec l p)) (t (i+1) p) (t (i+1) (p+1)))
  (hmet:∀ p,p < l.length->zAP (l.getD p (0,0)).1=true->∃ i,s <= i/\i < ls.length/\zBT (l.getD p (0,0)).1 (t i p) (t i (p+1)) (t i (sec l p))=false) :
  ∀ d p,l.length <= p+d->p < l.length->∀ i,t i p=(T.sub p).hb (sig ls s) i:=by
 intro d
 induction d with
 | zero=>intro p h1 h2;omega
 | succ d ih=>
  intro p h1 h2 i;obtain ⟨q1,q2⟩:=zDZ hz h2
  cases hb:zAP (l.getD p (0,0)).1 with
  | false=>exact hmk i p h2 hb (fun h=>ih (p+1) (by omega) (q1 h) i) (fun h=>ih (sec l p) (by have:=(q2 h).1;omega) (q2 h).2 i)
  | true=>
   have hnw:∀ c,(∀ m,c <= m->zBT (l.getD p (0,0)).1 (t m p) (t m (p+1)) (t m (sec l p))=true)->False:=fun c hall=>by
    obtain ⟨i0,a1,a2,a3⟩:=hmet p h2 hb
    have hj:zAY s ls.length (i0+c*(ls.length - s))=i0:=by
     unfold zAY
     split
     ·rename_i hlt
      have:c*(ls.length - s)=0:=by
       rcases Nat.eq_zero_or_pos c with h | h
       ·rw [h,Nat.zero_mul]
       ·have:ls.length - s <= c*(ls.length - s):=Nat.le_mul_of_pos_left _ h
        omega
      omega
     ·rw [show i0+c*(ls.length - s) - s=(i0 - s)+c*(ls.length - s) by omega,Nat.add_mul_mod_self_right,Nat.mod_eq_of_lt (by omega)]
      omega
    have hle:c <= i0+c*(ls.length - s):=by
     have:c*1 <= c*(ls.length - s):=Nat.mul_le_mul_left _ (by omega)
     omega
    have:=hall _ hle;rw [<- hper (i0+c*(ls.length - s)) p,<- hper (i0+c*(ls.length - s)) (p+1),<- hper (i0+c*(ls.length - s)) (sec l p),hj,a3] at this
    cases this
   rcases zFb hw ho h2 hb with ⟨k,v,a,hk,e1,e2,e3⟩ | ⟨k,v,a,b,hk,e1,e2,e3,e4⟩
   ·have hp1:p+1 < l.length:=q1 (by rw [e1];rcases hk with rfl | rfl | rfl <;> decide)
    have ha:∀ i,t i (p+1)=Tm.hb (sig ls s) a i:=fun i=>by rw [ih (p+1) (by omega) hp1 i,e3]
    have hf:=fun i=>hfol i p h2 hb
    rw [e1] at hnw;rw [e2]
    rcases hk with rfl | rfl | rfl
    ·have:=hf i
     rw [e1] at this;rw [this,Tm.hb_next,<- ha];rfl
    ·rw [Tm.hb_fin]
     rcases zER (u:=Tm.hb (sig ls s) a) (v:=fun _=>true) (t:=fun i=>t i p) false (fun i=>by show t i p=_;rw [hf i,e1,ha];rfl) i with h | h
     ·exact h
     ·exact (hnw i fun m hm=>by have:=h m hm;rw [ha,this.1,this.2.2];rfl).elim
    ·rw [Tm.hb_glob]
     rcases zER (u:=fun _=>false) (v:=Tm.hb (sig ls s) a) (t:=fun i=>t i p) true (fun i=>by show t i p=_;rw [hf i,e1,ha];simp [zBm]) i with h | h
     ·exact h
     ·exact (hnw i fun m hm=>by have:=h m hm;rw [ha,this.2.1,this.2.2];rfl).elim
   ·have hp2:pn (l.getD p (0,0)).1=2:=by rw [e1];rcases hk with rfl | rfl <;> rfl
    have hp1:p+1 < l.length:=q1 (by omega)
    have ha:∀ i,t i (p+1)=Tm.hb (sig ls s) a i:=fun i=>by rw [ih (p+1) (by omega) hp1 i,e3]
    have hbb:∀ i,t i (sec l p)=Tm.hb (sig ls s) b i:=fun i=>by rw [ih (sec l p) (by have:=(q2 hp2).1;omega) (q2 hp2).2 i,e4]
    have hf:=fun i=>hfol i p h2 hb
    rw [e1] at hnw;rw [e2]
    rcases hk with rfl | rfl
    ·rw [Tm.hb_until]
     rcases zER (u:=Tm.hb (sig ls s) b) (v:=Tm.hb (sig ls s) a) (t:=fun i=>t i p) false (fun i=>by show t i p=_;rw [hf i,e1,ha,hbb];rfl) i with h | h
     ·exact h
     ·exact (hnw i fun m hm=>by have:=h m hm;rw [hbb,this.1,this.2.2];cases t m (p+1) <;> rfl).elim
    ·rw [Tm.hb_rel]
     rcases zER (u:=fun j=>Tm.hb (sig ls s) a j&&Tm.hb (sig ls s) b j) (v:=Tm.hb (sig ls s) b) (t:=fun i=>t i p) true (fun i=>by show t i p=_;rw [hf i,e1,ha,hbb];show (_&&(_||_))=(_||_);cases Tm.hb (sig ls s) a i <;> cases Tm.hb (sig ls s) b i <;> simp) i with h | h
     ·exact h
     ·exact (hnw i fun m hm=>by have:=h m hm;rw [hbb,this.2.1,this.2.2];cases t m (p+1) <;> rfl).elim
