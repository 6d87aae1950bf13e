/-
  Joined out of VrLead, VrConcat, VrRuns, VkKeeps, EyWalk, in their order: a claim bears at most so many files.
-/
import Derived.Test.YtjdfdmamonjnoaaGreatDoorLateF
namespace Go.Proofs.YtjdfdmamonjnoaaGreatDoor
open Go.ChangeShapes Go.WideShapes Go.ChangeAt Go.RowKit Go.Deep Go.Maps
open Terms Tm
set_option maxHeartbeats 6400000
set_option maxRecDepth 20000
theorem keyedIV:Keyed Tryz.prog 3:=int_keyed Tryz.underlying3
theorem zeroStV (w:World):(zeroValue 143).run Tryz.prog w=.ok (.agg #[.slice none 0 0]) w:=by kernel_rfl
theorem keyIV {x:Int} (h:-9223372036854775808 <= x/\x <= 9223372036854775807):keyOf Tryz.prog 3 (.int .i64 x)=some (.int .i64 x):=keyOf_int_mk Tryz.underlying3 (WalkArith.wf_i64 (by omega))
theorem IntsV.overMap {wr w':World} {g:Nat} {v:Value} {l:List Int} (h:IntsV wr v l) (hm:∃ es c,wr.heap[g]? = some (.map es c)) (hs:Sk g g wr w'):IntsV w' v l:=by
 obtain ⟨ao,cap,rfl,h⟩:=h;refine ⟨ao,cap,rfl,fun hne=>?_⟩
 obtain ⟨b,off,rfl,hlt,hat⟩:=h hne;exact ⟨b,off,rfl,Nat.lt_of_lt_of_le hlt hs.size,fun i hi=>hs.cell ⟨hm,hm⟩ (hat i hi)⟩
def KnAt (wr:World) (m:Mo) (f:Lit->Option Value):Prop:=∀ kl v,f kl=some v->∃ c ao cap,kl=.int .i64 c/\v=.agg #[.slice ao (nextL m c).length cap]/\IntsV wr (.slice ao (nextL m c).length cap) (nextL m c)
def KnOk (wr:World) (g n:Nat) (m:Mo):Prop:=∃ f,MapIs wr 3 g n f/\KnAt wr m f
theorem KnOk.lt {wr:World} {g n:Nat} {m:Mo} (h:KnOk wr g n m):g < wr.heap.size:=by obtain ⟨f,h1,_⟩:=h;exact h1.lt
theorem MapIs.more {w:World} {kt:TypeId} {b n k:Nat} {f:Lit->Option Value} (h:MapIs w kt b n f) (hk:n <= k):MapIs w kt b k f:=by
 obtain ⟨D,⟨es,c,h1,h2,h3,h4⟩,h5⟩:=h;exact ⟨D,⟨es,c,h1,h2,Nat.le_trans h3 hk,h4⟩,h5⟩
theorem KnOk.below {wr w':World} {g n:Nat} {m:Mo} (h:KnOk wr g n m) (hb:Below wr.heap.size wr w'):KnOk w' g (n+1) m:=by
 obtain ⟨f,h1,h2⟩:=h;refine ⟨f,(h1.kept (hb.block _ h1.lt)).more (Nat.le_succ _),fun kl v hv=>?_⟩
 obtain ⟨c,ao,cap,e1,e2,e3⟩:=h2 kl v hv;exact ⟨c,ao,cap,e1,e2,e3.below hb⟩
theorem KnOk.put {wr w3 w':World} {g n:Nat} {m:Mo} {f:Lit->Option Value} {code:Int} {ao:Option Addr} {cap:Nat} (h1:MapIs wr 3 g n f) (h2:KnAt wr m f) (hb:Below wr.heap.size wr w3) (hg:w3.grownBy w' (some g))
  (hm:MapIs w' 3 g (n+1) (fput f (.int .i64 code) (.agg #[.slice ao (nextL m code).length cap]))) (hI:IntsV w3 (.slice ao (nextL m code).length cap) (nextL m code)):KnOk w' g (n+1) m/\IntsV w' (.slice ao (nextL m code).length cap) (nextL m code):=by
 have hmm:∃ es c,w3.heap[g]? = some (.map es c):=(h1.kept (hb.block _ h1.lt)).isMap
 have hs:Sk g g w3 w':=Sk.grown hg (.inl rfl);refine ⟨⟨_,hm,fun kl v hv=>?_⟩,hI.overMap hmm hs⟩
 by_cases hk:kl=.int .i64 code
 ·subst hk
  rw [fput_same] at hv
  cases hv
  exact ⟨code,ao,cap,rfl,rfl,hI.overMap hmm hs⟩
 ·rw [fput_other hk] at hv
  obtain ⟨c,ao',cap',e1,e2,e3⟩:=h2 kl v hv;exact ⟨c,ao',cap',e1,e2,(e3.below hb).overMap hmm hs⟩
open Classical in
theorem allLead_any (va vr:Value) (m:Mo) (b off cap:Nat) (cs:List Int) (w:World) (hB:0 < w.heap.size) (hT:TabAt w) (hV:ModelV w va vr m) (hm:mcode m=0) (h2:2 <= cs.length) (hM:cs.length <= 1099511627776) (hcap:cs.length <= cap) (hb:b < w.heap.size) (hC:IntsAt w b off cs)
  (h0:0 <= cs.getD 0 0/\cs.getD 0 0 < prodTo m.vars m.vars.length) :
  Calls Tryz.prog 30 #[.agg #[va,vr],.slice (some ⟨b,off,none⟩) cs.length cap] w fun e w'=>e=.returned (.bool (decide (LeadsTo m cs (cs.length - 1))))/\Below w.heap.size w w':=by
 obtain ⟨ao,ac,rfl⟩:=hV.1.shape;obtain ⟨ro,rc,rfl⟩:=hV.2.shape;have hP:=(mcode_vars hm).prod (Nat.le_refl m.vars.length);obtain ⟨W1,hW1⟩:∃ W1,W1=w.alloc (.cells #[.slice ao m.vars.length ac,.slice ro m.rules.length rc] 30):=⟨_,rfl⟩
 have hb1:Below w.heap.size w W1:=by rw [hW1];exact (Below.refl _ _).alloc (Nat.le_refl _) _
 have hz1:W1.heap.size=w.heap.size+1:=by rw [hW1];simp
 have HNe:Hid (∀ (w1:World) (code:Int),Below (w.heap.size+1) W1 w1->(0 <= code/\code < prodTo m.vars m.vars.length)->Calls Tryz.prog 22 #[.agg #[.slice ao m.vars.length ac,.slice ro m.rules.length rc],.int .i64 code] w1 fun e w'=>∃ no nc,e=.returned (.tuple #[.slice no (nextL m code).length nc,.int .i64 0])/\Below w1.heap.size w1 w'/\Hid (IntsV w' (.slice no (nextL m code).length nc) (nextL m code)/\∀ a,no=some a->w1.heap.size <= a.block)):=fun w1 code h hcr=>by
  have h0:=hb1.trans (h.mono (Nat.le_succ _));refine (next_own _ _ m code w1 (Nat.lt_of_lt_of_le hB h0.size) (hT.below h0 hB) (hV.below h0) hm).mono fun e w' ⟨v,q1,q2,q3⟩=>?_
  have q4:=intsV_of_owns q3;rw [nxtL_yes hm hcr] at q4;obtain ⟨no,nc,rfl,hx⟩:=q4;refine ⟨no,nc,by rw [q1,wcode_yes hm hcr],q2,⟨no,nc,rfl,hx⟩,fun a e=>?_⟩
  rcases q3.2 with ⟨e3,_⟩ | ⟨g',cap',cur',e3,e4,_⟩
  ·rw [e] at e3;cases e3
  ·rw [e] at e3
   injection e3 with e3 _ _
   injection e3 with e3
   rw [e3];exact e4
 have HCo:Hid (∀ (w1:World) (no:Option Addr) (nc:Nat) (code x:Int),(0 <= code/\code < prodTo m.vars m.vars.length)->IntsV w1 (.slice no (nextL m code).length nc) (nextL m code)->Calls Tryz.prog 64 #[.slice no (nextL m code).length nc,.int .i64 x] w1 fun e w'=>e=.returned (.bool (decide (x∈nextL m code)))/\w'=w1):=fun w1 no nc code x hcr hI=>containsV_any no nc (nextL m code) x w1 (by have:=nxtL_length m code;rw [nxtL_yes hm hcr] at this;have h9:=(mcode_rules hm);omega) hI
 have HBx:Hid (∀ w1,Below (w.heap.size+1) W1 w1->w1.cell? ⟨w.heap.size,0,none⟩=some (.slice ao m.vars.length ac)/\w1.cell? ⟨w.heap.size,1,none⟩=some (.slice ro m.rules.length rc)):=fun w1 h=>by
  have hl:w.heap.size < w.heap.size+1:=Nat.lt_succ_self _;exact ⟨(h.cell (p:=⟨w.heap.size,0,none⟩) hl).trans (by rw [hW1];simp [go_sem]),(h.cell (p:=⟨w.heap.size,1,none⟩) hl).trans (by rw [hW1];simp [go_sem])⟩
 have HCs:Hid (∀ w1,Below (w.heap.size+1) W1 w1->∀ i,i < cs.length->w1.cell? ⟨b,off+i,none⟩=some (.int .i64 (cs.getD i 0))):=fun w1 h i hi=>((hb1.trans (h.mono (Nat.le_succ _))).cell (p:=⟨b,off+i,none⟩) hb).trans (hC i hi)
 have HRg:Hid (∀ k,LeadsTo m cs k->0 <= cs.getD k 0/\cs.getD k 0 < prodTo m.vars m.vars.length):=fun k h=>h.range hm h0
 have HNo:Hid (∀ k,k+1 < cs.length->(0 <= cs.getD k 0/\cs.getD k 0 < prodTo m.vars m.vars.length)->cs.getD (k+1) 0∉nextL m (cs.getD k 0)->decide (LeadsTo m cs (cs.length - 1))=false):=fun k hk hr hn=>decide_eq_false fun h=>hn (by have:=h k (by omega);rw [nxtL_yes hm hr] at this;exact this)
 have HYs:Hid (∀ k,LeadsTo m cs k->cs.getD (k+1) 0∈nextL m (cs.getD k 0)->LeadsTo m cs (k+1)):=fun k h h2=>h.succ (by rw [nxtL_yes hm (h.range hm h0)];exact h2)
 have HRes:Hid (∀ k,LeadsTo m cs k->k=cs.length - 1->decide (LeadsTo m cs (cs.length - 1))=true):=fun k h e=>by rw [<- e];exact decide_eq_true h
 have HK0:Hid (∀ w1:World,KnOk (w1.alloc (.map #[] 0)) w1.heap.size 0 m):=fun w1=>⟨fun _=>none,MapIs.new _ (MapKept.heap_alloc w1 _).1,fun kl v h=>by cases h⟩
 have HPut:Hid (∀ (w1:World) (g n:Nat) (f:Lit->Option Value) (code:Int) (v:Value),MapIs w1 3 g n f->n <= 1099511627776->(0 <= code/\code < prodTo m.vars m.vars.length)->∃ w',(Instr.mapUpdate 141 (.map (some g)) (.int .i64 code) v).run Tryz.prog w1=.ok () w'/\MapIs w' 3 g (n+1) (fput f (.int .i64 code) v)/\w1.grownBy w' (some g)):=fun w1 g n f code v h hn hcr=>h.put keyedIV Tryz.underlying141 (by unfold maxLen;omega) (val:=v) (keyIV (by omega)) (by simp [WideAt.IsKeyLit])
 have HLk:Hid (∀ (w1:World) (g n:Nat) (f:Lit->Option Value) (code:Int),MapIs w1 3 g n f->(0 <= code/\code < prodTo m.vars m.vars.length)->(Instr.lookup 141 (.map (some g)) (.int .i64 code) true).run Tryz.prog w1=.ok (.tuple #[(f (.int .i64 code)).getD (.agg #[.slice none 0 0]),.bool (f (.int .i64 code)).isSome]) w1):=fun w1 g n f code h hcr=>h.look keyedIV Tryz.underlying141 (zeroStV _) (keyIV (by omega))
 generalize decide (LeadsTo m cs (cs.length - 1))=res at *;obtain ⟨n,hn⟩:∃ n,n=cs.length:=⟨_,rfl⟩
 have HN:Hid (n=cs.length):=hn;rw [<- hn] at h2 hM hcap HCs HNo HRes ⊢;generalize m.vars.length=vn at *;generalize m.rules.length=rn at *;have hc1:¬ cap=1:=by omega
 have HKs:Hid (KnOk (W1.alloc (.map #[] 0)) (w.heap.size+1) 0 m):=by have h:=HK0.out W1;rw [hz1] at h;exact h
 have HBs:Hid (Below (w.heap.size+1) W1 (W1.alloc (.map #[] 0))):=(Below.refl _ _).alloc (by omega) _
 have HBe:Hid (∀ w1,Below (w.heap.size+1) W1 w1->Below w.heap.size w w1):=fun w1 h=>hb1.trans (h.mono (Nat.le_succ _))
 have HBn:Hid (∀ (wr:World) (v:Value) (w':World),Below (wr.heap.size+1) (wr.alloc (.cells #[v] 143)) w'->Below wr.heap.size wr w'/\w'.cell? ⟨wr.heap.size,0,none⟩=some v/\w'.frozen? ⟨wr.heap.size,0,none⟩=false):=fun wr v w' h=>by
  have hl:wr.heap.size < wr.heap.size+1:=Nat.lt_succ_self _;exact ⟨((Below.refl _ _).alloc (Nat.le_refl _) _).trans (h.mono (Nat.le_succ _)),(h.cell (p:=⟨wr.heap.size,0,none⟩) hl).trans (by simp [go_sem]),(h.frozen (p:=⟨wr.heap.size,0,none⟩) hl).trans (by simp [go_sem])⟩
 clear hT hV hC h0 hn hm hP HK0;have hmm:=@run_makeMap Tryz.prog
 go_enter Tryz.func30,Tryz.ntmps30
 go_wp2_with fail
 rw [<- hW1];clear hW1 hz1 hb1;obtain ⟨p,hp⟩:∃ p,n - 1=p:=⟨_,rfl⟩
 rw [hp];have HPn:Hid (n=p+1):=by show _=_;omega
 have hpM:p <= 1099511627776:=by omega
 rw [hp] at HRes;clear hp
 go_loopw [17] (fun i wr=>∃ k:Nat,k <= p/\i=.int .i64 (k:Int)/\Hid (LeadsTo m cs k)/\Hid (KnOk wr (w.heap.size+1) k m)/\Hid (Below (w.heap.size+1) W1 wr)) (fun i _=>p - (intOf i).toNat)
 case atStart=>exact ⟨0,Nat.zero_le _,rfl,LeadsTo.zero _ _,HKs,HBs⟩
 case round=>
  obtain ⟨k,hk,rfl,HL,HK,HBl⟩:=hrel
  by_cases hlt:k < p
  ·obtain ⟨f,hf,hfa⟩:=HK.out
   have hbl:=HBl.out;have hws:w.heap.size+1 <= wr.heap.size:=Nat.le_of_lt HK.out.lt;have hrg:=HRg.out k HL.out;have hpn:=HPn.out;have c0:=HCs.out wr hbl k (by omega)
   have c1:wr.cell? ⟨b,off+1+k,none⟩=_:=(congrArg (fun j=>wr.cell? ⟨b,j,none⟩) (by omega:off+1+k=off+(k+1))).trans (HCs.out wr hbl (k+1) (by omega))
   have hlk:=HLk.out wr _ _ f _ hf hrg;have HNx:Hid _:=HNo.out k (by omega) hrg
   have HYx:Hid _:=HYs.out k HL.out;have hki:(k:Int) < (p:Int):=by omega
   have hki2:(k:Int) < (n:Int):=by omega
   clear hpn HL;generalize cs.getD k 0=x at *;generalize cs.getD (k+1) 0=y at *;have HF:Hid (MapIs wr 3 (w.heap.size+1) k f/\KnAt wr m f):=⟨hf,hfa⟩
   cases hfx:f (.int .i64 x) with
   | some v=>
    obtain ⟨c,no,nc,e1,e2,hI⟩:=hfa _ _ hfx
    injection e1 with _ e1
    subst e1 e2;rw [hfx] at hlk;simp only [Option.getD_some,Option.isSome_some] at hlk;have hB3:Below wr.heap.size wr (wr.alloc (.cells #[.slice no (nextL m x).length nc] 143)):=(Below.refl _ _).alloc (Nat.le_refl _) _;have hco:=HCo.out _ no nc x y hrg (hI.below hB3)
    have HKn:Hid (KnOk (wr.alloc (.cells #[.slice no (nextL m x).length nc] 143)) (w.heap.size+1) (k+1) m):=HK.out.below hB3;have HB4:Hid (Below (w.heap.size+1) W1 (wr.alloc (.cells #[.slice no (nextL m x).length nc] 143))):=hbl.trans (hB3.mono hws);clear hf hfa hfx hI hB3 HK HF;generalize (nextL m x).length=nn at *
    by_cases hy:y∈nextL m x
    ·rw [decide_eq_true hy] at hco
     have HY:Hid (LeadsTo m cs (k+1)):=HYx.out hy;clear hy hrg HNx
     go_wp2_with (go_at_call 64;refine hco.mono ?_;rintro e w4 ⟨rfl,rfl⟩)
     go_roundw
     case rel=>exact ⟨k+1,by omega,by go_num,HY,HKn,HB4⟩
     case measure=>simp [intOf];omega
    ·rw [decide_eq_false hy] at hco
     have HR:Hid (res=false):=HNx.out hy;clear hy hrg HYx
     go_wp2_with (go_at_call 64;refine hco.mono ?_;rintro e w4 ⟨rfl,rfl⟩)
     go_ret
     exact ⟨by rw [HR.out];rfl,HBe.out _ HB4.out⟩
   | none=>
    rw [hfx] at hlk;simp only [Option.getD_none,Option.isSome_none] at hlk;have hB2:Below wr.heap.size wr (wr.alloc (.cells #[.slice none 0 0] 143)):=(Below.refl _ _).alloc (Nat.le_refl _) _;have hbl2:=hbl.trans (hB2.mono hws);have hne:=HNe.out _ x hbl2 hrg;obtain ⟨m0,m1⟩:=HBx.out _ hbl2;have HNw:=HBn.out wr (.slice none 0 0)
    have hszA:(wr.alloc (.cells #[.slice none 0 0] 143)).heap.size=wr.heap.size+1:=by simp
    have HNw:Hid (∀ w',Below (wr.alloc (.cells #[.slice none 0 0] 143)).heap.size (wr.alloc (.cells #[.slice none 0 0] 143)) w'->Below wr.heap.size wr w'/\w'.cell? ⟨wr.heap.size,0,none⟩=some (.slice none 0 0)/\w'.frozen? ⟨wr.heap.size,0,none⟩=false):=fun w' h=>HBn.out wr _ w' (by rw [hszA] at h;exact h)
    have HSt:Hid (∀ (w2:World) (no:Option Addr) (nc:Nat),Below (wr.alloc (.cells #[.slice none 0 0] 143)).heap.size (wr.alloc (.cells #[.slice none 0 0] 143)) w2->(IntsV w2 (.slice no (nextL m x).length nc) (nextL m x)/\∀ a,no=some a->(wr.alloc (.cells #[.slice none 0 0] 143)).heap.size <= a.block)->∃ w4,(Instr.mapUpdate 141 (.map (some (w.heap.size+1))) (.int .i64 x) (.agg #[.slice no (nextL m x).length nc])).run Tryz.prog (w2.setCell ⟨wr.heap.size,0,none⟩ (.slice no (nextL m x).length nc))=.ok () w4/\w4.cell? ⟨wr.heap.size,0,none⟩=some (.slice no (nextL m x).length nc)/\Hid (KnOk w4 (w.heap.size+1) (k+1) m)/\Hid (Below (w.heap.size+1) W1 w4)/\IntsV w4 (.slice no (nextL m x).length nc) (nextL m x)):=fun w2 no nc h hI=>by
     obtain ⟨hI,hIa⟩:=hI;obtain ⟨q1,q2,q3⟩:=HNw.out w2 h;have hB3:Below wr.heap.size wr (w2.setCell ⟨wr.heap.size,0,none⟩ (.slice no (nextL m x).length nc)):=⟨q1.os,q1.tape,q1.output,by simpa using q1.size,fun i hi=>(RowKit.Below.heap_setCell _ _ _ _ (by show i≠wr.heap.size;omega)).trans (q1.block i hi)⟩
     obtain ⟨w4,r1,r2,r3⟩:=HPut.out _ _ k f x (.agg #[.slice no (nextL m x).length nc]) (HF.out.1.kept (hB3.block _ HF.out.1.lt)) (by omega) hrg
     have hI3:IntsV (w2.setCell ⟨wr.heap.size,0,none⟩ (.slice no (nextL m x).length nc)) (.slice no (nextL m x).length nc) (nextL m x):=by
      obtain ⟨ao,cap,e,hx⟩:=hI
      injection e with e1 _ e3
      subst e1 e3;refine ⟨_,_,rfl,fun hne=>?_⟩
      obtain ⟨b,off,rfl,hlt,hat⟩:=hx hne;have:=hIa _ rfl;rw [hszA] at this;exact ⟨b,off,rfl,by simpa using hlt,fun i hi=>by rw [World.cell?_setCell_other _ _ _ _ (by intro e;injection e with e _;simp at this;omega)];exact hat i hi⟩
     obtain ⟨t1,t2⟩:=KnOk.put HF.out.1 HF.out.2 hB3 r3 r2 hI3;have hb3w:=hbl.trans (hB3.mono hws);have hmm:∃ es c,(w2.setCell ⟨wr.heap.size,0,none⟩ (.slice no (nextL m x).length nc)).heap[w.heap.size+1]? = some (.map es c):=(HF.out.1.kept (hB3.block _ HF.out.1.lt)).isMap
     refine ⟨w4,r1,?_,t1,hb3w.grown r3 (Nat.le_trans hws hB3.size) (fun q hq=>by injection hq with hq;omega),t2⟩
     refine (Sk.grown r3 (.inl rfl):Sk (w.heap.size+1) (w.heap.size+1) _ _).cell ⟨hmm,hmm⟩ ?_
     simp [go_sem,q2]
    have HCx:Hid (∀ (w1:World) (no:Option Addr) (nc:Nat),IntsV w1 (.slice no (nextL m x).length nc) (nextL m x)->Calls Tryz.prog 64 #[.slice no (nextL m x).length nc,.int .i64 y] w1 fun e w'=>e=.returned (.bool (decide (y∈nextL m x)))/\w'=w1):=fun w1 no nc h=>HCo.out w1 no nc x y hrg h
    clear hf hfa hfx HK HF hB2 hbl2 HBx;generalize (nextL m x).length=nn at *
    by_cases hy:y∈nextL m x
    ·rw [decide_eq_true hy] at HCx
     have HY:Hid (LeadsTo m cs (k+1)):=HYx.out hy;clear hy hrg HNx
     go_wp2_with (first | (go_at_call 22;refine hne.mono ?_;rintro e w2 ⟨no,nc,rfl,hb2,HI⟩;obtain ⟨_,g1,g2⟩:=HNw.out w2 hb2;obtain ⟨w4,hrun,g3,HKn,HB4,hI4⟩:=HSt.out w2 no nc hb2 HI.out;have hco:=HCx.out w4 no nc hI4) | (go_at_call 64;refine hco.mono ?_;rintro e w5 ⟨rfl,rfl⟩))
     go_roundw
     case rel=>exact ⟨k+1,by omega,by go_num,HY,HKn,HB4⟩
     case measure=>simp [intOf];omega
    ·rw [decide_eq_false hy] at HCx
     have HR:Hid (res=false):=HNx.out hy;clear hy hrg HYx
     go_wp2_with (first | (go_at_call 22;refine hne.mono ?_;rintro e w2 ⟨no,nc,rfl,hb2,HI⟩;obtain ⟨_,g1,g2⟩:=HNw.out w2 hb2;obtain ⟨w4,hrun,g3,HKn,HB4,hI4⟩:=HSt.out w2 no nc hb2 HI.out;have hco:=HCx.out w4 no nc hI4) | (go_at_call 64;refine hco.mono ?_;rintro e w5 ⟨rfl,rfl⟩))
     go_ret
     exact ⟨by rw [HR.out];rfl,HBe.out _ HB4.out⟩
  ·obtain rfl:k=p:=by omega
   have HR:Hid (res=true):=HRes.out k HL.out rfl;have hbe:=HBe.out _ HBl.out;clear HK HL HRes
   go_wp2
   go_ret
   exact ⟨by rw [HR.out];rfl,hbe⟩
end Go.Proofs.YtjdfdmamonjnoaaGreatDoor
namespace Go.Proofs.YtjdfdmamonjnoaaGreatDoor
open Go.ChangeShapes Go.WideShapes Go.ChangeAt Go.RowKit Go.Deep
open Terms
set_option maxHeartbeats 6400000
set_option maxRecDepth 20000
theorem growI_any (n:Nat) (w:World) (h0:0 < n) (h24:n <= 1099511627776) :
  Calls Tryz.prog 63 #[.slice none 0 0,.int .i64 (n:Int)] w fun e w'=>∃ B cap,e=.returned (.slice (some ⟨B,0,none⟩) 0 cap)/\Below w.heap.size w w'/\w'.ownsRow w.heap.size 3 1 (.slice (some ⟨B,0,none⟩) 0 cap) 0 []:=by
 obtain ⟨i0,hi,hz0,hz1,hz2⟩:=info_parts infoInt
 have hrz:∀ ty,(Builtin.append_ #[36,3] ty #[.slice none 0 0,.int .i64 (n:Int)]).run Tryz.prog w=.ok (.slice (some ⟨w.heap.size,0,none⟩) n (grownCap w n 0 3)) (w.drew.alloc (.cells (Builtin.zeroCells (Value.int .i64 0).cells n++Builtin.zeroCells (Value.int .i64 0).cells (grownCap w n 0 3 - n)) 3)):=fun ty=>
  Lib.run_append_nil_zeros w 36 3 ty 3 i0 (.int .i64 0) .i64 .i64 Tryz.underlying36 Tryz.underlying3 hi hz0 n h0 (by omega) (by omega) (by rw [hz2];omega)
 have hge:=grownCap_ge w n 0 3;have hle:=grownCap_le_maxLen w n 0 3 (by unfold maxLen;omega)
 generalize grownCap w n 0 3=G at hrz hge hle;have hG:G <= 9223372036854775807:=by unfold maxLen at hle;omega
 have hn:¬ (n:Int) < 0:=by omega
 have hn2:(n:Int) > 0:=by omega
 go_enter Tryz.func63,Tryz.ntmps63
 go_wp2_with (at_builtin;refine Lib.wpList_append_run _ rfl _ _ _ _ rfl _ _ rfl rfl _ _ (hrz _) ?_)
 go_ret
 refine ⟨_,_,rfl,(below_drewN (Below.refl _ _) 1).alloc (Nat.le_refl _) _,?_⟩
 refine ⟨rfl,.inr ⟨w.heap.size,G,Builtin.zeroCells #[Value.int .i64 0] n++Builtin.zeroCells #[Value.int .i64 0] (G - n),rfl,Nat.le_refl _,?_,Nat.zero_le _,hle,?_,by simp⟩⟩
 ·show (w.heap.push _)[w.heap.size]? = _
  simp
 ·simp [size_zeroCells]
  omega
def accI (xs:List (List Int)) (k:Nat):List Int:=(xs.take k).flatten
theorem accI_step {xs:List (List Int)} {k:Nat} (h:k < xs.length):accI xs (k+1)=accI xs k++xs.getD k []:=by
 unfold accI;rw [List.take_succ_eq_append_getElem h,List.flatten_append];simp [List.getD_eq_getElem?_getD,h]
theorem accI_le (xs:List (List Int)) (k:Nat):(accI xs k).length <= xs.flatten.length:=by
 unfold accI;have:=congrArg List.length (congrArg List.flatten (List.take_append_drop k xs));rw [List.flatten_append,List.length_append] at this;omega
theorem concatI_own (g:Nat) (xs:List (List Int)) (w0 w:World) (hb0:Below w0.heap.size w0 w) (h3:xs.length=3) (h0:1 <= xs.flatten.length) (hM:xs.flatten.length <= 1099511627776)
  (hX:∀ k,k < 3->∃ v,w.cell? ⟨g,k,none⟩=some v/\IntsW w0 v (xs.getD k [])) :
  Calls Tryz.prog 29 #[.slice (some ⟨g,0,none⟩) 3 3] w fun e w'=>∃ B cap,e=.returned (.slice (some ⟨B,0,none⟩) xs.flatten.length cap)/\Below w.heap.size w w'/\Hid (w'.ownsRow w.heap.size 3 1 (.slice (some ⟨B,0,none⟩) xs.flatten.length cap) xs.flatten.length (ivals xs.flatten)):=by
 obtain ⟨v0,c0,_⟩:=hX 0 (by omega)
 have hg:=World.block_lt_of_cell? w ⟨g,0,none⟩ c0;clear c0;obtain ⟨i0,hi,hz0,hz1,hz2⟩:=info_parts infoInt;obtain ⟨zz,hzz⟩:∃ zz:Nat->Int,zz=fun k=>((accI xs k).length:Int):=⟨_,rfl⟩
 have HAt:Hid (∀ k,k < 3->∃ xo xn xc xl,w.cell? ⟨g,k,none⟩=some (.slice xo xn xc)/\zz (k+1)=zz k+(xn:Int)/\0 <= zz k/\zz k <= 1099511627776/\xn <= 1099511627776/\xn=xl.length/\accI xs (k+1)=accI xs k++xl/\(accI xs k).length+xn <= 1099511627776/\IntsW w0 (.slice xo xn xc) xl):=fun k hk=>by
  obtain ⟨v,hc,hI⟩:=hX k hk;obtain ⟨ao,cap,rfl,h1,h2⟩:=id hI;have e1:=accI_step (xs:=xs) (k:=k) (by omega)
  have e2:=accI_le xs k;have e3:=accI_le xs (k+1);have e4:=congrArg List.length e1;rw [List.length_append] at e4
  exact ⟨ao,_,cap,xs.getD k [],hc,by rw [hzz];show ((accI xs (k+1)).length:Int)=((accI xs k).length:Int)+_;omega,by rw [hzz];show (0:Int) <= ((accI xs k).length:Int);omega,by rw [hzz];show ((accI xs k).length:Int) <= _;omega,by omega,rfl,e1,by omega,hI⟩
 have HZ0:Hid (zz 0=0):=by show _=_;rw [hzz];rfl
 have HA0:Hid (accI xs 0=[]):=rfl;have HA3:Hid (accI xs 3=xs.flatten):=by show _=_;unfold accI;rw [<- h3,List.take_length]
 have HZ3:Hid (zz 3=((xs.flatten.length:Nat):Int)):=by show _=_;rw [hzz,<- HA3.out]
 have hgr:=fun w1=>growI_any xs.flatten.length w1 (by omega) hM
 have HLen:Hid (xs.flatten.length=xs.flatten.length):=rfl;generalize xs.flatten=fl at *;obtain ⟨tn,htn⟩:∃ tn,tn=fl.length:=⟨_,rfl⟩
 have HTn:Hid (tn=fl.length):=htn;rw [<- htn] at hgr HLen HZ3 hM h0 ⊢;generalize accI xs=ac at *;clear hX htn hzz h3 HLen
 go_enter Tryz.func29,Tryz.ntmps29
 go_wp2
 go_loop [3,11] (fun z i=>∃ k:Nat,k <= 3/\i=.int .i64 (k:Int)/\z=.int .i64 (zz k)) (fun _ i=>3 - (intOf i).toNat)
 case atStart=>exact ⟨0,by omega,rfl,by rw [HZ0.out]⟩
 case round=>
  obtain ⟨k,hk,rfl,rfl⟩:=hrel
  by_cases hlt:k < 3
  ·obtain ⟨xo,xn,xc,xl,hc,hz,hz00,hz12,hx12,hr⟩:=HAt.out k hlt
   clear hr;have HZ:Hid (zz (k+1)=zz k+(xn:Int)):=hz;clear hz;generalize zz k=z0 at *
   go_wp2
   go_round
   case rel=>exact ⟨k+1,hlt,by go_num,by rw [HZ.out]⟩
   case measure=>simp [intOf];omega
  ·obtain rfl:k=3:=by omega
   rw [HZ3.out]
   go_wp2_with (go_at_call 63;refine (hgr _).mono ?_;rintro e w1 ⟨B,cap,rfl,hb1,ho1⟩)
   clear hgr
   go_loopw [6,27] (fun nv i wr=>∃ k:Nat,k <= 3/\i=.int .i64 (k:Int)/\∃ B cap,nv=.slice (some ⟨B,0,none⟩) (ac k).length cap/\Hid (wr.ownsRow w.heap.size 3 1 nv (ac k).length (ivals (ac k)))/\Below w.heap.size w wr) (fun _ i _=>3 - (intOf i).toNat)
   case atStart=>exact ⟨0,by omega,rfl,B,cap,by rw [HA0.out];rfl,by rw [HA0.out];exact ho1,hb1⟩
   case round=>
    obtain ⟨k,hk,rfl,B,cap,rfl,HU,hbel⟩:=hrel
    by_cases hlt:k < 3
    ·obtain ⟨xo,xn,xc,xl,hc,_,_,_,hx12,hxn,hac,hal,hX⟩:=HAt.out k hlt
     have hcr:=(hbel.cell (p:=⟨g,k,none⟩) hg).trans hc;have hown:=HU.out;have HXN:Hid (xn=xl.length):=hxn;have HAC:Hid (ac (k+1)=ac k++xl):=hac;obtain ⟨xo',xc',hxv,hx0,hxat⟩:=hX
     injection hxv with e1 e2 e3
     subst e1 e3;obtain ⟨us,hus⟩:∃ us,us=ivals (ac k):=⟨_,rfl⟩
     have HUS:Hid (us=ivals (ac k)):=hus;obtain ⟨un,hun⟩:∃ un,un=(ac k).length:=⟨_,rfl⟩
     have HUN:Hid (un=(ac k).length):=hun;rw [<- hus,<- hun] at hown;rw [<- hun] at hal ⊢;clear hxn hac hus hun e2 HU
     cases xo with
     | none=>
      obtain ⟨hc0,hl0⟩:=hx0 rfl;have HL0:Hid (xl=[]):=hl0;have hxn0:xn=0:=by rw [HXN.out,HL0.out];rfl
      subst hxn0 hc0;clear hx0 hxat hl0
      go_wp2_with (at_builtin;refine wpList_append_own_none rfl (.tmp 31) (.tmp 32) 36 rfl w.heap.size 3 i0 1 Tryz.underlying36 hi _ _ _ rfl hown rfl ?_)
      go_roundw
      case rel=>exact ⟨k+1,hlt,by go_num,B,cap,by rw [HAC.out,HL0.out,List.append_nil,HUN.out],by show World.ownsRow _ _ _ _ _ _ _;rw [HAC.out,HL0.out,List.append_nil,<- HUN.out,<- HUS.out];exact hown,hbel⟩
      case measure=>simp [intOf];omega
     | some a=>
      have hcells:∀ j u,(ivals xl)[j]? = some u->wr.cell? (a.add j)=some u:=by
       intro j u hj;have hjl:j < xl.length:=by have:=(List.getElem?_eq_some_iff.1 hj).1;simpa [ivals] using this
       obtain ⟨b,off,e,hbl,hat⟩:=hxat (by rintro rfl;simp at hjl)
       obtain rfl:=Option.some.inj e;rw [Go.WideShapes.add_plain,(hb0.trans (hbel.mono hb0.size)).cell (p:=⟨b,off+j,none⟩) hbl,hat j hjl];simp [ivals,hjl] at hj
       simp [List.getD_eq_getElem?_getD,hjl,hj]
      have hvl:(ivals xl).length=xn*1:=by rw [HXN.out];simp [ivals]
      have hv1:=ivals_one xl;have hbsz:=hbel.size;have hnb:=hown.lt;clear hx0 hxat
      go_wp2_with (at_builtin;refine wpList_append_own _ rfl (.tmp 31) (.tmp 32) 36 rfl w.heap.size 3 i0 (.int .i64 0) 1 8 Tryz.underlying36 hi hz0 hz1 hz2 rfl (by decide) (.slice (some ⟨B,0,none⟩) un cap) un us rfl hown a xn xc (ivals xl) rfl hvl hcells hv1 (by unfold maxLen;omega) (by omega) hbsz ?_;intro v' w4 hown' hgrow hne)
      have hb4:Below w.heap.size w w4:=hbel.grown hgrow hbsz (fun q hq=>(hnb q hq).1)
      obtain ⟨B4,cap4,rfl⟩:∃ B4 cap4,v'=.slice (some ⟨B4,0,none⟩) (un+xn) cap4:=by
       rcases hown'.2 with ⟨h,_⟩ | ⟨g',cap',cur',h,_⟩
       ·exact absurd (hne.1 h).1 (by simp)
       ·exact ⟨_,_,h⟩
      have HLn:Hid (un+xn=(ac (k+1)).length):=by show _=_;rw [HAC.out,List.length_append,<- HUN.out,HXN.out]
      have HU4:Hid (w4.ownsRow w.heap.size 3 1 (.slice (some ⟨B4,0,none⟩) (un+xn) cap4) (ac (k+1)).length (ivals (ac (k+1)))):=by
       show World.ownsRow _ _ _ _ _ _ _
       rw [<- HLn.out,HAC.out,show ivals (ac k++xl)=us++ivals xl by rw [HUS.out];simp [ivals]]
       exact hown'
      clear hown' hgrow hown hcells hne
      go_roundw
      case rel=>exact ⟨k+1,hlt,by go_num,B4,cap4,by rw [HLn.out],HU4,hb4⟩
      case measure=>simp [intOf];omega
    ·obtain rfl:k=3:=by omega
     have HF:Hid (wr.ownsRow w.heap.size 3 1 (.slice (some ⟨B,0,none⟩) tn cap) tn (ivals fl)):=by
      have h1:=HU.out;rw [HA3.out,<- HTn.out] at h1;exact h1
     rw [HA3.out,<- HTn.out];clear HU
     go_wp2
     go_ret
     exact ⟨_,_,rfl,hbel,HF⟩
end Go.Proofs.YtjdfdmamonjnoaaGreatDoor
namespace Go.Proofs.YtjdfdmamonjnoaaGreatDoor
open Go.ChangeShapes Go.WideShapes Go.ChangeAt Go.RowKit Go.Deep Go.Maps
open Terms Tm
set_option maxHeartbeats 6400000
set_option maxRecDepth 20000
def IntsX (w:World) (v:Value) (l:List Int):Prop:=∃ ao cap,v=.slice ao l.length cap/\l.length <= cap/\(ao=none->cap=0/\l=[])/\(l≠[]->∃ b off,ao=some ⟨b,off,none⟩/\b < w.heap.size/\IntsAt w b off l)
theorem IntsX.w {w:World} {v:Value} {l:List Int} (h:IntsX w v l):IntsW w v l:=by
 obtain ⟨ao,cap,h1,_,h2,h3⟩:=h;exact ⟨ao,cap,h1,h2,h3⟩
theorem IntsX.below {w w':World} {v:Value} {l:List Int} (h:IntsX w v l) (hb:Below w.heap.size w w'):IntsX w' v l:=by
 obtain ⟨ao,cap,h1,hc,h0,h⟩:=h;refine ⟨ao,cap,h1,hc,h0,fun hne=>?_⟩
 obtain ⟨b,off,e,hlt,hat⟩:=h hne;exact ⟨b,off,e,Nat.lt_of_lt_of_le hlt hb.size,fun i hi=>(hb.cell (p:=⟨b,_,none⟩) hlt).trans (hat i hi)⟩
theorem intsX_of_owns {w:World} {base:Nat} {v:Value} {l:List Int} (h:w.ownsRow base 3 1 v l.length (ivals l)):IntsX w v l:=by
 rcases h.2 with ⟨rfl,h0⟩ | ⟨g,cap,cur,rfl,hb,hg,hnc,hcm,hcs,htake⟩
 ·have:l=[]:=by simpa using h0
  subst this;exact ⟨none,0,rfl,Nat.le_refl _,fun _=>⟨rfl,rfl⟩,fun h=>absurd rfl h⟩
 ·refine ⟨_,cap,rfl,hnc,fun h=>by simp at h,fun _=>⟨g,0,rfl,(Array.getElem?_eq_some_iff.1 hg).1,fun i hi=>?_⟩⟩
  rw [Nat.zero_add,h.cellAt i (by omega)]
  simp [ivals,List.getD_eq_getElem?_getD,hi]
theorem runs_bad (va vr sv lv:Value) (m:Mo) (w:World) (hB:0 < w.heap.size) (hT:TabAt w) (hV:ModelV w va vr m) (hm:mcode m≠0) :
  Calls Tryz.prog 11 #[.agg #[va,vr],.agg #[sv,lv]] w fun e w'=>e=.returned (.tuple #[.bool false,.int .i64 (mcode m)])/\Below w.heap.size w w':=by
 obtain ⟨W2,hW2⟩:∃ W2,W2=(w.alloc (.cells #[va,vr] 30)).alloc (.cells #[sv,lv] 38):=⟨_,rfl⟩
 have hb2:Below w.heap.size w W2:=by rw [hW2];exact ((Below.refl _ _).alloc (Nat.le_refl _) _).alloc (by simp) _
 have hfi:=mfirst_any va vr m W2 (Nat.lt_of_lt_of_le hB hb2.size) (hT.below hb2 hB) (hV.below hb2);rw [if_neg hm] at hfi;obtain ⟨ao,ac,rfl⟩:=hV.1.shape;obtain ⟨ro,rc,rfl⟩:=hV.2.shape;generalize mcode m=q at *;generalize m.vars.length=vn at *;generalize m.rules.length=rn at *;clear hT hV;rw [hW2] at hfi
 go_enter Tryz.func11,Tryz.ntmps11
 go_wp2_with (go_at_call 20;refine hfi.mono ?_;rintro e w1 ⟨rfl,hb1⟩)
 go_ret2
 rw [<- hW2] at hb1;exact ⟨rfl,hb2.trans (hb1.mono hb2.size)⟩
theorem runs_ok (va vr sv lv:Value) (m:Mo) (ss ll:List Int) (w:World) (hB:0 < w.heap.size) (hT:TabAt w) (hV:ModelV w va vr m) (hm:mcode m=0) (hS:IntsX w sv ss) (hL:IntsX w lv ll) (hz:ss.length+ll.length <= 1099511627775) :
  Calls Tryz.prog 11 #[.agg #[va,vr],.agg #[sv,lv]] w fun e w'=>e=.returned (.tuple #[.bool (runB m ss ll),.int .i64 0])/\Below w.heap.size w w':=by
 obtain ⟨W2,hW2⟩:∃ W2,W2=(w.alloc (.cells #[va,vr] 30)).alloc (.cells #[sv,lv] 38):=⟨_,rfl⟩
 have hb2:Below w.heap.size w W2:=by rw [hW2];exact ((Below.refl _ _).alloc (Nat.le_refl _) _).alloc (by simp) _
 have hz2:W2.heap.size=w.heap.size+2:=by rw [hW2];simp
 have hfi:=mfirst_any va vr m W2 (Nat.lt_of_lt_of_le hB hb2.size) (hT.below hb2 hB) (hV.below hb2);rw [if_pos hm,hm] at hfi
 have HBx:Hid (∀ w1,Below W2.heap.size W2 w1->Below w.heap.size w w1/\w.heap.size+2 <= w1.heap.size/\w1.cell? ⟨w.heap.size,0,none⟩=some va/\w1.cell? ⟨w.heap.size,1,none⟩=some vr/\w1.cell? ⟨w.heap.size+1,0,none⟩=some sv/\w1.cell? ⟨w.heap.size+1,1,none⟩=some lv):=fun w1 h=>by
  have hl:w.heap.size < W2.heap.size:=by omega
  have hl1:w.heap.size+1 < W2.heap.size:=by omega
  refine ⟨hb2.trans (h.mono hb2.size),by have:=h.size;omega,(h.cell (p:=⟨w.heap.size,0,none⟩) hl).trans ?_,(h.cell (p:=⟨w.heap.size,1,none⟩) hl).trans ?_,(h.cell (p:=⟨w.heap.size+1,0,none⟩) hl1).trans ?_,(h.cell (p:=⟨w.heap.size+1,1,none⟩) hl1).trans ?_⟩ <;> (rw [hW2];simp [go_sem])
 by_cases hl0:ll=[]
 ·subst hl0
  rw [runB_none];obtain ⟨lo,lc,rfl,_⟩:=hL;obtain ⟨ao,ac,rfl⟩:=hV.1.shape;obtain ⟨ro,rc,rfl⟩:=hV.2.shape;generalize codeTo m.vars (initsL m.vars) m.vars.length=fc at *;generalize m.vars.length=vn at *;generalize m.rules.length=rn at *;clear hT hV hS hm;rw [hW2] at hfi
  go_enter Tryz.func11,Tryz.ntmps11
  go_wp2_with (go_at_call 20;refine hfi.mono ?_;rintro e w1 ⟨rfl,hb1⟩;rw [<- hW2] at hb1;obtain ⟨hbw,_,_,_,k2,k3⟩:=HBx.out w1 hb1)
  go_ret2
  exact ⟨rfl,hbw⟩
 ·have hlp:0 < ll.length:=List.length_pos_iff.2 hl0
  have HCon:Hid (∀ (g:Nat) (w1:World) (lo:Option Addr) (lc:Nat),lv=.slice lo ll.length lc->Below w.heap.size w w1->w1.cell? ⟨g,0,none⟩=some sv->w1.cell? ⟨g,1,none⟩=some lv->w1.cell? ⟨g,2,none⟩=some (.slice lo 1 lc)->Calls Tryz.prog 29 #[.slice (some ⟨g,0,none⟩) 3 3] w1 fun e w'=>∃ B cap,e=.returned (.slice (some ⟨B,0,none⟩) (rvd ss ll).length cap)/\Below w1.heap.size w1 w'/\Hid (B < w'.heap.size/\(rvd ss ll).length <= cap/\IntsAt w' B 0 (rvd ss ll))):=fun g w1 lo lc hlv hb c0 c1 c2=>by
   have h:=concatI_own g [ss,ll,[ll.getD 0 0]] w w1 hb rfl (by rw [rvd_flat,rvd_len];omega) (by rw [rvd_flat,rvd_len];omega) (fun k hk=>by
    have hk3:k=0\/k=1\/k=2:=by omega
    rcases hk3 with rfl | rfl | rfl
    ·exact ⟨sv,c0,hS.w⟩
    ·exact ⟨lv,c1,hL.w⟩
    ·refine ⟨_,c2,lo,lc,rfl,fun h=>?_,fun _=>?_⟩
     ·obtain ⟨_,_,e,_,hx,_⟩:=hL
      rw [hlv] at e
      injection e with e1 _ _
      subst e1;exact absurd (hx h).2 hl0
     ·obtain ⟨_,_,e,_,_,hx⟩:=hL
      rw [hlv] at e
      injection e with e1 _ _
      subst e1;obtain ⟨b,off,e,hlt,hat⟩:=hx hl0;refine ⟨b,off,e,hlt,fun i hi=>?_⟩
      have hi0:i=0:=by simp at hi;omega
      subst hi0
      exact hat 0 hlp)
   rw [rvd_flat] at h;refine h.mono fun e w' ⟨B,cap,e1,e2,e3⟩=>⟨B,cap,e1,e2,?_⟩
   obtain ⟨ao,cap',e4,e5,_,e6⟩:=intsX_of_owns e3.out
   injection e4 with e7 _ e8
   subst e7 e8;obtain ⟨b,off,e9,e10,e11⟩:=e6 (by simp [rvd])
   injection e9 with e9
   injection e9 with e12 e13
   subst e12 e13;exact ⟨e10,e5,e11⟩
  have HLd:Hid (∀ (B cap:Nat) (w1:World),Below w.heap.size w w1->(B < w1.heap.size/\(rvd ss ll).length <= cap/\IntsAt w1 B 0 (rvd ss ll))->(rvd ss ll).getD 0 0=firstC m->Calls Tryz.prog 30 #[.agg #[va,vr],.slice (some ⟨B,0,none⟩) (rvd ss ll).length cap] w1 fun e w'=>e=.returned (.bool (runB m ss ll))/\Below w1.heap.size w1 w'):=fun B cap w1 hb h hf=>by
   rw [runB_lead hm hl0 hf];exact allLead_any va vr m B 0 cap (rvd ss ll) w1 (Nat.lt_of_lt_of_le hB hb.size) (hT.below hb hB) (hV.below hb) hm (by rw [rvd_len];omega) (by rw [rvd_len];omega) h.2.1 h.1 h.2.2 (by rw [hf];exact firstC_range hm)
  have HNo:Hid ((rvd ss ll).getD 0 0≠firstC m->runB m ss ll=false):=fun h=>runB_first h
  have hrp:0 < (rvd ss ll).length:=by rw [rvd_len];omega
  have hfe:codeTo m.vars (initsL m.vars) m.vars.length=firstC m:=rfl;rw [hfe] at hfi;generalize firstC m=fc at *;generalize runB m ss ll=res at *;generalize rvd ss ll=rd at *;obtain ⟨lo,lc,rfl,hlc,_⟩:=id hL;obtain ⟨so,sc,rfl,_⟩:=id hS;obtain ⟨ao,ac,rfl⟩:=hV.1.shape;obtain ⟨ro,rc,rfl⟩:=hV.2.shape;have HC1:=fun g w1=>HCon.out g w1 lo lc rfl
  have HCon:Hid _:=HC1;clear HC1;obtain ⟨rn2,hrn2⟩:∃ x,x=rd.length:=⟨_,rfl⟩
  have HRn:Hid (rn2=rd.length):=hrn2;rw [<- hrn2] at hrp HCon HLd;generalize m.vars.length=vn at *;generalize m.rules.length=rn at *;generalize ll.length=ln at *;generalize ss.length=sn at *;have hlc1:1 <= lc:=by omega
  clear hT hV hS hL hm hl0 hfe hrn2 hz;rw [hW2] at hfi
  go_enter Tryz.func11,Tryz.ntmps11
  go_wp2_with (go_at_call 20;refine hfi.mono ?_;rintro e w1 ⟨rfl,hb1⟩;rw [<- hW2] at hb1;obtain ⟨hbw,hsz,k0,k1,k2,k3⟩:=HBx.out w1 hb1)
  have hcx:=HCon.out w1.heap.size (w1.drew.alloc (.cells #[.slice so sn sc,.slice lo ln lc,.slice lo 1 lc] 36)) (hbw.drew.alloc hbw.size _) (by simp [go_sem]) (by simp [go_sem]) (by simp [go_sem])
  have HSC:Hid (∀ w',Below w1.heap.size w1 w'->w'.cell? ⟨w.heap.size+1,0,none⟩=some (.slice so sn sc)/\w'.cell? ⟨w.heap.size+1,1,none⟩=some (.slice lo ln lc)):=fun w' h=>by
   have hl:w.heap.size+1 < w1.heap.size:=by omega
   exact ⟨(h.cell (p:=⟨w.heap.size+1,0,none⟩) hl).trans k2,(h.cell (p:=⟨w.heap.size+1,1,none⟩) hl).trans k3⟩
  have hB0:Below w1.heap.size w1 w1:=Below.refl _ _
  have HM:Hid (∀ w',Below w1.heap.size w1 w'->Below w.heap.size w w'/\w'.cell? ⟨w.heap.size,0,none⟩=some (.slice ao vn ac)/\w'.cell? ⟨w.heap.size,1,none⟩=some (.slice ro rn rc)):=fun w' h=>by
   have hl:w.heap.size < w1.heap.size:=by omega
   exact ⟨hbw.trans (h.mono hbw.size),(h.cell (p:=⟨w.heap.size,0,none⟩) hl).trans k0,(h.cell (p:=⟨w.heap.size,1,none⟩) hl).trans k1⟩
  have hlc2:(1:Int) <= (lc:Int):=by omega
  clear hfi hb1
  go_region_held3 (fun w'=>w'.cell? ⟨w.heap.size+1,0,none⟩=some (.slice so sn sc)/\w'.cell? ⟨w.heap.size+1,1,none⟩=some (.slice lo ln lc))
   (first | exact HSC.out _ hb12 | exact HSC.out _ (hB0.drew.alloc hB0.drew.size _) | exact HSC.out _ hB0.drew | exact HSC.out _ hB0)
   (first
    | (go_at_call 29;refine hcx.mono ?_;rintro e w3 ⟨B,cap,rfl,hb3,HR⟩;have hb12:Below w1.heap.size w1 w3:=(hB0.drew.alloc hB0.drew.size _).trans (hb3.mono (by simp))))
  obtain ⟨hbw3,m0,m1⟩:=HM.out w3 hb12;have hR:=HR.out;have HLd3:=HLd.out B cap w3 hbw3 hR;have cz:=hR.2.2 0 (by rw [<- HRn.out];exact hrp)
  rw [Nat.zero_add] at cz;clear hR HR
  by_cases hf:rd.getD 0 0=fc
  ·have hld:=HLd3 hf
   rw [hf] at cz;clear HLd3 hf HNo
   go_wp2_with (go_at_call 30;refine hld.mono ?_;rintro e w4 ⟨rfl,hb4⟩)
   go_ret2
   exact ⟨rfl,hbw3.trans (hb4.mono hbw3.size)⟩
  ·have HNf:Hid (res=false):=HNo.out hf
   generalize rd.getD 0 0=y at *;clear HLd3
   go_wp2_with fail
   go_ret2
   exact ⟨by rw [HNf.out];first | rfl | simp [hf],hbw3⟩
theorem runs_any (va vr sv lv:Value) (m:Mo) (ss ll:List Int) (w:World) (hB:0 < w.heap.size) (hT:TabAt w) (hV:ModelV w va vr m) (hS:IntsX w sv ss) (hL:IntsX w lv ll) (hz:ss.length+ll.length <= 1099511627775) :
  Calls Tryz.prog 11 #[.agg #[va,vr],.agg #[sv,lv]] w fun e w'=>e=.returned (.tuple #[.bool (runB m ss ll),.int .i64 (mcode m)])/\Below w.heap.size w w':=by
 by_cases hm:mcode m=0
 ·have h:=runs_ok va vr sv lv m ss ll w hB hT hV hm hS hL hz
  rw [hm];exact h
 ·rw [runB_bad hm]
  exact runs_bad va vr sv lv m w hB hT hV hm
end Go.Proofs.YtjdfdmamonjnoaaGreatDoor
namespace Go.Proofs.YtjdfdmamonjnoaaGreatDoor
open Go.ChangeShapes Go.WideShapes Go.ChangeAt Go.RowKit Go.Deep
open Terms Tm
set_option maxHeartbeats 6400000
set_option maxRecDepth 20000
def Bx2 (w W2:World) (va vr pv fv sv lv:Value):Prop:=Below w.heap.size w W2/\W2.heap.size=w.heap.size+2/\∀ w1,Below W2.heap.size W2 w1->Below w.heap.size w w1/\(w1.cell? ⟨w.heap.size,0,none⟩=some va/\w1.cell? ⟨w.heap.size,1,none⟩=some vr/\w1.cell? ⟨w.heap.size,2,none⟩=some pv/\w1.cell? ⟨w.heap.size,3,none⟩=some fv)/\w1.cell? ⟨w.heap.size+1,0,none⟩=some sv/\w1.cell? ⟨w.heap.size+1,1,none⟩=some lv
theorem Bx2.new (w:World) (va vr pv fv sv lv:Value):Bx2 w ((w.alloc (.cells #[va,vr,pv,fv] 34)).alloc (.cells #[sv,lv] 38)) va vr pv fv sv lv:=by
 obtain ⟨W2,hW2⟩:∃ W2,W2=(w.alloc (.cells #[va,vr,pv,fv] 34)).alloc (.cells #[sv,lv] 38):=⟨_,rfl⟩
 rw [<- hW2];have hb2:Below w.heap.size w W2:=by rw [hW2];exact ((Below.refl _ _).alloc (Nat.le_refl _) _).alloc (by simp) _
 have hz2:W2.heap.size=w.heap.size+2:=by rw [hW2];simp
 refine ⟨hb2,hz2,fun w1 h=>?_⟩
 have hl:w.heap.size < W2.heap.size:=by omega
 have hl1:w.heap.size+1 < W2.heap.size:=by omega
 refine ⟨hb2.trans (h.mono hb2.size),⟨(h.cell (p:=⟨w.heap.size,0,none⟩) hl).trans ?_,(h.cell (p:=⟨w.heap.size,1,none⟩) hl).trans ?_,(h.cell (p:=⟨w.heap.size,2,none⟩) hl).trans ?_,(h.cell (p:=⟨w.heap.size,3,none⟩) hl).trans ?_⟩,(h.cell (p:=⟨w.heap.size+1,0,none⟩) hl1).trans ?_,(h.cell (p:=⟨w.heap.size+1,1,none⟩) hl1).trans ?_⟩ <;> (rw [hW2];simp [go_sem])
theorem keeps_task (va vr pv fv sv lv:Value) (m:Mo) (ps:List (List (Int × Int))) (l:List (Int × Int)) (w:World) (hB:0 < w.heap.size) (hT:TabAt w) (hV:TaskV w va vr pv fv m ps l) (hk:tkcode m ps l≠0) :
  Calls Tryz.prog 12 #[.agg #[va,vr,pv,fv],.agg #[sv,lv]] w fun e w'=>e=.returned (.tuple #[.bool false,.int .i64 (tkcode m ps l)])/\Below w.heap.size w w':=by
 obtain ⟨W2,hW2⟩:∃ W2,W2=(w.alloc (.cells #[va,vr,pv,fv] 34)).alloc (.cells #[sv,lv] 38):=⟨_,rfl⟩
 have hbx:Bx2 w W2 va vr pv fv sv lv:=by rw [hW2];exact Bx2.new _ _ _ _ _ _ _
 obtain ⟨hb2,hz2,HBx'⟩:=hbx;have HBx:Hid _:=HBx';have hch:=pcheck_any va vr pv fv m ps l W2 (Nat.lt_of_lt_of_le hB hb2.size) (hT.below hb2 hB) (hV.below hb2);generalize tkcode m ps l=q at *;clear hT hV HBx';rw [hW2] at hch
 go_enter Tryz.func12,Tryz.ntmps12
 go_wp2_with (go_at_call 31;refine hch.mono ?_;rintro e w1 ⟨rfl,hb1⟩;rw [<- hW2] at hb1)
 go_ret2
 exact ⟨rfl,(HBx.out w1 hb1).1⟩
theorem keeps_size (va vr pv fv sv lv:Value) (m:Mo) (ps:List (List (Int × Int))) (l:List (Int × Int)) (ss ll:List Int) (w:World) (hB:0 < w.heap.size) (hT:TabAt w) (hV:TaskV w va vr pv fv m ps l) (hk:tkcode m ps l=0) (hS:IntsX w sv ss) (hL:IntsX w lv ll) (h12:12 < ss.length\/12 < ll.length) :
  Calls Tryz.prog 12 #[.agg #[va,vr,pv,fv],.agg #[sv,lv]] w fun e w'=>e=.returned (.tuple #[.bool false,.int .i64 1])/\Below w.heap.size w w':=by
 obtain ⟨W2,hW2⟩:∃ W2,W2=(w.alloc (.cells #[va,vr,pv,fv] 34)).alloc (.cells #[sv,lv] 38):=⟨_,rfl⟩
 have hbx:Bx2 w W2 va vr pv fv sv lv:=by rw [hW2];exact Bx2.new _ _ _ _ _ _ _
 obtain ⟨hb2,hz2,HBx'⟩:=hbx;have HBx:Hid _:=HBx';have hch:=pcheck_any va vr pv fv m ps l W2 (Nat.lt_of_lt_of_le hB hb2.size) (hT.below hb2 hB) (hV.below hb2);rw [hk] at hch;obtain ⟨so,sc,rfl,_⟩:=hS;obtain ⟨lo,lc,rfl,_⟩:=hL;generalize ss.length=sn at *;generalize ll.length=ln at *;clear hT hV HBx' hk;rw [hW2] at hch
 by_cases h1:12 < sn
 ·have h1i:(12:Int) < (sn:Int):=by omega
  clear h12
  go_enter Tryz.func12,Tryz.ntmps12
  go_wp2_with (go_at_call 31;refine hch.mono ?_;rintro e w1 ⟨rfl,hb1⟩;rw [<- hW2] at hb1;obtain ⟨hbw,_,k0,k1⟩:=HBx.out w1 hb1)
  go_ret2
  exact ⟨rfl,hbw⟩
 ·have h2:12 < ln:=by omega
  have h2i:(12:Int) < (ln:Int):=by omega
  have h1i:¬ (12:Int) < (sn:Int):=by omega
  clear h12
  go_enter Tryz.func12,Tryz.ntmps12
  go_wp2_with (go_at_call 31;refine hch.mono ?_;rintro e w1 ⟨rfl,hb1⟩;rw [<- hW2] at hb1;obtain ⟨hbw,_,k0,k1⟩:=HBx.out w1 hb1)
  go_ret2
  exact ⟨rfl,hbw⟩
theorem keeps_norun (va vr pv fv sv lv:Value) (m:Mo) (ps:List (List (Int × Int))) (l:List (Int × Int)) (ss ll:List Int) (w:World) (hB:0 < w.heap.size) (hT:TabAt w) (hV:TaskV w va vr pv fv m ps l) (hk:tkcode m ps l=0) (hS:IntsX w sv ss) (hL:IntsX w lv ll) (h1:ss.length <= 12) (h2:ll.length <= 12) (hr:runB m ss ll=false) :
  Calls Tryz.prog 12 #[.agg #[va,vr,pv,fv],.agg #[sv,lv]] w fun e w'=>e=.returned (.tuple #[.bool false,.int .i64 11])/\Below w.heap.size w w':=by
 obtain ⟨W2,hW2⟩:∃ W2,W2=(w.alloc (.cells #[va,vr,pv,fv] 34)).alloc (.cells #[sv,lv] 38):=⟨_,rfl⟩
 have hbx:Bx2 w W2 va vr pv fv sv lv:=by rw [hW2];exact Bx2.new _ _ _ _ _ _ _
 obtain ⟨hb2,hz2,HBx'⟩:=hbx;have HBx:Hid _:=HBx';have hch:=pcheck_any va vr pv fv m ps l W2 (Nat.lt_of_lt_of_le hB hb2.size) (hT.below hb2 hB) (hV.below hb2);rw [hk] at hch;have hm:=(pcode_m (tk_zeroV hk).1).1
 have HRu:Hid (∀ w1,Below w.heap.size w w1->Calls Tryz.prog 11 #[.agg #[va,vr],.agg #[sv,lv]] w1 fun e w'=>e=.returned (.tuple #[.bool false,.int .i64 0])/\Below w1.heap.size w1 w'):=fun w1 h=>by
  have h9:=runs_any va vr sv lv m ss ll w1 (Nat.lt_of_lt_of_le hB h.size) (hT.below h hB) (hV.mo.below h) (hS.below h) (hL.below h) (by omega)
  rw [hr,hm] at h9;exact h9
 obtain ⟨so,sc,rfl,_⟩:=id hS;obtain ⟨lo,lc,rfl,_⟩:=id hL;obtain ⟨ao,ac,rfl⟩:=hV.mo.1.shape;obtain ⟨ro,rc,rfl⟩:=hV.mo.2.shape;generalize ss.length=sn at *;generalize ll.length=ln at *;generalize m.vars.length=vn at *;generalize m.rules.length=rn at *;clear hT hV HBx' hk hS hL hr hm;rw [hW2] at hch;have h2i:¬ (12:Int) < (ln:Int):=by omega
 have h1i:¬ (12:Int) < (sn:Int):=by omega
 go_enter Tryz.func12,Tryz.ntmps12
 go_wp2_with (first | (go_at_call 31;refine hch.mono ?_;rintro e w1 ⟨rfl,hb1⟩;rw [<- hW2] at hb1;obtain ⟨hbw,⟨k0,k1,k2,k3⟩,k4,k5⟩:=HBx.out w1 hb1;have hru:=HRu.out w1 hbw) | (go_at_call 11;refine hru.mono ?_;rintro e w3 ⟨rfl,hb3⟩))
 go_ret2
 exact ⟨rfl,hbw.trans (hb3.mono hbw.size)⟩
theorem keeps_ok (va vr pv fv sv lv:Value) (m:Mo) (ps:List (List (Int × Int))) (l:List (Int × Int)) (ss ll:List Int) (t:Tm) (w:World) (hB:0 < w.heap.size) (hT:TabAt w) (hV:TaskV w va vr pv fv m ps l) (hk:tkcode m ps l=0) (hS:IntsX w sv ss) (hL:IntsX w lv ll) (h1:ss.length <= 12) (h2:ll.length <= 12) (hr:runB m ss ll=true) (hwf:t.Wf) (hto:t.ops=l) :
  Calls Tryz.prog 12 #[.agg #[va,vr,pv,fv],.agg #[sv,lv]] w fun e w'=>e=.returned (.tuple #[.bool (t.hb (sig (lets m ps ss++lets m ps ll) ss.length) 0),.int .i64 0])/\Below w.heap.size w w':=by
 obtain ⟨W2,hW2⟩:∃ W2,W2=(w.alloc (.cells #[va,vr,pv,fv] 34)).alloc (.cells #[sv,lv] 38):=⟨_,rfl⟩
 have hbx:Bx2 w W2 va vr pv fv sv lv:=by rw [hW2];exact Bx2.new _ _ _ _ _ _ _
 obtain ⟨hb2,hz2,HBx'⟩:=hbx;have HBx:Hid _:=HBx';have hch:=pcheck_any va vr pv fv m ps l W2 (Nat.lt_of_lt_of_le hB hb2.size) (hT.below hb2 hB) (hV.below hb2);rw [hk] at hch;have hm:=(pcode_m (tk_zeroV hk).1).1
 have HRu:Hid (∀ w1,Below w.heap.size w w1->Calls Tryz.prog 11 #[.agg #[va,vr],.agg #[sv,lv]] w1 fun e w'=>e=.returned (.tuple #[.bool true,.int .i64 0])/\Below w1.heap.size w1 w'):=fun w1 h=>by
  have h9:=runs_any va vr sv lv m ss ll w1 (Nat.lt_of_lt_of_le hB h.size) (hT.below h hB) (hV.mo.below h) (hS.below h) (hL.below h) (by omega)
  rw [hr,hm] at h9;exact h9
 obtain ⟨so,sc,rfl,_⟩:=id hS;obtain ⟨lo,lc,rfl,_⟩:=id hL
 have HL1:Hid (∀ w1,Below w.heap.size w w1->Calls Tryz.prog 32 #[.agg #[va,vr,pv,fv],.slice so ss.length sc] w1 fun e w'=>∃ g,e=.returned (.tuple #[.slice (some ⟨g,0,none⟩) ss.length ss.length,.int .i64 0])/\Below w1.heap.size w1 w'/\Hid (LettersV w' (.slice (some ⟨g,0,none⟩) ss.length ss.length) (lets m ps ss))):=fun w1 h=>lettersOf_any va vr pv fv so sc m ps l ss w1 (Nat.lt_of_lt_of_le hB h.size) (hT.below h hB) (hV.below h) hk h1 (run_range hr).1 (hS.below h).w.v
 have HL2:Hid (∀ w1,Below w.heap.size w w1->Calls Tryz.prog 32 #[.agg #[va,vr,pv,fv],.slice lo ll.length lc] w1 fun e w'=>∃ g,e=.returned (.tuple #[.slice (some ⟨g,0,none⟩) ll.length ll.length,.int .i64 0])/\Below w1.heap.size w1 w'/\Hid (LettersV w' (.slice (some ⟨g,0,none⟩) ll.length ll.length) (lets m ps ll))):=fun w1 h=>lettersOf_any va vr pv fv lo lc m ps l ll w1 (Nat.lt_of_lt_of_le hB h.size) (hT.below h hB) (hV.below h) hk h2 (run_range hr).2 (hL.below h).w.v
 have HHo:Hid (∀ (w1:World) (x y:Value),Below w.heap.size w w1->LettersV w1 x (lets m ps ss)->LettersV w1 y (lets m ps ll)->Calls Tryz.prog 18 #[fv,.agg #[x,y],.int .i64 (ps.length:Int)] w1 fun e w'=>e=.returned (.tuple #[.bool (t.hb (sig (lets m ps ss++lets m ps ll) ss.length) 0),.int .i64 0])/\Below w1.heap.size w1 w'):=fun w1 x y h hx hy=>by
  have h9:=holds_ok fv x y l (lets m ps ss) (lets m ps ll) ps.length t w1 (Nat.lt_of_lt_of_le hB h.size) (hT.below h hB) (hV.fo.below h) hx hy (run_word hk h1 h2 hr) hwf hto;rw [lets_len] at h9;exact h9
 obtain ⟨ao,ac,rfl⟩:=hV.mo.1.shape;obtain ⟨ro,rc,rfl⟩:=hV.mo.2.shape;obtain ⟨po,pc,rfl⟩:=hV.ps.shape;obtain ⟨fo,fc,rfl,_⟩:=id hV.fo;generalize t.hb (sig (lets m ps ss++lets m ps ll) ss.length) 0=res at *;generalize lets m ps ss=Ls at *;generalize lets m ps ll=Ll at *;generalize ss.length=sn at *;generalize ll.length=ln at *;generalize m.vars.length=vn at *
 generalize m.rules.length=rn at *;generalize ps.length=pn at *;generalize l.length=fn at *;clear hT hV HBx' hk hS hL hr hm hto;rw [hW2] at hch;have h2i:¬ (12:Int) < (ln:Int):=by omega
 have h1i:¬ (12:Int) < (sn:Int):=by omega
 have tk1:=True.intro
 go_enter Tryz.func12,Tryz.ntmps12
 go_wp2_with (first | (go_at_call 31;refine hch.mono ?_;rintro e w1 ⟨rfl,hb1⟩;rw [<- hW2] at hb1;obtain ⟨hbw,⟨k0,k1,k2,k3⟩,k4,k5⟩:=HBx.out w1 hb1;have hru:=HRu.out w1 hbw) | (go_at_call 11;refine hru.mono ?_;rintro e w3 ⟨rfl,hb3⟩;have hb13:=hb1.trans (hb3.mono hb1.size);obtain ⟨hbw3,⟨m0,m1,m2,m3⟩,m4,m5⟩:=HBx.out w3 hb13;have hl1:=HL1.out w3 hbw3) | (clear tk1;go_at_call 32;refine hl1.mono ?_;rintro e w4 ⟨g1,rfl,hb4,HW1⟩;have hb14:=hb13.trans (hb4.mono hb13.size);obtain ⟨hbw4,⟨n0,n1,n2,n3⟩,n4,n5⟩:=HBx.out w4 hb14;have hl2:=HL2.out w4 hbw4) | (go_at_call 32;refine hl2.mono ?_;rintro e w5 ⟨g2,rfl,hb5,HW2⟩;have hb15:=hb14.trans (hb5.mono hb14.size);obtain ⟨hbw5,⟨p0,p1,p2,p3⟩,p4,p5⟩:=HBx.out w5 hb15;have hho:=HHo.out w5 _ _ hbw5 (HW1.out.below hb5) HW2.out) | (go_at_call 18;refine hho.mono ?_;rintro e w6 ⟨rfl,hb6⟩))
 go_ret2
 exact ⟨rfl,hbw5.trans (hb6.mono hbw5.size)⟩
end Go.Proofs.YtjdfdmamonjnoaaGreatDoor
namespace Go.Proofs.YtjdfdmamonjnoaaGreatDoor
open Go.ChangeShapes Go.WideShapes Go.ChangeAt Go.RowKit Go.Deep Go.Maps
open Terms Tm
set_option maxHeartbeats 6400000
set_option maxRecDepth 20000
def tkB (va vr pv fv:Value):Obj:=.cells #[va,vr,pv,fv] 34 (0,0)
theorem tkB_cells {w:World} {X:Nat} {va vr pv fv:Value} (hb:w.heap[X]? = some (tkB va vr pv fv)):w.cell? ⟨X,0,none⟩=some va/\w.cell? ⟨X,1,none⟩=some vr/\w.cell? ⟨X,2,none⟩=some pv/\w.cell? ⟨X,3,none⟩=some fv:=by
 unfold tkB at hb;refine ⟨?_,?_,?_,?_⟩ <;> simp [World.cell?,hb]
section
variable {w1 wx w' : World} {X : Nat} {va vr pv : Value} {fo : Option Addr} {fn fc : Nat} {m : Mo} {l : List (Int × Int)}
end
end Go.Proofs.YtjdfdmamonjnoaaGreatDoor
