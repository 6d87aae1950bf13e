/-
  Joined out of SLoop, SLasso, VcStates, in their order: a claim bears at most so many files.
-/
import Derived.Test.YtjdfdmamonjnoaaGreatDoorSccB
import Derived.Test.YtjdfdmamonjnoaaGreatDoorSccA
namespace Go.Proofs.YtjdfdmamonjnoaaGreatDoor
open Go.ChangeShapes Go.WideShapes Go.ChangeAt Go.RowKit Go.Deep
open Terms
set_option maxHeartbeats 6400000
set_option maxRecDepth 20000
structure LoopW (w wr : World) (s : Nat) (so no bo : Option Addr) (sc nc bc n : Nat) (gi gm : Int) (f met : Nat) (v : Value) (lp : List Nat) : Prop where
  below : Below s w wr
  size : s + 4 <= wr.heap.size
  c0 : wr.cell? ⟨s, 0, none⟩ = some (.slice so n sc)
  c1 : wr.cell? ⟨s, 1, none⟩ = some (.int .i64 gi)
  c2 : wr.cell? ⟨s, 2, none⟩ = some (.slice no n nc)
  c3 : wr.cell? ⟨s, 3, none⟩ = some (.slice bo n bc)
  c4 : wr.cell? ⟨s, 4, none⟩ = some (.int .i64 gm)
  cf : wr.cell? ⟨s + 1, 0, none⟩ = some (.int .i64 (f : Int))
  cm : wr.cell? ⟨s + 3, 0, none⟩ = some (.int .i64 (met : Int))
  fm : wr.frozen? ⟨s + 3, 0, none⟩ = false
  ow : wr.ownsRow (s + 2) 3 1 v lp.length (nvals lp)
  ap : v.ownBlock ≠ some (s + 3)
section
variable {w wr : World} {s : Nat} {so no bo : Option Addr} {sc nc bc n : Nat} {gi gm : Int} {f met : Nat} {v : Value} {lp : List Nat}
theorem LoopW.blocks (h : LoopW w wr s so no bo sc nc bc n gi gm f met v lp) {w' : World} (hb : Below s w w') (hs : wr.heap.size <= w'.heap.size) (h0 : w'.heap[s]? = wr.heap[s]?) (h1 : w'.heap[s + 1]? = wr.heap[s + 1]?) (h3 : w'.heap[s + 3]? = wr.heap[s + 3]?) {v' : Value} {lp' : List Nat} (ho : w'.ownsRow (s + 2) 3 1 v' lp'.length (nvals lp')) (ha : v'.ownBlock ≠ some (s + 3)) : LoopW w w' s so no bo sc nc bc n gi gm f met v' lp' := by
  have c : ∀ j, w'.cell? ⟨s, j, none⟩ = wr.cell? ⟨s, j, none⟩ := fun j => World.cell?_of_block (a := ⟨s, j, none⟩) h0
  have d1 : w'.cell? ⟨s + 1, 0, none⟩ = wr.cell? ⟨s + 1, 0, none⟩ := World.cell?_of_block (a := ⟨s + 1, 0, none⟩) h1
  have d3 : w'.cell? ⟨s + 3, 0, none⟩ = wr.cell? ⟨s + 3, 0, none⟩ := World.cell?_of_block (a := ⟨s + 3, 0, none⟩) h3
  have hsz := h.size; exact ⟨hb, by omega, (c 0).trans h.c0, (c 1).trans h.c1, (c 2).trans h.c2, (c 3).trans h.c3, (c 4).trans h.c4, d1.trans h.cf, d3.trans h.cm, (World.frozen?_of_block (a := ⟨s + 3, 0, none⟩) h3).trans h.fm, ho, ha⟩
theorem LoopW.later (h : LoopW w wr s so no bo sc nc bc n gi gm f met v lp) {w' : World} (hb : Below wr.heap.size wr w') : LoopW w w' s so no bo sc nc bc n gi gm f met v lp := by
  have hsz := h.size; exact h.blocks (h.below.trans (hb.mono (by omega))) hb.size (hb.block _ (by omega)) (hb.block _ (by omega)) (hb.block _ (by omega)) (owns_later h.ow hb (Nat.le_refl _)) h.ap
theorem LoopW.setMet (h : LoopW w wr s so no bo sc nc bc n gi gm f met v lp) (m : Nat) : LoopW w (wr.setCell ⟨s + 3, 0, none⟩ (.int .i64 (m : Int))) s so no bo sc nc bc n gi gm f m v lp := by
  have hsz := h.size; have c : ∀ i j, i ≠ s + 3 -> (wr.setCell ⟨s + 3, 0, none⟩ (.int .i64 (m : Int))).cell? ⟨i, j, none⟩ = wr.cell? ⟨i, j, none⟩ := fun i j hne => World.cell?_setCell_far _ _ _ _ (fun e => hne e.symm)
  exact ⟨h.below.setCell (by show s <= s + 3; omega) _, by simpa using hsz, (c s 0 (by omega)).trans h.c0, (c s 1 (by omega)).trans h.c1, (c s 2 (by omega)).trans h.c2, (c s 3 (by omega)).trans h.c3, (c s 4 (by omega)).trans h.c4, (c (s + 1) 0 (by omega)).trans h.cf, World.cell?_setCell_same _ _ _ (u := .int .i64 (met : Int)) h.cm, (World.frozen?_setCell _ _ _ _).trans h.fm, ownsRow_setCell_other h.ow (by exact h.ap) _, h.ap⟩
end
theorem newSet_fn (w0 : World) (s : Nat) (bo : Option Addr) (bc n m : Nat) (g : Gr) (hok : GOk g) (hn : n = g.spots.length) (hsz : s + 4 <= w0.heap.size) (h3 : w0.cell? ⟨s, 3, none⟩ = some (.slice bo n bc)) (hm : w0.cell? ⟨s + 3, 0, none⟩ = some (.int .i64 (m : Int))) (hm64 : m < 64) (hS : ∀ k, k < n -> ∃ b off, bo = some ⟨b, off, none⟩ /\ b < w0.heap.size /\ w0.cell? ⟨b, off + k, none⟩ = some (.int .i64 (sN g k : Int))) :
    FnB w0 w0.heap.size n (.func (.func 96) #[] #[.pointer (some ⟨s, 0, none⟩), .pointer (some ⟨s + 3, 0, none⟩)]) (fun p => decide (m ||| sN g p ≠ m)) := by
  refine ⟨_, _, rfl, fun args w => by simp [go_sem], fun w' hb p hp => ?_⟩
  show Calls Tryz.prog 96 #[.int .i64 (p : Int), .pointer (some ⟨s, 0, none⟩), .pointer (some ⟨s + 3, 0, none⟩)] w' fun e w2 => e = .returned (.bool (decide (m ||| sN g p ≠ m))) /\ Below w'.heap.size w' w2
  obtain ⟨b, off, rfl, hbl, hc⟩ := hS p hp; have e3 := (hb.cell (p := ⟨s, 3, none⟩) (by show s < _; omega)).trans h3
  have em := (hb.cell (p := ⟨s + 3, 0, none⟩) (by show s + 3 < _; omega)).trans hm
  have es := (hb.cell (p := ⟨b, off + p, none⟩) hbl).trans hc; have hs64 : sN g p < 64 := by have h1 := (hok.sN (x := p) (by omega)).2; have h2 := pow64 hok.mN.1; omega
  have hand := andnot_nat0 (sN g p) hs64 m hm64
  have HA : Hid (decide (m ||| sN g p ≠ m) = !decide (bits BinOp.andNot IntKind.i64 (sN g p : Int) (m : Int) = 0)) := by
    show _ = _
    rw [hand]; simp
  rw [HA.out]; clear hand HA hS hc h3 hm; generalize sN g p = x at *; have h63 : p < n := hp
  go_enter Tryz.func96, Tryz.ntmps96
  go_wp2_with fail
  go_quiet (fail)
  go_wp2_with fail
  go_ret
  exact ⟨by first | rfl | simp, below_drewN (Below.refl _ _) _⟩
theorem home_fn (w0 : World) (s n f : Nat) (hsz : s + 4 <= w0.heap.size) (hf : w0.cell? ⟨s + 1, 0, none⟩ = some (.int .i64 (f : Int))) :
    FnB w0 w0.heap.size n (.func (.func 97) #[] #[.pointer (some ⟨s + 1, 0, none⟩)]) (fun p => decide (p = f)) := by
  refine ⟨_, _, rfl, fun args w => by simp [go_sem], fun w' hb p hp => ?_⟩
  show Calls Tryz.prog 97 #[.int .i64 (p : Int), .pointer (some ⟨s + 1, 0, none⟩)] w' _
  have ef := (hb.cell (p := ⟨s + 1, 0, none⟩) (by show s + 1 < _; omega)).trans hf
  go_enter Tryz.func97, Tryz.ntmps97
  go_wp2_with fail
  go_ret
  refine ⟨?_, Below.refl _ _⟩
  have e : decide (p = f) = ((p : Int) == (f : Int)) := by
    show _ = decide ((p : Int) = (f : Int))
    rw [decide_eq_decide]; omega
  rw [e]
  first | rfl | simp
theorem LoopW.start (w : World) (so no bo : Option Addr) (sc nc bc n : Nat) (gi gm : Int) (f m : Nat) : LoopW w ((((w.alloc (.cells #[.slice so n sc, .int .i64 gi, .slice no n nc, .slice bo n bc, .int .i64 gm] 71)).alloc (.cells #[.int .i64 (f : Int)] 3)).alloc (.cells #[.int .i64 (f : Int)] 3)).alloc (.cells #[.int .i64 (m : Int)] 3)) w.heap.size so no bo sc nc bc n gi gm f m (.slice (some ⟨w.heap.size + 1 + 1, 0, none⟩) 1 1) [f] := by
  refine ⟨((((Below.refl _ _).alloc (Nat.le_refl _) _).alloc (by simp) _).alloc (by simp; omega) _).alloc (by simp; omega) _, by simp, by simp [go_sem], by simp [go_sem], by simp [go_sem], by simp [go_sem], by simp [go_sem], by simp [go_sem], by simp [go_sem], by simp [go_sem], ?_, by simp [Value.ownBlock]⟩
  refine ⟨rfl, .inr ⟨w.heap.size + 1 + 1, 1, #[.int .i64 (f : Int)], rfl, Nat.le_refl _, ?_, Nat.le_refl _, by unfold maxLen; decide, rfl, rfl⟩⟩
  have h := blk_alloc_new ((w.alloc (.cells #[.slice so n sc, .int .i64 gi, .slice no n nc, .slice bo n bc, .int .i64 gm] 71)).alloc (.cells #[.int .i64 (f : Int)] 3)) (.cells #[.int .i64 (f : Int)] 3); rw [World.size_alloc, World.size_alloc] at h; exact (blk_alloc_lt _ _ _ (by simp)).trans h
theorem own_news {w : World} {g q : Nat} {l : List Nat} (hc : ∀ i, i < l.length -> w.cell? ⟨g, i, none⟩ = some (.int .i64 (l.getD i 0 : Int))) (hq : q <= l.length) : ∀ j u, (nvals (l.take q))[j]? = some u -> w.cell? ((⟨g, 0, none⟩ : Addr).add j) = some u := fun j u hu => by
  have hj : j < q := by
    rcases Nat.lt_or_ge j q with h | h
    · exact h
    · rw [List.getElem?_eq_none (by simp [nvals]; omega)] at hu; cases hu
  have h1 := hc j (by omega)
  have h2 : (nvals (l.take q))[j]? = some (.int .i64 (l.getD j 0 : Int)) := by
    rw [nvals, List.getElem?_map, List.getElem?_take, if_pos hj, List.getElem?_eq_getElem (by omega), List.getD_eq_getElem?_getD, List.getElem?_eq_getElem (by omega)]; rfl
  rw [h2] at hu
  injection hu with hu
  subst hu
  cases j with
  | zero => exact h1
  | succ j => simpa [Addr.add] using h1
theorem loopFrom_any (so no bo : Option Addr) (sc nc bc : Nat) (g : Gr) (f : Nat) (fi : FuncId) (ci : Array Value) (ins : Nat -> Bool) (w : World) (hz : GrLe g) (hV : GraphV w (.slice so g.spots.length sc) (.slice no g.next.length nc) (.slice bo g.sets.length bc) g) (hok : GOk g) (hf : f < g.spots.length) (hF : FairX g f) (hIn : InPart g f ins) (hI : FnB w w.heap.size g.spots.length (.func (.func fi) #[] ci) ins) :
    Calls Tryz.prog 61 #[.agg #[.slice so g.spots.length sc, .int .i64 g.init, .slice no g.next.length nc, .slice bo g.sets.length bc, .int .i64 g.many], .int .i64 (f : Int), .func (.func fi) #[] ci] w fun e w' => ∃ vo vc q, e = .returned (.slice vo q vc) /\ Below w.heap.size w w' /\ Hid (∃ l, l.length = q /\ q <= 2000000 /\ LoopOk g f l /\ w'.ownsRow w.heap.size 3 1 (.slice vo q vc) q (nvals l)) := by
  obtain ⟨i0, hi0, hz0, hz1, hz2⟩ := info_parts infoInt; have hn := hok.head.n; have hgn := hok.head.next; have hgs := hok.head.sets
  have hV2 : GraphV w (.slice so g.spots.length sc) (.slice no g.spots.length nc) (.slice bo g.spots.length bc) g := by
    have := hV; rw [hgn, hgs] at this; exact this
  obtain ⟨fb, foff, hbo, hfb, hcf⟩ : ∃ b off, bo = some ⟨b, off, none⟩ /\ b < w.heap.size /\ w.cell? ⟨b, off + f, none⟩ = some (.int .i64 (sN g f : Int)) := by
    obtain ⟨b, off, e, hb, hc⟩ := hV2.sets.num (i := f) (by rw [hgs]; exact hf)
    exact ⟨b, off, e, hb, by rw [hc, (hok.sN hf).1]⟩
  have HSet : Hid (∀ w1, Below w.heap.size w w1 -> ∀ k, k < g.spots.length -> ∃ b off, bo = some ⟨b, off, none⟩ /\ b < w1.heap.size /\ w1.cell? ⟨b, off + k, none⟩ = some (.int .i64 (sN g k : Int))) := fun w1 hb k hk => by
    obtain ⟨b, off, e, hbl, hc⟩ := hV2.sets.num (i := k) (by rw [hgs]; exact hk)
    exact ⟨b, off, e, Nat.lt_of_lt_of_le hbl hb.size, by rw [(hb.cell (p := ⟨b, off + k, none⟩) hbl), hc, (hok.sN hk).1]⟩
  have HRow : Hid (NextRows w no g.spots.length (nxt g)) := graph_rows hok hV; have HXL : Hid (∀ i, i < g.spots.length -> (nxt g i).length <= 140737488355328) := fun i hi => by rw [nxt_length]; exact hz.rows i (by rw [hgn]; exact hi)
  have HAll : Hid (∀ w1, Calls Tryz.prog 93 #[.agg #[.slice so g.spots.length sc, .int .i64 g.init, .slice no g.spots.length nc, .slice bo g.spots.length bc, .int .i64 g.many]] w1 fun e w' => e = .returned (.int .i64 ((2 ^ mN g - 1 : Nat) : Int)) /\ Below w1.heap.size w1 w') := fun w1 => by
    have := allSets_any so no bo g.spots.length sc g.spots.length nc g.spots.length bc g w1 hok.head.many0 hok.head.many6; rw [hok.mN.2.2] at this; exact this
  have HWay : Hid (∀ w1 po pc (x : Nat) fw cw want, Below w.heap.size w w1 -> x < g.spots.length -> NatsV w1 (.slice po (nxt g x).length pc) (nxt g x) -> FnB w1 w1.heap.size g.spots.length (.func (.func fw) #[] cw) want -> ¬ NoWay ins want (nxt g) (nxt g x) -> Calls Tryz.prog 57 #[.agg #[.slice so g.spots.length sc, .int .i64 g.init, .slice no g.spots.length nc, .slice bo g.spots.length bc, .int .i64 g.many], .slice po (nxt g x).length pc, .func (.func fi) #[] ci, .func (.func fw) #[] cw] w1 fun e w' => ∃ vo vc q, e = .returned (.slice vo q vc) /\ Below w1.heap.size w1 w' /\ Hid (∃ l, l.length = q /\ WayOk g.spots.length ins want (nxt g) (nxt g x) l /\ w'.ownsRow w1.heap.size 3 1 (.slice vo q vc) q (nvals l))) := fun w1 po pc x fw cw want hb hx hN hW hno => by
    have hfi : FnB w1 w1.heap.size g.spots.length (.func (.func fi) #[] ci) ins := by
      obtain ⟨fn, caps, h1, h2, h3⟩ := hI; exact ⟨fn, caps, h1, h2, fun w' hb' q hq => h3 w' (hb.trans (hb'.mono hb.size)) q hq⟩
    have h := way_any so no bo po sc nc bc pc g (nxt g x) fi fw ci cw ins want w1 hok (fun i hi => hz.rows i (by rw [hgn]; exact hi)) (hV.below hb) hN (by rw [nxt_length]; exact hz.rows x (by rw [hgn]; exact hx)) (fun y hy => nxt_lt hok hx hy) hfi hW
    rw [hgn, hgs] at h; refine h.mono fun e w' ⟨vo, vc, q, h1, h2, h3⟩ => ⟨vo, vc, q, h1, h2, ?_⟩
    obtain ⟨l, h4, h5, h6⟩ := h3.out
    rcases h5 with ⟨_, h7⟩ | h7
    · exact absurd h7 hno
    · exact ⟨l, h4, h7, h6⟩
  have HOr : Hid (∀ a : Nat, a < 2 ^ mN g -> ∀ k, k < g.spots.length -> bits BinOp.or IntKind.i64 (a : Int) (sN g k : Int) = ((a ||| sN g k : Nat) : Int)) := fun a ha k hk => by
    have h6 := pow64 hok.mN.1; have h2 := (hok.sN hk).2; exact or_nat0 _ (by omega) _ (by omega)
  have hm64 : 2 ^ mN g <= 64 := pow64 hok.mN.1; have HOK : Hid (GOk g) := hok; have HF : Hid (FairX g f) := hF; have HIn : Hid (InPart g f ins) := hIn; have HSN : Hid (∀ k, k < g.spots.length -> sN g k < 2 ^ mN g) := fun k hk => (hok.sN hk).2
  rw [hgn, hgs]; have HL0 : Hid (LpOk g f [f] (sN g f)) := LpOk.start hf; have H0 := LoopW.start w so no bo sc nc bc g.spots.length g.init g.many f (sN g f); have hsf := (hok.sN hf).2; clear hV hV2 hok hz hF hIn hI hgn hgs; obtain ⟨n, hnn⟩ : ∃ n, n = g.spots.length := ⟨_, rfl⟩
  have HNN : Hid (n = g.spots.length) := hnn; rw [<- hnn] at H0 HRow HXL HAll HWay HOr HSN HSet hf hn ⊢; generalize g.init = gi at *; generalize g.many = gm at *
  have H0' : Hid (LoopW w ((((w.alloc (.cells #[.slice so n sc, .int .i64 gi, .slice no n nc, .slice bo n bc, .int .i64 gm] 71)).alloc (.cells #[.int .i64 (f : Int)] 3)).alloc (.cells #[.int .i64 (f : Int)] 3)).alloc (.cells #[.int .i64 (sN g f : Int)] 3)) w.heap.size so no bo sc nc bc n gi gm f (sN g f) (.slice (some ⟨w.heap.size + 1 + 1, 0, none⟩) 1 1) [f]) := H0; clear H0 hnn; subst hbo
  generalize sN g f = m0 at *
  have ecf : (((w.alloc (.cells #[.slice so n sc, .int .i64 gi, .slice no n nc, .slice (some ⟨fb, foff, none⟩) n bc, .int .i64 gm] 71)).alloc (.cells #[.int .i64 (f : Int)] 3)).alloc (.cells #[.int .i64 (f : Int)] 3)).cell? ⟨fb, foff + f, none⟩ = some (.int .i64 (m0 : Int)) := by
    rw [World.cell?_alloc_lt, World.cell?_alloc_lt, World.cell?_alloc_lt]
    · exact hcf
    all_goals (simp; try omega)
  go_enter Tryz.func61, Tryz.ntmps61
  go_wp2_with fail
  clear ecf hcf; have hk0 : m0 < 64 := by omega
  go_loopg [7] (64 - m0) (fun k v wr => ∃ ll : Nat, Hid (∃ (lp : List Nat) (met : Nat), lp.length = ll /\ LpOk g f lp met /\ k + met = 64 /\ ll <= 1 + met * 20000 /\ LoopW w wr w.heap.size so no (some ⟨fb, foff, none⟩) sc nc bc n gi gm f met v lp))
  case atStart => exact ⟨1, [f], m0, rfl, HL0.out, by omega, by omega, H0'.out⟩
  case round =>
    obtain ⟨ll, HR⟩ := hrel; obtain ⟨lp, met, hll, hlo, hkm, hlb, hW⟩ := HR.out; obtain ⟨vo, vc, rfl⟩ := owns_slice hW.ow; rw [hll] at hW ⊢; have hmlt : met < 2 ^ mN g := hlo.lt HOK.out; have hlb2 : ll <= 1260001 := by omega
    have hllpos : 0 < ll := by
      have := hlo.ne
      cases lp with
      | nil => exact absurd rfl this
      | cons a l => simp at hll; omega
    obtain ⟨gx, cx, hvv, hg1, hg2⟩ := (hll ▸ hW.ow : wr.ownsRow (w.heap.size + 2) 3 1 (.slice vo ll vc) ll (nvals lp)).form hllpos
    injection hvv with e1 e2 e3
    subst e1 e3; obtain ⟨l1, hl1⟩ : ∃ l1, ll = l1 + 1 := ⟨ll - 1, by omega⟩
    obtain ⟨_, _, hcl⟩ := owns_cells (l := lp) (by rw [hll]; exact hll ▸ hW.ow)
    have hx1 := hlo.mem _ (last_mem hlo.ne); have hel := hcl (lp.length - 1) (by omega)
    obtain ⟨x, hx⟩ : ∃ x, x = lp.getD (lp.length - 1) 0 := ⟨_, rfl⟩
    rw [<- hx] at hel hx1; have hxn : x < n := by rw [HNN.out]; exact hx1.2
    have hel' : wr.cell? ⟨gx, l1, none⟩ = some (.int .i64 (x : Int)) := by rw [<- hel]; congr 2; omega
    have HX : Hid (x = lp.getD (lp.length - 1) 0) := hx; have HLo : Hid (LpOk g f lp met) := hlo; have HLW : Hid (LoopW w wr w.heap.size so no (some ⟨fb, foff, none⟩) sc nc bc n gi gm f met (.slice (some ⟨gx, 0, none⟩) ll vc) lp) := hW; have HLL : Hid (lp.length = ll) := hll; have HKM : Hid (gk + met = 64) := hkm; obtain ⟨nb, noff, rfl, hnb, uo, uc, hcu, hnv⟩ := HRow.out x hxn
    have HNv : Hid (NatsV w (.slice uo (nxt g x).length uc) (nxt g x)) := hnv; have hxl := HXL.out x hxn; have hszr := hW.size
    have HS : Hid (∀ w', Below wr.heap.size wr w' -> LoopW w w' w.heap.size so (some ⟨nb, noff, none⟩) (some ⟨fb, foff, none⟩) sc nc bc n gi gm f met (.slice (some ⟨gx, 0, none⟩) ll vc) lp /\ w'.cell? ⟨gx, l1, none⟩ = some (.int .i64 (x : Int)) /\ w'.cell? ⟨nb, noff + x, none⟩ = some (.slice uo (nxt g x).length uc)) := fun w' hb => by
      have h1 := HLW.out.later hb; exact ⟨h1, (hb.cell (p := ⟨gx, l1, none⟩) hg2).trans hel', (h1.below.cell (p := ⟨nb, noff + x, none⟩) hnb).trans hcu⟩
    have hS : ∀ w', Below wr.heap.size wr w' -> w'.cell? ⟨w.heap.size, 0, none⟩ = some (.slice so n sc) /\ w'.cell? ⟨w.heap.size, 1, none⟩ = some (.int .i64 gi) /\ w'.cell? ⟨w.heap.size, 2, none⟩ = some (.slice (some ⟨nb, noff, none⟩) n nc) /\ w'.cell? ⟨w.heap.size, 3, none⟩ = some (.slice (some ⟨fb, foff, none⟩) n bc) /\ w'.cell? ⟨w.heap.size, 4, none⟩ = some (.int .i64 gm) /\ w'.cell? ⟨w.heap.size + 1 + 1 + 1, 0, none⟩ = some (.int .i64 (met : Int)) /\ w'.cell? ⟨gx, l1, none⟩ = some (.int .i64 (x : Int)) /\ w'.cell? ⟨nb, noff + x, none⟩ = some (.slice uo (nxt g x).length uc) := fun w' hb => by
      obtain ⟨h1, h2, h3⟩ := HS.out w' hb; exact ⟨h1.c0, h1.c1, h1.c2, h1.c3, h1.c4, h1.cm, h2, h3⟩
    obtain ⟨ln, hln⟩ : ∃ ln, ln = (nxt g x).length := ⟨_, rfl⟩
    have HLN : Hid (ln = (nxt g x).length) := hln; rw [<- hln] at hS hxl; have hal := HAll.out wr.drew; obtain ⟨tp, htp⟩ : ∃ tp, tp = 2 ^ mN g - 1 := ⟨_, rfl⟩
    have HTP : Hid (tp = 2 ^ mN g - 1) := htp; rw [<- htp] at hal; have hmf : ∀ (fn : Fn) (first cap : Array Value) (w : World), (Instr.makeFunc fn first cap).run Tryz.prog w = .ok (.func fn first cap) w := fun _ _ _ _ => rfl
    clear hcu hnv hel hel' hcl hx hlo hW hll hkm HR hln htp hx1; subst hl1; have j2 : (l1 : Int) + 1 - 1 = (l1 : Int) := by omega
    have j8 : IntKind.i64.wrap (l1 : Int) = (l1 : Int) := by rw [IntKind.wrap_i64]; omega
    have j6 : IntKind.i64.wrap ((l1 : Int) + 1 - 1) = (l1 : Int) := by rw [j2]; exact j8
    have k1 : ((l1 + 1 : Nat) : Int) - 1 = (l1 : Int) := by omega
    have k2 : IntKind.i64.wrap (((l1 + 1 : Nat) : Int) - 1) = (l1 : Int) := by rw [k1]; exact j8
    have k4 : (l1 : Int) < ((l1 + 1 : Nat) : Int) := by omega
    have hli1 : (0 : Int) <= (l1 : Int) := by omega
    have hli2 : (l1 : Int) < (l1 : Int) + 1 := by omega
    by_cases hmt : met = tp
    · subst hmt
      go_wp2_with fail
      go_region_held3 (fun w' => w'.cell? ⟨w.heap.size, 0, none⟩ = some (.slice so n sc) /\ w'.cell? ⟨w.heap.size, 1, none⟩ = some (.int .i64 gi) /\ w'.cell? ⟨w.heap.size, 2, none⟩ = some (.slice (some ⟨nb, noff, none⟩) n nc) /\ w'.cell? ⟨w.heap.size, 3, none⟩ = some (.slice (some ⟨fb, foff, none⟩) n bc) /\ w'.cell? ⟨w.heap.size, 4, none⟩ = some (.int .i64 gm) /\ w'.cell? ⟨w.heap.size + 1 + 1 + 1, 0, none⟩ = some (.int .i64 (met : Int)) /\ w'.cell? ⟨gx, l1, none⟩ = some (.int .i64 (x : Int)) /\ w'.cell? ⟨nb, noff + x, none⟩ = some (.slice uo ln uc))
        (exact hS _ (by first | exact (Below.refl _ _).drew | exact Below.refl _ _ | exact undrewB hb2))
        ((go_at_call 93; refine hal.mono ?_; rintro e w2 ⟨rfl, hb2⟩))
      have hb2' := undrewB hb2; obtain ⟨hW2, _, _⟩ := HS.out w2 hb2'; have hbw2 := hW2.below; have hsz2 := hW2.size; have HB2 : Hid (Below wr.heap.size wr w2.drew) := hb2'.drew
      have hno : ¬ NoWay ins (fun p => decide (p = f)) (nxt g) (nxt g x) := by
        have := HLo.out.home HOK.out (by rw [<- HNN.out]; exact hf) HF.out HIn.out (want := fun p => decide (p = f)) (fun _ _ => rfl)
        rw [<- HX.out] at this; exact this
      have hway := HWay.out w2.drew uo uc x _ _ _ hbw2.drew hxn (HNv.out.below hbw2.drew) (home_fn w2.drew w.heap.size n f hsz2 hW2.cf) hno; rw [<- HLN.out] at hway; clear hno hal hb2 hb2' HAll HWay hW2
      go_wp2_with fail
      go_region_held3 (fun w' => w'.cell? ⟨w.heap.size, 0, none⟩ = some (.slice so n sc) /\ w'.cell? ⟨w.heap.size, 1, none⟩ = some (.int .i64 gi) /\ w'.cell? ⟨w.heap.size, 2, none⟩ = some (.slice (some ⟨nb, noff, none⟩) n nc) /\ w'.cell? ⟨w.heap.size, 3, none⟩ = some (.slice (some ⟨fb, foff, none⟩) n bc) /\ w'.cell? ⟨w.heap.size, 4, none⟩ = some (.int .i64 gm) /\ w'.cell? ⟨w.heap.size + 1 + 1 + 1, 0, none⟩ = some (.int .i64 (met : Int)) /\ w'.cell? ⟨gx, l1, none⟩ = some (.int .i64 (x : Int)) /\ w'.cell? ⟨nb, noff + x, none⟩ = some (.slice uo ln uc))
        (exact hS _ (by first | exact HB2.out | exact HB2.out.trans (hb3.mono HB2.out.size)))
        ((go_at_call 57; refine hway.mono ?_; rintro e w3 ⟨vo3, vc3, q3, rfl, hb3, HM⟩))
      obtain ⟨l, hlq, hwo, hro3⟩ := HM.out
      have hq3 : 0 < q3 := by
        have := hwo.ne
        cases l with
        | nil => exact absurd rfl this
        | cons a l => simp at hlq; omega
      have hq20 : q3 <= 20000 := by have := hwo.len; omega
      obtain ⟨g3, c3, hvv3, hg31, hg32⟩ := hro3.form hq3
      injection hvv3 with e1 e2 e3
      subst e1 e3; obtain ⟨q, rfl⟩ : ∃ q, q3 = q + 1 := ⟨q3 - 1, by omega⟩
      have hb23 : Below wr.heap.size wr w3 := HB2.out.trans (hb3.mono HB2.out.size); have hW3 := HLW.out.later hb23
      have how3 : w3.ownsRow (w.heap.size + 2) 3 1 (.slice (some ⟨gx, 0, none⟩) (l1 + 1) vc) (l1 + 1) (nvals lp) := by
        have := hW3.ow; rw [HLL.out] at this; exact this
      obtain ⟨hqc, _, hcl3⟩ := owns_cells (l := l) (by rw [hlq]; exact hro3)
      have HLoop : Hid (LoopOk g f (lp ++ l.take (l.length - 1))) := HLo.out.close HOK.out HTP.out (by rw [<- HX.out]; rw [<- HNN.out]; exact hwo) (fun _ _ => rfl)
      have hnews : ∀ j u, (nvals (l.take q))[j]? = some u -> w3.cell? ((⟨g3, 0, none⟩ : Addr).add j) = some u := own_news hcl3 (by omega)
      have hone : ∀ u ∈ nvals (l.take q), u.oneCell' = true := fun u hu => by
        obtain ⟨y, _, rfl⟩ := List.mem_map.1 hu; rfl
      have hlen : (nvals (l.take q)).length = q * 1 := by simp [nvals]; omega
      have h63 : l1 + 1 + q <= maxLen := by unfold maxLen; omega
      have hkb : (l1 + 1 + q) * 8 <= 140737488355328 := by omega
      have hbase : w.heap.size + 2 <= w3.heap.size := by have := hW3.size; omega
      have hlt3 := how3.lt; have hbw3 := hW3.below; have hlq' : l.length - 1 = q := by omega
      rw [hlq'] at HLoop; have HLlen : Hid ((lp ++ l.take q).length = l1 + 1 + q) := by show _ = _; rw [List.length_append, HLL.out, List.length_take]; omega
      have hqc2 : q + 1 <= vc3 := by omega
      clear hW3 hcl3 hro3 hwo HM hway hlq hlq' hmf hS
      go_wp2_with (at_builtin; refine wpList_append_own _ rfl (.tmp 69) (.tmp 74) 36 rfl (w.heap.size + 2) 3 i0 (.int .i64 0) 1 8 Tryz.underlying36 hi0 hz0 hz1 hz2 rfl (by decide) (.slice (some ⟨gx, 0, none⟩) (l1 + 1) vc) (l1 + 1) _ rfl how3 ⟨g3, 0, none⟩ q vc3 (nvals (l.take q)) rfl hlen hnews hone h63 hkb hbase ?_; intro v' w5 hown' hgrow _; obtain ⟨vo5, vc5, rfl⟩ := owns_slice hown')
      go_ret
      refine ⟨_, _, _, rfl, hbw3.grown hgrow hbw3.size (fun z hz => by have := (hlt3 z hz).1; omega), lp ++ l.take q, HLlen.out, by omega, HLoop.out, ?_⟩
      rw [nvals, List.map_append]; exact owns_mono hown' (by omega)
    · have hmt2 : ¬ (met : Int) = (tp : Int) := by omega
      go_wp2_with fail
      go_region_held3 (fun w' => w'.cell? ⟨w.heap.size, 0, none⟩ = some (.slice so n sc) /\ w'.cell? ⟨w.heap.size, 1, none⟩ = some (.int .i64 gi) /\ w'.cell? ⟨w.heap.size, 2, none⟩ = some (.slice (some ⟨nb, noff, none⟩) n nc) /\ w'.cell? ⟨w.heap.size, 3, none⟩ = some (.slice (some ⟨fb, foff, none⟩) n bc) /\ w'.cell? ⟨w.heap.size, 4, none⟩ = some (.int .i64 gm) /\ w'.cell? ⟨w.heap.size + 1 + 1 + 1, 0, none⟩ = some (.int .i64 (met : Int)) /\ w'.cell? ⟨gx, l1, none⟩ = some (.int .i64 (x : Int)) /\ w'.cell? ⟨nb, noff + x, none⟩ = some (.slice uo ln uc))
        (exact hS _ (by first | exact (Below.refl _ _).drew | exact Below.refl _ _ | exact undrewB hb2))
        ((go_at_call 93; refine hal.mono ?_; rintro e w2 ⟨rfl, hb2⟩))
      have hb2' := undrewB hb2; obtain ⟨hW2, _, _⟩ := HS.out w2 hb2'; have hbw2 := hW2.below; have hsz2 := hW2.size; have HB2 : Hid (Below wr.heap.size wr w2.drew) := hb2'.drew
      have hno : ¬ NoWay ins (fun p => decide (met ||| sN g p ≠ met)) (nxt g) (nxt g x) := by
        have := HLo.out.more HOK.out (by rw [<- HNN.out]; exact hf) HF.out HIn.out (by rw [<- HTP.out]; exact hmt) (want := fun p => decide (met ||| sN g p ≠ met)) (fun _ _ => rfl)
        rw [<- HX.out] at this; exact this
      have hway := HWay.out w2.drew uo uc x _ _ _ hbw2.drew hxn (HNv.out.below hbw2.drew) (newSet_fn w2.drew w.heap.size (some ⟨fb, foff, none⟩) bc n met g HOK.out HNN.out hsz2 hW2.c3 hW2.cm (by omega) (HSet.out w2.drew hbw2.drew)) hno
      rw [<- HLN.out] at hway; clear hno hal hb2 hb2' HAll HWay hW2
      go_wp2_with fail
      go_region_held3 (fun w' => w'.cell? ⟨w.heap.size, 0, none⟩ = some (.slice so n sc) /\ w'.cell? ⟨w.heap.size, 1, none⟩ = some (.int .i64 gi) /\ w'.cell? ⟨w.heap.size, 2, none⟩ = some (.slice (some ⟨nb, noff, none⟩) n nc) /\ w'.cell? ⟨w.heap.size, 3, none⟩ = some (.slice (some ⟨fb, foff, none⟩) n bc) /\ w'.cell? ⟨w.heap.size, 4, none⟩ = some (.int .i64 gm) /\ w'.cell? ⟨w.heap.size + 1 + 1 + 1, 0, none⟩ = some (.int .i64 (met : Int)) /\ w'.cell? ⟨gx, l1, none⟩ = some (.int .i64 (x : Int)) /\ w'.cell? ⟨nb, noff + x, none⟩ = some (.slice uo ln uc))
        (exact hS _ (by first | exact HB2.out | exact HB2.out.trans (hb3.mono HB2.out.size)))
        ((go_at_call 57; refine hway.mono ?_; rintro e w3 ⟨vo3, vc3, q3, rfl, hb3, HM⟩))
      obtain ⟨l, hlq, hwo, hro3⟩ := HM.out
      have hq3 : 0 < q3 := by
        have := hwo.ne
        cases l with
        | nil => exact absurd rfl this
        | cons a l => simp at hlq; omega
      have hq20 : q3 <= 20000 := by have := hwo.len; omega
      obtain ⟨g3, c3, hvv3, hg31, hg32⟩ := hro3.form hq3
      injection hvv3 with e1 e2 e3
      subst e1 e3; have hg31' : w2.heap.size <= g3 := hg31; have hb23 : Below wr.heap.size wr w3 := HB2.out.trans (hb3.mono HB2.out.size); have HW3 : Hid (LoopW w w3 w.heap.size so (some ⟨nb, noff, none⟩) (some ⟨fb, foff, none⟩) sc nc bc n gi gm f (orL (sN g) met (l.take 0)) (.slice (some ⟨gx, 0, none⟩) (l1 + 1) vc) lp) := HLW.out.later hb23
      have HRo : Hid (w3.ownsRow w2.heap.size 3 1 (.slice (some ⟨g3, 0, none⟩) q3 vc3) q3 (nvals l)) := hro3; obtain ⟨HPut, hgrowm⟩ := HLo.out.put HIn.out (want := fun p => decide (met ||| sN g p ≠ met)) (l := l) (by rw [<- HX.out, <- HNN.out]; exact hwo) (fun _ _ => rfl)
      have HPu : Hid (LpOk g f (lp ++ l) (orL (sN g) met l)) := HPut; have HLin : Hid (∀ j, j < q3 -> l.getD j 0 < n) := fun j hj => (hwo.ins _ (by rw [List.getD_eq_getElem?_getD, List.getElem?_eq_getElem (by omega)]; exact List.getElem_mem _)).2
      have HML : Hid (∀ q, orL (sN g) met (l.take q) < 2 ^ mN g) := fun q => orL_lt _ _ hmlt (fun y hy => HSN.out y (hwo.ins y (List.mem_of_mem_take hy)).2)
      have HMS : Hid (∀ q, q < q3 -> orL (sN g) met (l.take (q + 1)) = orL (sN g) met (l.take q) ||| sN g (l.getD q 0)) := fun q hq => by
        rw [List.take_succ_eq_append_getElem (by omega), orL_snoc, List.getD_eq_getElem?_getD, List.getElem?_eq_getElem (by omega)]; rfl
      have HLq : Hid (l.length = q3) := hlq; clear hway HM hro3 hwo HPut hlq HB2 hS
      go_wp2_with fail
      generalize wr = wo at *
      go_loopw [40] (fun i wr => ∃ q : Nat, q <= q3 /\ i = .int .i64 q /\ Hid (LoopW w wr w.heap.size so (some ⟨nb, noff, none⟩) (some ⟨fb, foff, none⟩) sc nc bc n gi gm f (orL (sN g) met (l.take q)) (.slice (some ⟨gx, 0, none⟩) (l1 + 1) vc) lp /\ wr.ownsRow w2.heap.size 3 1 (.slice (some ⟨g3, 0, none⟩) q3 vc3) q3 (nvals l))) (fun i _ => q3 - (intOf i).toNat)
      case atStart => exact ⟨0, Nat.zero_le _, rfl, HW3.out, HRo.out⟩
      case round =>
        obtain ⟨q, hq, rfl, HQ⟩ := hrel; obtain ⟨hLWq, hroq⟩ := HQ.out; obtain ⟨_, _, hclq⟩ := owns_cells (l := l) (by rw [HLq.out]; exact hroq)
        by_cases hlq : q < q3
        · have e1 := hclq q (by rw [HLq.out]; exact hlq)
          have hyn := HLin.out q hlq; obtain ⟨sb, soff, hsbe, hsb, e2⟩ := HSet.out wr hLWq.below (l.getD q 0) hyn
          injection hsbe with hsbe
          injection hsbe with hs1 hs2
          subst hs1 hs2; have e3 := hLWq.c3; have e4 : wr.cell? ⟨w.heap.size + 1 + 1 + 1, 0, none⟩ = some (.int .i64 (orL (sN g) met (l.take q) : Int)) := hLWq.cm; have e5 : wr.frozen? ⟨w.heap.size + 1 + 1 + 1, 0, none⟩ = false := hLWq.fm; have hor := HOr.out (orL (sN g) met (l.take q)) (HML.out q) (l.getD q 0) hyn; rw [<- HMS.out q hlq] at hor
          have HN : Hid (LoopW w (wr.setCell ⟨w.heap.size + 1 + 1 + 1, 0, none⟩ (.int .i64 (orL (sN g) met (l.take (q + 1)) : Int))).drew w.heap.size so (some ⟨nb, noff, none⟩) (some ⟨fb, foff, none⟩) sc nc bc n gi gm f (orL (sN g) met (l.take (q + 1))) (.slice (some ⟨gx, 0, none⟩) (l1 + 1) vc) lp /\ (wr.setCell ⟨w.heap.size + 1 + 1 + 1, 0, none⟩ (.int .i64 (orL (sN g) met (l.take (q + 1)) : Int))).drew.ownsRow w2.heap.size 3 1 (.slice (some ⟨g3, 0, none⟩) q3 vc3) q3 (nvals l)) := by
            have h9 := hLWq.setMet (orL (sN g) met (l.take (q + 1)))
            have h10 : LoopW w (wr.setCell ⟨w.heap.size + 1 + 1 + 1, 0, none⟩ (.int .i64 (orL (sN g) met (l.take (q + 1)) : Int))).drew w.heap.size so (some ⟨nb, noff, none⟩) (some ⟨fb, foff, none⟩) sc nc bc n gi gm f (orL (sN g) met (l.take (q + 1))) (.slice (some ⟨gx, 0, none⟩) (l1 + 1) vc) lp := h9.blocks h9.below.drew (Nat.le_refl _) rfl rfl rfl h9.ow h9.ap
            exact ⟨h10, ownsRow_setCell_below hroq (by show w.heap.size + 3 < _; omega) _⟩
          rw [<- hor] at HN; clear hLWq hroq hclq HQ hor; generalize orL (sN g) met (l.take q) = mq at *; generalize l.getD q 0 = y at *; generalize sN g y = sy at *
          go_upto_region 8 with fail
          go_region
          go_wp2_with fail
          go_roundw
          case rel => exact ⟨q + 1, hlq, by go_num, HN⟩
          case measure => simp [intOf]; omega
        · obtain rfl : q = q3 := by omega
          have hTk : l.take q = l := by rw [<- HLq.out]; exact List.take_length
          have hnews : ∀ j u, (nvals l)[j]? = some u -> wr.cell? ((⟨g3, 0, none⟩ : Addr).add j) = some u := by
            have := own_news hclq (Nat.le_refl l.length); rw [List.take_length] at this; exact this
          rw [hTk] at hLWq
          have hone : ∀ u ∈ nvals l, u.oneCell' = true := fun u hu => by
            obtain ⟨y, _, rfl⟩ := List.mem_map.1 hu; rfl
          have hlen : (nvals l).length = q * 1 := by simp [nvals]; exact HLq.out
          have h63 : l1 + 1 + q <= maxLen := by unfold maxLen; omega
          have hkb : (l1 + 1 + q) * 8 <= 140737488355328 := by omega
          have hszq := hLWq.size; have hbase : w.heap.size + 2 <= wr.heap.size := by omega
          have howq : wr.ownsRow (w.heap.size + 2) 3 1 (.slice (some ⟨gx, 0, none⟩) (l1 + 1) vc) (l1 + 1) (nvals lp) := by
            have := hLWq.ow; rw [HLL.out] at this; exact this
          have HLWq : Hid (LoopW w wr w.heap.size so (some ⟨nb, noff, none⟩) (some ⟨fb, foff, none⟩) sc nc bc n gi gm f (orL (sN g) met l) (.slice (some ⟨gx, 0, none⟩) (l1 + 1) vc) lp) := hLWq; have HG : Hid (met < orL (sN g) met l /\ orL (sN g) met l < 64) := ⟨hgrowm, by have := HML.out q; rw [hTk] at this; omega⟩
          clear hLWq hroq hclq HQ
          go_wp2_with (at_builtin; refine wpList_append_lies _ rfl (.tmp 52) (.tmp 53) 36 rfl (w.heap.size + 2) 3 i0 (.int .i64 0) 1 8 Tryz.underlying36 hi0 hz0 hz1 hz2 rfl (by decide) (.slice (some ⟨gx, 0, none⟩) (l1 + 1) vc) (l1 + 1) _ rfl howq ⟨g3, 0, none⟩ q vc3 (nvals l) rfl hlen hnews hone hq3 h63 hkb hbase _ rfl ?_; intro g5 c5 w5 hown5 hgrow5 hor5 _)
          have hap := HLWq.out.ap; have hlt9 := howq.lt; have hgx2 : w.heap.size + 2 <= gx /\ gx < wr.heap.size := hlt9 gx rfl; have hgx3 : gx ≠ w.heap.size + 3 := fun e => hap (by rw [e]; rfl)
          have hW5 : LoopW w w5 w.heap.size so (some ⟨nb, noff, none⟩) (some ⟨fb, foff, none⟩) sc nc bc n gi gm f (orL (sN g) met l) (.slice (some ⟨g5, 0, none⟩) (l1 + 1 + q) c5) (lp ++ l) := by
            have hbl : ∀ i, i < wr.heap.size -> i ≠ gx -> w5.heap[i]? = wr.heap[i]? := fun i hi hne => hgrow5.block i hi (fun e => hne (by injection e))
            refine HLWq.out.blocks (HLWq.out.below.grown hgrow5 (by omega) (fun z hz => by have := (hlt9 z hz).1; omega)) hgrow5.size (hbl _ (by omega) (by omega)) (hbl _ (by omega) (by omega)) (hbl _ (by omega) (fun e => hgx3 e.symm)) ?_ ?_
            · rw [List.length_append, HLL.out, HLq.out, nvals, List.map_append]; exact hown5
            · intro e
              have e' : g5 = w.heap.size + 3 := by injection e
              rcases hor5 with h | h
              · rw [e'] at h; exact hap h
              · omega
          have HN : Hid (∃ (lp : List Nat) (met : Nat), lp.length = l1 + 1 + q /\ LpOk g f lp met /\ (64 - orL (sN g) (64 - gk) l) + met = 64 /\ l1 + 1 + q <= 1 + met * 20000 /\ LoopW w w5 w.heap.size so (some ⟨nb, noff, none⟩) (some ⟨fb, foff, none⟩) sc nc bc n gi gm f met (.slice (some ⟨g5, 0, none⟩) (l1 + 1 + q) c5) lp) := by
            have h1 := HG.out; have h2 : 64 - gk = met := by have := HKM.out; omega
            refine ⟨lp ++ l, orL (sN g) met l, by rw [List.length_append, HLL.out, HLq.out], HPu.out, by rw [h2]; omega, by omega, hW5⟩
          go_roundg (64 - orL (sN g) (64 - gk) l)
          case measure =>
            have h1 := HG.out; have h2 : 64 - gk = met := by have := HKM.out; omega
            rw [h2]; have := HKM.out; omega
          case rel => exact ⟨l1 + 1 + q, HN⟩
theorem Trail.join {nx : Nat -> List Nat} {f : Nat} {r : List Nat} : ∀ {a : List Nat}, Trail nx (a ++ [f]) -> Trail nx (f :: r) -> Trail nx (a ++ f :: r)
  | [], _, h => h
  | [_], h1, h => ⟨h1.1, h⟩
  | _ :: y :: a, h1, h => ⟨h1.1, Trail.join (a := y :: a) h1.2 h⟩
theorem filter_all (nx : Nat -> List Nat) : (fun i => (nx i).filter (fun _ => true)) = nx := by
  funext i
  simp
open Classical in
theorem noWay_none {g : Gr} (h : NoWay (fun _ => true) (fun x => decide (FairX g x)) (nxt g) (List.range g.init.toNat)) : fairV g = 0 /\ fairC g = 11 := by
  refine fair_none fun j _ ⟨⟨f, hf, hw⟩, h2⟩ => ?_
  have := h f hf rfl j (by rw [filter_all]; exact hw)
  exact absurd h2 (of_decide_eq_false this)
theorem take_last {l : List Nat} (h : l ≠ []) : l.take (l.length - 1) ++ [l.getD (l.length - 1) 0] = l := by
  have hpos : 0 < l.length := by
    cases l with
    | nil => exact absurd rfl h
    | cons a l => simp
  have h3 : l = l.take (l.length - 1 + 1) := by rw [List.take_of_length_le (by omega)]
  conv => rhs; rw [h3, List.take_succ_eq_append_getElem (by omega)]
  rw [List.getD_eq_getElem?_getD, List.getElem?_eq_getElem (by omega)]; rfl
open Classical in
theorem lasso_ok {g : Gr} (hg : GOk g) {l lp : List Nat} (h : WayOk g.spots.length (fun _ => true) (fun x => decide (FairX g x)) (nxt g) (List.range g.init.toNat) l) (hl : LoopOk g (l.getD (l.length - 1) 0) lp) : LassoOk g (l.take (l.length - 1)) lp /\ fairC g = 0 := by
  have hm := last_mem h.ne; have hF : FairX g (l.getD (l.length - 1) 0) := of_decide_eq_true h.last; have hR : ReachX g (l.getD (l.length - 1) 0) := ⟨_, h.head, h.trail.way h.ne⟩; have htl := take_last h.ne; generalize hf : l.getD (l.length - 1) 0 = f at *
  obtain ⟨r, rfl⟩ : ∃ r, lp = f :: r := by
    cases lp with
    | nil => exact absurd rfl hl.ne
    | cons a r => exact ⟨r, by have := hl.head; simp at this; rw [this]⟩
  have hini := hg.head.init0; refine ⟨⟨by simp, ?_, ?_, fun x hx => ?_, hl.bits⟩, fair_some (h.ins f (by rw [<- hf]; exact last_mem h.ne)).2 ⟨hR, hF⟩⟩
  · rw [List.append_assoc]
    show Trail (nxt g) (l.take (l.length - 1) ++ (f :: (r ++ [f])))
    exact Trail.join (by rw [htl]; exact h.trail) hl.trail
  · have e : (l.take (l.length - 1) ++ f :: r).getD 0 0 = l.getD 0 0 := by
      have h1 : ∀ a : List Nat, (a ++ f :: r).getD 0 0 = (a ++ [f]).getD 0 0 := fun a => by cases a <;> rfl
      rw [h1, htl]
    rw [e]; have := List.mem_range.1 h.head; omega
  · rcases List.mem_append.1 hx with hx | hx
    · exact (h.ins x (List.mem_of_mem_take hx)).2
    · exact hl.lt x hx
theorem fair_fn (w0 : World) (b B n : Nat) (F : Nat -> Bool) (hb : b < w0.heap.size) (h : w0.cell? ⟨b, 0, none⟩ = some (.slice (some ⟨B, 0, none⟩) n n)) (hr : w0.rowIs B 4 n (fun x => .bool (F x))) :
    FnB w0 w0.heap.size n (.func (.func 60) #[] #[.pointer (some ⟨b, 0, none⟩)]) F := by
  refine ⟨_, _, rfl, fun args w => by simp [go_sem], fun w' hw p hp => ?_⟩
  show Calls Tryz.prog 60 #[.int .i64 (p : Int), .pointer (some ⟨b, 0, none⟩)] w' _
  have e1 := (hw.cell (p := ⟨b, 0, none⟩) hb).trans h; have e2 := (row_laterG hr hw).cell hp; clear hr h
  go_enter Tryz.func60, Tryz.ntmps60
  go_wp2_with fail
  go_ret
  exact ⟨rfl, Below.refl _ _⟩
theorem part_fn (w0 : World) (b b2 B n f : Nat) (pz : Nat -> Nat) (hb : b < w0.heap.size) (hb2 : b2 < w0.heap.size) (hf : f < n) (h : w0.cell? ⟨b, 0, none⟩ = some (.slice (some ⟨B, 0, none⟩) n n)) (h2 : w0.cell? ⟨b2, 0, none⟩ = some (.int .i64 (f : Int))) (hr : w0.rowIs B 3 n (natRow pz)) :
    FnB w0 w0.heap.size n (.func (.func 62) #[] #[.pointer (some ⟨b, 0, none⟩), .pointer (some ⟨b2, 0, none⟩)]) (fun p => decide (pz p = pz f)) := by
  refine ⟨_, _, rfl, fun args w => by simp [go_sem], fun w' hw p hp => ?_⟩
  have e : decide (pz p = pz f) = ((pz p : Int) == (pz f : Int)) := by
    show _ = decide ((pz p : Int) = (pz f : Int))
    rw [decide_eq_decide]; omega
  show Calls Tryz.prog 62 #[.int .i64 (p : Int), .pointer (some ⟨b, 0, none⟩), .pointer (some ⟨b2, 0, none⟩)] w' fun e w2 => e = .returned (.bool (decide (pz p = pz f))) /\ Below w'.heap.size w' w2
  rw [e]; have e1 := (hw.cell (p := ⟨b, 0, none⟩) hb).trans h; have e2 := (hw.cell (p := ⟨b2, 0, none⟩) hb2).trans h2; have e3 : w'.cell? ⟨B, p, none⟩ = some (.int .i64 (pz p : Int)) := (row_laterG hr hw).cell hp; have e4 : w'.cell? ⟨B, f, none⟩ = some (.int .i64 (pz f : Int)) := (row_laterG hr hw).cell hf; clear hr h h2 e; generalize pz p = x at *; generalize pz f = y at *
  go_enter Tryz.func62, Tryz.ntmps62
  go_wp2_with fail
  go_quiet (fail)
  go_wp2_with fail
  go_ret
  exact ⟨rfl, below_drewN (Below.refl _ _) _⟩
def LassoV (g : Gr) (w' : World) (v : Value) (c : Int) : Prop := (c = 11 /\ fairC g = 11 /\ v = .agg #[.slice none 0 0, .slice none 0 0]) \/ (c = 0 /\ fairC g = 0 /\ ∃ so sc lo lc st lp, v = .agg #[.slice so st.length sc, .slice lo lp.length lc] /\ st.length <= 20000 /\ lp.length <= 2000000 /\ LassoOk g st lp /\ NatsV w' (.slice so st.length sc) st /\ NatsV w' (.slice lo lp.length lc) lp)
theorem natsV_owns {w : World} {base : Nat} {v : Value} {l : List Nat} (h : w.ownsRow base 3 1 v l.length (nvals l)) : NatsV w v l := by
  rcases h.2 with ⟨e, h0⟩ | ⟨g, cap, cur, e, _⟩
  · exact ⟨none, 0, by rw [e, h0], fun hne => by cases l with | nil => exact absurd rfl hne | cons a l => simp at h0⟩
  · subst e
    obtain ⟨_, _, hc⟩ := owns_cells h; obtain ⟨_, hlt⟩ := h.lt g rfl; exact ⟨_, _, rfl, fun _ => ⟨g, 0, rfl, hlt, fun i hi => by rw [Nat.zero_add]; exact hc i hi⟩⟩
theorem natsV_take {w : World} {ao : Option Addr} {c : Nat} {l : List Nat} (h : NatsV w (.slice ao l.length c) l) {q : Nat} (hq : q <= l.length) : NatsV w (.slice ao (l.take q).length c) (l.take q) := by
  obtain ⟨ao', cap, e, h2⟩ := h
  injection e with e1 e2 e3
  subst e1 e3; refine ⟨ao, c, rfl, fun hne => ?_⟩
  obtain ⟨b, off, e4, h4, h5⟩ := h2 (fun e => hne (by rw [e]; simp))
  refine ⟨b, off, e4, h4, fun i hi => ?_⟩
  have hi2 : i < q := by rw [List.length_take] at hi; omega
  rw [h5 i (by omega)]
  simp [List.getD_eq_getElem?_getD, hi2]
theorem slasso_ok (so no bo : Option Addr) (sc nc bc : Nat) (g : Gr) (w : World) (hz : GrLe g) (hV : GraphV w (.slice so g.spots.length sc) (.slice no g.next.length nc) (.slice bo g.sets.length bc) g) (hc : gcode g = 0) :
    Calls Tryz.prog 27 #[.agg #[.slice so g.spots.length sc, .int .i64 g.init, .slice no g.next.length nc, .slice bo g.sets.length bc, .int .i64 g.many]] w fun e w' => ∃ v c, e = .returned (.tuple #[v, .int .i64 c]) /\ Below w.heap.size w w' /\ Hid (LassoV g w' v c) := by
  classical
  have hok := gcode_zero hc; have hgn := hok.head.next; have hgs := hok.head.sets; have hn := hok.head.n; obtain ⟨gi, hgi⟩ : ∃ gi : Nat, g.init = gi := ⟨g.init.toNat, by have := hok.head.init0; omega⟩
  have hgin : gi <= g.spots.length := by have := hok.head.init1; omega
  have hgt : g.init.toNat = gi := by omega
  obtain ⟨W0, hW0⟩ : ∃ W0, W0 = (w.alloc (.cells #[.slice so g.spots.length sc, .int .i64 (gi : Int), .slice no g.spots.length nc, .slice bo g.spots.length bc, .int .i64 g.many] 71)).alloc (.cells #[.slice none 0 0, .slice none 0 0] 38) := ⟨_, rfl⟩
  have hA : Below w.heap.size w W0 := by rw [hW0]; exact ((Below.refl _ _).alloc (Nat.le_refl _) _).alloc (by simp) _
  have hs0 : W0.heap.size = w.heap.size + 2 := by rw [hW0]; simp
  have HK : Hid (∀ w1, Below W0.heap.size W0 w1 -> (w1.cell? ⟨w.heap.size, 0, none⟩ = some (.slice so g.spots.length sc) /\ w1.cell? ⟨w.heap.size, 1, none⟩ = some (.int .i64 (gi : Int)) /\ w1.cell? ⟨w.heap.size, 2, none⟩ = some (.slice no g.spots.length nc) /\ w1.cell? ⟨w.heap.size, 3, none⟩ = some (.slice bo g.spots.length bc) /\ w1.cell? ⟨w.heap.size, 4, none⟩ = some (.int .i64 g.many)) /\ w1.cell? ⟨w.heap.size + 1, 0, none⟩ = some (.slice none 0 0) /\ w1.cell? ⟨w.heap.size + 1, 1, none⟩ = some (.slice none 0 0) /\ w1.frozen? ⟨w.heap.size + 1, 0, none⟩ = false /\ w1.frozen? ⟨w.heap.size + 1, 1, none⟩ = false) := fun w1 hb => by
    have hlt : w.heap.size + 1 < W0.heap.size := by omega
    have hlt0 : w.heap.size < W0.heap.size := by omega
    have c : ∀ j, w1.cell? ⟨w.heap.size, j, none⟩ = W0.cell? ⟨w.heap.size, j, none⟩ := fun j => hb.cell (p := ⟨w.heap.size, j, none⟩) hlt0
    refine ⟨⟨(c _).trans ?_, (c _).trans ?_, (c _).trans ?_, (c _).trans ?_, (c _).trans ?_⟩, (hb.cell (p := ⟨w.heap.size + 1, 0, none⟩) hlt).trans ?_, (hb.cell (p := ⟨w.heap.size + 1, 1, none⟩) hlt).trans ?_, (hb.frozen (p := ⟨w.heap.size + 1, 0, none⟩) hlt).trans ?_, (hb.frozen (p := ⟨w.heap.size + 1, 1, none⟩) hlt).trans ?_⟩ <;> (rw [hW0]; simp [go_sem])
  have hVb : ∀ w1, Below W0.heap.size W0 w1 -> GraphV w1 (.slice so g.spots.length sc) (.slice no g.next.length nc) (.slice bo g.sets.length bc) g := fun w1 hb => (hV.below hA).below hb
  have hpa := sparts_ok so no bo sc nc bc g W0 hz (hV.below hA) hc; rw [hgn, hgs, hgi] at hpa
  have HFs : Hid (∀ (w1 : World) (B : Nat) pz, Below W0.heap.size W0 w1 -> w1.rowIs B 3 g.spots.length (natRow pz) -> PzOk g pz -> Calls Tryz.prog 56 #[.agg #[.slice so g.spots.length sc, .int .i64 (gi : Int), .slice no g.spots.length nc, .slice bo g.spots.length bc, .int .i64 g.many], .slice (some ⟨B, 0, none⟩) g.spots.length g.spots.length] w1 fun e w' => ∃ Bf, e = .returned (.slice (some ⟨Bf, 0, none⟩) g.spots.length g.spots.length) /\ Below w1.heap.size w1 w' /\ Hid (w'.rowIs Bf 4 g.spots.length (fun x => .bool (decide (FairX g x))))) := fun w1 B pz hb h1 h3 => by
    have h := fairSpots_any so no bo sc nc bc B g pz w1 hz (hVb w1 hb) hok h1 (fun x hx => Nat.lt_of_le_of_lt (h3.le hx) hx)
    rw [hgn, hgs, hgi] at h; exact h.mono fun e w' ⟨Bf, e1, e2, e3⟩ => ⟨Bf, e1, e2, e3.out.2.congr fun x hx => by rw [fairB_x hok h3 hx]⟩
  have HFi : Hid (∀ w1, Calls Tryz.prog 58 #[.agg #[.slice so g.spots.length sc, .int .i64 (gi : Int), .slice no g.spots.length nc, .slice bo g.spots.length bc, .int .i64 g.many]] w1 fun e w' => ∃ vo vc, e = .returned (.slice vo (List.range gi).length vc) /\ Below w1.heap.size w1 w' /\ NatsV w' (.slice vo (List.range gi).length vc) (List.range gi)) := fun w1 => firsts_any so no bo _ sc _ nc _ bc gi g.many w1 (by omega)
  have HWy : Hid (∀ w1 vo vc fw cw want, Below W0.heap.size W0 w1 -> NatsV w1 (.slice vo (List.range gi).length vc) (List.range gi) -> FnB w1 w1.heap.size g.spots.length (.func (.func fw) #[] cw) want -> Calls Tryz.prog 57 #[.agg #[.slice so g.spots.length sc, .int .i64 (gi : Int), .slice no g.spots.length nc, .slice bo g.spots.length bc, .int .i64 g.many], .slice vo (List.range gi).length vc, .func (.func 59) #[] #[], .func (.func fw) #[] cw] w1 fun e w' => ∃ vo vc q, e = .returned (.slice vo q vc) /\ Below w1.heap.size w1 w' /\ Hid (∃ l, l.length = q /\ WayPost g.spots.length (fun _ => true) want (nxt g) (List.range gi) l /\ w'.ownsRow w1.heap.size 3 1 (.slice vo q vc) q (nvals l))) := fun w1 vo vc fw cw want hb hN hF => by
    have h := way_any so no bo vo sc nc bc vc g (List.range gi) 59 fw #[] cw (fun _ => true) want w1 hok (fun i hi => hz.rows i (by rw [hgn]; exact hi)) (hVb w1 hb) hN (by simp; omega) (fun x hx => by have := List.mem_range.1 hx; omega) (anywhere_fn _ _ _) hF
    rw [hgn, hgs, hgi] at h; exact h
  have HLf : Hid (∀ w1 f fi ci ins, Below W0.heap.size W0 w1 -> f < g.spots.length -> FairX g f -> InPart g f ins -> FnB w1 w1.heap.size g.spots.length (.func (.func fi) #[] ci) ins -> Calls Tryz.prog 61 #[.agg #[.slice so g.spots.length sc, .int .i64 (gi : Int), .slice no g.spots.length nc, .slice bo g.spots.length bc, .int .i64 g.many], .int .i64 (f : Int), .func (.func fi) #[] ci] w1 fun e w' => ∃ vo vc q, e = .returned (.slice vo q vc) /\ Below w1.heap.size w1 w' /\ Hid (∃ l, l.length = q /\ q <= 2000000 /\ LoopOk g f l /\ w'.ownsRow w1.heap.size 3 1 (.slice vo q vc) q (nvals l))) := fun w1 f fi ci ins hb hf hF hI hFn => by
    have h := loopFrom_any so no bo sc nc bc g f fi ci ins w1 hz (hVb w1 hb) hok hf hF hI hFn; rw [hgn, hgs, hgi] at h; exact h
  have HPz : Hid (∀ pt, PartsOk g pt -> ∃ pz, PzOk g pz /\ ∀ (w1 : World) (B : Nat), w1.rowIs B 3 g.spots.length (intRow pt) -> w1.rowIs B 3 g.spots.length (natRow pz)) := fun pt h => by
    obtain ⟨h3, h4⟩ := h.pz; exact ⟨_, h3, fun w1 B h1 => h1.congr fun x hx => by unfold intRow natRow; rw [<- h4 x hx]⟩
  have HNone : Hid (NoWay (fun _ => true) (fun x => decide (FairX g x)) (nxt g) (List.range gi) -> fairC g = 11) := fun h => by
    rw [<- hgt] at h; exact (noWay_none h).2
  have HSome : Hid (∀ l lp, WayOk g.spots.length (fun _ => true) (fun x => decide (FairX g x)) (nxt g) (List.range gi) l -> LoopOk g (l.getD (l.length - 1) 0) lp -> LassoOk g (l.take (l.length - 1)) lp /\ fairC g = 0) := fun l lp h h2 => by
    rw [<- hgt] at h; exact lasso_ok hok h h2
  have HIn : Hid (∀ pz f, PzOk g pz -> f < g.spots.length -> InPart g f (fun p => decide (pz p = pz f))) := fun pz f hp hf x hx => by
    rw [decide_eq_true_iff, hp.iff hx hf]; exact ⟨Mut.symm, Mut.symm⟩
  have HPO : Hid (∀ pt, PartsOk g pt -> PartsOk g pt) := fun _ h => h
  rw [hgn, hgs, hgi]; clear hV hVb hz hc hok hgn hgs hgi hgt; generalize hPO : PartsOk g = PO at *; obtain ⟨lr, hlr⟩ : ∃ lr, lr = (List.range gi).length := ⟨_, rfl⟩
  have HLr : Hid (lr = (List.range gi).length) := hlr; rw [<- hlr] at HFi HWy; clear hPO hlr; obtain ⟨n, hnn⟩ : ∃ n, n = g.spots.length := ⟨_, rfl⟩
  rw [<- hnn] at hW0 HK hpa HFs HFi HWy HLf HPz HSome HIn hn hgin ⊢; generalize g.many = gm at *; rw [hW0] at hpa; have HW0 : Hid (W0 = (w.alloc (.cells #[.slice so n sc, .int .i64 (gi : Int), .slice no n nc, .slice bo n bc, .int .i64 gm] 71)).alloc (.cells #[.slice none 0 0, .slice none 0 0] 38)) := hW0; clear hW0 hnn
  have hmf : ∀ (fn : Fn) (first cap : Array Value) (w : World), (Instr.makeFunc fn first cap).run Tryz.prog w = .ok (.func fn first cap) w := fun _ _ _ _ => rfl
  go_enter Tryz.func27, Tryz.ntmps27
  go_upto_region 4 with (go_at_call 55; refine hpa.mono ?_; rintro e w1 ⟨B, rfl, hb1, HP⟩; rw [<- HW0.out] at hb1)
  obtain ⟨pt, hBl, hrow1, hpt⟩ := HP.out; obtain ⟨pz, hpz, hconv⟩ := HPz.out pt hpt; have hrow1 := hconv w1 B hrow1; have hbx : Below W0.heap.size W0 (w1.alloc (.cells #[.slice (some ⟨B, 0, none⟩) n n] 36)) := hb1.alloc hb1.size _; have hcb : (w1.alloc (.cells #[.slice (some ⟨B, 0, none⟩) n n] 36)).cell? ⟨w1.heap.size, 0, none⟩ = some (.slice (some ⟨B, 0, none⟩) n n) := by simp [go_sem]
  have hs1 : w1.heap.size < (w1.alloc (.cells #[.slice (some ⟨B, 0, none⟩) n n] 36)).heap.size := by simp
  have hrow2 : (w1.alloc (.cells #[.slice (some ⟨B, 0, none⟩) n n] 36)).rowIs B 3 n (natRow pz) := hrow1.alloc _; generalize w1.alloc (.cells #[.slice (some ⟨B, 0, none⟩) n n] 36) = W2 at hbx hcb hs1 hrow2 ⊢; have HPzO : Hid (PzOk g pz) := hpz; have HRow2 : Hid (W2.rowIs B 3 n (natRow pz)) := hrow2; have HBx : Hid (Below W0.heap.size W0 W2) := hbx; have hfs := HFs.out W2 B pz hbx hrow2 hpz
  obtain ⟨⟨a0, a1, a2, a3, a4⟩, _⟩ := HK.out W2 hbx; clear HP hb1 hrow1 hconv hpt hpa hrow2 hpz HFs HPz hBl
  go_upto_region 5 with (go_at_call 56; refine hfs.mono ?_; rintro e w3 ⟨Bf, rfl, hb3, HF3⟩)
  have hb23 : Below W0.heap.size W0 w3 := HBx.out.trans (hb3.mono HBx.out.size); have hb4 : Below W0.heap.size W0 (w3.alloc (.cells #[.slice (some ⟨Bf, 0, none⟩) n n] 60)) := hb23.alloc hb23.size _; have hcf4 : (w3.alloc (.cells #[.slice (some ⟨Bf, 0, none⟩) n n] 60)).cell? ⟨w3.heap.size, 0, none⟩ = some (.slice (some ⟨Bf, 0, none⟩) n n) := by simp [go_sem]
  have hs4 : w3.heap.size < (w3.alloc (.cells #[.slice (some ⟨Bf, 0, none⟩) n n] 60)).heap.size := by simp
  have hF4 : (w3.alloc (.cells #[.slice (some ⟨Bf, 0, none⟩) n n] 60)).rowIs Bf 4 n (fun x => .bool (decide (FairX g x))) := HF3.out.alloc _
  have hcb4 : (w3.alloc (.cells #[.slice (some ⟨Bf, 0, none⟩) n n] 60)).cell? ⟨w1.heap.size, 0, none⟩ = some (.slice (some ⟨B, 0, none⟩) n n) := (((Below.refl w3.heap.size w3).alloc (Nat.le_refl _) _).cell (p := ⟨w1.heap.size, 0, none⟩) (Nat.lt_of_lt_of_le hs1 hb3.size)).trans ((hb3.cell (p := ⟨w1.heap.size, 0, none⟩) hs1).trans hcb)
  have hrB4 : (w3.alloc (.cells #[.slice (some ⟨Bf, 0, none⟩) n n] 60)).rowIs B 3 n (natRow pz) := (row_laterG HRow2.out hb3).alloc _; have hs14 : w1.heap.size < (w3.alloc (.cells #[.slice (some ⟨Bf, 0, none⟩) n n] 60)).heap.size := by have := hb3.size; simp; omega
  generalize w3.alloc (.cells #[.slice (some ⟨Bf, 0, none⟩) n n] 60) = W4 at hb4 hcf4 hs4 hF4 hcb4 hrB4 hs14 ⊢; have HB4 : Hid (Below W0.heap.size W0 W4) := hb4
  have HAt : Hid (∀ w', Below W4.heap.size W4 w' -> w'.cell? ⟨w3.heap.size, 0, none⟩ = some (.slice (some ⟨Bf, 0, none⟩) n n) /\ w3.heap.size < w'.heap.size /\ w'.rowIs Bf 4 n (fun x => .bool (decide (FairX g x))) /\ w'.cell? ⟨w1.heap.size, 0, none⟩ = some (.slice (some ⟨B, 0, none⟩) n n) /\ w1.heap.size < w'.heap.size /\ w'.rowIs B 3 n (natRow pz) /\ Below W0.heap.size W0 w') := fun w' hb => ⟨(hb.cell (p := ⟨w3.heap.size, 0, none⟩) hs4).trans hcf4, Nat.lt_of_lt_of_le hs4 hb.size, row_laterG hF4 hb, (hb.cell (p := ⟨w1.heap.size, 0, none⟩) hs14).trans hcb4, Nat.lt_of_lt_of_le hs14 hb.size, row_laterG hrB4 hb, HB4.out.trans (hb.mono HB4.out.size)⟩
  have hS : ∀ w', Below W4.heap.size W4 w' -> w'.cell? ⟨w.heap.size, 0, none⟩ = some (.slice so n sc) /\ w'.cell? ⟨w.heap.size, 1, none⟩ = some (.int .i64 (gi : Int)) /\ w'.cell? ⟨w.heap.size, 2, none⟩ = some (.slice no n nc) /\ w'.cell? ⟨w.heap.size, 3, none⟩ = some (.slice bo n bc) /\ w'.cell? ⟨w.heap.size, 4, none⟩ = some (.int .i64 gm) := fun w' hb => (HK.out w' (HAt.out w' hb).2.2.2.2.2.2).1
  have hfi := HFi.out W4.drew
  have HFn : Hid (∀ w', Below W4.heap.size W4 w' -> FnB w' w'.heap.size n (.func (.func 60) #[] #[.pointer (some ⟨w3.heap.size, 0, none⟩)]) (fun x => decide (FairX g x))) := fun w' hb => by
    obtain ⟨h1, h2, h3, _⟩ := HAt.out w' hb; exact fair_fn w' w3.heap.size Bf n _ h2 h1 h3
  clear hcf4 hF4 hcb4 hrB4 hb4 HF3 hfs hb3 hb23 hcb HBx HRow2 a0 a1 a2 a3 a4
  go_region_held3 (fun w' => w'.cell? ⟨w.heap.size, 0, none⟩ = some (.slice so n sc) /\ w'.cell? ⟨w.heap.size, 1, none⟩ = some (.int .i64 (gi : Int)) /\ w'.cell? ⟨w.heap.size, 2, none⟩ = some (.slice no n nc) /\ w'.cell? ⟨w.heap.size, 3, none⟩ = some (.slice bo n bc) /\ w'.cell? ⟨w.heap.size, 4, none⟩ = some (.int .i64 gm))
    (exact hS _ (by first | exact (Below.refl _ _).drew | exact Below.refl _ _ | exact hb5' | exact hb6'))
    (first | (go_at_call 58; refine hfi.mono ?_; rintro e w5 ⟨vo5, vc5, rfl, hb5, hN5⟩; have hb5' : Below W4.heap.size W4 w5 := undrewB hb5; have hwy := HWy.out w5 vo5 vc5 _ _ _ (HAt.out w5 hb5').2.2.2.2.2.2 (by rw [HLr.out] at hN5 ⊢; exact hN5) (HFn.out w5 hb5')) | (go_at_call 57; refine hwy.mono ?_; rintro e w6 ⟨vo6, vc6, q6, rfl, hb6, HM⟩; have hb6' : Below W4.heap.size W4 w6 := hb5'.trans (hb6.mono hb5'.size)))
  all_goals
    obtain ⟨l, hlq, hpost, hro6⟩ := HM.out; obtain ⟨h1, h2, h3, h4, h5, h6, hbw6⟩ := HAt.out w6 hb6'; obtain ⟨hk6, r0, r1, f0, f1⟩ := HK.out w6 hbw6; have hbb6 : Below w.heap.size w w6 := hA.trans (hbw6.mono hA.size)
    rcases hpost with ⟨rfl, hno⟩ | hwo
    · have hq0 : q6 = 0 := by rw [<- hlq]; rfl
      subst hq0; have hC := HNone.out hno; have HCC : Hid (fairC g = 11) := hC; clear hno hC hlq hro6 HM hwy hfi HFn hS HAt HWy HFi HLf HSome HNone
      go_wp2_with fail
      refine bodyPost_ret (v := .tuple #[.agg #[.slice none 0 0, .slice none 0 0], .int .i64 11]) ?_ rfl ⟨_, _, rfl, ?_, .inl ⟨rfl, HCC.out, rfl⟩⟩
      · simp only [results, Tryz.results27]
        simp [go_sem, r0, r1]
      · exact (hbb6.setCell (by show w.heap.size <= w.heap.size + 1; omega) _).setCell (by show w.heap.size <= w.heap.size + 1; omega) _
    · have hq6 : 0 < q6 := by
        have := hwo.ne
        cases l with
        | nil => exact absurd rfl this
        | cons a l => simp at hlq; omega
      have hq20 : q6 <= 20000 := by have := hwo.len; omega
      obtain ⟨g6, c6, hvv6, hg61, hg62⟩ := hro6.form hq6
      injection hvv6 with e1 e2 e3
      subst e1 e3; obtain ⟨q, rfl⟩ : ∃ q, q6 = q + 1 := ⟨q6 - 1, by omega⟩
      obtain ⟨hqc, _, hcl6⟩ := owns_cells (l := l) (by rw [hlq]; exact hro6)
      have hcq := hcl6 q (by omega)
      have hlst : l.length - 1 = q := by omega
      have hmf9 := last_mem hwo.ne; rw [hlst] at hmf9; have hfn := (hwo.ins _ hmf9).2
      have hFx : FairX g (l.getD q 0) := by
        have := hwo.last; rw [hlst] at this; exact of_decide_eq_true this
      have HS9 : Hid (∀ lp, LoopOk g (l.getD q 0) lp -> LassoOk g (l.take q) lp /\ fairC g = 0) := fun lp h => by
        have := HSome.out l lp hwo (by rw [hlst]; exact h)
        rw [hlst] at this; exact this
      have hs5 : w.heap.size + 1 < w5.heap.size := by have h8 := (HAt.out w5 hb5').2.2.2.2.2.2.size; omega
      have HNl : Hid (∀ w9, Below w6.heap.size w6 w9 -> ∀ x y, NatsV ((w9.setCell ⟨w.heap.size + 1, 0, none⟩ x).setCell ⟨w.heap.size + 1, 1, none⟩ y) (.slice (some ⟨g6, 0, none⟩) (l.take q).length vc6) (l.take q)) := fun w9 hb9 x y => by
        have h9 := ownsRow_setCell_below (ownsRow_setCell_below (owns_later hro6 hb9 (Nat.le_refl _)) (a := ⟨w.heap.size + 1, 0, none⟩) hs5 x) (a := ⟨w.heap.size + 1, 1, none⟩) hs5 y; exact natsV_take (l := l) (by rw [hlq]; exact natsV_owns (by rw [hlq]; exact h9)) (by omega)
      have HTl : Hid ((l.take q).length = q) := by show _ = _; rw [List.length_take]; omega
      generalize hff : l.getD q 0 = f at *; clear hff; have hqc2 : q + 1 <= vc6 := by omega
      clear hwo hro6 hcl6 HM hwy hfi HFn hS HWy HFi HNone hmf9 hlst hqc hlq HSome
      go_upto_region 9 with fail
      have hb7 : Below W4.heap.size W4 (w6.alloc (.cells #[.int .i64 (f : Int)] 3)) := hb6'.alloc hb6'.size _; have hb67 : Below w6.heap.size w6 (w6.alloc (.cells #[.int .i64 (f : Int)] 3)) := (Below.refl _ _).alloc (Nat.le_refl _) _; have hc7 : (w6.alloc (.cells #[.int .i64 (f : Int)] 3)).cell? ⟨w6.heap.size, 0, none⟩ = some (.int .i64 (f : Int)) := by simp [go_sem]
      have hs7 : w6.heap.size < (w6.alloc (.cells #[.int .i64 (f : Int)] 3)).heap.size := by simp
      generalize w6.alloc (.cells #[.int .i64 (f : Int)] 3) = W7 at hb7 hb67 hc7 hs7 ⊢; obtain ⟨_, _, _, g4, g5, g6', g7⟩ := HAt.out W7 hb7; obtain ⟨⟨a0, a1, a2, a3, a4⟩, _⟩ := HK.out W7 g7; have hlf := HLf.out W7 f _ _ _ g7 hfn hFx (HIn.out pz f HPzO.out hfn) (part_fn W7 w1.heap.size w6.heap.size B n f pz g5 hs7 hfn g4 hc7 g6')
      clear h1 h2 h3 h4 h5 h6 hk6 r0 r1 f0 f1 hcq g4 g5 g6' HLf HIn HPzO hFx
      go_wp2_with (go_at_call 61; refine hlf.mono ?_; rintro e w8 ⟨vo8, vc8, q8, rfl, hb8, HL8⟩; have hb8' := g7.trans (hb8.mono g7.size); obtain ⟨_, r0, r1, f0, f1⟩ := HK.out w8 hb8')
      have hb68 : Below w6.heap.size w6 w8 := hb67.trans (hb8.mono hb67.size); have hbb8 : Below w.heap.size w w8 := hA.trans (hb8'.mono hA.size); obtain ⟨lp, hlp1, hlp2, hlp3, hlp4⟩ := HL8.out; obtain ⟨hLo, hC0⟩ := HS9.out lp hlp3; have hs7w : w.heap.size + 1 < W7.heap.size := by have := g7.size; omega
      have hNlp := natsV_owns (l := lp) (by rw [hlp1]; exact ownsRow_setCell_below (ownsRow_setCell_below hlp4 (a := ⟨w.heap.size + 1, 0, none⟩) hs7w (.slice (some ⟨g6, 0, none⟩) q vc6)) (a := ⟨w.heap.size + 1, 1, none⟩) hs7w (.slice vo8 q8 vc8))
      have hNst := HNl.out w8 hb68 (.slice (some ⟨g6, 0, none⟩) q vc6) (.slice vo8 q8 vc8); have hTl := HTl.out; rw [hTl] at hNst
      refine bodyPost_ret (v := .tuple #[.agg #[.slice (some ⟨g6, 0, none⟩) q vc6, .slice vo8 q8 vc8], .int .i64 0]) ?_ rfl ⟨_, _, rfl, ?_, .inr ⟨rfl, hC0, some ⟨g6, 0, none⟩, vc6, vo8, vc8, l.take q, lp, by rw [hTl, hlp1], by rw [hTl]; omega, by rw [hlp1]; exact hlp2, hLo, by rw [hTl]; exact hNst, by rw [hlp1]; exact hNlp⟩⟩
      · simp only [results, Tryz.results27]
        simp [go_sem, r0, r1]
      · exact (hbb8.setCell (by show w.heap.size <= w.heap.size + 1; omega) _).setCell (by show w.heap.size <= w.heap.size + 1; omega) _
theorem statesAt_any (so no xo po : Option Addr) (sc nn nc xn xc pc : Nat) (ini man : Int) (S : List (Int × Int)) (l : List Nat) (w : World) (hS : OpsV w (.slice so S.length sc) S) (hP : NatsV w (.slice po l.length pc) l) (hlt : ∀ i, i < l.length -> l.getD i 0 < S.length) (hz : l.length <= 2000000) (hzS : S.length <= 20000) :
    Calls Tryz.prog 28 #[.agg #[.slice so S.length sc, .int .i64 ini, .slice no nn nc, .slice xo xn xc, .int .i64 man], .slice po l.length pc] w fun e w' => ∃ R, e = .returned (.slice (some ⟨R, 0, none⟩) l.length l.length) /\ Below w.heap.size w w' /\ Hid (IntsV w' (.slice (some ⟨R, 0, none⟩) l.length l.length) ((List.range l.length).map fun (j : Nat) => (S.getD (l.getD j 0) (0, 0)).1)) := by
  obtain ⟨n, hn⟩ : ∃ n, l.length = n := ⟨_, rfl⟩
  have HN : Hid (l.length = n) := hn; obtain ⟨W1, hW1⟩ : ∃ W1, W1 = w.alloc (.cells #[.slice so S.length sc, .int .i64 ini, .slice no nn nc, .slice xo xn xc, .int .i64 man] 71) := ⟨_, rfl⟩
  have hb1 : Below w.heap.size w W1 := by rw [hW1]; exact (Below.refl _ _).alloc (Nat.le_refl _) _
  have hc1 : W1.cell? ⟨w.heap.size, 0, none⟩ = some (.slice so S.length sc) := by rw [hW1]; simp [go_sem]
  have hz1 : W1.heap.size = w.heap.size + 1 := by rw [hW1]; simp
  have HS : Hid (∀ wr, Below W1.heap.size W1 wr -> ∀ i, i < S.length -> ∃ b off, so = some ⟨b, off, none⟩ /\ wr.cell? ⟨b, off + i * 2, none⟩ = some (.int .i64 (S.getD i (0, 0)).1)) := fun wr h i hi => by
    obtain ⟨ao', cap, e, _, hx⟩ := (hS.below hb1).below h
    injection e with e1 _ _
    subst e1; obtain ⟨b, off, rfl, _, hat⟩ := hx (by rintro rfl; simp at hi)
    exact ⟨b, off, rfl, (hat i hi).1⟩
  have HP : Hid (∀ wr, Below W1.heap.size W1 wr -> ∀ i, i < n -> ∃ b off, po = some ⟨b, off, none⟩ /\ wr.cell? ⟨b, off + i, none⟩ = some (.int .i64 ((l.getD i 0 : Nat) : Int))) := fun wr h i hi => by
    have hP1 := (hP.below hb1).below h; obtain ⟨b, off, e, _, hat⟩ := hP1.num (i := i) (by omega)
    exact ⟨b, off, e, hat⟩
  have HC : Hid (∀ wr, Below W1.heap.size W1 wr -> wr.cell? ⟨w.heap.size, 0, none⟩ = some (.slice so S.length sc)) := fun wr h => (h.cell (p := ⟨w.heap.size, 0, none⟩) (by show w.heap.size < _; omega)).trans hc1
  have HL : Hid (∀ i, i < n -> l.getD i 0 < S.length) := fun i hi => hlt i (by omega)
  rw [hn] at hz ⊢; generalize hsn : S.length = sn at *; clear hS hP hlt hn hc1; have hmk := run_make_row' (P := Tryz.prog) 36 3 (.int .i64 0) 8 Tryz.underlying36 infoInt rfl .i64 .i64 n (by omega) (by omega)
  obtain ⟨f, hf⟩ : ∃ f : Nat -> Int, f = fun j => (S.getD (l.getD j 0) (0, 0)).1 := ⟨_, rfl⟩
  have HF : Hid (∀ j, (S.getD (l.getD j 0) (0, 0)).1 = f j) := fun j => by rw [hf]
  have HFe : Hid ((List.range n).map (fun (j : Nat) => (S.getD (l.getD j 0) (0, 0)).1) = (List.range n).map f) := by rw [hf]; rfl
  have HR0 : Hid ((W1.alloc (.cells (madeCells #[.int .i64 0] n) 3)).rowIs (w.heap.size + 1) 3 n (fun j => .int .i64 (if j < 0 then f j else 0))) := by
    rw [<- hz1]; exact (World.rowIs_made W1 (.int .i64 0) n 3).congr (fun j _ => by simp)
  have hb2 : Below W1.heap.size W1 (W1.alloc (.cells (madeCells #[.int .i64 0] n) 3)) := (Below.refl _ _).alloc (Nat.le_refl _) _; rw [HFe.out]; clear hf HFe
  go_enter Tryz.func28, Tryz.ntmps28
  go_wp2_with fail
  rw [<- hW1]; clear hW1
  go_wp2_with fail
  generalize W1.alloc (.cells (madeCells #[.int .i64 0] n) 3) = W2 at *
  go_loopw [13] (fun i wr => ∃ k : Nat, k <= n /\ i = .int .i64 k /\ Below W1.heap.size W1 wr /\ Hid (wr.rowIs (w.heap.size + 1) 3 n (fun j => .int .i64 (if j < k then f j else 0)))) (fun i _ => n - (intOf i).toNat)
  case atStart => exact ⟨0, Nat.zero_le _, rfl, hb2, HR0⟩
  case round =>
    obtain ⟨k, hk, rfl, hbr, HR⟩ := hrel
    by_cases hkn : k < n
    · have hki : (k : Int) < (n : Int) := by omega
      obtain ⟨pb, poff, rfl, c0⟩ := HP.out wr hbr k hkn; have hpl := HL.out k hkn; obtain ⟨sb, soff, rfl, d0⟩ := HS.out wr hbr _ hpl; have g0 := HC.out wr hbr; rw [HF.out k] at d0; generalize l.getD k 0 = q at *; have hqi : (q : Int) < (sn : Int) := by omega
      have f0 := HR.out.cell hkn; have f1 := HR.out.frozen k
      have HR2 : Hid ((wr.setCell ⟨w.heap.size + 1, k, none⟩ (.int .i64 (f k))).rowIs (w.heap.size + 1) 3 n (fun j => .int .i64 (if j < k + 1 then f j else 0))) := (HR.out.set k _).congr (fun j _ => by
        by_cases e : j = k
        · subst e
          rw [if_pos rfl, if_pos (Nat.lt_succ_self _)]
        · rw [if_neg e]
          by_cases h1 : j < k
          · rw [if_pos h1, if_pos (by omega)]
          · rw [if_neg h1, if_neg (by omega)])
      clear HR
      go_wp2_with fail
      go_roundw
      case rel => exact ⟨k + 1, by omega, by go_num, hbr.setCell (p := ⟨w.heap.size + 1, k, none⟩) (by show W1.heap.size <= w.heap.size + 1; omega) _, HR2⟩
      case measure => simp [intOf]; omega
    · obtain rfl : k = n := by omega
      go_wp2_with fail
      go_ret
      refine ⟨w.heap.size + 1, rfl, hb1.trans (hbr.mono hb1.size), ⟨some ⟨w.heap.size + 1, 0, none⟩, k, by simp, fun _ => ⟨w.heap.size + 1, 0, rfl, HR.out.lt, fun i hi => ?_⟩⟩⟩
      have hi' : i < k := by simpa using hi
      rw [Nat.zero_add, HR.out.cell hi', if_pos hi']; simp [List.getD_eq_getElem?_getD, hi']
end Go.Proofs.YtjdfdmamonjnoaaGreatDoor
