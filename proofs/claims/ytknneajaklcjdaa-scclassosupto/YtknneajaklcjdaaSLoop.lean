/-
  The contract of scc.loopFrom.
-/
import Derived.Test.YtknneajaklcjdaaLoopM
namespace Go.Proofs.Ytknneajaklcjdaa
open Go.ChangeShapes Go.WideShapes Go.ChangeAt Go.RowKit Go.Deep
open Terms

/-- how things lie while the loop is made. -/
structure LoopW (w wr : World) (s : Nat) (so no bo : Option Addr) (sc nc bc n : Nat) (gi gm : Int) (f met : Nat) (v : Value) (lp : List Nat) : Prop where
  below : Below s w wr
  size : s + 4 ≤ wr.heap.size
  c0 : wr.cell? ⟨s, 0, none⟩ = some (.slice so n sc)
  c1 : wr.cell? ⟨s, 1, none⟩ = some (.int .i64 gi)
  c2 : wr.cell? ⟨s, 2, none⟩ = some (.slice no n nc)
  c3 : wr.cell? ⟨s, 3, none⟩ = some (.slice bo n bc)
  c4 : wr.cell? ⟨s, 4, none⟩ = some (.int .i64 gm)
  cf : wr.cell? ⟨s + 1, 0, none⟩ = some (.int .i64 (f : Int))
  cm : wr.cell? ⟨s + 3, 0, none⟩ = some (.int .i64 (met : Int))
  fm : wr.frozen? ⟨s + 3, 0, none⟩ = false
  ow : wr.ownsRow (s + 2) 3 1 v lp.length (nvals lp)
  ap : v.ownBlock ≠ some (s + 3)
section
variable {w wr : World} {s : Nat} {so no bo : Option Addr} {sc nc bc n : Nat} {gi gm : Int} {f met : Nat} {v : Value} {lp : List Nat}
theorem LoopW.blocks (h : LoopW w wr s so no bo sc nc bc n gi gm f met v lp) {w' : World} (hb : Below s w w') (hs : wr.heap.size ≤ w'.heap.size) (h0 : w'.heap[s]? = wr.heap[s]?) (h1 : w'.heap[s + 1]? = wr.heap[s + 1]?) (h3 : w'.heap[s + 3]? = wr.heap[s + 3]?) {v' : Value} {lp' : List Nat} (ho : w'.ownsRow (s + 2) 3 1 v' lp'.length (nvals lp')) (ha : v'.ownBlock ≠ some (s + 3)) : LoopW w w' s so no bo sc nc bc n gi gm f met v' lp' := by
  have c : ∀ j, w'.cell? ⟨s, j, none⟩ = wr.cell? ⟨s, j, none⟩ := fun j => World.cell?_of_block (a := ⟨s, j, none⟩) h0
  have d1 : w'.cell? ⟨s + 1, 0, none⟩ = wr.cell? ⟨s + 1, 0, none⟩ := World.cell?_of_block (a := ⟨s + 1, 0, none⟩) h1
  have d3 : w'.cell? ⟨s + 3, 0, none⟩ = wr.cell? ⟨s + 3, 0, none⟩ := World.cell?_of_block (a := ⟨s + 3, 0, none⟩) h3
  have hsz := h.size
  exact ⟨hb, by omega, (c 0).trans h.c0, (c 1).trans h.c1, (c 2).trans h.c2, (c 3).trans h.c3, (c 4).trans h.c4, d1.trans h.cf, d3.trans h.cm, (World.frozen?_of_block (a := ⟨s + 3, 0, none⟩) h3).trans h.fm, ho, ha⟩
theorem LoopW.later (h : LoopW w wr s so no bo sc nc bc n gi gm f met v lp) {w' : World} (hb : Below wr.heap.size wr w') : LoopW w w' s so no bo sc nc bc n gi gm f met v lp := by
  have hsz := h.size
  exact h.blocks (h.below.trans (hb.mono (by omega))) hb.size (hb.block _ (by omega)) (hb.block _ (by omega)) (hb.block _ (by omega)) (owns_later h.ow hb (Nat.le_refl _)) h.ap
theorem LoopW.setMet (h : LoopW w wr s so no bo sc nc bc n gi gm f met v lp) (m : Nat) : LoopW w (wr.setCell ⟨s + 3, 0, none⟩ (.int .i64 (m : Int))) s so no bo sc nc bc n gi gm f m v lp := by
  have hsz := h.size
  have c : ∀ i j, i ≠ s + 3 → (wr.setCell ⟨s + 3, 0, none⟩ (.int .i64 (m : Int))).cell? ⟨i, j, none⟩ = wr.cell? ⟨i, j, none⟩ := fun i j hne => World.cell?_setCell_far _ _ _ _ (fun e => hne e.symm)
  exact ⟨h.below.setCell (by show s ≤ s + 3; omega) _, by simpa using hsz, (c s 0 (by omega)).trans h.c0, (c s 1 (by omega)).trans h.c1, (c s 2 (by omega)).trans h.c2, (c s 3 (by omega)).trans h.c3, (c s 4 (by omega)).trans h.c4, (c (s + 1) 0 (by omega)).trans h.cf, World.cell?_setCell_same _ _ _ (u := .int .i64 (met : Int)) h.cm, (World.frozen?_setCell _ _ _ _).trans h.fm, ownsRow_setCell_other h.ow (by exact h.ap) _, h.ap⟩
end

set_option maxHeartbeats 1600000 in
set_option maxRecDepth 20000 in
/-- what loopFrom wants of a place: a set that was not met yet. -/
theorem newSet_fn (w0 : World) (s : Nat) (bo : Option Addr) (bc n m : Nat) (g : Gr) (hok : GOk g) (hn : n = g.spots.length) (hsz : s + 4 ≤ w0.heap.size) (h3 : w0.cell? ⟨s, 3, none⟩ = some (.slice bo n bc)) (hm : w0.cell? ⟨s + 3, 0, none⟩ = some (.int .i64 (m : Int))) (hm64 : m < 64) (hS : ∀ k, k < n → ∃ b off, bo = some ⟨b, off, none⟩ ∧ b < w0.heap.size ∧ w0.cell? ⟨b, off + k, none⟩ = some (.int .i64 (sN g k : Int))) :
    FnB w0 w0.heap.size n (.func (.func 40) #[] #[.pointer (some ⟨s, 0, none⟩), .pointer (some ⟨s + 3, 0, none⟩)]) (fun p => decide (m ||| sN g p ≠ m)) := by
  refine ⟨_, _, rfl, fun args w => by simp [go_sem], fun w' hb p hp => ?_⟩
  show Calls Try.prog 40 #[.int .i64 (p : Int), .pointer (some ⟨s, 0, none⟩), .pointer (some ⟨s + 3, 0, none⟩)] w' fun e w2 => e = .returned (.bool (decide (m ||| sN g p ≠ m))) ∧ Below w'.heap.size w' w2
  obtain ⟨b, off, rfl, hbl, hc⟩ := hS p hp
  have e3 := (hb.cell (p := ⟨s, 3, none⟩) (by show s < _; omega)).trans h3
  have em := (hb.cell (p := ⟨s + 3, 0, none⟩) (by show s + 3 < _; omega)).trans hm
  have es := (hb.cell (p := ⟨b, off + p, none⟩) hbl).trans hc
  have hs64 : sN g p < 64 := by have h1 := (hok.sN (x := p) (by omega)).2; have h2 := pow64 hok.mN.1; omega
  have hand := andnot_nat0 (sN g p) hs64 m hm64
  have HA : Hid (decide (m ||| sN g p ≠ m) = !decide (bits BinOp.andNot IntKind.i64 (sN g p : Int) (m : Int) = 0)) := by
    show _ = _
    rw [hand]; simp
  rw [HA.out]
  clear hand HA hS hc h3 hm
  generalize sN g p = x at *
  have h63 : p < n := hp
  go_enter Try.func40, Try.ntmps40
  go_wp2_with fail
  go_quiet (fail)
  go_wp2_with fail
  go_ret
  exact ⟨by first | rfl | simp, below_drewN (Below.refl _ _) _⟩
set_option maxHeartbeats 1600000 in
set_option maxRecDepth 20000 in
theorem home_fn (w0 : World) (s n f : Nat) (hsz : s + 4 ≤ w0.heap.size) (hf : w0.cell? ⟨s + 1, 0, none⟩ = some (.int .i64 (f : Int))) :
    FnB w0 w0.heap.size n (.func (.func 41) #[] #[.pointer (some ⟨s + 1, 0, none⟩)]) (fun p => decide (p = f)) := by
  refine ⟨_, _, rfl, fun args w => by simp [go_sem], fun w' hb p hp => ?_⟩
  show Calls Try.prog 41 #[.int .i64 (p : Int), .pointer (some ⟨s + 1, 0, none⟩)] w' _
  have ef := (hb.cell (p := ⟨s + 1, 0, none⟩) (by show s + 1 < _; omega)).trans hf
  go_enter Try.func41, Try.ntmps41
  go_wp2_with fail
  go_ret
  refine ⟨?_, Below.refl _ _⟩
  have e : decide (p = f) = ((p : Int) == (f : Int)) := by
    show _ = decide ((p : Int) = (f : Int))
    rw [decide_eq_decide]; omega
  rw [e]
  first | rfl | simp

theorem LoopW.start (w : World) (so no bo : Option Addr) (sc nc bc n : Nat) (gi gm : Int) (f m : Nat) : LoopW w ((((w.alloc (.cells #[.slice so n sc, .int .i64 gi, .slice no n nc, .slice bo n bc, .int .i64 gm] 26)).alloc (.cells #[.int .i64 (f : Int)] 3)).alloc (.cells #[.int .i64 (f : Int)] 3)).alloc (.cells #[.int .i64 (m : Int)] 3)) w.heap.size so no bo sc nc bc n gi gm f m (.slice (some ⟨w.heap.size + 1 + 1, 0, none⟩) 1 1) [f] := by
  refine ⟨((((Below.refl _ _).alloc (Nat.le_refl _) _).alloc (by simp) _).alloc (by simp; omega) _).alloc (by simp; omega) _, by simp, by simp [go_sem], by simp [go_sem], by simp [go_sem], by simp [go_sem], by simp [go_sem], by simp [go_sem], by simp [go_sem], by simp [go_sem], ?_, by simp [Value.ownBlock]⟩
  refine ⟨rfl, .inr ⟨w.heap.size + 1 + 1, 1, #[.int .i64 (f : Int)], rfl, Nat.le_refl _, ?_, Nat.le_refl _, by unfold maxLen; decide, rfl, rfl⟩⟩
  have h := blk_alloc_new ((w.alloc (.cells #[.slice so n sc, .int .i64 gi, .slice no n nc, .slice bo n bc, .int .i64 gm] 26)).alloc (.cells #[.int .i64 (f : Int)] 3)) (.cells #[.int .i64 (f : Int)] 3)
  rw [World.size_alloc, World.size_alloc] at h
  exact (blk_alloc_lt _ _ _ (by simp)).trans h

theorem own_news {w : World} {g q : Nat} {l : List Nat} (hc : ∀ i, i < l.length → w.cell? ⟨g, i, none⟩ = some (.int .i64 (l.getD i 0 : Int))) (hq : q ≤ l.length) : ∀ j u, (nvals (l.take q))[j]? = some u → w.cell? ((⟨g, 0, none⟩ : Addr).add j) = some u := fun j u hu => by
  have hj : j < q := by
    rcases Nat.lt_or_ge j q with h | h
    · exact h
    · rw [List.getElem?_eq_none (by simp [nvals]; omega)] at hu; cases hu
  have h1 := hc j (by omega)
  have h2 : (nvals (l.take q))[j]? = some (.int .i64 (l.getD j 0 : Int)) := by
    rw [nvals, List.getElem?_map, List.getElem?_take, if_pos hj, List.getElem?_eq_getElem (by omega), List.getD_eq_getElem?_getD, List.getElem?_eq_getElem (by omega)]; rfl
  rw [h2] at hu
  injection hu with hu
  subst hu
  cases j with
  | zero => exact h1
  | succ j => simpa [Addr.add] using h1

set_option maxHeartbeats 6400000 in
set_option maxRecDepth 20000 in
/-- THE CONTRACT OF loopFrom. -/
theorem loopFrom_any (so no bo : Option Addr) (sc nc bc : Nat) (g : Gr) (f : Nat) (fi : FuncId) (ci : Array Value) (ins : Nat → Bool) (w : World) (hz : GrLe g) (hV : GraphV w (.slice so g.spots.length sc) (.slice no g.next.length nc) (.slice bo g.sets.length bc) g) (hok : GOk g) (hf : f < g.spots.length) (hF : FairX g f) (hIn : InPart g f ins) (hI : FnB w w.heap.size g.spots.length (.func (.func fi) #[] ci) ins) :
    Calls Try.prog 31 #[.agg #[.slice so g.spots.length sc, .int .i64 g.init, .slice no g.next.length nc, .slice bo g.sets.length bc, .int .i64 g.many], .int .i64 (f : Int), .func (.func fi) #[] ci] w fun e w' => ∃ vo vc q, e = .returned (.slice vo q vc) ∧ Below w.heap.size w w' ∧ Hid (∃ l, l.length = q ∧ q ≤ 2000000 ∧ LoopOk g f l ∧ w'.ownsRow w.heap.size 3 1 (.slice vo q vc) q (nvals l)) := by
  obtain ⟨i0, hi0, hz0, hz1, hz2⟩ := info_parts infoInt
  have hn := hok.head.n
  have hgn := hok.head.next
  have hgs := hok.head.sets
  have hV2 : GraphV w (.slice so g.spots.length sc) (.slice no g.spots.length nc) (.slice bo g.spots.length bc) g := by
    have := hV
    rw [hgn, hgs] at this
    exact this
  obtain ⟨fb, foff, hbo, hfb, hcf⟩ : ∃ b off, bo = some ⟨b, off, none⟩ ∧ b < w.heap.size ∧ w.cell? ⟨b, off + f, none⟩ = some (.int .i64 (sN g f : Int)) := by
    obtain ⟨b, off, e, hb, hc⟩ := hV2.sets.num (i := f) (by rw [hgs]; exact hf)
    exact ⟨b, off, e, hb, by rw [hc, (hok.sN hf).1]⟩
  have HSet : Hid (∀ w1, Below w.heap.size w w1 → ∀ k, k < g.spots.length → ∃ b off, bo = some ⟨b, off, none⟩ ∧ b < w1.heap.size ∧ w1.cell? ⟨b, off + k, none⟩ = some (.int .i64 (sN g k : Int))) := fun w1 hb k hk => by
    obtain ⟨b, off, e, hbl, hc⟩ := hV2.sets.num (i := k) (by rw [hgs]; exact hk)
    exact ⟨b, off, e, Nat.lt_of_lt_of_le hbl hb.size, by rw [(hb.cell (p := ⟨b, off + k, none⟩) hbl), hc, (hok.sN hk).1]⟩
  have HRow : Hid (NextRows w no g.spots.length (nxt g)) := graph_rows hok hV
  have HXL : Hid (∀ i, i < g.spots.length → (nxt g i).length ≤ 140737488355328) := fun i hi => by rw [nxt_length]; exact hz.rows i (by rw [hgn]; exact hi)
  have HAll : Hid (∀ w1, Calls Try.prog 34 #[.agg #[.slice so g.spots.length sc, .int .i64 g.init, .slice no g.spots.length nc, .slice bo g.spots.length bc, .int .i64 g.many]] w1 fun e w' => e = .returned (.int .i64 ((2 ^ mN g - 1 : Nat) : Int)) ∧ Below w1.heap.size w1 w') := fun w1 => by
    have := allSets_any so no bo g.spots.length sc g.spots.length nc g.spots.length bc g w1 hok.head.many0 hok.head.many6
    rw [hok.mN.2.2] at this
    exact this
  have HWay : Hid (∀ w1 po pc (x : Nat) fw cw want, Below w.heap.size w w1 → x < g.spots.length → NatsV w1 (.slice po (nxt g x).length pc) (nxt g x) → FnB w1 w1.heap.size g.spots.length (.func (.func fw) #[] cw) want → ¬ NoWay ins want (nxt g) (nxt g x) → Calls Try.prog 27 #[.agg #[.slice so g.spots.length sc, .int .i64 g.init, .slice no g.spots.length nc, .slice bo g.spots.length bc, .int .i64 g.many], .slice po (nxt g x).length pc, .func (.func fi) #[] ci, .func (.func fw) #[] cw] w1 fun e w' => ∃ vo vc q, e = .returned (.slice vo q vc) ∧ Below w1.heap.size w1 w' ∧ Hid (∃ l, l.length = q ∧ WayOk g.spots.length ins want (nxt g) (nxt g x) l ∧ w'.ownsRow w1.heap.size 3 1 (.slice vo q vc) q (nvals l))) := fun w1 po pc x fw cw want hb hx hN hW hno => by
    have hfi : FnB w1 w1.heap.size g.spots.length (.func (.func fi) #[] ci) ins := by
      obtain ⟨fn, caps, h1, h2, h3⟩ := hI
      exact ⟨fn, caps, h1, h2, fun w' hb' q hq => h3 w' (hb.trans (hb'.mono hb.size)) q hq⟩
    have h := way_any so no bo po sc nc bc pc g (nxt g x) fi fw ci cw ins want w1 hok (fun i hi => hz.rows i (by rw [hgn]; exact hi)) (hV.below hb) hN (by rw [nxt_length]; exact hz.rows x (by rw [hgn]; exact hx)) (fun y hy => nxt_lt hok hx hy) hfi hW
    rw [hgn, hgs] at h
    refine h.mono fun e w' ⟨vo, vc, q, h1, h2, h3⟩ => ⟨vo, vc, q, h1, h2, ?_⟩
    obtain ⟨l, h4, h5, h6⟩ := h3.out
    rcases h5 with ⟨_, h7⟩ | h7
    · exact absurd h7 hno
    · exact ⟨l, h4, h7, h6⟩
  have HOr : Hid (∀ a : Nat, a < 2 ^ mN g → ∀ k, k < g.spots.length → bits BinOp.or IntKind.i64 (a : Int) (sN g k : Int) = ((a ||| sN g k : Nat) : Int)) := fun a ha k hk => by
    have h6 := pow64 hok.mN.1
    have h2 := (hok.sN hk).2
    exact or_nat0 _ (by omega) _ (by omega)
  have hm64 : 2 ^ mN g ≤ 64 := pow64 hok.mN.1
  have HOK : Hid (GOk g) := hok
  have HF : Hid (FairX g f) := hF
  have HIn : Hid (InPart g f ins) := hIn
  have HSN : Hid (∀ k, k < g.spots.length → sN g k < 2 ^ mN g) := fun k hk => (hok.sN hk).2
  rw [hgn, hgs]
  have HL0 : Hid (LpOk g f [f] (sN g f)) := LpOk.start hf
  have H0 := LoopW.start w so no bo sc nc bc g.spots.length g.init g.many f (sN g f)
  have hsf := (hok.sN hf).2
  clear hV hV2 hok hz hF hIn hI hgn hgs
  obtain ⟨n, hnn⟩ : ∃ n, n = g.spots.length := ⟨_, rfl⟩
  have HNN : Hid (n = g.spots.length) := hnn
  rw [← hnn] at H0 HRow HXL HAll HWay HOr HSN HSet hf hn ⊢
  generalize g.init = gi at *
  generalize g.many = gm at *
  have H0' : Hid (LoopW w ((((w.alloc (.cells #[.slice so n sc, .int .i64 gi, .slice no n nc, .slice bo n bc, .int .i64 gm] 26)).alloc (.cells #[.int .i64 (f : Int)] 3)).alloc (.cells #[.int .i64 (f : Int)] 3)).alloc (.cells #[.int .i64 (sN g f : Int)] 3)) w.heap.size so no bo sc nc bc n gi gm f (sN g f) (.slice (some ⟨w.heap.size + 1 + 1, 0, none⟩) 1 1) [f]) := H0
  clear H0 hnn
  subst hbo
  generalize sN g f = m0 at *
  have ecf : (((w.alloc (.cells #[.slice so n sc, .int .i64 gi, .slice no n nc, .slice (some ⟨fb, foff, none⟩) n bc, .int .i64 gm] 26)).alloc (.cells #[.int .i64 (f : Int)] 3)).alloc (.cells #[.int .i64 (f : Int)] 3)).cell? ⟨fb, foff + f, none⟩ = some (.int .i64 (m0 : Int)) := by
    rw [World.cell?_alloc_lt, World.cell?_alloc_lt, World.cell?_alloc_lt]
    · exact hcf
    all_goals (simp; try omega)
  go_enter Try.func31, Try.ntmps31
  go_wp2_with fail
  clear ecf hcf
  have hk0 : m0 < 64 := by omega
  go_loopg [7] (64 - m0) (fun k v wr => ∃ ll : Nat, Hid (∃ (lp : List Nat) (met : Nat), lp.length = ll ∧ LpOk g f lp met ∧ k + met = 64 ∧ ll ≤ 1 + met * 20000 ∧ LoopW w wr w.heap.size so no (some ⟨fb, foff, none⟩) sc nc bc n gi gm f met v lp))
  case atStart => exact ⟨1, [f], m0, rfl, HL0.out, by omega, by omega, H0'.out⟩
  case round =>
    obtain ⟨ll, HR⟩ := hrel
    obtain ⟨lp, met, hll, hlo, hkm, hlb, hW⟩ := HR.out
    obtain ⟨vo, vc, rfl⟩ := owns_slice hW.ow
    rw [hll] at hW ⊢
    have hmlt : met < 2 ^ mN g := hlo.lt HOK.out
    have hlb2 : ll ≤ 1260001 := by omega
    have hllpos : 0 < ll := by
      have := hlo.ne
      cases lp with
      | nil => exact absurd rfl this
      | cons a l => simp at hll; omega
    obtain ⟨gx, cx, hvv, hg1, hg2⟩ := (hll ▸ hW.ow : wr.ownsRow (w.heap.size + 2) 3 1 (.slice vo ll vc) ll (nvals lp)).form hllpos
    injection hvv with e1 e2 e3
    subst e1 e3
    obtain ⟨l1, hl1⟩ : ∃ l1, ll = l1 + 1 := ⟨ll - 1, by omega⟩
    obtain ⟨_, _, hcl⟩ := owns_cells (l := lp) (by rw [hll]; exact hll ▸ hW.ow)
    have hx1 := hlo.mem _ (last_mem hlo.ne)
    have hel := hcl (lp.length - 1) (by omega)
    obtain ⟨x, hx⟩ : ∃ x, x = lp.getD (lp.length - 1) 0 := ⟨_, rfl⟩
    rw [← hx] at hel hx1
    have hxn : x < n := by rw [HNN.out]; exact hx1.2
    have hel' : wr.cell? ⟨gx, l1, none⟩ = some (.int .i64 (x : Int)) := by rw [← hel]; congr 2; omega
    have HX : Hid (x = lp.getD (lp.length - 1) 0) := hx
    have HLo : Hid (LpOk g f lp met) := hlo
    have HLW : Hid (LoopW w wr w.heap.size so no (some ⟨fb, foff, none⟩) sc nc bc n gi gm f met (.slice (some ⟨gx, 0, none⟩) ll vc) lp) := hW
    have HLL : Hid (lp.length = ll) := hll
    have HKM : Hid (gk + met = 64) := hkm
    obtain ⟨nb, noff, rfl, hnb, uo, uc, hcu, hnv⟩ := HRow.out x hxn
    have HNv : Hid (NatsV w (.slice uo (nxt g x).length uc) (nxt g x)) := hnv
    have hxl := HXL.out x hxn
    have hszr := hW.size
    have HS : Hid (∀ w', Below wr.heap.size wr w' → LoopW w w' w.heap.size so (some ⟨nb, noff, none⟩) (some ⟨fb, foff, none⟩) sc nc bc n gi gm f met (.slice (some ⟨gx, 0, none⟩) ll vc) lp ∧ w'.cell? ⟨gx, l1, none⟩ = some (.int .i64 (x : Int)) ∧ w'.cell? ⟨nb, noff + x, none⟩ = some (.slice uo (nxt g x).length uc)) := fun w' hb => by
      have h1 := HLW.out.later hb
      exact ⟨h1, (hb.cell (p := ⟨gx, l1, none⟩) hg2).trans hel', (h1.below.cell (p := ⟨nb, noff + x, none⟩) hnb).trans hcu⟩
    have hS : ∀ w', Below wr.heap.size wr w' → w'.cell? ⟨w.heap.size, 0, none⟩ = some (.slice so n sc) ∧ w'.cell? ⟨w.heap.size, 1, none⟩ = some (.int .i64 gi) ∧ w'.cell? ⟨w.heap.size, 2, none⟩ = some (.slice (some ⟨nb, noff, none⟩) n nc) ∧ w'.cell? ⟨w.heap.size, 3, none⟩ = some (.slice (some ⟨fb, foff, none⟩) n bc) ∧ w'.cell? ⟨w.heap.size, 4, none⟩ = some (.int .i64 gm) ∧ w'.cell? ⟨w.heap.size + 1 + 1 + 1, 0, none⟩ = some (.int .i64 (met : Int)) ∧ w'.cell? ⟨gx, l1, none⟩ = some (.int .i64 (x : Int)) ∧ w'.cell? ⟨nb, noff + x, none⟩ = some (.slice uo (nxt g x).length uc) := fun w' hb => by
      obtain ⟨h1, h2, h3⟩ := HS.out w' hb
      exact ⟨h1.c0, h1.c1, h1.c2, h1.c3, h1.c4, h1.cm, h2, h3⟩
    obtain ⟨ln, hln⟩ : ∃ ln, ln = (nxt g x).length := ⟨_, rfl⟩
    have HLN : Hid (ln = (nxt g x).length) := hln
    rw [← hln] at hS hxl
    have hal := HAll.out wr.drew
    obtain ⟨tp, htp⟩ : ∃ tp, tp = 2 ^ mN g - 1 := ⟨_, rfl⟩
    have HTP : Hid (tp = 2 ^ mN g - 1) := htp
    rw [← htp] at hal
    have hmf : ∀ (fn : Fn) (first cap : Array Value) (w : World), (Instr.makeFunc fn first cap).run Try.prog w = .ok (.func fn first cap) w := fun _ _ _ _ => rfl
    clear hcu hnv hel hel' hcl hx hlo hW hll hkm HR hln htp hx1
    subst hl1
    have j2 : (l1 : Int) + 1 - 1 = (l1 : Int) := by omega
    have j8 : IntKind.i64.wrap (l1 : Int) = (l1 : Int) := by rw [IntKind.wrap_i64]; omega
    have j6 : IntKind.i64.wrap ((l1 : Int) + 1 - 1) = (l1 : Int) := by rw [j2]; exact j8
    have k1 : ((l1 + 1 : Nat) : Int) - 1 = (l1 : Int) := by omega
    have k2 : IntKind.i64.wrap (((l1 + 1 : Nat) : Int) - 1) = (l1 : Int) := by rw [k1]; exact j8
    have k4 : (l1 : Int) < ((l1 + 1 : Nat) : Int) := by omega
    have hli1 : (0 : Int) ≤ (l1 : Int) := by omega
    have hli2 : (l1 : Int) < (l1 : Int) + 1 := by omega
    by_cases hmt : met = tp
    · subst hmt
      go_wp2_with fail
      go_region_held3 (fun w' => w'.cell? ⟨w.heap.size, 0, none⟩ = some (.slice so n sc) ∧ w'.cell? ⟨w.heap.size, 1, none⟩ = some (.int .i64 gi) ∧ w'.cell? ⟨w.heap.size, 2, none⟩ = some (.slice (some ⟨nb, noff, none⟩) n nc) ∧ w'.cell? ⟨w.heap.size, 3, none⟩ = some (.slice (some ⟨fb, foff, none⟩) n bc) ∧ w'.cell? ⟨w.heap.size, 4, none⟩ = some (.int .i64 gm) ∧ w'.cell? ⟨w.heap.size + 1 + 1 + 1, 0, none⟩ = some (.int .i64 (met : Int)) ∧ w'.cell? ⟨gx, l1, none⟩ = some (.int .i64 (x : Int)) ∧ w'.cell? ⟨nb, noff + x, none⟩ = some (.slice uo ln uc))
        (exact hS _ (by first | exact (Below.refl _ _).drew | exact Below.refl _ _ | exact undrewB hb2))
        ((go_at_call 34; refine hal.mono ?_; rintro e w2 ⟨rfl, hb2⟩))
      have hb2' := undrewB hb2
      obtain ⟨hW2, _, _⟩ := HS.out w2 hb2'
      have hbw2 := hW2.below
      have hsz2 := hW2.size
      have HB2 : Hid (Below wr.heap.size wr w2.drew) := hb2'.drew

      have hno : ¬ NoWay ins (fun p => decide (p = f)) (nxt g) (nxt g x) := by
        have := HLo.out.home HOK.out (by rw [← HNN.out]; exact hf) HF.out HIn.out (want := fun p => decide (p = f)) (fun _ _ => rfl)
        rw [← HX.out] at this
        exact this
      have hway := HWay.out w2.drew uo uc x _ _ _ hbw2.drew hxn (HNv.out.below hbw2.drew) (home_fn w2.drew w.heap.size n f hsz2 hW2.cf) hno
      rw [← HLN.out] at hway
      clear hno hal hb2 hb2' HAll HWay hW2
      go_wp2_with fail
      go_region_held3 (fun w' => w'.cell? ⟨w.heap.size, 0, none⟩ = some (.slice so n sc) ∧ w'.cell? ⟨w.heap.size, 1, none⟩ = some (.int .i64 gi) ∧ w'.cell? ⟨w.heap.size, 2, none⟩ = some (.slice (some ⟨nb, noff, none⟩) n nc) ∧ w'.cell? ⟨w.heap.size, 3, none⟩ = some (.slice (some ⟨fb, foff, none⟩) n bc) ∧ w'.cell? ⟨w.heap.size, 4, none⟩ = some (.int .i64 gm) ∧ w'.cell? ⟨w.heap.size + 1 + 1 + 1, 0, none⟩ = some (.int .i64 (met : Int)) ∧ w'.cell? ⟨gx, l1, none⟩ = some (.int .i64 (x : Int)) ∧ w'.cell? ⟨nb, noff + x, none⟩ = some (.slice uo ln uc))
        (exact hS _ (by first | exact HB2.out | exact HB2.out.trans (hb3.mono HB2.out.size)))
        ((go_at_call 27; refine hway.mono ?_; rintro e w3 ⟨vo3, vc3, q3, rfl, hb3, HM⟩))
      obtain ⟨l, hlq, hwo, hro3⟩ := HM.out
      have hq3 : 0 < q3 := by
        have := hwo.ne
        cases l with
        | nil => exact absurd rfl this
        | cons a l => simp at hlq; omega
      have hq20 : q3 ≤ 20000 := by have := hwo.len; omega
      obtain ⟨g3, c3, hvv3, hg31, hg32⟩ := hro3.form hq3
      injection hvv3 with e1 e2 e3
      subst e1 e3
      obtain ⟨q, rfl⟩ : ∃ q, q3 = q + 1 := ⟨q3 - 1, by omega⟩
      have hb23 : Below wr.heap.size wr w3 := HB2.out.trans (hb3.mono HB2.out.size)
      have hW3 := HLW.out.later hb23
      have how3 : w3.ownsRow (w.heap.size + 2) 3 1 (.slice (some ⟨gx, 0, none⟩) (l1 + 1) vc) (l1 + 1) (nvals lp) := by
        have := hW3.ow
        rw [HLL.out] at this
        exact this
      obtain ⟨hqc, _, hcl3⟩ := owns_cells (l := l) (by rw [hlq]; exact hro3)
      have HLoop : Hid (LoopOk g f (lp ++ l.take (l.length - 1))) := HLo.out.close HOK.out HTP.out (by rw [← HX.out]; rw [← HNN.out]; exact hwo) (fun _ _ => rfl)
      have hnews : ∀ j u, (nvals (l.take q))[j]? = some u → w3.cell? ((⟨g3, 0, none⟩ : Addr).add j) = some u := own_news hcl3 (by omega)
      have hone : ∀ u ∈ nvals (l.take q), u.oneCell' = true := fun u hu => by
        obtain ⟨y, _, rfl⟩ := List.mem_map.1 hu
        rfl
      have hlen : (nvals (l.take q)).length = q * 1 := by simp [nvals]; omega
      have h63 : l1 + 1 + q ≤ maxLen := by unfold maxLen; omega
      have hkb : (l1 + 1 + q) * 8 ≤ 140737488355328 := by omega
      have hbase : w.heap.size + 2 ≤ w3.heap.size := by have := hW3.size; omega
      have hlt3 := how3.lt
      have hbw3 := hW3.below
      have hlq' : l.length - 1 = q := by omega
      rw [hlq'] at HLoop
      have HLlen : Hid ((lp ++ l.take q).length = l1 + 1 + q) := by show _ = _; rw [List.length_append, HLL.out, List.length_take]; omega
      have hqc2 : q + 1 ≤ vc3 := by omega
      clear hW3 hcl3 hro3 hwo HM hway hlq hlq' hmf hS
      go_wp2_with (at_builtin; refine wpList_append_own _ rfl (.tmp 69) (.tmp 74) 24 rfl (w.heap.size + 2) 3 i0 (.int .i64 0) 1 8 Try.underlying24 hi0 hz0 hz1 hz2 rfl (by decide) (.slice (some ⟨gx, 0, none⟩) (l1 + 1) vc) (l1 + 1) _ rfl how3 ⟨g3, 0, none⟩ q vc3 (nvals (l.take q)) rfl hlen hnews hone h63 hkb hbase ?_; intro v' w5 hown' hgrow _; obtain ⟨vo5, vc5, rfl⟩ := owns_slice hown')
      go_ret
      refine ⟨_, _, _, rfl, hbw3.grown hgrow hbw3.size (fun z hz => by have := (hlt3 z hz).1; omega), lp ++ l.take q, HLlen.out, by omega, HLoop.out, ?_⟩
      rw [nvals, List.map_append]
      exact owns_mono hown' (by omega)
    · have hmt2 : ¬ (met : Int) = (tp : Int) := by omega
      go_wp2_with fail
      go_region_held3 (fun w' => w'.cell? ⟨w.heap.size, 0, none⟩ = some (.slice so n sc) ∧ w'.cell? ⟨w.heap.size, 1, none⟩ = some (.int .i64 gi) ∧ w'.cell? ⟨w.heap.size, 2, none⟩ = some (.slice (some ⟨nb, noff, none⟩) n nc) ∧ w'.cell? ⟨w.heap.size, 3, none⟩ = some (.slice (some ⟨fb, foff, none⟩) n bc) ∧ w'.cell? ⟨w.heap.size, 4, none⟩ = some (.int .i64 gm) ∧ w'.cell? ⟨w.heap.size + 1 + 1 + 1, 0, none⟩ = some (.int .i64 (met : Int)) ∧ w'.cell? ⟨gx, l1, none⟩ = some (.int .i64 (x : Int)) ∧ w'.cell? ⟨nb, noff + x, none⟩ = some (.slice uo ln uc))
        (exact hS _ (by first | exact (Below.refl _ _).drew | exact Below.refl _ _ | exact undrewB hb2))
        ((go_at_call 34; refine hal.mono ?_; rintro e w2 ⟨rfl, hb2⟩))
      have hb2' := undrewB hb2
      obtain ⟨hW2, _, _⟩ := HS.out w2 hb2'
      have hbw2 := hW2.below
      have hsz2 := hW2.size
      have HB2 : Hid (Below wr.heap.size wr w2.drew) := hb2'.drew

      have hno : ¬ NoWay ins (fun p => decide (met ||| sN g p ≠ met)) (nxt g) (nxt g x) := by
        have := HLo.out.more HOK.out (by rw [← HNN.out]; exact hf) HF.out HIn.out (by rw [← HTP.out]; exact hmt) (want := fun p => decide (met ||| sN g p ≠ met)) (fun _ _ => rfl)
        rw [← HX.out] at this
        exact this
      have hway := HWay.out w2.drew uo uc x _ _ _ hbw2.drew hxn (HNv.out.below hbw2.drew) (newSet_fn w2.drew w.heap.size (some ⟨fb, foff, none⟩) bc n met g HOK.out HNN.out hsz2 hW2.c3 hW2.cm (by omega) (HSet.out w2.drew hbw2.drew)) hno
      rw [← HLN.out] at hway
      clear hno hal hb2 hb2' HAll HWay hW2
      go_wp2_with fail
      go_region_held3 (fun w' => w'.cell? ⟨w.heap.size, 0, none⟩ = some (.slice so n sc) ∧ w'.cell? ⟨w.heap.size, 1, none⟩ = some (.int .i64 gi) ∧ w'.cell? ⟨w.heap.size, 2, none⟩ = some (.slice (some ⟨nb, noff, none⟩) n nc) ∧ w'.cell? ⟨w.heap.size, 3, none⟩ = some (.slice (some ⟨fb, foff, none⟩) n bc) ∧ w'.cell? ⟨w.heap.size, 4, none⟩ = some (.int .i64 gm) ∧ w'.cell? ⟨w.heap.size + 1 + 1 + 1, 0, none⟩ = some (.int .i64 (met : Int)) ∧ w'.cell? ⟨gx, l1, none⟩ = some (.int .i64 (x : Int)) ∧ w'.cell? ⟨nb, noff + x, none⟩ = some (.slice uo ln uc))
        (exact hS _ (by first | exact HB2.out | exact HB2.out.trans (hb3.mono HB2.out.size)))
        ((go_at_call 27; refine hway.mono ?_; rintro e w3 ⟨vo3, vc3, q3, rfl, hb3, HM⟩))
      obtain ⟨l, hlq, hwo, hro3⟩ := HM.out
      have hq3 : 0 < q3 := by
        have := hwo.ne
        cases l with
        | nil => exact absurd rfl this
        | cons a l => simp at hlq; omega
      have hq20 : q3 ≤ 20000 := by have := hwo.len; omega
      obtain ⟨g3, c3, hvv3, hg31, hg32⟩ := hro3.form hq3
      injection hvv3 with e1 e2 e3
      subst e1 e3
      have hg31' : w2.heap.size ≤ g3 := hg31
      have hb23 : Below wr.heap.size wr w3 := HB2.out.trans (hb3.mono HB2.out.size)
      have HW3 : Hid (LoopW w w3 w.heap.size so (some ⟨nb, noff, none⟩) (some ⟨fb, foff, none⟩) sc nc bc n gi gm f (orL (sN g) met (l.take 0)) (.slice (some ⟨gx, 0, none⟩) (l1 + 1) vc) lp) := HLW.out.later hb23
      have HRo : Hid (w3.ownsRow w2.heap.size 3 1 (.slice (some ⟨g3, 0, none⟩) q3 vc3) q3 (nvals l)) := hro3
      obtain ⟨HPut, hgrowm⟩ := HLo.out.put HIn.out (want := fun p => decide (met ||| sN g p ≠ met)) (l := l) (by rw [← HX.out, ← HNN.out]; exact hwo) (fun _ _ => rfl)
      have HPu : Hid (LpOk g f (lp ++ l) (orL (sN g) met l)) := HPut
      have HLin : Hid (∀ j, j < q3 → l.getD j 0 < n) := fun j hj => (hwo.ins _ (by rw [List.getD_eq_getElem?_getD, List.getElem?_eq_getElem (by omega)]; exact List.getElem_mem _)).2
      have HML : Hid (∀ q, orL (sN g) met (l.take q) < 2 ^ mN g) := fun q => orL_lt _ _ hmlt (fun y hy => HSN.out y (hwo.ins y (List.mem_of_mem_take hy)).2)
      have HMS : Hid (∀ q, q < q3 → orL (sN g) met (l.take (q + 1)) = orL (sN g) met (l.take q) ||| sN g (l.getD q 0)) := fun q hq => by
        rw [List.take_succ_eq_append_getElem (by omega), orL_snoc, List.getD_eq_getElem?_getD, List.getElem?_eq_getElem (by omega)]; rfl
      have HLq : Hid (l.length = q3) := hlq
      clear hway HM hro3 hwo HPut hlq HB2 hS
      go_wp2_with fail
      generalize wr = wo at *
      go_loopw [40] (fun i wr => ∃ q : Nat, q ≤ q3 ∧ i = .int .i64 q ∧ Hid (LoopW w wr w.heap.size so (some ⟨nb, noff, none⟩) (some ⟨fb, foff, none⟩) sc nc bc n gi gm f (orL (sN g) met (l.take q)) (.slice (some ⟨gx, 0, none⟩) (l1 + 1) vc) lp ∧ wr.ownsRow w2.heap.size 3 1 (.slice (some ⟨g3, 0, none⟩) q3 vc3) q3 (nvals l))) (fun i _ => q3 - (intOf i).toNat)
      case atStart => exact ⟨0, Nat.zero_le _, rfl, HW3.out, HRo.out⟩
      case round =>
        obtain ⟨q, hq, rfl, HQ⟩ := hrel
        obtain ⟨hLWq, hroq⟩ := HQ.out
        obtain ⟨_, _, hclq⟩ := owns_cells (l := l) (by rw [HLq.out]; exact hroq)
        by_cases hlq : q < q3
        · have e1 := hclq q (by rw [HLq.out]; exact hlq)
          have hyn := HLin.out q hlq
          obtain ⟨sb, soff, hsbe, hsb, e2⟩ := HSet.out wr hLWq.below (l.getD q 0) hyn
          injection hsbe with hsbe
          injection hsbe with hs1 hs2
          subst hs1 hs2
          have e3 := hLWq.c3
          have e4 : wr.cell? ⟨w.heap.size + 1 + 1 + 1, 0, none⟩ = some (.int .i64 (orL (sN g) met (l.take q) : Int)) := hLWq.cm
          have e5 : wr.frozen? ⟨w.heap.size + 1 + 1 + 1, 0, none⟩ = false := hLWq.fm
          have hor := HOr.out (orL (sN g) met (l.take q)) (HML.out q) (l.getD q 0) hyn
          rw [← HMS.out q hlq] at hor
          have HN : Hid (LoopW w (wr.setCell ⟨w.heap.size + 1 + 1 + 1, 0, none⟩ (.int .i64 (orL (sN g) met (l.take (q + 1)) : Int))).drew w.heap.size so (some ⟨nb, noff, none⟩) (some ⟨fb, foff, none⟩) sc nc bc n gi gm f (orL (sN g) met (l.take (q + 1))) (.slice (some ⟨gx, 0, none⟩) (l1 + 1) vc) lp ∧ (wr.setCell ⟨w.heap.size + 1 + 1 + 1, 0, none⟩ (.int .i64 (orL (sN g) met (l.take (q + 1)) : Int))).drew.ownsRow w2.heap.size 3 1 (.slice (some ⟨g3, 0, none⟩) q3 vc3) q3 (nvals l)) := by
            have h9 := hLWq.setMet (orL (sN g) met (l.take (q + 1)))
            have h10 : LoopW w (wr.setCell ⟨w.heap.size + 1 + 1 + 1, 0, none⟩ (.int .i64 (orL (sN g) met (l.take (q + 1)) : Int))).drew w.heap.size so (some ⟨nb, noff, none⟩) (some ⟨fb, foff, none⟩) sc nc bc n gi gm f (orL (sN g) met (l.take (q + 1))) (.slice (some ⟨gx, 0, none⟩) (l1 + 1) vc) lp := h9.blocks h9.below.drew (Nat.le_refl _) rfl rfl rfl h9.ow h9.ap
            exact ⟨h10, ownsRow_setCell_below hroq (by show w.heap.size + 3 < _; omega) _⟩
          rw [← hor] at HN
          clear hLWq hroq hclq HQ hor
          generalize orL (sN g) met (l.take q) = mq at *
          generalize l.getD q 0 = y at *
          generalize sN g y = sy at *
          go_upto_region 8 with fail
          go_region
          go_wp2_with fail
          go_roundw
          case rel => exact ⟨q + 1, hlq, by go_num, HN⟩
          case measure => simp [intOf]; omega
        · obtain rfl : q = q3 := by omega
          have hTk : l.take q = l := by rw [← HLq.out]; exact List.take_length
          have hnews : ∀ j u, (nvals l)[j]? = some u → wr.cell? ((⟨g3, 0, none⟩ : Addr).add j) = some u := by
            have := own_news hclq (Nat.le_refl l.length)
            rw [List.take_length] at this
            exact this
          rw [hTk] at hLWq
          have hone : ∀ u ∈ nvals l, u.oneCell' = true := fun u hu => by
            obtain ⟨y, _, rfl⟩ := List.mem_map.1 hu
            rfl
          have hlen : (nvals l).length = q * 1 := by simp [nvals]; exact HLq.out
          have h63 : l1 + 1 + q ≤ maxLen := by unfold maxLen; omega
          have hkb : (l1 + 1 + q) * 8 ≤ 140737488355328 := by omega
          have hszq := hLWq.size
          have hbase : w.heap.size + 2 ≤ wr.heap.size := by omega
          have howq : wr.ownsRow (w.heap.size + 2) 3 1 (.slice (some ⟨gx, 0, none⟩) (l1 + 1) vc) (l1 + 1) (nvals lp) := by
            have := hLWq.ow
            rw [HLL.out] at this
            exact this
          have HLWq : Hid (LoopW w wr w.heap.size so (some ⟨nb, noff, none⟩) (some ⟨fb, foff, none⟩) sc nc bc n gi gm f (orL (sN g) met l) (.slice (some ⟨gx, 0, none⟩) (l1 + 1) vc) lp) := hLWq
          have HG : Hid (met < orL (sN g) met l ∧ orL (sN g) met l < 64) := ⟨hgrowm, by have := HML.out q; rw [hTk] at this; omega⟩
          clear hLWq hroq hclq HQ
          go_wp2_with (at_builtin; refine wpList_append_lies _ rfl (.tmp 52) (.tmp 53) 24 rfl (w.heap.size + 2) 3 i0 (.int .i64 0) 1 8 Try.underlying24 hi0 hz0 hz1 hz2 rfl (by decide) (.slice (some ⟨gx, 0, none⟩) (l1 + 1) vc) (l1 + 1) _ rfl howq ⟨g3, 0, none⟩ q vc3 (nvals l) rfl hlen hnews hone hq3 h63 hkb hbase _ rfl ?_; intro g5 c5 w5 hown5 hgrow5 hor5 _)
          have hap := HLWq.out.ap
          have hlt9 := howq.lt
          have hgx2 : w.heap.size + 2 ≤ gx ∧ gx < wr.heap.size := hlt9 gx rfl
          have hgx3 : gx ≠ w.heap.size + 3 := fun e => hap (by rw [e]; rfl)
          have hW5 : LoopW w w5 w.heap.size so (some ⟨nb, noff, none⟩) (some ⟨fb, foff, none⟩) sc nc bc n gi gm f (orL (sN g) met l) (.slice (some ⟨g5, 0, none⟩) (l1 + 1 + q) c5) (lp ++ l) := by
            have hbl : ∀ i, i < wr.heap.size → i ≠ gx → w5.heap[i]? = wr.heap[i]? := fun i hi hne => hgrow5.block i hi (fun e => hne (by injection e))
            refine HLWq.out.blocks (HLWq.out.below.grown hgrow5 (by omega) (fun z hz => by have := (hlt9 z hz).1; omega)) hgrow5.size (hbl _ (by omega) (by omega)) (hbl _ (by omega) (by omega)) (hbl _ (by omega) (fun e => hgx3 e.symm)) ?_ ?_
            · rw [List.length_append, HLL.out, HLq.out, nvals, List.map_append]; exact hown5
            · intro e
              have e' : g5 = w.heap.size + 3 := by injection e
              rcases hor5 with h | h
              · rw [e'] at h; exact hap h
              · omega
          have HN : Hid (∃ (lp : List Nat) (met : Nat), lp.length = l1 + 1 + q ∧ LpOk g f lp met ∧ (64 - orL (sN g) (64 - gk) l) + met = 64 ∧ l1 + 1 + q ≤ 1 + met * 20000 ∧ LoopW w w5 w.heap.size so (some ⟨nb, noff, none⟩) (some ⟨fb, foff, none⟩) sc nc bc n gi gm f met (.slice (some ⟨g5, 0, none⟩) (l1 + 1 + q) c5) lp) := by
            have h1 := HG.out
            have h2 : 64 - gk = met := by have := HKM.out; omega
            refine ⟨lp ++ l, orL (sN g) met l, by rw [List.length_append, HLL.out, HLq.out], HPu.out, by rw [h2]; omega, by omega, hW5⟩
          go_roundg (64 - orL (sN g) (64 - gk) l)
          case measure =>
            have h1 := HG.out
            have h2 : 64 - gk = met := by have := HKM.out; omega
            rw [h2]
            have := HKM.out
            omega
          case rel => exact ⟨l1 + 1 + q, HN⟩
end Go.Proofs.Ytknneajaklcjdaa
