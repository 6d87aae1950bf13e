/-
  The contract of scc.Lasso.
-/
import Derived.Test.YtknneajaklcjdaaSLoop
namespace Go.Proofs.Ytknneajaklcjdaa
open Go.ChangeShapes Go.WideShapes Go.ChangeAt Go.RowKit Go.Deep
open Terms

/-- A LASSO OF A GRAPH. -/
structure LassoOk (g : Gr) (st lp : List Nat) : Prop where
  ne : lp ≠ []
  trail : Trail (nxt g) (st ++ lp ++ [lp.getD 0 0])
  head : ((st ++ lp).getD 0 0 : Int) < g.init
  lt : ∀ x ∈ st ++ lp, x < g.spots.length
  bits : ∀ i, i < mN g → ∃ x ∈ lp, (sN g x).testBit i = true
theorem Trail.way {nx : Nat → List Nat} : ∀ {l : List Nat}, Trail nx l → l ≠ [] → Way nx (l.getD 0 0) (l.getD (l.length - 1) 0)
  | [], _, h => absurd rfl h
  | [_], _, _ => .stay
  | a :: b :: l, h, _ => by
    have h1 := Trail.way (l := b :: l) h.2 (by simp)
    have h2 : Way nx a b := Way.one h.1
    have h3 := h2.trans h1
    simpa using h3
theorem Trail.join {nx : Nat → List Nat} {f : Nat} {r : List Nat} : ∀ {a : List Nat}, Trail nx (a ++ [f]) → Trail nx (f :: r) → Trail nx (a ++ f :: r)
  | [], _, h => h
  | [_], h1, h => ⟨h1.1, h⟩
  | _ :: y :: a, h1, h => ⟨h1.1, Trail.join (a := y :: a) h1.2 h⟩
theorem fair_some {g : Gr} {x : Nat} (hx : x < g.spots.length) (h : ReachX g x ∧ FairX g x) : fairC g = 0 := by
  classical
  unfold fairC
  rw [if_pos]
  unfold fairR
  rw [List.find?_isSome]
  exact ⟨x, List.mem_range.2 hx, decide_eq_true h⟩
theorem filter_all (nx : Nat → List Nat) : (fun i => (nx i).filter (fun _ => true)) = nx := by
  funext i
  simp
open Classical in
theorem noWay_none {g : Gr} (h : NoWay (fun _ => true) (fun x => decide (FairX g x)) (nxt g) (List.range g.init.toNat)) : fairV g = 0 ∧ fairC g = 11 := by
  refine fair_none fun j _ ⟨⟨f, hf, hw⟩, h2⟩ => ?_
  have := h f hf rfl j (by rw [filter_all]; exact hw)
  exact absurd h2 (of_decide_eq_false this)
theorem take_last {l : List Nat} (h : l ≠ []) : l.take (l.length - 1) ++ [l.getD (l.length - 1) 0] = l := by
  have hpos : 0 < l.length := by
    cases l with
    | nil => exact absurd rfl h
    | cons a l => simp
  have h3 : l = l.take (l.length - 1 + 1) := by rw [List.take_of_length_le (by omega)]
  conv => rhs; rw [h3, List.take_succ_eq_append_getElem (by omega)]
  rw [List.getD_eq_getElem?_getD, List.getElem?_eq_getElem (by omega)]; rfl
open Classical in
theorem lasso_ok {g : Gr} (hg : GOk g) {l lp : List Nat} (h : WayOk g.spots.length (fun _ => true) (fun x => decide (FairX g x)) (nxt g) (List.range g.init.toNat) l) (hl : LoopOk g (l.getD (l.length - 1) 0) lp) : LassoOk g (l.take (l.length - 1)) lp ∧ fairC g = 0 := by
  have hm := last_mem h.ne
  have hF : FairX g (l.getD (l.length - 1) 0) := of_decide_eq_true h.last
  have hR : ReachX g (l.getD (l.length - 1) 0) := ⟨_, h.head, h.trail.way h.ne⟩
  have htl := take_last h.ne
  generalize hf : l.getD (l.length - 1) 0 = f at *
  obtain ⟨r, rfl⟩ : ∃ r, lp = f :: r := by
    cases lp with
    | nil => exact absurd rfl hl.ne
    | cons a r => exact ⟨r, by have := hl.head; simp at this; rw [this]⟩
  have hini := hg.head.init0
  refine ⟨⟨by simp, ?_, ?_, fun x hx => ?_, hl.bits⟩, fair_some (h.ins f (by rw [← hf]; exact last_mem h.ne)).2 ⟨hR, hF⟩⟩
  · rw [List.append_assoc]
    show Trail (nxt g) (l.take (l.length - 1) ++ (f :: (r ++ [f])))
    exact Trail.join (by rw [htl]; exact h.trail) hl.trail
  · have e : (l.take (l.length - 1) ++ f :: r).getD 0 0 = l.getD 0 0 := by
      have h1 : ∀ a : List Nat, (a ++ f :: r).getD 0 0 = (a ++ [f]).getD 0 0 := fun a => by cases a <;> rfl
      rw [h1, htl]
    rw [e]
    have := List.mem_range.1 h.head
    omega
  · rcases List.mem_append.1 hx with hx | hx
    · exact (h.ins x (List.mem_of_mem_take hx)).2
    · exact hl.lt x hx

set_option maxHeartbeats 1600000 in
set_option maxRecDepth 20000 in
theorem fair_fn (w0 : World) (b B n : Nat) (F : Nat → Bool) (hb : b < w0.heap.size) (h : w0.cell? ⟨b, 0, none⟩ = some (.slice (some ⟨B, 0, none⟩) n n)) (hr : w0.rowIs B 4 n (fun x => .bool (F x))) :
    FnB w0 w0.heap.size n (.func (.func 30) #[] #[.pointer (some ⟨b, 0, none⟩)]) F := by
  refine ⟨_, _, rfl, fun args w => by simp [go_sem], fun w' hw p hp => ?_⟩
  show Calls Try.prog 30 #[.int .i64 (p : Int), .pointer (some ⟨b, 0, none⟩)] w' _
  have e1 := (hw.cell (p := ⟨b, 0, none⟩) hb).trans h
  have e2 := (row_later hr hw).cell hp
  clear hr h
  go_enter Try.func30, Try.ntmps30
  go_wp2_with fail
  go_ret
  exact ⟨rfl, Below.refl _ _⟩
set_option maxHeartbeats 1600000 in
set_option maxRecDepth 20000 in
theorem part_fn (w0 : World) (b b2 B n f : Nat) (pz : Nat → Nat) (hb : b < w0.heap.size) (hb2 : b2 < w0.heap.size) (hf : f < n) (h : w0.cell? ⟨b, 0, none⟩ = some (.slice (some ⟨B, 0, none⟩) n n)) (h2 : w0.cell? ⟨b2, 0, none⟩ = some (.int .i64 (f : Int))) (hr : w0.rowIs B 3 n (natRow pz)) :
    FnB w0 w0.heap.size n (.func (.func 32) #[] #[.pointer (some ⟨b, 0, none⟩), .pointer (some ⟨b2, 0, none⟩)]) (fun p => decide (pz p = pz f)) := by
  refine ⟨_, _, rfl, fun args w => by simp [go_sem], fun w' hw p hp => ?_⟩
  have e : decide (pz p = pz f) = ((pz p : Int) == (pz f : Int)) := by
    show _ = decide ((pz p : Int) = (pz f : Int))
    rw [decide_eq_decide]; omega
  show Calls Try.prog 32 #[.int .i64 (p : Int), .pointer (some ⟨b, 0, none⟩), .pointer (some ⟨b2, 0, none⟩)] w' fun e w2 => e = .returned (.bool (decide (pz p = pz f))) ∧ Below w'.heap.size w' w2
  rw [e]
  have e1 := (hw.cell (p := ⟨b, 0, none⟩) hb).trans h
  have e2 := (hw.cell (p := ⟨b2, 0, none⟩) hb2).trans h2
  have e3 : w'.cell? ⟨B, p, none⟩ = some (.int .i64 (pz p : Int)) := (row_later hr hw).cell hp
  have e4 : w'.cell? ⟨B, f, none⟩ = some (.int .i64 (pz f : Int)) := (row_later hr hw).cell hf
  clear hr h h2 e
  generalize pz p = x at *
  generalize pz f = y at *
  go_enter Try.func32, Try.ntmps32
  go_wp2_with fail
  go_quiet (fail)
  go_wp2_with fail
  go_ret
  exact ⟨rfl, below_drewN (Below.refl _ _) _⟩
/-- what Lasso hands back. -/
def LassoV (g : Gr) (w' : World) (v : Value) (c : Int) : Prop := (c = 11 ∧ fairC g = 11 ∧ v = .agg #[.slice none 0 0, .slice none 0 0]) ∨ (c = 0 ∧ fairC g = 0 ∧ ∃ so sc lo lc st lp, v = .agg #[.slice so st.length sc, .slice lo lp.length lc] ∧ st.length ≤ 20000 ∧ lp.length ≤ 2000000 ∧ LassoOk g st lp ∧ NatsV w' (.slice so st.length sc) st ∧ NatsV w' (.slice lo lp.length lc) lp)
theorem natsV_owns {w : World} {base : Nat} {v : Value} {l : List Nat} (h : w.ownsRow base 3 1 v l.length (nvals l)) : NatsV w v l := by
  rcases h.2 with ⟨e, h0⟩ | ⟨g, cap, cur, e, _⟩
  · exact ⟨none, 0, by rw [e, h0], fun hne => by cases l with | nil => exact absurd rfl hne | cons a l => simp at h0⟩
  · subst e
    obtain ⟨_, _, hc⟩ := owns_cells h
    obtain ⟨_, hlt⟩ := h.lt g rfl
    exact ⟨_, _, rfl, fun _ => ⟨g, 0, rfl, hlt, fun i hi => by rw [Nat.zero_add]; exact hc i hi⟩⟩
theorem natsV_take {w : World} {ao : Option Addr} {c : Nat} {l : List Nat} (h : NatsV w (.slice ao l.length c) l) {q : Nat} (hq : q ≤ l.length) : NatsV w (.slice ao (l.take q).length c) (l.take q) := by
  obtain ⟨ao', cap, e, h2⟩ := h
  injection e with e1 e2 e3
  subst e1 e3
  refine ⟨ao, c, rfl, fun hne => ?_⟩
  obtain ⟨b, off, e4, h4, h5⟩ := h2 (fun e => hne (by rw [e]; simp))
  refine ⟨b, off, e4, h4, fun i hi => ?_⟩
  have hi2 : i < q := by rw [List.length_take] at hi; omega
  rw [h5 i (by omega)]
  simp [List.getD_eq_getElem?_getD, hi2]

set_option maxHeartbeats 1600000 in
set_option maxRecDepth 20000 in
theorem slasso_bad (so no bo : Option Addr) (sc nc bc : Nat) (g : Gr) (w : World) (hz : GrLe g) (hV : GraphV w (.slice so g.spots.length sc) (.slice no g.next.length nc) (.slice bo g.sets.length bc) g) (hc : ¬ gcode g = 0) :
    Calls Try.prog 13 #[.agg #[.slice so g.spots.length sc, .int .i64 g.init, .slice no g.next.length nc, .slice bo g.sets.length bc, .int .i64 g.many]] w fun e w' => e = .returned (.tuple #[.agg #[.slice none 0 0, .slice none 0 0], .int .i64 9]) ∧ Below w.heap.size w w' := by
  obtain ⟨W0, hW0⟩ : ∃ W0, W0 = (w.alloc (.cells #[.slice so g.spots.length sc, .int .i64 g.init, .slice no g.next.length nc, .slice bo g.sets.length bc, .int .i64 g.many] 26)).alloc (.cells #[.slice none 0 0, .slice none 0 0] 37) := ⟨_, rfl⟩
  have hA : Below w.heap.size w W0 := by rw [hW0]; exact ((Below.refl _ _).alloc (Nat.le_refl _) _).alloc (by simp) _
  have hch := sparts_bad so no bo sc nc bc g W0 hz (hV.below hA) hc
  have hk : ∀ w1, Below W0.heap.size W0 w1 → w1.heap.size ≥ w.heap.size + 2 ∧ w1.cell? ⟨w.heap.size + 1, 0, none⟩ = some (.slice none 0 0) ∧ w1.cell? ⟨w.heap.size + 1, 1, none⟩ = some (.slice none 0 0) ∧ w1.frozen? ⟨w.heap.size + 1, 0, none⟩ = false ∧ w1.frozen? ⟨w.heap.size + 1, 1, none⟩ = false := fun w1 hb => by
    have hlt : w.heap.size + 1 < W0.heap.size := by rw [hW0]; simp
    have h0 := hb.size
    refine ⟨by omega, (hb.cell (p := ⟨w.heap.size + 1, 0, none⟩) hlt).trans ?_, (hb.cell (p := ⟨w.heap.size + 1, 1, none⟩) hlt).trans ?_, (hb.frozen (p := ⟨w.heap.size + 1, 0, none⟩) hlt).trans ?_, (hb.frozen (p := ⟨w.heap.size + 1, 1, none⟩) hlt).trans ?_⟩ <;> (rw [hW0]; simp [go_sem])
  clear hV hz hc
  generalize g.spots.length = sn at *
  generalize g.next.length = nn at *
  generalize g.sets.length = bn at *
  generalize g.init = gi at *
  generalize g.many = gm at *
  rw [hW0] at hch
  have HW0 : Hid (W0 = (w.alloc (.cells #[.slice so sn sc, .int .i64 gi, .slice no nn nc, .slice bo bn bc, .int .i64 gm] 26)).alloc (.cells #[.slice none 0 0, .slice none 0 0] 37)) := hW0
  clear hW0
  go_enter Try.func13, Try.ntmps13
  go_wp2_with (go_at_call 7; refine hch.mono ?_; rintro e w1 ⟨rfl, hb1⟩; rw [← HW0.out] at hb1; have k1 := (fun o => (hk (w1.alloc o) (hb1.alloc hb1.size o)).2.1); have k2 := (fun o => (hk (w1.alloc o) (hb1.alloc hb1.size o)).2.2.1); have k3 := (fun o => (hk (w1.alloc o) (hb1.alloc hb1.size o)).2.2.2.1); have k4 := (fun o => (hk (w1.alloc o) (hb1.alloc hb1.size o)).2.2.2.2); have hbw1 := (fun o => hA.trans ((hb1.alloc hb1.size o).mono hA.size)); clear hb1)
  refine bodyPost_ret (v := .tuple #[.agg #[.slice none 0 0, .slice none 0 0], .int .i64 9]) ?_ rfl ⟨rfl, ?_⟩
  · simp only [results, Try.results13]
    simp [go_sem, k1, k2]
  · exact ((hbw1 _).setCell (by show w.heap.size ≤ w.heap.size + 1; omega) _).setCell (by show w.heap.size ≤ w.heap.size + 1; omega) _

set_option maxHeartbeats 3200000 in
set_option maxRecDepth 20000 in
/-- THE CONTRACT OF Lasso. -/
theorem slasso_ok (so no bo : Option Addr) (sc nc bc : Nat) (g : Gr) (w : World) (hz : GrLe g) (hV : GraphV w (.slice so g.spots.length sc) (.slice no g.next.length nc) (.slice bo g.sets.length bc) g) (hc : gcode g = 0) :
    Calls Try.prog 13 #[.agg #[.slice so g.spots.length sc, .int .i64 g.init, .slice no g.next.length nc, .slice bo g.sets.length bc, .int .i64 g.many]] w fun e w' => ∃ v c, e = .returned (.tuple #[v, .int .i64 c]) ∧ Below w.heap.size w w' ∧ Hid (LassoV g w' v c) := by
  classical
  have hok := gcode_zero hc
  have hgn := hok.head.next
  have hgs := hok.head.sets
  have hn := hok.head.n
  obtain ⟨gi, hgi⟩ : ∃ gi : Nat, g.init = gi := ⟨g.init.toNat, by have := hok.head.init0; omega⟩
  have hgin : gi ≤ g.spots.length := by have := hok.head.init1; omega
  have hgt : g.init.toNat = gi := by omega
  obtain ⟨W0, hW0⟩ : ∃ W0, W0 = (w.alloc (.cells #[.slice so g.spots.length sc, .int .i64 (gi : Int), .slice no g.spots.length nc, .slice bo g.spots.length bc, .int .i64 g.many] 26)).alloc (.cells #[.slice none 0 0, .slice none 0 0] 37) := ⟨_, rfl⟩
  have hA : Below w.heap.size w W0 := by rw [hW0]; exact ((Below.refl _ _).alloc (Nat.le_refl _) _).alloc (by simp) _
  have hs0 : W0.heap.size = w.heap.size + 2 := by rw [hW0]; simp
  have HK : Hid (∀ w1, Below W0.heap.size W0 w1 → (w1.cell? ⟨w.heap.size, 0, none⟩ = some (.slice so g.spots.length sc) ∧ w1.cell? ⟨w.heap.size, 1, none⟩ = some (.int .i64 (gi : Int)) ∧ w1.cell? ⟨w.heap.size, 2, none⟩ = some (.slice no g.spots.length nc) ∧ w1.cell? ⟨w.heap.size, 3, none⟩ = some (.slice bo g.spots.length bc) ∧ w1.cell? ⟨w.heap.size, 4, none⟩ = some (.int .i64 g.many)) ∧ w1.cell? ⟨w.heap.size + 1, 0, none⟩ = some (.slice none 0 0) ∧ w1.cell? ⟨w.heap.size + 1, 1, none⟩ = some (.slice none 0 0) ∧ w1.frozen? ⟨w.heap.size + 1, 0, none⟩ = false ∧ w1.frozen? ⟨w.heap.size + 1, 1, none⟩ = false) := fun w1 hb => by
    have hlt : w.heap.size + 1 < W0.heap.size := by omega
    have hlt0 : w.heap.size < W0.heap.size := by omega
    have c : ∀ j, w1.cell? ⟨w.heap.size, j, none⟩ = W0.cell? ⟨w.heap.size, j, none⟩ := fun j => hb.cell (p := ⟨w.heap.size, j, none⟩) hlt0
    refine ⟨⟨(c _).trans ?_, (c _).trans ?_, (c _).trans ?_, (c _).trans ?_, (c _).trans ?_⟩, (hb.cell (p := ⟨w.heap.size + 1, 0, none⟩) hlt).trans ?_, (hb.cell (p := ⟨w.heap.size + 1, 1, none⟩) hlt).trans ?_, (hb.frozen (p := ⟨w.heap.size + 1, 0, none⟩) hlt).trans ?_, (hb.frozen (p := ⟨w.heap.size + 1, 1, none⟩) hlt).trans ?_⟩ <;> (rw [hW0]; simp [go_sem])
  have hVb : ∀ w1, Below W0.heap.size W0 w1 → GraphV w1 (.slice so g.spots.length sc) (.slice no g.next.length nc) (.slice bo g.sets.length bc) g := fun w1 hb => (hV.below hA).below hb
  have hpa := sparts_ok so no bo sc nc bc g W0 hz (hV.below hA) hc
  rw [hgn, hgs, hgi] at hpa
  have HFs : Hid (∀ (w1 : World) (B : Nat) pz, Below W0.heap.size W0 w1 → w1.rowIs B 3 g.spots.length (natRow pz) → PzOk g pz → Calls Try.prog 25 #[.agg #[.slice so g.spots.length sc, .int .i64 (gi : Int), .slice no g.spots.length nc, .slice bo g.spots.length bc, .int .i64 g.many], .slice (some ⟨B, 0, none⟩) g.spots.length g.spots.length] w1 fun e w' => ∃ Bf, e = .returned (.slice (some ⟨Bf, 0, none⟩) g.spots.length g.spots.length) ∧ Below w1.heap.size w1 w' ∧ Hid (w'.rowIs Bf 4 g.spots.length (fun x => .bool (decide (FairX g x))))) := fun w1 B pz hb h1 h3 => by
    have h := fairSpots_any so no bo sc nc bc B g pz w1 hz (hVb w1 hb) hok h1 (fun x hx => Nat.lt_of_le_of_lt (h3.le hx) hx)
    rw [hgn, hgs, hgi] at h
    exact h.mono fun e w' ⟨Bf, e1, e2, e3⟩ => ⟨Bf, e1, e2, e3.out.2.congr fun x hx => by rw [fairB_x hok h3 hx]⟩
  have HFi : Hid (∀ w1, Calls Try.prog 28 #[.agg #[.slice so g.spots.length sc, .int .i64 (gi : Int), .slice no g.spots.length nc, .slice bo g.spots.length bc, .int .i64 g.many]] w1 fun e w' => ∃ vo vc, e = .returned (.slice vo (List.range gi).length vc) ∧ Below w1.heap.size w1 w' ∧ NatsV w' (.slice vo (List.range gi).length vc) (List.range gi)) := fun w1 => firsts_any so no bo _ sc _ nc _ bc gi g.many w1 (by omega)
  have HWy : Hid (∀ w1 vo vc fw cw want, Below W0.heap.size W0 w1 → NatsV w1 (.slice vo (List.range gi).length vc) (List.range gi) → FnB w1 w1.heap.size g.spots.length (.func (.func fw) #[] cw) want → Calls Try.prog 27 #[.agg #[.slice so g.spots.length sc, .int .i64 (gi : Int), .slice no g.spots.length nc, .slice bo g.spots.length bc, .int .i64 g.many], .slice vo (List.range gi).length vc, .func (.func 29) #[] #[], .func (.func fw) #[] cw] w1 fun e w' => ∃ vo vc q, e = .returned (.slice vo q vc) ∧ Below w1.heap.size w1 w' ∧ Hid (∃ l, l.length = q ∧ WayPost g.spots.length (fun _ => true) want (nxt g) (List.range gi) l ∧ w'.ownsRow w1.heap.size 3 1 (.slice vo q vc) q (nvals l))) := fun w1 vo vc fw cw want hb hN hF => by
    have h := way_any so no bo vo sc nc bc vc g (List.range gi) 29 fw #[] cw (fun _ => true) want w1 hok (fun i hi => hz.rows i (by rw [hgn]; exact hi)) (hVb w1 hb) hN (by simp; omega) (fun x hx => by have := List.mem_range.1 hx; omega) (anywhere_fn _ _ _) hF
    rw [hgn, hgs, hgi] at h
    exact h
  have HLf : Hid (∀ w1 f fi ci ins, Below W0.heap.size W0 w1 → f < g.spots.length → FairX g f → InPart g f ins → FnB w1 w1.heap.size g.spots.length (.func (.func fi) #[] ci) ins → Calls Try.prog 31 #[.agg #[.slice so g.spots.length sc, .int .i64 (gi : Int), .slice no g.spots.length nc, .slice bo g.spots.length bc, .int .i64 g.many], .int .i64 (f : Int), .func (.func fi) #[] ci] w1 fun e w' => ∃ vo vc q, e = .returned (.slice vo q vc) ∧ Below w1.heap.size w1 w' ∧ Hid (∃ l, l.length = q ∧ q ≤ 2000000 ∧ LoopOk g f l ∧ w'.ownsRow w1.heap.size 3 1 (.slice vo q vc) q (nvals l))) := fun w1 f fi ci ins hb hf hF hI hFn => by
    have h := loopFrom_any so no bo sc nc bc g f fi ci ins w1 hz (hVb w1 hb) hok hf hF hI hFn
    rw [hgn, hgs, hgi] at h
    exact h
  have HPz : Hid (∀ pt, PartsOk g pt → ∃ pz, PzOk g pz ∧ ∀ (w1 : World) (B : Nat), w1.rowIs B 3 g.spots.length (intRow pt) → w1.rowIs B 3 g.spots.length (natRow pz)) := fun pt h => by
    obtain ⟨h3, h4⟩ := h.pz
    exact ⟨_, h3, fun w1 B h1 => h1.congr fun x hx => by unfold intRow natRow; rw [← h4 x hx]⟩
  have HNone : Hid (NoWay (fun _ => true) (fun x => decide (FairX g x)) (nxt g) (List.range gi) → fairC g = 11) := fun h => by
    rw [← hgt] at h
    exact (noWay_none h).2
  have HSome : Hid (∀ l lp, WayOk g.spots.length (fun _ => true) (fun x => decide (FairX g x)) (nxt g) (List.range gi) l → LoopOk g (l.getD (l.length - 1) 0) lp → LassoOk g (l.take (l.length - 1)) lp ∧ fairC g = 0) := fun l lp h h2 => by
    rw [← hgt] at h
    exact lasso_ok hok h h2
  have HIn : Hid (∀ pz f, PzOk g pz → f < g.spots.length → InPart g f (fun p => decide (pz p = pz f))) := fun pz f hp hf x hx => by
    rw [decide_eq_true_iff, hp.iff hx hf]
    exact ⟨Mut.symm, Mut.symm⟩
  have HPO : Hid (∀ pt, PartsOk g pt → PartsOk g pt) := fun _ h => h
  rw [hgn, hgs, hgi]
  clear hV hVb hz hc hok hgn hgs hgi hgt
  generalize hPO : PartsOk g = PO at *
  obtain ⟨lr, hlr⟩ : ∃ lr, lr = (List.range gi).length := ⟨_, rfl⟩
  have HLr : Hid (lr = (List.range gi).length) := hlr
  rw [← hlr] at HFi HWy
  clear hPO hlr
  obtain ⟨n, hnn⟩ : ∃ n, n = g.spots.length := ⟨_, rfl⟩
  rw [← hnn] at hW0 HK hpa HFs HFi HWy HLf HPz HSome HIn hn hgin ⊢
  generalize g.many = gm at *
  rw [hW0] at hpa
  have HW0 : Hid (W0 = (w.alloc (.cells #[.slice so n sc, .int .i64 (gi : Int), .slice no n nc, .slice bo n bc, .int .i64 gm] 26)).alloc (.cells #[.slice none 0 0, .slice none 0 0] 37)) := hW0
  clear hW0 hnn
  have hmf : ∀ (fn : Fn) (first cap : Array Value) (w : World), (Instr.makeFunc fn first cap).run Try.prog w = .ok (.func fn first cap) w := fun _ _ _ _ => rfl
  go_enter Try.func13, Try.ntmps13
  go_upto_region 4 with (go_at_call 7; refine hpa.mono ?_; rintro e w1 ⟨B, rfl, hb1, HP⟩; rw [← HW0.out] at hb1)
  obtain ⟨pt, hBl, hrow1, hpt⟩ := HP.out
  obtain ⟨pz, hpz, hconv⟩ := HPz.out pt hpt
  have hrow1 := hconv w1 B hrow1
  have hbx : Below W0.heap.size W0 (w1.alloc (.cells #[.slice (some ⟨B, 0, none⟩) n n] 24)) := hb1.alloc hb1.size _
  have hcb : (w1.alloc (.cells #[.slice (some ⟨B, 0, none⟩) n n] 24)).cell? ⟨w1.heap.size, 0, none⟩ = some (.slice (some ⟨B, 0, none⟩) n n) := by simp [go_sem]
  have hs1 : w1.heap.size < (w1.alloc (.cells #[.slice (some ⟨B, 0, none⟩) n n] 24)).heap.size := by simp
  have hrow2 : (w1.alloc (.cells #[.slice (some ⟨B, 0, none⟩) n n] 24)).rowIs B 3 n (natRow pz) := hrow1.alloc _
  generalize w1.alloc (.cells #[.slice (some ⟨B, 0, none⟩) n n] 24) = W2 at hbx hcb hs1 hrow2 ⊢
  have HPzO : Hid (PzOk g pz) := hpz
  have HRow2 : Hid (W2.rowIs B 3 n (natRow pz)) := hrow2
  have HBx : Hid (Below W0.heap.size W0 W2) := hbx
  have hfs := HFs.out W2 B pz hbx hrow2 hpz
  obtain ⟨⟨a0, a1, a2, a3, a4⟩, _⟩ := HK.out W2 hbx
  clear HP hb1 hrow1 hconv hpt hpa hrow2 hpz HFs HPz hBl
  go_upto_region 5 with (go_at_call 25; refine hfs.mono ?_; rintro e w3 ⟨Bf, rfl, hb3, HF3⟩)
  have hb23 : Below W0.heap.size W0 w3 := HBx.out.trans (hb3.mono HBx.out.size)
  have hb4 : Below W0.heap.size W0 (w3.alloc (.cells #[.slice (some ⟨Bf, 0, none⟩) n n] 45)) := hb23.alloc hb23.size _
  have hcf4 : (w3.alloc (.cells #[.slice (some ⟨Bf, 0, none⟩) n n] 45)).cell? ⟨w3.heap.size, 0, none⟩ = some (.slice (some ⟨Bf, 0, none⟩) n n) := by simp [go_sem]
  have hs4 : w3.heap.size < (w3.alloc (.cells #[.slice (some ⟨Bf, 0, none⟩) n n] 45)).heap.size := by simp
  have hF4 : (w3.alloc (.cells #[.slice (some ⟨Bf, 0, none⟩) n n] 45)).rowIs Bf 4 n (fun x => .bool (decide (FairX g x))) := HF3.out.alloc _
  have hcb4 : (w3.alloc (.cells #[.slice (some ⟨Bf, 0, none⟩) n n] 45)).cell? ⟨w1.heap.size, 0, none⟩ = some (.slice (some ⟨B, 0, none⟩) n n) := (((Below.refl w3.heap.size w3).alloc (Nat.le_refl _) _).cell (p := ⟨w1.heap.size, 0, none⟩) (Nat.lt_of_lt_of_le hs1 hb3.size)).trans ((hb3.cell (p := ⟨w1.heap.size, 0, none⟩) hs1).trans hcb)
  have hrB4 : (w3.alloc (.cells #[.slice (some ⟨Bf, 0, none⟩) n n] 45)).rowIs B 3 n (natRow pz) := (row_later HRow2.out hb3).alloc _
  have hs14 : w1.heap.size < (w3.alloc (.cells #[.slice (some ⟨Bf, 0, none⟩) n n] 45)).heap.size := by have := hb3.size; simp; omega
  generalize w3.alloc (.cells #[.slice (some ⟨Bf, 0, none⟩) n n] 45) = W4 at hb4 hcf4 hs4 hF4 hcb4 hrB4 hs14 ⊢
  have HB4 : Hid (Below W0.heap.size W0 W4) := hb4
  have HAt : Hid (∀ w', Below W4.heap.size W4 w' → w'.cell? ⟨w3.heap.size, 0, none⟩ = some (.slice (some ⟨Bf, 0, none⟩) n n) ∧ w3.heap.size < w'.heap.size ∧ w'.rowIs Bf 4 n (fun x => .bool (decide (FairX g x))) ∧ w'.cell? ⟨w1.heap.size, 0, none⟩ = some (.slice (some ⟨B, 0, none⟩) n n) ∧ w1.heap.size < w'.heap.size ∧ w'.rowIs B 3 n (natRow pz) ∧ Below W0.heap.size W0 w') := fun w' hb => ⟨(hb.cell (p := ⟨w3.heap.size, 0, none⟩) hs4).trans hcf4, Nat.lt_of_lt_of_le hs4 hb.size, row_later hF4 hb, (hb.cell (p := ⟨w1.heap.size, 0, none⟩) hs14).trans hcb4, Nat.lt_of_lt_of_le hs14 hb.size, row_later hrB4 hb, HB4.out.trans (hb.mono HB4.out.size)⟩
  have hS : ∀ w', Below W4.heap.size W4 w' → w'.cell? ⟨w.heap.size, 0, none⟩ = some (.slice so n sc) ∧ w'.cell? ⟨w.heap.size, 1, none⟩ = some (.int .i64 (gi : Int)) ∧ w'.cell? ⟨w.heap.size, 2, none⟩ = some (.slice no n nc) ∧ w'.cell? ⟨w.heap.size, 3, none⟩ = some (.slice bo n bc) ∧ w'.cell? ⟨w.heap.size, 4, none⟩ = some (.int .i64 gm) := fun w' hb => (HK.out w' (HAt.out w' hb).2.2.2.2.2.2).1
  have hfi := HFi.out W4.drew
  have HFn : Hid (∀ w', Below W4.heap.size W4 w' → FnB w' w'.heap.size n (.func (.func 30) #[] #[.pointer (some ⟨w3.heap.size, 0, none⟩)]) (fun x => decide (FairX g x))) := fun w' hb => by
    obtain ⟨h1, h2, h3, _⟩ := HAt.out w' hb
    exact fair_fn w' w3.heap.size Bf n _ h2 h1 h3
  clear hcf4 hF4 hcb4 hrB4 hb4 HF3 hfs hb3 hb23 hcb HBx HRow2 a0 a1 a2 a3 a4
  go_region_held3 (fun w' => w'.cell? ⟨w.heap.size, 0, none⟩ = some (.slice so n sc) ∧ w'.cell? ⟨w.heap.size, 1, none⟩ = some (.int .i64 (gi : Int)) ∧ w'.cell? ⟨w.heap.size, 2, none⟩ = some (.slice no n nc) ∧ w'.cell? ⟨w.heap.size, 3, none⟩ = some (.slice bo n bc) ∧ w'.cell? ⟨w.heap.size, 4, none⟩ = some (.int .i64 gm))
    (exact hS _ (by first | exact (Below.refl _ _).drew | exact Below.refl _ _ | exact hb5' | exact hb6'))
    (first | (go_at_call 28; refine hfi.mono ?_; rintro e w5 ⟨vo5, vc5, rfl, hb5, hN5⟩; have hb5' : Below W4.heap.size W4 w5 := undrewB hb5; have hwy := HWy.out w5 vo5 vc5 _ _ _ (HAt.out w5 hb5').2.2.2.2.2.2 (by rw [HLr.out] at hN5 ⊢; exact hN5) (HFn.out w5 hb5')) | (go_at_call 27; refine hwy.mono ?_; rintro e w6 ⟨vo6, vc6, q6, rfl, hb6, HM⟩; have hb6' : Below W4.heap.size W4 w6 := hb5'.trans (hb6.mono hb5'.size)))
  all_goals
    obtain ⟨l, hlq, hpost, hro6⟩ := HM.out
    obtain ⟨h1, h2, h3, h4, h5, h6, hbw6⟩ := HAt.out w6 hb6'
    obtain ⟨hk6, r0, r1, f0, f1⟩ := HK.out w6 hbw6
    have hbb6 : Below w.heap.size w w6 := hA.trans (hbw6.mono hA.size)
    rcases hpost with ⟨rfl, hno⟩ | hwo
    · have hq0 : q6 = 0 := by rw [← hlq]; rfl
      subst hq0
      have hC := HNone.out hno
      have HCC : Hid (fairC g = 11) := hC
      clear hno hC hlq hro6 HM hwy hfi HFn hS HAt HWy HFi HLf HSome HNone
      go_wp2_with fail
      refine bodyPost_ret (v := .tuple #[.agg #[.slice none 0 0, .slice none 0 0], .int .i64 11]) ?_ rfl ⟨_, _, rfl, ?_, .inl ⟨rfl, HCC.out, rfl⟩⟩
      · simp only [results, Try.results13]
        simp [go_sem, r0, r1]
      · exact (hbb6.setCell (by show w.heap.size ≤ w.heap.size + 1; omega) _).setCell (by show w.heap.size ≤ w.heap.size + 1; omega) _
    · have hq6 : 0 < q6 := by
        have := hwo.ne
        cases l with
        | nil => exact absurd rfl this
        | cons a l => simp at hlq; omega
      have hq20 : q6 ≤ 20000 := by have := hwo.len; omega
      obtain ⟨g6, c6, hvv6, hg61, hg62⟩ := hro6.form hq6
      injection hvv6 with e1 e2 e3
      subst e1 e3
      obtain ⟨q, rfl⟩ : ∃ q, q6 = q + 1 := ⟨q6 - 1, by omega⟩
      obtain ⟨hqc, _, hcl6⟩ := owns_cells (l := l) (by rw [hlq]; exact hro6)
      have hcq := hcl6 q (by omega)
      have hlst : l.length - 1 = q := by omega
      have hmf9 := last_mem hwo.ne
      rw [hlst] at hmf9
      have hfn := (hwo.ins _ hmf9).2
      have hFx : FairX g (l.getD q 0) := by
        have := hwo.last
        rw [hlst] at this
        exact of_decide_eq_true this
      have HS9 : Hid (∀ lp, LoopOk g (l.getD q 0) lp → LassoOk g (l.take q) lp ∧ fairC g = 0) := fun lp h => by
        have := HSome.out l lp hwo (by rw [hlst]; exact h)
        rw [hlst] at this
        exact this
      have hs5 : w.heap.size + 1 < w5.heap.size := by have h8 := (HAt.out w5 hb5').2.2.2.2.2.2.size; omega
      have HNl : Hid (∀ w9, Below w6.heap.size w6 w9 → ∀ x y, NatsV ((w9.setCell ⟨w.heap.size + 1, 0, none⟩ x).setCell ⟨w.heap.size + 1, 1, none⟩ y) (.slice (some ⟨g6, 0, none⟩) (l.take q).length vc6) (l.take q)) := fun w9 hb9 x y => by
        have h9 := ownsRow_setCell_below (ownsRow_setCell_below (owns_later hro6 hb9 (Nat.le_refl _)) (a := ⟨w.heap.size + 1, 0, none⟩) hs5 x) (a := ⟨w.heap.size + 1, 1, none⟩) hs5 y
        exact natsV_take (l := l) (by rw [hlq]; exact natsV_owns (by rw [hlq]; exact h9)) (by omega)
      have HTl : Hid ((l.take q).length = q) := by show _ = _; rw [List.length_take]; omega
      generalize hff : l.getD q 0 = f at *
      clear hff
      have hqc2 : q + 1 ≤ vc6 := by omega
      clear hwo hro6 hcl6 HM hwy hfi HFn hS HWy HFi HNone hmf9 hlst hqc hlq HSome
      go_upto_region 9 with fail
      have hb7 : Below W4.heap.size W4 (w6.alloc (.cells #[.int .i64 (f : Int)] 3)) := hb6'.alloc hb6'.size _
      have hb67 : Below w6.heap.size w6 (w6.alloc (.cells #[.int .i64 (f : Int)] 3)) := (Below.refl _ _).alloc (Nat.le_refl _) _
      have hc7 : (w6.alloc (.cells #[.int .i64 (f : Int)] 3)).cell? ⟨w6.heap.size, 0, none⟩ = some (.int .i64 (f : Int)) := by simp [go_sem]
      have hs7 : w6.heap.size < (w6.alloc (.cells #[.int .i64 (f : Int)] 3)).heap.size := by simp
      generalize w6.alloc (.cells #[.int .i64 (f : Int)] 3) = W7 at hb7 hb67 hc7 hs7 ⊢
      obtain ⟨_, _, _, g4, g5, g6', g7⟩ := HAt.out W7 hb7
      obtain ⟨⟨a0, a1, a2, a3, a4⟩, _⟩ := HK.out W7 g7
      have hlf := HLf.out W7 f _ _ _ g7 hfn hFx (HIn.out pz f HPzO.out hfn) (part_fn W7 w1.heap.size w6.heap.size B n f pz g5 hs7 hfn g4 hc7 g6')
      clear h1 h2 h3 h4 h5 h6 hk6 r0 r1 f0 f1 hcq g4 g5 g6' HLf HIn HPzO hFx
      go_wp2_with (go_at_call 31; refine hlf.mono ?_; rintro e w8 ⟨vo8, vc8, q8, rfl, hb8, HL8⟩; have hb8' := g7.trans (hb8.mono g7.size); obtain ⟨_, r0, r1, f0, f1⟩ := HK.out w8 hb8')
      have hb68 : Below w6.heap.size w6 w8 := hb67.trans (hb8.mono hb67.size)
      have hbb8 : Below w.heap.size w w8 := hA.trans (hb8'.mono hA.size)
      obtain ⟨lp, hlp1, hlp2, hlp3, hlp4⟩ := HL8.out
      obtain ⟨hLo, hC0⟩ := HS9.out lp hlp3
      have hs7w : w.heap.size + 1 < W7.heap.size := by have := g7.size; omega
      have hNlp := natsV_owns (l := lp) (by rw [hlp1]; exact ownsRow_setCell_below (ownsRow_setCell_below hlp4 (a := ⟨w.heap.size + 1, 0, none⟩) hs7w (.slice (some ⟨g6, 0, none⟩) q vc6)) (a := ⟨w.heap.size + 1, 1, none⟩) hs7w (.slice vo8 q8 vc8))
      have hNst := HNl.out w8 hb68 (.slice (some ⟨g6, 0, none⟩) q vc6) (.slice vo8 q8 vc8)
      have hTl := HTl.out
      rw [hTl] at hNst
      refine bodyPost_ret (v := .tuple #[.agg #[.slice (some ⟨g6, 0, none⟩) q vc6, .slice vo8 q8 vc8], .int .i64 0]) ?_ rfl ⟨_, _, rfl, ?_, .inr ⟨rfl, hC0, some ⟨g6, 0, none⟩, vc6, vo8, vc8, l.take q, lp, by rw [hTl, hlp1], by rw [hTl]; omega, by rw [hlp1]; exact hlp2, hLo, by rw [hTl]; exact hNst, by rw [hlp1]; exact hNlp⟩⟩
      · simp only [results, Try.results13]
        simp [go_sem, r0, r1]
      · exact (hbb8.setCell (by show w.heap.size ≤ w.heap.size + 1; omega) _).setCell (by show w.heap.size ≤ w.heap.size + 1; omega) _
end Go.Proofs.Ytknneajaklcjdaa
