/-
  The contract of the document's own FairOf.
-/
import Derived.Test.YtknneajaklcjdaaRefParts
import Derived.Test.YtknneajaklcjdaaSFair
namespace Go.Proofs.Ytknneajaklcjdaa
open Go.ChangeShapes Go.WideShapes Go.ChangeAt Go.RowKit Go.Deep
open Terms

/-- the same world. -/
def SmW (a b : World) : Prop := a = b
theorem Mut.symm {g : Gr} {x y : Nat} (h : Mut g x y) : Mut g y x := ⟨h.2, h.1⟩
theorem Mut.trans {g : Gr} {x y z : Nat} (h : Mut g x y) (k : Mut g y z) : Mut g x z := ⟨h.1.trans k.1, k.2.trans h.2⟩
theorem FairX.mut {g : Gr} {x y : Nat} (h : FairX g x) (m : Mut g x y) : FairX g y := by
  obtain ⟨⟨a, b, h1, h2, h3⟩, h4⟩ := h
  refine ⟨⟨a, b, m.symm.trans h1, m.symm.trans h2, h3⟩, fun i hi => ?_⟩
  obtain ⟨c, h5, h6⟩ := h4 i hi
  exact ⟨c, m.symm.trans h5, h6⟩
theorem ReachX.mut {g : Gr} {x y : Nat} (h : ReachX g x) (m : Mut g x y) : ReachX g y := by
  obtain ⟨f, hf, h1⟩ := h
  exact ⟨f, hf, h1.trans m.1⟩
/-- no place ahead is a fair one that is reached. -/
def NoF (g : Gr) (i : Nat) : Prop := ∀ j, j < i → ¬ (ReachX g j ∧ FairX g j)
theorem NoF.skip {g : Gr} {pz : Nat → Nat} {i : Nat} (h : NoF g i) (hp : PzOk g pz) (hi : i < g.spots.length) (hne : pz i ≠ i) : NoF g (i + 1) := fun j hj hx => by
  by_cases e : j < i
  · exact h j e hx
  · obtain rfl : j = i := by omega
    have hle := hp.le hi
    obtain ⟨z, h1, h2, h3, h4⟩ := hp j hi
    have hm : Mut g j (pz j) := by
      have : z = pz j := by omega
      subst this
      exact ⟨h2, h3⟩
    exact h (pz j) (by omega) ⟨hx.1.mut hm, hx.2.mut hm⟩
theorem NoF.no {g : Gr} {i : Nat} (h : NoF g i) (hn : ¬ (ReachX g i ∧ FairX g i)) : NoF g (i + 1) := fun j hj hx => by
  by_cases e : j < i
  · exact h j e hx
  · obtain rfl : j = i := by omega
    exact hn hx
/-- a step within the part, among the first so many places; and of the next one's first so many. -/
def LpK (nx : Nat → List Nat) (pz : Nat → Nat) (i k : Nat) : Prop := ∃ x, x < k ∧ pz x = i ∧ ∃ y ∈ nx x, pz y = i
def LpJ (nx : Nat → List Nat) (pz : Nat → Nat) (i k j : Nat) : Prop := LpK nx pz i k ∨ (pz k = i ∧ ∃ q, q < j ∧ pz ((nx k).getD q 0) = i)
def MtK (sn pz : Nat → Nat) (i pw k : Nat) : Prop := ∃ x, x < k ∧ pz x = i ∧ sn x / pw % 2 = 1
theorem LpK_zero {nx : Nat → List Nat} {pz : Nat → Nat} {i : Nat} : ¬ LpK nx pz i 0 := fun ⟨x, h, _⟩ => by omega
theorem LpJ_zero {nx : Nat → List Nat} {pz : Nat → Nat} {i k : Nat} : LpJ nx pz i k 0 ↔ LpK nx pz i k := ⟨fun h => h.elim id (fun ⟨_, q, hq, _⟩ => by omega), .inl⟩
theorem LpJ_end {nx : Nat → List Nat} {pz : Nat → Nat} {i k : Nat} : LpJ nx pz i k (nx k).length ↔ LpK nx pz i (k + 1) := by
  constructor
  · rintro (⟨x, h1, h2⟩ | ⟨h1, q, h2, h3⟩)
    · exact ⟨x, by omega, h2⟩
    · refine ⟨k, by omega, h1, _, ?_, h3⟩
      rw [List.getD_eq_getElem?_getD, List.getElem?_eq_getElem h2]
      exact List.getElem_mem _
  · rintro ⟨x, h1, h2, y, h3, h4⟩
    by_cases e : x < k
    · exact .inl ⟨x, e, h2, y, h3, h4⟩
    · obtain rfl : x = k := by omega
      obtain ⟨q, hq, rfl⟩ := List.mem_iff_getElem.1 h3
      refine .inr ⟨h2, q, hq, ?_⟩
      rw [List.getD_eq_getElem?_getD, List.getElem?_eq_getElem hq]
      exact h4
theorem LpJ_succ {nx : Nat → List Nat} {pz : Nat → Nat} {i k j : Nat} : LpJ nx pz i k (j + 1) ↔ LpJ nx pz i k j ∨ (pz k = i ∧ pz ((nx k).getD j 0) = i) := by
  constructor
  · rintro (h | ⟨h1, q, h2, h3⟩)
    · exact .inl (.inl h)
    · by_cases e : q < j
      · exact .inl (.inr ⟨h1, q, e, h3⟩)
      · obtain rfl : q = j := by omega
        exact .inr ⟨h1, h3⟩
  · rintro ((h | ⟨h1, q, h2, h3⟩) | ⟨h1, h2⟩)
    · exact .inl h
    · exact .inr ⟨h1, q, by omega, h3⟩
    · exact .inr ⟨h1, j, by omega, h2⟩
theorem MtK_zero {sn pz : Nat → Nat} {i pw : Nat} : ¬ MtK sn pz i pw 0 := fun ⟨x, h, _⟩ => by omega
theorem MtK_succ {sn pz : Nat → Nat} {i pw k : Nat} : MtK sn pz i pw (k + 1) ↔ MtK sn pz i pw k ∨ (pz k = i ∧ sn k / pw % 2 = 1) := by
  constructor
  · rintro ⟨x, h1, h2⟩
    by_cases e : x < k
    · exact .inl ⟨x, e, h2⟩
    · obtain rfl : x = k := by omega
      exact .inr h2
  · rintro (⟨x, h1, h2⟩ | h)
    · exact ⟨x, by omega, h2⟩
    · exact ⟨k, by omega, h⟩
def AlS (sn pz : Nat → Nat) (i n s : Nat) : Prop := ∀ q, q < s → MtK sn pz i (2 ^ q) n
theorem AlS_succ {sn pz : Nat → Nat} {i n s : Nat} : AlS sn pz i n (s + 1) ↔ AlS sn pz i n s ∧ MtK sn pz i (2 ^ s) n := by
  constructor
  · exact fun h => ⟨fun q hq => h q (by omega), h s (by omega)⟩
  · rintro ⟨h1, h2⟩ q hq
    by_cases e : q < s
    · exact h1 q e
    · obtain rfl : q = s := by omega
      exact h2
theorem fair_said {g : Gr} (hg : GOk g) {pz : Nat → Nat} (hp : PzOk g pz) {i : Nat} (hi : i < g.spots.length) (he : pz i = i) : (LpK (nxt g) pz i g.spots.length ∧ AlS (sN g) pz i g.spots.length (mN g)) ↔ FairX g i := by
  have h1 := fairB_x hg hp hi
  unfold fairB at h1
  rw [decide_eq_decide, he] at h1
  rw [← h1]
  unfold FairP LpK AlS MtK
  constructor
  · rintro ⟨h2, h3⟩
    refine ⟨h2, fun q hq => ?_⟩
    obtain ⟨x, h4, h5, h6⟩ := h3 q hq
    exact ⟨x, h4, h5, by rw [Nat.testBit_eq_decide_div_mod_eq]; exact decide_eq_true h6⟩
  · rintro ⟨h2, h3⟩
    refine ⟨h2, fun q hq => ?_⟩
    obtain ⟨x, h4, h5, h6⟩ := h3 q hq
    rw [Nat.testBit_eq_decide_div_mod_eq] at h6
    exact ⟨x, h4, h5, of_decide_eq_true h6⟩

set_option maxHeartbeats 1600000 in
set_option maxRecDepth 20000 in
theorem rfair_bad (so no bo : Option Addr) (sc nc bc : Nat) (g : Gr) (w : World) (hz : GrLe g) (hV : GraphV w (.slice so g.spots.length sc) (.slice no g.next.length nc) (.slice bo g.sets.length bc) g) (hc : ¬ gcode g = 0) :
    Calls Try.prog 12 #[.agg #[.slice so g.spots.length sc, .int .i64 g.init, .slice no g.next.length nc, .slice bo g.sets.length bc, .int .i64 g.many]] w fun e w' => e = .returned (.tuple #[.int .i64 0, .int .i64 9]) ∧ Below w.heap.size w w' := by
  have hA : ∀ o, Below w.heap.size w (w.alloc o) := fun o => (Below.refl _ _).alloc (Nat.le_refl _) o
  have hch := fun o => rparts_bad so no bo sc nc bc g (w.alloc o) hz (hV.below (hA o)) hc
  clear hV hz hc
  generalize g.spots.length = sn at *
  generalize g.next.length = nn at *
  generalize g.sets.length = bn at *
  generalize g.init = gi at *
  generalize g.many = gm at *
  go_enter Try.func12, Try.ntmps12
  go_wp2_with (go_at_call 8; refine (hch _).mono ?_; rintro e w1 ⟨rfl, hb1⟩)
  go_ret2
  exact ⟨rfl, (hA _).trans (hb1.mono (hA _).size)⟩

set_option maxHeartbeats 6400000 in
set_option maxRecDepth 20000 in
/-- THE CONTRACT OF FairOf. -/
theorem rfair_ok (so no bo : Option Addr) (sc nc bc : Nat) (g : Gr) (w : World) (hz : GrLe g) (hV : GraphV w (.slice so g.spots.length sc) (.slice no g.next.length nc) (.slice bo g.sets.length bc) g) (hc : gcode g = 0) (htot : totN (nxt g) g.spots.length ≤ 1099511627776) :
    Calls Try.prog 12 #[.agg #[.slice so g.spots.length sc, .int .i64 g.init, .slice no g.next.length nc, .slice bo g.sets.length bc, .int .i64 g.many]] w fun e w' => e = .returned (.tuple #[.int .i64 (fairV g), .int .i64 (fairC g)]) ∧ Below w.heap.size w w' := by
  have hok := gcode_zero hc
  obtain ⟨n, hn⟩ : ∃ n, n = g.spots.length := ⟨_, rfl⟩
  have hnn : g.next.length = n := by rw [hn]; exact hok.head.next
  have hsn : g.sets.length = n := by rw [hn]; exact hok.head.sets
  have hn2 : n ≤ 20000 := by rw [hn]; exact hok.head.n
  obtain ⟨mm, hmm⟩ : ∃ mm : Nat, g.many = (mm : Int) := ⟨g.many.toNat, by have := hok.head.many0; omega⟩
  have hmN : mN g = mm := by unfold mN; omega
  have hm6 : mm ≤ 6 := by have := hok.head.many6; omega
  obtain ⟨W0, hW0⟩ : ∃ W0, W0 = w.alloc (.cells #[.slice so g.spots.length sc, .int .i64 g.init, .slice no g.next.length nc, .slice bo g.sets.length bc, .int .i64 g.many] 26) := ⟨_, rfl⟩
  have hA : Below w.heap.size w W0 := by rw [hW0]; exact (Below.refl _ _).alloc (Nat.le_refl _) _
  have hs0 : w.heap.size < W0.heap.size := by rw [hW0]; simp
  have HD : Hid (∀ w1, Below W0.heap.size W0 w1 → Below w.heap.size w w1 ∧ w1.cell? ⟨w.heap.size, 0, none⟩ = some (.slice so g.spots.length sc) ∧ w1.cell? ⟨w.heap.size, 1, none⟩ = some (.int .i64 g.init) ∧ w1.cell? ⟨w.heap.size, 2, none⟩ = some (.slice no g.next.length nc) ∧ w1.cell? ⟨w.heap.size, 3, none⟩ = some (.slice bo g.sets.length bc) ∧ w1.cell? ⟨w.heap.size, 4, none⟩ = some (.int .i64 g.many)) := fun w1 hb => by
    have c : ∀ j, w1.cell? ⟨w.heap.size, j, none⟩ = W0.cell? ⟨w.heap.size, j, none⟩ := fun j => hb.cell (p := ⟨w.heap.size, j, none⟩) hs0
    refine ⟨hA.trans (hb.mono hA.size), (c _).trans ?_, (c _).trans ?_, (c _).trans ?_, (c _).trans ?_, (c _).trans ?_⟩ <;> (rw [hW0]; simp [go_sem])
  have hpa := rparts_ok so no bo sc nc bc g W0 hz (hV.below hA) hc htot
  have HRe : Hid (∀ w1, Below w.heap.size w w1 → Calls Try.prog 26 #[.agg #[.slice so g.spots.length sc, .int .i64 g.init, .slice no g.next.length nc, .slice bo g.sets.length bc, .int .i64 g.many]] w1 fun e w' => ∃ vo vc, e = .returned (.tuple #[.slice vo g.spots.length vc, .int .i64 0]) ∧ Below w1.heap.size w1 w' ∧ Hid (BoolsV w' (.slice vo g.spots.length vc) (reachL g))) := fun w1 hb => rreached_ok so no bo sc nc bc g w1 hz (hV.below hb) hc
  have HRw : Hid (∀ w1, Below w.heap.size w w1 → ∀ k, k < n → ∃ rb roff ub uoff uc, no = some ⟨rb, roff, none⟩ ∧ w1.cell? ⟨rb, roff + k, none⟩ = some (.slice (if (nxt g k).length = 0 then ub else ub) (nxt g k).length uc) ∧ ∀ q, q < (nxt g k).length → ∃ b2, ub = some ⟨b2, uoff, none⟩ ∧ w1.cell? ⟨b2, uoff + q, none⟩ = some (.int .i64 ((nxt g k).getD q 0 : Int)) ∧ (nxt g k).getD q 0 < n) := fun w1 hb k hk => by
    obtain ⟨rb, roff, h1, h2, uo, uc, h3, h4⟩ := graph_rowsR hok (hV.below hb) k (by rw [← hn]; exact hk)
    obtain ⟨ao, cap, e1, e2⟩ := h4
    injection e1 with e3 e4 e5
    by_cases hl : nxt g k = []
    · exact ⟨rb, roff, uo, 0, uc, h1, by rw [ite_self]; exact h3, fun q hq => by rw [hl] at hq; simp at hq⟩
    · obtain ⟨b2, off, e6, _, e7⟩ := e2 hl
      refine ⟨rb, roff, uo, off, uc, h1, by rw [ite_self]; exact h3, fun q hq => ⟨b2, e3.trans e6, e7 q hq, ?_⟩⟩
      rw [List.getD_eq_getElem?_getD, List.getElem?_eq_getElem hq, hn]
      exact nxt_lt hok (by rw [← hn]; exact hk) (List.getElem_mem _)
  have HSe : Hid (∀ w1, Below w.heap.size w w1 → 0 < n → ∃ tb tof, bo = some ⟨tb, tof, none⟩ ∧ ∀ k, k < n → w1.cell? ⟨tb, tof + k, none⟩ = some (.int .i64 (sN g k : Int)) ∧ sN g k < 64) := fun w1 hb h0 => by
    obtain ⟨ao, cap, e1, e2⟩ := (hV.below hb).sets
    injection e1 with e3 e4 e5
    obtain ⟨tb, tof, e6, _, e7⟩ := e2 (fun e => by rw [e] at hsn; simp at hsn; omega)
    refine ⟨tb, tof, e3.trans e6, fun k hk => ?_⟩
    have h9 := hok.sN (x := k) (by rw [← hn]; exact hk)
    have h8 := e7 k (by rw [hsn]; exact hk)
    rw [h9.1] at h8
    refine ⟨h8, Nat.lt_of_lt_of_le h9.2 ?_⟩
    exact pow64 (by rw [hmN]; exact hm6)
  have HX : Hid (∀ pt, PartsOk g pt → PzOk g (fun x => (pt x).toNat) ∧ ∀ x, x < n → pt x = ((pt x).toNat : Int) ∧ (pt x).toNat < n) := fun pt h => by
    refine ⟨h.pz.1, fun x hx => ⟨h.pz.2 x (by rw [← hn]; exact hx), ?_⟩⟩
    have h9 : (pt x).toNat ≤ x := h.pz.1.le (x := x) (by rw [← hn]; exact hx)
    omega
  have HRx : Hid (∀ i, i < n → ((reachL g).getD i false = true ↔ ReachX g i)) := fun i hi => by
    classical
    unfold reachL
    rw [reachB_at (by rw [← hn]; exact hi), decide_eq_true_iff]
    exact Iff.rfl
  have HRl : Hid ((reachL g).length = n) := by rw [hn]; exact reachB_length _ _ _
  have HSk : Hid (∀ pz i, NoF g i → PzOk g pz → i < n → pz i ≠ i → NoF g (i + 1)) := fun pz i h1 h2 h3 h4 => h1.skip h2 (by rw [← hn]; exact h3) h4
  have HFs : Hid (∀ pz i, PzOk g pz → i < n → pz i = i → ((LpK (nxt g) pz i n ∧ AlS (sN g) pz i n mm) ↔ FairX g i)) := fun pz i h1 h2 h3 => by
    have := fair_said hok h1 (i := i) (by rw [← hn]; exact h2) h3
    rw [← hn, hmN] at this
    exact this
  have HFa : Hid (∀ k, k < n → ReachX g k → FairX g k → NoF g k → fairV g = (k : Int) ∧ fairC g = 0) := fun k hk h1 h2 h3 => fair_at (by rw [← hn]; exact hk) ⟨h1, h2⟩ h3
  have HFn : Hid (NoF g n → fairV g = 0 ∧ fairC g = 11) := fun h => fair_none (fun j hj => h j (by rw [hn]; exact hj))
  have HLe : Hid (∀ k, k < n → (nxt g k).length ≤ 1099511627776) := fun k hk => Nat.le_trans (totN_at (nx := nxt g) (n := g.spots.length) (by rw [← hn]; exact hk)) htot
  rw [hmm, hnn, hsn, ← hn] at HD hpa HRe ⊢
  have HW0 : Hid (W0 = w.alloc (.cells #[.slice so n sc, .int .i64 g.init, .slice no n nc, .slice bo n bc, .int .i64 (mm : Int)] 26)) := by
    show _ = _
    rw [hW0, hmm, hnn, hsn, ← hn]
  rw [HW0.out] at hpa
  generalize fairV g = fv at *
  generalize fairC g = fc at *
  generalize g.init = gi at *
  clear hV hz hc htot hnn hsn hn hmm hmN hok hW0
  go_enter Try.func12, Try.ntmps12
  go_upto_region 6 with (first | (go_at_call 8; refine hpa.mono ?_; rintro e w1 ⟨B, rfl, hb1, HB⟩; rw [← HW0.out] at hb1; obtain ⟨hbw1, a0, a1, a2, a3, a4⟩ := HD.out w1 hb1; have hre := HRe.out w1 hbw1) | (go_at_call 26; refine hre.mono ?_; rintro e w2 ⟨vo, vc, rfl, hb2, HVs⟩))
  clear a0 a1 a2 a3 a4 hre hpa
  obtain ⟨hbw2, b0, b1, b2, b3, b4⟩ := HD.out w2 (hb1.trans (hb2.mono hb1.size))
  obtain ⟨pt, _, hrow, hpo⟩ := HB.out
  obtain ⟨hpz, hpx⟩ := HX.out pt hpo
  obtain ⟨pz, hpzE⟩ : ∃ pz : Nat → Nat, pz = fun x => (pt x).toNat := ⟨_, rfl⟩
  have hpe : ∀ x, (pt x).toNat = pz x := fun x => by rw [hpzE]
  have HPz : Hid (PzOk g pz) := by rw [hpzE]; exact hpz
  have HPc : Hid (∀ x, x < n → w2.cell? ⟨B, x, none⟩ = some (.int .i64 (pz x : Int)) ∧ pz x < n) := fun x hx => by
    rw [← hpe]
    have h9 := (row_later hrow hb2).cell hx
    refine ⟨?_, (hpx x hx).2⟩
    rw [h9]
    show some (Value.int .i64 (pt x)) = _
    rw [← (hpx x hx).1]
  clear hpz hpx hpo hrow HB b0 b1 hpe hpzE
  go_loopw [8] (fun iv wr => ∃ i : Nat, i ≤ n ∧ iv = .int .i64 (i : Int) ∧ SmW wr w2 ∧ Hid (NoF g i)) (fun i _ => n - (intOf i).toNat)
  case atStart => exact ⟨0, Nat.zero_le _, rfl, rfl, fun j hj => by omega⟩
  case round =>
    obtain ⟨i, hi, rfl, hwr, HN⟩ := hrel
    have hwE : _ = _ := hwr
    subst hwE
    by_cases hlt : i < n
    · have hlti : (i : Int) < (n : Int) := by omega
      have hn1 : 0 < n := by omega
      obtain ⟨p0, p1⟩ := HPc.out i hlt
      have HPi : Hid (pz i ≠ i → NoF g (i + 1)) := HSk.out pz i HN.out HPz.out hlt
      have HFi : Hid (pz i = i → ((LpK (nxt g) pz i n ∧ AlS (sN g) pz i n mm) ↔ FairX g i)) := HFs.out pz i HPz.out hlt
      obtain ⟨pi, hpi⟩ : ∃ pi, pz i = pi := ⟨_, rfl⟩
      rw [hpi] at p0 p1 HPi HFi
      by_cases he : pi = i
      · subst he
        obtain ⟨sb, sof, scp, hsv, hst⟩ := truAt_of HVs.out HRl.out hn1
        injection hsv with hs1 hs2 hs3
        subst hs1 hs3
        have s0 := hst pi hlt
        have HRi : Hid ((reachL g).getD pi false = true ↔ ReachX g pi) := HRx.out pi hlt
        obtain ⟨rb, hrb⟩ : ∃ rb, (reachL g).getD pi false = rb := ⟨_, rfl⟩
        simp only [hrb] at s0
        rw [hrb] at HRi
        clear hst hrb
        cases rb with
        | false =>
          have HNn : Hid (NoF g (pi + 1)) := HN.out.no fun h => by have := HRi.out.2 h.1; cases this
          go_wp2_with fail
          go_roundw
          case rel => exact ⟨pi + 1, by omega, by go_num, rfl, HNn⟩
          case measure => simp [intOf]; omega
        | true =>
          have HRe2 : Hid (ReachX g pi) := HRi.out.1 rfl
          obtain ⟨tb, tof, hbo, hset⟩ := HSe.out wr hbw2 hn1
          subst hbo
          have HSt : Hid (∀ k, k < n → wr.cell? ⟨tb, tof + k, none⟩ = some (.int .i64 (sN g k : Int)) ∧ sN g k < 64) := hset
          have HRk : Hid (∀ k, k < n → ∃ rb roff ub uoff uc, no = some ⟨rb, roff, none⟩ ∧ wr.cell? ⟨rb, roff + k, none⟩ = some (.slice (if (nxt g k).length = 0 then ub else ub) (nxt g k).length uc) ∧ ∀ q, q < (nxt g k).length → ∃ b2, ub = some ⟨b2, uoff, none⟩ ∧ wr.cell? ⟨b2, uoff + q, none⟩ = some (.int .i64 ((nxt g k).getD q 0 : Int)) ∧ (nxt g k).getD q 0 < n) := HRw.out wr hbw2
          have HFe := HFi.out rfl
          have HFx : Hid ((LpK (nxt g) pz pi n ∧ AlS (sN g) pz pi n mm) ↔ FairX g pi) := HFe
          obtain ⟨rb, roff, _, _, _, hno, _⟩ := HRk.out pi hlt
          subst hno
          have HRk2 : Hid (∀ k, k < n → ∃ ub uoff uc, wr.cell? ⟨rb, roff + k, none⟩ = some (.slice ub (nxt g k).length uc) ∧ ∀ q, q < (nxt g k).length → ∃ b2, ub = some ⟨b2, uoff, none⟩ ∧ wr.cell? ⟨b2, uoff + q, none⟩ = some (.int .i64 ((nxt g k).getD q 0 : Int)) ∧ (nxt g k).getD q 0 < n) := fun k hk => by
            obtain ⟨rb', roff', ub, uoff, uc, h1, h2, h3⟩ := HRk.out k hk
            injection Option.some.inj h1 with e1 e2
            subst e1 e2
            rw [ite_self] at h2
            exact ⟨ub, uoff, uc, h2, h3⟩
          clear hset HFe HPi HFi hpi HRi HRk
          generalize nxt g = nx at *
          generalize sN g = sn at *
          go_upto_block 2 with fail
          go_cut [9, 10, 11] from 48 to 87 (fun b _ _ wx => ∃ lp : Bool, b = .bool lp ∧ SmW wx wr ∧ Hid (lp = true ↔ LpK nx pz pi n))
          case first =>
            generalize wr = wo at *
            go_wp2_with fail
            go_loopw [9, 10] (fun b kv wr => ∃ (lp : Bool) (k : Nat), k ≤ n ∧ b = .bool lp ∧ kv = .int .i64 (k : Int) ∧ SmW wr wo ∧ Hid (lp = true ↔ LpK nx pz pi k)) (fun _ i _ => n - (intOf i).toNat)
            case atStart => exact ⟨false, 0, Nat.zero_le _, rfl, rfl, rfl, ⟨(fun h => by cases h), fun h => absurd h LpK_zero⟩⟩
            case round =>
              obtain ⟨lp, k, hk, rfl, rfl, hwr, HL⟩ := hrel
              have hwE : _ = _ := hwr
              subst hwE
              clear hwr
              by_cases hkn : k < n
              · have hkni : (k : Int) < (n : Int) := by omega
                obtain ⟨c0, c1⟩ := HPc.out k hkn
                obtain ⟨ub, uoff, uc, u0, u1⟩ := HRk2.out k hkn
                obtain ⟨m, hm⟩ : ∃ m, (nx k).length = m := ⟨_, rfl⟩
                have HM : Hid ((nx k).length = m) := hm
                have HU : Hid (∀ q, q < m → ∃ b2, ub = some ⟨b2, uoff, none⟩ ∧ wr.cell? ⟨b2, uoff + q, none⟩ = some (.int .i64 ((nx k).getD q 0 : Int)) ∧ (nx k).getD q 0 < n) := by rw [← hm]; exact u1
                rw [hm] at u0
                have hm2 : m ≤ 1099511627776 := by rw [← hm]; exact HLe.out k hkn
                have HJ0 : Hid (lp = true ↔ LpJ nx pz pi k 0) := HL.out.trans LpJ_zero.symm
                obtain ⟨pk, hpk⟩ : ∃ pk, pz k = pk := ⟨_, rfl⟩
                have HPk : Hid (pz k = pk) := hpk
                rw [hpk] at c0 c1
                clear hm u1 hpk HL
                generalize wr = wq at *
                go_upto_region 14 with fail
                go_loopw [9, 11] (fun b jv wr => ∃ (lp : Bool) (j : Nat), j ≤ m ∧ b = .bool lp ∧ jv = .int .i64 (j : Int) ∧ SmW wr wq ∧ Hid (lp = true ↔ LpJ nx pz pi k j)) (fun _ i _ => m - (intOf i).toNat)
                case atStart => exact ⟨lp, 0, Nat.zero_le _, rfl, rfl, rfl, HJ0⟩
                case round =>
                  obtain ⟨lq, j, hj, rfl, rfl, hwr, HL⟩ := hrel
                  have hwE : _ = _ := hwr
                  subst hwE
                  clear hwr
                  by_cases hjm : j < m
                  · have hjmi : (j : Int) < (m : Int) := by omega
                    obtain ⟨b5, hub, u2, u3⟩ := HU.out j hjm
                    subst hub
                    obtain ⟨t, ht⟩ : ∃ t, (nx k).getD j 0 = t := ⟨_, rfl⟩
                    rw [ht] at u2 u3
                    obtain ⟨c2, c3⟩ := HPc.out t u3
                    obtain ⟨pq, hpq⟩ : ∃ pq, pz t = pq := ⟨_, rfl⟩
                    rw [hpq] at c2 c3
                    have HSc : Hid (∀ lr : Bool, (lr = true ↔ lq = true ∨ (pk = pi ∧ pq = pi)) → (lr = true ↔ LpJ nx pz pi k (j + 1))) := fun lr h => by
                      rw [LpJ_succ, h, HL.out, HPk.out, ht, hpq]
                    clear ht hpq
                    cases lq with
                    | true =>
                      have HLn : Hid (true = true ↔ LpJ nx pz pi k (j + 1)) := HSc.out true ⟨fun _ => .inl rfl, fun _ => rfl⟩
                      go_wp2_with fail
                      go_roundw
                      case rel => exact ⟨true, j + 1, by omega, rfl, by go_num, rfl, HLn⟩
                      case measure => simp [intOf]; omega
                    | false =>
                      by_cases hk5 : pk = pi
                      · have hk6 : (pk : Int) = (pi : Int) := by omega
                        by_cases hq5 : pq = pi
                        · have hq6 : (pq : Int) = (pi : Int) := by omega
                          have HLn : Hid (true = true ↔ LpJ nx pz pi k (j + 1)) := HSc.out true ⟨fun _ => .inr ⟨hk5, hq5⟩, fun _ => rfl⟩
                          rw [hk6] at c0
                          rw [hq6] at c2
                          clear hk5 hk6 hq5 hq6
                          go_wp2_with fail
                          go_roundw
                          case rel => exact ⟨true, j + 1, by omega, by first | rfl | simp, by go_num, rfl, HLn⟩
                          case measure => simp [intOf]; omega
                        · have hq6 : ¬ (pq : Int) = (pi : Int) := by omega
                          have HLn : Hid (false = true ↔ LpJ nx pz pi k (j + 1)) := HSc.out false ⟨(fun h => by cases h), fun h => h.elim (fun h => by cases h) (fun h => absurd h.2 hq5)⟩
                          rw [hk6] at c0
                          clear hk5 hk6
                          go_wp2_with fail
                          go_roundw
                          case rel => exact ⟨false, j + 1, by omega, by first | rfl | (simp; omega) | simp, by go_num, rfl, HLn⟩
                          case measure => simp [intOf]; omega
                      · have hk6 : ¬ (pk : Int) = (pi : Int) := by omega
                        have HLn : Hid (false = true ↔ LpJ nx pz pi k (j + 1)) := HSc.out false ⟨(fun h => by cases h), fun h => h.elim (fun h => by cases h) (fun h => absurd h.1 hk5)⟩
                        go_wp2_with fail
                        go_roundw
                        case rel => exact ⟨false, j + 1, by omega, by first | rfl | simp [hk5], by go_num, rfl, HLn⟩
                        case measure => simp [intOf]; omega
                  · obtain rfl : j = m := by omega
                    have HLn : Hid (lq = true ↔ LpK nx pz pi (k + 1)) := by
                      have h9 := HL.out
                      rw [← HM.out] at h9
                      exact h9.trans LpJ_end
                    go_wp2_with fail
                    go_roundw
                    case rel => exact ⟨lq, k + 1, by omega, rfl, by go_num, rfl, HLn⟩
                    case measure => simp [intOf]; omega
              · obtain rfl : k = n := by omega
                go_wp2_with fail
                go_meet
                exact ⟨lp, rfl, rfl, HL⟩
          case rest =>
            obtain ⟨lp, rfl, hwc, HL⟩ := hcut
            have hwE : _ = _ := hwc
            subst hwE
            clear hwc
            obtain ⟨wo, rfl⟩ : ∃ wo, wo = wc := ⟨_, rfl⟩
            go_upto_block 6 with fail
            go_cut [9, 12, 13, 14, 15] from 88 to 125 (fun b _ _ _ _ wx => ∃ lr : Bool, b = .bool lr ∧ SmW wx wo ∧ Hid (lr = true ↔ FairX g pi))
            case first =>
              go_wp2_with fail
              go_loopw [9, 12, 13] (fun b pv sv wr => ∃ (lr : Bool) (s pw : Nat), s ≤ mm ∧ b = .bool lr ∧ pv = .int .i64 (pw : Int) ∧ sv = .int .i64 (s : Int) ∧ SmW wr wo ∧ 0 < pw ∧ pw ≤ 64 ∧ Hid (pw = 2 ^ s ∧ (lr = true ↔ LpK nx pz pi n ∧ AlS sn pz pi n s))) (fun _ _ i _ => mm - (intOf i).toNat)
              case atStart => exact ⟨lp, 0, 1, Nat.zero_le _, rfl, rfl, rfl, rfl, by decide, by decide, rfl, ⟨fun h => ⟨HL.out.1 h, fun q hq => by omega⟩, fun h => HL.out.2 h.1⟩⟩
              case round =>
                obtain ⟨lr, s, pw, hs, rfl, rfl, rfl, hwr, hpw0, hpw6, HR⟩ := hrel
                have hwE : _ = _ := hwr
                subst hwE
                clear hwr
                by_cases hsm : s < mm
                · have hsmi : (s : Int) < (mm : Int) := by omega
                  have HNx : Hid (∀ (mt l2 : Bool), (mt = true ↔ MtK sn pz pi pw n) → (l2 = true ↔ lr = true ∧ mt = true) → (pw * 2 = 2 ^ (s + 1) ∧ (l2 = true ↔ LpK nx pz pi n ∧ AlS sn pz pi n (s + 1)))) := fun mt l2 h1 h2 => by
                    obtain ⟨e1, e2⟩ := HR.out
                    refine ⟨by rw [e1, Nat.pow_succ], ?_⟩
                    rw [h2, e2, h1, AlS_succ, ← e1]
                    exact and_assoc
                  have hpw3 : pw ≤ 32 := by
                    obtain ⟨e1, _⟩ := HR.out
                    have h5 : s ≤ 5 := by omega
                    rw [e1]
                    exact Nat.le_trans (Nat.pow_le_pow_right (n := 2) (by decide) h5) (by decide)
                  clear HR
                  generalize wr = wq at *
                  go_upto_region 23 with fail
                  go_loopw [14, 15] (fun b kv wr => ∃ (mt : Bool) (k : Nat), k ≤ n ∧ b = .bool mt ∧ kv = .int .i64 (k : Int) ∧ SmW wr wq ∧ Hid (mt = true ↔ MtK sn pz pi pw k)) (fun _ i _ => n - (intOf i).toNat)
                  case atStart => exact ⟨false, 0, Nat.zero_le _, rfl, rfl, rfl, ⟨(fun h => by cases h), fun h => absurd h MtK_zero⟩⟩
                  case round =>
                    obtain ⟨mt, k, hk, rfl, rfl, hwr, HM⟩ := hrel
                    have hwE : _ = _ := hwr
                    subst hwE
                    clear hwr
                    by_cases hkn : k < n
                    · have hkni : (k : Int) < (n : Int) := by omega
                      obtain ⟨c0, c1⟩ := HPc.out k hkn
                      obtain ⟨t0, t1⟩ := HSt.out k hkn
                      obtain ⟨pk, hpk⟩ : ∃ pk, pz k = pk := ⟨_, rfl⟩
                      obtain ⟨sk, hsk⟩ : ∃ sk, sn k = sk := ⟨_, rfl⟩
                      rw [hpk] at c0 c1
                      rw [hsk] at t0 t1
                      have HSc : Hid (∀ m2 : Bool, (m2 = true ↔ mt = true ∨ (pk = pi ∧ sk / pw % 2 = 1)) → (m2 = true ↔ MtK sn pz pi pw (k + 1))) := fun m2 h => by
                        rw [MtK_succ, h, HM.out, hpk, hsk]
                      have hq0 : (0 : Int) ≤ (sk : Int) := by omega
                      have htd : (sk : Int).tdiv (pw : Int) = ((sk / pw : Nat) : Int) := by rw [Int.tdiv_eq_ediv_of_nonneg hq0]; simp
                      obtain ⟨qv, hqv⟩ : ∃ qv, sk / pw = qv := ⟨_, rfl⟩
                      rw [hqv] at htd HSc
                      have hqs : qv ≤ sk := by rw [← hqv]; exact Nat.div_le_self _ _
                      have htm : (qv : Int).tmod 2 = ((qv % 2 : Nat) : Int) := by rw [Int.tmod_eq_emod_of_nonneg (by omega)]; simp
                      have hpn : ¬ (pw : Int) = 0 := by omega
                      have hpn2 : ((pw : Int) == 0) = false := by simp; omega
                      have hpn3 : ¬ pw = 0 := by omega
                      clear hpk hsk hqv hq0 HM
                      cases mt with
                      | true =>
                        have HLn : Hid (true = true ↔ MtK sn pz pi pw (k + 1)) := HSc.out true ⟨fun _ => .inl rfl, fun _ => rfl⟩
                        go_wp2_with fail
                        go_roundw
                        case rel => exact ⟨true, k + 1, by omega, rfl, by go_num, rfl, HLn⟩
                        case measure => simp [intOf]; omega
                      | false =>
                        by_cases hk5 : pk = pi
                        · have hk6 : (pk : Int) = (pi : Int) := by omega
                          rw [hk6] at c0
                          have HSd : Hid (∀ m2 : Bool, (m2 = true ↔ qv % 2 = 1) → (m2 = true ↔ MtK sn pz pi pw (k + 1))) := fun m2 h => HSc.out m2 (h.trans ⟨fun h => .inr ⟨hk5, h⟩, fun h => h.elim (fun h => by cases h) (fun h => h.2)⟩)
                          clear hk5 hk6 HSc
                          obtain ⟨rv, hrv⟩ : ∃ rv, qv % 2 = rv := ⟨_, rfl⟩
                          rw [hrv] at htm HSd
                          have hrv2 : rv < 2 := by omega
                          by_cases hr1 : rv = 1
                          · subst hr1
                            have HLn : Hid (true = true ↔ MtK sn pz pi pw (k + 1)) := HSd.out true ⟨fun _ => rfl, fun _ => rfl⟩
                            clear hrv
                            go_wp2_with fail
                            go_roundw
                            case rel => exact ⟨true, k + 1, by omega, by first | rfl | simp [htd, htm], by go_num, rfl, HLn⟩
                            case measure => simp [intOf]; omega
                          · obtain rfl : rv = 0 := by omega
                            have HLn : Hid (false = true ↔ MtK sn pz pi pw (k + 1)) := HSd.out false ⟨(fun h => by cases h), fun h => by cases h⟩
                            clear hrv
                            go_wp2_with fail
                            go_roundw
                            case rel => exact ⟨false, k + 1, by omega, by first | rfl | simp [htd, htm], by go_num, rfl, HLn⟩
                            case measure => simp [intOf]; omega
                        · have hk6 : ¬ (pk : Int) = (pi : Int) := by omega
                          have HLn : Hid (false = true ↔ MtK sn pz pi pw (k + 1)) := HSc.out false ⟨(fun h => by cases h), fun h => h.elim (fun h => by cases h) (fun h => absurd h.1 hk5)⟩
                          go_wp2_with fail
                          go_roundw
                          case rel => exact ⟨false, k + 1, by omega, by first | rfl | simp [hk5], by go_num, rfl, HLn⟩
                          case measure => simp [intOf]; omega
                    · obtain rfl : k = n := by omega
                      have HY : Hid (∀ l2 : Bool, (l2 = true ↔ lr = true ∧ mt = true) → (pw * 2 = 2 ^ (s + 1) ∧ (l2 = true ↔ LpK nx pz pi k ∧ AlS sn pz pi k (s + 1)))) := fun l2 h => HNx.out mt l2 HM.out h
                      cases lr with
                      | true =>
                        cases mt with
                        | true =>
                          go_wp2_with fail
                          go_roundw
                          case rel => exact ⟨true, s + 1, pw * 2, by omega, rfl, by go_num, by go_num, rfl, by omega, by omega, HY.out true (by simp)⟩
                          case measure => simp [intOf]; omega
                        | false =>
                          go_wp2_with fail
                          go_roundw
                          case rel => exact ⟨false, s + 1, pw * 2, by omega, rfl, by go_num, by go_num, rfl, by omega, by omega, HY.out false (by simp)⟩
                          case measure => simp [intOf]; omega
                      | false =>
                        go_wp2_with fail
                        go_roundw
                        case rel => exact ⟨false, s + 1, pw * 2, by omega, rfl, by go_num, by go_num, rfl, by omega, by omega, HY.out false (by simp)⟩
                        case measure => simp [intOf]; omega
                · obtain rfl : s = mm := by omega
                  have HFy : Hid (lr = true ↔ FairX g pi) := HR.out.2.trans HFx.out
                  go_wp2_with fail
                  go_meet
                  exact ⟨lr, rfl, rfl, HFy⟩
            case rest =>
              obtain ⟨lr, rfl, hwc, HL2⟩ := hcut
              have hwE : _ = _ := hwc
              subst hwE
              clear hwc
              cases lr with
              | true =>
                obtain ⟨hv1, hv2⟩ := HFa.out pi hlt HRe2.out (HL2.out.1 rfl) HN.out
                subst hv1 hv2
                go_wp2_with fail
                go_ret2
                exact ⟨rfl, hbw2⟩
              | false =>
                have HNn : Hid (NoF g (pi + 1)) := HN.out.no fun h => by have := HL2.out.2 h.2; cases this
                go_wp2_with fail
                go_roundw
                case rel => exact ⟨pi + 1, by omega, by go_num, rfl, HNn⟩
                case measure => simp [intOf]; omega
      · have he2 : ¬ (pi : Int) = (i : Int) := by omega
        have HNn : Hid (NoF g (i + 1)) := HPi.out he
        go_wp2_with fail
        go_roundw
        case rel => exact ⟨i + 1, by omega, by go_num, rfl, HNn⟩
        case measure => simp [intOf]; omega
    · obtain rfl : i = n := by omega
      obtain ⟨hv1, hv2⟩ := HFn.out HN.out
      subst hv1 hv2
      go_wp2_with fail
      go_ret2
      exact ⟨rfl, hbw2⟩
end Go.Proofs.Ytknneajaklcjdaa
