/-
  The contract of scc.Fair.
-/
import Derived.Test.YtknneajaklcjdaaSFair0
namespace Go.Proofs.Ytknneajaklcjdaa
open Go.ChangeShapes Go.WideShapes Go.ChangeAt Go.RowKit Go.Deep
open Terms

theorem boolsV_num {w : World} {bo : Option Addr} {bn bc : Nat} {l : List Bool} (h : BoolsV w (.slice bo bn bc) l) {i : Nat} (hi : i < l.length) : ∃ b off, bo = some ⟨b, off, none⟩ ∧ b < w.heap.size ∧ w.cell? ⟨b, off + i, none⟩ = some (.bool (l.getD i false)) := by
  obtain ⟨ao, cap, e, hr⟩ := h
  obtain ⟨b, off, ea, hb, hc⟩ := hr (fun h => by rw [h] at hi; simp at hi)
  injection e with e1 e2 e3
  exact ⟨b, off, e1.trans ea, hb, hc i hi⟩
/-- two places are of one part. -/
def Mut (g : Gr) (x y : Nat) : Prop := Way (nxt g) x y ∧ Way (nxt g) y x
/-- a place is of a fair part. -/
def FairX (g : Gr) (x : Nat) : Prop := (∃ a b, Mut g x a ∧ Mut g x b ∧ b ∈ nxt g a) ∧ ∀ i, i < mN g → ∃ a, Mut g x a ∧ (sN g a).testBit i = true
def ReachX (g : Gr) (x : Nat) : Prop := ∃ f ∈ List.range g.init.toNat, Way (nxt g) f x
theorem Mut.lt {g : Gr} (hg : GOk g) {x y : Nat} (hx : x < g.spots.length) (h : Mut g x y) : y < g.spots.length := h.1.lt (fun _ hi _ hk => nxt_lt hg hi hk) hx
/-- numbers of parts that are told rightly. -/
def PzOk (g : Gr) (pz : Nat → Nat) : Prop := ∀ x, x < g.spots.length → PartIs (nxt g) x (pz x : Int)
theorem PzOk.iff {g : Gr} {pz : Nat → Nat} (h : PzOk g pz) {x y : Nat} (hx : x < g.spots.length) (hy : y < g.spots.length) : pz x = pz y ↔ Mut g x y := by
  obtain ⟨z, h1, h2, h3, h4⟩ := h x hx
  obtain ⟨z', g1, g2, g3, g4⟩ := h y hy
  constructor
  · intro e
    have : z = z' := by omega
    subst this
    exact ⟨h2.trans g3, g2.trans h3⟩
  · rintro ⟨a, b⟩
    have e1 := h4 z' (a.trans g2) (g3.trans b)
    have e2 := g4 z (b.trans h2) (h3.trans a)
    omega
theorem PzOk.le {g : Gr} {pz : Nat → Nat} (h : PzOk g pz) {x : Nat} (hx : x < g.spots.length) : pz x ≤ x := by
  obtain ⟨z, h1, h2, h3, h4⟩ := h x hx
  have := h4 x .stay .stay
  omega
theorem PartsOk.pz {g : Gr} {pt : Nat → Int} (h : PartsOk g pt) : PzOk g (fun x => (pt x).toNat) ∧ ∀ x, x < g.spots.length → pt x = ((pt x).toNat : Int) := by
  have h1 : ∀ x, x < g.spots.length → pt x = ((pt x).toNat : Int) := fun x hx => by
    obtain ⟨z, h1, _⟩ := h x hx
    omega
  exact ⟨fun x hx => by have := h x hx; rw [h1 x hx] at this; exact this, h1⟩
open Classical in
theorem fairB_x {g : Gr} (hg : GOk g) {pz : Nat → Nat} (h : PzOk g pz) {x : Nat} (hx : x < g.spots.length) : fairB g pz x = decide (FairX g x) := by
  unfold fairB
  rw [decide_eq_decide]
  constructor
  · rintro ⟨⟨a, ha, hp, b, hb, hq⟩, h2⟩
    have hbl := nxt_lt hg ha hb
    refine ⟨⟨a, b, (h.iff hx ha).1 hp.symm, (h.iff hx hbl).1 hq.symm, hb⟩, fun i hi => ?_⟩
    obtain ⟨y, hy, h3, h4⟩ := h2 i hi
    exact ⟨y, (h.iff hx hy).1 h3.symm, h4⟩
  · rintro ⟨⟨a, b, h1, h2, h3⟩, h4⟩
    have hal := h1.lt hg hx
    have hbl := h2.lt hg hx
    refine ⟨⟨a, hal, ((h.iff hx hal).2 h1).symm, b, h3, ((h.iff hx hbl).2 h2).symm⟩, fun i hi => ?_⟩
    obtain ⟨y, hy, h5⟩ := h4 i hi
    have hyl := hy.lt hg hx
    exact ⟨y, hyl, ((h.iff hx hyl).2 hy).symm, h5⟩
open Classical in
/-- the least place of fair parts that are reached. -/
noncomputable def fairR (g : Gr) : Option Nat := (List.range g.spots.length).find? fun x => decide (ReachX g x ∧ FairX g x)
noncomputable def fairV (g : Gr) : Int := (fairR g).getD 0
noncomputable def fairC (g : Gr) : Int := if (fairR g).isSome = true then 0 else 11
theorem find_at {p : Nat → Bool} {n k : Nat} (hk : k < n) (h : p k = true) (hno : ∀ j, j < k → p j = false) : (List.range n).find? p = some k := by
  rw [List.find?_eq_some_iff_append]
  refine ⟨h, List.range k, (List.range (n - k - 1)).map (· + (k + 1)), ?_, fun a ha => by rw [hno a (List.mem_range.1 ha)]; rfl⟩
  apply List.ext_getElem?
  intro i
  by_cases h1 : i < k
  · rw [List.getElem?_append_left (by simpa using h1), List.getElem?_range (by omega), List.getElem?_range h1]
  · rw [List.getElem?_append_right (by simpa using h1), List.length_range]
    by_cases h2 : i = k
    · subst h2; rw [List.getElem?_range hk]; simp
    · obtain ⟨j, rfl⟩ : ∃ j, i = k + (j + 1) := ⟨i - k - 1, by omega⟩
      rw [show k + (j + 1) - k = j + 1 by omega, List.getElem?_cons_succ, List.getElem?_map]
      by_cases h3 : k + (j + 1) < n
      · rw [List.getElem?_range h3, List.getElem?_range (by omega)]
        simp; omega
      · rw [List.getElem?_eq_none (by simpa using h3), List.getElem?_eq_none (by simp; omega)]; rfl
theorem find_none {p : Nat → Bool} {n : Nat} (hno : ∀ j, j < n → p j = false) : (List.range n).find? p = none := by
  rw [List.find?_eq_none]
  intro a ha
  rw [hno a (List.mem_range.1 ha)]; simp
open Classical in
theorem fair_at {g : Gr} {k : Nat} (hk : k < g.spots.length) (h : ReachX g k ∧ FairX g k) (hno : ∀ j, j < k → ¬ (ReachX g j ∧ FairX g j)) : fairV g = (k : Int) ∧ fairC g = 0 := by
  have e : fairR g = some k := find_at hk (decide_eq_true h) (fun j hj => decide_eq_false (hno j hj))
  unfold fairV fairC
  rw [e]; exact ⟨rfl, rfl⟩
open Classical in
theorem fair_none {g : Gr} (hno : ∀ j, j < g.spots.length → ¬ (ReachX g j ∧ FairX g j)) : fairV g = 0 ∧ fairC g = 11 := by
  have e : fairR g = none := find_none (fun j hj => decide_eq_false (hno j hj))
  unfold fairV fairC
  rw [e]; exact ⟨rfl, rfl⟩

set_option maxHeartbeats 1600000 in
set_option maxRecDepth 20000 in
theorem sfair_bad (so no bo : Option Addr) (sc nc bc : Nat) (g : Gr) (w : World) (hz : GrLe g) (hV : GraphV w (.slice so g.spots.length sc) (.slice no g.next.length nc) (.slice bo g.sets.length bc) g) (hc : ¬ gcode g = 0) :
    Calls Try.prog 11 #[.agg #[.slice so g.spots.length sc, .int .i64 g.init, .slice no g.next.length nc, .slice bo g.sets.length bc, .int .i64 g.many]] w fun e w' => e = .returned (.tuple #[.int .i64 0, .int .i64 9]) ∧ Below w.heap.size w w' := by
  have hA : ∀ o, Below w.heap.size w (w.alloc o) := fun o => (Below.refl _ _).alloc (Nat.le_refl _) o
  have hch := fun o => sreached_bad so no bo sc nc bc g (w.alloc o) hz (hV.below (hA o)) hc
  clear hV hz hc
  generalize g.spots.length = sn at *
  generalize g.next.length = nn at *
  generalize g.sets.length = bn at *
  generalize g.init = gi at *
  generalize g.many = gm at *
  go_enter Try.func11, Try.ntmps11
  go_wp2_with (go_at_call 24; refine (hch _).mono ?_; rintro e w1 ⟨rfl, hb1⟩)
  go_ret2
  exact ⟨rfl, (hA _).trans (hb1.mono (hA _).size)⟩

set_option maxHeartbeats 3200000 in
set_option maxRecDepth 20000 in
theorem sfair_ok (so no bo : Option Addr) (sc nc bc : Nat) (g : Gr) (w : World) (hz : GrLe g) (hV : GraphV w (.slice so g.spots.length sc) (.slice no g.next.length nc) (.slice bo g.sets.length bc) g) (hc : gcode g = 0) :
    Calls Try.prog 11 #[.agg #[.slice so g.spots.length sc, .int .i64 g.init, .slice no g.next.length nc, .slice bo g.sets.length bc, .int .i64 g.many]] w fun e w' => e = .returned (.tuple #[.int .i64 (fairV g), .int .i64 (fairC g)]) ∧ Below w.heap.size w w' := by
  classical
  have hok := gcode_zero hc
  obtain ⟨W0, hW0⟩ : ∃ W0, W0 = w.alloc (.cells #[.slice so g.spots.length sc, .int .i64 g.init, .slice no g.next.length nc, .slice bo g.sets.length bc, .int .i64 g.many] 26) := ⟨_, rfl⟩
  have hA : Below w.heap.size w W0 := by rw [hW0]; exact (Below.refl _ _).alloc (Nat.le_refl _) _
  have hs0 : w.heap.size < W0.heap.size := by rw [hW0]; simp
  have hD : ∀ w1, Below W0.heap.size W0 w1 → w1.cell? ⟨w.heap.size, 0, none⟩ = some (.slice so g.spots.length sc) ∧ w1.cell? ⟨w.heap.size, 1, none⟩ = some (.int .i64 g.init) ∧ w1.cell? ⟨w.heap.size, 2, none⟩ = some (.slice no g.next.length nc) ∧ w1.cell? ⟨w.heap.size, 3, none⟩ = some (.slice bo g.sets.length bc) ∧ w1.cell? ⟨w.heap.size, 4, none⟩ = some (.int .i64 g.many) := fun w1 hb => by
    have c : ∀ j, w1.cell? ⟨w.heap.size, j, none⟩ = W0.cell? ⟨w.heap.size, j, none⟩ := fun j => hb.cell (p := ⟨w.heap.size, j, none⟩) hs0
    refine ⟨(c _).trans ?_, (c _).trans ?_, (c _).trans ?_, (c _).trans ?_, (c _).trans ?_⟩ <;> (rw [hW0]; simp [go_sem])
  have HRe : Hid (∀ x, x < g.spots.length → ((reachL g).getD x false = true ↔ ReachX g x)) := fun x hx => by
    unfold reachL
    rw [reachB_at hx, decide_eq_true_iff]; rfl
  have HRl : Hid ((reachL g).length = g.spots.length) := reachB_length _ _ _
  have hre := sreached_ok so no bo sc nc bc g W0 hz (hV.below hA) hc
  have HPa : Hid (∀ w1, Below W0.heap.size W0 w1 → Calls Try.prog 18 #[.agg #[.slice so g.spots.length sc, .int .i64 g.init, .slice no g.next.length nc, .slice bo g.sets.length bc, .int .i64 g.many]] w1 fun e w' => ∃ B, e = .returned (.slice (some ⟨B, 0, none⟩) g.spots.length g.spots.length) ∧ Below w1.heap.size w1 w' ∧ Hid (∃ pt, w1.heap.size ≤ B ∧ w'.rowIs B 3 g.spots.length (intRow pt) ∧ PartsOk g pt)) := fun w1 hb => partsOf_gr so no bo sc nc bc g w1 hz ((hV.below hA).below hb) hok
  have HFs : Hid (∀ w1 B, Below W0.heap.size W0 w1 → (∃ pt, w1.rowIs B 3 g.spots.length (intRow pt) ∧ PartsOk g pt) → Calls Try.prog 25 #[.agg #[.slice so g.spots.length sc, .int .i64 g.init, .slice no g.next.length nc, .slice bo g.sets.length bc, .int .i64 g.many], .slice (some ⟨B, 0, none⟩) g.spots.length g.spots.length] w1 fun e w' => ∃ Bf, e = .returned (.slice (some ⟨Bf, 0, none⟩) g.spots.length g.spots.length) ∧ Below w1.heap.size w1 w' ∧ Hid (w'.rowIs Bf 4 g.spots.length (fun x => .bool (decide (FairX g x))))) := fun w1 B hb ⟨pt, h1, h2⟩ => by
    obtain ⟨h3, h4⟩ := h2.pz
    have h5 : w1.rowIs B 3 g.spots.length (natRow fun x => (pt x).toNat) := h1.congr fun x hx => by unfold intRow natRow; rw [← h4 x hx]
    refine (fairSpots_any so no bo sc nc bc B g _ w1 hz ((hV.below hA).below hb) hok h5 (fun x hx => by have := h3.le hx; show (pt x).toNat < _; have : (pt x).toNat ≤ x := this; omega)).mono fun e w' ⟨Bf, e1, e2, e3⟩ => ⟨Bf, e1, e2, ?_⟩
    exact e3.out.2.congr fun x hx => by rw [fairB_x hok h3 hx]
  have HAt : Hid (∀ k, k < g.spots.length → ReachX g k ∧ FairX g k → (∀ j, j < k → ¬ (ReachX g j ∧ FairX g j)) → fairV g = (k : Int) ∧ fairC g = 0) := fun k hk h hno => fair_at hk h hno
  have HNo : Hid ((∀ j, j < g.spots.length → ¬ (ReachX g j ∧ FairX g j)) → fairV g = 0 ∧ fairC g = 11) := fair_none
  have hn := hok.head.n
  rw [hW0] at hre
  have HW0 : Hid (W0 = w.alloc (.cells #[.slice so g.spots.length sc, .int .i64 g.init, .slice no g.next.length nc, .slice bo g.sets.length bc, .int .i64 g.many] 26)) := hW0
  clear hV hz hc hok hW0
  generalize ReachX g = RX at *
  generalize FairX g = FX at *
  generalize fairV g = fv at *
  generalize fairC g = fc at *
  generalize reachL g = RL at *
  generalize PartsOk g = PO at *
  generalize g.spots.length = n at *
  generalize g.next.length = nn at *
  generalize g.sets.length = bn at *
  generalize g.init = gi at *
  generalize g.many = gm at *
  go_enter Try.func11, Try.ntmps11
  go_upto_region 4 with (go_at_call 24; refine hre.mono ?_; rintro e w1 ⟨vo, vc, rfl, hb1, HRb⟩; rw [← HW0.out] at hb1)
  have hpa := HPa.out w1.drew hb1.drew
  go_region_held3 (fun w' => w'.cell? ⟨w.heap.size, 0, none⟩ = some (.slice so n sc) ∧ w'.cell? ⟨w.heap.size, 1, none⟩ = some (.int .i64 gi) ∧ w'.cell? ⟨w.heap.size, 2, none⟩ = some (.slice no nn nc) ∧ w'.cell? ⟨w.heap.size, 3, none⟩ = some (.slice bo bn bc) ∧ w'.cell? ⟨w.heap.size, 4, none⟩ = some (.int .i64 gm))
    (exact hD _ (by first | exact hb1.drew | exact hb1 | exact hb12 | exact hb13))
    (first | (go_at_call 18; refine hpa.mono ?_; rintro e w2 ⟨B, rfl, hb2, HB⟩; have hb12 := hb1.trans ((undrewB hb2).mono hb1.size); have hfs := HFs.out w2 B hb12 (by obtain ⟨pt, h1, h2, h3⟩ := HB.out; exact ⟨pt, h2, h3⟩)) | (go_at_call 25; refine hfs.mono ?_; rintro e w3 ⟨Bf, rfl, hb3, HF⟩; have hb13 := hb12.trans (hb3.mono hb12.size)))
  have HRb3 : Hid (BoolsV w3 (.slice vo n vc) RL) := (HRb.out.below (undrewB hb2)).below hb3
  have hbw : Below w.heap.size w w3 := hA.trans (hb13.mono hA.size)
  clear HRb hb1 hb2 hb3 hb12 hb13 hpa hfs HB hD hre HPa HFs
  go_wp2_with fail
  go_loopw [22] (fun i wr => ∃ k : Nat, k ≤ n ∧ i = .int .i64 k ∧ Hid (∀ j, j < k → ¬ (RX j ∧ FX j)) ∧ ∃ d, wr = w3.drewN d) (fun i _ => n - (intOf i).toNat)
  case atStart => exact ⟨0, Nat.zero_le _, rfl, fun j hj => by omega, 0, rfl⟩
  case round =>
    obtain ⟨k, hk, rfl, HK, d, rfl⟩ := hrel
    have hbd := fun q => below_drewN hbw q
    by_cases hlt : k < n
    · obtain ⟨rb, roff, rfl, hrb, e1⟩ := boolsV_num HRb3.out (i := k) (by rw [HRl.out]; exact hlt)
      have e2 := HF.out.cell hlt
      have hr := HRe.out k hlt
      by_cases h1 : RX k
      · rw [hr.2 h1] at e1
        by_cases h2 : FX k
        · rw [decide_eq_true h2] at e2
          obtain ⟨rfl, rfl⟩ := HAt.out k hlt ⟨h1, h2⟩ HK.out
          go_wp2_with fail
          go_ret2
          exact ⟨rfl, hbd _⟩
        · rw [decide_eq_false h2] at e2
          have HN : Hid (∀ j, j < k + 1 → ¬ (RX j ∧ FX j)) := fun j hj => by
            by_cases e : j = k
            · subst e; exact fun h => h2 h.2
            · exact HK.out j (by omega)
          go_wp2_with fail
          go_roundw
          case rel => exact ⟨k + 1, hlt, by go_num, HN, _, rfl⟩
          case measure => simp [intOf]; omega
      · have e3 : RL.getD k false = false := by
          cases hx : RL.getD k false with
          | false => rfl
          | true => exact absurd (hr.1 hx) h1
        rw [e3] at e1
        have HN : Hid (∀ j, j < k + 1 → ¬ (RX j ∧ FX j)) := fun j hj => by
          by_cases e : j = k
          · subst e; exact fun h => h1 h.1
          · exact HK.out j (by omega)
        go_wp2_with fail
        go_roundw
        case rel => exact ⟨k + 1, hlt, by go_num, HN, _, rfl⟩
        case measure => simp [intOf]; omega
    · obtain rfl : k = n := by omega
      obtain ⟨rfl, rfl⟩ := HNo.out HK.out
      go_wp2_with fail
      go_ret2
      exact ⟨rfl, hbd _⟩
end Go.Proofs.Ytknneajaklcjdaa
