/-
  tape.Read.
-/
import Derived.Test.YtjnobdpjohbdnaaTRAt
namespace Go.Proofs.Ytjnobdpjohbdnaa
open Go.ChangeShapes Go.WideShapes Go.ChangeAt Go.RowKit Go.Deep

def nilV : Value := .slice none 0 0
theorem infoInts : (Try.prog.info? 37).map (fun i => (i.zero, i.size, i.bytes)) = some (some (.slice none 0 0), 1, 24) := by kernel_rfl
/-- LISTS OF NUMBERS that lie in memory of their own. -/
def LisO (w : World) (base : Nat) (v : Value) (rs : List (List Int)) : Prop :=
  ∃ us, w.ownsRow base 37 1 v rs.length us ∧ us.length = rs.length ∧ ∀ i, i < rs.length → w.ownsRow base 3 1 (us.getD i nilV) (rs.getD i []).length (ivals (rs.getD i []))
theorem LisO.nil (w : World) (base : Nat) : LisO w base (.slice none 0 0) [] := ⟨[], World.ownsRow_nil _ _ _ _, rfl, fun i hi => by simp at hi⟩
theorem LisO.mono {w : World} {base base' : Nat} {v : Value} {rs : List (List Int)} (h : LisO w base v rs) (hb : base' ≤ base) : LisO w base' v rs := by
  obtain ⟨us, h1, h2, h3⟩ := h
  exact ⟨us, owns_mono h1 hb, h2, fun i hi => owns_mono (h3 i hi) hb⟩
theorem LisO.later {w w' : World} {base B : Nat} {v : Value} {rs : List (List Int)} (h : LisO w base v rs) (hb : Below B w w') (hB : w.heap.size ≤ B) : LisO w' base v rs := by
  obtain ⟨us, h1, h2, h3⟩ := h
  exact ⟨us, owns_later h1 hb hB, h2, fun i hi => owns_later (h3 i hi) hb hB⟩
theorem LisO.shape {w : World} {base : Nat} {v : Value} {rs : List (List Int)} (h : LisO w base v rs) : ∃ ao cap, v = .slice ao rs.length cap := owns_slice h.choose_spec.1
theorem getD_app {α : Type} (a b : List α) (d : α) (i : Nat) : (a ++ b).getD i d = if i < a.length then a.getD i d else b.getD (i - a.length) d := by
  by_cases h : i < a.length
  · rw [if_pos h]; simp [List.getD_eq_getElem?_getD, List.getElem?_append_left h]
  · rw [if_neg h]; simp [List.getD_eq_getElem?_getD, List.getElem?_append_right (Nat.le_of_not_lt h)]
/-- one more list. -/
theorem LisO.snoc {w w' : World} {base : Nat} {v v' u : Value} {us : List Value} {rs : List (List Int)} {l : List Int} (h1 : w.ownsRow base 37 1 v rs.length us) (h2 : us.length = rs.length) (h3 : ∀ i, i < rs.length → w.ownsRow base 3 1 (us.getD i nilV) (rs.getD i []).length (ivals (rs.getD i [])))
    (hu : w.ownsRow base 3 1 u l.length (ivals l)) (ho : w'.ownsRow base 37 1 v' (rs.length + 1) (us ++ [u])) (hg : w.grownBy w' v.ownBlock) : LisO w' base v' (rs ++ [l]) := by
  refine ⟨us ++ [u], by simpa using ho, by simp [h2], fun i hi => ?_⟩
  rw [getD_app, getD_app, h2]
  have hne : ∀ (x : Value) (n : Nat) (xs : List Value), w.ownsRow base 3 1 x n xs → x.ownBlock = none ∨ x.ownBlock ≠ v.ownBlock := fun x n xs hx => owns_apart (by decide) hx h1
  by_cases hlt : i < rs.length
  · rw [if_pos hlt, if_pos hlt]
    exact (h3 i hlt).kept hg (hne _ _ _ (h3 i hlt))
  · rw [if_neg hlt, if_neg hlt]
    have : i = rs.length := by simp at hi; omega
    subst this
    rw [Nat.sub_self]
    exact hu.kept hg (hne _ _ _ hu)

theorem one_cell (w : World) (a : Value) (t : TypeId) : ∀ j u, [a][j]? = some u → (w.alloc (.cells #[a] t)).cell? ((⟨w.heap.size, 0, none⟩ : Addr).add j) = some u := by
  intro j u hj
  match j, hj with
  | 0, hj => simp at hj; subst hj; simp [Addr.add, go_sem]
/-- the bytes from a place on, as the code cuts them. -/
theorem BytesAt.rest {w : World} {b off cap : Nat} {d : List UInt8} (h : BytesAt w b off d) (hb : b < w.heap.size) (hc : d.length ≤ cap) {k : Nat} (hk : k ≤ d.length) : BytesV w (.slice (if cap = k then some ⟨b, off, none⟩ else some ⟨b, off + k, none⟩) (d.length - k) (cap - k)) (d.drop k) := by
  by_cases e : cap = k
  · rw [if_pos e]
    have : d.drop k = [] := List.drop_eq_nil_of_le (by omega)
    rw [this]
    exact ⟨some ⟨b, off, none⟩, cap - k, by simp; omega, ⟨by simp, fun h => by simp at h⟩, fun h => absurd rfl h⟩
  · rw [if_neg e]
    have := h.drop hb hc k
    rw [List.length_drop] at this
    exact this

set_option maxHeartbeats 1600000 in
set_option maxRecDepth 20000 in
theorem read_bad (ao : Option Addr) (cap : Nat) (l : List UInt8) (s : Int) (w : World) (hm : mayB l.length s = false) :
    Calls Try.prog 13 #[.agg #[.slice ao l.length cap, .int .i64 s]] w fun e w' => e = .returned (.tuple #[.slice none 0 0, .int .i64 0, .int .i64 9]) ∧ Below w.heap.size w w' := by
  obtain ⟨hbA, hcA⟩ := Bc.arg w (.slice ao l.length cap) (.int .i64 s) 29
  have hmb := mayBe_any ao l.length cap s (w.alloc (.cells #[.slice ao l.length cap, .int .i64 s] 29))
  rw [hm] at hmb
  have HA : Hid (∀ w1, Below (w.alloc (.cells #[.slice ao l.length cap, .int .i64 s] 29)).heap.size (w.alloc (.cells #[.slice ao l.length cap, .int .i64 s] 29)) w1 → Below w.heap.size w w1) := fun w1 hb => hbA.trans (hb.mono hbA.size)
  generalize l.length = n at *
  clear hbA hcA hm
  go_enter Try.func13, Try.ntmps13
  go_wp2_with (go_at_call 21; refine hmb.mono ?_; rintro e w1 ⟨rfl, hb1⟩; have hx := HA.out w1 hb1)
  go_ret3
  exact ⟨rfl, hx⟩

set_option maxRecDepth 20000 in
theorem recordAt_nil (x : Option Addr) (c : Nat) (w : World) : Calls Try.prog 22 #[.slice x 0 c] w fun e w' => e = .returned (.tuple #[.slice none 0 0, .bool false]) ∧ w' = w := by
  go_enter Try.func22, Try.ntmps22
  go_wp2
  go_ret2
  exact ⟨rfl, rfl⟩
theorem rs_bound {n a m : Nat} (h1 : 8 * n ≤ a) (h2 : a ≤ m) (h3 : m ≤ 1048576) : (n + 1) * 24 ≤ 140737488355328 ∧ n + 1 ≤ maxLen := by
  unfold maxLen
  omega
theorem step_meas {m a y : Nat} (h : a + y ≤ m) (hy : 8 ≤ y) : m - (intOf (Value.int .i64 ((a : Int) + (y : Int)))).toNat < m - (intOf (Value.int .i64 (a : Int))).toNat := by
  have hi1 : (intOf (Value.int .i64 ((a : Int) + (y : Int)))).toNat = a + y := by show ((a : Int) + (y : Int)).toNat = a + y; omega
  have hi2 : (intOf (Value.int .i64 (a : Int))).toNat = a := by show ((a : Int)).toNat = a; omega
  rw [hi1, hi2]
  omega
/-- what Read answers of a tape. -/
def RdPost (w : World) (d : List UInt8) (e : Ending) (w' : World) : Prop :=
  ∃ ao cap, e = .returned (.tuple #[.slice ao (readL d).1.length cap, .int .i64 (readL d).2, .int .i64 0]) ∧ Below w.heap.size w w' ∧ Hid (LisO w' w.heap.size (.slice ao (readL d).1.length cap) (readL d).1)

set_option maxHeartbeats 1600000 in
set_option maxRecDepth 20000 in
theorem read_ok (ao : Option Addr) (cap : Nat) (d : List UInt8) (s : Int) (w : World) (hm : mayB d.length s = true) (hV : BytesV w (.slice ao d.length cap) d) :
    Calls Try.prog 13 #[.agg #[.slice ao d.length cap, .int .i64 s]] w (RdPost w d) := by
  have hl : d.length ≤ 1048576 := by simp [mayB] at hm; omega
  obtain ⟨hbA, hcA⟩ := Bc.arg w (.slice ao d.length cap) (.int .i64 s) 29
  have hmb := mayBe_any ao d.length cap s (w.alloc (.cells #[.slice ao d.length cap, .int .i64 s] 29))
  rw [hm] at hmb
  have HA : Hid (∀ w1, Below (w.alloc (.cells #[.slice ao d.length cap, .int .i64 s] 29)).heap.size (w.alloc (.cells #[.slice ao d.length cap, .int .i64 s] 29)) w1 → Below w.heap.size w w1 ∧ Bc w1 w.heap.size (.slice ao d.length cap) (.int .i64 s)) := fun w1 hb => ⟨hbA.trans (hb.mono hbA.size), hcA.later hb⟩
  obtain ⟨i0, hi, hz0, hz1, hz2⟩ := info_parts infoInts
  by_cases hd0 : d = []
  · subst hd0
    have hrn := fun (x : Option Addr) (c : Nat) (w1 : World) => recordAt_nil x c w1
    have HL : Hid (readL [] = ([], 0)) := by show _ = _; rfl
    simp only [List.length_nil] at hmb HA ⊢
    obtain ⟨ao', cap', e1, ⟨hlc, hno⟩, _⟩ := id hV
    injection e1 with e1 e2 e3
    subst e1 e3
    clear e2 hV hm hbA hcA
    have hc0 : (0 : Int) ≤ (cap : Int) := by omega
    cases ao with
    | none =>
      obtain ⟨rfl, _⟩ := hno rfl
      go_enter Try.func13, Try.ntmps13
      go_wp2_with (first | (go_at_call 21; refine hmb.mono ?_; rintro e w1 ⟨rfl, hb1⟩; obtain ⟨hx, hc⟩ := HA.out w1 hb1; obtain ⟨_, a0, a1⟩ := id hc))
      go_loopw [5, 6] (fun u i wr => u = .slice none 0 0 ∧ i = .int .i64 0 ∧ wr = w1) (fun _ _ _ => 0)
      case atStart => exact ⟨rfl, rfl, rfl⟩
      case round =>
        obtain ⟨rfl, rfl, rfl⟩ := hrel
        go_wp2_with (first | (go_at_call 22; refine (hrn _ _ _).mono ?_; rintro e w2 ⟨rfl, rfl⟩))
        go_ret3
        exact ⟨none, 0, by rw [HL.out]; rfl, hx, by rw [HL.out]; exact LisO.nil _ _⟩
    | some ad =>
      go_enter Try.func13, Try.ntmps13
      go_wp2_with (first | (go_at_call 21; refine hmb.mono ?_; rintro e w1 ⟨rfl, hb1⟩; obtain ⟨hx, hc⟩ := HA.out w1 hb1; obtain ⟨_, a0, a1⟩ := id hc))
      go_loopw [5, 6] (fun u i wr => u = .slice none 0 0 ∧ i = .int .i64 0 ∧ wr = w1) (fun _ _ _ => 0)
      case atStart => exact ⟨rfl, rfl, rfl⟩
      case round =>
        obtain ⟨rfl, rfl, rfl⟩ := hrel
        go_wp2_with (first | (go_at_call 22; refine (hrn _ _ _).mono ?_; rintro e w2 ⟨rfl, rfl⟩))
        go_ret3
        exact ⟨none, 0, by rw [HL.out]; rfl, hx, by rw [HL.out]; exact LisO.nil _ _⟩
  · obtain ⟨b, off, rfl, hbl, _, hmc, hba⟩ := hV.at (List.length_pos_iff.2 hd0)
    have HRa : Hid (∀ (at' : Nat) (w1 : World), at' ≤ d.length → Below w.heap.size w w1 → Calls Try.prog 22 #[.slice (if cap = at' then some ⟨b, off, none⟩ else some ⟨b, off + at', none⟩) (d.length - at') (cap - at')] w1 (RaPost w1 (d.drop at'))) := fun at' w1 hk hb => by
      have hv := (hba.below hb hbl).rest (Nat.lt_of_lt_of_le hbl hb.size) hmc hk
      have := recordAt_any (if cap = at' then some ⟨b, off, none⟩ else some ⟨b, off + at', none⟩) (cap - at') (d.drop at') w1 (by rw [List.length_drop]; omega) (by rw [List.length_drop]; exact hv)
      rw [List.length_drop] at this
      exact this
    obtain ⟨m, hmd⟩ : ∃ m, d.length = m := ⟨_, rfl⟩
    have HM : Hid (d.length = m) := hmd
    have HLe : Hid (∀ k, (run k d).2 ≤ m ∧ 8 * (run k d).1.length ≤ (run k d).2) := fun k => ⟨by have := run_le d k; omega, run_records d k⟩
    rw [hmd] at hmb HA HRa hmc hl ⊢
    clear hmd hV hm hbA hcA hd0 hba
    go_enter Try.func13, Try.ntmps13
    go_wp2_with (go_at_call 21; refine hmb.mono ?_; rintro e w1 ⟨rfl, hb1⟩; obtain ⟨hx, hc⟩ := HA.out w1 hb1)
    go_loopw [5, 6] (fun u i wr => ∃ k : Nat, Hid (8 * k ≤ (run k d).2) ∧ i = .int .i64 ((run k d).2 : Nat) ∧ (∃ a c, u = .slice a (run k d).1.length c ∧ Hid (LisO wr w1.heap.size (.slice a (run k d).1.length c) (run k d).1)) ∧ Below w1.heap.size w1 wr) (fun _ i _ => m - (intOf i).toNat)
    case atStart => exact ⟨0, Nat.le_refl _, rfl, ⟨none, 0, rfl, LisO.nil _ _⟩, Below.refl _ _⟩
    case round =>
      obtain ⟨k, HK, rfl, ⟨a, c, rfl, HL⟩, hB⟩ := hrel
      obtain ⟨hp1, hp2⟩ := HLe.out k
      obtain ⟨_, a0, a1⟩ := hc.later hB
      have hbw := hx.trans (hB.mono hx.size)
      have hra := HRa.out (run k d).2 wr hp1 hbw
      have j1 : ((run k d).2 : Int) ≤ (m : Int) := by omega
      have j2 : (run k d).2 ≤ cap := by omega
      cases hr : recAt (d.drop (run k d).2) with
      | none =>
        have HE : Hid (readL d = run k d) := read_stop HK.out hr
        have hra' : Calls Try.prog 22 #[.slice (if cap = (run k d).2 then some ⟨b, off, none⟩ else some ⟨b, off + (run k d).2, none⟩) (m - (run k d).2) (cap - (run k d).2)] wr fun e w' => e = .returned (.tuple #[.slice none 0 0, .bool false]) ∧ Below wr.heap.size wr w' := hra.mono fun e w' h => ⟨h.2.1 hr, h.1⟩
        clear hra hr
        generalize hrk : run k d = rk at *
        clear hrk
        obtain ⟨rs, at'⟩ := rk
        simp only at *
        have HFin : Hid (∀ (w2 : World), Below wr.heap.size wr w2 → RdPost w d (.returned (.tuple #[.slice a rs.length c, .int .i64 at', .int .i64 0])) w2) := fun w2 hb2 => ⟨a, c, by rw [HE.out], hbw.trans (hb2.mono hbw.size), by rw [HE.out]; exact (HL.out.later hb2 (Nat.le_refl _)).mono hx.size⟩
        clear HLe
        by_cases hca : cap = at'
        · rw [if_pos hca] at hra'
          obtain rfl : m = cap := by omega
          subst hca
          simp only [Nat.sub_self] at hra'
          go_wp2_with (first | (go_at_call 22; refine hra'.mono ?_; rintro e w2 ⟨rfl, hb2⟩))
          go_ret3
          exact HFin.out w2 hb2
        · rw [if_neg hca] at hra'
          go_wp2_with (first | (go_at_call 22; refine hra'.mono ?_; rintro e w2 ⟨rfl, hb2⟩))
          go_ret3
          exact HFin.out w2 hb2
      | some l =>
        have hnx := run_go hr
        obtain ⟨hw0, hxa, hln, hxb, hxc⟩ := recAt_some hr
        clear hxa hxb hxc
        have HKn : Hid (8 * (k + 1) ≤ (run k d).2 + (4 * l.length + 8)) := by have := HK.out; show _ ≤ _; omega
        rw [List.length_drop, HM.out] at hln
        have hl4 : l.length ≤ 4000 := by unfold wrC at hw0; split at hw0 <;> omega
        have hra' : Calls Try.prog 22 #[.slice (if cap = (run k d).2 then some ⟨b, off, none⟩ else some ⟨b, off + (run k d).2, none⟩) (m - (run k d).2) (cap - (run k d).2)] wr fun e w' => ∃ ao cap, e = .returned (.tuple #[.slice ao l.length cap, .bool true]) ∧ Below wr.heap.size wr w' ∧ Hid (w'.ownsRow wr.heap.size 3 1 (.slice ao l.length cap) l.length (ivals l)) := hra.mono fun e w' h => by
          obtain ⟨x, y, h1, h2⟩ := h.2.2 l hr
          exact ⟨x, y, h1, h.1, h2⟩
        have hrb := fun w1 => recordBytes_any l.length w1 (by omega)
        have HNx : Hid (run (k + 1) d = ((run k d).1 ++ [l], (run k d).2 + (4 * l.length + 8))) := hnx
        have HKs : Hid (8 * (k + 1) ≤ (run (k + 1) d).2) := by show _ ≤ _; rw [hnx]; exact HKn.out
        clear hra hr hnx hw0 HKn HK
        generalize hrk : run k d = rk at *
        clear hrk
        obtain ⟨rs, at'⟩ := rk
        simp only at *
        obtain ⟨us, hu1, hu2, hu3⟩ := HL.out
        have HU3 : Hid (∀ i, i < rs.length → wr.ownsRow w1.heap.size 3 1 (us.getD i nilV) (rs.getD i []).length (ivals (rs.getD i []))) := hu3
        have HU1 : Hid (wr.ownsRow w1.heap.size 37 1 (.slice a rs.length c) rs.length us ∧ us.length = rs.length) := ⟨hu1, hu2⟩
        obtain ⟨y, hy⟩ : ∃ y, 4 * l.length + 8 = y := ⟨_, rfl⟩
        rw [hy] at hrb hln HNx
        have hy8 : 8 ≤ y := by omega
        have HMe : Hid (at' + y ≤ m) := (by omega : at' + y ≤ m)
        have hca : ¬ cap = at' := by omega
        have hsum : wrap64 ((at' : Int) + (y : Int)) = ((at' + y : Nat) : Int) := by rw [IntWalk.wrap64_in _ (by omega)]; omega
        have hsum' : IntKind.i64.wrap ((at' : Int) + (y : Int)) = ((at' + y : Nat) : Int) := by rw [IntWalk.i64_left]; exact hsum
        obtain ⟨hrn, hrm⟩ := rs_bound hp2 hp1 hl
        have HLS : Hid (∀ (w2 w4 : World) (u v' : Value), Below wr.heap.size wr w2 → w2.ownsRow wr.heap.size 3 1 u l.length (ivals l) → (w2.alloc (.cells #[u] 37)).grownBy w4 (Value.slice a rs.length c).ownBlock → w4.ownsRow w1.heap.size 37 1 v' (rs.length + 1) (us ++ [u]) → LisO w4 w1.heap.size v' (rs ++ [l])) := fun w2 w4 u v' hb hu hg ho => LisO.snoc (w := w2.alloc (.cells #[u] 37)) ((owns_later HU1.out.1 hb (Nat.le_refl _)).alloc _) HU1.out.2 (fun i hi => (owns_later (HU3.out i hi) hb (Nat.le_refl _)).alloc _) ((owns_mono hu hB.size).alloc _) ho hg
        have HLn : Hid ((rs ++ [l]).length = rs.length + 1) := by show _ = _; simp
        generalize hll : l.length = ll at *
        have HLl : Hid (l.length = ll) := hll
        clear hu3 hu1 hu2 HL hy hll
        obtain ⟨rn, hrnn⟩ : ∃ rn, rs.length = rn := ⟨_, rfl⟩
        have HRn : Hid (rs.length = rn) := hrnn
        rw [hrnn] at hrn hrm HLS HU1 HLn hp2 ⊢
        clear hrnn HU3
        rw [if_neg hca] at hra'
        have hw1r := hB.size
        go_wp2_with (first | (go_at_call 22; refine hra'.mono ?_; rintro e w2 ⟨xo, xc, rfl, hb2, hO2⟩; have hrow := owns_later HU1.out.1 hb2 (Nat.le_refl _); have hB2 := hB.trans (hb2.mono hB.size); have hs2 := hB2.size) | (at_builtin; refine wpList_append_own _ rfl _ _ 27 rfl w1.heap.size 37 i0 (.slice none 0 0) 1 24 Try.underlying27 hi hz0 hz1 hz2 rfl (by decide) (.slice a rn c) rn us rfl (hrow.alloc _) ⟨w2.heap.size, 0, none⟩ 1 1 [.slice xo ll xc] rfl rfl (one_cell _ _ _) (by simp [Value.oneCell']) hrm hrn (Nat.le_trans hs2 (by simp)) ?_; intro v' w4 hown' hgrow _; have hb4 : Below w1.heap.size w1 w4 := (hB2.alloc hB2.size _).grown hgrow (Nat.le_trans hs2 (by simp)) (fun q hq => (hrow.lt q hq).1); have hL4 := HLS.out w2 w4 _ v' hb2 (by rw [← HLl.out] at hO2 ⊢; exact hO2.out) hgrow hown'; obtain ⟨a4, c4, hv4⟩ := owns_slice hown'; subst hv4; clear hgrow) | (go_at_call 23; refine (hrb _).mono ?_; rintro e w5 ⟨rfl, rfl⟩))
        have e1 : (run (k + 1) d).1.length = rn + 1 := by rw [HNx.out]; exact HLn.out
        have e2 : (run (k + 1) d).1 = rs ++ [l] := by rw [HNx.out]
        have e3 : (run (k + 1) d).2 = at' + y := by rw [HNx.out]
        clear HNx HLn
        refine ⟨⟨k + 1, HKs.out, by rw [e3, Int.natCast_add], ⟨a4, c4, by rw [e1], by rw [e1, e2]; exact hL4⟩, hb4⟩, step_meas HMe.out hy8⟩
end Go.Proofs.Ytjnobdpjohbdnaa
