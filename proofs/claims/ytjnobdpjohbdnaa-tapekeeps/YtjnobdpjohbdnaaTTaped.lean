/-
  The keeping laws' own taped: a tape with some records.
-/
import Derived.Test.YtjnobdpjohbdnaaTKeep
import Derived.Test.YtjnobdpjohbdnaaTWrite
namespace Go.Proofs.Ytjnobdpjohbdnaa
open Go.ChangeShapes Go.WideShapes Go.ChangeAt Go.RowKit Go.Deep

/-- the records, and their bytes. -/
def rsN (ls : List (List Int)) : List (List Int) := (ls.take 10).map recN
def bysN (rs : List (List Int)) : List UInt8 := rs.flatMap recB
theorem rsN_length (ls : List (List Int)) : (rsN ls).length = min 10 ls.length := by simp [rsN]
theorem bysN_snoc (rs : List (List Int)) (l : List Int) : bysN (rs ++ [l]) = bysN rs ++ recB l := by simp [bysN]
theorem rsN_take {ls : List (List Int)} {k : Nat} (h : k < ls.length) (h10 : k < 10) : (rsN ls).take (k + 1) = (rsN ls).take k ++ [recN (ls.getD k [])] := by
  rw [List.take_add_one]
  simp [rsN, List.getD_eq_getElem?_getD, h, h10]
theorem rsN_small (ls : List (List Int)) : ∀ l ∈ rsN ls, l.length ≤ 12 ∧ wrC l = 0 := by
  intro l hl
  simp only [rsN, List.mem_map] at hl
  obtain ⟨x, _, rfl⟩ := hl
  exact ⟨(recN_ok x).2.1, (recN_ok x).2.2⟩
theorem bysN_le : ∀ (rs : List (List Int)), (∀ l ∈ rs, l.length ≤ 12) → (bysN rs).length ≤ 56 * rs.length
  | [], _ => by simp [bysN]
  | l :: rs, h => by
    have ih := bysN_le rs (fun x hx => h x (by simp [hx]))
    have hl := h l (by simp)
    have e : bysN (l :: rs) = recB l ++ bysN rs := rfl
    rw [e, List.length_append, recB_length, List.length_cons]
    omega
/-- a box of the law's own. -/
structure TB (w : World) (T : Nat) (v0 v1 : Value) : Prop where
  lt : T < w.heap.size
  c0 : w.cell? ⟨T, 0, none⟩ = some v0
  c1 : w.cell? ⟨T, 1, none⟩ = some v1
  f0 : w.frozen? ⟨T, 0, none⟩ = false
  f1 : w.frozen? ⟨T, 1, none⟩ = false
theorem TB.later {w w' : World} {T B : Nat} {v0 v1 : Value} (h : TB w T v0 v1) (hb : Below B w w') (hB : T < B) : TB w' T v0 v1 :=
  ⟨Nat.lt_of_lt_of_le h.lt hb.size, (hb.cell (p := ⟨T, 0, none⟩) hB).trans h.c0, (hb.cell (p := ⟨T, 1, none⟩) hB).trans h.c1, (hb.frozen (p := ⟨T, 0, none⟩) hB).trans h.f0, (hb.frozen (p := ⟨T, 1, none⟩) hB).trans h.f1⟩
theorem TB.set {w : World} {T : Nat} {v0 v1 : Value} (h : TB w T v0 v1) (x0 x1 : Value) : TB ((w.setCell ⟨T, 0, none⟩ x0).setCell ⟨T, 1, none⟩ x1) T x0 x1 := by
  obtain ⟨h0, h1, h2, h3, h4⟩ := h
  exact ⟨by simpa using h0, by simp [go_sem, h1], by simp [go_sem, h2], by simp [go_sem, h3], by simp [go_sem, h4]⟩
theorem TB.other {w : World} {T U : Nat} {v0 v1 : Value} (h : TB w T v0 v1) (_hn : U ≠ T) (x0 x1 : Value) : TB ((w.setCell ⟨U, 0, none⟩ x0).setCell ⟨U, 1, none⟩ x1) T v0 v1 := by
  obtain ⟨h0, h1, h2, h3, h4⟩ := h
  exact ⟨by simpa using h0, by simp [go_sem, h1], by simp [go_sem, h2], by simp [go_sem, h3], by simp [go_sem, h4]⟩
theorem TB.start (w : World) (t : TypeId) : TB ((w.alloc (.cells #[.slice none 0 0, .int .i64 0] t)).alloc (.cells #[.slice none 0 0, .int .i64 0] t)) w.heap.size (.slice none 0 0) (.int .i64 0) ∧ TB ((w.alloc (.cells #[.slice none 0 0, .int .i64 0] t)).alloc (.cells #[.slice none 0 0, .int .i64 0] t)) (w.heap.size + 1) (.slice none 0 0) (.int .i64 0) := by
  constructor <;> (constructor <;> simp [go_sem])
theorem LisO.low {w : World} {base : Nat} {v : Value} {rs : List (List Int)} (h : LisO w base v rs) {p : Addr} (hp : p.block < base) (u : Value) : LisO (w.setCell p u) base v rs := by
  obtain ⟨us, h1, h2, h3⟩ := h
  exact ⟨us, owns_setCell h1 hp u, h2, fun i hi => owns_setCell (h3 i hi) hp u⟩

theorem two_cell (w : World) (T : Nat) (nv u : Value) (t : TypeId) : ∀ j x, [u][j]? = some x → ((((w.setCell ⟨T, 0, none⟩ nv).setCell ⟨T, 1, none⟩ (.int .i64 0)).alloc (.cells #[nv, .int .i64 0] 29)).alloc (.cells #[u] t)).cell? ((⟨w.heap.size + 1, 0, none⟩ : Addr).add j) = some x := by
  have h := one_cell (((w.setCell ⟨T, 0, none⟩ nv).setCell ⟨T, 1, none⟩ (.int .i64 0)).alloc (.cells #[nv, .int .i64 0] 29)) u t
  have e : (((w.setCell ⟨T, 0, none⟩ nv).setCell ⟨T, 1, none⟩ (.int .i64 0)).alloc (.cells #[nv, .int .i64 0] 29)).heap.size = w.heap.size + 1 := by simp
  rw [e] at h
  exact h
/-- THE LAW's TAPE. -/
def TpPost (w : World) (ls : List (List Int)) (e : Ending) (w' : World) : Prop :=
  ∃ ta tc a c, e = .returned (.tuple #[.agg #[.slice ta (bysN (rsN ls)).length tc, .int .i64 0], .slice a (rsN ls).length c, .bool true]) ∧ Below w.heap.size w w' ∧
    Hid (w'.ownsRow w.heap.size 5 1 (.slice ta (bysN (rsN ls)).length tc) (bysN (rsN ls)).length (bvals (bysN (rsN ls))) ∧ LisO w' w.heap.size (.slice a (rsN ls).length c) (rsN ls))

set_option maxHeartbeats 1600000 in
set_option maxRecDepth 20000 in
theorem taped_any (v : Value) (ls : List (List Int)) (w : World) (hz : ls.length * 24 ≤ 140737488355328) (hV : ListsR w v ls) :
    Calls Try.prog 12 #[v] w (TpPost w ls) := by
  obtain ⟨ao, cap, rfl⟩ : ∃ ao cap, v = .slice ao ls.length cap := by obtain ⟨_, a, c, h, _⟩ := id hV; exact ⟨a, c, h⟩
  obtain ⟨hR0, hT0⟩ := TB.start w 29
  have hb0 : Below w.heap.size w ((w.alloc (.cells #[.slice none 0 0, .int .i64 0] 29)).alloc (.cells #[.slice none 0 0, .int .i64 0] 29)) := ((Below.refl _ _).alloc (Nat.le_refl _) _).alloc (by simp) _
  have hsz0 : w.heap.size + 1 + 1 ≤ ((w.alloc (.cells #[.slice none 0 0, .int .i64 0] 29)).alloc (.cells #[.slice none 0 0, .int .i64 0] 29)).heap.size := by simp
  obtain ⟨i0, hi, hz0, hz1, hz2⟩ := info_parts infoInts
  have HV : Hid (∀ w1, Below w.heap.size w w1 → ListsR w1 (.slice ao ls.length cap) ls) := fun w1 hb => hV.below hb
  have HRe : Hid (∀ (v : Value) (l : List Int) (w1 : World), IntsR w1 v l → Calls Try.prog 16 #[v] w1 fun e w' => ∃ ao cap, e = .returned (.slice ao (recN l).length cap) ∧ Below w1.heap.size w1 w' ∧ Hid (w'.ownsRow w1.heap.size 3 1 (.slice ao (recN l).length cap) (recN l).length (ivals (recN l)))) := fun v l w1 h => record_any v l w1 h
  obtain ⟨n, hn⟩ : ∃ n, ls.length = n := ⟨_, rfl⟩
  have HN : Hid (ls.length = n) := hn
  rw [hn] at hz HV ⊢
  clear hn hV
  have HLe : Hid (∀ k, k ≤ 10 → (bysN ((rsN ls).take k)).length ≤ 560) := fun k hk => by
    have h1 := bysN_le ((rsN ls).take k) (fun x hx => ((rsN_small ls) x (List.mem_of_mem_take hx)).1)
    have h2 : ((rsN ls).take k).length ≤ 10 := by rw [List.length_take]; omega
    omega
  go_enter Try.func12, Try.ntmps12
  go_wp2_with fail
  go_loopw [6, 7] (fun u i wr => ∃ k : Nat, k ≤ n ∧ k ≤ 10 ∧ i = .int .i64 k ∧ (∃ a c, u = .slice a k c ∧ Hid (LisO wr (w.heap.size + 1 + 1) (.slice a k c) ((rsN ls).take k))) ∧ Below w.heap.size w wr ∧ w.heap.size + 1 + 1 ≤ wr.heap.size ∧ TB wr w.heap.size (.slice none 0 0) (.int .i64 0) ∧ (∃ ta tc tn, Hid (tn = (bysN ((rsN ls).take k)).length) ∧ TB wr (w.heap.size + 1) (.slice ta tn tc) (.int .i64 0) ∧ Hid (wr.ownsRow (w.heap.size + 1 + 1) 5 1 (.slice ta tn tc) tn (bvals (bysN ((rsN ls).take k)))))) (fun _ i _ => 10 - (intOf i).toNat)
  case atStart => exact ⟨0, Nat.zero_le _, Nat.zero_le _, rfl, ⟨none, 0, rfl, LisO.nil _ _⟩, hb0, hsz0, hR0, none, 0, 0, rfl, hT0, World.ownsRow_nil _ _ _ _⟩
  case round =>
    obtain ⟨k, hk, hk10, rfl, ⟨a, c, rfl, HL⟩, hB, hsz, hR, ta, tc, tn, HTn, hT, HTo⟩ := hrel
    by_cases hlt : k < n
    · by_cases hlt3 : k < 10
      · have hlt2 : k < ls.length := by rw [HN.out]; exact hlt
        obtain ⟨b, off, rfl, hbl, uo, uc, c1, hu⟩ := (HV.out wr hB).at hlt2
        have hre := HRe.out _ (ls.getD k []) wr hu
        have HTk := rsN_take hlt2 hlt3
        obtain ⟨r, hr⟩ : ∃ r, recN (ls.getD k []) = r := ⟨_, rfl⟩
        obtain ⟨hr1, hr2, hr3⟩ := recN_ok (ls.getD k [])
        rw [hr] at hre HTk hr1 hr2 hr3
        have hd56 := HLe.out k hk10
        have HWr : Hid (∀ (xo : Option Addr) (xc : Nat) (w2 : World), Below wr.heap.size wr w2 → IntsV w2 (.slice xo r.length xc) r → Calls Try.prog 17 #[.agg #[.slice ta tn tc, .int .i64 0], .slice xo r.length xc] w2 fun e w' => ∃ ya yc, e = .returned (.tuple #[.agg #[.slice ya (tn + (4 * r.length + 8)) yc, .int .i64 0], .int .i64 0]) ∧ Below w2.heap.size w2 w' ∧ Hid (w'.ownsRow w2.heap.size 5 1 (.slice ya (tn + (4 * r.length + 8)) yc) (tn + (4 * r.length + 8)) (bvals (bysN ((rsN ls).take (k + 1)))))) := fun xo xc w2 hb hv => by
          have hbv : BytesV w2 (.slice ta tn tc) (bysN ((rsN ls).take k)) := bytesV_of_owns (l := bysN ((rsN ls).take k)) (by rw [← HTn.out]; exact owns_later HTo.out hb (Nat.le_refl _))
          have htn := HTn.out
          rw [htn] at hbv ⊢
          have := write_ok ta tc (bysN ((rsN ls).take k)) 0 (.slice xo r.length xc) r w2 hbv hv (by simp [mayB]; omega) (by omega) hr1 (by omega)
          rw [HTk, bysN_snoc]
          refine this.mono fun e w' ⟨ya, yc, h1, h2, h3⟩ => ?_
          have hle : (bysN ((rsN ls).take k) ++ recB r).length = (bysN ((rsN ls).take k)).length + (4 * r.length + 8) := by rw [List.length_append, recB_length]
          rw [hle] at h1 h3
          exact ⟨ya, yc, h1, h2, h3⟩
        have HTk' : Hid ((rsN ls).take (k + 1) = (rsN ls).take k ++ [r]) := HTk
        have HIv : Hid (∀ (w1 : World) (b : Nat) (v : Value), w1.ownsRow b 3 1 v r.length (ivals r) → IntsV w1 v r) := fun w1 b v h => intsV_of_owns h
        have HLk : Hid (((rsN ls).take k).length = k) := by show _ = _; rw [List.length_take, rsN_length, HN.out]; omega
        have HLS : Hid (∀ (X w4 : World) (us : List Value) (u v' : Value), X.ownsRow (w.heap.size + 1 + 1) 37 1 (.slice a k c) k us → us.length = k → (∀ i, i < k → X.ownsRow (w.heap.size + 1 + 1) 3 1 (us.getD i nilV) (((rsN ls).take k).getD i []).length (ivals (((rsN ls).take k).getD i []))) → X.ownsRow (w.heap.size + 1 + 1) 3 1 u r.length (ivals r) → (X.alloc (.cells #[u] 37)).grownBy w4 (Value.slice a k c).ownBlock → w4.ownsRow (w.heap.size + 1 + 1) 37 1 v' (k + 1) (us ++ [u]) → LisO w4 (w.heap.size + 1 + 1) v' ((rsN ls).take (k + 1))) := fun X w4 us u v' h1 h2 h3 h4 hg ho => by
          rw [HTk'.out]
          have hk' := HLk.out
          exact LisO.snoc (w := X.alloc (.cells #[u] 37)) (v := .slice a k c) (by rw [hk']; exact h1.alloc _) (by rw [hk']; exact h2) (fun i hi => (h3 i (by omega)).alloc _) (h4.alloc _) (by rw [hk']; exact ho) hg
        have HUs : Hid (∃ us, wr.ownsRow (w.heap.size + 1 + 1) 37 1 (.slice a k c) k us ∧ us.length = k ∧ ∀ i, i < k → wr.ownsRow (w.heap.size + 1 + 1) 3 1 (us.getD i nilV) (((rsN ls).take k).getD i []).length (ivals (((rsN ls).take k).getD i []))) := by
          obtain ⟨us, h1, h2, h3⟩ := HL.out
          have hk' := HLk.out
          exact ⟨us, by rw [hk'] at h1; exact h1, by omega, fun i hi => h3 i (by omega)⟩
        obtain ⟨us, hu1, hu2, hu3⟩ := HUs.out
        have HU3 : Hid (us.length = k ∧ ∀ i, i < k → wr.ownsRow (w.heap.size + 1 + 1) 3 1 (us.getD i nilV) (((rsN ls).take k).getD i []).length (ivals (((rsN ls).take k).getD i []))) := ⟨hu2, hu3⟩
        have HU1 : Hid (wr.ownsRow (w.heap.size + 1 + 1) 37 1 (.slice a k c) k us) := hu1
        have HTn' : Hid (tn + (4 * r.length + 8) = (bysN ((rsN ls).take (k + 1))).length) := by show _ = _; rw [HTk, bysN_snoc, List.length_append, recB_length, HTn.out]
        have htl : tn ≤ 560 := by have := HTn.out; omega
        obtain ⟨y, hy⟩ : ∃ y, tn + (4 * r.length + 8) = y := ⟨_, rfl⟩
        rw [hy] at HWr HTn'
        have hcmp : (tn : Int) + 8 + 4 * (r.length : Int) = (y : Int) := by omega
        have hrl : (r.length : Int) ≤ 12 := by omega
        have HXr : Hid (∀ (w3 : World) (nv : Value), Below wr.heap.size wr w3 → (((w3.setCell ⟨w.heap.size + 1, 0, none⟩ nv).setCell ⟨w.heap.size + 1, 1, none⟩ (.int .i64 0)).alloc (.cells #[nv, .int .i64 0] 29)).ownsRow (w.heap.size + 1 + 1) 37 1 (.slice a k c) k us ∧ ∀ i, i < k → (((w3.setCell ⟨w.heap.size + 1, 0, none⟩ nv).setCell ⟨w.heap.size + 1, 1, none⟩ (.int .i64 0)).alloc (.cells #[nv, .int .i64 0] 29)).ownsRow (w.heap.size + 1 + 1) 3 1 (us.getD i nilV) (((rsN ls).take k).getD i []).length (ivals (((rsN ls).take k).getD i []))) := fun w3 nv hb => ⟨(owns_setCell (owns_setCell (owns_later HU1.out hb (Nat.le_refl _)) (p := ⟨w.heap.size + 1, 0, none⟩) (by show w.heap.size + 1 < _; omega) _) (p := ⟨w.heap.size + 1, 1, none⟩) (by show w.heap.size + 1 < _; omega) _).alloc _, fun i hi => (owns_setCell (owns_setCell (owns_later (HU3.out.2 i hi) hb (Nat.le_refl _)) (p := ⟨w.heap.size + 1, 0, none⟩) (by show w.heap.size + 1 < _; omega) _) (p := ⟨w.heap.size + 1, 1, none⟩) (by show w.heap.size + 1 < _; omega) _).alloc _⟩
        have HXo : Hid (∀ (w2 w3 : World) (e : TypeId) (nv u : Value) (m : Nat) (xs : List Value), wr.heap.size ≤ w2.heap.size → w3.ownsRow w2.heap.size e 1 u m xs → (((w3.setCell ⟨w.heap.size + 1, 0, none⟩ nv).setCell ⟨w.heap.size + 1, 1, none⟩ (.int .i64 0)).alloc (.cells #[nv, .int .i64 0] 29)).ownsRow (w.heap.size + 1 + 1) e 1 u m xs) := fun w2 w3 e nv u m xs hw h => (owns_setCell (owns_setCell (owns_mono h (by omega)) (p := ⟨w.heap.size + 1, 0, none⟩) (by show w.heap.size + 1 < _; omega) _) (p := ⟨w.heap.size + 1, 1, none⟩) (by show w.heap.size + 1 < _; omega) _).alloc _
        have HXb : Hid (∀ (w3 : World) (nv u : Value), wr.heap.size ≤ w3.heap.size → w.heap.size + 1 + 1 ≤ ((((w3.setCell ⟨w.heap.size + 1, 0, none⟩ nv).setCell ⟨w.heap.size + 1, 1, none⟩ (.int .i64 0)).alloc (.cells #[nv, .int .i64 0] 29)).alloc (.cells #[u] 37)).heap.size) := fun w3 nv u h => by simp; omega
        clear HTk hr hr1 hr2 hr3 hd56 hu1 hu2 hu3 HUs HL hu hy
        generalize (ls.getD k []).length = ul at *
        generalize r.length = rl at *
        obtain ⟨_, t0, t1, _, _⟩ := id hT
        go_wp2_with (first
          | (go_at_call 16; refine hre.mono ?_; rintro e w2 ⟨xo, xc, rfl, hb2, hO2⟩; have hT2 := hT.later hb2 hT.lt; have hR2 := hR.later hb2 hR.lt; have hB2 := hB.trans (hb2.mono hB.size); have hs2 := hb2.size; have hwr := HWr.out xo xc w2 hb2 (HIv.out _ _ _ hO2.out); obtain ⟨_, p0, p1, _, _⟩ := id hT2)
          | (go_at_call 17; refine hwr.mono ?_; rintro e w3 ⟨ya, yc, rfl, hb3, hO3⟩; have hT3 := hT2.later hb3 hT2.lt; have hR3 := hR2.later hb3 hR2.lt; have hB3 := hB2.trans (hb3.mono hB2.size); have hs3 := hb3.size; have hbn : Below w3.heap.size w3 (w3.alloc (.cells #[.slice ya y yc, .int .i64 0] 29)) := (Below.refl _ _).alloc (Nat.le_refl _) _; have hT4 := hT3.later hbn hT3.lt; have hR4 := hR3.later hbn hR3.lt; obtain ⟨_, q0, q1, g0, g1⟩ := id hT4; obtain ⟨_, m0, m1, n0, n1⟩ := id hT3)
          | (at_builtin; refine wpList_append_own _ rfl _ _ 27 rfl (w.heap.size + 1 + 1) 37 i0 (.slice none 0 0) 1 24 Try.underlying27 hi hz0 hz1 hz2 rfl (by decide) (.slice a k c) k us rfl ((HXr.out w3 (.slice ya y yc) (hb2.trans (hb3.mono hb2.size))).1.alloc _) ⟨w3.heap.size + 1, 0, none⟩ 1 1 [.slice xo rl xc] rfl rfl (two_cell _ _ _ _ _) (by simp [Value.oneCell']) (by unfold maxLen; omega) (by omega) (HXb.out w3 _ _ (Nat.le_trans hs2 hs3)) ?_; intro v' w4 hown' hgrow _))
        have hb23 := hb2.trans (hb3.mono hb2.size)
        obtain ⟨hrowX, h3X⟩ := HXr.out w3 (.slice ya y yc) hb23
        have hrX := HXo.out wr w3 3 (.slice ya y yc) _ _ _ (Nat.le_refl _) (owns_later hO2.out hb3 (Nat.le_refl _))
        have htX := HXo.out w2 w3 5 (.slice ya y yc) _ _ _ hs2 hO3.out
        have hL4 := HLS.out _ w4 us _ v' hrowX HU3.out.1 h3X hrX hgrow hown'
        have hgB := (Below.refl (w.heap.size + 1 + 1) _).grown hgrow (HXb.out w3 _ _ (Nat.le_trans hs2 hs3)) (fun q hq => (hrowX.lt q hq).1)
        have ht4 := (htX.alloc _).kept hgrow (owns_apart (by decide) htX hrowX)
        have hTX := ((hT3.set (.slice ya y yc) (.int .i64 0)).later ((Below.refl _ _).alloc (Nat.le_refl _) (.cells #[.slice ya y yc, .int .i64 0] 29)) (by simpa using hT3.lt)).later ((Below.refl _ _).alloc (Nat.le_refl _) (.cells #[.slice xo rl xc] 37)) (by simp; have := hT3.lt; omega)
        have hRX := ((hR3.other (U := w.heap.size + 1) (by omega) (.slice ya y yc) (.int .i64 0)).later ((Below.refl _ _).alloc (Nat.le_refl _) (.cells #[.slice ya y yc, .int .i64 0] 29)) (by simpa using hR3.lt)).later ((Below.refl _ _).alloc (Nat.le_refl _) (.cells #[.slice xo rl xc] 37)) (by simp; have := hR3.lt; omega)
        have hBX := (((hB3.setCell (p := ⟨w.heap.size + 1, 0, none⟩) (by simp) (.slice ya y yc)).setCell (p := ⟨w.heap.size + 1, 1, none⟩) (by simp) (.int .i64 0)).alloc (by simpa using hB3.size) (.cells #[.slice ya y yc, .int .i64 0] 29)).alloc (by simp; have := hB3.size; omega) (.cells #[.slice xo rl xc] 37)
        have hB4 := hBX.trans (hgB.mono (by omega))
        have hz4 := hgB.size
        have hzX := HXb.out w3 (.slice ya y yc) (.slice xo rl xc) (Nat.le_trans hs2 hs3)
        obtain ⟨a4, c4, hv4⟩ := owns_slice hown'
        subst hv4
        refine ⟨⟨k + 1, by omega, by omega, by go_num, ⟨a4, c4, rfl, hL4⟩, hB4, Nat.le_trans hzX hz4, hRX.later hgB (by omega), ya, yc, y, HTn'.out, hTX.later hgB (by omega), ht4⟩, by simp [intOf]; omega⟩
      · obtain rfl : k = 10 := by omega
        have HEnd : Hid ((rsN ls).take 10 = rsN ls ∧ (rsN ls).length = 10) := by
          have : (rsN ls).length = 10 := by rw [rsN_length, HN.out]; omega
          exact ⟨List.take_of_length_le (by omega), this⟩
        obtain ⟨_, t0, t1, _, _⟩ := id hT
        obtain ⟨_, r0, r1, f0, f1⟩ := id hR
        go_wp2_with fail
        refine bodyPost_ret (v := .tuple #[.agg #[.slice ta tn tc, .int .i64 0], .slice a 10 c, .bool true]) ?_ rfl ?_
        · simp [results, Try.results12, go_sem, r0, r1]
        · have hto := HTo.out
          have hlo := HL.out
          have htn := HTn.out
          rw [HEnd.out.1] at hto hlo htn
          show TpPost _ _ _ _
          unfold TpPost
          rw [← htn, HEnd.out.2]
          exact ⟨ta, tc, a, c, rfl, (hB.setCell (p := ⟨w.heap.size, 0, none⟩) (Nat.le_refl _) _).setCell (p := ⟨w.heap.size, 1, none⟩) (Nat.le_refl _) _, owns_mono (owns_setCell (owns_setCell hto (p := ⟨w.heap.size, 0, none⟩) (by show w.heap.size < _; omega) _) (p := ⟨w.heap.size, 1, none⟩) (by show w.heap.size < _; omega) _) (by omega), ((hlo.low (p := ⟨w.heap.size, 0, none⟩) (by show w.heap.size < _; omega) _).low (p := ⟨w.heap.size, 1, none⟩) (by show w.heap.size < _; omega) _).mono (by omega)⟩
    · obtain rfl : k = n := by omega
      have HEnd : Hid ((rsN ls).take k = rsN ls ∧ (rsN ls).length = k) := by
        have : (rsN ls).length = k := by rw [rsN_length, HN.out]; omega
        exact ⟨List.take_of_length_le (by omega), this⟩
      obtain ⟨_, t0, t1, _, _⟩ := id hT
      obtain ⟨_, r0, r1, f0, f1⟩ := id hR
      go_wp2_with fail
      refine bodyPost_ret (v := .tuple #[.agg #[.slice ta tn tc, .int .i64 0], .slice a k c, .bool true]) ?_ rfl ?_
      · simp [results, Try.results12, go_sem, r0, r1]
      · have hto := HTo.out
        have hlo := HL.out
        have htn := HTn.out
        rw [HEnd.out.1] at hto hlo htn
        show TpPost _ _ _ _
        unfold TpPost
        rw [← htn, HEnd.out.2]
        exact ⟨ta, tc, a, c, rfl, (hB.setCell (p := ⟨w.heap.size, 0, none⟩) (Nat.le_refl _) _).setCell (p := ⟨w.heap.size, 1, none⟩) (Nat.le_refl _) _, owns_mono (owns_setCell (owns_setCell hto (p := ⟨w.heap.size, 0, none⟩) (by show w.heap.size < _; omega) _) (p := ⟨w.heap.size, 1, none⟩) (by show w.heap.size < _; omega) _) (by omega), ((hlo.low (p := ⟨w.heap.size, 0, none⟩) (by show w.heap.size < _; omega) _).low (p := ⟨w.heap.size, 1, none⟩) (by show w.heap.size < _; omega) _).mono (by omega)⟩
end Go.Proofs.Ytjnobdpjohbdnaa
