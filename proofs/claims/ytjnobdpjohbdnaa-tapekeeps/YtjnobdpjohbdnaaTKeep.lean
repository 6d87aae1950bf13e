/-
  The keeping laws' own: numbers picked, some bytes, records.
-/
import Derived.Test.YtjnobdpjohbdnaaTRep
namespace Go.Proofs.Ytjnobdpjohbdnaa
open Go.ChangeShapes Go.WideShapes Go.ChangeAt Go.RowKit Go.Deep Go.Joins

def I64 (n : Int) : Prop := -9223372036854775808 ≤ n ∧ n ≤ 9223372036854775807
theorem neg_rem {x m : Int} (hx : x ≤ 0) (hm : 0 < m) : 0 ≤ -(x.tmod m) ∧ -(x.tmod m) < m := by
  rw [← Int.neg_tmod, Int.tmod_eq_emod_of_nonneg (by omega)]
  exact ⟨Int.emod_nonneg _ (by omega), Int.emod_lt_of_pos _ hm⟩
/-- what picked makes. -/
def pk (n m : Int) : Int := if n < 0 then -((n + 1).tmod m) else n % m
theorem pk_range {n m : Int} (hm : 0 < m) : 0 ≤ pk n m ∧ pk n m < m := by
  unfold pk
  split
  · exact neg_rem (by omega) hm
  · exact ⟨Int.emod_nonneg _ (by omega), Int.emod_lt_of_pos _ hm⟩
theorem picked_is (n many : Int) (w : World) (hn : I64 n) (hm : 0 < many) (hm2 : many ≤ 4294967296) :
    Calls Try.prog 11 #[.int .i64 n, .int .i64 many] w fun e w' => e = .returned (.int .i64 (pk n many)) ∧ w' = w := by
  obtain ⟨h1, h2⟩ := hn
  by_cases h0 : n < 0
  · have hne : ¬ many = 0 := by omega
    rw [show pk n many = -((n + 1).tmod many) by unfold pk; rw [if_pos h0]]
    go_enter Try.func11, Try.ntmps11
    go_wp2
    go_ret
    exact ⟨rfl, rfl⟩
  · have hne : ¬ many = 0 := by omega
    rw [show pk n many = n % many by unfold pk; rw [if_neg h0]]
    go_enter Try.func11, Try.ntmps11
    go_wp2
    go_ret
    exact ⟨rfl, rfl⟩
set_option maxRecDepth 20000 in
theorem cellsLists : Try.prog.cellsOf 27 = 1 := by kernel_rfl
/-- a list of raw numbers that came in. -/
structure IntsR (w : World) (v : Value) (l : List Int) : Prop where
  v : IntsV w v l
  size : l.length * 8 ≤ 140737488355328
  range : ∀ i, i < l.length → I64 (l.getD i 0)
theorem IntsR.below {w w' : World} {v : Value} {l : List Int} (h : IntsR w v l) (hb : Below w.heap.size w w') : IntsR w' v l := ⟨h.v.below hb, h.size, h.range⟩
/-- lists of such. -/
def ListsR (w : World) (v : Value) (ls : List (List Int)) : Prop := ∃ (us : List Value) (ao : Option Addr) (cap : Nat), v = .slice ao ls.length cap ∧ us.length = ls.length ∧ (∀ i, i < ls.length → IntsR w (us.getD i nilV) (ls.getD i [])) ∧ (ls ≠ [] → ∃ b off, ao = some ⟨b, off, none⟩ ∧ b < w.heap.size ∧ ∀ i, i < ls.length → w.cell? ⟨b, off + i, none⟩ = some (us.getD i nilV))
theorem ListsR.below {w w' : World} {v : Value} {ls : List (List Int)} (h : ListsR w v ls) (hb : Below w.heap.size w w') : ListsR w' v ls := by
  obtain ⟨us, ao, cap, h1, h3, h4, h5⟩ := h
  refine ⟨us, ao, cap, h1, h3, fun i hi => (h4 i hi).below hb, fun hne => ?_⟩
  obtain ⟨b, off, e, hlt, hat⟩ := h5 hne
  exact ⟨b, off, e, Nat.lt_of_lt_of_le hlt hb.size, fun i hi => (hb.cell (p := ⟨b, _, none⟩) hlt).trans (hat i hi)⟩
theorem ListsR.at {w : World} {ao : Option Addr} {cap n : Nat} {ls : List (List Int)} (h : ListsR w (.slice ao n cap) ls) {i : Nat} (hi : i < ls.length) : ∃ b off, ao = some ⟨b, off, none⟩ ∧ b < w.heap.size ∧ ∃ uo uc, w.cell? ⟨b, off + i, none⟩ = some (.slice uo (ls.getD i []).length uc) ∧ IntsR w (.slice uo (ls.getD i []).length uc) (ls.getD i []) := by
  obtain ⟨us, ao', cap', hv, _, h4, h⟩ := h
  injection hv with e1 e2 e3
  subst e1
  obtain ⟨b, off, e, hlt, hat⟩ := h (by rintro rfl; simp at hi)
  have h5 := h4 i hi
  have h6 := hat i hi
  obtain ⟨uo, uc, hu, _⟩ := h5.v
  rw [hu] at h5 h6
  exact ⟨b, off, e, hlt, uo, uc, h6, h5⟩
section
variable {H : Type} {enc : TypeId × Value → H} {W : World}
set_option maxRecDepth 20000 in
theorem open_ints_r {fuel : Nat} {v : Value} {d : DataW H} {p : List MemPlace} (hf : DataW.trod enc Try.prog W 0 (fun _ => true) true fuel 37 [v] = some (d, p)) (hw : LightW 37 d) : ∃ l, IntsR W v l := by
  rcases open_slice1 Try.underlying37 cellsInt hf with ⟨hcs, hx⟩ | ⟨a, len, cap, m, n, V, D, Pl, hcs, _, hl, hm, hmm, hx, hcell⟩
  · simp at hcs
    subst hcs
    exact ⟨[], ⟨none, 0, rfl, fun h => absurd rfl h⟩, by simp, fun i hi => by simp at hi⟩
  · simp at hcs
    subst hcs
    simp at hmm
    subst hmm
    rw [(Prod.mk.inj hx).1] at hw
    have hs := (hw.slice Try.underlying37).1
    rw [bytesInt] at hs
    simp only [List.length_map, List.length_range, reachBytes] at hs
    have each : ∀ i, i < len → ∃ x0, W.cell? (a.add i) = some (.int .i64 x0) ∧ V i = .int .i64 x0 ∧ I64 x0 := by
      intro i hi
      obtain ⟨c0, t0⟩ := hcell i (by omega)
      obtain ⟨x0, e0, _, w0⟩ := DataW.trod_int Try.underlying3 t0
      simp at e0
      exact ⟨x0, by rw [c0, e0], e0, by simpa [I64, Lit.wf, IntKind.min, IntKind.max, IntKind.signed, IntKind.bits] using w0⟩
    refine ⟨(List.range len).map fun i => intOf (V i), ⟨some a, m, by simp, fun hne => ?_⟩, by simp; omega, fun i hi => ?_⟩
    · have hpos : 0 < len := by
        rcases Nat.eq_zero_or_pos len with h0 | h0
        · subst h0; simp at hne
        · exact h0
      obtain ⟨b, off, spot⟩ := a
      have hspot : spot = none := by simpa [Addr.add] using World.cell?_spot (hcell 0 (by omega)).1
      subst hspot
      refine ⟨b, off, rfl, ?_, fun i hi => ?_⟩
      · have := World.block_lt_of_cell? W _ (hcell 0 (by omega)).1
        simpa [Addr.add] using this
      · simp only [List.length_map, List.length_range] at hi
        obtain ⟨x0, c0, e0, _⟩ := each i hi
        rw [add_plain] at c0
        rw [c0, range_getD _ _ hi, e0]
        rfl
    · simp only [List.length_map, List.length_range] at hi
      obtain ⟨x0, _, e0, h0⟩ := each i hi
      rw [range_getD _ _ hi, e0]
      exact h0
set_option maxRecDepth 20000 in
theorem open_lists_r {fuel : Nat} {v : Value} {d : DataW H} {p : List MemPlace} (hf : DataW.trod enc Try.prog W 0 (fun _ => true) true fuel 27 [v] = some (d, p)) (hw : LightW 27 d) : ∃ ls, ListsR W v ls ∧ ls.length * 24 ≤ 140737488355328 := by
  rcases open_slice1 Try.underlying27 cellsInts hf with ⟨hcs, hx⟩ | ⟨a, len, cap, m, n, V, D, Pl, hcs, _, hl, hm, hmm, hx, hcell⟩
  · simp at hcs
    subst hcs
    exact ⟨[], ⟨[], none, 0, rfl, rfl, fun i hi => by simp at hi, fun h => absurd rfl h⟩, by simp⟩
  · simp at hcs
    subst hcs
    simp at hmm
    subst hmm
    rw [(Prod.mk.inj hx).1] at hw
    obtain ⟨hs, hel⟩ := hw.slice Try.underlying27
    rw [bytesInts] at hs
    simp only [List.length_map, List.length_range, reachBytes] at hs
    obtain ⟨f, hff⟩ := choose_lt (n := len) (p := fun i (l : List Int) => IntsR W (V i) l) (fun i hi => by
      obtain ⟨c0, t0⟩ := hcell i (by omega)
      exact open_ints_r t0 (hel (D i) (by simp only [List.mem_map, List.mem_range]; exact ⟨i, hi, rfl⟩)))
    refine ⟨(List.range len).map f, ⟨(List.range len).map V, some a, m, by simp, by simp, fun i hi => ?_, fun hne => ?_⟩, by simp; omega⟩
    · simp only [List.length_map, List.length_range] at hi
      rw [range_getD _ _ hi, range_getD _ _ hi]
      exact hff i hi
    · have hpos : 0 < len := by
        rcases Nat.eq_zero_or_pos len with h0 | h0
        · subst h0; simp at hne
        · exact h0
      obtain ⟨b, off, spot⟩ := a
      have hspot : spot = none := by simpa [Addr.add] using World.cell?_spot (hcell 0 (by omega)).1
      subst hspot
      refine ⟨b, off, rfl, ?_, fun i hi => ?_⟩
      · have := World.block_lt_of_cell? W _ (hcell 0 (by omega)).1
        simpa [Addr.add] using this
      · simp only [List.length_map, List.length_range] at hi
        have c0 := (hcell i (by omega)).1
        rw [add_plain] at c0
        rw [range_getD _ _ hi]
        exact c0



theorem open_rawlists {base : Nat} {v : Value} {d : DataW H} {p : List MemPlace} {ts : List TypeId} {ds : List (DataW H)} {j : Nat}
    (hv : Value.okWide Try.prog W .any base 27 v) (h : DataW.Trod enc Try.prog W 0 (fun _ => true) true 27 v d p)
    (hsz : (DataW.weightsEach Try.prog ts ds).all (· ≤ reachBytes) = true) (ht : ts[j]? = some 27) (hd : ds[j]? = some d) : ∃ ls, ListsR W v ls ∧ ls.length * 24 ≤ 140737488355328 := by
  obtain ⟨a0, len, cap, rfl⟩ := okWide_slice Try.underlying27 hv
  obtain ⟨fuel, hf⟩ := h
  exact open_lists_r hf (light_of hsz ht hd)
theorem open_raws {base : Nat} {v : Value} {d : DataW H} {p : List MemPlace} {ts : List TypeId} {ds : List (DataW H)} {j : Nat}
    (hv : Value.okWide Try.prog W .any base 37 v) (h : DataW.Trod enc Try.prog W 0 (fun _ => true) true 37 v d p)
    (hsz : (DataW.weightsEach Try.prog ts ds).all (· ≤ reachBytes) = true) (ht : ts[j]? = some 37) (hd : ds[j]? = some d) : ∃ l, IntsR W v l := by
  obtain ⟨a0, len, cap, rfl⟩ := okWide_slice Try.underlying37 hv
  obtain ⟨fuel, hf⟩ := h
  exact open_ints_r hf (light_of hsz ht hd)
end
theorem bounds_i64 {n : Int} (h : (Lit.int .i64 n).wf = true) : I64 n := by simpa [I64, Lit.wf, IntKind.min, IntKind.max, IntKind.signed, IntKind.bits] using h

set_option maxHeartbeats 800000 in
set_option maxRecDepth 20000 in
/-- some bytes, at most so many. -/
theorem some_any (v : Value) (l : List UInt8) (m : Nat) (w : World) (hl : l.length ≤ 140737488355328) (hm : m ≤ 1000) (hV : BytesV w v l) :
    Calls Try.prog 9 #[v, .int .i64 m] w fun e w' => ∃ v', e = .returned v' ∧ Below w.heap.size w w' ∧ w'.ownsRow w.heap.size 5 1 v' (min l.length m) (bvals (l.take (min l.length m))) := by
  obtain ⟨q, hq⟩ : ∃ q, min l.length m = q := ⟨_, rfl⟩
  have hmin : min (l.length : Int) (m : Int) = (q : Int) := by omega
  have hq1 : q ≤ l.length := by omega
  have hq2 : q ≤ m := by omega
  have hV' := hV
  obtain ⟨ao, cap, rfl, ⟨hlc, h0⟩, h⟩ := hV
  obtain ⟨i0, hi, hz0, hz1, hz2⟩ := info_parts infoByte
  rw [hq]
  have hqc : (q : Int) ≤ (cap : Int) := by omega
  have hq0 : (0 : Int) ≤ (q : Int) := by omega
  cases ao with
  | none =>
    obtain ⟨rfl, rfl⟩ := h0 rfl
    obtain rfl : q = 0 := by simpa using hq1
    have hle : (0 : Int) ≤ (m : Int) := by omega
    simp only [List.length_nil] at hmin ⊢
    clear hV' h hq
    go_enter Try.func9, Try.ntmps9
    go_wp2_with (at_builtin; refine wpList_append_own_none rfl _ _ 22 rfl w.heap.size 5 i0 1 Try.underlying22 hi _ _ _ rfl (World.ownsRow_nil _ _ _ _) rfl ?_)
    go_ret
    exact ⟨_, rfl, Below.refl _ _, World.ownsRow_nil _ _ _ _⟩
  | some a =>
    have hcl : (bvals (l.take q)).length = q * 1 := by rw [bvals_length, List.length_take]; omega
    have hcells : ∀ j u, (bvals (l.take q))[j]? = some u → w.cell? (a.add j) = some u := fun j u hj => by
      refine hV'.cells j u ?_
      have hjn : j < (l.take q).length := by have := (List.getElem?_eq_some_iff.1 hj).1; simpa [bvals] using this
      rw [← hj]
      simp [bvals, List.getElem?_take]
      rw [List.length_take] at hjn
      omega
    have hone := bvals_one (l.take q)
    generalize bvals (l.take q) = xs at *
    generalize l.length = n at *
    have hqn : q = min n m := hq.symm
    clear h h0 hV' hq
    by_cases hnm : n ≤ m
    · obtain rfl : q = n := by omega
      clear hqn
      have hle : (q : Int) ≤ (m : Int) := by omega
      go_enter Try.func9, Try.ntmps9
      go_wp2_with (at_builtin; refine wpList_append_own _ rfl _ _ 22 rfl w.heap.size 5 i0 (.int .u8 0) 1 1 Try.underlying22 hi hz0 hz1 hz2 rfl (by decide) _ _ _ rfl (World.ownsRow_nil _ _ _ _) a q cap xs rfl hcl hcells hone (by unfold maxLen; omega) (by omega) (Nat.le_refl _) ?_; intro v' w4 hown' hgrow _; have hb : Below w.heap.size w w4 := (Below.refl _ _).grown hgrow (Nat.le_refl _) (fun z hz => by cases hz); clear hgrow hcells)
      go_ret
      exact ⟨_, rfl, hb, by simpa using hown'⟩
    · obtain rfl : q = m := by omega
      clear hqn
      have hle : ¬ (n : Int) ≤ (q : Int) := by omega
      go_enter Try.func9, Try.ntmps9
      go_wp2_with (at_builtin; refine wpList_append_own _ rfl _ _ 22 rfl w.heap.size 5 i0 (.int .u8 0) 1 1 Try.underlying22 hi hz0 hz1 hz2 rfl (by decide) _ _ _ rfl (World.ownsRow_nil _ _ _ _) a q cap xs rfl hcl hcells hone (by unfold maxLen; omega) (by omega) (Nat.le_refl _) ?_; intro v' w4 hown' hgrow _; have hb : Below w.heap.size w w4 := (Below.refl _ _).grown hgrow (Nat.le_refl _) (fun z hz => by cases hz); clear hgrow hcells)
      go_ret
      exact ⟨_, rfl, hb, by simpa using hown'⟩

/-- a record of raw numbers. -/
def recN (l : List Int) : List Int := (l.take 12).map fun x => pk x 2147483648
theorem recN_length (l : List Int) : (recN l).length = min 12 l.length := by simp [recN]
theorem recN_get {l : List Int} {i : Nat} (h : i < (recN l).length) : 0 ≤ (recN l).getD i 0 ∧ (recN l).getD i 0 ≤ 2147483647 := by
  rw [recN_length] at h
  have : (recN l).getD i 0 = pk (l.getD i 0) 2147483648 := by simp [recN, List.getD_eq_getElem?_getD, show i < 12 by omega, show i < l.length by omega]
  rw [this]
  have := pk_range (n := l.getD i 0) (m := 2147483648) (by decide)
  omega
theorem recN_ok (l : List Int) : (recN l).any outB = false ∧ (recN l).length ≤ 12 ∧ wrC (recN l) = 0 := by
  have h1 : (recN l).any outB = false := List.any_eq_false.2 fun x hx => by
    simp only [recN, List.mem_map] at hx
    obtain ⟨y, _, rfl⟩ := hx
    have := pk_range (n := y) (m := 2147483648) (by decide)
    generalize pk y 2147483648 = z at *
    simp [outB]
    omega
  have h2 : (recN l).length ≤ 12 := by rw [recN_length]; omega
  exact ⟨h1, h2, wrC_ok (by omega) h1⟩

set_option maxHeartbeats 800000 in
set_option maxRecDepth 20000 in
theorem record_any (v : Value) (l : List Int) (w : World) (hV : IntsR w v l) :
    Calls Try.prog 16 #[v] w fun e w' => ∃ ao cap, e = .returned (.slice ao (recN l).length cap) ∧ Below w.heap.size w w' ∧ Hid (w'.ownsRow w.heap.size 3 1 (.slice ao (recN l).length cap) (recN l).length (ivals (recN l))) := by
  have hl := hV.size
  obtain ⟨ao, cap, rfl, h⟩ := hV.v
  obtain ⟨i0, hi, hz0, hz1, hz2⟩ := info_parts infoInt
  obtain ⟨n, hn⟩ : ∃ n, l.length = n := ⟨_, rfl⟩
  rw [hn] at hl ⊢
  have H : Hid (l ≠ [] → ∃ b off, ao = some ⟨b, off, none⟩ ∧ b < w.heap.size ∧ IntsAt w b off l) := h
  have HN : Hid (l.length = n) := hn
  have HR : Hid (∀ i, i < l.length → I64 (l.getD i 0)) := hV.range
  have HP : Hid (∀ x w1, I64 x → Calls Try.prog 11 #[.int .i64 x, .int .i64 2147483648] w1 fun e w' => e = .returned (.int .i64 (pk x 2147483648)) ∧ w' = w1) := fun x w1 hx => picked_is x 2147483648 w1 hx (by decide) (by decide)
  clear h hn hV
  go_enter Try.func16, Try.ntmps16
  go_wp2
  go_loopw [3, 4] (fun v i wr => ∃ k : Nat, k ≤ n ∧ k ≤ 12 ∧ i = .int .i64 k ∧ (∃ a c, v = .slice a k c ∧ Hid (wr.ownsRow w.heap.size 3 1 (.slice a k c) k (ivals ((recN l).take k)))) ∧ Below w.heap.size w wr) (fun _ i _ => 12 - (intOf i).toNat)
  case atStart => exact ⟨0, Nat.zero_le _, Nat.zero_le _, rfl, ⟨none, 0, rfl, World.ownsRow_nil _ _ _ _⟩, Below.refl _ _⟩
  case round =>
    obtain ⟨k, hk, hk12, rfl, ⟨a, c, rfl, HO⟩, hB⟩ := hrel
    by_cases hlt : k < n
    · by_cases hlt3 : k < 12
      · have hlt2 : k < l.length := by rw [HN.out]; exact hlt
        obtain ⟨b, off, rfl, hbl, hca⟩ := H.out (by intro h; subst h; simp at hlt2)
        have c1 := (hB.cell (p := ⟨b, off + k, none⟩) hbl).trans (hca k hlt2)
        have hpk := HP.out (l.getD k 0) wr (HR.out k hlt2)
        have HNx : Hid (ivals ((recN l).take k) ++ [.int .i64 (pk (l.getD k 0) 2147483648)] = ivals ((recN l).take (k + 1))) := by
          show _ = _
          rw [List.take_add_one]
          simp [recN, ivals, List.getD_eq_getElem?_getD, hlt2, hlt3]
        clear hca
        generalize l.getD k 0 = x at *
        generalize pk x 2147483648 = px at *
        have hO := HO.out
        have hs := hB.size
        go_wp2_with (first | (go_at_call 11; refine hpk.mono ?_; rintro e w3 ⟨rfl, rfl⟩) | (at_builtin; refine wpList_append_own _ rfl _ _ 37 rfl w.heap.size 3 i0 (.int .i64 0) 1 8 Try.underlying37 hi hz0 hz1 hz2 rfl (by decide) (.slice a k c) k (ivals ((recN l).take k)) rfl (hO.alloc _) ⟨_, 0, none⟩ 1 1 [.int .i64 px] rfl rfl (one_cell _ _ _) (by simp [Value.oneCell']) (by unfold maxLen; omega) (by omega) (Nat.le_trans hs (by simp)) ?_; intro v' w4 hown' hgrow _; have hb4 : Below w.heap.size w w4 := (hB.alloc hB.size _).grown hgrow (Nat.le_trans hs (by simp)) (fun q hq => (hO.lt q hq).1); rw [HNx.out] at hown'; obtain ⟨a4, c4, hv4⟩ := owns_slice hown'; subst hv4; clear hgrow))
        refine ⟨⟨k + 1, by omega, by omega, by go_num, ⟨a4, c4, rfl, hown'⟩, hb4⟩, by simp [intOf]; omega⟩
      · obtain rfl : k = 12 := by omega
        have HRl : Hid ((recN l).length = 12 ∧ (recN l).take 12 = recN l) := by
          have : (recN l).length = 12 := by rw [recN_length, HN.out]; omega
          exact ⟨this, List.take_of_length_le (by omega)⟩
        go_wp2_with fail
        go_ret
        exact ⟨a, c, by rw [HRl.out.1]; rfl, hB, by rw [HRl.out.1, ← HRl.out.2]; exact HO.out⟩
    · obtain rfl : k = n := by omega
      have HRl : Hid ((recN l).length = k ∧ (recN l).take k = recN l) := by
        have : (recN l).length = k := by rw [recN_length, HN.out]; omega
        exact ⟨this, List.take_of_length_le (by omega)⟩
      go_wp2_with fail
      go_ret
      exact ⟨a, c, by rw [HRl.out.1]; rfl, hB, by rw [HRl.out.1, ← HRl.out.2]; exact HO.out⟩
end Go.Proofs.Ytjnobdpjohbdnaa
