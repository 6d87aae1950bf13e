/-
  The keeping laws' own: numbers picked, lists compared, a number sought.
-/
import Derived.Test.YtncfkpfbjenpjaaUAdd2
namespace Go.Proofs.Ytncfkpfbjenpjaa
open Go.ChangeShapes Go.WideShapes Go.ChangeAt Go.RowKit Go.Deep Go.Joins

def I64 (n : Int) : Prop := -9223372036854775808 ≤ n ∧ n ≤ 9223372036854775807
theorem neg_rem {x m : Int} (hx : x ≤ 0) (hm : 0 < m) : 0 ≤ -(x.tmod m) ∧ -(x.tmod m) < m := by
  rw [← Int.neg_tmod, Int.tmod_eq_emod_of_nonneg (by omega)]
  exact ⟨Int.emod_nonneg _ (by omega), Int.emod_lt_of_pos _ hm⟩
/-- what picked makes. -/
def pk (n m : Int) : Int := if n < 0 then -((n + 1).tmod m) else n % m
theorem pk_range {n m : Int} (hm : 0 < m) : 0 ≤ pk n m ∧ pk n m < m := by
  unfold pk
  split
  · exact neg_rem (by omega) hm
  · exact ⟨Int.emod_nonneg _ (by omega), Int.emod_lt_of_pos _ hm⟩
theorem picked_is (n many : Int) (w : World) (hn : I64 n) (hm : 0 < many) (hm2 : many ≤ 4294967296) :
    Calls Try.prog 9 #[.int .i64 n, .int .i64 many] w fun e w' => e = .returned (.int .i64 (pk n many)) ∧ w' = w := by
  obtain ⟨h1, h2⟩ := hn
  by_cases h0 : n < 0
  · have hne : ¬ many = 0 := by omega
    rw [show pk n many = -((n + 1).tmod many) by unfold pk; rw [if_pos h0]]
    go_enter Try.func9, Try.ntmps9
    go_wp2
    go_ret
    exact ⟨rfl, rfl⟩
  · have hne : ¬ many = 0 := by omega
    rw [show pk n many = n % many by unfold pk; rw [if_neg h0]]
    go_enter Try.func9, Try.ntmps9
    go_wp2
    go_ret
    exact ⟨rfl, rfl⟩
/-- a list of raw numbers that came in. -/
structure IntsR (w : World) (v : Value) (l : List Int) : Prop where
  v : IntsV w v l
  size : l.length * 8 ≤ 140737488355328
  range : ∀ i, i < l.length → I64 (l.getD i 0)
theorem IntsR.below {w w' : World} {v : Value} {l : List Int} (h : IntsR w v l) (hb : Below w.heap.size w w') : IntsR w' v l := ⟨h.v.below hb, h.size, h.range⟩
section
variable {H : Type} {enc : TypeId × Value → H} {W : World}
set_option maxRecDepth 20000 in
theorem open_ints_r {fuel : Nat} {v : Value} {d : DataW H} {p : List MemPlace} (hf : DataW.trod enc Try.prog W 0 (fun _ => true) true fuel 22 [v] = some (d, p)) (hw : LightW 22 d) : ∃ l, IntsR W v l := by
  rcases open_slice1 Try.underlying22 cellsInt hf with ⟨hcs, hx⟩ | ⟨a, len, cap, m, n, V, D, Pl, hcs, _, hl, hm, hmm, hx, hcell⟩
  · simp at hcs
    subst hcs
    exact ⟨[], intsV_nil W, by simp, fun i hi => by simp at hi⟩
  · simp at hcs
    subst hcs
    simp at hmm
    subst hmm
    rw [(Prod.mk.inj hx).1] at hw
    have hs := (hw.slice Try.underlying22).1
    rw [bytesInt] at hs
    simp only [List.length_map, List.length_range, reachBytes] at hs
    have each : ∀ i, i < len → ∃ x0, W.cell? (a.add i) = some (.int .i64 x0) ∧ V i = .int .i64 x0 ∧ I64 x0 := by
      intro i hi
      obtain ⟨c0, t0⟩ := hcell i (by omega)
      obtain ⟨x0, e0, _, w0⟩ := DataW.trod_int Try.underlying3 t0
      simp at e0
      exact ⟨x0, by rw [c0, e0], e0, by simpa [I64, Lit.wf, IntKind.min, IntKind.max, IntKind.signed, IntKind.bits] using w0⟩
    refine ⟨(List.range len).map fun i => intOf (V i), ⟨some a, m, by simp, ⟨by simp; omega, fun h => by simp at h⟩, fun hne => ?_⟩, by simp; omega, fun i hi => ?_⟩
    · have hpos : 0 < len := by
        rcases Nat.eq_zero_or_pos len with h0 | h0
        · subst h0; simp at hne
        · exact h0
      obtain ⟨b, off, spot⟩ := a
      have hspot : spot = none := by simpa [Addr.add] using World.cell?_spot (hcell 0 (by omega)).1
      subst hspot
      refine ⟨b, off, rfl, ?_, fun i hi => ?_⟩
      · have := World.block_lt_of_cell? W _ (hcell 0 (by omega)).1
        simpa [Addr.add] using this
      · simp only [List.length_map, List.length_range] at hi
        obtain ⟨x0, c0, e0, _⟩ := each i hi
        rw [add_plain] at c0
        rw [c0, range_getD _ _ hi, e0]
        rfl
    · simp only [List.length_map, List.length_range] at hi
      obtain ⟨x0, _, e0, h0⟩ := each i hi
      rw [range_getD _ _ hi, e0]
      exact h0
theorem open_raws {base : Nat} {v : Value} {d : DataW H} {p : List MemPlace} {ts : List TypeId} {ds : List (DataW H)} {j : Nat}
    (hv : Value.okWide Try.prog W .any base 22 v) (h : DataW.Trod enc Try.prog W 0 (fun _ => true) true 22 v d p)
    (hsz : (DataW.weightsEach Try.prog ts ds).all (· ≤ reachBytes) = true) (ht : ts[j]? = some 22) (hd : ds[j]? = some d) : ∃ l, IntsR W v l := by
  obtain ⟨a0, len, cap, rfl⟩ := okWide_slice Try.underlying22 hv
  obtain ⟨fuel, hf⟩ := h
  exact open_ints_r hf (light_of hsz ht hd)
end
theorem bounds_i64 {n : Int} (h : (Lit.int .i64 n).wf = true) : I64 n := by simpa [I64, Lit.wf, IntKind.min, IntKind.max, IntKind.signed, IntKind.bits] using h

set_option maxHeartbeats 1600000 in
set_option maxRecDepth 20000 in
theorem sameIntsK_true (va vb : Value) (l : List Int) (w : World) (hl : l.length ≤ 140737488355328) (hA : IntsV w va l) (hB : IntsV w vb l) :
    Calls Try.prog 14 #[va, vb] w fun e w' => e = .returned (.bool true) ∧ ∃ n, w' = w.drewN n := by
  obtain ⟨ao, ca, rfl, _, ha⟩ := hA
  obtain ⟨bo, cb, rfl, _, hb⟩ := hB
  obtain ⟨n, hn⟩ : ∃ n, l.length = n := ⟨_, rfl⟩
  rw [hn] at hl ⊢
  have HA : Hid (l ≠ [] → ∃ b off, ao = some ⟨b, off, none⟩ ∧ b < w.heap.size ∧ IntsAt w b off l) := ha
  have HB : Hid (l ≠ [] → ∃ b off, bo = some ⟨b, off, none⟩ ∧ b < w.heap.size ∧ IntsAt w b off l) := hb
  have HN : Hid (l.length = n) := hn
  clear ha hb hn
  go_enter Try.func14, Try.ntmps14
  go_wp2
  go_loopw [5] (fun i wr => ∃ k : Nat, k ≤ n ∧ i = .int .i64 k ∧ ∃ q, wr = w.drewN q) (fun i _ => n - (intOf i).toNat)
  case atStart => exact ⟨0, Nat.zero_le _, rfl, 0, rfl⟩
  case round =>
    obtain ⟨k, hk, rfl, q, rfl⟩ := hrel
    by_cases hlt : k < n
    · have hne : l ≠ [] := by intro h; subst h; have := HN.out; simp at this; omega
      obtain ⟨b, off, rfl, _, hca⟩ := HA.out hne
      obtain ⟨b', off', rfl, _, hcb⟩ := HB.out hne
      have c1 := hca k (by rw [HN.out]; exact hlt)
      have c2 := hcb k (by rw [HN.out]; exact hlt)
      generalize l.getD k 0 = x at c1 c2
      clear hca hcb hne
      go_wp2_with fail
      go_quiet (fail)
      go_wp2_with fail
      go_roundw
      case rel => exact ⟨k + 1, by omega, by go_num, _, rfl⟩
      case measure => simp [intOf]; omega
    · go_wp2_with fail
      go_ret
      exact ⟨rfl, q, rfl⟩

set_option maxHeartbeats 1600000 in
set_option maxRecDepth 20000 in
theorem sameListsK_true (ao bo : Option Addr) (ac bc : Nat) (rs : List (List Int)) (w : World) (hl : rs.length ≤ 1048576) (hz : ∀ i, i < rs.length → (rs.getD i []).length ≤ 140737488355328) (hA : LisV w (.slice ao rs.length ac) rs) (hB : LisV w (.slice bo rs.length bc) rs) :
    Calls Try.prog 15 #[.slice ao rs.length ac, .slice bo rs.length bc] w fun e w' => e = .returned (.bool true) ∧ Below w.heap.size w w' := by
  obtain ⟨n, hn⟩ : ∃ n, rs.length = n := ⟨_, rfl⟩
  have HA : Hid (∀ w1, Below w.heap.size w w1 → LisV w1 (.slice ao rs.length ac) rs) := fun w1 hb => hA.below hb
  have HB : Hid (∀ w1, Below w.heap.size w w1 → LisV w1 (.slice bo rs.length bc) rs) := fun w1 hb => hB.below hb
  have HZ : Hid (∀ i, i < rs.length → (rs.getD i []).length ≤ 140737488355328) := hz
  have HN : Hid (rs.length = n) := hn
  rw [hn] at hl HA HB ⊢
  clear hA hB hz hn
  go_enter Try.func15, Try.ntmps15
  go_wp2
  go_loopw [5] (fun i wr => ∃ k : Nat, k ≤ n ∧ i = .int .i64 k ∧ Below w.heap.size w wr) (fun i _ => n - (intOf i).toNat)
  case atStart => exact ⟨0, Nat.zero_le _, rfl, Below.refl _ _⟩
  case round =>
    obtain ⟨k, hk, rfl, hBr⟩ := hrel
    by_cases hlt : k < n
    · have hlt2 : k < rs.length := by rw [HN.out]; exact hlt
      obtain ⟨b, off, rfl, _, u, c1, hu⟩ := (HA.out wr hBr).at hlt2
      obtain ⟨b', off', rfl, _, u', c2, hu'⟩ := (HB.out wr hBr).at hlt2
      obtain ⟨xo, xc, rfl⟩ : ∃ xo xc, u = .slice xo (rs.getD k []).length xc := by obtain ⟨a, c, h, _⟩ := id hu; exact ⟨a, c, h⟩
      obtain ⟨yo, yc, rfl⟩ : ∃ yo yc, u' = .slice yo (rs.getD k []).length yc := by obtain ⟨a, c, h, _⟩ := id hu'; exact ⟨a, c, h⟩
      have hsi := sameIntsK_true _ _ (rs.getD k []) wr.drew (HZ.out k hlt2) (hu.below (Below.refl _ _).drew) (hu'.below (Below.refl _ _).drew)
      generalize (rs.getD k []).length = ln at *
      clear hu hu'
      go_wp2_with fail
      go_region_held3 (fun w' => w'.cell? ⟨b, off + k, none⟩ = some (.slice xo ln xc) ∧ w'.cell? ⟨b', off' + k, none⟩ = some (.slice yo ln yc)) (first | exact ⟨c1, c2⟩ | exact ⟨by simp [go_sem, c1], by simp [go_sem, c2]⟩)
        (first | (go_at_call 14; refine hsi.mono ?_; rintro e w2 ⟨rfl, q2, rfl⟩))
      go_wp2_with fail
      go_roundw
      case rel => exact ⟨k + 1, by omega, by go_num, below_drewN hBr _⟩
      case measure => simp [intOf]; omega
    · go_wp2_with fail
      go_ret
      exact ⟨rfl, hBr⟩


set_option maxHeartbeats 800000 in
set_option maxRecDepth 20000 in
/-- THE CONTRACT OF has. -/
theorem khas_any (ao : Option Addr) (cap : Nat) (l : List Int) (x : Int) (w : World) (hl : l.length ≤ 140737488355328) (hV : IntsV w (.slice ao l.length cap) l) :
    Calls Try.prog 12 #[.slice ao l.length cap, .int .i64 x] w fun e w' => e = .returned (.bool (decide (x ∈ l))) ∧ w' = w := by
  obtain ⟨n, hn⟩ : ∃ n, l.length = n := ⟨_, rfl⟩
  have H : Hid (IntsV w (.slice ao l.length cap) l) := hV
  rw [hn] at hl H ⊢
  have HN : Hid (l.length = n) := hn
  have HT : Hid (x ∈ l → Ending.returned (.bool true) = .returned (.bool (decide (x ∈ l)))) := fun h => by rw [decide_eq_true h]
  have HF : Hid (x ∉ l → Ending.returned (.bool false) = .returned (.bool (decide (x ∈ l)))) := fun h => by rw [decide_eq_false h]
  clear hV hn
  go_enter Try.func12, Try.ntmps12
  go_wp2
  go_loopw [5] (fun i wr => ∃ k : Nat, k ≤ n ∧ i = .int .i64 k ∧ Hid (x ∉ l.take k) ∧ wr = w) (fun i _ => n - (intOf i).toNat)
  case atStart => exact ⟨0, Nat.zero_le _, rfl, by show ¬ _; simp, rfl⟩
  case round =>
    obtain ⟨k, hk, rfl, HT2, rfl⟩ := hrel
    by_cases hlt : k < n
    · have hlt2 : k < l.length := by rw [HN.out]; exact hlt
      obtain ⟨b, off, rfl, hb, _, hat⟩ := H.out.at hlt2
      have c1 := hat k hlt2
      have HS : Hid (l.getD k 0 ≠ x → x ∉ l.take (k + 1)) := fun h hm => by
        rw [take_get hlt2 0] at hm
        rcases List.mem_append.1 hm with h2 | h2
        · exact HT2.out h2
        · simp only [List.mem_singleton] at h2; exact h h2.symm
      have HM : Hid (l.getD k 0 ∈ l) := getD_mem hlt2 0
      clear hat HT2
      generalize l.getD k 0 = y at *
      by_cases hxy : y = x
      · subst hxy
        go_wp2
        go_ret
        exact ⟨HT.out HM.out, rfl⟩
      · have HS2 : Hid (x ∉ l.take (k + 1)) := HS.out hxy
        clear HS HM
        go_wp2
        go_roundw
        case rel => exact ⟨k + 1, by omega, by go_num, HS2, by trivial⟩
        case measure => simp [intOf]; omega
    · obtain rfl : k = n := by omega
      have HT' : Hid (x ∉ l) := by have h := HT2.out; rw [List.take_of_length_le (by rw [HN.out]; omega)] at h; exact h
      clear HT2
      go_wp2
      go_ret
      exact ⟨HF.out HT'.out, rfl⟩
end Go.Proofs.Ytncfkpfbjenpjaa
