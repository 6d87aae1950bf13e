/-
  store.Check, store.All.
-/
import Derived.Test.YtncfkpfbjenpjaaUSeek
import Derived.Test.YtncfkpfbjenpjaaUSort
import Derived.Test.YtncfkpfbjenpjaaUTog
namespace Go.Proofs.Ytncfkpfbjenpjaa
open Go.ChangeShapes Go.WideShapes Go.ChangeAt Go.RowKit Go.Deep

theorem flat_take_le (rs : List (List Int)) (k : Nat) : (rs.take k).flatten.length ≤ rs.flatten.length := by
  have e : rs.flatten = (rs.take k).flatten ++ (rs.drop k).flatten := by rw [← List.flatten_append, List.take_append_drop]
  rw [e, List.length_append]
  omega
theorem flat_take {rs : List (List Int)} {k : Nat} (h : k < rs.length) : (rs.take (k + 1)).flatten.length = (rs.take k).flatten.length + (rs.getD k []).length := by rw [take_get h [], flat_snoc, List.length_append]

set_option maxHeartbeats 800000 in
set_option maxRecDepth 20000 in
/-- THE CONTRACT OF count. -/
theorem count_any (lo : List Int) (rs : List (List Int)) (la ra : Option Addr) (lc rc : Nat) (w : World) (hz : StSz lo rs) (hR : LisV w (.slice ra rs.length rc) rs) :
    Calls Try.prog 21 #[.agg #[.slice la lo.length lc, .slice ra rs.length rc]] w fun e w' => ∃ q : Nat, e = .returned (.int .i64 q) ∧ Below w.heap.size w w' ∧ (lo.length ≤ 20000 → lo.length + rs.flatten.length ≤ 20000 → q = lo.length + rs.flatten.length) ∧ (¬ lo.length + rs.flatten.length ≤ 20000 → lo.length ≤ 20000 → 20000 < q) := by
  obtain ⟨hbA, hcA⟩ := Bc.arg w (.slice la lo.length lc) (.slice ra rs.length rc) 25
  obtain ⟨_, a0, a1⟩ := id hcA
  have hR1 := hR.below hbA
  obtain ⟨n, hn⟩ : ∃ n, rs.length = n := ⟨_, rfl⟩
  obtain ⟨W0, hW0⟩ : ∃ W0, W0 = w.alloc (.cells #[.slice la lo.length lc, .slice ra rs.length rc] 25) := ⟨_, rfl⟩
  rw [← hW0] at hR1 a0 a1 hbA
  have H : Hid (LisV W0 (.slice ra rs.length rc) rs) := hR1
  have HZ : Hid (StSz lo rs) := hz
  have hl1 := hz.loose
  have hl2 := hz.runs
  rw [hn] at H a1 hl2 hW0 ⊢
  have HN : Hid (rs.length = n) := hn
  obtain ⟨m, hm⟩ : ∃ m, lo.length = m := ⟨_, rfl⟩
  have HM : Hid (lo.length = m) := hm
  rw [hm] at hl1 a0 hW0 ⊢
  clear hR hcA hR1 hn hm hz
  go_enter Try.func21, Try.ntmps21
  go_wp2_with fail
  rw [← hW0]
  clear hW0
  go_wp2
  go_loopw [3, 5, 12] (fun s u i wr => ∃ k : Nat, k ≤ n ∧ i = .int .i64 k ∧ s = .int .i64 ((m + (rs.take k).flatten.length : Nat) : Int) ∧ Hid (k = 0 ∨ m + (rs.take k).flatten.length ≤ 20000) ∧ wr = W0) (fun _ _ i _ => n - (intOf i).toNat)
  case atStart => exact ⟨0, Nat.zero_le _, rfl, rfl, .inl rfl, rfl⟩
  case round =>
    obtain ⟨k, hk, rfl, rfl, HT, rfl⟩ := hrel
    by_cases hlt : k < n
    · have hlt2 : k < rs.length := by rw [HN.out]; exact hlt
      obtain ⟨b, off, rfl, _, u, c1, hu⟩ := H.out.at hlt2
      obtain ⟨uo, uc, rfl⟩ := hu.shape
      have hr := HZ.out.each k hlt2
      have HS : Hid (m + (rs.take (k + 1)).flatten.length = m + (rs.take k).flatten.length + (rs.getD k []).length) := by show _ = _; rw [flat_take hlt2]; omega
      have hLe := flat_take_le rs (k + 1)
      have HL : Hid (m + (rs.take k).flatten.length + (rs.getD k []).length ≤ m + rs.flatten.length) := by show _ ≤ _; have := HS.out; omega
      have hsm : m + (rs.take k).flatten.length ≤ 20000 + m := by
        rcases HT.out with h | h
        · subst h; simp
        · omega
      clear hu hLe HT
      generalize hrr : (rs.getD k []).length = r at *
      clear hrr
      generalize hss : m + (rs.take k).flatten.length = s at *
      clear hss
      by_cases hbig : 20000 < s + r
      · have hbi : (20000 : Int) < (s : Int) + (r : Int) := by omega
        go_wp2
        go_ret
        exact ⟨s + r, by simp, hbA, fun h1 h2 => by have := HL.out; omega, fun _ _ => hbig⟩
      · have hbi : ¬ (20000 : Int) < (s : Int) + (r : Int) := by omega
        go_wp2
        go_roundw
        case rel => exact ⟨k + 1, by omega, by go_num, by rw [HS.out]; simp, .inr (by rw [HS.out]; omega), by trivial⟩
        case measure => simp [intOf]; omega
    · obtain rfl : k = n := by omega
      have HF : Hid (rs.take k = rs) := by show _ = _; rw [List.take_of_length_le]; rw [HN.out]; omega
      rw [HF.out]
      clear HT HF
      go_wp2
      go_ret
      exact ⟨m + rs.flatten.length, rfl, hbA, fun _ _ => rfl, fun h _ => by omega⟩

theorem emp_iff (rs : List (List Int)) : rs.any empB = false ↔ ∀ r ∈ rs, r ≠ [] := by
  rw [List.any_eq_false]
  constructor
  · intro h r hr e
    exact h r hr (by simp [empB, e])
  · intro h r hr e
    have h2 : r.length = 0 := by simpa [empB] using e
    exact h r hr (List.length_eq_zero_iff.1 h2)
def SzPost (lo : List Int) (rs : List (List Int)) (w : World) (e : Ending) (w' : World) : Prop := ∃ s : Bool, e = .returned (.bool s) ∧ Below w.heap.size w w' ∧ (s = true ↔ SizeOk lo rs)
set_option maxHeartbeats 800000 in
set_option maxRecDepth 20000 in
/-- THE CONTRACT OF sizesMayBe. -/
theorem sizes_any (lo : List Int) (rs : List (List Int)) (la ra : Option Addr) (lc rc : Nat) (w : World) (hz : StSz lo rs) (hR : LisV w (.slice ra rs.length rc) rs) :
    Calls Try.prog 24 #[.agg #[.slice la lo.length lc, .slice ra rs.length rc]] w (SzPost lo rs w) := by
  obtain ⟨hbA, hcA⟩ := Bc.arg w (.slice la lo.length lc) (.slice ra rs.length rc) 25
  obtain ⟨_, a0, a1⟩ := id hcA
  have hE := containsE_any ra rc rs _ (by have := hz.runs; omega) (hR.below hbA)
  have hC := count_any lo rs la ra lc rc _ hz (hR.below hbA)
  have HB : Hid (∀ w1, Below (w.alloc (.cells #[.slice la lo.length lc, .slice ra rs.length rc] 25)).heap.size (w.alloc (.cells #[.slice la lo.length lc, .slice ra rs.length rc] 25)) w1 → Below w.heap.size w w1) := fun w1 h => hbA.trans (h.mono hbA.size)
  by_cases h8 : lo.length < 8
  · have h8i : (lo.length : Int) < 8 := by omega
    cases hem : rs.any empB with
    | true =>
      have HF : Hid (¬ SizeOk lo rs) := fun h => by have := (emp_iff rs).2 h.full; rw [hem] at this; cases this
      rw [hem] at hE
      generalize lo.length = m at *
      generalize rs.length = n at *
      clear hR hz hC hcA
      go_enter Try.func24, Try.ntmps24
      go_wp2_with (first | (go_at_call 27; refine hE.mono ?_; rintro e w1 ⟨rfl, rfl⟩))
      go_ret
      exact ⟨false, rfl, hbA, by simp; exact HF.out⟩
    | false =>
      have HF : Hid (∀ r ∈ rs, r ≠ []) := (emp_iff rs).1 hem
      by_cases hm : lo.length + rs.flatten.length ≤ 20000
      · have HS : Hid (SizeOk lo rs) := ⟨h8, HF.out, hm⟩
        have hC' : Calls Try.prog 21 #[.agg #[.slice la lo.length lc, .slice ra rs.length rc]] (w.alloc (.cells #[.slice la lo.length lc, .slice ra rs.length rc] 25)) fun e w' => ∃ q : Nat, e = .returned (.int .i64 q) ∧ Below (w.alloc (.cells #[.slice la lo.length lc, .slice ra rs.length rc] 25)).heap.size (w.alloc (.cells #[.slice la lo.length lc, .slice ra rs.length rc] 25)) w' ∧ q ≤ 20000 := hC.mono fun e w' ⟨q, h1, h2, h3, _⟩ => ⟨q, h1, h2, by rw [h3 (by omega) hm]; exact hm⟩
        rw [hem] at hE
        generalize lo.length = m at *
        generalize rs.length = n at *
        clear hR hz hC hcA hm
        go_enter Try.func24, Try.ntmps24
        go_wp2_with (first | (go_at_call 27; refine hE.mono ?_; rintro e w1 ⟨rfl, rfl⟩) | (go_at_call 21; refine hC'.mono ?_; rintro e w2 ⟨q, rfl, hb2, hq⟩; have hqi : (q : Int) ≤ 20000 := by omega))
        go_ret
        exact ⟨true, by rfl, HB.out _ hb2, by simp; exact HS.out⟩
      · have HS : Hid (¬ SizeOk lo rs) := fun h => hm h.many
        have hC' : Calls Try.prog 21 #[.agg #[.slice la lo.length lc, .slice ra rs.length rc]] (w.alloc (.cells #[.slice la lo.length lc, .slice ra rs.length rc] 25)) fun e w' => ∃ q : Nat, e = .returned (.int .i64 q) ∧ Below (w.alloc (.cells #[.slice la lo.length lc, .slice ra rs.length rc] 25)).heap.size (w.alloc (.cells #[.slice la lo.length lc, .slice ra rs.length rc] 25)) w' ∧ 20000 < q := hC.mono fun e w' ⟨q, h1, h2, _, h3⟩ => ⟨q, h1, h2, h3 hm (by omega)⟩
        rw [hem] at hE
        generalize lo.length = m at *
        generalize rs.length = n at *
        clear hR hz hC hcA hm
        go_enter Try.func24, Try.ntmps24
        go_wp2_with (first | (go_at_call 27; refine hE.mono ?_; rintro e w1 ⟨rfl, rfl⟩) | (go_at_call 21; refine hC'.mono ?_; rintro e w2 ⟨q, rfl, hb2, hq⟩; have hqi : ¬ (q : Int) ≤ 20000 := by omega))
        go_ret
        exact ⟨decide ((q : Int) ≤ 20000), rfl, HB.out _ hb2, fun h => absurd (of_decide_eq_true h) (by omega), fun h => absurd h HS.out⟩
  · have HS : Hid (¬ SizeOk lo rs) := fun h => h8 h.loose
    have h8i : ¬ (lo.length : Int) < 8 := by omega
    generalize lo.length = m at *
    generalize rs.length = n at *
    clear hR hz hC hcA hE
    go_enter Try.func24, Try.ntmps24
    go_wp2
    go_ret
    exact ⟨false, rfl, hbA, by simp; exact HS.out⟩

/-- lists and one more, as the code lays them: two slices in a row. -/
theorem concat_one (g g1 : Nat) (sv u : Value) (ss : List (List Int)) (l : List Int) (w0 w : World) (hb0 : Below w0.heap.size w0 w) (h1 : ss.length ≤ 20000) (hS : LisV w0 sv ss) (hu : IntsV w0 u l) (c0 : w.cell? ⟨g, 0, none⟩ = some sv) (c1 : w.cell? ⟨g, 1, none⟩ = some (.slice (some ⟨g1, 0, none⟩) 1 1)) (c2 : w.cell? ⟨g1, 0, none⟩ = some u) (hg1 : g1 < w.heap.size) :
    Calls Try.prog 31 #[.slice (some ⟨g, 0, none⟩) 2 2] w fun e w' => ∃ ao cap, e = .returned (.slice ao (ss ++ [l]).length cap) ∧ Below w.heap.size w w' ∧ Hid (LisV w' (.slice ao (ss ++ [l]).length cap) (ss ++ [l])) := by
  have hL : LisV w (.slice (some ⟨g1, 0, none⟩) 1 1) [l] := ⟨[u], _, 1, rfl, ⟨by simp, fun h => by simp at h⟩, rfl, fun i hi => by simp at hi; subst hi; exact hu.below hb0, fun _ => ⟨g1, 0, rfl, hg1, fun i hi => by simp at hi; subst hi; exact c2⟩⟩
  refine (concat_own g sv _ ss [l] w w (Below.refl _ _) h1 (by simp) (by simp) (hS.below hb0) hL c0 c1).mono fun e w' ⟨C, cap, e1, e2, e3⟩ => ?_
  obtain ⟨us, e4, e5⟩ := e3.out
  refine ⟨_, cap, by rw [List.length_append]; exact e1, e2, ?_⟩
  show LisV _ _ _
  rw [List.length_append]
  exact lisV_of_owns e4 (e5.below e2)

theorem two_boxes (w1 : World) (u sv : Value) (t1 t2 : TypeId) : Below w1.heap.size w1 ((w1.alloc (.cells #[u] t1)).alloc (.cells #[sv, .slice (some ⟨w1.heap.size, 0, none⟩) 1 1] t2)) ∧ w1.heap.size < ((w1.alloc (.cells #[u] t1)).alloc (.cells #[sv, .slice (some ⟨w1.heap.size, 0, none⟩) 1 1] t2)).heap.size ∧ ((w1.alloc (.cells #[u] t1)).alloc (.cells #[sv, .slice (some ⟨w1.heap.size, 0, none⟩) 1 1] t2)).cell? ⟨w1.heap.size, 0, none⟩ = some u ∧ ((w1.alloc (.cells #[u] t1)).alloc (.cells #[sv, .slice (some ⟨w1.heap.size, 0, none⟩) 1 1] t2)).cell? ⟨w1.heap.size + 1, 0, none⟩ = some sv ∧ ((w1.alloc (.cells #[u] t1)).alloc (.cells #[sv, .slice (some ⟨w1.heap.size, 0, none⟩) 1 1] t2)).cell? ⟨w1.heap.size + 1, 1, none⟩ = some (.slice (some ⟨w1.heap.size, 0, none⟩) 1 1) := by
  refine ⟨((Below.refl _ _).alloc (Nat.le_refl _) _).alloc (by simp) _, by simp; omega, ?_, ?_, ?_⟩ <;> simp [go_sem]
theorem SizeOk.flat {lo : List Int} {rs : List (List Int)} (h : SizeOk lo rs) : (rs ++ [up lo]).flatten.length ≤ 20000 := by rw [flat_snoc, List.length_append, up_length]; have := h.many; omega
set_option maxHeartbeats 1600000 in
set_option maxRecDepth 20000 in
/-- THE CONTRACT OF keysOf. -/
theorem keysOf_any (lo : List Int) (rs : List (List Int)) (la ra : Option Addr) (lc rc : Nat) (w : World) (hs : SizeOk lo rs) (hL : IntsV w (.slice la lo.length lc) lo) (hR : LisV w (.slice ra rs.length rc) rs) :
    Calls Try.prog 18 #[.agg #[.slice la lo.length lc, .slice ra rs.length rc]] w fun e w' => ∃ ao cap, e = .returned (.slice ao (tog (rs ++ [up lo])).length cap) ∧ Below w.heap.size w w' ∧ Hid (IntsV w' (.slice ao (tog (rs ++ [up lo])).length cap) (tog (rs ++ [up lo]))) := by
  obtain ⟨hbA, hcA⟩ := Bc.arg w (.slice la lo.length lc) (.slice ra rs.length rc) 25
  obtain ⟨W0, hW0⟩ : ∃ W0, W0 = w.alloc (.cells #[.slice la lo.length lc, .slice ra rs.length rc] 25) := ⟨_, rfl⟩
  rw [← hW0] at hbA hcA
  have hr20 := hs.runs
  have HSt : Hid (∀ w1, Below W0.heap.size W0 w1 → w1.cell? ⟨w.heap.size, 0, none⟩ = some (.slice la lo.length lc) ∧ w1.cell? ⟨w.heap.size, 1, none⟩ = some (.slice ra rs.length rc)) := fun w1 h => (hcA.later h).2
  have HRi : Hid (∀ w1, Below W0.heap.size W0 w1 → Calls Try.prog 23 #[.slice la lo.length lc] w1 fun e w' => ∃ ao cap, e = .returned (.slice ao lo.length cap) ∧ Below w1.heap.size w1 w' ∧ Hid (IntsV w' (.slice ao lo.length cap) (up lo))) := fun w1 h => (risen_any _ lo w1 (by have := hs.loose; omega) (hL.below (hbA.trans (h.mono hbA.size)))).mono fun e w' ⟨ao, cap, h1, h2, h3⟩ => ⟨ao, cap, h1, h2, h3.out.v⟩
  have HCo : Hid (∀ (w1 w2 : World) (g g1 : Nat) (u : Value), Below W0.heap.size W0 w1 → Below w1.heap.size w1 w2 → IntsV w1 u (up lo) → g1 < w2.heap.size → w2.cell? ⟨g1, 0, none⟩ = some u → w2.cell? ⟨g, 0, none⟩ = some (.slice ra rs.length rc) → w2.cell? ⟨g, 1, none⟩ = some (.slice (some ⟨g1, 0, none⟩) 1 1) → Calls Try.prog 31 #[.slice (some ⟨g, 0, none⟩) 2 2] w2 fun e w' => ∃ ao cap, e = .returned (.slice ao (rs ++ [up lo]).length cap) ∧ Below w2.heap.size w2 w' ∧ Hid (LisV w' (.slice ao (rs ++ [up lo]).length cap) (rs ++ [up lo]))) := fun w1 w2 g g1 u hb1 hb2 hu hg c2 c0 c1 => concat_one g g1 _ u rs (up lo) w1 w2 hb2 hr20 (hR.below (hbA.trans (hb1.mono hbA.size))) hu c0 c1 c2 hg
  have HTo : Hid (∀ (ao : Option Addr) (cap : Nat) (w1 : World), LisV w1 (.slice ao (rs ++ [up lo]).length cap) (rs ++ [up lo]) → Calls Try.prog 30 #[.slice ao (rs ++ [up lo]).length cap] w1 fun e w' => ∃ ao cap, e = .returned (.slice ao (tog (rs ++ [up lo])).length cap) ∧ Below w1.heap.size w1 w' ∧ Hid (IntsV w' (.slice ao (tog (rs ++ [up lo])).length cap) (tog (rs ++ [up lo])))) := fun ao cap w1 h => (together_any _ ao cap (rs ++ [up lo]) w1 (Nat.le_refl _) (by simp) (by have := hs.flat; omega) (by simp; omega) h).mono fun e w' ⟨xo, xc, h1, h2, h3, _⟩ => ⟨xo, xc, h1, h2, h3⟩
  have hB0 : Below W0.heap.size W0 W0 := Below.refl _ _
  generalize (tog (rs ++ [up lo])).length = tn at *
  generalize (rs ++ [up lo]).length = cn at *
  generalize rs.length = n at *
  generalize lo.length = m at *
  clear hL hR hs hcA hr20
  go_enter Try.func18, Try.ntmps18
  go_wp2_with fail
  rw [← hW0]
  clear hW0
  go_region_held3 (fun w' => w'.cell? ⟨w.heap.size, 0, none⟩ = some (.slice la m lc) ∧ w'.cell? ⟨w.heap.size, 1, none⟩ = some (.slice ra n rc))
    (first | exact HSt.out _ (by first | exact hB0 | exact hB0.drew | exact hb01 | exact hb02 | exact hb03) | exact HSt.out _ (by first | exact hB0 | exact hB0.drew | exact hb01 | exact hb02) | exact HSt.out _ (by first | exact hB0 | exact hB0.drew | exact hb01) | exact HSt.out _ (by first | exact hB0 | exact hB0.drew) | exact HSt.out _ (hb01.trans (hbx.1.mono hb01.size)) | exact HSt.out _ (hb01.alloc hb01.size _))
    (first
      | (go_at_call 23; refine (HRi.out _ hB0.drew).mono ?_; rintro e w1 ⟨xo1, xc1, rfl, hb1, hx1⟩; have hb01 := hB0.drew.trans (hb1.mono hB0.drew.size); have hbx := two_boxes w1 (.slice xo1 m xc1) (.slice ra n rc) 22 23)
      | (go_at_call 31; refine (HCo.out w1 _ (w1.heap.size + 1) w1.heap.size _ hb01 hbx.1 hx1.out hbx.2.1 hbx.2.2.1 hbx.2.2.2.1 hbx.2.2.2.2).mono ?_; rintro e w2 ⟨xo2, xc2, rfl, hb2, hx2⟩; have hb01b := hb01.trans (hbx.1.mono hb01.size); have hb02 := hb01b.trans (hb2.mono hb01b.size))
      | (go_at_call 30; refine (HTo.out _ _ _ hx2.out).mono ?_; rintro e w3 ⟨xo3, xc3, rfl, hb3, hx3⟩; have hb03 := hb02.trans (hb3.mono hb02.size)))
  go_wp2_with fail
  go_ret
  exact ⟨xo3, xc3, rfl, hbA.trans (hb03.mono hbA.size), hx3⟩
end Go.Proofs.Ytncfkpfbjenpjaa
