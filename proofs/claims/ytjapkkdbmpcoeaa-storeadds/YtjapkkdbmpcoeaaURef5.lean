/-
  The document's KeyIn and KeysUp; the laws' own functions.
-/
import Derived.Test.YtjapkkdbmpcoeaaURef4
import Derived.Test.YtjapkkdbmpcoeaaUCheck2
namespace Go.Proofs.Ytjapkkdbmpcoeaa
open Go.ChangeShapes Go.WideShapes Go.ChangeAt Go.RowKit Go.Deep

set_option maxHeartbeats 1600000 in
set_option maxRecDepth 20000 in
theorem sameInts_true (va vb : Value) (l : List Int) (w : World) (hl : l.length ≤ 140737488355328) (hA : IntsV w va l) (hB : IntsV w vb l) :
    Calls Try.prog 17 #[va, vb] w fun e w' => e = .returned (.bool true) ∧ ∃ n, w' = w.drewN n := by
  obtain ⟨ao, ca, rfl, _, ha⟩ := hA
  obtain ⟨bo, cb, rfl, _, hb⟩ := hB
  obtain ⟨n, hn⟩ : ∃ n, l.length = n := ⟨_, rfl⟩
  rw [hn] at hl ⊢
  have HA : Hid (l ≠ [] → ∃ b off, ao = some ⟨b, off, none⟩ ∧ b < w.heap.size ∧ IntsAt w b off l) := ha
  have HB : Hid (l ≠ [] → ∃ b off, bo = some ⟨b, off, none⟩ ∧ b < w.heap.size ∧ IntsAt w b off l) := hb
  have HN : Hid (l.length = n) := hn
  clear ha hb hn
  go_enter Try.func17, Try.ntmps17
  go_wp2
  go_loopw [5] (fun i wr => ∃ k : Nat, k ≤ n ∧ i = .int .i64 k ∧ ∃ q, wr = w.drewN q) (fun i _ => n - (intOf i).toNat)
  case atStart => exact ⟨0, Nat.zero_le _, rfl, 0, rfl⟩
  case round =>
    obtain ⟨k, hk, rfl, q, rfl⟩ := hrel
    by_cases hlt : k < n
    · have hne : l ≠ [] := by intro h; subst h; have := HN.out; simp at this; omega
      obtain ⟨b, off, rfl, _, hca⟩ := HA.out hne
      obtain ⟨b', off', rfl, _, hcb⟩ := HB.out hne
      have c1 := hca k (by rw [HN.out]; exact hlt)
      have c2 := hcb k (by rw [HN.out]; exact hlt)
      generalize l.getD k 0 = x at c1 c2
      clear hca hcb hne
      go_wp2_with fail
      go_quiet (fail)
      go_wp2_with fail
      go_roundw
      case rel => exact ⟨k + 1, by omega, by go_num, _, rfl⟩
      case measure => simp [intOf]; omega
    · go_wp2_with fail
      go_ret
      exact ⟨rfl, q, rfl⟩

set_option maxHeartbeats 1600000 in
set_option maxRecDepth 20000 in
theorem sameLists_true (ao bo : Option Addr) (ac bc : Nat) (rs : List (List Int)) (w : World) (hl : rs.length ≤ 140737488355328) (hz : ∀ i, i < rs.length → (rs.getD i []).length ≤ 140737488355328) (hA : LisV w (.slice ao rs.length ac) rs) (hB : LisV w (.slice bo rs.length bc) rs) :
    Calls Try.prog 32 #[.slice ao rs.length ac, .slice bo rs.length bc] w fun e w' => e = .returned (.bool true) ∧ Below w.heap.size w w' := by
  obtain ⟨n, hn⟩ : ∃ n, rs.length = n := ⟨_, rfl⟩
  have HA : Hid (∀ w1, Below w.heap.size w w1 → LisV w1 (.slice ao rs.length ac) rs) := fun w1 hb => hA.below hb
  have HB : Hid (∀ w1, Below w.heap.size w w1 → LisV w1 (.slice bo rs.length bc) rs) := fun w1 hb => hB.below hb
  have HZ : Hid (∀ i, i < rs.length → (rs.getD i []).length ≤ 140737488355328) := hz
  have HN : Hid (rs.length = n) := hn
  rw [hn] at hl HA HB ⊢
  clear hA hB hz hn
  go_enter Try.func32, Try.ntmps32
  go_wp2
  go_loopw [5] (fun i wr => ∃ k : Nat, k ≤ n ∧ i = .int .i64 k ∧ Below w.heap.size w wr) (fun i _ => n - (intOf i).toNat)
  case atStart => exact ⟨0, Nat.zero_le _, rfl, Below.refl _ _⟩
  case round =>
    obtain ⟨k, hk, rfl, hBr⟩ := hrel
    by_cases hlt : k < n
    · have hlt2 : k < rs.length := by rw [HN.out]; exact hlt
      obtain ⟨b, off, rfl, _, u, c1, hu⟩ := (HA.out wr hBr).at hlt2
      obtain ⟨b', off', rfl, _, u', c2, hu'⟩ := (HB.out wr hBr).at hlt2
      obtain ⟨xo, xc, rfl⟩ : ∃ xo xc, u = .slice xo (rs.getD k []).length xc := by obtain ⟨a, c, h, _⟩ := id hu; exact ⟨a, c, h⟩
      obtain ⟨yo, yc, rfl⟩ : ∃ yo yc, u' = .slice yo (rs.getD k []).length yc := by obtain ⟨a, c, h, _⟩ := id hu'; exact ⟨a, c, h⟩
      have hsi := sameInts_true _ _ (rs.getD k []) wr.drew (HZ.out k hlt2) (hu.below (Below.refl _ _).drew) (hu'.below (Below.refl _ _).drew)
      generalize (rs.getD k []).length = ln at *
      clear hu hu'
      go_wp2_with fail
      go_region_held3 (fun w' => w'.cell? ⟨b, off + k, none⟩ = some (.slice xo ln xc) ∧ w'.cell? ⟨b', off' + k, none⟩ = some (.slice yo ln yc)) (first | exact ⟨c1, c2⟩ | exact ⟨by simp [go_sem, c1], by simp [go_sem, c2]⟩)
        (first | (go_at_call 17; refine hsi.mono ?_; rintro e w2 ⟨rfl, q2, rfl⟩))
      go_wp2_with fail
      go_roundw
      case rel => exact ⟨k + 1, by omega, by go_num, below_drewN hBr _⟩
      case measure => simp [intOf]; omega
    · go_wp2_with fail
      go_ret
      exact ⟨rfl, hBr⟩


set_option maxHeartbeats 800000 in
set_option maxRecDepth 20000 in
/-- THE CONTRACT OF sameStore, where both are the same. -/
theorem sameStore_true (la lb ra rb : Option Addr) (lc ld rc rd : Nat) (lo : List Int) (rs : List (List Int)) (w : World) (hz : StSz lo rs) (hA : IntsV w (.slice la lo.length lc) lo) (hB : IntsV w (.slice lb lo.length ld) lo) (hR : LisV w (.slice ra rs.length rc) rs) (hS : LisV w (.slice rb rs.length rd) rs) :
    Calls Try.prog 14 #[.agg #[.slice la lo.length lc, .slice ra rs.length rc], .agg #[.slice lb lo.length ld, .slice rb rs.length rd]] w fun e w' => e = .returned (.bool true) ∧ Below w.heap.size w w' := by
  have hbw : ∀ o1 o2, Below w.heap.size w ((w.alloc o1).alloc o2) := fun o1 o2 => ((Below.refl _ _).alloc (Nat.le_refl _) _).alloc (by simp) _
  obtain ⟨W0, hW0⟩ : ∃ W0, W0 = ((w.alloc (.cells #[.slice la lo.length lc, .slice ra rs.length rc] 25)).alloc (.cells #[.slice lb lo.length ld, .slice rb rs.length rd] 25)) := ⟨_, rfl⟩
  have hA0 : Below w.heap.size w W0 := by rw [hW0]; exact hbw _ _
  have hC1 : Bc W0 w.heap.size (.slice la lo.length lc) (.slice ra rs.length rc) := by rw [hW0]; exact (Bc.arg w _ _ _).2.later ((Below.refl _ _).alloc (Nat.le_refl _) _)
  have hC2 : Bc W0 (w.heap.size + 1) (.slice lb lo.length ld) (.slice rb rs.length rd) := by
    have := (Bc.arg (w.alloc (.cells #[.slice la lo.length lc, .slice ra rs.length rc] 25)) (.slice lb lo.length ld) (.slice rb rs.length rd) 25).2
    rw [hW0]; simpa using this
  have hsi := sameInts_true _ _ lo W0 (by have := hz.loose; omega) (hA.below hA0) (hB.below hA0)
  have HSl : Hid (∀ w1, Below w.heap.size w w1 → Calls Try.prog 32 #[.slice ra rs.length rc, .slice rb rs.length rd] w1 fun e w' => e = .returned (.bool true) ∧ Below w1.heap.size w1 w') := fun w1 h => sameLists_true ra rb rc rd rs w1 (by have := hz.runs; omega) (fun i hi => by have := hz.each i hi; omega) (hR.below h) (hS.below h)
  have HC : Hid (∀ w1, Below W0.heap.size W0 w1 → Below w.heap.size w w1 ∧ Bc w1 w.heap.size (.slice la lo.length lc) (.slice ra rs.length rc) ∧ Bc w1 (w.heap.size + 1) (.slice lb lo.length ld) (.slice rb rs.length rd)) := fun w1 h => ⟨hA0.trans (h.mono hA0.size), hC1.later h, hC2.later h⟩
  obtain ⟨_, a0, a1⟩ := id hC1
  obtain ⟨_, b0, b1⟩ := id hC2
  generalize lo.length = m at *
  generalize rs.length = n at *
  clear hA hB hR hS hz hbw
  go_enter Try.func14, Try.ntmps14
  go_wp2_with fail
  rw [← hW0]
  clear hW0
  go_wp2_with (first | (go_at_call 17; refine hsi.mono ?_; rintro e w1 ⟨rfl, q, rfl⟩; obtain ⟨hw1, ⟨_, p0, p1⟩, ⟨_, q0, q1⟩⟩ := HC.out _ (below_drewN (Below.refl _ _) q); have hsl := HSl.out _ hw1) | (go_at_call 32; refine hsl.mono ?_; rintro e w2 ⟨rfl, hb2⟩))
  all_goals go_ret
  all_goals exact ⟨by first | rfl | simp, hw1.trans (hb2.mono hw1.size)⟩

set_option maxRecDepth 20000 in
/-- THE CONTRACT OF stores: a copy in new memory. -/
theorem stores_any (lo : List Int) (rs : List (List Int)) (la ra : Option Addr) (lc rc : Nat) (w : World) (hz : StSz lo rs) (hL : IntsV w (.slice la lo.length lc) lo) (hR : LisV w (.slice ra rs.length rc) rs) :
    Calls Try.prog 8 #[.agg #[.slice la lo.length lc, .slice ra rs.length rc]] w fun e w' => ∃ xo xc yo yc, e = .returned (.agg #[.slice xo lo.length xc, .slice yo rs.length yc]) ∧ Below w.heap.size w w' ∧ Hid (IntsV w' (.slice xo lo.length xc) lo) ∧ Hid (LisV w' (.slice yo rs.length yc) rs) := by
  obtain ⟨hbA, hcA⟩ := Bc.arg w (.slice la lo.length lc) (.slice ra rs.length rc) 25
  obtain ⟨W0, hW0⟩ : ∃ W0, W0 = ((w.alloc (.cells #[.slice la lo.length lc, .slice ra rs.length rc] 25)).alloc (.cells #[.slice none 0 0, .slice none 0 0] 25)) := ⟨_, rfl⟩
  have hA : Below w.heap.size w W0 := by rw [hW0]; exact hbA.alloc hbA.size _
  have hC0 : Bc W0 w.heap.size (.slice la lo.length lc) (.slice ra rs.length rc) := by rw [hW0]; exact hcA.later ((Below.refl _ _).alloc (Nat.le_refl _) _)
  have hR0 : Bw W0 (w.heap.size + 1) (.slice none 0 0) (.slice none 0 0) := by
    have := Bw.new (w.alloc (.cells #[.slice la lo.length lc, .slice ra rs.length rc] 25)) (.slice none 0 0) (.slice none 0 0) 25
    rw [hW0]
    simpa using this
  have hW2 : w.heap.size + 1 < W0.heap.size := hR0.1.1
  have hcp := rcopy_any lo rs la ra lc rc W0 hz (hL.below hA) (hR.below hA)
  unfold CpPost at hcp
  have HV : Hid (∀ (w' : World) (x : Value), OwnI w' W0.heap.size x lo → IntsV w' x lo) := fun w' x h => h.v
  have HW : Hid (∀ (w' : World) (x : Value), LisO w' W0.heap.size x rs → LisV w' x rs) := fun w' x h => h.v
  obtain ⟨_, a0, a1⟩ := id hC0
  generalize lo.length = m at *
  generalize rs.length = n at *
  clear hL hR hz hcA hbA hC0
  go_enter Try.func8, Try.ntmps8
  go_wp2_with fail
  rw [← hW0]
  clear hW0
  go_wp2_with (first | (go_at_call 21; refine hcp.mono ?_; rintro e w1 ⟨xo, xc, yo, yc, rfl, hb1, hx1, hy1⟩; obtain ⟨⟨_, z0, z1⟩, g0, g1⟩ := hR0.later hb1; have hw1 := hA.trans (hb1.mono hA.size); have HX : Hid (OwnI w1 W0.heap.size (.slice xo m xc) lo) := hx1; have HY : Hid (LisO w1 W0.heap.size (.slice yo n yc) rs) := hy1; clear hx1 hy1))
  have HX2 : Hid (IntsV ((w1.setCell ⟨w.heap.size + 1, 0, none⟩ (.slice xo m xc)).setCell ⟨w.heap.size + 1, 1, none⟩ (.slice yo n yc)) (.slice xo m xc) lo) := HV.out _ _ (owns_setCell (owns_setCell HX.out (by show w.heap.size + 1 < _; omega) _) (by show w.heap.size + 1 < _; omega) _)
  have HY2 : Hid (LisV ((w1.setCell ⟨w.heap.size + 1, 0, none⟩ (.slice xo m xc)).setCell ⟨w.heap.size + 1, 1, none⟩ (.slice yo n yc)) (.slice yo n yc) rs) := HW.out _ _ ((HY.out.setCell (p := ⟨w.heap.size + 1, 0, none⟩) (by show w.heap.size + 1 < _; omega) _).setCell (p := ⟨w.heap.size + 1, 1, none⟩) (by show w.heap.size + 1 < _; omega) _)
  refine bodyPost_ret (v := .agg #[.slice xo m xc, .slice yo n yc]) ?_ rfl ⟨xo, xc, yo, yc, rfl, (hw1.setCell (p := ⟨w.heap.size + 1, 0, none⟩) (by simp) _).setCell (p := ⟨w.heap.size + 1, 1, none⟩) (by simp) _, HX2, HY2⟩
  simp [results, Try.results8, go_sem, z0, z1]

set_option maxHeartbeats 800000 in
set_option maxRecDepth 20000 in
/-- THE CONTRACT OF KeysUp. -/
theorem rall_any (lo : List Int) (rs : List (List Int)) (la ra : Option Addr) (lc rc : Nat) (w : World) (hz : StSz lo rs) (hL : IntsV w (.slice la lo.length lc) lo) (hR : LisV w (.slice ra rs.length rc) rs) :
    Calls Try.prog 16 #[.agg #[.slice la lo.length lc, .slice ra rs.length rc]] w (AlPost w (allL lo rs) (sC lo rs)) := by
  obtain ⟨hbA, hcA⟩ := Bc.arg w (.slice la lo.length lc) (.slice ra rs.length rc) 25
  obtain ⟨_, a0, a1⟩ := id hcA
  have hC := rfault_any lo rs la ra lc rc _ hz (hL.below hbA) (hR.below hbA)
  have HB : Hid (∀ w1, Below (w.alloc (.cells #[.slice la lo.length lc, .slice ra rs.length rc] 25)).heap.size (w.alloc (.cells #[.slice la lo.length lc, .slice ra rs.length rc] 25)) w1 → Below w.heap.size w w1 ∧ w1.cell? ⟨w.heap.size, 0, none⟩ = some (.slice la lo.length lc) ∧ w1.cell? ⟨w.heap.size, 1, none⟩ = some (.slice ra rs.length rc)) := fun w1 h => ⟨hbA.trans (h.mono hbA.size), (hcA.later h).2⟩
  by_cases hm : May lo rs
  · have HK : Hid (∀ w1, Below w.heap.size w w1 → Calls Try.prog 22 #[.agg #[.slice la lo.length lc, .slice ra rs.length rc]] w1 fun e w' => ∃ ao cap, e = .returned (.slice ao (keysL lo rs).length cap) ∧ Below w1.heap.size w1 w' ∧ Hid (IntsV w' (.slice ao (keysL lo rs).length cap) (keysL lo rs))) := fun w1 h => (rkeys_any lo rs la ra lc rc w1 hm.size.many hm.size.runs (hL.below h) (hR.below h)).mono fun e w' ⟨ao, cap, h1, h2, h3⟩ => ⟨ao, cap, h1, h2, h3.out.v⟩
    have HUp : Hid (∀ (ao : Option Addr) (cap : Nat) (w1 : World), IntsV w1 (.slice ao (keysL lo rs).length cap) (keysL lo rs) → Calls Try.prog 23 #[.slice ao (keysL lo rs).length cap] w1 fun e w' => ∃ ao cap, e = .returned (.slice ao (up (keysL lo rs)).length cap) ∧ Below w1.heap.size w1 w' ∧ Hid (IntsV w' (.slice ao (up (keysL lo rs)).length cap) (up (keysL lo rs)))) := fun ao cap w1 h => (rup_any _ (keysL lo rs) w1 (by rw [keysL, List.length_append]; have := hm.size.many; omega) h).mono fun e w' ⟨ao, cap, h1, h2, h3⟩ => ⟨ao, cap, by rw [up_length]; exact h1, h2, by have := h3.out.v; rw [← up_length (keysL lo rs)] at this; exact this⟩
    rw [sC_ok hm] at hC ⊢
    rw [allL_ok hm]
    have HP : Hid (∀ (ao : Option Addr) (cap : Nat) (w2 : World), Below w.heap.size w w2 → IntsV w2 (.slice ao (up (keysL lo rs)).length cap) (up (keysL lo rs)) → AlPost w (up (keysL lo rs)) 0 (.returned (.tuple #[.slice ao (up (keysL lo rs)).length cap, .int .i64 0])) w2) := fun ao cap w2 h1 h2 => ⟨ao, cap, rfl, h1, h2⟩
    generalize (up (keysL lo rs)).length = un at *
    generalize (keysL lo rs).length = kn at *
    generalize rs.length = n at *
    generalize lo.length = m at *
    clear hL hR hcA hz hm
    go_enter Try.func16, Try.ntmps16
    go_wp2_with (first | (go_at_call 9; refine hC.mono ?_; rintro e w1 ⟨rfl, hb1⟩; obtain ⟨hw1, q0, q1⟩ := HB.out w1 hb1; have hk := HK.out w1 hw1) | (go_at_call 22; refine hk.mono ?_; rintro e w2 ⟨ko, kc, rfl, hb2, hx2⟩; have hw2 := hw1.trans (hb2.mono hw1.size); have hup := HUp.out ko kc w2 hx2.out) | (go_at_call 23; refine hup.mono ?_; rintro e w3 ⟨vo, vc, rfl, hb3, hx3⟩; have hw3 := hw2.trans (hb3.mono hw2.size)))
    go_ret2
    exact HP.out vo vc w3 hw3 hx3.out
  · rw [sC_bad hm] at hC ⊢
    rw [allL_bad hm]
    have HP : Hid (∀ (w2 : World), Below w.heap.size w w2 → AlPost w [] 9 (.returned (.tuple #[.slice none 0 0, .int .i64 9])) w2) := fun w2 h1 => ⟨none, 0, rfl, h1, intsV_nil _⟩
    generalize rs.length = n at *
    generalize lo.length = m at *
    clear hL hR hcA hz hm
    go_enter Try.func16, Try.ntmps16
    go_wp2_with (first | (go_at_call 9; refine hC.mono ?_; rintro e w1 ⟨rfl, hb1⟩; obtain ⟨hw1, q0, q1⟩ := HB.out w1 hb1))
    go_ret2
    exact HP.out w1 hw1

set_option maxHeartbeats 800000 in
set_option maxRecDepth 20000 in
/-- THE CONTRACT OF KeyIn. -/
theorem rin_any (lo : List Int) (rs : List (List Int)) (x : Int) (la ra : Option Addr) (lc rc : Nat) (w : World) (hz : StSz lo rs) (hL : IntsV w (.slice la lo.length lc) lo) (hR : LisV w (.slice ra rs.length rc) rs) :
    Calls Try.prog 11 #[.agg #[.slice la lo.length lc, .slice ra rs.length rc], .int .i64 x] w fun e w' => e = .returned (.tuple #[.bool (hasC lo rs x).1, .int .i64 (hasC lo rs x).2]) ∧ Below w.heap.size w w' := by
  obtain ⟨hbA, hcA⟩ := Bc.arg w (.slice la lo.length lc) (.slice ra rs.length rc) 25
  obtain ⟨_, a0, a1⟩ := id hcA
  have hC := rfault_any lo rs la ra lc rc _ hz (hL.below hbA) (hR.below hbA)
  have hin := fun w1 => in_any x 0 2147483647 w1
  have HB : Hid (∀ w1, Below (w.alloc (.cells #[.slice la lo.length lc, .slice ra rs.length rc] 25)).heap.size (w.alloc (.cells #[.slice la lo.length lc, .slice ra rs.length rc] 25)) w1 → Below w.heap.size w w1 ∧ w1.cell? ⟨w.heap.size, 0, none⟩ = some (.slice la lo.length lc) ∧ w1.cell? ⟨w.heap.size, 1, none⟩ = some (.slice ra rs.length rc)) := fun w1 h => ⟨hbA.trans (h.mono hbA.size), (hcA.later h).2⟩
  by_cases hm : May lo rs
  · rw [sC_ok hm] at hC
    by_cases hx : 0 ≤ x ∧ x ≤ 2147483647
    · have hin2 : ∀ w1, Calls Try.prog 24 #[.int .i64 x, .int .i64 0, .int .i64 2147483647] w1 fun e w' => e = .returned (.bool true) ∧ w' = w1 := fun w1 => (hin w1).mono fun e w' ⟨h1, h2⟩ => ⟨by rw [h1, decide_eq_true hx.1, decide_eq_true hx.2]; rfl, h2⟩
      have HK : Hid (∀ w1, Below w.heap.size w w1 → Calls Try.prog 22 #[.agg #[.slice la lo.length lc, .slice ra rs.length rc]] w1 fun e w' => ∃ ao cap, e = .returned (.slice ao (keysL lo rs).length cap) ∧ Below w1.heap.size w1 w' ∧ Hid (IntsV w' (.slice ao (keysL lo rs).length cap) (keysL lo rs))) := fun w1 h => (rkeys_any lo rs la ra lc rc w1 hm.size.many hm.size.runs (hL.below h) (hR.below h)).mono fun e w' ⟨ao, cap, h1, h2, h3⟩ => ⟨ao, cap, h1, h2, h3.out.v⟩
      have hkl : (keysL lo rs).length ≤ 20000 := by rw [keysL, List.length_append]; have := hm.size.many; omega
      have HT : Hid (x ∈ keysL lo rs → ∀ w1, Below w.heap.size w w1 → Ending.returned (.tuple #[.bool true, .int .i64 0]) = .returned (.tuple #[.bool (hasC lo rs x).1, .int .i64 (hasC lo rs x).2]) ∧ Below w.heap.size w w1) := fun h w1 h1 => ⟨by unfold hasC; rw [if_pos hm, if_pos hx, decide_eq_true h], h1⟩
      have HF : Hid (x ∉ keysL lo rs → ∀ w1, Below w.heap.size w w1 → Ending.returned (.tuple #[.bool false, .int .i64 0]) = .returned (.tuple #[.bool (hasC lo rs x).1, .int .i64 (hasC lo rs x).2]) ∧ Below w.heap.size w w1) := fun h w1 h1 => ⟨by unfold hasC; rw [if_pos hm, if_pos hx, decide_eq_false h], h1⟩
      generalize keysL lo rs = K at *
      obtain ⟨kn, hkn⟩ : ∃ kn, K.length = kn := ⟨_, rfl⟩
      have HKn : Hid (K.length = kn) := hkn
      rw [hkn] at HK hkl
      clear hkn
      generalize rs.length = n at *
      generalize lo.length = m at *
      clear hL hR hcA hz hm hx hin
      go_enter Try.func11, Try.ntmps11
      go_wp2_with (first | (go_at_call 9; refine hC.mono ?_; rintro e w1 ⟨rfl, hb1⟩; obtain ⟨hw1, q0, q1⟩ := HB.out w1 hb1; have hk := HK.out w1 hw1) | (go_at_call 24; refine (hin2 _).mono ?_; rintro e w2 ⟨rfl, rfl⟩) | (go_at_call 22; refine hk.mono ?_; rintro e w3 ⟨ko, kc, rfl, hb3, hx3⟩; have hw3 := hw1.trans (hb3.mono hw1.size)))
      have HX : Hid (IntsV w3 (.slice ko kn kc) K) := hx3.out
      clear hx3
      go_loopw [8] (fun j wr => ∃ q : Nat, q ≤ kn ∧ j = .int .i64 q ∧ Hid (x ∉ K.take q) ∧ wr = w3) (fun j _ => kn - (intOf j).toNat)
      case atStart => exact ⟨0, Nat.zero_le _, rfl, by show ¬ _; simp, rfl⟩
      case round =>
        obtain ⟨q, hq, rfl, HA, rfl⟩ := hrel
        by_cases hqr : q < kn
        · have hq2 : q < K.length := by rw [HKn.out]; exact hqr
          obtain ⟨b2, off2, rfl, _, _, hat⟩ := HX.out.at hq2
          have d1 := hat q hq2
          have HM2 : Hid (K.getD q 0 ∈ K) := getD_mem hq2 0
          have HS : Hid (K.getD q 0 ≠ x → x ∉ K.take (q + 1)) := fun h hm => by
            rw [take_get hq2 0] at hm
            rcases List.mem_append.1 hm with h2 | h2
            · exact HA.out h2
            · simp only [List.mem_singleton] at h2; exact h h2.symm
          clear hat HA
          generalize K.getD q 0 = y at *
          by_cases hxy : y = x
          · subst hxy
            go_wp2_with fail
            go_ret2
            exact HT.out HM2.out _ hw3
          · have HS2 : Hid (x ∉ K.take (q + 1)) := HS.out hxy
            clear HS HM2
            go_wp2_with fail
            go_roundw
            case rel => exact ⟨q + 1, by omega, by go_num, HS2, by trivial⟩
            case measure => simp [intOf]; omega
        · obtain rfl : q = kn := by omega
          have HA2 : Hid (x ∉ K) := by have h := HA.out; rw [List.take_of_length_le (by rw [HKn.out]; omega)] at h; exact h
          clear HA
          go_wp2_with fail
          go_ret2
          exact HF.out HA2.out _ hw3
    · have hin2 : ∀ w1, Calls Try.prog 24 #[.int .i64 x, .int .i64 0, .int .i64 2147483647] w1 fun e w' => e = .returned (.bool false) ∧ w' = w1 := fun w1 => (hin w1).mono fun e w' ⟨h1, h2⟩ => ⟨by rw [h1]; congr 2; simp only [Bool.and_eq_false_iff, decide_eq_false_iff_not]; omega, h2⟩
      rw [show hasC lo rs x = (false, 2) by unfold hasC; rw [if_pos hm, if_neg hx]]
      generalize rs.length = n at *
      generalize lo.length = m at *
      clear hL hR hcA hz hm hx hin
      go_enter Try.func11, Try.ntmps11
      go_wp2_with (first | (go_at_call 9; refine hC.mono ?_; rintro e w1 ⟨rfl, hb1⟩; obtain ⟨hw1, q0, q1⟩ := HB.out w1 hb1) | (go_at_call 24; refine (hin2 _).mono ?_; rintro e w2 ⟨rfl, rfl⟩))
      go_ret2
      exact ⟨rfl, hw1⟩
  · rw [sC_bad hm] at hC
    rw [show hasC lo rs x = (false, 9) by unfold hasC; rw [if_neg hm]]
    generalize rs.length = n at *
    generalize lo.length = m at *
    clear hL hR hcA hz hm hin
    go_enter Try.func11, Try.ntmps11
    go_wp2_with (first | (go_at_call 9; refine hC.mono ?_; rintro e w1 ⟨rfl, hb1⟩; obtain ⟨hw1, q0, q1⟩ := HB.out w1 hb1))
    go_ret2
    exact ⟨rfl, hw1⟩
end Go.Proofs.Ytjapkkdbmpcoeaa
