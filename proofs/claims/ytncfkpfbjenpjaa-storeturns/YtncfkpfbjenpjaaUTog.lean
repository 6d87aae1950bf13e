/-
  together: rising lists become one, by halves.
-/
import Derived.Test.YtncfkpfbjenpjaaUMerge
namespace Go.Proofs.Ytncfkpfbjenpjaa
open Go.ChangeShapes Go.WideShapes Go.ChangeAt Go.RowKit Go.Deep

/-- what together answers: the one list itself, or a new one. -/
def TgPost (xo : Option Addr) (w : World) (ls : List (List Int)) (e : Ending) (w' : World) : Prop :=
  ∃ ao cap, e = .returned (.slice ao (tog ls).length cap) ∧ Below w.heap.size w w' ∧ Hid (IntsV w' (.slice ao (tog ls).length cap) (tog ls)) ∧ Hid ((ls.length = 1 ∧ ∃ b off, xo = some ⟨b, off, none⟩ ∧ w.cell? ⟨b, off, none⟩ = some (.slice ao (tog ls).length cap)) ∨ OwnI w' w.heap.size (.slice ao (tog ls).length cap) (tog ls))
theorem tog_len (ls : List (List Int)) : (tog ls).length = ls.flatten.length := (tog_perm _ _ (Nat.le_refl _)).length_eq

set_option maxHeartbeats 1600000 in
set_option maxRecDepth 20000 in
theorem together_any : ∀ (N : Nat) (ao : Option Addr) (cap : Nat) (ls : List (List Int)) (w : World), ls.length ≤ N → 0 < ls.length → ls.flatten.length ≤ 100000 → ls.length ≤ 100000 → LisV w (.slice ao ls.length cap) ls →
    Calls Try.prog 30 #[.slice ao ls.length cap] w (TgPost ao w ls) := by
  intro N
  induction N with
  | zero => intro ao cap ls w h1 h2; omega
  | succ N ih =>
    intro ao cap ls w hN h0 hf hn hV
    by_cases h1 : ls.length = 1
    · obtain ⟨b, off, rfl, hb, u, c1, hu⟩ := hV.at (i := 0) h0
      obtain ⟨l, rfl⟩ : ∃ l, ls = [l] := by
        rcases one_of (Nat.le_of_eq h1) with rfl | h
        · simp at h0
        · exact h
      rw [Nat.add_zero] at c1
      have e : tog [l] = l := by rw [tog_one (by simp)]; rfl
      have hu' : IntsV w u l := hu
      obtain ⟨uo, uc, rfl⟩ := hu'.shape
      have HP : Hid (TgPost (some ⟨b, off, none⟩) w [l] (.returned (.slice uo l.length uc)) w) := ⟨uo, uc, by rw [e], Below.refl _ _, by rw [e]; exact hu', .inl ⟨rfl, b, off, rfl, by rw [e]; exact c1⟩⟩
      clear hV hu hu'
      rw [h1]
      go_enter Try.func30, Try.ntmps30
      go_wp2
      go_ret
      exact HP.out
    · obtain ⟨n, hnn⟩ : ∃ n, ls.length = n := ⟨_, rfl⟩
      have hh1 : n / 2 ≤ n := by omega
      have hh2 : 1 ≤ n / 2 := by omega
      have hh3 : n / 2 < n := by omega
      rw [hnn] at hV hN h0 hn h1 ⊢
      obtain ⟨so1, sc1, hsl1, hV1⟩ := slice_hi hV hh1
      obtain ⟨so2, sc2, hsl2, hV2⟩ := slice_lo hV hh1
      have hl1 : (ls.take (n / 2)).length = n / 2 := by rw [List.length_take]; omega
      have hl2 : (ls.drop (n / 2)).length = n - n / 2 := by rw [List.length_drop]; omega
      have hfl : (ls.take (n / 2)).flatten.length + (ls.drop (n / 2)).flatten.length = ls.flatten.length := by rw [← List.length_append, ← List.flatten_append, List.take_append_drop]
      have et : tog ls = mg (tog (ls.take (n / 2))) (tog (ls.drop (n / 2))) := by have := tog_two (ls := ls) (by omega); rw [hnn] at this; exact this
      have H1 : Hid (∀ w1, Below w.heap.size w w1 → Calls Try.prog 30 #[.slice so1 (n / 2) sc1] w1 fun e w' => ∃ xo xc, e = .returned (.slice xo (tog (ls.take (n / 2))).length xc) ∧ Below w1.heap.size w1 w' ∧ Hid (IntsV w' (.slice xo (tog (ls.take (n / 2))).length xc) (tog (ls.take (n / 2))))) := fun w1 hb => by
        have := ih so1 sc1 (ls.take (n / 2)) w1 (by omega) (by omega) (by omega) (by omega) (by rw [hl1]; exact hV1.below hb)
        rw [hl1] at this
        exact this.mono fun e w' ⟨xo, xc, h1, h2, h3, _⟩ => ⟨xo, xc, h1, h2, h3⟩
      have H2 : Hid (∀ w1, Below w.heap.size w w1 → Calls Try.prog 30 #[.slice so2 (n - n / 2) sc2] w1 fun e w' => ∃ xo xc, e = .returned (.slice xo (tog (ls.drop (n / 2))).length xc) ∧ Below w1.heap.size w1 w' ∧ Hid (IntsV w' (.slice xo (tog (ls.drop (n / 2))).length xc) (tog (ls.drop (n / 2))))) := fun w1 hb => by
        have := ih so2 sc2 (ls.drop (n / 2)) w1 (by omega) (by omega) (by omega) (by omega) (by rw [hl2]; exact hV2.below hb)
        rw [hl2] at this
        exact this.mono fun e w' ⟨xo, xc, h1, h2, h3, _⟩ => ⟨xo, xc, h1, h2, h3⟩
      have H3 : Hid (∀ (va vb : Value) (w1 : World), IntsV w1 va (tog (ls.take (n / 2))) → IntsV w1 vb (tog (ls.drop (n / 2))) → Calls Try.prog 40 #[va, vb] w1 fun e w' => ∃ ao cap, e = .returned (.slice ao (tog ls).length cap) ∧ Below w1.heap.size w1 w' ∧ Hid (OwnI w' w1.heap.size (.slice ao (tog ls).length cap) (tog ls))) := fun va vb w1 h1 h2 => by
        have := merged_any va vb _ _ w1 (by rw [tog_len]; omega) (by rw [tog_len]; omega) h1 h2
        rw [← et] at this
        exact this
      have HP : Hid (∀ (xo : Option Addr) (xc : Nat) (w1 w2 : World), Below w.heap.size w w1 → Below w1.heap.size w1 w2 → OwnI w2 w1.heap.size (.slice xo (tog ls).length xc) (tog ls) → TgPost ao w ls (.returned (.slice xo (tog ls).length xc)) w2) := fun xo xc w1 w2 hb1 hb2 ho => ⟨xo, xc, rfl, hb1.trans (hb2.mono hb1.size), ho.v, .inr (ho.mono hb1.size)⟩
      obtain ⟨m2, hm2⟩ : ∃ m2, n - n / 2 = m2 := ⟨_, rfl⟩
      rw [hm2] at hsl2 H2
      have hq : (n : Int).tdiv 2 = ((n / 2 : Nat) : Int) := by rw [Int.tdiv_eq_ediv_of_nonneg (by omega)]; omega
      have hB0 : Below w.heap.size w w := Below.refl _ _
      generalize (tog (ls.take (n / 2))).length = k1 at *
      generalize (tog (ls.drop (n / 2))).length = k2 at *
      have hn1 : ¬ (n : Int) = 1 := by omega
      obtain ⟨hf2, hhf⟩ : ∃ hf2, n / 2 = hf2 := ⟨_, rfl⟩
      rw [hhf] at hsl1 hsl2 H1 H2 H3 hq
      have hwr : wrap64 (hf2 : Int) = (hf2 : Int) := IntWalk.wrap64_in _ (by omega)
      clear hV hV1 hV2 hl1 hl2 hfl et ih hm2 hh1 hh2 hh3 hhf
      go_enter Try.func30, Try.ntmps30
      go_wp2_with fail
      clear hN h0 hf h1 hn
      rw [hwr]
      go_region_held3 (fun _ => True) (trivial)
        (first
          | (go_at_call_of 30 so1; refine (H1.out _ hB0.drew).mono ?_; rintro e w1 ⟨xo1, xc1, rfl, hb1, hx1⟩; have hw1 := hB0.drew.trans (hb1.mono hB0.drew.size))
          | (go_at_call_of 30 so2; refine (H2.out _ hw1).mono ?_; rintro e w2 ⟨xo2, xc2, rfl, hb2, hx2⟩; have hw2 := hw1.trans (hb2.mono hw1.size); have hm := H3.out _ _ w2 (hx1.out.below hb2) hx2.out)
          | (go_at_call 40; refine hm.mono ?_; rintro e w3 ⟨xo3, xc3, rfl, hb3, hx3⟩))
      go_wp2_with fail
      go_ret
      exact HP.out _ _ _ _ hw2 hb3 hx3.out
end Go.Proofs.Ytncfkpfbjenpjaa
