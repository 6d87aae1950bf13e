/-
  The contracts of the document's own secondAt, truthAt and TruthsOf.
-/
import Derived.Test.YtckgenpcppifpaaDoorLogicTr3
import Derived.Test.YtckgenpcppifpaaDoorRefAhead
namespace Go.Proofs.YtckgenpcppifpaaDoor
open Go.ChangeShapes Go.WideShapes Go.ChangeAt Go.RowKit Go.Deep
open Terms

theorem rsec_any (b off cap p : Nat) (l : List (Int × Int)) (w : World) (h60 : l.length ≤ 60) (hz : endsCode (l.map Prod.fst) = 0) (hp : p < l.length) (h2 : pn (l.getD p (0, 0)).1 = 2) (hat : OpsAt w b off l) :
    Calls Tryd.prog 30 #[.slice (some ⟨b, off, none⟩) l.length cap, .int .i64 (p : Int)] w fun e w' => e = .returned (.int .i64 (sec l p : Int)) ∧ w' = w := by
  obtain ⟨h1, hs⟩ := part_in hz hp
  have hp1 := h1 (by omega)
  obtain ⟨_, hc⟩ := code_zero hz
  rw [List.length_map] at hc
  obtain ⟨m, hm, hm1, hml⟩ := cnt_in (l.map Prod.fst) 1 l.length (p + 1) hc hp1
  have hks : KindsAt w b off (l.map Prod.fst) := fun i hi => by
    rw [List.length_map] at hi
    rw [(hat i hi).1]
    simp [List.getD_eq_getElem?_getD, hi]
  have hen := endOf_any b off l.length cap (p + 1) (l.map Prod.fst) w h60 (by rw [List.length_map]) (by omega) hks
  have hsec : sec l p = p + 1 + m := by unfold sec; exact endAt_ok hm
  rw [hm] at hen
  rw [hsec]
  have hpc : ((p + 1 : Nat) : Int) = (p : Int) + 1 := by omega
  simp only [endOfVal] at hen
  rw [hpc] at hen
  generalize ((p + 1 + m : Nat) : Int) = z at *
  generalize l.length = n at *
  clear hat hks hc hm hs h1 h2 hsec hpc
  go_enter Tryd.func30, Tryd.ntmps30
  go_wp2_with (go_at_call 49; refine hen.mono ?_; rintro e w1 ⟨rfl, rfl⟩)
  go_ret
  exact ⟨rfl, rfl⟩

theorem kind_ok {l : List (Int × Int)} (hz : endsCode (l.map Prod.fst) = 0) {p : Nat} (hp : p < l.length) : 1 ≤ (l.getD p (0, 0)).1 ∧ (l.getD p (0, 0)).1 ≤ 18 := by
  obtain ⟨_, hc⟩ := code_zero hz
  rw [List.length_map] at hc
  obtain ⟨m, hm, _, _⟩ := cnt_in (l.map Prod.fst) 1 l.length p hc hp
  have ha := cnt_at (ks := l.map Prod.fst) (q := p) (by rw [List.length_map]; exact hp)
  rw [hm] at ha
  have hget : (l.map Prod.fst).getD p 0 = (l.getD p (0, 0)).1 := by simp [List.getD_eq_getElem?_getD, hp]
  rw [hget] at ha
  split at ha
  · rename_i hk; simpa [okK] using hk
  · simp at ha

/-- what truthAt stands on. -/
structure TruIn (w : World) (v lv av : Value) (l : List (Int × Int)) (letter : List Bool) : Prop where
  ops : OpsV w v l
  letter : BoolsV w lv letter
  ahead : IntsV w av (aheadL l)
theorem TruIn.below {w w' : World} {v lv av : Value} {l : List (Int × Int)} {letter : List Bool} (h : TruIn w v lv av l letter) (hb : Below w.heap.size w w') : TruIn w' v lv av l letter := ⟨h.ops.below hb, h.letter.below hb, h.ahead.below hb⟩

set_option maxHeartbeats 1600000 in
set_option maxRecDepth 20000 in
theorem truthAt_look (b off n cap : Nat) (lo : Option Addr) (ln lc : Nat) (aao : Option Addr) (an ac : Nat) (kx : Int) (hk : 14 ≤ kx ∧ kx ≤ 18) (p : Nat) (hpn : p < n) (l : List (Int × Int)) (claim : Int) (w : World) (h0 : 0 ≤ claim) (h64 : claim < 64) (han : an ≤ 6)
    (c0 : w.cell? ⟨b, off + p * 2, none⟩ = some (.int .i64 kx)) (hA : an = (aheadL l).length) (hav : IntsV w (.slice aao an ac) (aheadL l)) (hpl : p < l.length) (hlk : lookB (l.getD p (0, 0)).1 = true) :
    Calls Tryd.prog 48 #[.slice (some ⟨b, off, none⟩) n cap, .int .i64 (p : Int), .slice lo ln lc, .slice aao an ac, .int .i64 claim] w fun e w' => e = .returned (.bool (bitB claim (aheadTo l p).length)) ∧ Below w.heap.size w w' := by
  have hlt := aheadTo_lt l hpl hlk
  obtain ⟨ao', ac', hsl, hai⟩ := hav
  injection hsl with e1 e2 e3
  subst e1
  obtain ⟨ab, aoff, rfl, habl, haat⟩ := hai (by intro h; rw [show aheadTo l l.length = aheadL l from rfl, h] at hlt; simp at hlt)
  have HG : Hid (∀ k, k < an → ∃ q : Nat, w.cell? ⟨ab, aoff + k, none⟩ = some (.int .i64 (q : Int)) ∧ (q = p ↔ k = (aheadTo l p).length)) := fun k hk => by
    obtain ⟨q, h1, h2, h3, h4⟩ := aheadTo_get l l.length k (by unfold aheadL at hA; omega)
    refine ⟨q, by rw [haat k (by omega)]; exact congrArg (fun z => some (Value.int .i64 z)) h1, fun e => by rw [← e]; exact h4.symm, fun e => ?_⟩
    rcases Nat.lt_trichotomy q p with h | h | h
    · have := aheadTo_lt l h h3; omega
    · exact h
    · have := aheadTo_lt l h hlk; omega
  have hia : (aheadTo l p).length < an := by unfold aheadL at hA; omega
  generalize (aheadTo l p).length = ix at *
  have e13 : ¬ kx = 13 := by omega
  have e11 : ¬ kx = 11 := by omega
  have e12 : ¬ kx = 12 := by omega
  have e10 : ¬ kx = 10 := by omega
  have e8 : ¬ kx = 8 := by omega
  have e9 : ¬ kx = 9 := by omega
  clear hk hai haat hlk hpl hlt hA e2 e3
  go_enter Tryd.func48, Tryd.ntmps48
  go_wp2_with fail
  go_loop [4, 13] (fun c i => ∃ k : Nat, k ≤ ix ∧ i = .int .i64 (k : Int) ∧ c = .int .i64 (claim / 2 ^ k)) (fun _ i => an - (intOf i).toNat)
  case atStart => exact ⟨0, Nat.zero_le _, rfl, by simp⟩
  case round =>
    obtain ⟨k, hk, rfl, rfl⟩ := hrel
    obtain ⟨q, hq, hqi⟩ := HG.out k (by omega)
    have h2 : (0 : Int) < 2 ^ k := Int.pow_pos (by decide)
    have h3 : 0 ≤ claim / 2 ^ k := Int.ediv_nonneg h0 (Int.le_of_lt h2)
    have h4 : claim / 2 ^ k < 64 := Int.lt_of_le_of_lt (Int.ediv_le_self _ h0) h64
    have HD : Hid (claim / 2 ^ (k + 1) = claim / 2 ^ k / 2) := by show _ = _; rw [Int.pow_succ]; first | exact (Int.ediv_ediv (Int.le_of_lt h2)).symm | exact (Int.ediv_ediv_of_nonneg (Int.le_of_lt h2)).symm | exact (Int.ediv_ediv_eq (Int.le_of_lt h2)).symm
    have HB : Hid (bitB claim k = decide (claim / 2 ^ k % 2 = 1)) := rfl
    generalize claim / 2 ^ k = cl at *
    have hka : k < an := by omega
    clear h2
    by_cases hqp : q = p
    · have hki := hqi.1 hqp
      have HKI : Hid (k = ix) := hki
      subst hqp
      clear hki hqi HG
      go_wp2_with fail
      go_ret
      rw [← HKI.out, HB.out]
      exact ⟨rfl, Below.refl _ _⟩
    · have hki : k ≠ ix := fun e => hqp (hqi.2 e)
      have hne : ¬ (q : Int) = p := by omega
      have hlt' : k < ix := by omega
      clear hki hqi HG hqp
      go_wp2_with fail
      exact ⟨⟨k + 1, hlt', by first | rfl | simp, by rw [HD.out]⟩, by simp [intOf]; omega⟩

set_option maxHeartbeats 1600000 in
set_option maxRecDepth 20000 in
/-- THE CONTRACT OF the document's truthAt. -/
theorem truthAt_any (l : List (Int × Int)) (letter : List Bool) (claim : Int) (hc : lcode letter.length l = 0) (h0 : 0 ≤ claim) (h64 : claim < 64) : ∀ (m p : Nat) (w : World) (v lv av : Value), l.length ≤ m + p → p < l.length → TruIn w v lv av l letter →
    Calls Tryd.prog 48 #[v, .int .i64 (p : Int), lv, av, .int .i64 claim] w fun e w' => e = .returned (.bool (tru l letter claim p)) ∧ Below w.heap.size w w' := by
  obtain ⟨hp0, hp6, hz, hlf, h6⟩ := lcode_zero hc
  obtain ⟨hne, h60⟩ := ends_ne hz
  rw [List.length_map] at h60
  intro m
  induction m with
  | zero => intro p w v lv av hm hp; omega
  | succ m ih =>
    intro p w v lv av hm hp hI
    obtain ⟨ao, cap, rfl, _, hv⟩ := id hI.ops
    obtain ⟨b, off, rfl, hbl, hat⟩ := hv (by rintro rfl; exact hne rfl)
    obtain ⟨lo, lc, rfl, hl⟩ := id hI.letter
    obtain ⟨aao, ac, rfl, ha⟩ := id hI.ahead
    obtain ⟨c0, c1⟩ := hat p hp
    have hop := lfirst_all hlf p hp
    have hko := kind_ok hz hp
    obtain ⟨hq1, hq2⟩ := part_in hz hp
    cases hb : lookB (l.getD p (0, 0)).1 with
    | true =>
      rw [tru_look hp hb]
      have hk : 14 ≤ (l.getD p (0, 0)).1 ∧ (l.getD p (0, 0)).1 ≤ 18 := by simpa [lookB] using hb
      exact truthAt_look b off l.length cap lo _ lc aao _ ac _ hk p hp l claim w h0 h64 h6 c0 rfl hI.ahead hp hb
    | false =>
      have HE : Hid (tru l letter claim p = mkB (l.getD p (0, 0)) letter (tru l letter claim (p + 1)) (tru l letter claim (sec l p))) := tru_mk hp hb (fun h => (hq2 h).1)
      have hsc := rsec_any b off cap p l
      have ihp : p + 1 < l.length → ∀ w', Below w.heap.size w w' → Calls Tryd.prog 48 #[.slice (some ⟨b, off, none⟩) l.length cap, .int .i64 ((p : Int) + 1), .slice lo letter.length lc, .slice aao (aheadL l).length ac, .int .i64 claim] w' fun e w2 => e = .returned (.bool (tru l letter claim (p + 1))) ∧ Below w'.heap.size w' w2 := fun h w' hb' => by
        have := ih (p + 1) w' _ _ _ (by omega) h (hI.below hb')
        rw [show ((p + 1 : Nat) : Int) = (p : Int) + 1 by omega] at this
        exact this
      have ihs : pn (l.getD p (0, 0)).1 = 2 → ∀ w', Below w.heap.size w w' → Calls Tryd.prog 48 #[.slice (some ⟨b, off, none⟩) l.length cap, .int .i64 (sec l p : Int), .slice lo letter.length lc, .slice aao (aheadL l).length ac, .int .i64 claim] w' fun e w2 => e = .returned (.bool (tru l letter claim (sec l p))) ∧ Below w'.heap.size w' w2 := fun h w' hb' => ih (sec l p) w' _ _ _ (by have := (hq2 h).1; omega) (hq2 h).2 (hI.below hb')
      have hss : pn (l.getD p (0, 0)).1 = 2 → ∀ w', Below w.heap.size w w' → Calls Tryd.prog 30 #[.slice (some ⟨b, off, none⟩) l.length cap, .int .i64 (p : Int)] w' fun e w2 => e = .returned (.int .i64 (sec l p : Int)) ∧ w2 = w' := fun h w' hb' => rsec_any b off cap p l w' h60 hz hp h (hat.below hb' hbl)
      generalize tru l letter claim (p + 1) = ta at *
      generalize tru l letter claim (sec l p) = tb at *
      generalize tru l letter claim p = tp at *
      generalize l.getD p (0, 0) = xy at *
      obtain ⟨kx, vx⟩ := xy
      simp only at c0 c1 hb hop hq1 hq2 ihs hss hko
      have hk8 : 8 ≤ kx := by
        simp only [lopErr] at hop
        split at hop
        · omega
        · omega
      generalize (sec l p : Int) = sp at *
      rw [HE.out]
      have hlf13 : kx = 13 → 0 ≤ vx ∧ vx < letter.length := fun e => by
        simp only [lopErr] at hop
        rw [if_neg (by omega), if_pos e] at hop
        split at hop
        · omega
        · omega
      generalize (aheadL l).length = an at *
      clear hv ha hop hI hsc ih HE
      by_cases e13 : kx = 13
      · subst e13
        obtain ⟨hv0, hv1⟩ := hlf13 rfl
        obtain ⟨vn, rfl⟩ : ∃ vn : Nat, vx = vn := ⟨vx.toNat, by omega⟩
        obtain ⟨lb, loff, rfl, hlbl, hlat⟩ := hl (by intro h; rw [h] at hv1; simp at hv1; omega)
        have hcl := hlat vn (by omega)
        rw [show mkB (13, (vn : Int)) letter ta tb = letter.getD vn false by simp [mkB]]
        generalize letter.getD vn false = x at *
        generalize letter.length = ln at *
        generalize l.length = n at *
        have hvl : vn < ln := by omega
        clear hlat hl hlf13 hv0 hv1 ihp ihs hss hq1 hq2
        go_enter Tryd.func48, Tryd.ntmps48
        go_wp2_with fail
        go_ret
        exact ⟨rfl, Below.refl _ _⟩
      · generalize hln : letter.length = ln at *
        generalize hnn : l.length = n at *
        clear hl hlf13 hat
        by_cases e11 : kx = 11
        · subst e11
          rw [show mkB (11, vx) letter ta tb = true by simp [mkB]]
          clear ihp ihs hss hq1 hq2
          go_enter Tryd.func48, Tryd.ntmps48
          go_wp2_with fail
          go_ret
          exact ⟨rfl, Below.refl _ _⟩
        · by_cases e12 : kx = 12
          · subst e12
            rw [show mkB (12, vx) letter ta tb = false by simp [mkB]]
            clear ihp ihs hss hq1 hq2
            go_enter Tryd.func48, Tryd.ntmps48
            go_wp2_with fail
            go_ret
            exact ⟨rfl, Below.refl _ _⟩
          · by_cases e10 : kx = 10
            · subst e10
              rw [show mkB (10, vx) letter ta tb = !ta by simp [mkB]]
              have hc1 := ihp (hq1 (by decide)) w (Below.refl _ _)
              clear ihp ihs hss hq1 hq2
              go_enter Tryd.func48, Tryd.ntmps48
              go_wp2_with (go_at_call 48; refine hc1.mono ?_; rintro e w1 ⟨rfl, hb1⟩)
              go_ret
              exact ⟨rfl, hb1⟩
            · by_cases e89 : kx = 8 ∨ kx = 9
              · have hpn2 : pn kx = 2 := by rcases e89 with rfl | rfl <;> rfl
                have hc1 := ihp (hq1 (by omega)) w (Below.refl _ _)
                have hc2 := ihs hpn2
                have hc3 := hss hpn2
                have HM : Hid (mkB (kx, vx) letter ta tb = if kx = 8 then (ta && tb) else (ta || tb)) := by show _ = _; rcases e89 with rfl | rfl <;> simp [mkB]
                rw [HM.out]
                clear ihp ihs hss hq1 hq2 hpn2 HM
                rcases e89 with rfl | rfl
                · cases ta <;> cases tb
                  all_goals
                    go_enter Tryd.func48, Tryd.ntmps48
                    go_wp2_with (first | (go_at_call 30; refine (hc3 _ hb1).mono ?_; rintro e w2 ⟨rfl, hw2⟩; obtain rfl := hw2.symm) | (go_at_call 48; refine hc1.mono ?_; clear hc1; rintro e w1 ⟨rfl, hb1⟩; have hk1 := (hb1.cell (p := ⟨b, off + p * 2, none⟩) hbl).trans c0; have hc4 := hc2 _ hb1) | (go_at_call 48; refine hc4.mono ?_; clear hc4; rintro e w3 ⟨rfl, hb3⟩; have hb13 := hb1.trans (hb3.mono hb1.size); have hk3 := (hb13.cell (p := ⟨b, off + p * 2, none⟩) hbl).trans c0))
                    all_goals go_ret
                    all_goals exact ⟨by first | rfl | simp, hb13⟩
                · cases ta <;> cases tb
                  all_goals
                    go_enter Tryd.func48, Tryd.ntmps48
                    go_wp2_with (first | (go_at_call 30; refine (hc3 _ hb1).mono ?_; rintro e w2 ⟨rfl, hw2⟩; obtain rfl := hw2.symm) | (go_at_call 48; refine hc1.mono ?_; clear hc1; rintro e w1 ⟨rfl, hb1⟩; have hk1 := (hb1.cell (p := ⟨b, off + p * 2, none⟩) hbl).trans c0; have hc4 := hc2 _ hb1) | (go_at_call 48; refine hc4.mono ?_; clear hc4; rintro e w3 ⟨rfl, hb3⟩; have hb13 := hb1.trans (hb3.mono hb1.size); have hk3 := (hb13.cell (p := ⟨b, off + p * 2, none⟩) hbl).trans c0))
                    all_goals go_ret
                    all_goals exact ⟨by first | rfl | simp, hb13⟩
              · exfalso
                simp [lookB] at hb
                omega
end Go.Proofs.YtckgenpcppifpaaDoor
