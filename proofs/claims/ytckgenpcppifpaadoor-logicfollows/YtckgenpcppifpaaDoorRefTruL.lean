/-
  The contract of the document's own TruthsOf.
-/
import Derived.Test.YtckgenpcppifpaaDoorRefTruths
namespace Go.Proofs.YtckgenpcppifpaaDoor
open Go.ChangeShapes Go.WideShapes Go.ChangeAt Go.RowKit Go.Deep
open Terms

def truTo (l : List (Int × Int)) (letter : List Bool) (claim : Int) (k : Nat) : List Bool := (List.range k).map (tru l letter claim)
theorem truTo_succ (l : List (Int × Int)) (letter : List Bool) (claim : Int) (k : Nat) : truTo l letter claim (k + 1) = truTo l letter claim k ++ [tru l letter claim k] := by simp [truTo, List.range_succ]
theorem truTo_length (l : List (Int × Int)) (letter : List Bool) (claim : Int) (k : Nat) : (truTo l letter claim k).length = k := by simp [truTo]

set_option maxHeartbeats 1600000 in
set_option maxRecDepth 20000 in
/-- THE CONTRACT OF the document's TruthsOf. -/
theorem rtruths_any (v lv : Value) (l : List (Int × Int)) (letter : List Bool) (claim : Int) (w : World) (hV : OpsV w v l) (hL : BoolsV w lv letter) :
    Calls Tryd.prog 29 #[v, lv, .int .i64 claim] w fun e w' => ∃ v', e = .returned (.tuple #[v', .int .i64 (tcode l letter claim)]) ∧ Below w.heap.size w w' ∧ BoolsV w' v' (truL l letter claim) := by
  have hah := aheadOf_any v l letter.length w hV
  obtain ⟨oo, oc, rfl, _⟩ := id hV
  obtain ⟨lo, lc, rfl, hl⟩ := id hL
  by_cases hc : lcode letter.length l = 0
  · obtain ⟨hp0, hp6, hz, hlf, h6⟩ := lcode_zero hc
    obtain ⟨hne, h60⟩ := ends_ne hz
    rw [List.length_map] at h60
    rw [hc] at hah
    have hal : ahL letter.length l = aheadL l := by unfold ahL; rw [if_pos hc]
    rw [hal] at hah
    have hsh : (2 : Int) ^ (aheadL l).length ≤ 64 := by
      have hcase : (aheadL l).length = 0 ∨ (aheadL l).length = 1 ∨ (aheadL l).length = 2 ∨ (aheadL l).length = 3 ∨ (aheadL l).length = 4 ∨ (aheadL l).length = 5 ∨ (aheadL l).length = 6 := by omega
      rcases hcase with h | h | h | h | h | h | h <;> rw [h] <;> decide
    have HTr : Hid (ClaimNo l claim → False) ∨ Hid (ClaimNo l claim) := by
      by_cases h : ClaimNo l claim
      · exact .inr h
      · exact .inl h
    have HTa : Hid (¬ ClaimNo l claim → ∀ p w' av, p < l.length → TruIn w' (.slice oo l.length oc) (.slice lo letter.length lc) av l letter → Calls Tryd.prog 48 #[.slice oo l.length oc, .int .i64 (p : Int), .slice lo letter.length lc, av, .int .i64 claim] w' fun e w2 => e = .returned (.bool (tru l letter claim p)) ∧ Below w'.heap.size w' w2) := fun hn p w' av hp hI => by
      unfold ClaimNo at hn
      exact truthAt_any l letter claim hc (by omega) (by omega) l.length p w' _ _ _ (by omega) hp hI
    have HCl : Hid (ClaimNo l claim ↔ (claim < 0 ∨ 2 ^ (aheadL l).length ≤ claim)) := Iff.rfl
    have HV : Hid (OpsV w (.slice oo l.length oc) l) := hV
    have HL : Hid (BoolsV w (.slice lo letter.length lc) letter) := hL
    have HTC : Hid (ClaimNo l claim → tcode l letter claim = 2 ∧ truL l letter claim = []) := fun h => ⟨tcode_no hc h, by unfold truL; rw [tcode_no hc h]; rfl⟩
    have HTO : Hid (¬ ClaimNo l claim → tcode l letter claim = 0 ∧ truL l letter claim = truTo l letter claim l.length) := fun h => ⟨tcode_ok hc h, by unfold truL truTo; rw [tcode_ok hc h]; rfl⟩
    generalize tcode l letter claim = x at *
    generalize truL l letter claim = res at *
    have hin := fun w => in_any claim 0 ((2 : Int) ^ (aheadL l).length - 1) w
    obtain ⟨an, han⟩ : ∃ an, an = (aheadL l).length := ⟨_, rfl⟩
    have HAN : Hid (an = (aheadL l).length) := han
    rw [← han] at hah h6 hsh HCl hin
    obtain ⟨n, hn⟩ : ∃ n, n = l.length := ⟨_, rfl⟩
    have HN : Hid (n = l.length) := hn
    rw [← hn] at hah h60 HTa HTO HV ⊢
    generalize letter.length = ln at *
    obtain ⟨i0, hi, hz0, hz1, hz2⟩ := info_parts infoBool
    clear hV hL hl hal hc hz hne hlf han hn hp0 hp6
    go_enter Tryd.func29, Tryd.ntmps29
    go_wp2_with (go_at_call 47; refine hah.mono ?_; rintro e w1 ⟨av, rfl, hb1, ho1⟩; obtain ⟨aao, ac, rfl⟩ := owns_slice ho1)
    have HI1 : Hid (TruIn w1 (.slice oo n oc) (.slice lo ln lc) (.slice aao an ac) l letter) := ⟨HV.out.below hb1, HL.out.below hb1, by have := ho1; rw [HAN.out] at this ⊢; exact intsV_of_owns this⟩
    clear hah ho1
    go_loop [10, 11] (fun ms i => ∃ k : Nat, k ≤ an ∧ i = .int .i64 (k : Int) ∧ ms = .int .i64 (2 ^ k)) (fun _ i => an - (intOf i).toNat)
    case atStart => exact ⟨0, Nat.zero_le _, rfl, rfl⟩
    case round =>
      obtain ⟨k, hk, rfl, rfl⟩ := hrel
      by_cases hlt : k < an
      · have h2 : (2 : Int) ^ k * 2 = 2 ^ (k + 1) := (Int.pow_succ 2 k).symm
        have h3 : (2 : Int) ^ (k + 1) ≤ 64 := by
          have hcase : k = 0 ∨ k = 1 ∨ k = 2 ∨ k = 3 ∨ k = 4 ∨ k = 5 := by omega
          rcases hcase with rfl | rfl | rfl | rfl | rfl | rfl <;> decide
        have h4 : (0 : Int) < 2 ^ k := Int.pow_pos (by decide)
        have HP : Hid ((2 : Int) ^ k * 2 = 2 ^ (k + 1)) := h2
        rw [← h2] at h3
        generalize (2 : Int) ^ k = pw at *
        clear h2
        go_wp2_with fail
        exact ⟨⟨k + 1, hlt, by first | rfl | simp, by rw [HP.out]⟩, by simp [intOf]; omega⟩
      · obtain rfl : k = an := by omega
        have h4 : (0 : Int) < 2 ^ k := Int.pow_pos (by decide)
        rcases HTr with HNo | HYes
        · have hnc : ¬ (claim < 0 ∨ 2 ^ k ≤ claim) := fun h => HNo.out (HCl.out.2 h)
          obtain ⟨hx0, hrl⟩ := HTO.out (fun h => HNo.out h)
          have HRL : Hid (res = truTo l letter claim n) := hrl
          have HX0 : Hid (x = 0) := hx0
          rw [show decide (0 ≤ claim ∧ claim ≤ 2 ^ k - 1) = true by simp; omega] at hin
          have HTa2 := (show Hid _ from HTa.out (fun h => HNo.out h))
          generalize (2 : Int) ^ k = pw at *
          clear hnc hx0 hrl hlt hk HTO HTC HTa HCl HNo
          go_wp2_with (go_at_call 41; refine (hin _).mono ?_; rintro e wz ⟨rfl, hwz⟩; obtain rfl := hwz.symm)
          go_loopw [12, 13] (fun out i wr => ∃ q : Nat, q ≤ n ∧ i = .int .i64 (q : Int) ∧ Hid (wr.ownsRow w1.heap.size 4 1 out (truTo l letter claim q).length (bvals (truTo l letter claim q))) ∧ Below w1.heap.size w1 wr) (fun _ i _ => n - (intOf i).toNat)
          case atStart => exact ⟨0, Nat.zero_le _, rfl, World.ownsRow_nil _ _ _ _, Below.refl _ _⟩
          case round =>
            obtain ⟨q, hq, rfl, HOw, hbel⟩ := hrel
            have hown := HOw.out
            rw [truTo_length] at hown
            obtain ⟨ro, rc, rfl⟩ := owns_slice hown
            by_cases hlt : q < n
            · have hta := HTa2.out q wr _ hlt (HI1.out.below hbel)
              have HS : Hid (truTo l letter claim (q + 1) = truTo l letter claim q ++ [tru l letter claim q]) := truTo_succ _ _ _ _
              generalize tru l letter claim q = tv at *
              have h63 : q + 1 ≤ maxLen := by unfold maxLen; omega
              have hkb : (q + 1) * 1 ≤ 140737488355328 := by omega
              clear HOw HTa2
              go_wp2_with (first | (go_at_call 48; refine hta.mono ?_; rintro e w3 ⟨rfl, hb3⟩; have ho3 := fun o => (owns_later hown hb3 (Nat.le_refl _)).alloc o; have hb13 := hbel.trans (hb3.mono hbel.size); have hbase : ∀ o, w1.heap.size ≤ (w3.alloc o).heap.size := (fun o => by have := hb13.size; simp; omega)) | (at_builtin; refine wpList_append_own _ rfl _ _ 27 rfl w1.heap.size 4 i0 (.bool false) 1 1 Tryd.underlying27 hi hz0 hz1 hz2 rfl (by decide) _ _ _ rfl (ho3 _) ⟨_, 0, none⟩ 1 1 _ rfl rfl (cell_one_new _ _ _) (by intro u hu; simp at hu; subst hu; rfl) h63 hkb (hbase _) ?_; intro v5 w5 hown5 hgrow5 _; obtain ⟨g5, cp5, rfl⟩ := owns_more hown5))
              have hb5 : Below w1.heap.size w1 w5 := (hb13.alloc hb13.size _).grown hgrow5 (hbase _) (owns_block hown)
              refine ⟨⟨q + 1, hlt, by first | rfl | simp, ?_, hb5⟩, by simp [intOf]; omega⟩
              show World.ownsRow _ _ _ _ _ _ _
              rw [truTo_length, HS.out]
              rw [show bvals (truTo l letter claim q ++ [tv]) = bvals (truTo l letter claim q) ++ [.bool tv] by simp [bvals]]
              exact hown5
            · obtain rfl : q = n := by omega
              have HO2 : Hid (BoolsV wr (.slice ro q rc) (truTo l letter claim q)) := by
                have := HOw.out
                show BoolsV _ _ _
                exact boolsV_of_owns this
              clear HOw hown HTa2
              go_wp2_with fail
              go_ret2
              rw [HX0.out, HRL.out]
              exact ⟨_, rfl, hb1.trans (hbel.mono hb1.size), HO2.out⟩
        · have hnc : claim < 0 ∨ 2 ^ k ≤ claim := HCl.out.1 HYes.out
          obtain ⟨hx0, hrl⟩ := HTC.out HYes.out
          rw [show decide (0 ≤ claim ∧ claim ≤ 2 ^ k - 1) = false by simp; omega] at hin
          generalize (2 : Int) ^ k = pw at *
          subst hx0 hrl
          clear hnc hlt hk HTO HTC HTa HCl HYes
          go_wp2_with (go_at_call 41; refine (hin _).mono ?_; rintro e wz ⟨rfl, hwz⟩; obtain rfl := hwz.symm)
          go_ret2
          exact ⟨_, rfl, hb1, none, 0, rfl, fun h => absurd rfl h⟩
  · have HX : Hid (tcode l letter claim = lcode letter.length l ∧ truL l letter claim = []) := ⟨tcode_bad hc, by unfold truL; rw [if_neg (by rw [tcode_bad hc]; exact hc)]⟩
    rw [HX.out.1, HX.out.2]
    generalize lcode letter.length l = x at *
    generalize letter.length = ln at *
    generalize l.length = n at *
    clear hV hL hl HX
    go_enter Tryd.func29, Tryd.ntmps29
    go_wp2_with (go_at_call 47; refine hah.mono ?_; rintro e w1 ⟨av, rfl, hb1, ho1⟩; obtain ⟨aao, ac, rfl⟩ := owns_slice ho1)
    go_ret2
    exact ⟨_, rfl, hb1, none, 0, rfl, fun h => absurd rfl h⟩
end Go.Proofs.YtckgenpcppifpaaDoor
