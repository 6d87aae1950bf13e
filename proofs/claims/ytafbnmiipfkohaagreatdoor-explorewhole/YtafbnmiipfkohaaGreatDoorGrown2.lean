/-
  Terms that are grown from raw numbers: the contracts of number, truth and Truth.
-/
import Derived.Test.YtafbnmiipfkohaaGreatDoorGrown
namespace Go.Proofs.YtafbnmiipfkohaaGreatDoor
open Go.ChangeShapes Go.WideShapes Go.ChangeAt Go.RowKit Go.Deep
open Terms

set_option maxRecDepth 20000 in
set_option maxHeartbeats 2000000 in
theorem number_any (G : Nat) (rawv : Value) (rs : List (Int × Int)) (vars props tempo : Int) (hv1 : 1 ≤ vars) (hv2 : vars ≤ 100) (d : Nat) : ∀ (at' : Nat) (l : List (Int × Int)) (w : World), d ≤ 100 → at' + 2 ^ (d + 1) ≤ 100 → l.length + 2 ^ (d + 1) ≤ 100 → Raws w G rawv rs → GrownAt w G rawv at' vars props tempo l →
    Calls Tryz.prog 59 #[.pointer (some ⟨G, 0, none⟩), .int .i64 d] w (GrewN G rawv at' vars props tempo l d w) := by
  induction d with
  | zero => intro at' l w _ ha hl hR h; exact number_leaf G rawv rs at' vars props tempo l 0 w (by omega) (by omega) hv1 hv2 (by omega) (.inl rfl) hR h
  | succ d ih =>
    intro at' l w hd ha hl hR h
    have hpw : 2 ^ (d + 1 + 1) = 2 * 2 ^ (d + 1) := by rw [Nat.pow_succ, Nat.mul_comm]
    have hpos : 2 ≤ 2 ^ (d + 1) := by have : 2 ^ (d + 1) = 2 * 2 ^ d := by rw [Nat.pow_succ, Nat.mul_comm]
                                      have : 0 < 2 ^ d := Nat.two_pow_pos d
                                      omega
    rw [hpw] at ha hl
    by_cases hleaf : 14 ≤ at'
    · exact number_leaf G rawv rs at' vars props tempo l (d + 1) w (by omega) (by omega) hv1 hv2 hd (.inr hleaf) hR h
    have htake := take_any G rawv rs at' vars props tempo l w (by omega) hR h
    have hlt : G < w.heap.size := h.facts.2.2
    obtain ⟨P, hP⟩ : ∃ P, P = 2 ^ (d + 1) := ⟨_, rfl⟩
    have HP : Hid (∀ t, NumT vars d t → 1 ≤ t.length ∧ t.length + 1 ≤ P) := fun t ht => by rw [hP]; exact ht.len
    rw [← hP] at ha hl hpos ih
    have HR : Hid (Raws w G rawv rs) := hR
    clear hR h hP hpw
    have hat14 : at' < 14 := by omega
    have hl98 : l.length ≤ 98 := by omega
    have hdd : ((d + 1 : Nat) : Int) = (d : Int) + 1 := by omega
    rw [hdd]
    have hd0 : ((d : Int) + 1 == 0) = false := by simp; omega
    have h14 : decide ((14 : Int) < (at' : Int) + 1) = false := by simp; omega
    clear hdd
    go_enter Tryz.func59, Tryz.ntmps59
    go_wp2_with (first | (go_at_call 60; refine htake.mono ?_; rintro e w1 ⟨k, v, hk, hv, rfl, hg1, hb1⟩; obtain ⟨d1, d2, dlt⟩ := hg1.facts; have hg2 := hg1.alloc (.cells #[.int .i64 k, .int .i64 v] 133)) | (go_at_call 8; refine (picked_any _ _ _ (by assumption) (by decide) (by decide)).mono ?_; rintro e w2 ⟨r, hr0, hr1, rfl, rfl⟩) | (go_at_call 61; refine (put_any G rawv (at' + 1) vars props tempo _ _ l _ (by omega) hg2).mono ?_; rintro e w3 ⟨rfl, hg3, hb3⟩))
    · have hgd : GrownAt (w1.alloc (.cells #[.int .i64 k, .int .i64 v] 133)).drew G rawv (at' + 1) vars props tempo l := hg2
      clear hg1 hg2 htake ih
      go_region_with (first | (go_at_call 8; refine (picked_any _ _ _ (by assumption) (by omega) (by omega)).mono ?_; rintro e w2 ⟨q, hq0, hq1, rfl, rfl⟩) | (go_at_call 61; refine (put_any G rawv (at' + 1) vars props tempo _ _ l _ (by omega) hgd).mono ?_; rintro e w3 ⟨rfl, hg3, hb3⟩))
      all_goals
        go_wp2_with fail
        go_end0
        exact ⟨[(2, q)], rfl, .var _ _ hq0 hq1, fun _ => rfl, hg3, (hb1.alloc (Nat.le_of_lt dlt) _).drew.trans hb3⟩
    · go_end0
      exact ⟨[(1, _)], rfl, .num _ _ (by omega) (by omega), fun _ => rfl, hg3, (hb1.alloc (Nat.le_of_lt dlt) _).trans hb3⟩
    · have hb13 := (hb1.alloc (Nat.le_of_lt dlt) (.cells #[.int .i64 k, .int .i64 v] 133)).trans hb3
      have hn1 := ih (at' + 1) _ w3 (by omega) (by omega) (by simp; omega) (HR.out.below hb13) hg3
      clear hg1 hg2 htake
      go_wp2_with (go_at_call 59; refine hn1.mono ?_; rintro e w4 ⟨ta, rfl, hta, _, hg4, hb4⟩)
      have hla := HP.out ta hta
      have hb14 := hb13.trans hb4
      have hn2 := ih (at' + 1 + ta.length) _ w4 (by omega) (by omega) (by simp; omega) (HR.out.below hb14) hg4
      clear hn1
      go_wp2_with (go_at_call 59; refine hn2.mono ?_; rintro e w5 ⟨tb, rfl, htb, _, hg5, hb5⟩)
      go_end0
      refine ⟨(3 + r - 2, 0) :: (ta ++ tb), rfl, .bin _ _ _ _ (by omega) (by omega) hta htb, fun h => by omega, ?_, hb14.trans hb5⟩
      have e1 : at' + ((3 + r - 2, (0 : Int)) :: (ta ++ tb)).length = at' + 1 + ta.length + tb.length := by simp; omega
      have e2 : l ++ (3 + r - 2, (0 : Int)) :: (ta ++ tb) = l ++ [(3 + r - 2, 0)] ++ ta ++ tb := by simp
      rw [e1, e2]
      exact hg5

/-- What growing a truth leaves. -/
def GrewT (G : Nat) (rawv : Value) (at' : Nat) (vars props tempo : Int) (l : List (Int × Int)) (d : Nat) (w : World) (e : Ending) (w' : World) : Prop :=
  ∃ t, e = .returned (.tuple #[]) ∧ TruT vars d t ∧ (at' + t.length ≤ at' + 3 ∨ at' + t.length ≤ 17 + 3 * d) ∧ GrownAt w' G rawv (at' + t.length) vars props tempo (l ++ t) ∧ Below G w w'

set_option maxRecDepth 20000 in
theorem cmp_end {G : Nat} {rawv : Value} {at' : Nat} {vars props tempo K : Int} {l : List (Int × Int)} {d : Nat} {w w5 : World} {ta tb : List (Int × Int)} (hta : NumT vars 1 ta) (htb : NumT vars 1 tb) (h6 : 6 ≤ K) (h7 : K ≤ 7)
    (hn : at' + 1 + ta.length + tb.length ≤ at' + 3 ∨ at' + 1 + ta.length + tb.length ≤ 17) (hb : Below G w w5) (hg : GrownAt w5 G rawv (at' + 1 + ta.length + tb.length) vars props tempo (l ++ [(K, 0)] ++ ta ++ tb)) : GrewT G rawv at' vars props tempo l d w (.returned (.tuple #[])) w5 := by
  have e1 : at' + ((K, (0 : Int)) :: (ta ++ tb)).length = at' + 1 + ta.length + tb.length := by simp; omega
  have e2 : l ++ (K, (0 : Int)) :: (ta ++ tb) = l ++ [(K, 0)] ++ ta ++ tb := by simp
  refine ⟨(K, 0) :: (ta ++ tb), rfl, .cmp _ _ _ _ h6 h7 hta htb, ?_, ?_, hb⟩
  · rw [e1]; omega
  · rw [e1, e2]; exact hg

set_option maxRecDepth 20000 in
set_option maxHeartbeats 2000000 in
theorem truth_leaf (G : Nat) (rawv : Value) (rs : List (Int × Int)) (at' : Nat) (vars props tempo : Int) (l : List (Int × Int)) (d : Nat) (w : World) (hat : at' ≤ 60) (hl : l.length ≤ 60) (hv1 : 1 ≤ vars) (hv2 : vars ≤ 100) (hd : d ≤ 100) (hleaf : d = 0 ∨ 10 ≤ at')
    (hR : Raws w G rawv rs) (h : GrownAt w G rawv at' vars props tempo l) :
    Calls Tryz.prog 58 #[.pointer (some ⟨G, 0, none⟩), .int .i64 d] w (GrewT G rawv at' vars props tempo l d w) := by
  have htake := take_any G rawv rs at' vars props tempo l w (by omega) hR h
  have hlt : G < w.heap.size := h.facts.2.2
  have HR : Hid (Raws w G rawv rs) := hR
  clear hR h
  have htst : ((d : Int) == 0) = true ∨ ((d : Int) == 0) = false ∧ decide ((10 : Int) < (at' : Int) + 1) = true := by
    by_cases h0 : d = 0
    · left; simp [h0]
    · right; simp; omega
  clear hleaf
  rcases htst with hd0 | ⟨hd0, h10⟩
  all_goals
    go_enter Tryz.func58, Tryz.ntmps58
    go_wp2_with (first | (go_at_call 60; refine htake.mono ?_; rintro e w1 ⟨k, v, hk, hv, rfl, hg1, hb1⟩; obtain ⟨d1, d2, dlt⟩ := hg1.facts; have hg2 := hg1.alloc (.cells #[.int .i64 k, .int .i64 v] 133)) | (go_at_call 8; refine (picked_any _ _ _ (by assumption) (by decide) (by decide)).mono ?_; rintro e w2 ⟨r, hr0, hr1, rfl, rfl⟩) | (go_at_call 61; refine (put_any G rawv (at' + 1) vars props tempo _ _ l _ (by omega) hg2).mono ?_; rintro e w3 ⟨rfl, hg3, hb3⟩))
    · go_end0
      exact ⟨[(11 + r, 0)], rfl, .lit _ _ (by omega) (by omega), .inl (by simp), hg3, (hb1.alloc (Nat.le_of_lt dlt) _).trans hb3⟩
    all_goals
      have hb13 := (hb1.alloc (Nat.le_of_lt dlt) (.cells #[.int .i64 k, .int .i64 v] 133)).trans hb3
      have hn1 := number_any G rawv rs vars props tempo hv1 hv2 1 (at' + 1) _ w3 (by omega) (by omega) (by simp; omega) (HR.out.below hb13) hg3
      clear hg1 hg2 htake
      go_wp2_with (go_at_call 59; refine hn1.mono ?_; rintro e w4 ⟨ta, rfl, hta, ha14, hg4, hb4⟩)
      have hla := hta.len
      have hb14 := hb13.trans hb4
      have hn2 := number_any G rawv rs vars props tempo hv1 hv2 1 (at' + 1 + ta.length) _ w4 (by omega) (by omega) (by simp; omega) (HR.out.below hb14) hg4
      clear hn1
      go_wp2_with (go_at_call 59; refine hn2.mono ?_; rintro e w5 ⟨tb, rfl, htb, hb14', hg5, hb5⟩)
      have hlb := htb.len
      go_end0
      exact cmp_end hta htb (by omega) (by omega) (by omega) (hb14.trans hb5) hg5

set_option maxRecDepth 20000 in
theorem not_end {G : Nat} {rawv : Value} {at' : Nat} {vars props tempo : Int} {l : List (Int × Int)} {d : Nat} {w w5 : World} {ta : List (Int × Int)} (hta : TruT vars d ta)
    (hn : at' + 1 + ta.length ≤ 17 + 3 * (d + 1)) (hb : Below G w w5) (hg : GrownAt w5 G rawv (at' + 1 + ta.length) vars props tempo (l ++ [(10, 0)] ++ ta)) : GrewT G rawv at' vars props tempo l (d + 1) w (.returned (.tuple #[])) w5 := by
  have e1 : at' + ((10, (0 : Int)) :: ta : List (Int × Int)).length = at' + 1 + ta.length := by simp; omega
  have e2 : l ++ (10, (0 : Int)) :: ta = l ++ [(10, 0)] ++ ta := by simp
  refine ⟨(10, 0) :: ta, rfl, .not _ _ hta, ?_, ?_, hb⟩
  · rw [e1]; omega
  · rw [e1, e2]; exact hg
set_option maxRecDepth 20000 in
theorem bin_end {G : Nat} {rawv : Value} {at' : Nat} {vars props tempo K : Int} {l : List (Int × Int)} {d : Nat} {w w5 : World} {ta tb : List (Int × Int)} (hta : TruT vars d ta) (htb : TruT vars d tb) (h6 : 8 ≤ K) (h7 : K ≤ 9)
    (hn : at' + 1 + ta.length + tb.length ≤ 17 + 3 * (d + 1)) (hb : Below G w w5) (hg : GrownAt w5 G rawv (at' + 1 + ta.length + tb.length) vars props tempo (l ++ [(K, 0)] ++ ta ++ tb)) : GrewT G rawv at' vars props tempo l (d + 1) w (.returned (.tuple #[])) w5 := by
  have e1 : at' + ((K, (0 : Int)) :: (ta ++ tb)).length = at' + 1 + ta.length + tb.length := by simp; omega
  have e2 : l ++ (K, (0 : Int)) :: (ta ++ tb) = l ++ [(K, 0)] ++ ta ++ tb := by simp
  refine ⟨(K, 0) :: (ta ++ tb), rfl, .bin _ _ _ _ h6 h7 hta htb, ?_, ?_, hb⟩
  · rw [e1]; omega
  · rw [e1, e2]; exact hg

set_option maxRecDepth 20000 in
set_option maxHeartbeats 4000000 in
theorem truth_any (G : Nat) (rawv : Value) (rs : List (Int × Int)) (vars props tempo : Int) (hv1 : 1 ≤ vars) (hv2 : vars ≤ 100) (d : Nat) : ∀ (at' : Nat) (l : List (Int × Int)) (w : World), d ≤ 5 → at' ≤ 40 → l.length = at' → Raws w G rawv rs → GrownAt w G rawv at' vars props tempo l →
    Calls Tryz.prog 58 #[.pointer (some ⟨G, 0, none⟩), .int .i64 d] w (GrewT G rawv at' vars props tempo l d w) := by
  induction d with
  | zero => intro at' l w _ ha hl hR h; exact truth_leaf G rawv rs at' vars props tempo l 0 w (by omega) (by omega) hv1 hv2 (by omega) (.inl rfl) hR h
  | succ d ih =>
    intro at' l w hd ha hl hR h
    by_cases hleaf : 10 ≤ at'
    · exact truth_leaf G rawv rs at' vars props tempo l (d + 1) w (by omega) (by omega) hv1 hv2 (by omega) (.inr hleaf) hR h
    have htake := take_any G rawv rs at' vars props tempo l w (by omega) hR h
    have hlt : G < w.heap.size := h.facts.2.2
    have HR : Hid (Raws w G rawv rs) := hR
    have HL : Hid (l.length = at') := hl
    have hl98 : l.length ≤ 40 := by omega
    clear hR h hl
    have hat10 : at' < 10 := by omega
    have hdd : ((d + 1 : Nat) : Int) = (d : Int) + 1 := by omega
    rw [hdd]
    have hd0 : ((d : Int) + 1 == 0) = false := by simp; omega
    have h10 : decide ((10 : Int) < (at' : Int) + 1) = false := by simp; omega
    clear hdd hleaf
    go_enter Tryz.func58, Tryz.ntmps58
    go_wp2_with (first | (go_at_call 60; refine htake.mono ?_; rintro e w1 ⟨k, v, hk, hv, rfl, hg1, hb1⟩; obtain ⟨d1, d2, dlt⟩ := hg1.facts; have hg2 := hg1.alloc (.cells #[.int .i64 k, .int .i64 v] 133)) | (go_at_call 8; refine (picked_any _ _ _ (by assumption) (by decide) (by decide)).mono ?_; rintro e w2 ⟨r, hr0, hr1, rfl, rfl⟩) | (go_at_call 61; refine (put_any G rawv (at' + 1) vars props tempo _ _ l _ (by omega) hg2).mono ?_; rintro e w3 ⟨rfl, hg3, hb3⟩))
    · go_end0
      exact ⟨[(11 + r, 0)], rfl, .lit _ _ (by omega) (by omega), .inl (by simp), hg3, (hb1.alloc (Nat.le_of_lt dlt) _).trans hb3⟩
    · have hb13 := (hb1.alloc (Nat.le_of_lt dlt) (.cells #[.int .i64 k, .int .i64 v] 133)).trans hb3
      have hn1 := number_any G rawv rs vars props tempo hv1 hv2 1 (at' + 1) _ w3 (by omega) (by omega) (by simp; omega) (HR.out.below hb13) hg3
      clear hg1 hg2 htake ih
      go_wp2_with (go_at_call 59; refine hn1.mono ?_; rintro e w4 ⟨ta, rfl, hta, ha14, hg4, hb4⟩)
      have hla := hta.len
      have hb14 := hb13.trans hb4
      have hn2 := number_any G rawv rs vars props tempo hv1 hv2 1 (at' + 1 + ta.length) _ w4 (by omega) (by omega) (by simp; omega) (HR.out.below hb14) hg4
      clear hn1
      go_wp2_with (go_at_call 59; refine hn2.mono ?_; rintro e w5 ⟨tb, rfl, htb, hb14', hg5, hb5⟩)
      have hlb := htb.len
      go_end0
      exact cmp_end hta htb (by omega) (by omega) (by omega) (hb14.trans hb5) hg5
    · have hb13 := (hb1.alloc (Nat.le_of_lt dlt) (.cells #[.int .i64 k, .int .i64 v] 133)).trans hb3
      have hn1 := number_any G rawv rs vars props tempo hv1 hv2 1 (at' + 1) _ w3 (by omega) (by omega) (by simp; omega) (HR.out.below hb13) hg3
      clear hg1 hg2 htake ih
      go_wp2_with (go_at_call 59; refine hn1.mono ?_; rintro e w4 ⟨ta, rfl, hta, ha14, hg4, hb4⟩)
      have hla := hta.len
      have hb14 := hb13.trans hb4
      have hn2 := number_any G rawv rs vars props tempo hv1 hv2 1 (at' + 1 + ta.length) _ w4 (by omega) (by omega) (by simp; omega) (HR.out.below hb14) hg4
      clear hn1
      go_wp2_with (go_at_call 59; refine hn2.mono ?_; rintro e w5 ⟨tb, rfl, htb, hb14', hg5, hb5⟩)
      have hlb := htb.len
      go_end0
      exact cmp_end hta htb (by omega) (by omega) (by omega) (hb14.trans hb5) hg5
    · have hb13 := (hb1.alloc (Nat.le_of_lt dlt) (.cells #[.int .i64 k, .int .i64 v] 133)).trans hb3
      have hn1 := number_any G rawv rs vars props tempo hv1 hv2 1 (at' + 1) _ w3 (by omega) (by omega) (by simp; omega) (HR.out.below hb13) hg3
      clear hg1 hg2 htake ih
      go_wp2_with (go_at_call 59; refine hn1.mono ?_; rintro e w4 ⟨ta, rfl, hta, ha14, hg4, hb4⟩)
      have hla := hta.len
      have hb14 := hb13.trans hb4
      have hn2 := number_any G rawv rs vars props tempo hv1 hv2 1 (at' + 1 + ta.length) _ w4 (by omega) (by omega) (by simp; omega) (HR.out.below hb14) hg4
      clear hn1
      go_wp2_with (go_at_call 59; refine hn2.mono ?_; rintro e w5 ⟨tb, rfl, htb, hb14', hg5, hb5⟩)
      have hlb := htb.len
      go_end0
      exact cmp_end hta htb (by omega) (by omega) (by omega) (hb14.trans hb5) hg5
    · have hb13 := (hb1.alloc (Nat.le_of_lt dlt) (.cells #[.int .i64 k, .int .i64 v] 133)).trans hb3
      have hn1 := number_any G rawv rs vars props tempo hv1 hv2 1 (at' + 1) _ w3 (by omega) (by omega) (by simp; omega) (HR.out.below hb13) hg3
      clear hg1 hg2 htake ih
      go_wp2_with (go_at_call 59; refine hn1.mono ?_; rintro e w4 ⟨ta, rfl, hta, ha14, hg4, hb4⟩)
      have hla := hta.len
      have hb14 := hb13.trans hb4
      have hn2 := number_any G rawv rs vars props tempo hv1 hv2 1 (at' + 1 + ta.length) _ w4 (by omega) (by omega) (by simp; omega) (HR.out.below hb14) hg4
      clear hn1
      go_wp2_with (go_at_call 59; refine hn2.mono ?_; rintro e w5 ⟨tb, rfl, htb, hb14', hg5, hb5⟩)
      have hlb := htb.len
      go_end0
      exact cmp_end hta htb (by omega) (by omega) (by omega) (hb14.trans hb5) hg5
    · have hb13 := (hb1.alloc (Nat.le_of_lt dlt) (.cells #[.int .i64 k, .int .i64 v] 133)).trans hb3
      have hn1 := ih (at' + 1) _ w3 (by omega) (by omega) (by rw [List.length_append, HL.out]; rfl) (HR.out.below hb13) hg3
      clear hg1 hg2 htake ih
      go_wp2_with (go_at_call 58; refine hn1.mono ?_; rintro e w4 ⟨ta, rfl, hta, ha14, hg4, hb4⟩)
      go_end0
      exact not_end hta (by omega) (hb13.trans hb4) hg4
    · have hb13 := (hb1.alloc (Nat.le_of_lt dlt) (.cells #[.int .i64 k, .int .i64 v] 133)).trans hb3
      have hn1 := ih (at' + 1) _ w3 (by omega) (by omega) (by rw [List.length_append, HL.out]; rfl) (HR.out.below hb13) hg3
      clear hg1 hg2 htake
      go_wp2_with (go_at_call 58; refine hn1.mono ?_; rintro e w4 ⟨ta, rfl, hta, ha14, hg4, hb4⟩)
      have hb14 := hb13.trans hb4
      have hn2 := ih (at' + 1 + ta.length) _ w4 (by omega) (by omega) (by rw [List.length_append, List.length_append, HL.out]; rfl) (HR.out.below hb14) hg4
      clear hn1 ih
      go_wp2_with (go_at_call 58; refine hn2.mono ?_; rintro e w5 ⟨tb, rfl, htb, hb14', hg5, hb5⟩)
      go_end0
      exact bin_end hta htb (by omega) (by omega) (by omega) (hb14.trans hb5) hg5

set_option maxRecDepth 20000 in
/-- a new struct that has grown nothing yet. -/
theorem grown_new (w : World) (rawv : Value) (vars props tempo : Int) :
    GrownAt (w.alloc (.cells #[rawv, .int .i64 0, .int .i64 vars, .int .i64 props, .int .i64 tempo, .slice none 0 0] 107)) w.heap.size rawv 0 vars props tempo [] :=
  ⟨_, blk_alloc_new _ _, World.ownsRow_nil _ _ _ _⟩

set_option maxRecDepth 20000 in
set_option maxHeartbeats 800000 in
/-- THE CONTRACT OF Truth. -/
theorem truthFn_any (rawv : Value) (rs : List (Int × Int)) (vars : Int) (w : World) (hv1 : 1 ≤ vars) (hv2 : vars ≤ 100) (hR : Raws w w.heap.size rawv rs) :
    Calls Tryz.prog 37 #[rawv, .int .i64 vars] w fun e w' => ∃ v t, e = .returned v ∧ TruT vars 3 t ∧ t.length ≤ 26 ∧ w'.ownsRow (w.heap.size + 1) 74 2 v t.length (flat t) ∧ Below w.heap.size w w' := by
  have hb0 := (Below.refl w.heap.size w).alloc (Nat.le_refl _) (.cells #[rawv, .int .i64 0, .int .i64 vars, .int .i64 0, .int .i64 0, .slice none 0 0] 107)
  have htr := truth_any w.heap.size rawv rs vars 0 0 hv1 hv2 3 0 [] _ (by omega) (by omega) rfl (hR.below hb0) (grown_new w rawv vars 0 0)
  obtain ⟨ra, rn, rc, hra⟩ : ∃ a n c, rawv = .slice a n c := by obtain ⟨⟨a, c, h, _⟩, _, _⟩ := hR; exact ⟨_, _, _, h⟩
  subst hra
  clear hR
  go_enter Tryz.func37, Tryz.ntmps37
  go_wp2_with (go_at_call 58; refine htr.mono ?_; rintro e w1 ⟨t, rfl, ht, hlen, hg1, hb1⟩; obtain ⟨outv, hh, ho⟩ := hg1; obtain ⟨_, _, _, c5, _, hlt⟩ := gcells hh)
  go_ret
  exact ⟨_, t, rfl, ht, by omega, by simpa using ho, hb0.trans hb1⟩

end Go.Proofs.YtafbnmiipfkohaaGreatDoor
