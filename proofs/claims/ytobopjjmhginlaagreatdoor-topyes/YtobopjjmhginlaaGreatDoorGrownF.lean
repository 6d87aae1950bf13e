import Derived.Test.YtobopjjmhginlaaGreatDoorGrown
namespace Go.Proofs.YtobopjjmhginlaaGreatDoor
open Go.ChangeShapes Go.WideShapes Go.ChangeAt Go.RowKit Go.Deep
open Terms
set_option maxHeartbeats 6400000
set_option maxRecDepth 20000
inductive ForT (props : Int) : Nat -> List (Int × Int) -> Prop
  | prop (v : Int) : 0 <= v -> v < props -> ForT props 0 [(13, v)]
  | not (m : Nat) (a : List (Int × Int)) : ForT props m a -> ForT props m ((10, 0) :: a)
  | bin (m n : Nat) (k : Int) (a b : List (Int × Int)) : 8 <= k -> k <= 9 -> ForT props m a -> ForT props n b -> ForT props (m + n) ((k, 0) :: (a ++ b))
  | tun (m : Nat) (k : Int) (a : List (Int × Int)) : k = 14 \/ k = 17 \/ k = 18 -> ForT props m a -> ForT props (m + 1) ((k, 0) :: a)
  | tbi (m n : Nat) (k : Int) (a b : List (Int × Int)) : 15 <= k -> k <= 16 -> ForT props m a -> ForT props n b -> ForT props (m + n + 1) ((k, 0) :: (a ++ b))
theorem GrownAt.factsF {w : World} {G : Nat} {rawv : Value} {at' : Nat} {vars props tempo : Int} {l : List (Int × Int)} (h : GrownAt w G rawv at' vars props tempo l) :
    w.cell? ⟨G, 1, none⟩ = some (.int .i64 at') /\ w.cell? ⟨G, 3, none⟩ = some (.int .i64 props) /\ w.cell? ⟨G, 4, none⟩ = some (.int .i64 tempo) /\ w.frozen? ⟨G, 4, none⟩ = false /\ G < w.heap.size := by
  obtain ⟨outv, hh, ho⟩ := h; obtain ⟨_, a, b, _, f, c⟩ := gcells hh; exact ⟨a, by simp [World.cell?, hh], by simp [World.cell?, hh], f 4, c⟩
theorem GrownAt.setTempo {w : World} {G : Nat} {rawv : Value} {at' : Nat} {vars props tempo : Int} {l : List (Int × Int)} (h : GrownAt w G rawv at' vars props tempo l) (n : Int) : GrownAt (w.setCell ⟨G, 4, none⟩ (.int .i64 n)) G rawv at' vars props n l := by
  obtain ⟨outv, hh, ho⟩ := h; refine ⟨outv, by simp [World.setCell, Array.getElem?_modify, hh], ?_⟩
  exact ownsRow_setCell_below ho (by simp) _
def GrewF (G : Nat) (rawv : Value) (at' : Nat) (vars props : Int) (tempo : Nat) (l : List (Int × Int)) (d : Nat) (w : World) (e : Ending) (w' : World) : Prop :=
  ∃ t m, e = .returned (.tuple #[]) /\ ForT props m t /\ m <= tempo /\ (at' + t.length <= at' + 1 \/ at' + t.length <= 13 + d) /\ t.length + 1 <= 2 ^ (d + 1) /\ GrownAt w' G rawv (at' + t.length) vars props ((tempo - m : Nat) : Int) (l ++ t) /\ Below G w w'
theorem two_le (d : Nat) : 2 <= 2 ^ (d + 1) := by
  have : 2 ^ (d + 1) = 2 * 2 ^ d := by rw [Nat.pow_succ, Nat.mul_comm]
  have : 0 < 2 ^ d := Nat.two_pow_pos d; omega
theorem prop_end {G : Nat} {rawv : Value} {at' : Nat} {vars props : Int} {tempo : Nat} {q : Int} {l : List (Int × Int)} {d : Nat} {w w5 : World} (h0 : 0 <= q) (h1 : q < props) (hb : Below G w w5) (hg : GrownAt w5 G rawv (at' + 1) vars props (tempo : Int) (l ++ [(13, q)])) : GrewF G rawv at' vars props tempo l d w (.returned (.tuple #[])) w5 :=
  ⟨[(13, q)], 0, rfl, .prop _ h0 h1, Nat.zero_le _, .inl (by simp), by have := two_le d; simpa using this, by simpa using hg, hb⟩
theorem notF_end {G : Nat} {rawv : Value} {at' : Nat} {vars props : Int} {tempo m : Nat} {l : List (Int × Int)} {d : Nat} {w w5 : World} {ta : List (Int × Int)} (hta : ForT props m ta) (hm : m <= tempo)
    (hn : at' + 1 + ta.length <= 13 + (d + 1)) (h2 : ta.length + 1 <= 2 ^ (d + 1)) (hb : Below G w w5) (hg : GrownAt w5 G rawv (at' + 1 + ta.length) vars props ((tempo - m : Nat) : Int) (l ++ [(10, 0)] ++ ta)) : GrewF G rawv at' vars props tempo l (d + 1) w (.returned (.tuple #[])) w5 := by
  have e1 : at' + ((10, (0 : Int)) :: ta : List (Int × Int)).length = at' + 1 + ta.length := by simp; omega
  have e2 : l ++ (10, (0 : Int)) :: ta = l ++ [(10, 0)] ++ ta := by simp
  have e3 : 2 ^ (d + 1 + 1) = 2 * 2 ^ (d + 1) := by rw [Nat.pow_succ, Nat.mul_comm]
  refine ⟨(10, 0) :: ta, m, rfl, .not _ _ hta, hm, ?_, ?_, ?_, hb⟩
  · rw [e1]; omega
  · simp only [List.length_cons]; rw [e3]; omega
  · rw [e1, e2]; exact hg
theorem binF_end {G : Nat} {rawv : Value} {at' : Nat} {vars props : Int} {tempo m n : Nat} {K : Int} {l : List (Int × Int)} {d : Nat} {w w5 : World} {ta tb : List (Int × Int)} (hta : ForT props m ta) (htb : ForT props n tb) (h8 : 8 <= K) (h9 : K <= 9) (hm : m <= tempo) (hn' : n <= tempo - m)
    (hn : at' + 1 + ta.length + tb.length <= 13 + (d + 1)) (h2 : ta.length + 1 <= 2 ^ (d + 1)) (h3 : tb.length + 1 <= 2 ^ (d + 1)) (hb : Below G w w5) (hg : GrownAt w5 G rawv (at' + 1 + ta.length + tb.length) vars props ((tempo - m - n : Nat) : Int) (l ++ [(K, 0)] ++ ta ++ tb)) : GrewF G rawv at' vars props tempo l (d + 1) w (.returned (.tuple #[])) w5 := by
  have e1 : at' + ((K, (0 : Int)) :: (ta ++ tb)).length = at' + 1 + ta.length + tb.length := by simp; omega
  have e2 : l ++ (K, (0 : Int)) :: (ta ++ tb) = l ++ [(K, 0)] ++ ta ++ tb := by simp
  have e3 : 2 ^ (d + 1 + 1) = 2 * 2 ^ (d + 1) := by rw [Nat.pow_succ, Nat.mul_comm]
  refine ⟨(K, 0) :: (ta ++ tb), m + n, rfl, .bin _ _ _ _ _ h8 h9 hta htb, by omega, ?_, ?_, ?_, hb⟩
  · rw [e1]; omega
  · simp only [List.length_cons, List.length_append]; rw [e3]; omega
  · rw [e1, e2, show tempo - (m + n) = tempo - m - n by omega]; exact hg
theorem tunF_end {G : Nat} {rawv : Value} {at' : Nat} {vars props : Int} {tempo m : Nat} {K : Int} {l : List (Int × Int)} {d : Nat} {w w5 : World} {ta : List (Int × Int)} (hta : ForT props m ta) (hK : K = 14 \/ K = 17 \/ K = 18) (ht : 0 < tempo) (hm : m <= tempo - 1)
    (hn : at' + 1 + ta.length <= 13 + (d + 1)) (h2 : ta.length + 1 <= 2 ^ (d + 1)) (hb : Below G w w5) (hg : GrownAt w5 G rawv (at' + 1 + ta.length) vars props ((tempo - 1 - m : Nat) : Int) (l ++ [(K, 0)] ++ ta)) : GrewF G rawv at' vars props tempo l (d + 1) w (.returned (.tuple #[])) w5 := by
  have e1 : at' + ((K, (0 : Int)) :: ta : List (Int × Int)).length = at' + 1 + ta.length := by simp; omega
  have e2 : l ++ (K, (0 : Int)) :: ta = l ++ [(K, 0)] ++ ta := by simp
  have e3 : 2 ^ (d + 1 + 1) = 2 * 2 ^ (d + 1) := by rw [Nat.pow_succ, Nat.mul_comm]
  refine ⟨(K, 0) :: ta, m + 1, rfl, .tun _ _ _ hK hta, by omega, ?_, ?_, ?_, hb⟩
  · rw [e1]; omega
  · simp only [List.length_cons]; rw [e3]; omega
  · rw [e1, e2, show tempo - (m + 1) = tempo - 1 - m by omega]; exact hg
theorem tbiF_end {G : Nat} {rawv : Value} {at' : Nat} {vars props : Int} {tempo m n : Nat} {K : Int} {l : List (Int × Int)} {d : Nat} {w w5 : World} {ta tb : List (Int × Int)} (hta : ForT props m ta) (htb : ForT props n tb) (h8 : 15 <= K) (h9 : K <= 16) (ht : 0 < tempo) (hm : m <= tempo - 1) (hn' : n <= tempo - 1 - m)
    (hn : at' + 1 + ta.length + tb.length <= 13 + (d + 1)) (h2 : ta.length + 1 <= 2 ^ (d + 1)) (h3 : tb.length + 1 <= 2 ^ (d + 1)) (hb : Below G w w5) (hg : GrownAt w5 G rawv (at' + 1 + ta.length + tb.length) vars props ((tempo - 1 - m - n : Nat) : Int) (l ++ [(K, 0)] ++ ta ++ tb)) : GrewF G rawv at' vars props tempo l (d + 1) w (.returned (.tuple #[])) w5 := by
  have e1 : at' + ((K, (0 : Int)) :: (ta ++ tb)).length = at' + 1 + ta.length + tb.length := by simp; omega
  have e2 : l ++ (K, (0 : Int)) :: (ta ++ tb) = l ++ [(K, 0)] ++ ta ++ tb := by simp
  have e3 : 2 ^ (d + 1 + 1) = 2 * 2 ^ (d + 1) := by rw [Nat.pow_succ, Nat.mul_comm]
  refine ⟨(K, 0) :: (ta ++ tb), m + n + 1, rfl, .tbi _ _ _ _ _ h8 h9 hta htb, by omega, ?_, ?_, ?_, hb⟩
  · rw [e1]; omega
  · simp only [List.length_cons, List.length_append]; rw [e3]; omega
  · rw [e1, e2, show tempo - (m + n + 1) = tempo - 1 - m - n by omega]; exact hg
theorem formula_leaf (G : Nat) (rawv : Value) (rs : List (Int × Int)) (at' : Nat) (vars props : Int) (tempo : Nat) (l : List (Int × Int)) (d : Nat) (w : World) (hat : at' <= 60) (hl : l.length <= 60) (hp1 : 1 <= props) (hp2 : props <= 100) (hd : d <= 100) (hleaf : d = 0 \/ 12 <= at')
    (hR : Raws w G rawv rs) (h : GrownAt w G rawv at' vars props (tempo : Int) l) :
    Calls Tryz.prog 14 #[.pointer (some ⟨G, 0, none⟩), .int .i64 d] w (GrewF G rawv at' vars props tempo l d w) := by
  have htake := take_any G rawv rs at' vars props tempo l w (by omega) hR h
  have hlt : G < w.heap.size := h.factsF.2.2.2.2; clear hR h
  have htst : ((d : Int) == 0) = true \/ ((d : Int) == 0) = false /\ decide ((12 : Int) < (at' : Int) + 1) = true := by
    by_cases h0 : d = 0
    · left; simp [h0]
    · right; simp; omega
  clear hleaf
  rcases htst with hd0 | ⟨hd0, h10⟩
  all_goals
    go_enter Tryz.func14, Tryz.ntmps14
    go_wp2_with (first | (go_at_call 21; refine htake.mono ?_; rintro e w1 ⟨k, v, hk, hv, rfl, hg1, hb1⟩; obtain ⟨d1, d3, d4, f4, dlt⟩ := hg1.factsF; have hg2 := hg1.alloc (.cells #[.int .i64 k, .int .i64 v] 68)) | (go_at_call 22; refine (picked_any _ _ _ (by assumption) (by decide) (by decide)).mono ?_; rintro e w2 ⟨r, hr0, hr1, rfl, rfl⟩) | (go_at_call 23; refine (put_any G rawv (at' + 1) vars props tempo _ _ l _ (by omega) hg2).mono ?_; rintro e w3 ⟨rfl, hg3, hb3⟩))
    have hgd : GrownAt (w1.alloc (.cells #[.int .i64 k, .int .i64 v] 68)).drew G rawv (at' + 1) vars props tempo l := hg2; clear hg1 hg2 htake
    go_region_with (first | (go_at_call 22; refine (picked_any _ _ _ (by assumption) (by omega) (by omega)).mono ?_; rintro e w2 ⟨q, hq0, hq1, rfl, rfl⟩) | (go_at_call 23; refine (put_any G rawv (at' + 1) vars props tempo _ _ l _ (by omega) hgd).mono ?_; rintro e w3 ⟨rfl, hg3, hb3⟩))
    all_goals
      go_wp2_with fail
      go_end0
      exact prop_end hq0 hq1 ((hb1.alloc (Nat.le_of_lt dlt) _).drew.trans hb3) hg3
theorem formula_any (G : Nat) (rawv : Value) (rs : List (Int × Int)) (vars props : Int) (hp1 : 1 <= props) (hp2 : props <= 100) (d : Nat) : ∀ (at' : Nat) (tempo : Nat) (l : List (Int × Int)) (w : World), d <= 5 -> tempo <= 100 -> at' <= 40 -> l.length = at' -> Raws w G rawv rs -> GrownAt w G rawv at' vars props (tempo : Int) l ->
    Calls Tryz.prog 14 #[.pointer (some ⟨G, 0, none⟩), .int .i64 d] w (GrewF G rawv at' vars props tempo l d w) := by
  induction d with
  | zero => intro at' tempo l w _ _ ha hl hR h; exact formula_leaf G rawv rs at' vars props tempo l 0 w (by omega) (by omega) hp1 hp2 (by omega) (.inl rfl) hR h
  | succ d ih =>
    intro at' tempo l w hd htm ha hl hR h
    by_cases hleaf : 12 <= at'
    · exact formula_leaf G rawv rs at' vars props tempo l (d + 1) w (by omega) (by omega) hp1 hp2 (by omega) (.inr hleaf) hR h
    have htake := take_any G rawv rs at' vars props tempo l w (by omega) hR h
    have hlt : G < w.heap.size := h.factsF.2.2.2.2; have HR : Hid (Raws w G rawv rs) := hR; have HL : Hid (l.length = at') := hl; have hl98 : l.length <= 40 := by omega
    clear hR h hl; have hat10 : at' < 12 := by omega
    have hdd : ((d + 1 : Nat) : Int) = (d : Int) + 1 := by omega
    rw [hdd]; have hd0 : ((d : Int) + 1 == 0) = false := by simp; omega
    have h10 : decide ((12 : Int) < (at' : Int) + 1) = false := by simp; omega
    clear hdd hleaf
    by_cases ht0 : tempo = 0
    · have htt : (((tempo : Nat) : Int) == 0) = true := by simp; omega
      clear ht0
      go_enter Tryz.func14, Tryz.ntmps14
      go_wp2_with (first | (go_at_call 21; refine htake.mono ?_; rintro e w1 ⟨k, v, hk, hv, rfl, hg1, hb1⟩; obtain ⟨d1, d3, d4, f4, dlt⟩ := hg1.factsF; have hg2 := hg1.alloc (.cells #[.int .i64 k, .int .i64 v] 68)) | (go_at_call 22; refine (picked_any _ _ _ (by assumption) (by decide) (by decide)).mono ?_; rintro e w2 ⟨r, hr0, hr1, rfl, rfl⟩; have hcs : r <= 8 \/ r = 9 \/ r = 10 \/ r = 11 \/ r = 12 \/ 13 <= r := (by omega); rcases hcs with h9 | rfl | rfl | rfl | rfl | h13) | (go_at_call 23; refine (put_any G rawv (at' + 1) vars props tempo _ _ l _ (by omega) hg2).mono ?_; rintro e w3 ⟨rfl, hg3, hb3⟩))
      · have hgd : GrownAt (w1.alloc (.cells #[.int .i64 k, .int .i64 v] 68)).drew G rawv (at' + 1) vars props tempo l := hg2
        clear hg1 hg2 htake ih
        go_region_with (first | (go_at_call 22; refine (picked_any _ _ _ (by assumption) (by omega) (by omega)).mono ?_; rintro e w2 ⟨q, hq0, hq1, rfl, rfl⟩) | (go_at_call 23; refine (put_any G rawv (at' + 1) vars props tempo _ _ l _ (by omega) hgd).mono ?_; rintro e w3 ⟨rfl, hg3, hb3⟩))
        all_goals
          go_wp2_with fail
          go_end0
          exact prop_end hq0 hq1 ((hb1.alloc (Nat.le_of_lt dlt) _).drew.trans hb3) hg3
      · have hb13 := (hb1.alloc (Nat.le_of_lt dlt) (.cells #[.int .i64 k, .int .i64 v] 68)).trans hb3
        have hn1 := ih (at' + 1) tempo _ w3 (by omega) (by omega) (by omega) (by rw [List.length_append, HL.out]; rfl) (HR.out.below hb13) hg3
        clear hg1 hg2 htake ih
        go_wp2_with (go_at_call 14; refine hn1.mono ?_; rintro e w4 ⟨ta, m, rfl, hta, hm, ha14, h2a, hg4, hb4⟩; have H2a := (show Hid _ from h2a); clear h2a)
        go_end0
        exact notF_end hta hm (by omega) H2a.out (hb13.trans hb4) hg4
      · have hb13 := (hb1.alloc (Nat.le_of_lt dlt) (.cells #[.int .i64 k, .int .i64 v] 68)).trans hb3
        have hn1 := ih (at' + 1) tempo _ w3 (by omega) (by omega) (by omega) (by rw [List.length_append, HL.out]; rfl) (HR.out.below hb13) hg3
        clear hg1 hg2 htake
        go_wp2_with (go_at_call 14; refine hn1.mono ?_; rintro e w4 ⟨ta, m, rfl, hta, hm, ha14, h2a, hg4, hb4⟩; have H2a := (show Hid _ from h2a); clear h2a)
        have hb14 := hb13.trans hb4; have hn2 := ih (at' + 1 + ta.length) (tempo - m) _ w4 (by omega) (by omega) (by omega) (by rw [List.length_append, List.length_append, HL.out]; rfl) (HR.out.below hb14) hg4
        clear hn1 ih
        go_wp2_with (go_at_call 14; refine hn2.mono ?_; rintro e w5 ⟨tb, n, rfl, htb, hn, hb14', h2b, hg5, hb5⟩)
        go_end0
        exact binF_end hta htb (by omega) (by omega) hm hn (by omega) H2a.out h2b (hb14.trans hb5) hg5
      · have hb13 := (hb1.alloc (Nat.le_of_lt dlt) (.cells #[.int .i64 k, .int .i64 v] 68)).trans hb3
        have hn1 := ih (at' + 1) tempo _ w3 (by omega) (by omega) (by omega) (by rw [List.length_append, HL.out]; rfl) (HR.out.below hb13) hg3
        clear hg1 hg2 htake
        go_wp2_with (go_at_call 14; refine hn1.mono ?_; rintro e w4 ⟨ta, m, rfl, hta, hm, ha14, h2a, hg4, hb4⟩; have H2a := (show Hid _ from h2a); clear h2a)
        have hb14 := hb13.trans hb4; have hn2 := ih (at' + 1 + ta.length) (tempo - m) _ w4 (by omega) (by omega) (by omega) (by rw [List.length_append, List.length_append, HL.out]; rfl) (HR.out.below hb14) hg4
        clear hn1 ih
        go_wp2_with (go_at_call 14; refine hn2.mono ?_; rintro e w5 ⟨tb, n, rfl, htb, hn, hb14', h2b, hg5, hb5⟩)
        go_end0
        exact binF_end hta htb (by omega) (by omega) hm hn (by omega) H2a.out h2b (hb14.trans hb5) hg5
      · have hb13 := (hb1.alloc (Nat.le_of_lt dlt) (.cells #[.int .i64 k, .int .i64 v] 68)).trans hb3
        have hn1 := ih (at' + 1) tempo _ w3 (by omega) (by omega) (by omega) (by rw [List.length_append, HL.out]; rfl) (HR.out.below hb13) hg3
        clear hg1 hg2 htake ih
        go_wp2_with (go_at_call 14; refine hn1.mono ?_; rintro e w4 ⟨ta, m, rfl, hta, hm, ha14, h2a, hg4, hb4⟩; have H2a := (show Hid _ from h2a); clear h2a)
        go_end0
        exact notF_end hta hm (by omega) H2a.out (hb13.trans hb4) hg4
      · have hb13 := (hb1.alloc (Nat.le_of_lt dlt) (.cells #[.int .i64 k, .int .i64 v] 68)).trans hb3
        have hn1 := ih (at' + 1) tempo _ w3 (by omega) (by omega) (by omega) (by rw [List.length_append, HL.out]; rfl) (HR.out.below hb13) hg3
        clear hg1 hg2 htake ih
        go_wp2_with (go_at_call 14; refine hn1.mono ?_; rintro e w4 ⟨ta, m, rfl, hta, hm, ha14, h2a, hg4, hb4⟩; have H2a := (show Hid _ from h2a); clear h2a)
        go_end0
        exact notF_end hta hm (by omega) H2a.out (hb13.trans hb4) hg4
      · have hb13 := (hb1.alloc (Nat.le_of_lt dlt) (.cells #[.int .i64 k, .int .i64 v] 68)).trans hb3
        have hn1 := ih (at' + 1) tempo _ w3 (by omega) (by omega) (by omega) (by rw [List.length_append, HL.out]; rfl) (HR.out.below hb13) hg3
        clear hg1 hg2 htake
        go_wp2_with (go_at_call 14; refine hn1.mono ?_; rintro e w4 ⟨ta, m, rfl, hta, hm, ha14, h2a, hg4, hb4⟩; have H2a := (show Hid _ from h2a); clear h2a)
        have hb14 := hb13.trans hb4; have hn2 := ih (at' + 1 + ta.length) (tempo - m) _ w4 (by omega) (by omega) (by omega) (by rw [List.length_append, List.length_append, HL.out]; rfl) (HR.out.below hb14) hg4
        clear hn1 ih
        go_wp2_with (go_at_call 14; refine hn2.mono ?_; rintro e w5 ⟨tb, n, rfl, htb, hn, hb14', h2b, hg5, hb5⟩)
        go_end0
        exact binF_end hta htb (by omega) (by omega) hm hn (by omega) H2a.out h2b (hb14.trans hb5) hg5
      · have hb13 := (hb1.alloc (Nat.le_of_lt dlt) (.cells #[.int .i64 k, .int .i64 v] 68)).trans hb3
        have hn1 := ih (at' + 1) tempo _ w3 (by omega) (by omega) (by omega) (by rw [List.length_append, HL.out]; rfl) (HR.out.below hb13) hg3
        clear hg1 hg2 htake ih
        go_wp2_with (go_at_call 14; refine hn1.mono ?_; rintro e w4 ⟨ta, m, rfl, hta, hm, ha14, h2a, hg4, hb4⟩; have H2a := (show Hid _ from h2a); clear h2a)
        go_end0
        exact notF_end hta hm (by omega) H2a.out (hb13.trans hb4) hg4
      · have hb13 := (hb1.alloc (Nat.le_of_lt dlt) (.cells #[.int .i64 k, .int .i64 v] 68)).trans hb3
        have hn1 := ih (at' + 1) tempo _ w3 (by omega) (by omega) (by omega) (by rw [List.length_append, HL.out]; rfl) (HR.out.below hb13) hg3
        clear hg1 hg2 htake
        go_wp2_with (go_at_call 14; refine hn1.mono ?_; rintro e w4 ⟨ta, m, rfl, hta, hm, ha14, h2a, hg4, hb4⟩; have H2a := (show Hid _ from h2a); clear h2a)
        have hb14 := hb13.trans hb4; have hn2 := ih (at' + 1 + ta.length) (tempo - m) _ w4 (by omega) (by omega) (by omega) (by rw [List.length_append, List.length_append, HL.out]; rfl) (HR.out.below hb14) hg4
        clear hn1 ih
        go_wp2_with (go_at_call 14; refine hn2.mono ?_; rintro e w5 ⟨tb, n, rfl, htb, hn, hb14', h2b, hg5, hb5⟩)
        go_end0
        exact binF_end hta htb (by omega) (by omega) hm hn (by omega) H2a.out h2b (hb14.trans hb5) hg5
    · have htt : (((tempo : Nat) : Int) == 0) = false := by simp; omega
      have HT0 : Hid (0 < tempo) := by show 0 < tempo; omega
      have HTI : Hid ((tempo : Int) - 1 = ((tempo - 1 : Nat) : Int)) := by show _ = _; omega
      go_enter Tryz.func14, Tryz.ntmps14
      go_wp2_with (first | (go_at_call 21; refine htake.mono ?_; rintro e w1 ⟨k, v, hk, hv, rfl, hg1, hb1⟩; obtain ⟨d1, d3, d4, f4, dlt⟩ := hg1.factsF; have hg2 := hg1.alloc (.cells #[.int .i64 k, .int .i64 v] 68)) | (go_at_call 22; refine (picked_any _ _ _ (by assumption) (by decide) (by decide)).mono ?_; rintro e w2 ⟨r, hr0, hr1, rfl, rfl⟩; have hcs : r <= 8 \/ r = 9 \/ r = 10 \/ r = 11 \/ r = 12 \/ 13 <= r := (by omega); rcases hcs with h9 | rfl | rfl | rfl | rfl | h13) | (go_at_call 23; refine (put_any G rawv (at' + 1) vars props tempo _ _ l _ (by omega) hg2).mono ?_; rintro e w3 ⟨rfl, hg3, hb3⟩))
      · have hgd : GrownAt (w1.alloc (.cells #[.int .i64 k, .int .i64 v] 68)).drew G rawv (at' + 1) vars props tempo l := hg2
        clear hg1 hg2 htake ih
        go_region_with (first | (go_at_call 22; refine (picked_any _ _ _ (by assumption) (by omega) (by omega)).mono ?_; rintro e w2 ⟨q, hq0, hq1, rfl, rfl⟩) | (go_at_call 23; refine (put_any G rawv (at' + 1) vars props tempo _ _ l _ (by omega) hgd).mono ?_; rintro e w3 ⟨rfl, hg3, hb3⟩))
        all_goals
          go_wp2_with fail
          go_end0
          exact prop_end hq0 hq1 ((hb1.alloc (Nat.le_of_lt dlt) _).drew.trans hb3) hg3
      · have hb13 := (hb1.alloc (Nat.le_of_lt dlt) (.cells #[.int .i64 k, .int .i64 v] 68)).trans hb3
        have hn1 := ih (at' + 1) tempo _ w3 (by omega) (by omega) (by omega) (by rw [List.length_append, HL.out]; rfl) (HR.out.below hb13) hg3
        clear hg1 hg2 htake ih
        go_wp2_with (go_at_call 14; refine hn1.mono ?_; rintro e w4 ⟨ta, m, rfl, hta, hm, ha14, h2a, hg4, hb4⟩; have H2a := (show Hid _ from h2a); clear h2a)
        go_end0
        exact notF_end hta hm (by omega) H2a.out (hb13.trans hb4) hg4
      · have hb13 := (hb1.alloc (Nat.le_of_lt dlt) (.cells #[.int .i64 k, .int .i64 v] 68)).trans hb3
        have hn1 := ih (at' + 1) tempo _ w3 (by omega) (by omega) (by omega) (by rw [List.length_append, HL.out]; rfl) (HR.out.below hb13) hg3
        clear hg1 hg2 htake
        go_wp2_with (go_at_call 14; refine hn1.mono ?_; rintro e w4 ⟨ta, m, rfl, hta, hm, ha14, h2a, hg4, hb4⟩; have H2a := (show Hid _ from h2a); clear h2a)
        have hb14 := hb13.trans hb4; have hn2 := ih (at' + 1 + ta.length) (tempo - m) _ w4 (by omega) (by omega) (by omega) (by rw [List.length_append, List.length_append, HL.out]; rfl) (HR.out.below hb14) hg4
        clear hn1 ih
        go_wp2_with (go_at_call 14; refine hn2.mono ?_; rintro e w5 ⟨tb, n, rfl, htb, hn, hb14', h2b, hg5, hb5⟩)
        go_end0
        exact binF_end hta htb (by omega) (by omega) hm hn (by omega) H2a.out h2b (hb14.trans hb5) hg5
      · have hgt := ((hg1.setTempo ((tempo : Int) - 1)).alloc (.cells #[.int .i64 k, .int .i64 v] 68)).alloc (.cells #[.int .i64 14, .int .i64 17, .int .i64 18, .int .i64 17] 3)
        have hbt := ((hb1.setCell (p := ⟨G, 4, none⟩) (Nat.le_refl _) (.int .i64 ((tempo : Int) - 1))).alloc (by simp; omega) (.cells #[.int .i64 k, .int .i64 v] 68)).alloc (by simp; omega) (.cells #[.int .i64 14, .int .i64 17, .int .i64 18, .int .i64 17] 3)
        have hpt := fun kk => put_any G rawv (at' + 1) vars props ((tempo : Int) - 1) kk 0 l _ (by omega) hgt
        clear hg1 hg2 htake hgt
        go_wp2_with (go_at_call 23; refine (hpt _).mono ?_; rintro e w3 ⟨rfl, hg3, hb3⟩)
        have hb13 := hbt.trans hb3; rw [HTI.out] at hg3; clear hpt; have hn1 := ih (at' + 1) (tempo - 1) _ w3 (by omega) (by omega) (by omega) (by rw [List.length_append, HL.out]; rfl) (HR.out.below hb13) hg3
        clear ih
        go_wp2_with (go_at_call 14; refine hn1.mono ?_; rintro e w4 ⟨ta, m, rfl, hta, hm, ha14, h2a, hg4, hb4⟩; have H2a := (show Hid _ from h2a); clear h2a)
        go_end0
        exact tunF_end hta (by decide) HT0.out hm (by omega) H2a.out (hb13.trans hb4) hg4
      · have hgt := ((hg1.setTempo ((tempo : Int) - 1)).alloc (.cells #[.int .i64 k, .int .i64 v] 68)).alloc (.cells #[.int .i64 14, .int .i64 17, .int .i64 18, .int .i64 17] 3)
        have hbt := ((hb1.setCell (p := ⟨G, 4, none⟩) (Nat.le_refl _) (.int .i64 ((tempo : Int) - 1))).alloc (by simp; omega) (.cells #[.int .i64 k, .int .i64 v] 68)).alloc (by simp; omega) (.cells #[.int .i64 14, .int .i64 17, .int .i64 18, .int .i64 17] 3)
        have hpt := fun kk => put_any G rawv (at' + 1) vars props ((tempo : Int) - 1) kk 0 l _ (by omega) hgt
        clear hg1 hg2 htake hgt
        go_wp2_with (go_at_call 23; refine (hpt _).mono ?_; rintro e w3 ⟨rfl, hg3, hb3⟩)
        have hb13 := hbt.trans hb3; rw [HTI.out] at hg3; clear hpt; have hn1 := ih (at' + 1) (tempo - 1) _ w3 (by omega) (by omega) (by omega) (by rw [List.length_append, HL.out]; rfl) (HR.out.below hb13) hg3
        clear ih
        go_wp2_with (go_at_call 14; refine hn1.mono ?_; rintro e w4 ⟨ta, m, rfl, hta, hm, ha14, h2a, hg4, hb4⟩; have H2a := (show Hid _ from h2a); clear h2a)
        go_end0
        exact tunF_end hta (by decide) HT0.out hm (by omega) H2a.out (hb13.trans hb4) hg4
      · have hgt := ((hg1.setTempo ((tempo : Int) - 1)).alloc (.cells #[.int .i64 k, .int .i64 v] 68)).alloc (.cells #[.int .i64 14, .int .i64 17, .int .i64 18, .int .i64 17] 3)
        have hbt := ((hb1.setCell (p := ⟨G, 4, none⟩) (Nat.le_refl _) (.int .i64 ((tempo : Int) - 1))).alloc (by simp; omega) (.cells #[.int .i64 k, .int .i64 v] 68)).alloc (by simp; omega) (.cells #[.int .i64 14, .int .i64 17, .int .i64 18, .int .i64 17] 3)
        have hpt := fun kk => put_any G rawv (at' + 1) vars props ((tempo : Int) - 1) kk 0 l _ (by omega) hgt
        clear hg1 hg2 htake hgt
        go_wp2_with (go_at_call 23; refine (hpt _).mono ?_; rintro e w3 ⟨rfl, hg3, hb3⟩)
        have hb13 := hbt.trans hb3; rw [HTI.out] at hg3; clear hpt; have hn1 := ih (at' + 1) (tempo - 1) _ w3 (by omega) (by omega) (by omega) (by rw [List.length_append, HL.out]; rfl) (HR.out.below hb13) hg3
        clear ih
        go_wp2_with (go_at_call 14; refine hn1.mono ?_; rintro e w4 ⟨ta, m, rfl, hta, hm, ha14, h2a, hg4, hb4⟩; have H2a := (show Hid _ from h2a); clear h2a)
        go_end0
        exact tunF_end hta (by decide) HT0.out hm (by omega) H2a.out (hb13.trans hb4) hg4
      · have hgt := ((hg1.setTempo ((tempo : Int) - 1)).alloc (.cells #[.int .i64 k, .int .i64 v] 68)).alloc (.cells #[.int .i64 14, .int .i64 17, .int .i64 18, .int .i64 17] 3)
        have hbt := ((hb1.setCell (p := ⟨G, 4, none⟩) (Nat.le_refl _) (.int .i64 ((tempo : Int) - 1))).alloc (by simp; omega) (.cells #[.int .i64 k, .int .i64 v] 68)).alloc (by simp; omega) (.cells #[.int .i64 14, .int .i64 17, .int .i64 18, .int .i64 17] 3)
        have hpt := fun kk => put_any G rawv (at' + 1) vars props ((tempo : Int) - 1) kk 0 l _ (by omega) hgt
        clear hg1 hg2 htake hgt
        go_wp2_with (go_at_call 23; refine (hpt _).mono ?_; rintro e w3 ⟨rfl, hg3, hb3⟩)
        have hb13 := hbt.trans hb3; rw [HTI.out] at hg3; clear hpt; have hn1 := ih (at' + 1) (tempo - 1) _ w3 (by omega) (by omega) (by omega) (by rw [List.length_append, HL.out]; rfl) (HR.out.below hb13) hg3
        clear ih
        go_wp2_with (go_at_call 14; refine hn1.mono ?_; rintro e w4 ⟨ta, m, rfl, hta, hm, ha14, h2a, hg4, hb4⟩; have H2a := (show Hid _ from h2a); clear h2a)
        go_end0
        exact tunF_end hta (by decide) HT0.out hm (by omega) H2a.out (hb13.trans hb4) hg4
      · have hgt := (hg1.setTempo ((tempo : Int) - 1)).alloc (.cells #[.int .i64 k, .int .i64 v] 68)
        have hbt := (hb1.setCell (p := ⟨G, 4, none⟩) (Nat.le_refl _) (.int .i64 ((tempo : Int) - 1))).alloc (by simp; omega) (.cells #[.int .i64 k, .int .i64 v] 68)
        have hpt := fun kk => put_any G rawv (at' + 1) vars props ((tempo : Int) - 1) kk 0 l _ (by omega) hgt
        clear hg1 hg2 htake hgt
        go_wp2_with (go_at_call 23; refine (hpt _).mono ?_; rintro e w3 ⟨rfl, hg3, hb3⟩)
        have hb13 := hbt.trans hb3; rw [HTI.out] at hg3; clear hpt; have hn1 := ih (at' + 1) (tempo - 1) _ w3 (by omega) (by omega) (by omega) (by rw [List.length_append, HL.out]; rfl) (HR.out.below hb13) hg3
        go_wp2_with (go_at_call 14; refine hn1.mono ?_; rintro e w4 ⟨ta, m, rfl, hta, hm, ha14, h2a, hg4, hb4⟩; have H2a := (show Hid _ from h2a); clear h2a)
        have hb14 := hb13.trans hb4; have hn2 := ih (at' + 1 + ta.length) ((tempo - 1) - m) _ w4 (by omega) (by omega) (by omega) (by rw [List.length_append, List.length_append, HL.out]; rfl) (HR.out.below hb14) hg4
        clear hn1 ih
        go_wp2_with (go_at_call 14; refine hn2.mono ?_; rintro e w5 ⟨tb, n, rfl, htb, hn, hb14', h2b, hg5, hb5⟩)
        go_end0
        exact tbiF_end hta htb (by omega) (by omega) HT0.out hm hn (by omega) H2a.out h2b (hb14.trans hb5) hg5
theorem grownF_new (w : World) (rawv : Value) (vars props tempo : Int) :
    GrownAt (w.alloc (.cells #[rawv, .int .i64 0, .int .i64 vars, .int .i64 props, .int .i64 tempo, .slice none 0 0] 55)) w.heap.size rawv 0 vars props tempo [] :=
  ⟨_, blk_alloc_new _ _, World.ownsRow_nil _ _ _ _⟩
theorem formulaFn_any (rawv : Value) (rs : List (Int × Int)) (props : Int) (tempo : Nat) (w : World) (hp1 : 1 <= props) (hp2 : props <= 100) (ht : tempo <= 100) (hR : Raws w w.heap.size rawv rs) :
    Calls Tryz.prog 10 #[rawv, .int .i64 props, .int .i64 (tempo : Int)] w fun e w' => ∃ a c t m, e = .returned (.slice a t.length c) /\ ForT props m t /\ m <= tempo /\ t.length <= 17 /\ OpsV w' (.slice a t.length c) t /\ Below w.heap.size w w' := by
  have hb0 := (Below.refl w.heap.size w).alloc (Nat.le_refl _) (.cells #[rawv, .int .i64 0, .int .i64 0, .int .i64 props, .int .i64 (tempo : Int), .slice none 0 0] 55); have htr := formula_any w.heap.size rawv rs 0 props hp1 hp2 4 0 tempo [] _ (by omega) ht (by omega) rfl (hR.below hb0) (grownF_new w rawv 0 props tempo)
  obtain ⟨ra, rn, rc, hra⟩ : ∃ a n c, rawv = .slice a n c := by obtain ⟨⟨a, c, h, _⟩, _, _⟩ := hR; exact ⟨_, _, _, h⟩
  subst hra; clear hR
  go_enter Tryz.func10, Tryz.ntmps10
  go_wp2_with (go_at_call 14; refine htr.mono ?_; rintro e w1 ⟨t, m, rfl, ht, hm, hlen, _, hg1, hb1⟩; obtain ⟨outv, hh, ho⟩ := hg1; obtain ⟨_, _, _, c5, _, hlt⟩ := gcells hh)
  go_ret
  rw [List.nil_append] at ho; obtain ⟨a, c, rfl⟩ := owns_slice ho; exact ⟨a, c, t, m, rfl, ht, hm, by omega, opsV_of_owns ho, hb0.trans hb1⟩
end Go.Proofs.YtobopjjmhginlaaGreatDoor
