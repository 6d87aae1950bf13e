/-
  tape.recordAt: the record at the beginning of bytes.
-/
import Derived.Test.YtjnobdpjohbdnaaTRecM
import Derived.Test.YtjnobdpjohbdnaaTInts
namespace Go.Proofs.Ytjnobdpjohbdnaa
open Go.ChangeShapes Go.WideShapes Go.ChangeAt Go.RowKit Go.Deep

theorem getD_drop (d : List UInt8) (k i : Nat) : (d.drop k).getD i 0 = d.getD (k + i) 0 := by simp [List.getD_eq_getElem?_getD]
theorem four_drop (d : List UInt8) (k i : Nat) : four (d.drop k) i = four d (k + i) := by
  unfold four
  simp only [getD_drop, Nat.add_assoc]
theorem BytesV.at {w : World} {ao : Option Addr} {m cap : Nat} {d : List UInt8} (h : BytesV w (.slice ao m cap) d) (hne : 0 < d.length) : ∃ b off, ao = some ⟨b, off, none⟩ ∧ b < w.heap.size ∧ m = d.length ∧ m ≤ cap ∧ BytesAt w b off d := by
  obtain ⟨ao', cap', e1, ⟨h0, _⟩, hat⟩ := h
  injection e1 with e1 e2 e3
  subst e1 e3
  obtain ⟨b, off, e, hlt, hba⟩ := hat (by intro h; subst h; simp at hne)
  exact ⟨b, off, e, hlt, e2, by omega, hba⟩
theorem BytesAt.drop {w : World} {b off cap : Nat} {d : List UInt8} (h : BytesAt w b off d) (hb : b < w.heap.size) (hc : d.length ≤ cap) (k : Nat) : BytesV w (.slice (some ⟨b, off + k, none⟩) (d.drop k).length (cap - k)) (d.drop k) := by
  refine ⟨_, _, rfl, ⟨by rw [List.length_drop]; omega, fun h => by simp at h⟩, fun _ => ⟨b, off + k, rfl, hb, fun i hi => ?_⟩⟩
  rw [List.length_drop] at hi
  rw [getD_drop, Nat.add_assoc]
  exact h (k + i) (by omega)
theorem BytesAt.take {w : World} {b off cap : Nat} {d : List UInt8} (h : BytesAt w b off d) (hb : b < w.heap.size) (hc : d.length ≤ cap) (k : Nat) : BytesV w (.slice (some ⟨b, off, none⟩) (d.take k).length cap) (d.take k) := by
  refine ⟨_, _, rfl, ⟨by rw [List.length_take]; omega, fun h => by simp at h⟩, fun _ => ⟨b, off, rfl, hb, fun i hi => ?_⟩⟩
  rw [List.length_take] at hi
  rw [h i (by omega)]
  simp [List.getD_eq_getElem?_getD, show i < k by omega]
theorem owns_of_row {w : World} {B base n : Nat} {l : List Int} (h : w.rowIs B 3 n (fun j => .int .i64 (l.getD j 0))) (hb : base ≤ B) (hn : l.length = n) (hm : n ≤ 4000) : w.ownsRow base 3 1 (.slice (some ⟨B, 0, none⟩) n n) n (ivals l) := by
  obtain ⟨c, h1, h2, h3⟩ := h
  refine ⟨by simp [ivals, hn], .inr ⟨B, n, c, rfl, hb, h1, Nat.le_refl _, by unfold maxLen; omega, by omega, ?_⟩⟩
  apply List.ext_getElem?
  intro i
  rw [List.getElem?_take]
  by_cases hi : i < n
  · rw [if_pos (by omega), Array.getElem?_toList, h3 i hi]
    simp [ivals, List.getD_eq_getElem?_getD, show i < l.length by omega]
  · rw [if_neg (by omega), List.getElem?_eq_none (by simp [ivals]; omega)]

theorem row_later {w w' : World} {b t n : Nat} {f : Nat → Value} (h : w.rowIs b t n f) (hb : Below w.heap.size w w') : w'.rowIs b t n f := h.of_block (hb.block b h.lt)
theorem nums_set {d : List UInt8} {q j : Nat} : (if j = q then (four d (4 + 4 * q) : Int) else (numsAt d q).getD j 0) = (numsAt d (q + 1)).getD j 0 := by
  rw [numsAt_succ]
  by_cases hj : j = q
  · subst hj
    rw [if_pos rfl, List.getD_eq_getElem?_getD, List.getElem?_append_right (by rw [numsAt_length]; omega), numsAt_length, Nat.sub_self]
    rfl
  · rw [if_neg hj]
    by_cases hlt : j < q
    · rw [List.getD_eq_getElem?_getD, List.getD_eq_getElem?_getD, List.getElem?_append_left (by rw [numsAt_length]; omega)]
    · rw [List.getD_eq_getElem?_getD, List.getD_eq_getElem?_getD, List.getElem?_eq_none (by rw [numsAt_length]; omega), List.getElem?_eq_none (by rw [List.length_append, numsAt_length]; simp; omega)]
/-- what recordAt answers. -/
def RaPost (w : World) (d : List UInt8) (e : Ending) (w' : World) : Prop :=
  Below w.heap.size w w' ∧ (recAt d = none → e = .returned (.tuple #[.slice none 0 0, .bool false])) ∧
    ∀ l, recAt d = some l → ∃ ao cap, e = .returned (.tuple #[.slice ao l.length cap, .bool true]) ∧ Hid (w'.ownsRow w.heap.size 3 1 (.slice ao l.length cap) l.length (ivals l))
theorem RaPost.none {w w' : World} {d : List UInt8} (hb : Below w.heap.size w w') (h : recAt d = .none) : RaPost w d (.returned (.tuple #[.slice .none 0 0, .bool false])) w' := ⟨hb, fun _ => rfl, fun l hl => by rw [h] at hl; cases hl⟩

set_option maxHeartbeats 1600000 in
set_option maxRecDepth 20000 in
theorem recordAt_any (ao : Option Addr) (cap : Nat) (d : List UInt8) (w : World) (hl : d.length ≤ 1048576) (hV : BytesV w (.slice ao d.length cap) d) :
    Calls Try.prog 22 #[.slice ao d.length cap] w (RaPost w d) := by
  by_cases h4 : d.length < 4
  · have HR : Hid (recAt d = none) := by show _ = _; rw [recAt, if_pos h4]
    generalize hm : d.length = m at *
    have HM : Hid (d.length = m) := hm
    clear hm hV
    go_enter Try.func22, Try.ntmps22
    go_wp2
    go_ret2
    exact RaPost.none (Below.refl _ _) HR.out
  · obtain ⟨b, off, rfl, hbl, _, hmc, hba⟩ := hV.at (by omega)
    have hwd := wordAt_any _ cap d w (by omega) hl hV
    have hnl := four_lt d 0
    obtain ⟨n, hn⟩ : ∃ n, four d 0 = n := ⟨_, rfl⟩
    have HN : Hid (four d 0 = n) := hn
    by_cases hbig : 4000 < n ∨ d.length < 4 * n + 8
    · have HR : Hid (recAt d = none) := by show _ = _; rw [recAt, if_neg h4, if_pos (by rw [hn]; exact hbig)]
      rw [hn] at hwd hnl
      have hrb := fun w1 => recordBytes_any n w1 (by omega)
      obtain ⟨y, hy⟩ : ∃ y, 4 * n + 8 = y := ⟨_, rfl⟩
      rw [hy] at hrb hbig
      generalize hm : d.length = m at *
      have HM : Hid (d.length = m) := hm
      have HY : Hid (4 * n + 8 = y) := hy
      clear hm hV hn hba hy
      by_cases hb4 : 4000 < n
      · go_enter Try.func22, Try.ntmps22
        go_wp2_with (first | (go_at_call 28; refine hwd.mono ?_; rintro e w1 ⟨rfl, q, rfl⟩) | (go_at_call 23; refine (hrb _).mono ?_; rintro e w1 ⟨rfl, rfl⟩))
        go_ret2
        exact RaPost.none (below_drewN (Below.refl _ _) _) HR.out
      · have hyl : m < y := by omega
        clear hbig
        go_enter Try.func22, Try.ntmps22
        go_wp2_with (first | (go_at_call 28; refine hwd.mono ?_; rintro e w1 ⟨rfl, q, rfl⟩) | (go_at_call 23; refine (hrb _).mono ?_; rintro e w1 ⟨rfl, rfl⟩))
        go_ret2
        exact RaPost.none (below_drewN (Below.refl _ _) _) HR.out
    · have hb4 : ¬ 4000 < n := by omega
      have hyl : 4 * n + 8 ≤ d.length := by omega
      have hrb := fun w1 => recordBytes_any n w1 (by omega)
      have HV : Hid (∀ w1, Below w.heap.size w w1 → BytesAt w1 b off d) := fun w1 hb => hba.below hb hbl
      obtain ⟨sp, hsp⟩ : ∃ sp, 4 * n + 4 = sp := ⟨_, rfl⟩
      obtain ⟨y, hy⟩ : ∃ y, 4 * n + 8 = y := ⟨_, rfl⟩
      have hsy : wrap64 ((y : Int) - 4) = (sp : Int) := by rw [IntWalk.wrap64_in _ (by omega)]; omega
      have hsy' : IntKind.i64.wrap ((y : Int) - 4) = (sp : Int) := by rw [IntWalk.i64_left]; exact hsy
      have HW2 : Hid (∀ w1, Below w.heap.size w w1 → Calls Try.prog 28 #[.slice (some ⟨b, off + sp, none⟩) (d.length - sp) (cap - sp)] w1 fun e w' => e = .returned (.int .i64 (four d sp)) ∧ ∃ q, w' = w1.drewN q) := fun w1 hb => by
        have := wordAt_any _ (cap - sp) (d.drop sp) w1 (by rw [List.length_drop]; omega) (by rw [List.length_drop]; omega) ((hba.below hb hbl).drop (Nat.lt_of_lt_of_le hbl hb.size) hmc sp)
        rw [four_drop, List.length_drop] at this
        exact this
      have HS2 : Hid (∀ w1, Below w.heap.size w w1 → Calls Try.prog 10 #[.slice (some ⟨b, off, none⟩) sp cap] w1 fun e w' => e = .returned (.int .i64 (sumL (d.take sp))) ∧ w' = w1) := fun w1 hb => by
        have := sum_any _ (d.take sp) w1 (by rw [List.length_take]; omega) ((hba.below hb hbl).take (Nat.lt_of_lt_of_le hbl hb.size) hmc sp)
        rw [List.length_take, Nat.min_eq_left (by omega)] at this
        exact this
      have HNone : Hid (four d sp ≠ sumL (d.take sp) → recAt d = none) := fun h => by
        rw [recAt, if_neg h4, if_neg (by rw [hn]; omega), hn, hsp, if_pos h]
      have HGo : Hid (four d sp = sumL (d.take sp) → recAt d = if (numsAt d n).any outB = true then none else some (numsAt d n)) := fun h => by
        rw [recAt, if_neg h4, if_neg (by rw [hn]; omega), hn, hsp, if_neg (by simp [h])]
      have hspl : sp ≤ d.length := by omega
      have HWn : Hid (∀ (i : Nat) (w1 : World), i < n → Below w.heap.size w w1 → Calls Try.prog 28 #[.slice (some ⟨b, off + (4 + 4 * i), none⟩) (d.length - (4 + 4 * i)) (cap - (4 + 4 * i))] w1 fun e w' => e = .returned (.int .i64 (four d (4 + 4 * i))) ∧ ∃ q, w' = w1.drewN q) := fun i w1 hi hb => by
        have := wordAt_any _ (cap - (4 + 4 * i)) (d.drop (4 + 4 * i)) w1 (by rw [List.length_drop]; omega) (by rw [List.length_drop]; omega) ((hba.below hb hbl).drop (Nat.lt_of_lt_of_le hbl hb.size) hmc _)
        rw [four_drop, List.length_drop] at this
        exact this
      have hmk := run_make_row' (P := Try.prog) 37 3 (.int .i64 0) 8 Try.underlying37 infoInt rfl .i64 .i64 n (by omega) (by omega)
      rw [hn] at hwd
      rw [hy] at hrb hyl
      generalize hm : d.length = m at *
      have HM : Hid (d.length = m) := hm
      have HY : Hid (4 * n + 8 = y ∧ 4 * n + 4 = sp) := ⟨hy, hsp⟩
      have i1 : (sp : Int) ≤ (m : Int) := by omega
      have i2 : (0 : Int) ≤ (sp : Int) := by omega
      have i3 : sp ≤ cap := by omega
      have i4 : (sp : Int) ≤ (cap : Int) := by omega
      have i5 : ¬ cap = sp := by omega
      clear hm hV hn hba hy hsp
      generalize hfd : four d sp = fs at *
      generalize hsd : sumL (d.take sp) = sm at *
      clear hfd hsd
      by_cases hfs : fs = sm
      · subst hfs
        have hgo := HGo.out (by trivial)
        have HGo' : Hid (recAt d = if (numsAt d n).any outB = true then none else some (numsAt d n)) := hgo
        clear hgo HGo HNone
        go_enter Try.func22, Try.ntmps22
        go_wp2_with (first | (go_at_call 28; refine hwd.mono ?_; rintro e w1 ⟨rfl, q, rfl⟩) | (go_at_call 23; refine (hrb _).mono ?_; rintro e w1 ⟨rfl, rfl⟩))
        have hq1 : Below w.heap.size w (w.drewN q) := below_drewN (Below.refl _ _) _
        generalize w.drewN q = w1 at *
        have hq2 : Below w.heap.size w w1.drew := hq1.drew
        go_region_held3 (fun _ => True) (first | trivial) (first | (go_at_call 28; refine (HW2.out _ hq2).mono ?_; rintro e w2 ⟨rfl, q2, HE⟩; have hq3 : Below w.heap.size w w2 := HE ▸ below_drewN hq2 _; clear HE) | (go_at_call 10; refine (HS2.out _ hq3).mono ?_; rintro e w3 ⟨rfl, rfl⟩))
        go_wp2_with fail
        have hw3 := hq3.size
        have hrow0 := World.rowIs_made w3 (.int .i64 0) n 3
        have hbr0 : Below w.heap.size w (w3.alloc (.cells (madeCells #[.int .i64 0] n) 3)) := hq3.alloc hq3.size _
        have hrz : ∀ a : Value, Hid (w3.heap.size ≥ w.heap.size) := fun _ => hw3
        obtain ⟨B, hB⟩ : ∃ B, w3.heap.size = B := ⟨_, rfl⟩
        rw [hB] at hrow0 hw3 ⊢
        clear hrz hB
        go_loopw [38] (fun i wr => ∃ q : Nat, q ≤ n ∧ i = .int .i64 q ∧ Hid ((numsAt d q).any outB = false) ∧ Below w.heap.size w wr ∧ Hid (wr.rowIs B 3 n (fun j => .int .i64 ((numsAt d q).getD j 0)))) (fun i _ => n - (intOf i).toNat)
        case atStart => exact ⟨0, Nat.zero_le _, rfl, rfl, hbr0, hrow0.congr (fun i _ => by simp [numsAt])⟩
        case round =>
          obtain ⟨q, hqn, rfl, HT, hBr, hR⟩ := hrel
          by_cases hlt : q < n
          · obtain ⟨p, hp⟩ : ∃ p, (q + 1) * 4 = p := ⟨_, rfl⟩
            have hp4 : p = 4 + 4 * q := by omega
            have hwn := HWn.out q wr hlt hBr
            rw [← hp4] at hwn
            have hou := fun w1 => outside_any (four d p) w1
            have hpy : p + 4 ≤ m := by have := HY.out; omega
            have hfour := four_lt d p
            have HSn : Hid ((numsAt d (q + 1)).any outB = outB (four d p)) := by
              show _ = _
              rw [numsAt_succ, List.any_append, HT.out, ← hp4]
              simp
            have HAn : Hid (outB (four d p) = true → (numsAt d n).any outB = true) := fun h => by
              refine List.any_eq_true.2 ⟨(four d p : Int), ?_, h⟩
              rw [hp4]
              exact List.mem_map.2 ⟨q, List.mem_range.2 hlt, rfl⟩
            have HSet : Hid (∀ w1 : World, w1.rowIs B 3 n (fun j => .int .i64 ((numsAt d q).getD j 0)) → (w1.setCell ⟨B, q, none⟩ (.int .i64 (four d p))).rowIs B 3 n (fun j => .int .i64 ((numsAt d (q + 1)).getD j 0)) ∧ (w1.setCell ⟨B, q, none⟩ (.int .i64 (four d p))).cell? ⟨B, q, none⟩ = some (.int .i64 (four d p))) := fun w1 h => by
              have h2 := h.set q (.int .i64 (four d p))
              refine ⟨h2.congr fun j hj => ?_, by rw [h2.cell hlt]; simp⟩
              rw [← nums_set, ← hp4]
              by_cases e : j = q
              · simp [e]
              · simp [e]
            have HCe : Hid (∀ w1 : World, w1.rowIs B 3 n (fun j => .int .i64 ((numsAt d q).getD j 0)) → w1.cell? ⟨B, q, none⟩ = some (.int .i64 ((numsAt d q).getD q 0)) ∧ w1.frozen? ⟨B, q, none⟩ = false) := fun w1 h => ⟨h.cell hlt, h.frozen q⟩
            rw [← hp] at hwn hou HSn HAn HSet hpy hfour
            have k6 : ¬ cap = (q + 1) * 4 := by omega
            have k4 : (q + 1) * 4 ≤ cap := by omega
            clear hp4 HT hp
            generalize four d ((q + 1) * 4) = x at *
            generalize (numsAt d q).getD q 0 = oldx at HCe
            generalize ho : outB (x : Int) = o at *
            cases o
            · have HSn' : Hid ((numsAt d (q + 1)).any outB = false) := HSn.out
              go_wp2_with (first | (go_at_call 28; refine hwn.mono ?_; rintro e w4 ⟨rfl, q4, HE⟩; have hb4 : Below w.heap.size w w4 := HE ▸ below_drewN hBr _; have hr4 : w4.rowIs B 3 n (fun j => .int .i64 ((numsAt d q).getD j 0)) := row_later hR.out (HE ▸ below_drewN (Below.refl _ _) _); clear HE; obtain ⟨cc4, ff4⟩ := HCe.out w4 hr4; obtain ⟨hr5, cc5⟩ := HSet.out w4 hr4) | (go_at_call 26; refine (hou _).mono ?_; rintro e w5 ⟨rfl, HE5⟩))
              refine ⟨⟨q + 1, by omega, by go_num, HSn'.out, ?_, ?_⟩, by simp [intOf]; omega⟩
              · exact hb4.setCell (p := ⟨B, q, none⟩) hw3 _
              · exact hr5
            · have HR : Hid (recAt d = none) := by show _ = _; rw [HGo'.out, if_pos (HAn.out (by trivial))]
              go_wp2_with (first | (go_at_call 28; refine hwn.mono ?_; rintro e w4 ⟨rfl, q4, HE⟩; have hb4 : Below w.heap.size w w4 := HE ▸ below_drewN hBr _; have hr4 : w4.rowIs B 3 n (fun j => .int .i64 ((numsAt d q).getD j 0)) := row_later hR.out (HE ▸ below_drewN (Below.refl _ _) _); clear HE; obtain ⟨cc4, ff4⟩ := HCe.out w4 hr4; obtain ⟨hr5, cc5⟩ := HSet.out w4 hr4) | (go_at_call 26; refine (hou _).mono ?_; rintro e w5 ⟨rfl, HE5⟩))
              go_ret2
              exact RaPost.none (hb4.setCell (p := ⟨B, q, none⟩) hw3 _) HR.out
          · obtain rfl : q = n := by omega
            have HR : Hid (recAt d = some (numsAt d q)) := by show _ = _; rw [HGo'.out, if_neg (by rw [HT.out]; simp)]
            have hown := owns_of_row (base := w.heap.size) hR.out hw3 (numsAt_length d q) (by omega)
            have HOwn : Hid (wr.ownsRow w.heap.size 3 1 (.slice (some ⟨B, 0, none⟩) q q) q (ivals (numsAt d q))) := hown
            clear hown HT HWn HW2 HS2 HV hmk hwd hrb
            go_wp2_with fail
            go_ret2
            refine ⟨hBr, fun h => (by rw [HR.out] at h; cases h), fun l hl => ?_⟩
            rw [HR.out] at hl
            obtain rfl := Option.some.inj hl
            rw [numsAt_length]
            exact ⟨_, _, rfl, HOwn⟩
      · have HR : Hid (recAt d = none) := HNone.out hfs
        have hfs2 : ¬ ((fs : Int) = (sm : Int)) := by omega
        go_enter Try.func22, Try.ntmps22
        go_wp2_with (first | (go_at_call 28; refine hwd.mono ?_; rintro e w1 ⟨rfl, q, rfl⟩) | (go_at_call 23; refine (hrb _).mono ?_; rintro e w1 ⟨rfl, rfl⟩))
        have hq1 : Below w.heap.size w (w.drewN q) := below_drewN (Below.refl _ _) _
        generalize w.drewN q = w1 at *
        have hq2 : Below w.heap.size w w1.drew := hq1.drew
        go_region_held3 (fun _ => True) (first | trivial) (first | (go_at_call 28; refine (HW2.out _ hq2).mono ?_; rintro e w2 ⟨rfl, q2, HE⟩; have hq3 : Below w.heap.size w w2 := HE ▸ below_drewN hq2 _; clear HE) | (go_at_call 10; refine (HS2.out _ hq3).mono ?_; rintro e w3 ⟨rfl, rfl⟩))
        go_wp2_with fail
        go_ret2
        exact RaPost.none hq3 HR.out
end Go.Proofs.Ytjnobdpjohbdnaa
