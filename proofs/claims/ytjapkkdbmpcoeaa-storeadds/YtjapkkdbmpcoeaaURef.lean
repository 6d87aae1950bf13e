/-
  The document's numbers, keysOf, In.
-/
import Derived.Test.YtjapkkdbmpcoeaaUApp
namespace Go.Proofs.Ytjapkkdbmpcoeaa
open Go.ChangeShapes Go.WideShapes Go.ChangeAt Go.RowKit Go.Deep

section
variable {W : World}
/-- one more number: 'append(out, x)'. -/
theorem push_i {ops : Array Oper} {rest : List Oper} {o : Oper} {a : Act} {Q : Exit → Act → World → Prop} (y : Int) (hgd : o.guard = none) (s x : Operand)
    (ho : o.op = .call { callee := .builtin .append, args := #[s, x], argTypes := #[22, 22] })
    (base n cap : Nat) (vo : Option Addr) (xs : List Value) (hs : a.eval s = .slice vo n cap) (hown : W.ownsRow base 3 1 (.slice vo n cap) n xs) (hx : a.eval x = .slice (some ⟨W.heap.size, 0, none⟩) 1 1)
    (hsz : (n + 1) * 8 ≤ 140737488355328) (hbase : base ≤ W.heap.size)
    (h : ∀ vo' cap' w', w'.ownsRow base 3 1 (.slice vo' (n + 1) cap') (n + 1) (xs ++ [.int .i64 y]) → Below base W w' → (W.alloc (.cells #[.int .i64 y] 3)).grownBy w' (Value.slice vo n cap).ownBlock → wpList Try.prog ops Q rest (a.put o.dst (.slice vo' (n + 1) cap')) w') : wpList Try.prog ops Q (o :: rest) a (W.alloc (.cells #[.int .i64 y] 3)) := by
  obtain ⟨i0, hi, hz0, hz1, hz2⟩ := info_parts infoInt
  refine wpList_append_own _ hgd s x 22 ho base 3 i0 (.int .i64 0) 1 8 Try.underlying22 hi hz0 hz1 hz2 rfl (by decide) (.slice vo n cap) n xs hs (hown.alloc _) ⟨W.heap.size, 0, none⟩ 1 1 [.int .i64 y] hx rfl (one_cell _ _ _) (by simp [Value.oneCell']) (by unfold maxLen; omega) hsz (Nat.le_trans hbase (by simp)) ?_
  intro v' w4 hown' hgrow _
  obtain ⟨a4, c4, rfl⟩ := owns_slice hown'
  exact h a4 c4 w4 hown' (((Below.refl base W).alloc hbase _).grown hgrow (Nat.le_trans hbase (by simp)) (fun q hq => (hown.lt q hq).1)) hgrow
end
theorem OwnI.len {w : World} {base n cap : Nat} {ao : Option Addr} {l : List Int} (h : OwnI w base (.slice ao n cap) l) : l.length = n := h.v.len
theorem OwnI.shape {w : World} {base : Nat} {v : Value} {l : List Int} (h : OwnI w base v l) : ∃ ao cap, v = .slice ao l.length cap := h.v.shape
theorem OwnI.nil (w : World) (base : Nat) : OwnI w base (.slice none 0 0) [] := World.ownsRow_nil _ _ _ _
theorem OwnI.row {w : World} {base n cap : Nat} {ao : Option Addr} {l : List Int} (h : OwnI w base (.slice ao n cap) l) : w.ownsRow base 3 1 (.slice ao n cap) n (ivals l) := by
  have := h.len
  subst this
  exact h

theorem in_any (x a b : Int) (w : World) : Calls Try.prog 24 #[.int .i64 x, .int .i64 a, .int .i64 b] w fun e w' => e = .returned (.bool (decide (a ≤ x) && decide (x ≤ b))) ∧ w' = w := by
  by_cases h1 : a ≤ x
  · by_cases h2 : x ≤ b
    · rw [show (decide (a ≤ x) && decide (x ≤ b)) = true by simp [h1, h2]]
      go_enter Try.func24, Try.ntmps24
      go_wp2
      all_goals go_ret
      all_goals exact ⟨by first | rfl | simp, rfl⟩
    · rw [show (decide (a ≤ x) && decide (x ≤ b)) = false by simp [h2]]
      go_enter Try.func24, Try.ntmps24
      go_wp2
      all_goals go_ret
      all_goals exact ⟨by first | rfl | (simp; omega), rfl⟩
  · rw [show (decide (a ≤ x) && decide (x ≤ b)) = false by simp [h1]]
    go_enter Try.func24, Try.ntmps24
    go_wp2
    all_goals go_ret
    all_goals exact ⟨by first | rfl | (simp; omega), rfl⟩

set_option maxHeartbeats 800000 in
set_option maxRecDepth 20000 in
/-- THE CONTRACT OF numbers: a copy in new memory. -/
theorem numbers_any (v : Value) (l : List Int) (w : World) (hl : l.length * 8 ≤ 140737488355328) (hV : IntsV w v l) :
    Calls Try.prog 31 #[v] w fun e w' => ∃ ao cap, e = .returned (.slice ao l.length cap) ∧ Below w.heap.size w w' ∧ Hid (OwnI w' w.heap.size (.slice ao l.length cap) l) := by
  obtain ⟨ao, cap, rfl⟩ := hV.shape
  obtain ⟨n, hn⟩ : ∃ n, l.length = n := ⟨_, rfl⟩
  have H : Hid (IntsV w (.slice ao l.length cap) l) := hV
  have HN : Hid (l.length = n) := hn
  rw [hn] at hl H ⊢
  clear hV hn
  go_enter Try.func31, Try.ntmps31
  go_wp2
  go_loopw [3, 4] (fun u i wr => ∃ k : Nat, k ≤ n ∧ i = .int .i64 k ∧ (∃ xo xc, u = .slice xo k xc ∧ Hid (OwnI wr w.heap.size (.slice xo k xc) (l.take k))) ∧ Below w.heap.size w wr) (fun _ i _ => n - (intOf i).toNat)
  case atStart => exact ⟨0, Nat.zero_le _, rfl, ⟨none, 0, rfl, OwnI.nil _ _⟩, Below.refl _ _⟩
  case round =>
    obtain ⟨k, hk, rfl, ⟨xo, xc, rfl, HO⟩, hB⟩ := hrel
    by_cases hlt : k < n
    · have hlt2 : k < l.length := by rw [HN.out]; exact hlt
      obtain ⟨b, off, rfl, hb, _, hat⟩ := H.out.at hlt2
      have c1 := (hB.cell (p := ⟨b, off + k, none⟩) hb).trans (hat k hlt2)
      have HS : Hid (∀ (w' : World) (v : Value), w'.ownsRow w.heap.size 3 1 v (k + 1) (ivals (l.take k) ++ [.int .i64 (l.getD k 0)]) → OwnI w' w.heap.size v (l.take (k + 1))) := fun w' v h => by
        rw [take_get hlt2 0]
        refine OwnI.snoc ?_
        rw [List.length_take, Nat.min_eq_left (by omega)]
        exact h
      have hrow := HO.out.row
      have hsz := hB.size
      clear hat
      generalize l.getD k 0 = x at *
      go_wp2_with (at_builtin; refine push_i x rfl _ _ rfl w.heap.size k xc xo _ rfl hrow rfl (by omega) hsz ?_; intro vo' cap' w4 ho4 hb4 _; have HO4 := HS.out w4 _ ho4; have hB4 := hB.trans hb4; clear ho4 hb4)
      go_roundw
      case rel => exact ⟨k + 1, by omega, by go_num, ⟨vo', cap', rfl, HO4⟩, hB4⟩
      case measure => simp [intOf]; omega
    · obtain rfl : k = n := by omega
      have HF : Hid (OwnI wr w.heap.size (.slice xo k xc) l) := by have h := HO.out; rw [List.take_of_length_le (by rw [HN.out]; omega)] at h; exact h
      clear HO
      go_wp2
      go_ret
      exact ⟨xo, xc, rfl, hB, HF⟩

set_option maxHeartbeats 1600000 in
set_option maxRecDepth 20000 in
/-- THE CONTRACT OF keysOf. -/
theorem rkeys_any (lo : List Int) (rs : List (List Int)) (la ra : Option Addr) (lc rc : Nat) (w : World) (hs : lo.length + rs.flatten.length ≤ 20000) (hr : rs.length ≤ 20000) (hL : IntsV w (.slice la lo.length lc) lo) (hR : LisV w (.slice ra rs.length rc) rs) :
    Calls Try.prog 22 #[.agg #[.slice la lo.length lc, .slice ra rs.length rc]] w fun e w' => ∃ ao cap, e = .returned (.slice ao (keysL lo rs).length cap) ∧ Below w.heap.size w w' ∧ Hid (OwnI w' w.heap.size (.slice ao (keysL lo rs).length cap) (keysL lo rs)) := by
  obtain ⟨hbA, hcA⟩ := Bc.arg w (.slice la lo.length lc) (.slice ra rs.length rc) 25
  obtain ⟨n, hn⟩ : ∃ n, rs.length = n := ⟨_, rfl⟩
  obtain ⟨m, hm⟩ : ∃ m, lo.length = m := ⟨_, rfl⟩
  have HN : Hid (rs.length = n) := hn
  have HM : Hid (lo.length = m) := hm
  obtain ⟨W0, hW0⟩ : ∃ W0, W0 = w.alloc (.cells #[.slice la lo.length lc, .slice ra rs.length rc] 25) := ⟨_, rfl⟩
  rw [← hW0] at hbA hcA
  have HL : Hid (IntsV w (.slice la lo.length lc) lo) := hL
  have HR : Hid (LisV w (.slice ra rs.length rc) rs) := hR
  have HBW : Hid (∀ w1, Below W0.heap.size W0 w1 → Below w.heap.size w w1) := fun w1 h => hbA.trans (h.mono hbA.size)
  have HC : Hid (∀ w1, Below W0.heap.size W0 w1 → w1.cell? ⟨w.heap.size, 0, none⟩ = some (.slice la lo.length lc) ∧ w1.cell? ⟨w.heap.size, 1, none⟩ = some (.slice ra rs.length rc)) := fun w1 h => (hcA.later h).2
  have HF : Hid (∀ k, (rs.take k).flatten.length + lo.length ≤ 20000) := fun k => by
    have e : rs.flatten.length = (rs.take k).flatten.length + (rs.drop k).flatten.length := by rw [← List.length_append, ← List.flatten_append, List.take_append_drop]
    omega
  have HSn : Hid (∀ k, k < rs.length → (rs.take k).flatten ++ (rs.getD k []) = (rs.take (k + 1)).flatten) := fun k h => by rw [take_get h [], flat_snoc]
  have HPost : Hid (∀ (xo : Option Addr) (xc : Nat) (w1 : World), Below W0.heap.size W0 w1 → OwnI w1 W0.heap.size (.slice xo (keysL lo rs).length xc) (keysL lo rs) → Below w.heap.size w w1 ∧ OwnI w1 w.heap.size (.slice xo (keysL lo rs).length xc) (keysL lo rs)) := fun xo xc w1 h1 h2 => ⟨hbA.trans (h1.mono hbA.size), h2.mono hbA.size⟩
  have HB0 : Hid (Below W0.heap.size W0 W0) := Below.refl _ _
  have HAll : Hid (rs.take rs.length = rs) := List.take_length
  rw [hn] at HR HC hW0 hr HAll ⊢
  rw [hm] at HL HC HF hW0 hs ⊢
  clear hL hR hcA hbA hn hm
  go_enter Try.func22, Try.ntmps22
  go_wp2_with fail
  rw [← hW0]
  clear hW0
  go_wp2_with fail
  go_loopw [3, 4, 5] (fun u i z wr => ∃ k : Nat, k ≤ n ∧ i = .int .i64 k ∧ (∃ xo xc, u = .slice xo (rs.take k).flatten.length xc ∧ Hid (OwnI wr W0.heap.size (.slice xo (rs.take k).flatten.length xc) (rs.take k).flatten)) ∧ Below W0.heap.size W0 wr) (fun _ i _ _ => n - (intOf i).toNat)
  case atStart => exact ⟨0, Nat.zero_le _, rfl, ⟨none, 0, rfl, OwnI.nil _ _⟩, HB0.out⟩
  case round =>
    obtain ⟨k, hk, rfl, ⟨xo, xc, rfl, HO⟩, hB⟩ := hrel
    obtain ⟨a0, a1⟩ := HC.out wr hB
    by_cases hlt : k < n
    · have hlt2 : k < rs.length := by rw [HN.out]; exact hlt
      obtain ⟨b, off, rfl, hb, u, c1, hu⟩ := HR.out.at hlt2
      obtain ⟨uo, uc, rfl⟩ := hu.shape
      have hfk := HF.out (k + 1)
      have hsn := HSn.out k hlt2
      have hfl : (rs.take (k + 1)).flatten.length = (rs.take k).flatten.length + (rs.getD k []).length := by rw [← hsn, List.length_append]
      have HSN : Hid ((rs.take k).flatten ++ (rs.getD k []) = (rs.take (k + 1)).flatten) := hsn
      have HFL : Hid ((rs.take (k + 1)).flatten.length = (rs.take k).flatten.length + (rs.getD k []).length) := hfl
      rw [hfl] at hfk
      clear hsn hfl
      generalize hrr : rs.getD k [] = r at *
      clear hrr
      generalize hpp : (rs.take k).flatten = P at *
      clear hpp
      obtain ⟨pn, hpn⟩ : ∃ pn, P.length = pn := ⟨_, rfl⟩
      obtain ⟨rn, hrn⟩ : ∃ rn, r.length = rn := ⟨_, rfl⟩
      have HPn : Hid (P.length = pn) := hpn
      have HRn : Hid (r.length = rn) := hrn
      have HU : Hid (IntsV w (.slice uo r.length uc) r) := hu
      have HCk : Hid (∀ w1, Below W0.heap.size W0 w1 → w1.cell? ⟨b, off + k, none⟩ = some (.slice uo r.length uc)) := fun w1 h1 => ((HBW.out w1 h1).cell (p := ⟨b, off + k, none⟩) hb).trans c1
      rw [hpn] at HO hfk HFL ⊢
      rw [hrn] at HU HCk hfk HFL
      clear c1 hu hpn hrn
      generalize wr = wo at *
      go_wp2_with fail
      go_loopw [3, 5] (fun u j wr => ∃ q : Nat, q ≤ rn ∧ j = .int .i64 q ∧ (∃ xo xc, u = .slice xo (pn + q) xc ∧ Hid (OwnI wr W0.heap.size (.slice xo (pn + q) xc) (P ++ r.take q))) ∧ Below W0.heap.size W0 wr) (fun _ j _ => rn - (intOf j).toNat)
      case atStart => exact ⟨0, Nat.zero_le _, rfl, ⟨xo, xc, rfl, by rw [List.take_zero, List.append_nil]; exact HO⟩, hB⟩
      case round =>
        obtain ⟨q, hq, rfl, ⟨yo, yc, rfl, HO2⟩, hB2⟩ := hrel
        obtain ⟨a0', a1'⟩ := HC.out wr hB2
        have ck := HCk.out wr hB2
        by_cases hlq : q < rn
        · have hlq2 : q < r.length := by rw [HRn.out]; exact hlq
          obtain ⟨b2, off2, rfl, hb2, _, hat⟩ := HU.out.at hlq2
          have c2 := ((HBW.out wr hB2).cell (p := ⟨b2, off2 + q, none⟩) hb2).trans (hat q hlq2)
          have HS : Hid (∀ (w' : World) (v : Value), w'.ownsRow W0.heap.size 3 1 v (pn + q + 1) (ivals (P ++ r.take q) ++ [.int .i64 (r.getD q 0)]) → OwnI w' W0.heap.size v (P ++ r.take (q + 1))) := fun w' v h => by
            rw [take_get hlq2 0, ← List.append_assoc]
            refine OwnI.snoc ?_
            rw [List.length_append, List.length_take, Nat.min_eq_left (by omega), HPn.out]
            exact h
          have hrow := HO2.out.row
          have hsz := hB2.size
          clear hat
          generalize r.getD q 0 = x at *
          go_wp2_with (at_builtin; refine push_i x rfl _ _ rfl W0.heap.size (pn + q) yc yo _ rfl hrow rfl (by omega) hsz ?_; intro vo' cap' w4 ho4 hb4 _; have HO4 := HS.out w4 _ ho4; have hB4 := hB2.trans hb4; clear ho4 hb4)
          go_roundw
          case rel => exact ⟨q + 1, by omega, by go_num, ⟨vo', cap', rfl, HO4⟩, hB4⟩
          case measure => simp [intOf]; omega
        · obtain rfl : q = rn := by omega
          have HF2 : Hid (OwnI wr W0.heap.size (.slice yo (rs.take (k + 1)).flatten.length yc) (rs.take (k + 1)).flatten) := by
            have h := HO2.out
            rw [List.take_of_length_le (by rw [HRn.out]; omega), HSN.out] at h
            rw [HFL.out]
            exact h
          clear HO2
          go_wp2_with fail
          go_roundw
          case rel => exact ⟨k + 1, by omega, by go_num, ⟨yo, yc, by rw [HFL.out], HF2⟩, hB2⟩
          case measure => simp [intOf]; omega
    · obtain rfl : k = n := by omega
      rw [HAll.out] at HO ⊢
      obtain ⟨pn, hpn⟩ : ∃ pn, rs.flatten.length = pn := ⟨_, rfl⟩
      have HPn : Hid (rs.flatten.length = pn) := hpn
      have hfk : pn + m ≤ 20000 := by omega
      rw [hpn] at HO ⊢
      clear hpn hs
      generalize wr = wo at *
      go_wp2_with fail
      go_loopw [3, 6] (fun u j wr => ∃ q : Nat, q ≤ m ∧ j = .int .i64 q ∧ (∃ xo xc, u = .slice xo (pn + q) xc ∧ Hid (OwnI wr W0.heap.size (.slice xo (pn + q) xc) (rs.flatten ++ lo.take q))) ∧ Below W0.heap.size W0 wr) (fun _ j _ => m - (intOf j).toNat)
      case atStart => exact ⟨0, Nat.zero_le _, rfl, ⟨xo, xc, rfl, by rw [List.take_zero, List.append_nil]; exact HO⟩, hB⟩
      case round =>
        obtain ⟨q, hq, rfl, ⟨yo, yc, rfl, HO2⟩, hB2⟩ := hrel
        obtain ⟨a0', a1'⟩ := HC.out wr hB2
        by_cases hlq : q < m
        · have hlq2 : q < lo.length := by rw [HM.out]; exact hlq
          obtain ⟨b2, off2, rfl, hb2, _, hat⟩ := HL.out.at hlq2
          have c2 := ((HBW.out wr hB2).cell (p := ⟨b2, off2 + q, none⟩) hb2).trans (hat q hlq2)
          have HS : Hid (∀ (w' : World) (v : Value), w'.ownsRow W0.heap.size 3 1 v (pn + q + 1) (ivals (rs.flatten ++ lo.take q) ++ [.int .i64 (lo.getD q 0)]) → OwnI w' W0.heap.size v (rs.flatten ++ lo.take (q + 1))) := fun w' v h => by
            rw [take_get hlq2 0, ← List.append_assoc]
            refine OwnI.snoc ?_
            rw [List.length_append, List.length_take, Nat.min_eq_left (by omega), HPn.out]
            exact h
          have hrow := HO2.out.row
          have hsz := hB2.size
          clear hat
          generalize lo.getD q 0 = x at *
          go_wp2_with (at_builtin; refine push_i x rfl _ _ rfl W0.heap.size (pn + q) yc yo _ rfl hrow rfl (by omega) hsz ?_; intro vo' cap' w4 ho4 hb4 _; have HO4 := HS.out w4 _ ho4; have hB4 := hB2.trans hb4; clear ho4 hb4)
          go_roundw
          case rel => exact ⟨q + 1, by omega, by go_num, ⟨vo', cap', rfl, HO4⟩, hB4⟩
          case measure => simp [intOf]; omega
        · obtain rfl : q = m := by omega
          have HE : Hid ((keysL lo rs).length = pn + q) := by show _ = _; rw [keysL, List.length_append, HPn.out, HM.out]
          have HF2 : Hid (OwnI wr W0.heap.size (.slice yo (pn + q) yc) (keysL lo rs)) := by
            have h := HO2.out
            rw [List.take_of_length_le (by rw [HM.out]; omega)] at h
            exact h
          clear HO2
          go_wp2_with fail
          go_ret
          obtain ⟨p1, p2⟩ := HPost.out yo yc wr hB2 (by rw [HE.out]; exact HF2.out)
          exact ⟨yo, yc, by rw [HE.out]; rfl, p1, p2⟩
end Go.Proofs.Ytjapkkdbmpcoeaa
