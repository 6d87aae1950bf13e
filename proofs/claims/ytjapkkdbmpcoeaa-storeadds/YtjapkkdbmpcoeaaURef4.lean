/-
  The document's StoreCopy, KeyIn, KeysUp.
-/
import Derived.Test.YtjapkkdbmpcoeaaURef3
namespace Go.Proofs.Ytjapkkdbmpcoeaa
open Go.ChangeShapes Go.WideShapes Go.ChangeAt Go.RowKit Go.Deep

theorem LisO.len {w : World} {base n cap : Nat} {ao : Option Addr} {rs : List (List Int)} (h : LisO w base (.slice ao n cap) rs) : rs.length = n := h.v.len
section
variable {W : World}
/-- one more list: 'append(out, l)'. -/
theorem push_l {ops : Array Oper} {rest : List Oper} {o : Oper} {a : Act} {Q : Exit → Act → World → Prop} (u : Value) (rs : List (List Int)) (l : List Int) (hgd : o.guard = none) (s x : Operand)
    (ho : o.op = .call { callee := .builtin .append, args := #[s, x], argTypes := #[23, 23] })
    (base n cap : Nat) (vo : Option Addr) (hs : a.eval s = .slice vo n cap) (hL : LisO W base (.slice vo n cap) rs) (hu : OwnI W base u l) (hx : a.eval x = .slice (some ⟨W.heap.size, 0, none⟩) 1 1)
    (hsz : (n + 1) * 24 ≤ 140737488355328) (hbase : base ≤ W.heap.size)
    (h : ∀ vo' cap' w', LisO w' base (.slice vo' (n + 1) cap') (rs ++ [l]) → Below base W w' → wpList Try.prog ops Q rest (a.put o.dst (.slice vo' (n + 1) cap')) w') : wpList Try.prog ops Q (o :: rest) a (W.alloc (.cells #[u] 22)) := by
  obtain ⟨i0, hi, hz0, hz1, hz2⟩ := info_parts infoInts
  obtain ⟨us, h1, h2, h3⟩ := id hL
  have hn := hL.len
  subst hn
  obtain ⟨uo, uc, rfl⟩ := hu.shape
  refine wpList_append_own _ hgd s x 23 ho base 22 i0 (.slice none 0 0) 1 24 Try.underlying23 hi hz0 hz1 hz2 rfl (by decide) (.slice vo rs.length cap) rs.length us hs (h1.alloc _) ⟨W.heap.size, 0, none⟩ 1 1 [.slice uo l.length uc] hx rfl (one_cell _ _ _) (by simp [Value.oneCell']) (by unfold maxLen; omega) hsz (Nat.le_trans hbase (by simp)) ?_
  intro v' w4 hown' hgrow _
  obtain ⟨a4, c4, rfl⟩ := owns_slice hown'
  exact h a4 c4 w4 (LisO.snoc (w := W.alloc (.cells #[.slice uo l.length uc] 22)) (h1.alloc _) h2 (fun i hi => (h3 i hi).alloc _) (World.ownsRow.alloc hu _) hown' hgrow) (((Below.refl base W).alloc hbase _).grown hgrow (Nat.le_trans hbase (by simp)) (fun q hq => (h1.lt q hq).1))
end

/-- lists that are copied, in a box. -/
def CpAt (w1 wr : World) (b3 : Nat) (lv : Value) (yo : Option Addr) (yc k : Nat) (rs : List (List Int)) : Prop := Bw wr b3 lv (.slice yo k yc) ∧ LisO wr (b3 + 1) (.slice yo k yc) rs ∧ Below b3 w1 wr
theorem CpAt.later {w1 wr w2 : World} {b3 : Nat} {lv : Value} {yo : Option Addr} {yc k : Nat} {rs : List (List Int)} (h : CpAt w1 wr b3 lv yo yc k rs) (hb : Below wr.heap.size wr w2) : CpAt w1 w2 b3 lv yo yc k rs := by
  have hlt := h.1.1.1
  exact ⟨h.1.later hb, h.2.1.later hb (Nat.le_refl _), h.2.2.trans (hb.mono (by omega))⟩
theorem CpAt.set {w1 wr w2 : World} {b3 : Nat} {lv : Value} {yo : Option Addr} {yc k : Nat} {rs rs' : List (List Int)} (h : CpAt w1 wr b3 lv yo yc k rs) {zo : Option Addr} {zc k' : Nat} (hb : Below (b3 + 1) wr w2) (hL : LisO w2 (b3 + 1) (.slice zo k' zc) rs') : CpAt w1 (w2.setCell ⟨b3, 1, none⟩ (.slice zo k' zc)) b3 lv zo zc k' rs' := by
  obtain ⟨⟨⟨hlt, c0, c1⟩, f0, f1⟩, h2, h3⟩ := h
  have hlt2 : b3 < w2.heap.size := Nat.lt_of_lt_of_le hlt hb.size
  have e0 := (hb.cell (p := ⟨b3, 0, none⟩) (by show b3 < b3 + 1; omega)).trans c0
  have e1 := (hb.cell (p := ⟨b3, 1, none⟩) (by show b3 < b3 + 1; omega)).trans c1
  have g0 := (hb.frozen (p := ⟨b3, 0, none⟩) (by show b3 < b3 + 1; omega)).trans f0
  have g1 := (hb.frozen (p := ⟨b3, 1, none⟩) (by show b3 < b3 + 1; omega)).trans f1
  refine ⟨⟨⟨by simpa using hlt2, by simp [go_sem, e0], by simp [go_sem, e1]⟩, by simp [go_sem, g0], by simp [go_sem, g1]⟩, hL.setCell (by show b3 < b3 + 1; omega) _, ?_⟩
  exact (h3.trans (hb.mono (by omega))).setCell (p := ⟨b3, 1, none⟩) (Nat.le_refl _) _

/-- what StoreCopy answers. -/
def CpPost (w : World) (lo : List Int) (rs : List (List Int)) (e : Ending) (w' : World) : Prop := ∃ xo xc yo yc, e = .returned (.agg #[.slice xo lo.length xc, .slice yo rs.length yc]) ∧ Below w.heap.size w w' ∧ OwnI w' w.heap.size (.slice xo lo.length xc) lo ∧ LisO w' w.heap.size (.slice yo rs.length yc) rs
/-- .. and that no two of its lists share memory. -/
def CpPost2 (w : World) (lo : List Int) (rs : List (List Int)) (e : Ending) (w' : World) : Prop := ∃ xo xc yo yc, e = .returned (.agg #[.slice xo lo.length xc, .slice yo rs.length yc]) ∧ Below w.heap.size w w' ∧ OwnI w' w.heap.size (.slice xo lo.length xc) lo ∧ ∃ B, w.heap.size ≤ B ∧ (∀ g, (Value.slice xo lo.length xc).ownBlock = some g → g < B) ∧ LisO w' B (.slice yo rs.length yc) rs
set_option maxHeartbeats 1600000 in
set_option maxRecDepth 20000 in
/-- THE CONTRACT OF StoreCopy. -/
theorem rcopy_apart (lo : List Int) (rs : List (List Int)) (la ra : Option Addr) (lc rc : Nat) (w : World) (hz : StSz lo rs) (hL : IntsV w (.slice la lo.length lc) lo) (hR : LisV w (.slice ra rs.length rc) rs) :
    Calls Try.prog 21 #[.agg #[.slice la lo.length lc, .slice ra rs.length rc]] w (CpPost2 w lo rs) := by
  obtain ⟨hbA, hcA⟩ := Bc.arg w (.slice la lo.length lc) (.slice ra rs.length rc) 25
  obtain ⟨W0, hW0⟩ : ∃ W0, W0 = ((w.alloc (.cells #[.slice la lo.length lc, .slice ra rs.length rc] 25)).alloc (.cells #[.slice none 0 0, .slice none 0 0] 25)) := ⟨_, rfl⟩
  have hA : Below w.heap.size w W0 := by rw [hW0]; exact hbA.alloc hbA.size _
  have hC0 : Bc W0 w.heap.size (.slice la lo.length lc) (.slice ra rs.length rc) := by rw [hW0]; exact hcA.later ((Below.refl _ _).alloc (Nat.le_refl _) _)
  have hR0 : Bw W0 (w.heap.size + 1) (.slice none 0 0) (.slice none 0 0) := by
    have := Bw.new (w.alloc (.cells #[.slice la lo.length lc, .slice ra rs.length rc] 25)) (.slice none 0 0) (.slice none 0 0) 25
    rw [hW0]
    simpa using this
  obtain ⟨n, hn⟩ : ∃ n, rs.length = n := ⟨_, rfl⟩
  obtain ⟨m, hm⟩ : ∃ m, lo.length = m := ⟨_, rfl⟩
  have HN : Hid (rs.length = n) := hn
  have HM : Hid (lo.length = m) := hm
  have hnu := numbers_any (.slice la lo.length lc) lo W0 hz.loose (hL.below hA)
  have HRl : Hid (LisV w (.slice ra rs.length rc) rs) := hR
  have HNu : Hid (∀ (i : Nat) (v : Value) (w1 : World), i < rs.length → IntsV w1 v (rs.getD i []) → Calls Try.prog 31 #[v] w1 fun e w' => ∃ ao cap, e = .returned (.slice ao (rs.getD i []).length cap) ∧ Below w1.heap.size w1 w' ∧ Hid (OwnI w' w1.heap.size (.slice ao (rs.getD i []).length cap) (rs.getD i []))) := fun i v w1 hi h => numbers_any v _ w1 (hz.each i hi) h
  have hzr := hz.runs
  have HTk : Hid (∀ k, k < rs.length → rs.take (k + 1) = rs.take k ++ [rs.getD k []]) := fun k h => take_get h []
  have HAll : Hid (rs.take rs.length = rs) := List.take_length
  rw [hn] at hW0 hC0 HRl hzr HAll
  rw [hm] at hW0 hC0 hnu
  have hB0 : Below W0.heap.size W0 W0 := Below.refl _ _
  have HBW : Hid (Below w.heap.size w W0) := hA
  unfold CpPost2
  rw [hn, hm]
  clear hL hR hz hcA hbA hn hm
  obtain ⟨_, a0, a1⟩ := id hC0
  go_enter Try.func21, Try.ntmps21
  go_wp2_with fail
  rw [← hW0]
  go_wp2_with (first | (go_at_call 31; refine hnu.mono ?_; rintro e w1 ⟨xo, xc, rfl, hb1, HX⟩))
  have hs1 := hb1.size
  have hW2 : w.heap.size + 1 + 1 = W0.heap.size := by rw [hW0]; simp
  clear hW0
  obtain ⟨W3, hW3⟩ : ∃ W3, W3 = w1.alloc (.cells #[.slice xo m xc, .slice none 0 0] 25) := ⟨_, rfl⟩
  rw [← hW3]
  have hb3 : Below w1.heap.size w1 W3 := by rw [hW3]; exact (Below.refl _ _).alloc (Nat.le_refl _) _
  have HC3 : Hid (CpAt w1 W3 w1.heap.size (.slice xo m xc) none 0 0 []) := ⟨by rw [hW3]; exact Bw.new w1 _ _ _, LisO.nil _ _, hb3⟩
  have HBk : Hid (∀ w2, Below w1.heap.size w1 w2 → Bc w2 w.heap.size (.slice la m lc) (.slice ra n rc) ∧ Bw w2 (w.heap.size + 1) (.slice none 0 0) (.slice none 0 0) ∧ Below w.heap.size w w2) := fun w2 h => ⟨(hC0.later hb1).later h, (hR0.later hb1).later h, (HBW.out.trans (hb1.mono HBW.out.size)).trans (h.mono (Nat.le_trans HBW.out.size hs1))⟩
  clear hW3 hb3
  go_loopw [4, 5] (fun i z wr => ∃ k : Nat, k ≤ n ∧ i = .int .i64 k ∧ Hid (∃ yo yc, CpAt w1 wr w1.heap.size (.slice xo m xc) yo yc k (rs.take k))) (fun i _ _ => n - (intOf i).toNat)
  case atStart => exact ⟨0, Nat.zero_le _, rfl, none, 0, HC3.out⟩
  case round =>
    obtain ⟨k, hk, rfl, HCp⟩ := hrel
    obtain ⟨yo, yc, hcp⟩ := HCp.out
    obtain ⟨hbc, hbw, hBw⟩ := HBk.out wr hcp.2.2
    obtain ⟨_, e0, e1⟩ := id hbc
    by_cases hlt : k < n
    · have hlt2 : k < rs.length := by rw [HN.out]; exact hlt
      obtain ⟨b, off, rfl, hb, u, c1, hu⟩ := HRl.out.at hlt2
      obtain ⟨uo, uc, rfl⟩ := hu.shape
      have c2 := (hBw.cell (p := ⟨b, off + k, none⟩) hb).trans c1
      have hnk := HNu.out k _ wr hlt2 (hu.below hBw)
      have HTk2 : Hid (rs.take (k + 1) = rs.take k ++ [rs.getD k []]) := HTk.out k hlt2
      have HCP : Hid (CpAt w1 wr w1.heap.size (.slice xo m xc) yo yc k (rs.take k)) := hcp
      clear hu c1 hcp HCp
      generalize rs.getD k [] = r at *
      generalize hrr : r.length = rn at *
      clear hrr
      go_wp2_with (first | (go_at_call 31; refine hnk.mono ?_; rintro e w4 ⟨zo, zc, rfl, hb4, HZ⟩; have hcp4 := HCP.out.later hb4; obtain ⟨⟨⟨hb3l, p0, p1⟩, f0, f1⟩, hl4, hbb⟩ := id hcp4) | (at_builtin; refine push_l (.slice zo rn zc) (rs.take k) r rfl _ _ rfl (w1.heap.size + 1) k yc yo rfl hl4 (HZ.out.mono (by have := HCP.out.1.1.1; omega)) rfl (by omega) hb3l ?_; intro vo' cap' w5 hl5 hb5; have hcp5 := hcp4.set hb5 hl5; rw [← HTk2.out] at hcp5; have HC5 : Hid (CpAt w1 (w5.setCell ⟨w1.heap.size, 1, none⟩ (.slice vo' (k + 1) cap')) w1.heap.size (.slice xo m xc) vo' cap' (k + 1) (rs.take (k + 1))) := hcp5; have q1 := (hb5.cell (p := ⟨w1.heap.size, 1, none⟩) (by show w1.heap.size < _; omega)).trans p1; have g1 := (hb5.frozen (p := ⟨w1.heap.size, 1, none⟩) (by show w1.heap.size < _; omega)).trans f1; clear hcp5 hcp4 hl4 hl5))
      go_roundw
      case rel => exact ⟨k + 1, by omega, by go_num, vo', cap', HC5.out⟩
      case measure => simp [intOf]; omega
    · obtain rfl : k = n := by omega
      rw [HAll.out] at hcp
      obtain ⟨⟨⟨hb3l, p0, p1⟩, f0, f1⟩, hl4, hbb⟩ := id hcp
      obtain ⟨⟨_, z0, z1⟩, y0, y1⟩ := id hbw
      have HEnd : Hid (Below w.heap.size w ((wr.setCell ⟨w.heap.size + 1, 0, none⟩ (.slice xo m xc)).setCell ⟨w.heap.size + 1, 1, none⟩ (.slice yo k yc)) ∧ OwnI ((wr.setCell ⟨w.heap.size + 1, 0, none⟩ (.slice xo m xc)).setCell ⟨w.heap.size + 1, 1, none⟩ (.slice yo k yc)) w.heap.size (.slice xo m xc) lo ∧ ∃ B, w.heap.size ≤ B ∧ (∀ g, (Value.slice xo m xc).ownBlock = some g → g < B) ∧ LisO ((wr.setCell ⟨w.heap.size + 1, 0, none⟩ (.slice xo m xc)).setCell ⟨w.heap.size + 1, 1, none⟩ (.slice yo k yc)) B (.slice yo k yc) rs) := by
        refine ⟨(hBw.setCell (p := ⟨w.heap.size + 1, 0, none⟩) (by simp) _).setCell (p := ⟨w.heap.size + 1, 1, none⟩) (by simp) _, ?_, ?_⟩
        · have h1 : OwnI wr W0.heap.size (.slice xo m xc) lo := HX.out.later hbb (Nat.le_refl _)
          exact OwnI.mono (owns_setCell (owns_setCell h1 (by show w.heap.size + 1 < _; omega) _) (by show w.heap.size + 1 < _; omega) _) (by omega)
        · exact ⟨w1.heap.size + 1, by omega, fun g hg => by have := (HX.out.lt g hg).2; omega, ((hl4.setCell (p := ⟨w.heap.size + 1, 0, none⟩) (by show w.heap.size + 1 < _; omega) _).setCell (p := ⟨w.heap.size + 1, 1, none⟩) (by show w.heap.size + 1 < _; omega) _)⟩
      have hne : ¬ w1.heap.size = w.heap.size + 1 := by omega
      clear hcp hbw hbc hl4 HCp
      go_wp2_with fail
      refine bodyPost_ret (v := .agg #[.slice xo m xc, .slice yo k yc]) ?_ rfl ⟨xo, xc, yo, yc, rfl, HEnd.out⟩
      simp [results, Try.results21, go_sem, z0, z1]
theorem rcopy_any (lo : List Int) (rs : List (List Int)) (la ra : Option Addr) (lc rc : Nat) (w : World) (hz : StSz lo rs) (hL : IntsV w (.slice la lo.length lc) lo) (hR : LisV w (.slice ra rs.length rc) rs) :
    Calls Try.prog 21 #[.agg #[.slice la lo.length lc, .slice ra rs.length rc]] w (CpPost w lo rs) :=
  (rcopy_apart lo rs la ra lc rc w hz hL hR).mono fun _ _ ⟨xo, xc, yo, yc, h1, h2, h3, _, h4, _, h5⟩ => ⟨xo, xc, yo, yc, h1, h2, h3, h5.mono h4⟩
end Go.Proofs.Ytjapkkdbmpcoeaa
