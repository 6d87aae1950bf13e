/-
  The document's KeyAdded, where a key is added.
-/
import Derived.Test.YtjapkkdbmpcoeaaURef6
namespace Go.Proofs.Ytjapkkdbmpcoeaa
open Go.ChangeShapes Go.WideShapes Go.ChangeAt Go.RowKit Go.Deep

set_option maxHeartbeats 1600000 in
set_option maxRecDepth 20000 in
theorem radd_loose (lo : List Int) (rs : List (List Int)) (x : Int) (la ra : Option Addr) (lc rc : Nat) (w : World) (hz : StSz lo rs) (hL : IntsV w (.slice la lo.length lc) lo) (hR : LisV w (.slice ra rs.length rc) rs) (hm : May lo rs) (hh : hasC lo rs x = (false, 0)) (hf : ¬ lo.length + rs.flatten.length = 20000) (h8 : lo.length + 1 < 8) :
    Calls Try.prog 13 #[.agg #[.slice la lo.length lc, .slice ra rs.length rc], .int .i64 x] w (AdPost w (lo ++ [x], rs, true, 0)) := by
  obtain ⟨W0, hW0⟩ : ∃ W0, W0 = ((w.alloc (.cells #[.slice la lo.length lc, .slice ra rs.length rc] 25)).alloc (.cells #[.slice none 0 0, .slice none 0 0] 25)) := ⟨_, rfl⟩
  have hT : Two w W0 W0 (.slice la lo.length lc) (.slice ra rs.length rc) := by rw [hW0]; exact Two.start w _ _ _
  obtain ⟨_, a0, a1⟩ := id hT.arg
  have hha := rin_any lo rs x la ra lc rc W0 hz (hL.below hT.below) (hR.below hT.below)
  have HCp : Hid (∀ w1, Below w.heap.size w w1 → Calls Try.prog 21 #[.agg #[.slice la lo.length lc, .slice ra rs.length rc]] w1 fun e w' => ∃ xo xc yo yc B, e = .returned (.agg #[.slice xo lo.length xc, .slice yo rs.length yc]) ∧ Below w1.heap.size w1 w' ∧ Hid (OwnI w' w1.heap.size (.slice xo lo.length xc) lo) ∧ Hid (w1.heap.size ≤ B ∧ (∀ g, (Value.slice xo lo.length xc).ownBlock = some g → g < B) ∧ LisO w' B (.slice yo rs.length yc) rs)) := fun w1 h => (rcopy_apart lo rs la ra lc rc w1 hz (hL.below h) (hR.below h)).mono fun e w' ⟨xo, xc, yo, yc, h1, h2, h3, B, h4⟩ => ⟨xo, xc, yo, yc, B, h1, h2, h3, h4⟩
  have HKe : Hid (∀ w1, Below w.heap.size w w1 → Calls Try.prog 22 #[.agg #[.slice la lo.length lc, .slice ra rs.length rc]] w1 fun e w' => ∃ ao cap, e = .returned (.slice ao (lo.length + rs.flatten.length) cap) ∧ Below w1.heap.size w1 w') := fun w1 h => (rkeys_any lo rs la ra lc rc w1 hm.size.many hm.size.runs (hL.below h) (hR.below h)).mono fun e w' ⟨ao, cap, h1, h2, _⟩ => ⟨ao, cap, by rw [h1, keysL, List.length_append, Nat.add_comm], h2⟩
  have HSn : Hid (∀ (w1 : World) (b : Nat) (v : Value), w1.ownsRow b 3 1 v (lo.length + 1) (ivals lo ++ [.int .i64 x]) → OwnI w1 b v (lo ++ [x])) := fun w1 b v h => OwnI.snoc h
  have HRow : Hid (∀ (w1 : World) (b : Nat) (v : Value), OwnI w1 b v lo → w1.ownsRow b 3 1 v lo.length (ivals lo)) := fun w1 b v h => h
  have hll : (lo ++ [x]).length = lo.length + 1 := by simp
  have hkn : lo.length + rs.flatten.length < 20000 := by have := hm.size.many; omega
  rw [hh] at hha
  unfold AdPost
  simp only
  rw [hll]
  generalize lo.length + rs.flatten.length = kn at *
  generalize lo.length = m at *
  generalize rs.length = n at *
  clear hL hR hz hh hm hf hll
  obtain ⟨kz, hkz⟩ : ∃ kz : Int, (kn : Int) = kz := ⟨_, rfl⟩
  have hki : ¬ (20000 : Int) ≤ kz := by omega
  clear hkn
  have h8i : (m : Int) + 1 < 8 := by omega
  go_enter Try.func13, Try.ntmps13
  go_wp2_with fail
  rw [← hW0]
  clear hW0
  go_wp2_with (first | (go_at_call 11; refine hha.mono ?_; rintro e w1 ⟨rfl, hb1⟩; have hT1 := hT.later hb1; obtain ⟨_, q0, q1⟩ := id hT1.arg; have hcp := HCp.out w1 hT1.below; have hs1 := hb1.size) | (go_at_call 21; refine hcp.mono ?_; rintro e w2 ⟨xo, xc, yo, yc, B, rfl, hb2, hx2, hy2⟩; obtain ⟨hbn, hcn⟩ := Bc.arg w2 (.slice xo m xc) (.slice yo n yc) 25; have hB := Bw.new w2 (.slice xo m xc) (.slice yo n yc) 25; have hT2 := (hT1.later hb2).later hbn; obtain ⟨_, p0, p1⟩ := id hT2.arg; have hke := HKe.out _ hT2.below; have hs2 := hb2.size; clear hcn) | (go_at_call 22; refine hke.mono ?_; rintro e w3 ⟨ko, kc, rfl, hb3⟩; obtain ⟨⟨_, t0, t1⟩, f0, f1⟩ := hB.later hb3; have hx3 := (hx2.out.later hbn (Nat.le_refl _)).later hb3 (Nat.le_refl _); have hrow := HRow.out _ _ _ hx3; have hs3 := Nat.le_trans hs2 (Nat.le_trans hbn.size hb3.size); clear hx3) | (at_builtin; refine push_i x rfl _ _ rfl w1.heap.size m xc xo _ rfl hrow rfl (by omega) hs3 ?_; intro vo cap w4 ho4 hb4 hg4; have hO4 := HSn.out _ _ _ ho4; obtain ⟨⟨⟨_, u0, u1⟩, v0, v1⟩, hP⟩ := pushed hT2 hb3 hs1 hx2.out hy2.out.2.1 hy2.out.2.2 hs2 hO4 hb4 hg4; have HP : Hid (Pushed w W0 w4 w2.heap.size B (.slice la m lc) (.slice ra n rc) (.slice vo (m + 1) cap) (.slice yo n yc) (lo ++ [x]) rs) := hP; obtain ⟨⟨_, k0, k1⟩, l0, l1⟩ := id hP.box; obtain ⟨⟨_, z0, z1⟩, g0, g1⟩ := id hP.two.res; clear ho4 hrow hO4 hg4 hP))
  obtain ⟨e1, e2, e3⟩ := HP.out.two.endV HP.out.loose (HP.out.runs.x.mono (Nat.le_trans hs1 hy2.out.1))
  refine bodyPost_ret (v := .tuple #[.agg #[.slice vo (m + 1) cap, .slice yo n yc], .bool true, .int .i64 0]) ?_ rfl ⟨vo, cap, yo, yc, rfl, e1, e2, e3⟩
  simp [results, Try.results13, go_sem, z0, z1]
/-- a row of one's own, whose lists lay there ahead of it. -/
def LisE (w0 w : World) (base : Nat) (v : Value) (rs : List (List Int)) : Prop := ∃ us, w.ownsRow base 22 1 v rs.length us ∧ LisU w0 us rs
theorem LisE.len {w0 w : World} {base n cap : Nat} {ao : Option Addr} {rs : List (List Int)} (h : LisE w0 w base (.slice ao n cap) rs) : rs.length = n := by
  obtain ⟨us, h1, _⟩ := h
  obtain ⟨a, c, e⟩ := owns_slice h1
  injection e with _ e _
  exact e.symm
section
variable {W : World}
theorem push_e {ops : Array Oper} {rest : List Oper} {o : Oper} {a : Act} {Q : Exit → Act → World → Prop} (u : Value) (rs : List (List Int)) (l : List Int) (w0 : World) (hgd : o.guard = none) (s x : Operand)
    (ho : o.op = .call { callee := .builtin .append, args := #[s, x], argTypes := #[23, 23] })
    (base n cap : Nat) (vo : Option Addr) (hs : a.eval s = .slice vo n cap) (hL : LisE w0 W base (.slice vo n cap) rs) (hu : IntsV w0 u l) (hx : a.eval x = .slice (some ⟨W.heap.size, 0, none⟩) 1 1)
    (hsz : (n + 1) * 24 ≤ 140737488355328) (hbase : base ≤ W.heap.size)
    (h : ∀ vo' cap' w', LisE w0 w' base (.slice vo' (n + 1) cap') (rs ++ [l]) → Below base W w' → wpList Try.prog ops Q rest (a.put o.dst (.slice vo' (n + 1) cap')) w') : wpList Try.prog ops Q (o :: rest) a (W.alloc (.cells #[u] 22)) := by
  obtain ⟨i0, hi, hz0, hz1, hz2⟩ := info_parts infoInts
  have hn := hL.len
  subst hn
  obtain ⟨us, h1, h2⟩ := hL
  obtain ⟨uo, uc, rfl⟩ := hu.shape
  refine wpList_append_own _ hgd s x 23 ho base 22 i0 (.slice none 0 0) 1 24 Try.underlying23 hi hz0 hz1 hz2 rfl (by decide) (.slice vo rs.length cap) rs.length us hs (h1.alloc _) ⟨W.heap.size, 0, none⟩ 1 1 [.slice uo l.length uc] hx rfl (one_cell _ _ _) (by simp [Value.oneCell']) (by unfold maxLen; omega) hsz (Nat.le_trans hbase (by simp)) ?_
  intro v' w4 hown' hgrow _
  obtain ⟨a4, c4, rfl⟩ := owns_slice hown'
  refine h a4 c4 w4 ⟨us ++ [.slice uo l.length uc], by rw [List.length_append]; exact hown', h2.append ⟨rfl, fun i hi => ?_⟩⟩ (((Below.refl base W).alloc hbase _).grown hgrow (Nat.le_trans hbase (by simp)) (fun q hq => (h1.lt q hq).1))
  have : i = 0 := by simp at hi; omega
  subst this
  exact hu
end
theorem up_more (r A L : List Int) : up (r ++ up (A ++ L)) = up ((r ++ A) ++ L) := up_congr (by
  rw [List.append_assoc]
  exact (List.Perm.refl r).append (up_perm _))

set_option maxHeartbeats 3200000 in
set_option maxRecDepth 20000 in
theorem radd_run (lo : List Int) (rs : List (List Int)) (x : Int) (la ra : Option Addr) (lc rc : Nat) (w : World) (hz : StSz lo rs) (hL : IntsV w (.slice la lo.length lc) lo) (hR : LisV w (.slice ra rs.length rc) rs) (hm : May lo rs) (hh : hasC lo rs x = (false, 0)) (hf : ¬ lo.length + rs.flatten.length = 20000) (h8 : ¬ lo.length + 1 < 8) :
    Calls Try.prog 13 #[.agg #[.slice la lo.length lc, .slice ra rs.length rc], .int .i64 x] w (AdPost w ([], runsAdd rs (lo ++ [x]), true, 0)) := by
  obtain ⟨W0, hW0⟩ : ∃ W0, W0 = ((w.alloc (.cells #[.slice la lo.length lc, .slice ra rs.length rc] 25)).alloc (.cells #[.slice none 0 0, .slice none 0 0] 25)) := ⟨_, rfl⟩
  have hT : Two w W0 W0 (.slice la lo.length lc) (.slice ra rs.length rc) := by rw [hW0]; exact Two.start w _ _ _
  obtain ⟨_, a0, a1⟩ := id hT.arg
  have hha := rin_any lo rs x la ra lc rc W0 hz (hL.below hT.below) (hR.below hT.below)
  have HCp : Hid (∀ w1, Below w.heap.size w w1 → Calls Try.prog 21 #[.agg #[.slice la lo.length lc, .slice ra rs.length rc]] w1 fun e w' => ∃ xo xc yo yc B, e = .returned (.agg #[.slice xo lo.length xc, .slice yo rs.length yc]) ∧ Below w1.heap.size w1 w' ∧ Hid (OwnI w' w1.heap.size (.slice xo lo.length xc) lo) ∧ Hid (w1.heap.size ≤ B ∧ (∀ g, (Value.slice xo lo.length xc).ownBlock = some g → g < B) ∧ LisO w' B (.slice yo rs.length yc) rs)) := fun w1 h => (rcopy_apart lo rs la ra lc rc w1 hz (hL.below h) (hR.below h)).mono fun e w' ⟨xo, xc, yo, yc, h1, h2, h3, B, h4⟩ => ⟨xo, xc, yo, yc, B, h1, h2, h3, h4⟩
  have HKe : Hid (∀ w1, Below w.heap.size w w1 → Calls Try.prog 22 #[.agg #[.slice la lo.length lc, .slice ra rs.length rc]] w1 fun e w' => ∃ ao cap, e = .returned (.slice ao (lo.length + rs.flatten.length) cap) ∧ Below w1.heap.size w1 w') := fun w1 h => (rkeys_any lo rs la ra lc rc w1 hm.size.many hm.size.runs (hL.below h) (hR.below h)).mono fun e w' ⟨ao, cap, h1, h2, _⟩ => ⟨ao, cap, by rw [h1, keysL, List.length_append, Nat.add_comm], h2⟩
  have HSn : Hid (∀ (w1 : World) (b : Nat) (v : Value), w1.ownsRow b 3 1 v (lo.length + 1) (ivals lo ++ [.int .i64 x]) → OwnI w1 b v (lo ++ [x])) := fun w1 b v h => OwnI.snoc h
  have HRow : Hid (∀ (w1 : World) (b : Nat) (v : Value), OwnI w1 b v lo → w1.ownsRow b 3 1 v lo.length (ivals lo)) := fun w1 b v h => h
  have hll : (lo ++ [x]).length = lo.length + 1 := by simp
  have hkn : lo.length + rs.flatten.length < 20000 := by have := hm.size.many; omega
  rw [hh] at hha
  have HUp : Hid (∀ (v : Value) (w1 : World), IntsV w1 v (lo ++ [x]) → Calls Try.prog 23 #[v] w1 fun e w' => ∃ ao cap, e = .returned (.slice ao (lo.length + 1) cap) ∧ Below w1.heap.size w1 w' ∧ Hid (IntsV w' (.slice ao (lo.length + 1) cap) (up (lo ++ [x])))) := fun v w1 h => (rup_any v _ w1 (by rw [hll]; have := hm.size.loose; omega) h).mono fun e w' ⟨ao, cap, h1, h2, h3⟩ => ⟨ao, cap, by rw [← hll]; exact h1, h2, by rw [← hll]; exact h3.out.v⟩
  have HUp2 : Hid (∀ (ao : Option Addr) (n cap : Nat) (l : List Int) (w1 : World), l.length ≤ 100000 → l.length = n → IntsV w1 (.slice ao n cap) l → Calls Try.prog 23 #[.slice ao n cap] w1 fun e w' => ∃ ao cap, e = .returned (.slice ao n cap) ∧ Below w1.heap.size w1 w' ∧ Hid (IntsV w' (.slice ao n cap) (up l))) := fun ao n cap l w1 h0 he h => by
    subst he
    exact (rup_any _ l w1 h0 h).mono fun e w' ⟨ao, cap, h1, h2, h3⟩ => ⟨ao, cap, h1, h2, h3.out.v⟩
  have HNu : Hid (∀ (j : Nat) (v : Value) (w1 : World), j < rs.length → IntsV w1 v (rs.getD j []) → Calls Try.prog 31 #[v] w1 fun e w' => ∃ ao cap, e = .returned (.slice ao (rs.getD j []).length cap) ∧ Below w1.heap.size w1 w' ∧ Hid (OwnI w' w1.heap.size (.slice ao (rs.getD j []).length cap) (rs.getD j []))) := fun j v w1 hj h => numbers_any v _ w1 (hz.each j hj) h
  obtain ⟨st, hst⟩ : ∃ st, stayAt rs (lo ++ [x]).length = st := ⟨_, rfl⟩
  have HRA0 : Hid (runsAdd rs (lo ++ [x]) = rs.take st ++ [up ((rs.drop st).flatten ++ (lo ++ [x]))]) := by show _ = _; unfold runsAdd; rw [hst]
  have HS0 : Hid (stay rs rs.length (lo.length + 1) = st) := by rw [← hll]; exact hst
  obtain ⟨rl, hrl⟩ : ∃ rl, (runsAdd rs (lo ++ [x])).length = rl := ⟨_, rfl⟩
  have HRl : Hid ((runsAdd rs (lo ++ [x])).length = rl) := hrl
  have HN0 : Hid (rs.length = rs.length) := rfl
  have HFl : Hid (∀ k, k < rs.length → (rs.drop k).flatten = rs.getD k [] ++ (rs.drop (k + 1)).flatten) := fun k h => flat_drop h
  have HTot : Hid (∀ k, (rs.drop k).flatten.length + lo.length + 1 ≤ 20000) := fun k => by
    have : (rs.take k).flatten.length + (rs.drop k).flatten.length = rs.flatten.length := by rw [← List.length_append, ← List.flatten_append, List.take_append_drop]
    omega
  have hn20 := hm.size.runs
  have hm8 := hm.size.loose
  have HDl : Hid ((rs.drop rs.length).flatten = []) := by show _ = _; rw [List.drop_length]; rfl
  unfold AdPost
  simp only [List.length_nil]
  rw [hrl]
  generalize lo.length + rs.flatten.length = kn at *
  have HLl : Hid ((lo ++ [x]).length = lo.length + 1) := hll
  obtain ⟨m, hmm⟩ : ∃ m, lo.length = m := ⟨_, rfl⟩
  obtain ⟨n, hnn⟩ : ∃ n, rs.length = n := ⟨_, rfl⟩
  have HN : Hid (rs.length = n) := hnn
  rw [hmm] at hha hT hW0 a0 HCp HKe HSn HRow HUp HS0 HTot HLl h8 hm8 ⊢
  rw [hnn] at hha hT hW0 a1 HCp HKe HS0 hn20 HDl ⊢
  clear hL hR hz hh hm hf hll hst hrl hmm hnn HN0
  obtain ⟨kz, hkz⟩ : ∃ kz : Int, (kn : Int) = kz := ⟨_, rfl⟩
  have hki : ¬ (20000 : Int) ≤ kz := by omega
  clear hkn
  have h8i : ¬ (m : Int) + 1 < 8 := by omega
  have tk1 := True.intro
  go_enter Try.func13, Try.ntmps13
  go_wp2_with fail
  rw [← hW0]
  clear hW0
  go_wp2_with (first | (go_at_call 11; refine hha.mono ?_; rintro e w1 ⟨rfl, hb1⟩; have hT1 := hT.later hb1; obtain ⟨_, q0, q1⟩ := id hT1.arg; have hcp := HCp.out w1 hT1.below; have hs1 := hb1.size) | (go_at_call 21; refine hcp.mono ?_; rintro e w2 ⟨xo, xc, yo, yc, B, rfl, hb2, hx2, hy2⟩; obtain ⟨hbn, hcn⟩ := Bc.arg w2 (.slice xo m xc) (.slice yo n yc) 25; have hB := Bw.new w2 (.slice xo m xc) (.slice yo n yc) 25; have hT2 := (hT1.later hb2).later hbn; obtain ⟨_, p0, p1⟩ := id hT2.arg; have hke := HKe.out _ hT2.below; have hs2 := hb2.size; clear hcn) | (go_at_call 22; refine hke.mono ?_; rintro e w3 ⟨ko, kc, rfl, hb3⟩; obtain ⟨⟨_, t0, t1⟩, f0, f1⟩ := hB.later hb3; have hx3 := (hx2.out.later hbn (Nat.le_refl _)).later hb3 (Nat.le_refl _); have hrow := HRow.out _ _ _ hx3; have hs3 := Nat.le_trans hs2 (Nat.le_trans hbn.size hb3.size); clear hx3) | (at_builtin; refine push_i x rfl _ _ rfl w1.heap.size m xc xo _ rfl hrow rfl (by omega) hs3 ?_; intro vo cap w4 ho4 hb4 hg4; have hO4 := HSn.out _ _ _ ho4; obtain ⟨⟨⟨_, u0, u1⟩, v0, v1⟩, hP⟩ := pushed hT2 hb3 hs1 hx2.out hy2.out.2.1 hy2.out.2.2 hs2 hO4 hb4 hg4; have HP : Hid (Pushed w W0 w4 w2.heap.size B (.slice la m lc) (.slice ra n rc) (.slice vo (m + 1) cap) (.slice yo n yc) (lo ++ [x]) rs) := hP; obtain ⟨⟨_, k0, k1⟩, l0, l1⟩ := id hP.box; have hup := HUp.out _ _ hP.loose; clear ho4 hrow hO4 hg4 hP) | (clear tk1; go_at_call 23; refine hup.mono ?_; rintro e w5 ⟨so, sc, rfl, hb5, hx5⟩; have hBx5 := HP.out.box.later hb5; have hT5 := HP.out.two.later hb5; have hR5 := HP.out.runs.v.below hb5; obtain ⟨⟨_, r0, r1⟩, _, _⟩ := id hBx5))
  have hsW : W0.heap.size ≤ w5.heap.size := by
    have h1 := hb5.size
    have h2 : (w4.setCell ⟨w2.heap.size, 0, none⟩ (.slice vo (m + 1) cap)).heap.size = w4.heap.size := by simp
    have h3 := hb4.size
    omega
  have HT5 : Hid (Two w W0 w5 (.slice la m lc) (.slice ra n rc)) := hT5
  have HBx : Hid (∀ w6, Below w5.heap.size w5 w6 → Bw w6 w2.heap.size (.slice vo (m + 1) cap) (.slice yo n yc)) := fun w6 h => hBx5.later h
  have HRv : Hid (LisV w5 (.slice yo n yc) rs) := hR5
  have HSt1 : Hid (IntsV w5 (.slice so (m + 1) sc) (up ((rs.drop n).flatten ++ (lo ++ [x]))) ∧ m + 1 = m + 1 + (rs.drop n).flatten.length) := by rw [HDl.out]; exact ⟨hx5.out, rfl⟩
  clear hT5 hBx5 hR5 hx5 HP hx2 hy2 hT2 hT1 hT hB
  go_loopw [10, 11, 12] (fun u i z wr => ∃ k : Nat, k ≤ n ∧ i = .int .i64 k ∧ (∃ so sc ln, u = .slice so ln sc ∧ Hid (ln = m + 1 + (rs.drop k).flatten.length ∧ IntsV wr (.slice so ln sc) (up ((rs.drop k).flatten ++ (lo ++ [x]))) ∧ stay rs k ln = st)) ∧ Below w5.heap.size w5 wr) (fun _ i _ _ => (intOf i).toNat)
  case atStart => exact ⟨n, Nat.le_refl _, rfl, ⟨so, sc, m + 1, rfl, HSt1.out.2, HSt1.out.1, HS0.out⟩, Below.refl _ _⟩
  case round =>
    obtain ⟨k, hk, rfl, ⟨so, sc, ln, rfl, HU⟩, hB⟩ := hrel
    have hsW2 := Nat.le_trans hsW hB.size
    obtain ⟨⟨_, b0, b1⟩, _, _⟩ := HBx.out wr hB
    obtain ⟨hln, hls, hstk⟩ := HU.out
    have hlt20 : ln ≤ 20000 := by have := HTot.out k; omega
    rcases Nat.eq_zero_or_pos k with h0 | h0
    · have hks : k = st := by have h := hstk; rw [h0] at h; rw [h0]; exact h
      have HRA : Hid (runsAdd rs (lo ++ [x]) = rs.take k ++ [up ((rs.drop k).flatten ++ (lo ++ [x]))]) := by rw [hks]; exact HRA0
      have i0 : ¬ (0 : Int) < (k : Int) := by omega
      have i0n : decide (0 < k) = false := decide_eq_false (by omega)
      have i0m : ¬ 0 < k := by omega
      clear hln hstk h0 hks HRA0 HS0
      have HE0 : Hid (LisE wr wr wr.heap.size (.slice none 0 0) (rs.take 0)) := ⟨[], World.ownsRow_nil _ _ _ _, LisU.nil _⟩
      have HLs : Hid (IntsV wr (.slice so ln sc) (up ((rs.drop k).flatten ++ (lo ++ [x])))) := hls
      have hTr := HT5.out.later hB
      have HTr : Hid (Two w W0 wr (.slice la m lc) (.slice ra n rc)) := hTr
      have HBk : Hid (∀ w6, Below wr.heap.size wr w6 → w6.cell? ⟨w2.heap.size, 0, none⟩ = some (.slice vo (m + 1) cap) ∧ w6.cell? ⟨w2.heap.size, 1, none⟩ = some (.slice yo n yc)) := fun w6 h => (HBx.out w6 (hB.trans (h.mono hB.size))).1.2
      have HLv : Hid (LisV wr (.slice yo n yc) rs) := HRv.out.below hB
      clear HU hls hTr HT5
      generalize wr = wE at *
      go_wp2_with fail
      go_loopw [13, 14] (fun u i wr => ∃ q : Nat, q ≤ k ∧ i = .int .i64 q ∧ (∃ zo zc, u = .slice zo q zc ∧ Hid (LisE wE wr wE.heap.size (.slice zo q zc) (rs.take q))) ∧ Below wE.heap.size wE wr) (fun _ i _ => k - (intOf i).toNat)
      case atStart => exact ⟨0, Nat.zero_le _, rfl, ⟨none, 0, rfl, HE0⟩, Below.refl _ _⟩
      case round =>
        obtain ⟨q, hq, rfl, ⟨zo, zc, rfl, HE⟩, hB2⟩ := hrel
        obtain ⟨b0', b1'⟩ := HBk.out wr hB2
        have hs6 := hB2.size
        by_cases hqk : q < k
        · exact absurd hqk (by omega)
        · obtain rfl : q = k := by omega
          have HFin : Hid (∀ (w7 : World) (vo' : Option Addr) (cap' : Nat), Below wE.heap.size wE w7 → LisE wE w7 wE.heap.size (.slice vo' (q + 1) cap') (rs.take q ++ [up ((rs.drop q).flatten ++ (lo ++ [x]))]) → Two w W0 w7 (.slice la m lc) (.slice ra n rc) ∧ LisX w7 W0.heap.size (.slice vo' rl cap') (runsAdd rs (lo ++ [x])) ∧ rl = q + 1) := fun w7 vo' cap' h1 h2 => by
            obtain ⟨us, h3, h4⟩ := h2
            have e : runsAdd rs (lo ++ [x]) = rs.take q ++ [up ((rs.drop q).flatten ++ (lo ++ [x]))] := HRA.out
            have e2 : rl = q + 1 := by rw [← HRl.out, e, List.length_append, List.length_take, Nat.min_eq_left (by rw [HN.out]; omega)]; rfl
            refine ⟨HTr.out.later h1, ?_, e2⟩
            rw [e, e2]
            exact ⟨us, owns_mono h3 hsW2, h4.below h1⟩
          have hqn24 : (q + 1) * 24 ≤ 140737488355328 := by omega
          have hTq := HTr.out.later hB2
          obtain ⟨⟨_, y0, y1⟩, j0, j1⟩ := id hTq.res
          clear hTq
          go_wp2_with (at_builtin; refine push_e (.slice so ln sc) (rs.take q) (up ((rs.drop q).flatten ++ (lo ++ [x]))) wE rfl _ _ rfl wE.heap.size q zc zo rfl HE.out HLs.out rfl hqn24 hs6 ?_; intro vo' cap' w7 hl7 hb7; obtain ⟨hT7, hX7, hrl⟩ := HFin.out w7 vo' cap' (hB2.trans hb7) hl7; obtain ⟨⟨_, m0, m1⟩, n0, n1⟩ := id hT7.res; have HT7 : Hid (Two w W0 w7 (.slice la m lc) (.slice ra n rc)) := hT7; have HX7 : Hid (LisX w7 W0.heap.size (.slice vo' rl cap') (runsAdd rs (lo ++ [x]))) := hX7; have HRL : Hid (rl = q + 1) := hrl; clear hT7 hX7 hl7 hrl)
          obtain ⟨e1, e2, e3⟩ := HT7.out.endV (intsV_nil w7) HX7.out
          refine bodyPost_ret (v := .tuple #[.agg #[.slice none 0 0, .slice vo' rl cap'], .bool true, .int .i64 0]) ?_ rfl ?_
          · rw [HRL.out]; simp [results, Try.results13, go_sem, m0, m1]
          · have e1' := e1; have e2' := e2; have e3' := e3
            rw [HRL.out] at e1' e2' e3' ⊢
            exact ⟨none, 0, vo', cap', rfl, e1', e2', e3'⟩
    · obtain ⟨j, hj⟩ : ∃ j, j + 1 = k := ⟨k - 1, by omega⟩
      have hjr : j < rs.length := by rw [HN.out]; omega
      obtain ⟨b, off, rfl, hb, u, c1, hu⟩ := HRv.out.at hjr
      obtain ⟨uo, uc, rfl⟩ := hu.shape
      have c2 := (hB.cell (p := ⟨b, off + j, none⟩) hb).trans c1
      have hfl := HFl.out j hjr
      rw [hj] at hfl
      have hnu := HNu.out j _ wr hjr (hu.below hB)
      have HStp : Hid (stay rs k ln = if (rs.getD j []).length ≤ ln then stay rs j (ln + (rs.getD j []).length) else k) := by show _ = _; rw [← hj]; rfl
      have hLj := HTot.out j
      rw [hfl, List.length_append] at hLj
      have HNx : Hid ((rs.getD j []).length ≤ ln → (rs.getD j []).length + ln = m + 1 + (rs.drop j).flatten.length ∧ stay rs j ((rs.getD j []).length + ln) = st) := fun h => by
        have h2 := HStp.out
        rw [hstk, if_pos h] at h2
        refine ⟨?_, ?_⟩
        · rw [hfl, List.length_append, hln]; omega
        · rw [Nat.add_comm]; exact h2.symm
      have HEx : Hid (¬ (rs.getD j []).length ≤ ln → k = st) := fun h => by
        have h2 := HStp.out
        rw [hstk, if_neg h] at h2
        exact h2.symm
      have HUm : Hid (up (rs.getD j [] ++ up ((rs.drop k).flatten ++ (lo ++ [x]))) = up ((rs.drop j).flatten ++ (lo ++ [x]))) := by show _ = _; rw [up_more, hfl]
      have hupl : (up ((rs.drop k).flatten ++ (lo ++ [x]))).length = ln := by rw [up_length, List.length_append, HLl.out, hln]; omega
      have i0 : (0 : Int) < (k : Int) := by omega
      have i0n : decide (0 < k) = true := decide_eq_true h0
      have i2 : (j : Int) < (n : Int) := by omega
      have i4 : (k : Int) - 1 = (j : Int) := by omega
      have i5 : IntKind.i64.wrap ((k : Int) - 1) = (j : Int) := by rw [i4, IntWalk.i64_left]; exact IntWalk.wrap64_in _ (by omega)
      have i6 : wrap64 ((k : Int) - 1) = (j : Int) := by rw [i4]; exact IntWalk.wrap64_in _ (by omega)
      have hjn : j ≤ n := by omega
      have hjk : j < k := by omega
      by_cases hcm : (rs.getD j []).length ≤ ln
      · obtain ⟨hn1, hn2⟩ := HNx.out hcm
        have HNx2 : Hid ((rs.getD j []).length + ln = m + 1 + (rs.drop j).flatten.length ∧ stay rs j ((rs.getD j []).length + ln) = st) := ⟨hn1, hn2⟩
        have HLs : Hid (∀ w6, Below wr.heap.size wr w6 → IntsV w6 (.slice so ln sc) (up ((rs.drop k).flatten ++ (lo ++ [x])))) := fun w6 h => hls.below h
        have HOw : Hid (∀ (w6 : World) (v : Value), w6.ownsRow wr.heap.size 3 1 v ((rs.getD j []).length + ln) (ivals (rs.getD j []) ++ ivals (up ((rs.drop k).flatten ++ (lo ++ [x])))) → OwnI w6 wr.heap.size v (rs.getD j [] ++ up ((rs.drop k).flatten ++ (lo ++ [x])))) := fun w6 v h => by
          unfold OwnI
          rw [List.length_append, hupl, ivals_append]
          exact h
        have HBl : Hid ((rs.getD j [] ++ up ((rs.drop k).flatten ++ (lo ++ [x]))).length = (rs.getD j []).length + ln) := by show _ = _; rw [List.length_append, hupl]
        have hcmi : ((rs.getD j []).length : Int) ≤ (ln : Int) := by omega
        have hrw := fun (w6 : World) (v : Value) (h : OwnI w6 wr.heap.size v (rs.getD j [])) => (show w6.ownsRow wr.heap.size 3 1 v (rs.getD j []).length (ivals (rs.getD j [])) from h)
        have HRw : Hid (∀ (w6 : World) (v : Value), OwnI w6 wr.heap.size v (rs.getD j []) → w6.ownsRow wr.heap.size 3 1 v (rs.getD j []).length (ivals (rs.getD j []))) := hrw
        clear hrw hn1 hn2 HNx HEx HStp hfl hLj hln hstk hls HU hu c1 hjr hj i4 hupl h0
        generalize rs.getD j [] = r at *
        generalize hrr : r.length = rn at *
        clear hrr
        generalize up ((rs.drop k).flatten ++ (lo ++ [x])) = U at *
        have hsum : rn + ln ≤ 100000 := by omega
        go_wp2_with (first | (go_at_call 31; refine hnu.mono ?_; rintro e w6 ⟨no, nc, rfl, hb6, hx6⟩; have hB6 := hB.trans (hb6.mono hB.size); have hro := HRw.out _ _ hx6.out; have hs6 := hb6.size) | (at_builtin; refine wpList_append_i rfl _ _ rfl wr.heap.size rn nc no _ rfl hro so ln sc U rfl (HLs.out w6 hb6) (by omega) hs6 ?_; intro vo7 cap7 w7 ho7 hg7; have hb7 : Below wr.heap.size w6 w7 := ((Below.refl _ _).grown hg7 hs6 (fun q hq => (hro.lt q hq).1)); have hB7 := hB6.trans (hb7.mono hB.size); have hup7 := HUp2.out vo7 (rn + ln) cap7 _ w7 (by rw [HBl.out]; exact hsum) HBl.out (HOw.out w7 _ ho7).v; rw [HUm.out] at hup7; clear ho7 hg7) | (go_at_call 23; refine hup7.mono ?_; rintro e w8 ⟨vo8, cap8, rfl, hb8, hx8⟩; have hB8 := hB7.trans (hb8.mono hB7.size)))
        refine ⟨⟨j, hjn, rfl, ⟨vo8, cap8, rn + ln, rfl, HNx2.out.1, hx8.out, HNx2.out.2⟩, hB8⟩, by simp [intOf]; exact hjk⟩
      · have hks := HEx.out hcm
        have HRA : Hid (runsAdd rs (lo ++ [x]) = rs.take k ++ [up ((rs.drop k).flatten ++ (lo ++ [x]))]) := by rw [hks]; exact HRA0
        have hcmi : ¬ ((rs.getD j []).length : Int) ≤ (ln : Int) := by omega
        clear HNx HEx HStp hfl hLj hln hstk hu c1 hjr hj i4 hupl h0 HUm hnu hks HRA0 HS0
        generalize (rs.getD j []).length = rn at *
        have HE0 : Hid (LisE wr wr wr.heap.size (.slice none 0 0) (rs.take 0)) := ⟨[], World.ownsRow_nil _ _ _ _, LisU.nil _⟩
        have HLs : Hid (IntsV wr (.slice so ln sc) (up ((rs.drop k).flatten ++ (lo ++ [x])))) := hls
        have hTr := HT5.out.later hB
        have HTr : Hid (Two w W0 wr (.slice la m lc) (.slice ra n rc)) := hTr
        have HBk : Hid (∀ w6, Below wr.heap.size wr w6 → w6.cell? ⟨w2.heap.size, 0, none⟩ = some (.slice vo (m + 1) cap) ∧ w6.cell? ⟨w2.heap.size, 1, none⟩ = some (.slice (some ⟨b, off, none⟩) n yc)) := fun w6 h => (HBx.out w6 (hB.trans (h.mono hB.size))).1.2
        have HLv : Hid (LisV wr (.slice (some ⟨b, off, none⟩) n yc) rs) := HRv.out.below hB
        clear HU hls hTr HT5
        generalize wr = wE at *
        go_wp2_with fail
        go_loopw [13, 14] (fun u i wr => ∃ q : Nat, q ≤ k ∧ i = .int .i64 q ∧ (∃ zo zc, u = .slice zo q zc ∧ Hid (LisE wE wr wE.heap.size (.slice zo q zc) (rs.take q))) ∧ Below wE.heap.size wE wr) (fun _ i _ => k - (intOf i).toNat)
        case atStart => exact ⟨0, Nat.zero_le _, rfl, ⟨none, 0, rfl, HE0⟩, Below.refl _ _⟩
        case round =>
          obtain ⟨q, hq, rfl, ⟨zo, zc, rfl, HE⟩, hB2⟩ := hrel
          obtain ⟨b0', b1'⟩ := HBk.out wr hB2
          have hs6 := hB2.size
          by_cases hqk : q < k
          · have hq2 : q < rs.length := by rw [HN.out]; omega
            obtain ⟨b', off', e9, hb', u, c1, hu⟩ := HLv.out.at hq2
            obtain ⟨rfl, rfl⟩ : b = b' ∧ off = off' := by simpa using e9
            have c2' := (hB2.cell (p := ⟨b, off + q, none⟩) hb').trans c1
            obtain ⟨uo, uc, rfl⟩ := hu.shape
            have HTk : Hid (rs.take (q + 1) = rs.take q ++ [rs.getD q []]) := take_get hq2 []
            have HUu : Hid (IntsV wE (.slice uo (rs.getD q []).length uc) (rs.getD q [])) := hu
            have i1 : (q : Int) < (n : Int) := by omega
            have hqn24 : (q + 1) * 24 ≤ 140737488355328 := by omega
            clear c1 hu
            generalize rs.getD q [] = r at *
            generalize r.length = rn at *
            go_wp2_with (at_builtin; refine push_e (.slice uo rn uc) (rs.take q) r wE rfl _ _ rfl wE.heap.size q zc zo rfl HE.out HUu.out rfl hqn24 hs6 ?_; intro vo' cap' w7 hl7 hb7; rw [← HTk.out] at hl7; have HL7 : Hid (LisE wE w7 wE.heap.size (.slice vo' (q + 1) cap') (rs.take (q + 1))) := hl7; have hB7 := hB2.trans hb7; clear hl7)
            go_roundw
            case rel => exact ⟨q + 1, by omega, by go_num, ⟨vo', cap', rfl, HL7⟩, hB7⟩
            case measure => simp [intOf]; omega
          · obtain rfl : q = k := by omega
            have HFin : Hid (∀ (w7 : World) (vo' : Option Addr) (cap' : Nat), Below wE.heap.size wE w7 → LisE wE w7 wE.heap.size (.slice vo' (q + 1) cap') (rs.take q ++ [up ((rs.drop q).flatten ++ (lo ++ [x]))]) → Two w W0 w7 (.slice la m lc) (.slice ra n rc) ∧ LisX w7 W0.heap.size (.slice vo' rl cap') (runsAdd rs (lo ++ [x])) ∧ rl = q + 1) := fun w7 vo' cap' h1 h2 => by
              obtain ⟨us, h3, h4⟩ := h2
              have e : runsAdd rs (lo ++ [x]) = rs.take q ++ [up ((rs.drop q).flatten ++ (lo ++ [x]))] := HRA.out
              have e2 : rl = q + 1 := by rw [← HRl.out, e, List.length_append, List.length_take, Nat.min_eq_left (by rw [HN.out]; omega)]; rfl
              refine ⟨HTr.out.later h1, ?_, e2⟩
              rw [e, e2]
              exact ⟨us, owns_mono h3 hsW2, h4.below h1⟩
            have hqn24 : (q + 1) * 24 ≤ 140737488355328 := by omega
            have hTq := HTr.out.later hB2
            obtain ⟨⟨_, y0, y1⟩, j0, j1⟩ := id hTq.res
            clear hTq
            go_wp2_with (at_builtin; refine push_e (.slice so ln sc) (rs.take q) (up ((rs.drop q).flatten ++ (lo ++ [x]))) wE rfl _ _ rfl wE.heap.size q zc zo rfl HE.out HLs.out rfl hqn24 hs6 ?_; intro vo' cap' w7 hl7 hb7; obtain ⟨hT7, hX7, hrl⟩ := HFin.out w7 vo' cap' (hB2.trans hb7) hl7; obtain ⟨⟨_, m0, m1⟩, n0, n1⟩ := id hT7.res; have HT7 : Hid (Two w W0 w7 (.slice la m lc) (.slice ra n rc)) := hT7; have HX7 : Hid (LisX w7 W0.heap.size (.slice vo' rl cap') (runsAdd rs (lo ++ [x]))) := hX7; have HRL : Hid (rl = q + 1) := hrl; clear hT7 hX7 hl7 hrl)
            obtain ⟨e1, e2, e3⟩ := HT7.out.endV (intsV_nil w7) HX7.out
            refine bodyPost_ret (v := .tuple #[.agg #[.slice none 0 0, .slice vo' rl cap'], .bool true, .int .i64 0]) ?_ rfl ?_
            · rw [HRL.out]; simp [results, Try.results13, go_sem, m0, m1]
            · have e1' := e1; have e2' := e2; have e3' := e3
              rw [HRL.out] at e1' e2' e3' ⊢
              exact ⟨none, 0, vo', cap', rfl, e1', e2', e3'⟩

/-- THE CONTRACT OF KeyAdded. -/
theorem radd_any (lo : List Int) (rs : List (List Int)) (x : Int) (la ra : Option Addr) (lc rc : Nat) (w : World) (hz : StSz lo rs) (hL : IntsV w (.slice la lo.length lc) lo) (hR : LisV w (.slice ra rs.length rc) rs) :
    Calls Try.prog 13 #[.agg #[.slice la lo.length lc, .slice ra rs.length rc], .int .i64 x] w (AdPost w (addC lo rs x)) := by
  unfold addC
  by_cases hm : May lo rs
  · rw [if_pos hm]
    by_cases hx : 0 ≤ x ∧ x ≤ 2147483647
    · rw [if_pos hx]
      by_cases hk : x ∈ keysL lo rs
      · rw [if_pos hk]
        exact radd_has lo rs x la ra lc rc w hz hL hR hm (by unfold hasC; rw [if_pos hm, if_pos hx, decide_eq_true hk])
      · rw [if_neg hk]
        have hh : hasC lo rs x = (false, 0) := by unfold hasC; rw [if_pos hm, if_pos hx, decide_eq_false hk]
        by_cases hf : lo.length + rs.flatten.length = 20000
        · rw [if_pos hf]
          exact radd_full lo rs x la ra lc rc w hz hL hR hm hh hf
        · rw [if_neg hf]
          unfold addS
          by_cases h8 : lo.length + 1 < 8
          · rw [if_pos h8]
            exact radd_loose lo rs x la ra lc rc w hz hL hR hm hh hf h8
          · rw [if_neg h8]
            exact radd_run lo rs x la ra lc rc w hz hL hR hm hh hf h8
    · rw [if_neg hx]
      exact radd_bad lo rs x 2 la ra lc rc w hz hL hR (by unfold hasC; rw [if_pos hm, if_neg hx]) (by decide)
  · rw [if_neg hm]
    exact radd_bad lo rs x 9 la ra lc rc w hz hL hR (by unfold hasC; rw [if_neg hm]) (by decide)
theorem StSz.nil : StSz [] [] := ⟨by simp, by simp, fun i hi => by simp at hi⟩
theorem May.sz {lo : List Int} {rs : List (List Int)} (h : May lo rs) : StSz lo rs :=
  ⟨by have := h.size.loose; omega, by have := h.size.runs; omega, fun i hi => by have := mem_flat_le (getD_mem hi []); have := h.size.many; omega⟩
theorem addC_sz {lo : List Int} {rs : List (List Int)} (x : Int) (hz : StSz lo rs) : StSz (addC lo rs x).1 (addC lo rs x).2.1 := by
  unfold addC
  by_cases hm : May lo rs
  · rw [if_pos hm]
    by_cases hx : 0 ≤ x ∧ x ≤ 2147483647
    · rw [if_pos hx]
      by_cases hk : x ∈ keysL lo rs
      · rw [if_pos hk]; exact hz
      · rw [if_neg hk]
        by_cases hf : lo.length + rs.flatten.length = 20000
        · rw [if_pos hf]; exact StSz.nil
        · rw [if_neg hf]
          exact (hm.add hx.1 hx.2 hk (by have := hm.size.many; omega)).sz
    · rw [if_neg hx]; exact StSz.nil
  · rw [if_neg hm]; exact StSz.nil
end Go.Proofs.Ytjapkkdbmpcoeaa
