/-
  Proved: foretellkeep.StoreTurns answers true at every list of numbers and number (it does not matter in which order keys came, of what there is). No condition.
-/
import Derived.Test.YtncfkpfbjenpjaaUMem
import Derived.Test.YtncfkpfbjenpjaaUTurn
namespace Go.Proofs.Ytncfkpfbjenpjaa
open Go.ChangeShapes Go.WideShapes Go.ChangeAt Go.RowKit Go.Deep

set_option maxHeartbeats 3200000 in
set_option maxRecDepth 20000 in
theorem storeTurns_walk (v : Value) (l : List Int) (x : Int) (w : World) (hx : I64 x) (hV : IntsR w v l) :
    Calls Try.prog 4 #[v, .int .i64 x] w fun e w' => e = .returned (.bool true) ∧ Below w.heap.size w w' := by
  have hst := stocked_any v l w hV
  obtain ⟨ao, cap, rfl⟩ := hV.v.shape
  have hpk0 := fun w1 => picked_is x 100 w1 hx (by decide) (by decide)
  obtain ⟨hp0, hp1⟩ := pk_range (n := x) (m := 100) (by decide)
  obtain ⟨p, hpp⟩ : ∃ p : Nat, pk x 100 = (p : Int) := ⟨(pk x 100).toNat, by omega⟩
  have hpk : ∀ w1, Calls Try.prog 9 #[.int .i64 x, .int .i64 100] w1 fun e w' => e = .returned (.int .i64 p) ∧ w' = w1 := fun w1 => by rw [← hpp]; exact hpk0 w1
  have hp100 : p < 100 := by omega
  clear hpp hpk0 hp0 hp1
  obtain ⟨ln, hln⟩ : ∃ ln, l.length = ln := ⟨_, rfl⟩
  have hlz := hV.size
  rw [hln] at hst hlz ⊢
  clear hV
  unfold StoPost at hst
  have hst2 : Calls Try.prog 8 #[.slice ao ln cap] w fun e w' => ∃ (ks : List Int) (m n kn : Nat) (la : Option Addr) (lc : Nat) (ra : Option Addr) (rc : Nat) (ka : Option Addr) (kc : Nat), e = .returned (.tuple #[.agg #[.slice la m lc, .slice ra n rc], .slice ka kn kc, .bool true]) ∧ Below w.heap.size w w' ∧ kn ≤ 100 ∧ Hid (ks.length = kn) ∧ Hid (ks.Nodup) ∧ Hid (∀ k ∈ ks, 0 ≤ k ∧ k < 500) ∧ Hid (kn = 0 ↔ ln = 0) ∧
      Hid (∀ j, j < kn → ∃ b off, ka = some ⟨b, off, none⟩ ∧ b < w'.heap.size ∧ w'.cell? ⟨b, off + j, none⟩ = some (.int .i64 (ks.getD j 0))) ∧
      Hid (∀ w1, Below w'.heap.size w' w1 → Calls Try.prog 11 #[.agg #[.slice la m lc, .slice ra n rc]] w1 fun e w2 => ∃ uo uc, e = .returned (.tuple #[.slice uo kn uc, .int .i64 0]) ∧ Below w1.heap.size w1 w2 ∧ Hid (IntsV w2 (.slice uo kn uc) (up ks))) := hst.mono fun e w' ⟨lo, rs, ks, la, lc, ra, rc, ka, kc, h1, h2, h3, h4, h5, h6, h7, h8, h9⟩ => by
    have hmay := h6.out.may
    refine ⟨ks, lo.length, rs.length, ks.length, la, lc, ra, rc, ka, kc, h1, h2, h7, rfl, h6.out.nodup, h8, ?_, fun j hj => ?_, fun w1 h => ?_⟩
    · show _ ↔ _
      rw [List.length_eq_zero_iff, h9.out, ← hln, List.length_eq_zero_iff]
    · obtain ⟨b, off, rfl, hb, _, hat⟩ := h5.out.at hj
      exact ⟨b, off, rfl, hb, hat j hj⟩
    · have := all_any lo rs la ra lc rc w1 hmay.sz (h3.out.below h) (h4.out.below h)
      rw [allL_ok hmay, sC_ok hmay, up_congr h6.out.keys] at this
      unfold AlPost at this
      rw [up_length] at this
      exact this
  clear hst hln
  go_enter Try.func4, Try.ntmps4
  go_wp2_with (first | (go_at_call 8; refine hst2.mono ?_; rintro e w1 ⟨ks, m, n, kn, la, lc, ra, rc, ka, kc, rfl, hb1, hk100, HKl, HKd, HKr, HK0, HKa, HAll⟩; obtain ⟨hbn, hcn⟩ := Bc.arg w1 (.slice la m lc) (.slice ra n rc) 25))
  have HSN : Hid (w1.heap.size + 1 = (w1.alloc (.cells #[.slice la m lc, .slice ra n rc] 25)).heap.size) := by show _ = _; simp
  have HB0 : Hid (∀ w2, Below (w1.alloc (.cells #[.slice la m lc, .slice ra n rc] 25)).heap.size (w1.alloc (.cells #[.slice la m lc, .slice ra n rc] 25)) w2 → Below w1.heap.size w1 w2 ∧ Bc w2 w1.heap.size (.slice la m lc) (.slice ra n rc)) := fun w2 h => ⟨hbn.trans (h.mono hbn.size), hcn.later h⟩
  generalize w1.alloc (.cells #[.slice la m lc, .slice ra n rc] 25) = wn at *
  obtain ⟨W0, hW0⟩ : ∃ W0, W0 = wn.alloc (.cells #[.slice none 0 0, .slice none 0 0] 25) := ⟨_, rfl⟩
  have HS0 : Hid (StAt W0 (w1.heap.size + 1) [] []) := by rw [HSN.out, hW0]; exact ⟨none, 0, none, 0, newBox wn _, IntsN.nil _ _, LisX.nil _ _⟩
  have hb0 : Below wn.heap.size wn W0 := by rw [hW0]; exact (Below.refl _ _).alloc (Nat.le_refl _) _
  rw [← hW0]
  clear hW0 hst2 hbn hcn
  go_loopw [10, 11, 12, 13] (fun i z1 z2 z3 wr => ∃ q : Nat, q ≤ kn ∧ i = .int .i64 q ∧ Hid (∃ lo rs, Tur ks p q lo rs ∧ StAt wr (w1.heap.size + 1) lo rs) ∧ Below wn.heap.size wn wr) (fun i _ _ _ _ => kn - (intOf i).toNat)
  case atStart => exact ⟨0, Nat.zero_le _, rfl, ⟨[], [], Tur.nil ks p, HS0.out⟩, hb0⟩
  case round =>
    obtain ⟨q, hq, rfl, HG, hB⟩ := hrel
    obtain ⟨lo, rs, hG, hA⟩ := HG.out
    obtain ⟨la2, lc2, ra2, rc2, hbx, hxN, hyX⟩ := id hA
    obtain ⟨⟨hbl, c0, c1⟩, f0, f1⟩ := id hbx
    have hs1 := hB.size
    by_cases hqk : q < kn
    · have hkl := HKl.out
      obtain ⟨lo', rs', o, hac, ho7, hG2⟩ := hG.step HKd.out HKr.out (by omega) (by omega)
      rw [hkl] at hac ho7
      have hj : turI kn p q < kn := turI_lt (by omega)
      obtain ⟨b, off, rfl, hb, hcell⟩ := HKa.out (turI kn p q) hj
      have hadd := fun w2 (h : Below wr.heap.size wr w2) => add_any lo rs (ks.getD (turI kn p q) 0) la2 ra2 lc2 rc2 w2 hG.may.sz (hxN.v.below h) (hyX.v.below h)
      rw [hac] at hadd
      unfold AdPost at hadd
      simp only at hadd
      have HDc : Hid (∀ w2, Below wr.heap.size wr w2 → w2.cell? ⟨b, off + turI kn p q, none⟩ = some (.int .i64 (ks.getD (turI kn p q) 0))) := fun w2 h => ((HB0.out w2 (hB.trans (h.mono hB.size))).1.cell (p := ⟨b, off + turI kn p q, none⟩) hb).trans hcell
      have hrem : ((q : Int) * 7 + (p : Int)).tmod (kn : Int) = ((turI kn p q : Nat) : Int) := by rw [Int.tmod_eq_emod_of_nonneg (by omega)]; unfold turI; push_cast; rfl
      generalize ks.getD (turI kn p q) 0 = y at *
      generalize turI kn p q = J at *
      have HAd : Hid (∀ w2, Below wr.heap.size wr w2 → Calls Try.prog 13 #[.agg #[.slice la2 lo.length lc2, .slice ra2 rs.length rc2], .int .i64 y] w2 fun e w3 => ∃ xo xc yo yc, e = .returned (.tuple #[.agg #[.slice xo lo'.length xc, .slice yo rs'.length yc], .bool o, .int .i64 0]) ∧ Below w2.heap.size w2 w3 ∧ Hid (IntsN w3 w2.heap.size (.slice xo lo'.length xc) lo') ∧ Hid (LisX w3 w2.heap.size (.slice yo rs'.length yc) rs')) := hadd
      have HG2 : Hid (Tur ks p (q + 1) lo' rs') := hG2
      have HO7 : Hid (o = false → kn % 7 = 0) := ho7
      have HNx : Hid (∀ (w4 : World) (xo yo : Option Addr) (xc yc : Nat), Below wr.heap.size wr w4 → IntsN w4 wr.heap.size (.slice xo lo'.length xc) lo' → LisX w4 wr.heap.size (.slice yo rs'.length yc) rs' → StAt ((w4.setCell ⟨w1.heap.size + 1, 0, none⟩ (.slice xo lo'.length xc)).setCell ⟨w1.heap.size + 1, 1, none⟩ (.slice yo rs'.length yc)) (w1.heap.size + 1) lo' rs') := fun w4 xo yo xc yc h1 h2 h3 => (hA.later h1).put (B := wr.heap.size) (by omega) h2 h3
      have HBx : Hid (∀ w4, Below wr.heap.size wr w4 → Bw w4 (w1.heap.size + 1) (.slice la2 lo.length lc2) (.slice ra2 rs.length rc2)) := fun w4 h => hbx.later h
      have s1 : wrap64 ((q : Int) * 7) = (q : Int) * 7 := IntWalk.wrap64_in _ (by omega)
      have s1' : IntKind.i64.wrap ((q : Int) * 7) = (q : Int) * 7 := by rw [IntWalk.i64_left]; exact s1
      have s2 : wrap64 ((q : Int) * 7 + (p : Int)) = (q : Int) * 7 + (p : Int) := IntWalk.wrap64_in _ (by omega)
      have s2' : IntKind.i64.wrap ((q : Int) * 7 + (p : Int)) = (q : Int) * 7 + (p : Int) := by rw [IntWalk.i64_left]; exact s2
      have hk0 : ¬ (kn : Int) = 0 := by omega
      have hk0n : ¬ kn = 0 := by omega
      have hji : (J : Int) < (kn : Int) := by omega
      generalize lo'.length = m' at *
      generalize rs'.length = n' at *
      generalize lo.length = m2 at *
      generalize rs.length = nr at *
      clear hadd hG2 hac hG HG hA hxN hyX hbx hcell ho7 hkl
      go_wp2_with fail
      go_cut [11, 12, 13] (fun u8 u9 u10 w' => ∃ B xo xc yo yc, u8 = .pointer (some ⟨B, 0, none⟩) ∧ u9 = .bool o ∧ u10 = .int .i64 0 ∧ Below wr.heap.size wr w' ∧ wr.heap.size ≤ B ∧ Bc w' B (.slice xo m' xc) (.slice yo n' yc) ∧ Hid (IntsN w' wr.heap.size (.slice xo m' xc) lo' ∧ LisX w' wr.heap.size (.slice yo n' yc) rs'))
      case first =>
        have hdr : Below wr.heap.size wr wr.drew := (Below.refl _ _).drew
        have hal : Below wr.heap.size wr (wr.alloc (.cells #[.slice none 0 0, .slice none 0 0] 25)).drew := ((Below.refl _ _).alloc (Nat.le_refl _) _).drew
        have hcB : Bw (wr.alloc (.cells #[.slice none 0 0, .slice none 0 0] 25)).drew wr.heap.size (.slice none 0 0) (.slice none 0 0) := (newBox wr 25).later ((Below.refl _ _).drew)
        have haA := HAd.out wr.drew hdr
        have haB := HAd.out (wr.alloc (.cells #[.slice none 0 0, .slice none 0 0] 25)).drew hal
        have e0 := HDc.out wr (Below.refl _ _)
        have e1 := HDc.out (wr.alloc (.cells #[.slice none 0 0, .slice none 0 0] 25)) ((Below.refl wr.heap.size wr).alloc (Nat.le_refl _) _)
        obtain ⟨⟨_, zA0, zA1⟩, _, _⟩ := HBx.out (wr.alloc (.cells #[.slice none 0 0, .slice none 0 0] 25)) ((Below.refl _ _).alloc (Nat.le_refl _) _)
        go_region_law (first
          | (go_simp; go_at_call 9; refine (hpk _).mono ?_; rintro e w2 ⟨rfl, rfl⟩)
          | (go_simp; go_at_call 13; refine haA.mono ?_; rintro e w3 ⟨xo, xc, yo, yc, rfl, hb3, hx3, hy3⟩; have hs3 := hdr.trans (hb3.mono hdr.size))
          | (go_simp; go_at_call 13; refine haB.mono ?_; rintro e w3 ⟨xo, xc, yo, yc, rfl, hb3, hx3, hy3⟩; have hs3 := hal.trans (hb3.mono hal.size); have kC := hcB.later hb3; have hlt3 := hcB.1.1; obtain ⟨⟨_, k0, k1⟩, f0', f1'⟩ := id kC))
        all_goals go_wp2_with fail
        all_goals go_meet
        all_goals first
          | exact ⟨_, xo, xc, yo, yc, rfl, rfl, rfl, hs3.alloc hs3.size _, hs3.size, (Bc.arg w3 _ _ _).2, hx3.out.below (Bc.arg w3 _ _ _).1, hy3.out.later (Bc.arg w3 _ _ _).1⟩
          | exact ⟨_, xo, xc, yo, yc, rfl, rfl, rfl, (hs3.setCell (p := ⟨wr.heap.size, 0, none⟩) (Nat.le_refl _) _).setCell (p := ⟨wr.heap.size, 1, none⟩) (Nat.le_refl _) _, Nat.le_refl _, kC.put _ _, (kC.intsN hx3.out _ _).mono hal.size, (kC.lisX hlt3 hy3.out _ _).mono hal.size⟩
      case rest =>
        obtain ⟨B, xo, xc, yo, yc, rfl, rfl, rfl, hs3, hBl, hd3, hv3⟩ := hcut
        obtain ⟨_, h0, h1⟩ := id hd3
        obtain ⟨⟨_, p0, p1⟩, g0, g1⟩ := HBx.out _ hs3
        have hst := HNx.out _ xo yo xc yc hs3 hv3.out.1 hv3.out.2
        have HSS := (show Hid _ from hst)
        have hB4 := ((hB.trans (hs3.mono hB.size)).setCell (p := ⟨w1.heap.size + 1, 0, none⟩) (by rw [HSN.out]; exact Nat.le_refl _) (.slice xo m' xc)).setCell (p := ⟨w1.heap.size + 1, 1, none⟩) (by rw [HSN.out]; exact Nat.le_refl _) (.slice yo n' yc)
        clear hst
        cases o with
        | true =>
          go_wp2_with fail
          go_roundw
          case rel => exact ⟨q + 1, by omega, by go_num, ⟨lo', rs', HG2.out, HSS.out⟩, hB4⟩
          case measure => simp [intOf]; omega
        | false =>
          have h7 := HO7.out rfl
          have h7i : (kn : Int) % 7 = 0 := by omega
          have h7t : (kn : Int).tmod 7 = 0 := by rw [Int.tmod_eq_emod_of_nonneg (by omega)]; exact h7i
          go_wp2_with fail
          go_roundw
          case rel => exact ⟨q + 1, by omega, by go_num, ⟨lo', rs', HG2.out, HSS.out⟩, hB4⟩
          case measure => simp [intOf]; omega
    · have hqk2 : q = kn := by omega
      subst hqk2
      have hkl := HKl.out
      have hall := fun w2 (h : Below wr.heap.size wr w2) => all_any lo rs la2 ra2 lc2 rc2 w2 hG.may.sz (hxN.v.below h) (hyX.v.below h)
      rw [sC_ok hG.may] at hall
      unfold AlPost at hall
      have HAl2 : Hid (∀ w2, Below wr.heap.size wr w2 → Calls Try.prog 11 #[.agg #[.slice la2 lo.length lc2, .slice ra2 rs.length rc2]] w2 fun e w3 => ∃ uo uc, e = .returned (.tuple #[.slice uo (allL lo rs).length uc, .int .i64 0]) ∧ Below w2.heap.size w2 w3 ∧ Hid (IntsV w3 (.slice uo (allL lo rs).length uc) (allL lo rs))) := hall
      have HBx : Hid (∀ w4, Below wr.heap.size wr w4 → Bw w4 (w1.heap.size + 1) (.slice la2 lo.length lc2) (.slice ra2 rs.length rc2)) := fun w4 h => hbx.later h
      have HSm : Hid (q % 7 ≠ 0 → (allL lo rs).length = q ∧ ∀ (va vb : Value) (w2 : World), IntsV w2 va (up ks) → IntsV w2 vb (allL lo rs) → Calls Try.prog 14 #[va, vb] w2 fun e w' => e = .returned (.bool true) ∧ ∃ n, w' = w2.drewN n) := fun h7 => by
        have hG' := hG
        rw [← hkl] at hG' h7
        have hd := hG'.done h7
        refine ⟨by rw [hd, up_length, hkl], fun va vb w2 h1 h2 => sameIntsK_true va vb (up ks) w2 (by rw [up_length]; omega) h1 (by rw [hd] at h2; exact h2)⟩
      generalize lo.length = m2 at *
      generalize rs.length = nr at *
      generalize allL lo rs = al2 at *
      generalize al2.length = an at *
      obtain ⟨hB1, hcc⟩ := HB0.out wr hB
      obtain ⟨_, d0, d1⟩ := id hcc
      have hal := HAll.out wr hB1
      clear hall hG HG hA hxN hyX hbx hkl
      have tk1 := True.intro
      have tk2 := True.intro
      by_cases h7 : q % 7 = 0
      · have h7i : (q : Int) % 7 = 0 := by omega
        have h7t : (q : Int).tmod 7 = 0 := by rw [Int.tmod_eq_emod_of_nonneg (by omega)]; exact h7i
        rcases Nat.eq_zero_or_pos q with h0 | h0
        · have h0l : ln = 0 := HK0.out.1 h0
          subst h0 h0l
          go_wp2_with (first | (clear tk1; go_at_call 11; refine hal.mono ?_; rintro e w3 ⟨uo, uc, rfl, hb3, hu3⟩; obtain ⟨⟨_, p0, p1⟩, _, _⟩ := HBx.out _ hb3; have hal2 := HAl2.out _ hb3) | (clear tk2; go_at_call 11; refine hal2.mono ?_; rintro e w4 ⟨uo2, uc2, rfl, hb4, hu4⟩))
          go_ret
          exact ⟨rfl, (hb1.trans (hB1.mono hb1.size)).trans ((hb3.trans (hb4.mono hb3.size)).mono (hb1.trans (hB1.mono hb1.size)).size)⟩
        · have h0l : ¬ ln = 0 := fun h => by have := HK0.out.2 h; omega
          have h0i : ¬ (ln : Int) = 0 := by omega
          have h0q : ¬ (q : Int) = 0 := by omega
          have h0r : ¬ q = 0 := by omega
          go_wp2_with (first | (clear tk1; go_at_call 11; refine hal.mono ?_; rintro e w3 ⟨uo, uc, rfl, hb3, hu3⟩; obtain ⟨⟨_, p0, p1⟩, _, _⟩ := HBx.out _ hb3; have hal2 := HAl2.out _ hb3) | (clear tk2; go_at_call 11; refine hal2.mono ?_; rintro e w4 ⟨uo2, uc2, rfl, hb4, hu4⟩))
          go_ret
          exact ⟨by simp [beq_false_of_ne h0i, beq_false_of_ne h0q], (hb1.trans (hB1.mono hb1.size)).trans ((hb3.trans (hb4.mono hb3.size)).mono (hb1.trans (hB1.mono hb1.size)).size)⟩
      · have h7i : ¬ (q : Int) % 7 = 0 := by omega
        have h7t : ¬ (q : Int).tmod 7 = 0 := by rw [Int.tmod_eq_emod_of_nonneg (by omega)]; exact h7i
        obtain ⟨han, hsame⟩ := HSm.out h7
        subst han
        have HSm2 : Hid (∀ (va vb : Value) (w2 : World), IntsV w2 va (up ks) → IntsV w2 vb al2 → Calls Try.prog 14 #[va, vb] w2 fun e w' => e = .returned (.bool true) ∧ ∃ n, w' = w2.drewN n) := hsame
        have h0 : 0 < an := by rcases Nat.eq_zero_or_pos an with h | h; · subst h; simp at h7
                               · exact h
        have h0l : ¬ ln = 0 := fun h => by have := HK0.out.2 h; omega
        have h0i : ¬ (ln : Int) = 0 := by omega
        have h0q : ¬ (an : Int) = 0 := by omega
        have h0r : ¬ an = 0 := by omega
        clear hsame
        go_wp2_with (first | (clear tk1; go_at_call 11; refine hal.mono ?_; rintro e w3 ⟨uo, uc, rfl, hb3, hu3⟩; obtain ⟨⟨_, p0, p1⟩, _, _⟩ := HBx.out _ hb3; have hal2 := HAl2.out _ hb3) | (clear tk2; go_at_call 11; refine hal2.mono ?_; rintro e w4 ⟨uo2, uc2, rfl, hb4, hu4⟩; have hsm := HSm2.out _ _ w4 (hu3.out.below hb4) hu4.out) | (go_at_call 14; refine hsm.mono ?_; rintro e w5 ⟨rfl, qq, rfl⟩))
        go_ret
        exact ⟨by simp [beq_false_of_ne h0i, beq_false_of_ne h0q], below_drewN ((hb1.trans (hB1.mono hb1.size)).trans ((hb3.trans (hb4.mono hb3.size)).mono (hb1.trans (hB1.mono hb1.size)).size)) _⟩

set_option maxRecDepth 20000 in
theorem storeTurns_contract (H : Type) (enc : TypeId × Value → H) (W : World) (base : Nat) (args : Array Value) (ds gs : List (DataW H)) (before : List MemPlace)
    (hval : ∀ (j : Nat) t v, Try.f4.params[j]? = some t → args[j]? = some v → Value.okWide Try.prog W .any base t v)
    (hW : DataW.Whole enc Try.prog Try.f4.params.toList Rows.storeTurnsSpec.vars false W args.toList ds gs before)
    (hsz0 : (DataW.weightsEach Try.prog (Try.f4.params.toList ++ (OpenSpec.ofChange Rows.storeTurnsSpec).bare.plain.varTypes Try.prog) (ds ++ gs)).all (· ≤ reachBytes) = true)
    (_hL : laidMetH Try.prog Rows.storeTurnsRow.laid W) :
    Calls Try.prog 4 args W fun e W' => ∃ v, e = .returned v ∧ Rows.storeTurnsSpec.post enc Try.prog Try.f4 false true false false W args v W' := by
  have hW' := hW
  obtain ⟨p, q, hA0, hV, rfl, hfz, hnd⟩ := hW
  have hA : DataW.TrodAll enc Try.prog W 0 (fun _ => true) true Try.f4.params.toList args.toList ds p := hA0
  rw [Try.params4] at hA hval
  obtain ⟨v0, vs0, d0, ds0, p0, q0, hargs, rfl, rfl, h0, r0⟩ := trodAll_cons hA
  obtain ⟨v1, vs1, d1, ds1, p1, q1, rfl, rfl, rfl, h1, r1⟩ := trodAll_cons r0
  obtain ⟨rfl, rfl, rfl⟩ := trodAll_nil r1
  obtain rfl : args = #[v0, v1] := by cases args; simp_all
  obtain ⟨rfl, rfl⟩ := trodVars_none hV
  have hsz : (DataW.weightsEach Try.prog [22, 3] [d0, d1]).all (· ≤ reachBytes) = true := hsz0
  obtain ⟨l, hV⟩ := open_raws (hval 0 22 v0 rfl rfl) h0 hsz (j := 0) rfl rfl
  obtain ⟨x, rfl, rfl, rfl, wf1⟩ := open_int Try.underlying3 (hval 1 3 v1 rfl rfl) h1
  refine (storeTurns_walk v0 l x W (bounds_i64 wf1) hV).mono fun e W' ⟨he, hb⟩ => ⟨_, he, ?_⟩
  refine law_post (fun t ht => ?_) rfl (by kernel_rfl) hW' rfl rfl rfl hb
  rw [Try.params4] at ht
  simp only [List.mem_cons, List.not_mem_nil, or_false] at ht
  rcases ht with rfl | rfl
  · exact ⟨by kernel_rfl, of_decide_eq_true (by kernel_rfl)⟩
  · exact ⟨by kernel_rfl, of_decide_eq_true (by kernel_rfl)⟩

/-- A WORLD FOR THE WITNESS: the settled one. -/
noncomputable def storeTurnsWorld (os : Os) : World := World.holding Try.prog os ⟨#[], #[], []⟩
set_option maxRecDepth 20000 in
theorem storeTurns_met (os : Os) : laidMet Try.prog Rows.storeTurnsRow.laid ((storeTurnsWorld os).forCall (fun _ _ => 0) ⟨#[], #[.slice none 0 0, .int .i64 0], []⟩).memory :=
  laidMet_of_run' 8 (by kernel_rfl) (by kernel_rfl)
set_option maxRecDepth 20000 in
theorem storeTurns_reads (os : Os) {H : Type} (enc : TypeId × Value → H) : ∃ places, DataW.whole enc Try.prog ((storeTurnsWorld os).forCall (fun _ _ => 0) ⟨#[], #[.slice none 0 0, .int .i64 0], []⟩).memory Try.f4.params.toList Rows.storeTurnsSpec.vars false #[Value.slice none 0 0, .int .i64 0].toList 8 = some ([.nil, .lit (.int .i64 0)], [], places) :=
  ⟨[], by kernel_rfl⟩

set_option maxRecDepth 100000 in
theorem storeTurns_lifted (os : Os) (started : os.Started) (H : Type) (enc : TypeId × Value → H) (F : Stop.Interp) :
    ReturnsInHanded {} Try.checked os 4 .any ((OpenSpec.ofChange Rows.storeTurnsSpec).preRow enc Try.prog Try.f4 Rows.storeTurnsRow.domain false Rows.storeTurnsRow.laid) (((OpenSpec.ofChange Rows.storeTurnsSpec).at F).post enc Try.prog Try.f4 false true false false) := by
  obtain ⟨places, hx⟩ := storeTurns_reads os enc
  refine returnsInHanded_of_row (C := Try.checked) (s := OpenSpec.ofChange Rows.storeTurnsSpec) own started (by kernel_rfl) Try.func4
    (witness_row_at (enc := enc) (C := Try.checked) false (storeTurnsWorld os) #[.slice none 0 0, .int .i64 0] rfl (by kernel_rfl) (by kernel_rfl) (by kernel_rfl)
      (OpenSpec.preRow_of_cond 8 hx (by kernel_rfl) (fun k hk => by cases hk) (by kernel_rfl) (storeTurns_met os))) ?_
  intro W base args ds gs before hval hW _ _ hsz hL _ _
  exact storeTurns_contract H enc W base args ds gs before hval hW hsz hL

set_option maxRecDepth 20000 in
theorem storeTurns_said : Rows.StoreTurnsSaid :=
  OpenClaim.holds_of_cond 4 Try.f4 rfl rfl rfl rfl rfl rfl rfl ⟨rfl, rfl, rfl, rfl, rfl⟩ rfl rfl rfl rfl rfl (by kernel_rfl) Try.func4 (by kernel_rfl)
    (of_decide_eq_true (by kernel_rfl)) (by unfold Func.isWrapper; first | (rw [if_pos (by decide +kernel)]; kernel_rfl) | (rw [if_neg (by decide +kernel)]; exact ⟨rfl, rfl⟩))
    (fun os started H enc _ F => by rw [OpenClaim.pre_eq_preRow]; exact storeTurns_lifted os started H enc F)

#print axioms storeTurns_said
end Go.Proofs.Ytncfkpfbjenpjaa
