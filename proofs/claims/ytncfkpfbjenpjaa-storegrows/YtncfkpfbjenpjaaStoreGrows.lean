/-
  Proved: foretellkeep.StoreGrows answers true at every two numbers (keys that rise make runs as a number's bits say). No condition.
-/
import Derived.Test.YtncfkpfbjenpjaaUMem
import Derived.Test.YtncfkpfbjenpjaaUGrow
namespace Go.Proofs.Ytncfkpfbjenpjaa
open Go.ChangeShapes Go.WideShapes Go.ChangeAt Go.RowKit Go.Deep

set_option maxHeartbeats 3200000 in
set_option maxRecDepth 20000 in
theorem storeGrows_walk (n x : Int) (w : World) (hn : I64 n) (hx : I64 x) :
    Calls Try.prog 7 #[.int .i64 n, .int .i64 x] w fun e w' => e = .returned (.bool true) ∧ Below w.heap.size w w' := by
  have hpn0 := fun w1 => picked_is n 200 w1 hn (by decide) (by decide)
  obtain ⟨hk0, hk1⟩ := pk_range (n := n) (m := 200) (by decide)
  obtain ⟨k, hkk⟩ : ∃ k : Nat, pk n 200 = (k : Int) := ⟨(pk n 200).toNat, by omega⟩
  have hpn : ∀ w1, Calls Try.prog 9 #[.int .i64 n, .int .i64 200] w1 fun e w' => e = .returned (.int .i64 k) ∧ w' = w1 := fun w1 => by rw [← hkk]; exact hpn0 w1
  have hpx := fun w1 => picked_is x 1000 w1 hx (by decide) (by decide)
  obtain ⟨hf0, hf1⟩ := pk_range (n := x) (m := 1000) (by decide)
  generalize pk x 1000 = f at *
  have hk200 : k < 200 := by omega
  clear hkk hpn0 hk0 hk1
  obtain ⟨W0, hW0⟩ : ∃ W0, W0 = w.alloc (.cells #[.slice none 0 0, .slice none 0 0] 25) := ⟨_, rfl⟩
  have HS0 : Hid (StAt W0 w.heap.size [] []) := by rw [hW0]; exact ⟨none, 0, none, 0, newBox w _, IntsN.nil _ _, LisX.nil _ _⟩
  have hb0 : Below w.heap.size w W0 := by rw [hW0]; exact (Below.refl _ _).alloc (Nat.le_refl _) _
  have tk1 := True.intro
  go_enter Try.func7, Try.ntmps7
  go_wp2_with (first | (clear tk1; go_at_call 9; refine (hpn _).mono ?_; rintro e w1 ⟨rfl, rfl⟩))
  rw [← hW0]
  clear hW0
  go_loopw [7, 8, 9, 10] (fun i z1 z2 z3 wr => ∃ q : Nat, q ≤ k ∧ i = .int .i64 q ∧ Hid (∃ lo rs, Gro f q lo rs ∧ StAt wr w1.heap.size lo rs) ∧ Below w1.heap.size w1 wr) (fun i _ _ _ _ => k - (intOf i).toNat)
  case atStart => exact ⟨0, Nat.zero_le _, rfl, ⟨[], [], Gro.nil f, HS0.out⟩, hb0⟩
  case round =>
    obtain ⟨q, hq, rfl, HG, hB⟩ := hrel
    obtain ⟨lo, rs, hG, hA⟩ := HG.out
    obtain ⟨la, lc, ra, rc, hbx, hxN, hyX⟩ := id hA
    obtain ⟨⟨hbl, c0, c1⟩, f0, f1⟩ := id hbx
    by_cases hqk : q < k
    · obtain ⟨hac, hG2⟩ := hG.add hf0 (by omega) (by omega : q < 200)
      have hadd := fun w2 (h : Below wr.heap.size wr w2) => add_any lo rs (f + (q : Int)) la ra lc rc w2 hG.stk.may.sz (hxN.v.below h) (hyX.v.below h)
      rw [hac] at hadd
      obtain ⟨⟨lo', rs'⟩, hls⟩ : ∃ r, addS lo rs (f + (q : Int)) = r := ⟨_, rfl⟩
      rw [hls] at hadd hG2
      simp only at hG2
      unfold AdPost at hadd
      simp only at hadd
      have HAd : Hid (∀ w2, Below wr.heap.size wr w2 → Calls Try.prog 13 #[.agg #[.slice la lo.length lc, .slice ra rs.length rc], .int .i64 (f + (q : Int))] w2 fun e w3 => ∃ xo xc yo yc, e = .returned (.tuple #[.agg #[.slice xo lo'.length xc, .slice yo rs'.length yc], .bool true, .int .i64 0]) ∧ Below w2.heap.size w2 w3 ∧ Hid (IntsN w3 w2.heap.size (.slice xo lo'.length xc) lo') ∧ Hid (LisX w3 w2.heap.size (.slice yo rs'.length yc) rs')) := hadd
      have HG2 : Hid (Gro f (q + 1) lo' rs') := hG2
      have HNx : Hid (∀ (w4 : World) (xo yo : Option Addr) (xc yc : Nat), Below wr.heap.size wr w4 → IntsN w4 wr.heap.size (.slice xo lo'.length xc) lo' → LisX w4 wr.heap.size (.slice yo rs'.length yc) rs' → StAt ((w4.setCell ⟨w1.heap.size, 0, none⟩ (.slice xo lo'.length xc)).setCell ⟨w1.heap.size, 1, none⟩ (.slice yo rs'.length yc)) w1.heap.size lo' rs') := fun w4 xo yo xc yc h1 h2 h3 => (hA.later h1).put (B := wr.heap.size) (by omega) h2 h3
      have HBx : Hid (∀ w4, Below wr.heap.size wr w4 → Bw w4 w1.heap.size (.slice la lo.length lc) (.slice ra rs.length rc)) := fun w4 h => hbx.later h
      have hsum : wrap64 (f + (q : Int)) = f + (q : Int) := IntWalk.wrap64_in _ (by omega)
      have hsum2 : IntKind.i64.wrap (f + (q : Int)) = f + (q : Int) := by rw [IntWalk.i64_left]; exact hsum
      generalize lo'.length = m' at *
      generalize rs'.length = n' at *
      generalize lo.length = m at *
      generalize rs.length = nr at *
      clear hadd hG2 hls hac hG HG hA hxN hyX hbx
      go_wp2_with fail
      go_cut [8, 9, 10] (fun u8 u9 u10 w' => ∃ B xo xc yo yc, u8 = .pointer (some ⟨B, 0, none⟩) ∧ u9 = .bool true ∧ u10 = .int .i64 0 ∧ Below wr.heap.size wr w' ∧ wr.heap.size ≤ B ∧ Bc w' B (.slice xo m' xc) (.slice yo n' yc) ∧ Hid (IntsN w' wr.heap.size (.slice xo m' xc) lo' ∧ LisX w' wr.heap.size (.slice yo n' yc) rs'))
      case first =>
        have hdr : Below wr.heap.size wr wr.drew := (Below.refl _ _).drew
        have hal : Below wr.heap.size wr (wr.alloc (.cells #[.slice none 0 0, .slice none 0 0] 25)).drew := ((Below.refl _ _).alloc (Nat.le_refl _) _).drew
        have hcB : Bw (wr.alloc (.cells #[.slice none 0 0, .slice none 0 0] 25)).drew wr.heap.size (.slice none 0 0) (.slice none 0 0) := (newBox wr 25).later ((Below.refl _ _).drew)
        have haA := HAd.out wr.drew hdr
        have haB := HAd.out (wr.alloc (.cells #[.slice none 0 0, .slice none 0 0] 25)).drew hal
        obtain ⟨⟨_, zA0, zA1⟩, _, _⟩ := HBx.out (wr.alloc (.cells #[.slice none 0 0, .slice none 0 0] 25)) ((Below.refl _ _).alloc (Nat.le_refl _) _)
        go_region_law (first
          | (go_simp; go_at_call 9; refine (hpx _).mono ?_; rintro e w2 ⟨rfl, rfl⟩)
          | (go_simp; go_at_call 13; refine haA.mono ?_; rintro e w3 ⟨xo, xc, yo, yc, rfl, hb3, hx3, hy3⟩; have hs3 := hdr.trans (hb3.mono hdr.size))
          | (go_simp; go_at_call 13; refine haB.mono ?_; rintro e w3 ⟨xo, xc, yo, yc, rfl, hb3, hx3, hy3⟩; have hs3 := hal.trans (hb3.mono hal.size); have kC := hcB.later hb3; have hlt3 := hcB.1.1; obtain ⟨⟨_, k0, k1⟩, f0', f1'⟩ := id kC))
        all_goals go_wp2_with fail
        all_goals go_meet
        all_goals first
          | exact ⟨_, xo, xc, yo, yc, rfl, rfl, rfl, hs3.alloc hs3.size _, hs3.size, (Bc.arg w3 _ _ _).2, hx3.out.below (Bc.arg w3 _ _ _).1, hy3.out.later (Bc.arg w3 _ _ _).1⟩
          | exact ⟨_, xo, xc, yo, yc, rfl, rfl, rfl, (hs3.setCell (p := ⟨wr.heap.size, 0, none⟩) (Nat.le_refl _) _).setCell (p := ⟨wr.heap.size, 1, none⟩) (Nat.le_refl _) _, Nat.le_refl _, kC.put _ _, (kC.intsN hx3.out _ _).mono hal.size, (kC.lisX hlt3 hy3.out _ _).mono hal.size⟩
      case rest =>
        obtain ⟨B, xo, xc, yo, yc, rfl, rfl, rfl, hs3, hBl, hd3, hv3⟩ := hcut
        obtain ⟨_, h0, h1⟩ := id hd3
        obtain ⟨⟨_, p0, p1⟩, g0, g1⟩ := HBx.out _ hs3
        have hst := HNx.out _ xo yo xc yc hs3 hv3.out.1 hv3.out.2
        have HSS := (show Hid _ from hst)
        have hB4 := ((hB.trans (hs3.mono hB.size)).setCell (p := ⟨w1.heap.size, 0, none⟩) (Nat.le_refl _) (.slice xo m' xc)).setCell (p := ⟨w1.heap.size, 1, none⟩) (Nat.le_refl _) (.slice yo n' yc)
        clear hst
        go_wp2_with fail
        go_roundw
        case rel => exact ⟨q + 1, by omega, by go_num, ⟨lo', rs', HG2.out, HSS.out⟩, hB4⟩
        case measure => simp [intOf]; omega
    · obtain rfl : q = k := by omega
      have hall := fun w2 (h : Below wr.heap.size wr w2) => all_any lo rs la ra lc rc w2 hG.stk.may.sz (hxN.v.below h) (hyX.v.below h)
      rw [hG.all, sC_ok hG.stk.may] at hall
      unfold AlPost at hall
      rw [risK_len] at hall
      have HAl : Hid (∀ w2, Below wr.heap.size wr w2 → Calls Try.prog 11 #[.agg #[.slice la lo.length lc, .slice ra rs.length rc]] w2 fun e w3 => ∃ uo uc, e = .returned (.tuple #[.slice uo q uc, .int .i64 0]) ∧ Below w2.heap.size w2 w3 ∧ Hid (IntsV w3 (.slice uo q uc) (risK f q))) := hall
      have HBx : Hid (∀ w4, Below wr.heap.size wr w4 → Bw w4 w1.heap.size (.slice la lo.length lc) (.slice ra rs.length rc)) := fun w4 h => hbx.later h
      have HRn : Hid (rs.length = onesN 8 (q / 8)) := hG.runs hk200
      generalize lo.length = m at *
      generalize rs.length = nr at *
      clear hall hG HG hA hxN hyX hbx
      go_wp2_with fail
      go_loopw [11, 12] (fun o i ws => ∃ (o1 i1 : Nat), o1 + i1 ≤ 200 ∧ o = .int .i64 o1 ∧ i = .int .i64 i1 ∧ Hid (OnesAt q i1 o1) ∧ ws = wr) (fun _ i _ => (intOf i).toNat)
      case atStart => exact ⟨0, q / 8, by omega, rfl, by go_num, OnesAt.start hk200, rfl⟩
      case round =>
        obtain ⟨o1, i1, ho1, rfl, rfl, HO, rfl⟩ := hrel
        by_cases hi0 : 0 < i1
        · have HO2 : Hid (OnesAt q (i1 / 2) (o1 + i1 % 2)) := HO.out.step hi0
          have hi0' : (0 : Int) < (i1 : Int) := by omega
          clear HO
          go_wp2_with fail
          go_roundw
          case rel => exact ⟨o1 + i1 % 2, i1 / 2, by omega, by go_num, by go_num, HO2, by trivial⟩
          case measure => simp [intOf]; omega
        · obtain rfl : i1 = 0 := by omega
          have hon : nr = o1 := HRn.out.trans HO.out.done.symm
          subst hon
          clear HO HRn
          have hal := HAl.out _ (Below.refl _ _)
          go_wp2_with (first | (go_at_call 11; refine hal.mono ?_; rintro e w3 ⟨uo, uc, rfl, hb3, hu3⟩; obtain ⟨⟨_, p0, p1⟩, _, _⟩ := HBx.out _ hb3))
          rcases Nat.eq_zero_or_pos q with h0 | h0
          · subst h0
            go_wp2_with fail
            go_quiet (first | (go_at_call 9; exact Calls.quiet_of_same (hpx _)))
            go_wp2_with fail
            go_ret
            exact ⟨rfl, below_drewN (hB.trans (hb3.mono hB.size)) _⟩
          · obtain ⟨b, off, rfl, _, _, hat⟩ := hu3.out.at (i := 0) (by rw [risK_len]; exact h0)
            have e0 := hat 0 (by rw [risK_len]; exact h0)
            obtain ⟨p, hp⟩ : ∃ p, p + 1 = q := ⟨q - 1, by omega⟩
            have e1 := hat p (by rw [risK_len]; omega)
            rw [risK_at h0] at e0
            rw [risK_at (by omega : p < q)] at e1
            rw [Nat.add_zero] at e0
            have e0' : (f + ((0 : Nat) : Int)) = f := by omega
            rw [e0'] at e0
            have i0 : ¬ (q : Int) = 0 := by omega
            have i0n : ¬ q = 0 := by omega
            have i0p : (0 : Int) < (q : Int) := by omega
            have i2 : (p : Int) < (q : Int) := by omega
            have i4 : (q : Int) - 1 = (p : Int) := by omega
            have i5 : IntKind.i64.wrap ((q : Int) - 1) = (p : Int) := by rw [i4, IntWalk.i64_left]; exact IntWalk.wrap64_in _ (by omega)
            have i6 : wrap64 ((q : Int) - 1) = (p : Int) := by rw [i4]; exact IntWalk.wrap64_in _ (by omega)
            have j1 : wrap64 (f + (q : Int)) = f + (q : Int) := IntWalk.wrap64_in _ (by omega)
            have j2 : IntKind.i64.wrap (f + (q : Int)) = f + (q : Int) := by rw [IntWalk.i64_left]; exact j1
            have j3 : wrap64 (f + (q : Int) - 1) = f + (p : Int) := by rw [show f + (q : Int) - 1 = f + (p : Int) by omega]; exact IntWalk.wrap64_in _ (by omega)
            have j4 : IntKind.i64.wrap (f + (q : Int) - 1) = f + (p : Int) := by rw [IntWalk.i64_left]; exact j3
            clear hat hp i4 e0' hu3
            go_wp2_with fail
            go_quiet (first | (go_at_call 9; exact Calls.quiet_of_same (hpx _)))
            go_wp2_with fail
            go_ret
            exact ⟨rfl, below_drewN (hB.trans (hb3.mono hB.size)) _⟩

set_option maxRecDepth 20000 in
theorem storeGrows_contract (H : Type) (enc : TypeId × Value → H) (W : World) (base : Nat) (args : Array Value) (ds gs : List (DataW H)) (before : List MemPlace)
    (hval : ∀ (j : Nat) t v, Try.f7.params[j]? = some t → args[j]? = some v → Value.okWide Try.prog W .any base t v)
    (hW : DataW.Whole enc Try.prog Try.f7.params.toList Rows.storeGrowsSpec.vars false W args.toList ds gs before)
    (hsz0 : (DataW.weightsEach Try.prog (Try.f7.params.toList ++ (OpenSpec.ofChange Rows.storeGrowsSpec).bare.plain.varTypes Try.prog) (ds ++ gs)).all (· ≤ reachBytes) = true)
    (_hL : laidMetH Try.prog Rows.storeGrowsRow.laid W) :
    Calls Try.prog 7 args W fun e W' => ∃ v, e = .returned v ∧ Rows.storeGrowsSpec.post enc Try.prog Try.f7 false true false false W args v W' := by
  have hW' := hW
  obtain ⟨p, q, hA0, hV, rfl, hfz, hnd⟩ := hW
  have hA : DataW.TrodAll enc Try.prog W 0 (fun _ => true) true Try.f7.params.toList args.toList ds p := hA0
  rw [Try.params7] at hA hval
  obtain ⟨v0, vs0, d0, ds0, p0, q0, hargs, rfl, rfl, h0, r0⟩ := trodAll_cons hA
  obtain ⟨v1, vs1, d1, ds1, p1, q1, rfl, rfl, rfl, h1, r1⟩ := trodAll_cons r0
  obtain ⟨rfl, rfl, rfl⟩ := trodAll_nil r1
  obtain rfl : args = #[v0, v1] := by cases args; simp_all
  obtain ⟨rfl, rfl⟩ := trodVars_none hV
  have hsz : (DataW.weightsEach Try.prog [3, 3] [d0, d1]).all (· ≤ reachBytes) = true := hsz0
  obtain ⟨n, rfl, rfl, rfl, wf0⟩ := open_int Try.underlying3 (hval 0 3 v0 rfl rfl) h0
  obtain ⟨x, rfl, rfl, rfl, wf1⟩ := open_int Try.underlying3 (hval 1 3 v1 rfl rfl) h1
  refine (storeGrows_walk n x W (bounds_i64 wf0) (bounds_i64 wf1)).mono fun e W' ⟨he, hb⟩ => ⟨_, he, ?_⟩
  refine law_post (fun t ht => ?_) rfl (by kernel_rfl) hW' rfl rfl rfl hb
  rw [Try.params7] at ht
  simp only [List.mem_cons, List.not_mem_nil, or_false] at ht
  rcases ht with rfl | rfl
  · exact ⟨by kernel_rfl, of_decide_eq_true (by kernel_rfl)⟩
  · exact ⟨by kernel_rfl, of_decide_eq_true (by kernel_rfl)⟩

/-- A WORLD FOR THE WITNESS: the settled one. -/
noncomputable def storeGrowsWorld (os : Os) : World := World.holding Try.prog os ⟨#[], #[], []⟩
set_option maxRecDepth 20000 in
theorem storeGrows_met (os : Os) : laidMet Try.prog Rows.storeGrowsRow.laid ((storeGrowsWorld os).forCall (fun _ _ => 0) ⟨#[], #[.int .i64 0, .int .i64 0], []⟩).memory :=
  laidMet_of_run' 8 (by kernel_rfl) (by kernel_rfl)
set_option maxRecDepth 20000 in
theorem storeGrows_reads (os : Os) {H : Type} (enc : TypeId × Value → H) : ∃ places, DataW.whole enc Try.prog ((storeGrowsWorld os).forCall (fun _ _ => 0) ⟨#[], #[.int .i64 0, .int .i64 0], []⟩).memory Try.f7.params.toList Rows.storeGrowsSpec.vars false #[Value.int .i64 0, .int .i64 0].toList 8 = some ([.lit (.int .i64 0), .lit (.int .i64 0)], [], places) :=
  ⟨[], by kernel_rfl⟩

set_option maxRecDepth 100000 in
theorem storeGrows_lifted (os : Os) (started : os.Started) (H : Type) (enc : TypeId × Value → H) (F : Stop.Interp) :
    ReturnsInHanded {} Try.checked os 7 .any ((OpenSpec.ofChange Rows.storeGrowsSpec).preRow enc Try.prog Try.f7 Rows.storeGrowsRow.domain false Rows.storeGrowsRow.laid) (((OpenSpec.ofChange Rows.storeGrowsSpec).at F).post enc Try.prog Try.f7 false true false false) := by
  obtain ⟨places, hx⟩ := storeGrows_reads os enc
  refine returnsInHanded_of_row (C := Try.checked) (s := OpenSpec.ofChange Rows.storeGrowsSpec) own started (by kernel_rfl) Try.func7
    (witness_row_at (enc := enc) (C := Try.checked) false (storeGrowsWorld os) #[.int .i64 0, .int .i64 0] rfl (by kernel_rfl) (by kernel_rfl) (by kernel_rfl)
      (OpenSpec.preRow_of_cond 8 hx (by kernel_rfl) (fun k hk => by cases hk) (by kernel_rfl) (storeGrows_met os))) ?_
  intro W base args ds gs before hval hW _ _ hsz hL _ _
  exact storeGrows_contract H enc W base args ds gs before hval hW hsz hL

set_option maxRecDepth 20000 in
theorem storeGrows_said : Rows.StoreGrowsSaid :=
  OpenClaim.holds_of_cond 7 Try.f7 rfl rfl rfl rfl rfl rfl rfl ⟨rfl, rfl, rfl, rfl, rfl⟩ rfl rfl rfl rfl rfl (by kernel_rfl) Try.func7 (by kernel_rfl)
    (of_decide_eq_true (by kernel_rfl)) (by unfold Func.isWrapper; first | (rw [if_pos (by decide +kernel)]; kernel_rfl) | (rw [if_neg (by decide +kernel)]; exact ⟨rfl, rfl⟩))
    (fun os started H enc _ F => by rw [OpenClaim.pre_eq_preRow]; exact storeGrows_lifted os started H enc F)

#print axioms storeGrows_said
end Go.Proofs.Ytncfkpfbjenpjaa
