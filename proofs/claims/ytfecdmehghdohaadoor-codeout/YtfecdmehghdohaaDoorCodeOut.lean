/-
  Proved: foretellkeep.CodeOut answers true at every design and every two numbers (values out of their bounds are no state; the first state is one), given that the table polish.partCounts reads as its initialiser lays it, which the card ties to the program's text. No other condition.
-/
import Derived.Test.YtfecdmehghdohaaDoorCards
import Derived.Test.YtfecdmehghdohaaDoorTie
import Derived.Test.YtfecdmehghdohaaDoorRow
import Derived.Test.YtfecdmehghdohaaDoorKeepDesign
namespace Go.Proofs.YtfecdmehghdohaaDoor
open Go.ChangeShapes Go.WideShapes Go.ChangeAt Go.RowKit Go.Deep
open Terms Tm

set_option maxHeartbeats 3200000 in
set_option maxRecDepth 20000 in
theorem codeOut_walk (c0 c1 c2 c3 c4 c5 c6 : Value) (a b : Vr) (x y : Int) (w : World) (hB : 0 < w.heap.size) (hT : TabAt w) (hG : GV a b) (hx : I64 x) (hy : I64 y)
    (hmd : ∀ w', Below w.heap.size w w' → Calls Tryd.prog 8 #[.agg #[c0, c1, c2, c3, c4, c5, c6]] w' fun e w2 => ∃ va vr, e = .returned (.agg #[va, vr]) ∧ Below w'.heap.size w' w2 ∧ GModel w2 va vr [a, b]) :
    Calls Tryd.prog 5 #[.agg #[c0, c1, c2, c3, c4, c5, c6], .int .i64 x, .int .i64 y] w fun e w' => e = .returned (.bool true) ∧ Below w.heap.size w w' := by
  have HT : Hid (∀ w', Below w.heap.size w w' → 0 < w'.heap.size ∧ TabAt w') := fun w' hb => ⟨Nat.lt_of_lt_of_le hB hb.size, hT.below hb hB⟩
  have hA : ∀ o, Below w.heap.size w (w.alloc o) := fun o => (Below.refl _ _).alloc (Nat.le_refl _) o
  clear hB hT
  go_enter Tryd.func5, Tryd.ntmps5
  go_wp2_with (go_at_call 8; refine (hmd _ (hA _)).mono ?_; rintro e w1 ⟨va, vr, rfl, hb1, hM⟩; obtain ⟨ao, cap, ro, rn, rc, rfl, rfl, hrn⟩ := hM.shape)
  obtain ⟨hbW, hk⟩ := kept (a := a) (b := b) (t := 29) HT.out ((hA _).trans (hb1.mono (hA _).size)) hM rfl
  generalize w1.alloc (.cells #[.slice ao 2 cap, .slice ro rn rc] 29) = W2 at hbW hk ⊢
  have HK : Hid (∀ w', Below W2.heap.size W2 w' → (0 < w'.heap.size ∧ TabAt w' ∧ GModel w' (.slice ao 2 cap) (.slice ro rn rc) [a, b]) ∧ w'.cell? ⟨w1.heap.size, 0, none⟩ = some (.slice ao 2 cap) ∧ w'.cell? ⟨w1.heap.size, 1, none⟩ = some (.slice ro rn rc)) := hk
  have HBW : Hid (Below w.heap.size w W2) := hbW
  obtain ⟨⟨z0, z1, z2⟩, z3, z4⟩ := hk W2 (Below.refl _ _)
  have hfi := kfirst hG z0 z1 z2
  obtain ⟨hfr, hfv⟩ := first_in hG
  have hvl := fun w' (hb : Below W2.heap.size W2 w') => kvalues hG hfr (hk w' hb).1.1 (hk w' hb).1.2.1 (hk w' hb).1.2.2
  rw [hfv] at hvl
  generalize (a.ini - a.lo) * vspan b + (b.ini - b.lo) = c at hfi hfr hfv hvl
  obtain ⟨p, off, rfl, hp, hva, hvb⟩ := kvars z2
  have HV : Hid (∀ w', Below W2.heap.size W2 w' → VarAt w' p off a ∧ VarAt w' p (off + 4) b) := fun w' hb => ⟨hva.below hb hp, hvb.below hb hp⟩
  have hco := fun w' (hb : Below W2.heap.size W2 w') l vv (hl : ¬ (l.length = 2 ∧ (a.lo ≤ l.getD 0 0 ∧ l.getD 0 0 ≤ a.hi) ∧ b.lo ≤ l.getD 1 0 ∧ l.getD 1 0 ≤ b.hi)) (hI : IntsV w' vv l) => kcodes_out hG hl (hk w' hb).1.1 (hk w' hb).1.2.1 (hk w' hb).1.2.2 hI
  have HCO : Hid _ := hco
  have hpx := fun w => picked_is x 2 w hx (by omega) (by omega)
  have hxr := pk_range (n := x) (m := 2) (by omega)
  generalize pk x 2 = i at hpx hxr
  have hpy := fun w => picked_is y 100 w hy (by omega) (by omega)
  have hyr := pk_range (n := y) (m := 100) (by omega)
  generalize pk y 100 = j at hpy hyr
  have HG : Hid (GV a b) := hG
  clear hco hva hvb hk hbW hM hb1 hmd hx hy hG z0 z1 z2 hrn hfv hfr hA HT
  go_wp2_with (first | (go_at_call 14; refine hfi.mono ?_; rintro e w3 ⟨rfl, hb3⟩; obtain ⟨k30, k31⟩ := (HK.out w3 hb3).2) | (go_at_call_of 11 c; refine (hvl _ hb3).mono ?_; rintro e w4 ⟨B, rfl, hB4, hb4, hr4⟩; have hb24 := hb3.trans (hb4.mono hb3.size); obtain ⟨k40, k41⟩ := (HK.out w4 hb24).2; obtain ⟨⟨a0, a1, a2, a3⟩, b0, b1, b2, b3⟩ := HV.out w4 hb24; have e0 := hr4.cell (i := 0) (by omega); have e1 := hr4.cell (i := 1) (by omega); simp only [List.getD_cons_zero, List.getD_cons_succ] at e0 e1))
  have hBs : W2.heap.size ≤ B := Nat.le_trans hb3.size hB4
  clear k30 k31 hb4 hB4 z3 z4 hfi hvl hb3
  go_region
  all_goals go_wp2_with (go_at_call_of 10 x; refine (hpx _).mono ?_; rintro e w9 ⟨rfl, rfl⟩)
  have hga : (-1 ≤ a.lo ∧ a.lo ≤ 1) ∧ -1 ≤ a.hi ∧ a.hi ≤ 4 := by have h := HG.out; obtain ⟨na, nb, p0, p1, p2, p3, p4, p5, q0, q1, q2, q3, q4, q5⟩ := h; omega
  have hgb : (-1 ≤ b.lo ∧ b.lo ≤ 1) ∧ -1 ≤ b.hi ∧ b.hi ≤ 4 := by have h := HG.out; obtain ⟨na, nb, p0, p1, p2, p3, p4, p5, q0, q1, q2, q3, q4, q5⟩ := h; omega
  obtain ⟨⟨ga0, ga1⟩, ga2, ga3⟩ := hga
  obtain ⟨⟨gb0, gb1⟩, gb2, gb3⟩ := hgb
  obtain ⟨hj0, hj1⟩ := hyr
  have f0 := hr4.frozen 0
  have f1 := hr4.frozen 1
  have hBl := hr4.lt
  have hi : i = 0 ∨ i = 1 := by omega
  have HR4 : Hid _ := hr4
  clear hxr hr4 hpx
  rcases hi with rfl | rfl
  · go_region_with (go_at_call_of 10 y; refine (hpy _).mono ?_; rintro e w8 ⟨rfl, rfl⟩)
    all_goals
      obtain ⟨hb5, hr5⟩ := kstore (i := 0) (v := Value.int .i64 (IntKind.i64.wrap (IntKind.i64.wrap (a.hi + 1) + j))) hb24 hBs HR4.out
      generalize (w4.setCell ⟨B, 0, none⟩ (Value.int .i64 (IntKind.i64.wrap (IntKind.i64.wrap (a.hi + 1) + j)))).drew.drew = W5 at hb5 hr5 ⊢
      obtain ⟨k50, k51⟩ := (HK.out W5 hb5).2
      have hw1 : IntKind.i64.wrap (IntKind.i64.wrap (a.hi + 1) + j) = a.hi + 1 + j := by rw [wr64 (x := a.hi + 1) (by omega) (by omega), wr64 (by omega) (by omega)]
      have hI5 : IntsV W5 (.slice (some ⟨B, 0, none⟩) 2 2) [a.hi + 1 + j, b.ini] := kints hr5 (by simp [hw1]) (by simp)
      have hc5 := HCO.out W5 hb5 _ _ (by simp; omega) hI5
      have f5 := hr5.frozen 0
      have e5 := hr5.cell (i := 0) (by omega)
      have hBl5 := hr5.lt
      have HR5 : Hid _ := hr5
      clear hr5 hI5 a0 a1 a2 a3 b0 b1 b2 b3 e0 e1 f0 f1 k40 k41 hb24 HR4 hBl
      go_wp2_with (go_at_call 12; refine hc5.mono ?_; rintro e w6 ⟨x6, rfl, hb6⟩; have hb26 := hb5.trans (hb6.mono hb5.size); obtain ⟨k60, k61⟩ := (HK.out w6 hb26).2)
      obtain ⟨⟨a0, a1, a2, a3⟩, b0, b1, b2, b3⟩ := HV.out w6 hb26
      have hr6 := row_later HR5.out hb6
      have e6 := hr6.cell (i := 0) (by omega)
      have f6 := hr6.frozen 0
      have hBl6 := hr6.lt
      have HR6 : Hid _ := hr6
      clear hr6 hc5 k50 k51 f5 e5 hBl5 HR5 hb5 hb6
      go_region_with (go_at_call_of 10 y; refine (hpy _).mono ?_; rintro e w8 ⟨rfl, rfl⟩)
      all_goals
        obtain ⟨hb7, hr7⟩ := kstore1 (i := 0) (v := Value.int .i64 (IntKind.i64.wrap (IntKind.i64.wrap (a.lo - 1) - j))) hb26 hBs HR6.out
        generalize (w6.setCell ⟨B, 0, none⟩ (Value.int .i64 (IntKind.i64.wrap (IntKind.i64.wrap (a.lo - 1) - j)))).drew = W7 at hb7 hr7 ⊢
        obtain ⟨k70, k71⟩ := (HK.out W7 hb7).2
        have hw2 : IntKind.i64.wrap (IntKind.i64.wrap (a.lo - 1) - j) = a.lo - 1 - j := by rw [wr64 (x := a.lo - 1) (by omega) (by omega), wr64 (by omega) (by omega)]
        have hI7 : IntsV W7 (.slice (some ⟨B, 0, none⟩) 2 2) [a.lo - 1 - j, b.ini] := kints hr7 (by simp [hw2]) (by simp)
        have hc7 := HCO.out W7 hb7 _ _ (by simp; omega) hI7
        have HI7 : Hid (IntsV W7 (.slice (some ⟨B, 0, none⟩) 2 2) [a.lo - 1 - j, b.ini]) := hI7
        clear hr7 hI7 HR6 a0 a1 a2 a3 b0 b1 b2 b3 e6 f6 hBl6 k60 k61 hb26
        go_wp2_with (go_at_call 12; refine hc7.mono ?_; rintro e w8 ⟨x8, rfl, hb8⟩; have hb28 := hb7.trans (hb8.mono hb7.size); obtain ⟨k80, k81⟩ := (HK.out w8 hb28).2)
        have hc9 := HCO.out w8.drew hb28.drew _ (.slice (some ⟨B, 0, none⟩) 1 2) (by simp) (kone (HI7.out.below hb8.drew))
        clear hc7 hb8 HI7 k70 k71 hb7 hpy
        go_region_with (go_at_call 12; refine hc9.mono ?_; rintro e w10 ⟨x10, rfl, hb10⟩)
        all_goals go_wp2_with fail
        all_goals go_ret
        all_goals exact ⟨by first | rfl | simp, HBW.out.trans ((hb28.drew.trans (hb10.mono hb28.drew.size)).mono HBW.out.size)⟩
  · go_region_with (go_at_call_of 10 y; refine (hpy _).mono ?_; rintro e w8 ⟨rfl, rfl⟩)
    all_goals
      obtain ⟨hb5, hr5⟩ := kstore (i := 1) (v := Value.int .i64 (IntKind.i64.wrap (IntKind.i64.wrap (b.hi + 1) + j))) hb24 hBs HR4.out
      generalize (w4.setCell ⟨B, 1, none⟩ (Value.int .i64 (IntKind.i64.wrap (IntKind.i64.wrap (b.hi + 1) + j)))).drew.drew = W5 at hb5 hr5 ⊢
      obtain ⟨k50, k51⟩ := (HK.out W5 hb5).2
      have hw1 : IntKind.i64.wrap (IntKind.i64.wrap (b.hi + 1) + j) = b.hi + 1 + j := by rw [wr64 (x := b.hi + 1) (by omega) (by omega), wr64 (by omega) (by omega)]
      have hI5 : IntsV W5 (.slice (some ⟨B, 0, none⟩) 2 2) [a.ini, b.hi + 1 + j] := kints hr5 (by simp) (by simp [hw1])
      have hc5 := HCO.out W5 hb5 _ _ (by simp; omega) hI5
      have f5 := hr5.frozen 1
      have e5 := hr5.cell (i := 1) (by omega)
      have hBl5 := hr5.lt
      have HR5 : Hid _ := hr5
      clear hr5 hI5 a0 a1 a2 a3 b0 b1 b2 b3 e0 e1 f0 f1 k40 k41 hb24 HR4 hBl
      go_wp2_with (go_at_call 12; refine hc5.mono ?_; rintro e w6 ⟨x6, rfl, hb6⟩; have hb26 := hb5.trans (hb6.mono hb5.size); obtain ⟨k60, k61⟩ := (HK.out w6 hb26).2)
      obtain ⟨⟨a0, a1, a2, a3⟩, b0, b1, b2, b3⟩ := HV.out w6 hb26
      have hr6 := row_later HR5.out hb6
      have e6 := hr6.cell (i := 1) (by omega)
      have f6 := hr6.frozen 1
      have hBl6 := hr6.lt
      have HR6 : Hid _ := hr6
      clear hr6 hc5 k50 k51 f5 e5 hBl5 HR5 hb5 hb6
      go_region_with (go_at_call_of 10 y; refine (hpy _).mono ?_; rintro e w8 ⟨rfl, rfl⟩)
      all_goals
        obtain ⟨hb7, hr7⟩ := kstore1 (i := 1) (v := Value.int .i64 (IntKind.i64.wrap (IntKind.i64.wrap (b.lo - 1) - j))) hb26 hBs HR6.out
        generalize (w6.setCell ⟨B, 1, none⟩ (Value.int .i64 (IntKind.i64.wrap (IntKind.i64.wrap (b.lo - 1) - j)))).drew = W7 at hb7 hr7 ⊢
        obtain ⟨k70, k71⟩ := (HK.out W7 hb7).2
        have hw2 : IntKind.i64.wrap (IntKind.i64.wrap (b.lo - 1) - j) = b.lo - 1 - j := by rw [wr64 (x := b.lo - 1) (by omega) (by omega), wr64 (by omega) (by omega)]
        have hI7 : IntsV W7 (.slice (some ⟨B, 0, none⟩) 2 2) [a.ini, b.lo - 1 - j] := kints hr7 (by simp) (by simp [hw2])
        have hc7 := HCO.out W7 hb7 _ _ (by simp; omega) hI7
        have HI7 : Hid (IntsV W7 (.slice (some ⟨B, 0, none⟩) 2 2) [a.ini, b.lo - 1 - j]) := hI7
        clear hr7 hI7 HR6 a0 a1 a2 a3 b0 b1 b2 b3 e6 f6 hBl6 k60 k61 hb26
        go_wp2_with (go_at_call 12; refine hc7.mono ?_; rintro e w8 ⟨x8, rfl, hb8⟩; have hb28 := hb7.trans (hb8.mono hb7.size); obtain ⟨k80, k81⟩ := (HK.out w8 hb28).2)
        have hc9 := HCO.out w8.drew hb28.drew _ (.slice (some ⟨B, 0, none⟩) 1 2) (by simp) (kone (HI7.out.below hb8.drew))
        clear hc7 hb8 HI7 k70 k71 hb7 hpy
        go_region_with (go_at_call 12; refine hc9.mono ?_; rintro e w10 ⟨x10, rfl, hb10⟩)
        all_goals go_wp2_with fail
        all_goals go_ret
        all_goals exact ⟨by first | rfl | simp, HBW.out.trans ((hb28.drew.trans (hb10.mono hb28.drew.size)).mono HBW.out.size)⟩

theorem codeOut_contract (H : Type) (enc : TypeId × Value → H) (W : World) (base : Nat) (args : Array Value) (ds gs : List (DataW H)) (before : List MemPlace)
    (hval : ∀ (j : Nat) t v, Tryd.f5.params[j]? = some t → args[j]? = some v → Value.okWide Tryd.prog W .any base t v)
    (hW : DataW.Whole enc Tryd.prog Tryd.f5.params.toList Rows.codeOutSpec.vars false W args.toList ds gs before)
    (hsz0 : (DataW.weightsEach Tryd.prog (Tryd.f5.params.toList ++ (OpenSpec.ofChange Rows.codeOutSpec).bare.plain.varTypes Tryd.prog) (ds ++ gs)).all (· ≤ reachBytes) = true)
    (hL : laidMetH Tryd.prog Rows.codeOutRow.laid W) :
    Calls Tryd.prog 5 args W fun e W' => ∃ v, e = .returned v ∧ Rows.codeOutSpec.post enc Tryd.prog Tryd.f5 false true false false W args v W' := by
  have hW' := hW
  obtain ⟨p, q, hA0, hV, rfl, hfz, hnd⟩ := hW
  have hA : DataW.TrodAll enc Tryd.prog W 0 (fun _ => true) true Tryd.f5.params.toList args.toList ds p := hA0
  rw [Tryd.params5] at hA hval
  obtain ⟨v0, vs0, d0, ds0, p0, q0, hargs, rfl, rfl, h0, r0⟩ := trodAll_cons hA
  obtain ⟨v1, vs1, d1, ds1, p1, q1, rfl, rfl, rfl, h1, r1⟩ := trodAll_cons r0
  obtain ⟨v2, vs2, d2, ds2, p2, q2, rfl, rfl, rfl, h2, r2⟩ := trodAll_cons r1
  obtain ⟨rfl, rfl, rfl⟩ := trodAll_nil r2
  obtain rfl : args = #[v0, v1, v2] := by cases args; simp_all
  obtain ⟨rfl, rfl⟩ := trodVars_none hV
  have hsz : (DataW.weightsEach Tryd.prog [25, 3, 3] [d0, d1, d2]).all (· ≤ reachBytes) = true := hsz0
  obtain ⟨vars, hD⟩ := open_design (hval 0 25 v0 rfl rfl) h0 hsz (j := 0) rfl rfl
  obtain ⟨c0, c1, c2, c3, c4, c5, c6, a, b, rfl, hG, hmd⟩ := design_model hD
  obtain ⟨x, rfl, rfl, rfl, wf1⟩ := open_int Tryd.underlying3 (hval 1 3 v1 rfl rfl) h1
  obtain ⟨y, rfl, rfl, rfl, wf2⟩ := open_int Tryd.underlying3 (hval 2 3 v2 rfl rfl) h2
  have hT := tabAt hL
  refine (codeOut_walk c0 c1 c2 c3 c4 c5 c6 a b x y W (tab_size hT) hT hG (bounds_i64 wf1) (bounds_i64 wf2) hmd).mono fun e W' ⟨he, hb⟩ => ⟨_, he, ?_⟩
  refine law_post (fun t ht => ?_) rfl (by kernel_rfl) hW' rfl rfl rfl hb
  rw [Tryd.params5] at ht
  simp only [List.mem_cons, List.not_mem_nil, or_false] at ht
  rcases ht with rfl | rfl | rfl
  · exact ⟨by kernel_rfl, of_decide_eq_true (by kernel_rfl)⟩
  · exact ⟨by kernel_rfl, of_decide_eq_true (by kernel_rfl)⟩
  · exact ⟨by kernel_rfl, of_decide_eq_true (by kernel_rfl)⟩

/-- A WORLD FOR THE WITNESS: the settled one, the table (block 0) holding what its initialiser lays. -/
noncomputable def codeOutWorld (os : Os) : World :=
  { World.holding Tryd.prog os ⟨#[], #[], []⟩ with heap := (World.holding Tryd.prog os ⟨#[], #[], []⟩).heap.modify 0 fun
      | .cells _ t frozen => .cells #[.int .i64 0, .int .i64 0, .int .i64 0, .int .i64 2, .int .i64 2, .int .i64 2, .int .i64 2, .int .i64 2, .int .i64 2, .int .i64 2, .int .i64 1, .int .i64 0, .int .i64 0, .int .i64 0, .int .i64 1, .int .i64 2, .int .i64 2, .int .i64 1, .int .i64 1] t frozen
      | o => o }
theorem codeOut_met (os : Os) : laidMet Tryd.prog Rows.codeOutRow.laid ((codeOutWorld os).forCall (fun _ _ => 0) ⟨#[], #[.agg #[.int .i64 0, .int .i64 0, .int .i64 0, .int .i64 0, .int .i64 0, .int .i64 0, .slice none 0 0], .int .i64 0, .int .i64 0], []⟩).memory :=
  laidMet_of_run' 8 (by kernel_rfl) (by kernel_rfl)
theorem codeOut_reads (os : Os) {H : Type} (enc : TypeId × Value → H) : ∃ places, DataW.whole enc Tryd.prog ((codeOutWorld os).forCall (fun _ _ => 0) ⟨#[], #[.agg #[.int .i64 0, .int .i64 0, .int .i64 0, .int .i64 0, .int .i64 0, .int .i64 0, .slice none 0 0], .int .i64 0, .int .i64 0], []⟩).memory Tryd.f5.params.toList Rows.codeOutSpec.vars false #[Value.agg #[.int .i64 0, .int .i64 0, .int .i64 0, .int .i64 0, .int .i64 0, .int .i64 0, .slice none 0 0], .int .i64 0, .int .i64 0].toList 8 = some ([.agg [.agg [.lit (.int .i64 0), .lit (.int .i64 0)], .agg [.lit (.int .i64 0), .lit (.int .i64 0)], .agg [.lit (.int .i64 0), .lit (.int .i64 0)], .nil], .lit (.int .i64 0), .lit (.int .i64 0)], [], places) :=
  ⟨[], by kernel_rfl⟩

set_option maxRecDepth 100000 in
theorem codeOut_lifted (os : Os) (started : os.Started) (H : Type) (enc : TypeId × Value → H) (F : Stop.Interp) :
    ReturnsInHanded {} Tryd.checked os 5 .any ((OpenSpec.ofChange Rows.codeOutSpec).preRow enc Tryd.prog Tryd.f5 Rows.codeOutRow.domain false Rows.codeOutRow.laid) (((OpenSpec.ofChange Rows.codeOutSpec).at F).post enc Tryd.prog Tryd.f5 false true false false) := by
  obtain ⟨places, hx⟩ := codeOut_reads os enc
  refine returnsInHanded_of_row (C := Tryd.checked) (s := OpenSpec.ofChange Rows.codeOutSpec) own started (by kernel_rfl) Tryd.func5
    (witness_row_at (enc := enc) (C := Tryd.checked) false (codeOutWorld os) #[.agg #[.int .i64 0, .int .i64 0, .int .i64 0, .int .i64 0, .int .i64 0, .int .i64 0, .slice none 0 0], .int .i64 0, .int .i64 0] rfl (by kernel_rfl) (by kernel_rfl) (by kernel_rfl)
      (OpenSpec.preRow_of_cond 8 hx (by kernel_rfl) (fun k hk => by cases hk) (by kernel_rfl) (codeOut_met os))) ?_
  intro W base args ds gs before hval hW _ _ hsz hL _ _
  exact codeOut_contract H enc W base args ds gs before hval hW hsz hL

theorem codeOut_said : Rows.CodeOutSaid :=
  OpenClaim.holds_of_cond 5 Tryd.f5 rfl rfl rfl rfl rfl rfl rfl ⟨rfl, rfl, rfl, rfl, rfl⟩ rfl rfl rfl rfl rfl (by kernel_rfl) Tryd.func5 (by kernel_rfl)
    (of_decide_eq_true (by kernel_rfl)) (by unfold Func.isWrapper; first | (rw [if_pos (by decide +kernel)]; kernel_rfl) | (rw [if_neg (by decide +kernel)]; exact ⟨rfl, rfl⟩))
    (fun os started H enc _ F => by rw [OpenClaim.pre_eq_preRow]; exact codeOut_lifted os started H enc F)

theorem codeOut_plain (f : FuncId) (fn : Func) (hf : Tryd.pinned.checked.prog.funcNamed "foretell/foretellkeep.CodeOut" = some f) (hfn : Tryd.pinned.checked.prog.funcs[f]? = some fn) :
    true = Tryd.pinned.checked.prog.looks [] ∧ ∀ (j : Nat) t, fn.params[j]? = some t → Tryd.pinned.checked.prog.wantsStandIn t = false := by
  obtain rfl : f = 5 := Option.some.inj ((show Tryd.prog.funcNamed "foretell/foretellkeep.CodeOut" = some 5 by kernel_rfl).symm.trans hf) |>.symm
  obtain rfl : fn = Tryd.f5 := (Option.some.inj (Tryd.func5.symm.trans hfn)).symm
  refine ⟨by kernel_rfl, fun j t ht => ?_⟩
  rw [Tryd.params5] at ht
  have ht' := Array.mem_of_getElem? ht
  simp only [List.mem_toArray, List.mem_cons, List.not_mem_nil, or_false] at ht'
  rcases ht' with rfl | rfl | rfl
  · exact (show Tryd.prog.wantsStandIn 25 = false by kernel_rfl)
  · exact (show Tryd.prog.wantsStandIn 3 = false by kernel_rfl)
  · exact (show Tryd.prog.wantsStandIn 3 = false by kernel_rfl)

/-- THE CARD. -/
theorem codeOut_card : Rows.CodeOutCardSaid :=
  Claim7.holds_tied_plain_at .later [] _ _ _ _ codeOut_said (fun _ h => by cases h) (by kernel_rfl) (fun _ h => by cases h) codeOut_row_tie rfl ⟨rfl, rfl⟩ (by kernel_rfl) rfl codeOut_plain (by kernel_rfl)
#print axioms codeOut_card
end Go.Proofs.YtfecdmehghdohaaDoor
