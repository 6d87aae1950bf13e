/-
  The contract of scc.partsOf.
-/
import Derived.Test.YtknneajaklcjdaaTjMake
namespace Go.Proofs.Ytknneajaklcjdaa
open Go.ChangeShapes Go.WideShapes Go.ChangeAt Go.RowKit Go.Deep
open Terms

def madeA (s t b1 b2 b3 b4 b5 : Nat) : TA := ⟨s, t, b1, b2, b3, b4, b5⟩
/-- how the walk lies when it is made. -/
def made_ok (w w5 : World) (no : Option Addr) (n nc b bw bl bg bp : Nat) : Prop := TAOk (madeA w.heap.size w5.heap.size b bw bl bg bp) ∧ (madeA w.heap.size w5.heap.size b bw bl bg bp).s = w.heap.size ∧ TjW w w5 (madeA w.heap.size w5.heap.size b bw bl bg bp) (.slice no n nc) n (.slice none 0 0) (.slice none 0 0) [] [] (fun _ => 0) (fun _ => 0) (fun _ => 0) (fun _ => 0) 0
theorem PGood.ok {w W0 : World} {so no bo : Option Addr} {sc nc bn bc n : Nat} {gi gm : Int} {d : Nat → Bool} {r : Nat → Value} {β : Nat → Nat} {w5 : World} (h : PGood W0 w.heap.size so no bo sc nc bn bc n gi gm d r β w5) (hd : ∀ i, i < 12 → d i = true) (hs : W0.heap.size = w.heap.size + 1) (hb0 : Below w.heap.size w W0) : made_ok w w5 no n nc (β 10) (β 2) (β 4) (β 6) (β 8) := by
  have n2 := h.new 2 (by omega) (hd 2 (by omega))
  have n4 := h.new 4 (by omega) (hd 4 (by omega))
  have n6 := h.new 6 (by omega) (hd 6 (by omega))
  have n8 := h.new 8 (by omega) (hd 8 (by omega))
  have n10 := h.new 10 (by omega) (hd 10 (by omega))
  have hne := fun i j hi hj hij => h.ne i j hi hj hij (hd i (by omega)) (hd j (by omega))
  have hbox := h.d11 (hd 11 (by omega))
  have hc : ∀ j, w5.cell? ⟨β 10, j, none⟩ = (fullWalk so no bo sc nc bn bc n gi gm (β 2) (β 4) (β 6) (β 8))[j]? := fun j => by simp [World.cell?, hbox]
  have hf : ∀ j, w5.frozen? ⟨β 10, j, none⟩ = false := fun j => by simp [World.frozen?, hbox]
  refine ⟨⟨?_, ?_, ?_, ?_, ?_, ?_, ?_, ?_, ?_, ?_, ?_, ?_, ?_, ?_, ?_, ?_, ?_, ?_, ?_, ?_⟩, rfl, ⟨?_, ?_, hf, hc 2, hc 5, hc 6, hc 7, hc 8, hc 9, hc 10, hc 11, h.row 2 (by omega) (hd 2 (by omega)), h.row 4 (by omega) (hd 4 (by omega)), h.row 6 (by omega) (hd 6 (by omega)), h.row 8 (by omega) (hd 8 (by omega)), World.ownsRow_nil _ _ _ _, World.ownsRow_nil _ _ _ _, fun k hk => by cases hk⟩⟩
  all_goals show _
  all_goals simp only [madeA]
  · omega
  · omega
  · omega
  · omega
  · omega
  · omega
  · omega
  · omega
  · omega
  · omega
  · exact hne 10 2 (by omega) (by omega) (by omega)
  · exact hne 10 4 (by omega) (by omega) (by omega)
  · exact hne 10 6 (by omega) (by omega) (by omega)
  · exact hne 10 8 (by omega) (by omega) (by omega)
  · exact hne 2 4 (by omega) (by omega) (by omega)
  · exact hne 2 6 (by omega) (by omega) (by omega)
  · exact hne 2 8 (by omega) (by omega) (by omega)
  · exact hne 4 6 (by omega) (by omega) (by omega)
  · exact hne 4 8 (by omega) (by omega) (by omega)
  · exact hne 6 8 (by omega) (by omega) (by omega)
  · exact hb0.trans (h.below.mono (by omega))
  · exact Nat.le_refl _

set_option maxHeartbeats 12800000 in
set_option maxRecDepth 20000 in
/-- THE CONTRACT OF partsOf. -/
theorem partsOf_any (so no bo : Option Addr) (sc nc bn bc : Nat) (gi gm : Int) (n : Nat) (nx : Nat → List Nat) (w : World) (hn : n ≤ 20000) (hnx : ∀ i, i < n → ∀ k ∈ nx i, k < n) (hxl : ∀ i, i < n → (nx i).length ≤ 140737488355328) (hR : NextRows w no n nx) :
    Calls Try.prog 18 #[.agg #[.slice so n sc, .int .i64 gi, .slice no n nc, .slice bo bn bc, .int .i64 gm]] w fun e w' => ∃ B, e = .returned (.slice (some ⟨B, 0, none⟩) n n) ∧ Below w.heap.size w w' ∧ Hid (∃ pt, w.heap.size ≤ B ∧ w'.rowIs B 3 n (intRow pt) ∧ ∀ x, x < n → PartIs nx x (pt x)) := by
  have hmk := run_make_row' (P := Try.prog) 24 3 (.int .i64 0) 8 Try.underlying24 infoInt rfl .i64 .i64 n (by omega) (by omega)
  obtain ⟨W0, hW0⟩ : ∃ W0, W0 = w.alloc (.cells #[.slice so n sc, .int .i64 gi, .slice no n nc, .slice bo bn bc, .int .i64 gm] 26) := ⟨_, rfl⟩
  have hs0 : W0.heap.size = w.heap.size + 1 := by rw [hW0]; simp
  have hb0 : Below w.heap.size w W0 := by rw [hW0]; exact (Below.refl _ _).alloc (Nat.le_refl _) _
  have c0 : W0.cell? ⟨w.heap.size, 0, none⟩ = some (.slice so n sc) := by rw [hW0]; simp [go_sem]
  have c1 : W0.cell? ⟨w.heap.size, 1, none⟩ = some (.int .i64 gi) := by rw [hW0]; simp [go_sem]
  have c2 : W0.cell? ⟨w.heap.size, 2, none⟩ = some (.slice no n nc) := by rw [hW0]; simp [go_sem]
  have c3 : W0.cell? ⟨w.heap.size, 3, none⟩ = some (.slice bo bn bc) := by rw [hW0]; simp [go_sem]
  have c4 : W0.cell? ⟨w.heap.size, 4, none⟩ = some (.int .i64 gm) := by rw [hW0]; simp [go_sem]
  go_enter Try.func18, Try.ntmps18
  go_upto_region 2 with fail
  rw [← hW0]
  go_cut [4] (fun s4 wx => ∃ A : TA, s4 = .pointer (some ⟨A.b, 0, none⟩) ∧ Hid (TAOk A ∧ A.s = w.heap.size ∧ TjW w wx A (.slice no n nc) n (.slice none 0 0) (.slice none 0 0) [] [] (fun _ => 0) (fun _ => 0) (fun _ => 0) (fun _ => 0) 0))
  case first =>
    refine parts_region _ W0 w.heap.size so no bo sc nc bn bc n gi gm (fun i => List.getD [_, _, _, _, _, _, _, _, _, _, _, _, _, _, _, _, _, _, _, _, _, _, _, _, _, _, _, _, _, _, _, _, _, _, _, _, _, _, _, _, _, _, _, _, _, _, _] i undef) hn (by omega) rfl rfl c0 c1 c2 c3 c4 ?_
    intro d r β w5 hd hfr hg
    have HX : Hid (made_ok w w5 no n nc (β 10) (β 2) (β 4) (β 6) (β 8)) := PGood.ok hg hd hs0 hb0
    have e4 := hg.d10 (hd 10 (by omega))
    unfold fr
    simp only [hfr 0 (by unfold OutR; omega), hfr 1 (by unfold OutR; omega), hfr 2 (by unfold OutR; omega), hfr 3 (by unfold OutR; omega), hfr 5 (by unfold OutR; omega), hfr 6 (by unfold OutR; omega), hfr 7 (by unfold OutR; omega), hfr 8 (by unfold OutR; omega), hfr 9 (by unfold OutR; omega), hfr 20 (by unfold OutR; omega), hfr 21 (by unfold OutR; omega), hfr 22 (by unfold OutR; omega), hfr 23 (by unfold OutR; omega), hfr 24 (by unfold OutR; omega), hfr 25 (by unfold OutR; omega), hfr 26 (by unfold OutR; omega), hfr 27 (by unfold OutR; omega), hfr 28 (by unfold OutR; omega), hfr 29 (by unfold OutR; omega), hfr 30 (by unfold OutR; omega), hfr 31 (by unfold OutR; omega), hfr 32 (by unfold OutR; omega), hfr 33 (by unfold OutR; omega), hfr 34 (by unfold OutR; omega), hfr 35 (by unfold OutR; omega), hfr 36 (by unfold OutR; omega), hfr 37 (by unfold OutR; omega), hfr 38 (by unfold OutR; omega), hfr 39 (by unfold OutR; omega), hfr 40 (by unfold OutR; omega), hfr 41 (by unfold OutR; omega), hfr 42 (by unfold OutR; omega), hfr 43 (by unfold OutR; omega), hfr 44 (by unfold OutR; omega), hfr 45 (by unfold OutR; omega), hfr 46 (by unfold OutR; omega), List.getD_cons_zero, List.getD_cons_succ]
    have hu : (Value.tuple #[] : Value) = undef := rfl
    simp only [hu]
    clear hu
    clear hfr hg hd
    go_wp2_with fail
    go_meet
    exact ⟨madeA w.heap.size w5.heap.size (β 10) (β 2) (β 4) (β 6) (β 8), rfl, HX⟩
  case rest =>
    obtain ⟨A, rfl, HA0⟩ := hcut
    obtain ⟨hA, hAs, hW⟩ := HA0.out
    have HA : Hid (TAOk A) := hA
    have H0 : Hid (TjW w wc A (.slice no n nc) n (.slice none 0 0) (.slice none 0 0) [] [] (fun _ => 0) (fun _ => 0) (fun _ => 0) (fun j => if j < 0 then -1 else 0) 0) := hW
    have HR : Hid (NextRows w no n nx) := hR
    have HNX : Hid (∀ i, i < n → ∀ k ∈ nx i, k < n) := hnx
    have HXL : Hid (∀ i, i < n → (nx i).length ≤ 140737488355328) := hxl
    have k11 := H0.out.cp
    clear HA0 hW hmk c0 c1 c2 c3 c4 hb0 hR hnx hxl hs0 hW0
    go_wp2_with fail
    go_loopw [23] (fun i wr => ∃ k : Nat, k ≤ n ∧ i = .int .i64 k ∧ Hid (TjW w wr A (.slice no n nc) n (.slice none 0 0) (.slice none 0 0) [] [] (fun _ => 0) (fun _ => 0) (fun _ => 0) (fun j => if j < k then -1 else 0) 0)) (fun i _ => n - (intOf i).toNat)
    case atStart => exact ⟨0, Nat.zero_le _, rfl, H0⟩
    case round =>
      obtain ⟨k, hk, rfl, HK⟩ := hrel
      by_cases hlt : k < n
      · have k11 := HK.out.cp
        have r1 := HK.out.rp.cell hlt
        have r2 := HK.out.rp.frozen k
        have HN : Hid (TjW w (wr.setCell ⟨A.bp, k, none⟩ (.int .i64 (-1))) A (.slice no n nc) n (.slice none 0 0) (.slice none 0 0) [] [] (fun _ => 0) (fun _ => 0) (fun _ => 0) (fun j => if j < k + 1 then -1 else 0) 0) := by
          have := HK.out.setP HA.out k (-1)
          have e : updI (fun j => if j < k then (-1 : Int) else 0) k (-1) = fun j => if j < k + 1 then -1 else 0 := by
            funext j
            unfold updI
            by_cases hj : j = k
            · subst hj; simp
            · rw [if_neg hj]
              show (if j < k then (-1 : Int) else 0) = _
              by_cases hjk : j < k
              · rw [if_pos hjk, if_pos (by omega)]
              · rw [if_neg hjk, if_neg (by omega)]
          rw [e] at this
          exact this
        generalize intRow (fun j => if j < k then (-1 : Int) else 0) k = old at *
        clear HK
        go_wp2_with fail
        go_roundw
        case rel => exact ⟨k + 1, hlt, by go_num, HN⟩
        case measure => simp [intOf]; omega
      · obtain rfl : k = n := by omega
        have HT0 : Hid (∃ wh lo go pt met, TjAt w wr A (.slice no k nc) k nx [] wh lo go pt met ∧ ∀ x, x < 0 → wh x ≠ 0) := by
          have h := HK.out
          refine ⟨_, _, _, _, _, ⟨.slice none 0 0, .slice none 0 0, Tj.start k nx, ?_⟩, fun x hx => by omega⟩
          exact ⟨h.below, h.size, h.fz, h.gn, h.dn, h.on, h.cw, h.cl, h.cg, h.cm, h.cp, h.rw, h.rl, h.rg, h.rp.congr (fun j hj => by simp [intRow, hj]), h.od, h.oo, h.ap⟩
        clear HK H0 k11
        generalize wr = w1 at *
        go_wp2_with fail
        go_loopw [32] (fun i wr => ∃ q : Nat, q ≤ k ∧ i = .int .i64 q ∧ Hid (TjEnd w wr A (.slice no k nc) k nx (fun x => x < q))) (fun i _ => k - (intOf i).toNat)
        case atStart => exact ⟨0, Nat.zero_le _, rfl, HT0⟩
        case round =>
          obtain ⟨q, hq, rfl, HE⟩ := hrel
          obtain ⟨wh, lo, go, pt, met, ⟨dv, ov, hT, hW⟩, hseen⟩ := HE.out
          have HT : Hid (Tj k nx [] wh lo go pt met) := hT
          have HW : Hid (TjW w wr A (.slice no k nc) k dv ov [] [] wh lo go pt met) := hW
          have HS : Hid (∀ x, x < q → wh x ≠ 0) := hseen
          clear hT hW hseen HE HT0
          by_cases hlt2 : q < k
          · have k7 := HW.out.cw
            have r7 : wr.cell? ⟨A.bw, q, none⟩ = some (.int .i64 (wh q : Int)) := HW.out.rw.cell hlt2
            by_cases hwq : wh q = 0
            · have hmet : met < k := by rw [HT.out.few]; exact nz_lt hwq hlt2
              have hme := tjmeet_any w wr A (.slice no k nc) k dv ov [] [] wh lo go pt met q HA.out hlt2 (by omega) (by simp) (by simp) HW.out
              have HTb : Hid (Tj k nx [(q, [])] (upd wh q (met + 1)) (upd lo q (met + 1)) go pt (met + 1)) := HT.out.begin hlt2 hwq
              have HSq : Hid (∀ x, x < q + 1 → upd wh q (met + 1) x ≠ 0) := fun x hx => by
                by_cases e : x = q
                · subst e; rw [upd_same]; omega
                · rw [upd_other e]; exact HS.out x (by omega)
              have hgo := fun w2 (hh : TjK w w2 A (.slice no k nc) k nx (fun x => x < q + 1) (2 * left nx go k + 1)) => tjgo_any w w2 A no nc k nx (fun x => x < q + 1) (2 * left nx go k + 1) HA.out hn HNX.out HXL.out (by rw [hAs]; exact Nat.le_refl _) HR.out hh
              rw [hwq] at r7
              clear HT HW HS
              go_wp2_with (first | (go_at_call 35; refine hme.mono ?_; rintro e w2 ⟨rfl, HW2⟩; have hgo2 := hgo w2 (by obtain ⟨dv', ov', h6⟩ := HW2.out; exact ⟨_, _, _, _, _, _, ⟨dv', ov', HTb.out, h6⟩, rfl, HSq.out⟩)) | (go_at_call 36; refine hgo2.mono ?_; rintro e w3 ⟨rfl, HW3⟩))
              go_roundw
              case rel => exact ⟨q + 1, hlt2, by go_num, HW3⟩
              case measure => simp [intOf]; omega
            · have hwq2 : ¬ (wh q : Int) = 0 := by omega
              have HN : Hid (TjEnd w wr A (.slice no k nc) k nx (fun x => x < q + 1)) := ⟨wh, lo, go, pt, met, ⟨dv, ov, HT.out, HW.out⟩, fun x hx => by
                by_cases e : x = q
                · subst e; exact hwq
                · exact HS.out x (by omega)⟩
              generalize wh q = b at *
              clear HT HW HS
              go_wp2_with fail
              go_roundw
              case rel => exact ⟨q + 1, hlt2, by go_num, HN⟩
              case measure => simp [intOf]; omega
          · obtain rfl : q = k := by omega
            have k11 := HW.out.cp
            have hbw : Below w.heap.size w wr := by rw [← hAs]; exact HW.out.below
            have HF : Hid (∃ pt, w.heap.size ≤ A.bp ∧ wr.rowIs A.bp 3 q (intRow pt) ∧ ∀ x, x < q → PartIs nx x (pt x)) := ⟨pt, by rw [← hAs]; exact HA.out.sp, HW.out.rp, HT.out.done HS.out⟩
            clear HT HW HS
            go_wp2_with fail
            go_ret
            exact ⟨_, rfl, hbw, HF⟩
end Go.Proofs.Ytknneajaklcjdaa
