/-
  The walk of PartsLine.
-/
import Derived.Test.YtalpodgndfnjcaaPlM
namespace Go.Proofs.Ytalpodgndfnjcaa
open Go.ChangeShapes Go.WideShapes Go.ChangeAt Go.RowKit Go.Deep
open Terms

set_option maxHeartbeats 3200000 in
set_option maxRecDepth 20000 in
theorem partsLine_walk (nv bv : Value) (ls : List (List Int)) (bs : List Int) (wi wm : Int) (w : World) (hL : ListsR w nv ls) (hlz0 : ls.length * 24 ≤ 140737488355328) (hS : IntsR w bv bs) (hwi : I64 wi) (hwm : I64 wm) :
    Calls Try.prog 7 #[.agg #[nv, bv, .int .i64 wi, .int .i64 wm]] w fun e w' => e = .returned (.bool true) ∧ Below w.heap.size w w' := by
  have hlz : ls.length ≤ 140737488355328 := by omega
  obtain ⟨no, nc, rfl⟩ : ∃ no nc, nv = .slice no ls.length nc := by obtain ⟨us, a, c, h, _⟩ := hL; exact ⟨a, c, h⟩
  obtain ⟨bo, bc, rfl⟩ : ∃ bo bc, bv = .slice bo bs.length bc := by obtain ⟨a, c, h, _⟩ := hS.v; exact ⟨a, c, h⟩
  obtain ⟨W0, hW0⟩ : ∃ W0, W0 = w.alloc (.cells #[.slice no ls.length nc, .slice bo bs.length bc, .int .i64 wi, .int .i64 wm] 25) := ⟨_, rfl⟩
  have hA : Below w.heap.size w W0 := by rw [hW0]; exact (Below.refl _ _).alloc (Nat.le_refl _) _
  have hgr := graphFn_own no bo nc bc ls bs wi wm W0 (hL.below hA) hlz (hS.below hA) hwi hwm
  generalize ls.length = nl at *
  generalize bs.length = bl at *
  clear hL hS
  have HA : Hid (Below w.heap.size w W0) := hA
  have HW0 : Hid (W0 = w.alloc (.cells #[.slice no nl nc, .slice bo bl bc, .int .i64 wi, .int .i64 wm] 25)) := hW0
  subst hW0
  clear hA
  obtain ⟨i0, hi, hz0, hz1, hz2⟩ := info_parts infoInt
  go_enter Try.func7, Try.ntmps7
  go_upto_region 2 with (go_at_call 8; refine hgr.mono ?_; rintro e w1 ⟨so1, sc1, no1, nc1, bo1, bc1, n, gi, mm, g0, rfl, hb1, HG⟩)
  clear hgr HW0
  have HP0 : Hid (PLs w (w1.alloc (.cells #[.slice so1 n sc1, .int .i64 (gi : Int), .slice no1 n nc1, .slice bo1 n bc1, .int .i64 (mm : Int)] 28)) w1.heap.size (w.heap.size + 1) so1 sc1 no1 nc1 bo1 bc1 n gi mm 0) := by
    refine PL.start (t := 28) (g := g0) ?_ (HA.out.trans (hb1.mono HA.out.size)) (Nat.le_succ _) ?_ rfl
    · have := HG.out
      rw [World.size_alloc] at this
      exact this
    · have := hb1.size
      rw [World.size_alloc] at this
      exact this
  have hn20 : n ≤ 20 := HG.out.small
  clear hb1 HG HA
  obtain ⟨B, hB⟩ : ∃ B, B = w1.heap.size := ⟨_, rfl⟩
  go_wp2_with fail
  rw [← hB] at HP0 ⊢
  generalize w1.alloc (.cells #[.slice so1 n sc1, .int .i64 (gi : Int), .slice no1 n nc1, .slice bo1 n bc1, .int .i64 (mm : Int)] 28) = W2 at HP0 ⊢
  clear hB
  go_loopw [4] (fun i wr => ∃ k : Nat, k ≤ n ∧ i = .int .i64 k ∧ Hid (PLs w wr B (w.heap.size + 1) so1 sc1 no1 nc1 bo1 bc1 n gi mm k)) (fun i _ => n - (intOf i).toNat)
  case atStart => exact ⟨0, Nat.zero_le _, rfl, HP0⟩
  case round =>
    obtain ⟨k, hk, rfl, HK⟩ := hrel
    obtain ⟨us, g, hpl⟩ := HK.out
    by_cases hlt : k < n
    · obtain ⟨nb, hno⟩ : ∃ nb, no1 = some ⟨nb, 0, none⟩ := by
        obtain ⟨g1, c1, h1, _, _⟩ := hpl.rows.next.form (by omega)
        injection h1 with h4 _ _
        exact ⟨g1, h4⟩
      subst hno
      have HPL : Hid (PL w wr B (w.heap.size + 1) so1 sc1 (some ⟨nb, 0, none⟩) nc1 bo1 bc1 n gi mm k us g) := hpl
      have hul : us.length = n := by simpa using hpl.rows.next.1
      obtain ⟨uo, uc, hu⟩ := owns_slice (hpl.rows.each k hlt)
      have hcn : wr.cell? ⟨nb, k, none⟩ = some (.slice uo (g.next.getD k []).length uc) := by
        rw [hpl.rows.next.cellAt k (by omega), ← hu, List.getD_eq_getElem?_getD, List.getElem?_eq_getElem (by omega)]; rfl
      have hfn : wr.frozen? ⟨nb, k, none⟩ = false := hpl.rows.next.frozenAt k
      have hnbl : nb < wr.heap.size := Nat.lt_trans (hpl.apart _ rfl) hpl.size
      have HRow : Hid (∀ q, q < (g.next.getD k []).length → (∃ ub uoff, uo = some ⟨ub, uoff, none⟩ ∧ ub < wr.heap.size ∧ wr.cell? ⟨ub, uoff + q, none⟩ = some (.int .i64 ((g.next.getD k []).getD q 0))) ∧ 0 ≤ (g.next.getD k []).getD q 0 ∧ (g.next.getD k []).getD q 0 < n) := fun q hq => by
        have he := intsV_of_owns (hpl.rows.each k hlt)
        rw [hu] at he
        obtain ⟨ub, uoff, e1, e2, e3⟩ := he.num hq
        have hg := (hpl.ok.row k (by rw [hpl.rows.ks]; exact hlt)).2 q hq
        unfold GNext at hg
        rw [hpl.rows.ks] at hg
        exact ⟨⟨ub, uoff, e1, e2, e3⟩, hg⟩
      have hrl6 : (g.next.getD k []).length ≤ 6 := hpl.len k hlt
      have hc2 : wr.cell? ⟨B, 2, none⟩ = some (.slice (some ⟨nb, 0, none⟩) n nc1) := hpl.c2
      have hBl : B < wr.heap.size := hpl.size
      generalize g.next.getD k [] = row at hcn HRow hrl6
      generalize hrl : row.length = rl at hcn HRow hrl6
      clear hpl hul hu hrl HK
      generalize wr = wo at *
      go_wp2_with fail
      go_loopw [5, 6] (fun v i wr => ∃ q : Nat, q ≤ rl ∧ i = .int .i64 q ∧ Hid (∃ l : List Int, l.length ≤ q ∧ (∀ y ∈ l, (k : Int) < y ∧ 0 ≤ y ∧ y < n) ∧ wr.ownsRow wo.heap.size 3 1 v l.length (ivals l)) ∧ Hid (Below wo.heap.size wo wr)) (fun _ i _ => rl - (intOf i).toNat)
      case atStart => exact ⟨0, Nat.zero_le _, rfl, ⟨[], by simp, fun y hy => by simp at hy, World.ownsRow_nil _ _ _ _⟩, Below.refl _ _⟩
      case round =>
        obtain ⟨q, hq, rfl, HQ, HB⟩ := hrel
        obtain ⟨l, hlq, hli, hown⟩ := HQ.out
        obtain ⟨lo1, lc1, rfl⟩ := owns_slice hown
        have d2 : wr.cell? ⟨B, 2, none⟩ = some (.slice (some ⟨nb, 0, none⟩) n nc1) := (HB.out.cell (p := ⟨B, 2, none⟩) hBl).trans hc2
        have dn : wr.cell? ⟨nb, k, none⟩ = some (.slice uo rl uc) := (HB.out.cell (p := ⟨nb, k, none⟩) hnbl).trans hcn
        have df : wr.frozen? ⟨nb, k, none⟩ = false := (HB.out.frozen (p := ⟨nb, k, none⟩) hnbl).trans hfn
        by_cases hql : q < rl
        · obtain ⟨⟨ub, uoff, rfl, hub, hcu⟩, hy0, hy1⟩ := HRow.out q hql
          have du : wr.cell? ⟨ub, uoff + q, none⟩ = some (.int .i64 (row.getD q 0)) := (HB.out.cell (p := ⟨ub, uoff + q, none⟩) hub).trans hcu
          generalize row.getD q 0 = y at *
          obtain ⟨ll, hll⟩ : ∃ ll, l.length = ll := ⟨_, rfl⟩
          have HN : Hid (∀ (w5 : World) (v' : Value), (k : Int) < y → w5.ownsRow wo.heap.size 3 1 v' (ll + 1) (ivals l ++ [.int .i64 y]) → ∃ l : List Int, l.length ≤ q + 1 ∧ (∀ y ∈ l, (k : Int) < y ∧ 0 ≤ y ∧ y < n) ∧ w5.ownsRow wo.heap.size 3 1 v' l.length (ivals l)) := fun w5 v' hky h => ⟨l ++ [y], by simp; omega, fun z hz => by
            rcases List.mem_append.1 hz with h | h
            · exact hli z h
            · have : z = y := by simpa using h
              subst this; exact ⟨hky, hy0, hy1⟩, by rw [List.length_append, hll, show ivals (l ++ [y]) = ivals l ++ [.int .i64 y] by simp [ivals]]; exact h⟩
          have HS : Hid (∃ l : List Int, l.length ≤ q + 1 ∧ (∀ y ∈ l, (k : Int) < y ∧ 0 ≤ y ∧ y < n) ∧ wr.ownsRow wo.heap.size 3 1 (.slice lo1 ll lc1) l.length (ivals l)) := ⟨l, by omega, hli, by rw [← hll]; exact hown⟩
          rw [hll] at hown hlq ⊢
          have hnb2 := hown.lt
          have h63 : ll + 1 ≤ maxLen := by unfold maxLen; omega
          have hkb : (ll + 1) * 8 ≤ 140737488355328 := by omega
          have hown4 := fun o => hown.alloc o
          have hbase : ∀ o, wo.heap.size ≤ (wr.alloc o).heap.size := fun o => by have := HB.out.size; simp; omega
          clear HQ hli hown hll hcu
          by_cases hky : (k : Int) < y
          · go_wp2_with (at_builtin; refine wpList_append_own _ rfl (.tmp 41) (.tmp 50) 23 rfl wo.heap.size 3 i0 (.int .i64 0) 1 8 Try.underlying23 hi hz0 hz1 hz2 rfl (by decide) (.slice lo1 ll lc1) ll _ rfl (hown4 _) ⟨wr.heap.size, 0, none⟩ 1 1 [.int .i64 y] rfl rfl (cell_one_new _ _ _) (by intro u hu; simp at hu; subst hu; rfl) h63 hkb (hbase _) ?_; intro v' w5 hown' hgrow _)
            have hb5 : Below wo.heap.size wo w5 := (HB.out.alloc HB.out.size _).grown hgrow (hbase _) (fun z hz => (hnb2 z hz).1)
            have HN5 := (show Hid _ from HN.out w5 v' hky hown')
            go_roundw
            case rel => exact ⟨q + 1, by omega, by go_num, HN5, hb5⟩
            case measure => simp [intOf]; omega
          · go_wp2_with fail
            go_roundw
            case rel => exact ⟨q + 1, by omega, by go_num, HS, HB⟩
            case measure => simp [intOf]; omega
        · have HK4 : Hid (PLs w (wr.setCell ⟨nb, k, none⟩ (.slice lo1 l.length lc1)) B (w.heap.size + 1) so1 sc1 (some ⟨nb, 0, none⟩) nc1 bo1 bc1 n gi mm (k + 1)) := HPL.out.put hlt rfl HB.out hown (by omega) hli
          generalize l.length = ll at *
          clear HQ hli hown
          go_wp2_with fail
          go_roundw
          case rel => exact ⟨k + 1, by omega, by go_num, HK4⟩
          case measure => simp [intOf]; omega
    · obtain rfl : k = n := by omega
      have hpa := hpl.parts
      have HFa : Hid (∀ w', Below wr.heap.size wr w' → Calls Try.prog 14 #[.agg #[.slice so1 k sc1, .int .i64 (gi : Int), .slice no1 k nc1, .slice bo1 k bc1, .int .i64 (mm : Int)]] w' fun e w'' => e = .returned (.tuple #[.int .i64 0, .int .i64 11]) ∧ Below w'.heap.size w' w'') := fun w' hb => hpl.fair hb
      have HL : Hid (∀ w', Below wr.heap.size wr w' → w'.cell? ⟨B, 0, none⟩ = some (.slice so1 k sc1) ∧ w'.cell? ⟨B, 1, none⟩ = some (.int .i64 (gi : Int)) ∧ w'.cell? ⟨B, 2, none⟩ = some (.slice no1 k nc1) ∧ w'.cell? ⟨B, 3, none⟩ = some (.slice bo1 k bc1) ∧ w'.cell? ⟨B, 4, none⟩ = some (.int .i64 (mm : Int)) ∧ Below w.heap.size w w') := fun w' hb => by
        have h := hpl.later hb
        exact ⟨h.c0, h.c1, h.c2, h.c3, h.c4, h.below⟩
      obtain ⟨c0, c1, c2, c3, c4, _⟩ := HL.out wr (Below.refl _ _)
      clear hpl HK HP0
      go_wp2_with (first | (go_at_call 9; refine hpa.mono ?_; rintro e w3 ⟨Bp, rfl, hb3, HR⟩; have hfa := HFa.out w3 hb3; obtain ⟨d0, d1, d2, d3, d4, _⟩ := HL.out w3 hb3) | (go_at_call 14; refine hfa.mono ?_; rintro e w4 ⟨rfl, hb4⟩; obtain ⟨f0, f1, f2, f3, f4, hbw⟩ := HL.out w4 (hb3.trans (hb4.mono hb3.size))))
      have HR4 : Hid (w4.rowIs Bp 3 k (intRow fun x => (x : Int))) := row_later HR.out.2 hb4
      clear HR hpa HFa HL hfa c0 c1 c2 c3 c4 d0 d1 d2 d3 d4
      go_loopw [11] (fun i wr => ∃ q : Nat, q ≤ k ∧ i = .int .i64 q ∧ ∃ d, wr = w4.drewN d) (fun i _ => k - (intOf i).toNat)
      case atStart => exact ⟨0, Nat.zero_le _, rfl, 0, rfl⟩
      case round =>
        obtain ⟨q, hq, rfl, d, rfl⟩ := hrel
        by_cases hqk : q < k
        · have e1 : w4.cell? ⟨Bp, q, none⟩ = some (.int .i64 (q : Int)) := HR4.out.cell hqk
          go_wp2_with fail
          go_roundw
          case rel => exact ⟨q + 1, by omega, by go_num, _, rfl⟩
          case measure => simp [intOf]; omega
        · go_wp2_with fail
          go_ret
          exact ⟨rfl, below_drewN hbw _⟩
end Go.Proofs.Ytalpodgndfnjcaa
