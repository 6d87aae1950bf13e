/-
  The walk of FairRound.
-/
import Derived.Test.YtalpodgndfnjcaaRingW
import Derived.Test.YtalpodgndfnjcaaPickedP
import Derived.Deep.RegionHeld3
import Derived.Deep.RegionLaw
import Derived.Deep.Cut
import Derived.Deep.CutBlock
import Derived.Deep.CutRange
import Derived.Deep.DeepCutAuto
namespace Go.Proofs.Ytalpodgndfnjcaa
open Go.ChangeShapes Go.WideShapes Go.ChangeAt Go.RowKit Go.Deep
open Terms

theorem one_newA (w : World) (p : Addr) (v x : Value) (o : Obj) (t : TypeId) : ∀ j u, [x][j]? = some u → (((w.setCell p v).alloc o).alloc (.cells #[x] t)).cell? ((⟨w.heap.size + 1, 0, none⟩ : Addr).add j) = some u := by
  intro j u hj
  match j, hj with
  | 0, hj => simp at hj; subst hj; simp [Addr.add, go_sem]

theorem one_newD (w : World) (p : Addr) (v x : Value) (o : Obj) (t : TypeId) : ∀ j u, [x][j]? = some u → (((w.setCell p v).alloc o).alloc (.cells #[x] t)).drew.cell? ((⟨w.heap.size + 1, 0, none⟩ : Addr).add j) = some u := one_newA w p v x o t
theorem grown_undrew {w w' : World} {row : Option Nat} (h : w.drew.grownBy w' row) : w.grownBy w' row := ⟨h.os, h.tape, h.output, h.size, h.block⟩

set_option maxHeartbeats 3200000 in
set_option maxRecDepth 20000 in
theorem fairRound_walk (a b : Int) (w : World) (ha : I64 a) (hb : I64 b) :
    Calls Try.prog 6 #[.int .i64 a, .int .i64 b] w fun e w' => e = .returned (.bool true) ∧ Below w.heap.size w w' := by
  have hpa := fun w => picked_is a 10 w ha (by omega) (by omega)
  have hpb := fun w => picked_is b 4 w hb (by omega) (by omega)
  obtain ⟨qa0, qa1⟩ := pk_range (n := a) (m := 10) (by omega)
  obtain ⟨qb0, qb1⟩ := pk_range (n := b) (m := 4) (by omega)
  obtain ⟨x, hx⟩ : ∃ x : Nat, pk a 10 = x := ⟨(pk a 10).toNat, by omega⟩
  obtain ⟨m, hm⟩ : ∃ m : Nat, pk b 4 = m := ⟨(pk b 4).toNat, by omega⟩
  rw [hx] at hpa qa0 qa1
  rw [hm] at hpb qb0 qb1
  obtain ⟨K, hK⟩ : ∃ K, K = 1 + x := ⟨_, rfl⟩
  have hKx : (1 + (x : Int)) = (K : Int) := by omega
  have hK1 : 1 ≤ K := by omega
  have hK10 : K ≤ 10 := by omega
  have hK0 : ¬ (K : Int) = 0 := by omega
  have hK0n : ¬ K = 0 := by omega
  have hm3 : m ≤ 3 := by omega
  clear hx hm hK ha hb qa0 qa1 qb0 qb1
  obtain ⟨iS, hiS, hs0, hs1, hs2⟩ := info_parts infoSpot
  obtain ⟨iL, hiL, hl0, hl1, hl2⟩ := info_parts infoInts
  obtain ⟨i0, hi, hz0, hz1, hz2⟩ := info_parts infoInt
  go_enter Try.func6, Try.ntmps6
  go_upto_region 3 with (first | (go_at_call_of 11 a; refine (hpa _).mono ?_; rintro e w ⟨rfl, rfl⟩) | (go_at_call_of 11 b; refine (hpb _).mono ?_; rintro e w ⟨rfl, rfl⟩))
  clear hKx hpa hpb
  go_wp2_with fail
  go_loopw [8] (fun i wr => ∃ j : Nat, j ≤ K ∧ i = .int .i64 j ∧ Hid (RgGr w wr K m j)) (fun i _ => K - (intOf i).toNat)
  case atStart => exact ⟨0, Nat.zero_le _, rfl, _, _, _, _, _, ring_start w K m⟩
  case round =>
    obtain ⟨j, hj, rfl, HJ⟩ := hrel
    obtain ⟨sv, nv, bv, us, g, hat⟩ := HJ.out
    obtain ⟨so1, sc1, no1, nc1, bo1, bc1, rfl, rfl, rfl⟩ := hat.shape
    by_cases hlt : j < K
    · have HAy : Hid (RgAt w wr K m j (.slice so1 j sc1) (.slice no1 j nc1) (.slice bo1 j bc1) us g) := hat
      generalize wr = wy at *
      clear HJ hat
      obtain ⟨y1, hy1⟩ : ∃ y1 : Nat, y1 = if j < m then 2 ^ j else 0 := ⟨_, rfl⟩
      have HY1 : Hid (y1 = if j < m then 2 ^ j else 0) := hy1
      clear hy1
      go_upto_if 28 with fail
      go_cut [9] (fun s9 wx => s9 = .int .i64 (y1 : Int) ∧ wx = wy)
      case first =>
        by_cases hc : j < m
        · have hy := HY1.out
          rw [if_pos hc] at hy
          have h3 : j = 0 ∨ j = 1 ∨ j = 2 := by omega
          rcases h3 with rfl | rfl | rfl
          · obtain rfl : y1 = 1 := hy
            go_wp2_with fail
            all_goals go_meet
            all_goals exact ⟨rfl, rfl⟩
          · obtain rfl : y1 = 2 := hy
            go_wp2_with fail
            all_goals go_meet
            all_goals exact ⟨rfl, rfl⟩
          · obtain rfl : y1 = 4 := hy
            go_wp2_with fail
            all_goals go_meet
            all_goals exact ⟨rfl, rfl⟩
        · have hy := HY1.out
          rw [if_neg hc] at hy
          obtain rfl : y1 = 0 := hy
          go_wp2_with fail
          all_goals go_meet
          all_goals exact ⟨rfl, rfl⟩
      case rest =>
        obtain ⟨rfl, hwc⟩ := hcut
        rw [hwc]
        clear hwc
        obtain ⟨c, hc⟩ : ∃ c : Bool, c = decide (K < m ∧ j + 1 = K) := ⟨_, rfl⟩
        have HC : Hid (c = decide (K < m ∧ j + 1 = K)) := hc
        clear hc
        go_upto_region 10 with fail
        go_cut [39] (fun s39 wx => s39 = .bool c ∧ wx = wy)
        case first =>
          by_cases h1 : K < m
          · by_cases h2 : j + 1 = K
            · obtain rfl : c = true := HC.out.trans (decide_eq_true ⟨h1, h2⟩)
              have h3 : (j : Int) = (K : Int) - 1 := by omega
              go_wp2_with fail
              all_goals go_meet
              all_goals exact ⟨by first | rfl | simp [h3] | (congr 1; simp; omega), rfl⟩
            · obtain rfl : c = false := HC.out.trans (decide_eq_false fun x => h2 x.2)
              have h3 : ¬ (j : Int) = (K : Int) - 1 := by omega
              go_wp2_with fail
              all_goals go_meet
              all_goals exact ⟨by first | rfl | simp [h3] | (congr 1; simp; omega), rfl⟩
          · obtain rfl : c = false := HC.out.trans (decide_eq_false fun x => h1 x.1)
            go_wp2_with fail
            all_goals go_meet
            all_goals exact ⟨rfl, rfl⟩
        case rest =>
          obtain ⟨rfl, hwc⟩ := hcut
          rw [hwc]
          clear hwc
          obtain ⟨y, hy0⟩ : ∃ y : Nat, y = rset K m j := ⟨_, rfl⟩
          have HY : Hid (y = rset K m j) := hy0
          clear hy0
          go_upto_if 39 with fail
          go_cut [9] (fun s9 wx => s9 = .int .i64 (y : Int) ∧ wx = wy)
          case first =>
            have hy := HY.out
            have h1 := HY1.out
            have hc := HC.out
            unfold rset at hy
            cases c with
            | true =>
              obtain ⟨k1, k2⟩ : K < m ∧ j + 1 = K := of_decide_eq_true hc.symm
              rw [if_pos ⟨k1, k2⟩] at hy
              clear h1 hc HY HY1 HC
              have h3 : m = 2 ∨ m = 3 := by omega
              rcases h3 with rfl | rfl
              · obtain rfl : y = 3 := hy
                go_wp2_with fail
                all_goals go_meet
                all_goals exact ⟨rfl, rfl⟩
              · obtain rfl : y = 7 := hy
                go_wp2_with fail
                all_goals go_meet
                all_goals exact ⟨rfl, rfl⟩
            | false =>
              rw [if_neg (of_decide_eq_false hc.symm)] at hy
              have e : y1 = y := h1.trans hy.symm
              subst e
              clear h1 hc HY HY1 HC hy
              go_wp2_with fail
              all_goals go_meet
              all_goals exact ⟨rfl, rfl⟩
          case rest =>
            obtain ⟨rfl, hwc⟩ := hcut
            rw [hwc]
            clear hwc HC HY1
            obtain ⟨r, hr⟩ : ∃ r : Nat, r = (j + 1) % K := ⟨_, rfl⟩
            have HR : Hid (r = (j + 1) % K) := hr
            have hr1 : ((j : Int) + 1).tmod (K : Int) = (r : Int) := by rw [hr, Int.tmod_eq_emod_of_nonneg (by omega)]; norm_cast
            have hr2 : ((j : Int) + 1) % (K : Int) = (r : Int) := by rw [hr]; norm_cast
            have hrK : r < K := by rw [hr]; exact Nat.mod_lt _ (by omega)
            clear hr
            have hw1 : IntKind.i64.wrap ((j : Int) + 1) = (j : Int) + 1 := by rw [IntKind.wrap_i64]; omega
            have hw2 : IntKind.i64.wrap (r : Int) = (r : Int) := by rw [IntKind.wrap_i64]; omega
            have hsp := fun o => HAy.out.rows.spots.alloc o
            have hsz := HAy.out.size
            have hbase : ∀ o, w.heap.size + 1 ≤ (wy.alloc o).heap.size := fun o => by simp; omega
            have k0 : wy.cell? ⟨w.heap.size, 0, none⟩ = some (.slice so1 j sc1) := HAy.out.c0
            have h63 : j + 1 ≤ maxLen := by unfold maxLen; omega
            have h16 : (j + 1) * 16 ≤ 140737488355328 := by omega
            have h24 : (j + 1) * 24 ≤ 140737488355328 := by omega
            have h8 : (j + 1) * 8 ≤ 140737488355328 := by omega
            go_upto_region 13 with (at_builtin; refine wpList_append_own _ rfl (.tmp 44) (.tmp 47) 26 rfl (w.heap.size + 1) 48 iS (.agg #[.int .i64 0, .int .i64 0]) 2 16 Try.underlying26 hiS hs0 hs1 hs2 rfl (by decide) (.slice so1 j sc1) j (flat g.spots) rfl (hsp _) ⟨wy.heap.size, 0, none⟩ 1 1 [.int .i64 (j : Int), .int .i64 0] rfl rfl (two_new _ _ _ _) (by intro u hu; simp at hu; rcases hu with rfl | rfl <;> rfl) h63 h16 (hbase _) ?_; intro sv1 w1 ho1 hg1 _; have low1 := HAy.out.low.grow hg1 (owns_from HAy.out.rows.spots); obtain ⟨so2, sc2, rfl⟩ := owns_slice ho1; have z0 : w1.frozen? ⟨w.heap.size, 0, none⟩ = false := low1.f0; have e0 : w1.cell? ⟨w.heap.size, 0, none⟩ = some (.slice so1 j sc1) := low1.c0)
            have lowb := low1.set0 (.slice so2 (j + 1) sc2)
            have HS : ∀ w', Below (w.heap.size + 1) (w1.setCell ⟨w.heap.size, 0, none⟩ (.slice so2 (j + 1) sc2)) w' → w'.cell? ⟨w.heap.size, 2, none⟩ = some (.slice no1 j nc1) := fun w' hb => (lowb.keep hb).c2
            have hs1 := lowb.size
            have hnx := (fun o1 o2 => HAy.out.next1 hg1 (.slice so2 (j + 1) sc2) o1 o2)
            have hbase1 : ∀ o1 o2, w.heap.size + 1 ≤ (((w1.setCell ⟨w.heap.size, 0, none⟩ (.slice so2 (j + 1) sc2)).alloc o1).alloc o2).drew.heap.size := (fun o1 o2 => by show _ ≤ (((w1.setCell ⟨w.heap.size, 0, none⟩ (.slice so2 (j + 1) sc2)).alloc o1).alloc o2).heap.size; simp at hs1 ⊢; omega)
            have HK : ∀ (o1 o2 : Obj), Below (w.heap.size + 1) (w1.setCell ⟨w.heap.size, 0, none⟩ (.slice so2 (j + 1) sc2)) ((w1.setCell ⟨w.heap.size, 0, none⟩ (.slice so2 (j + 1) sc2)).alloc o1) ∧ Below (w.heap.size + 1) (w1.setCell ⟨w.heap.size, 0, none⟩ (.slice so2 (j + 1) sc2)) (((w1.setCell ⟨w.heap.size, 0, none⟩ (.slice so2 (j + 1) sc2)).alloc o1).alloc o2) := fun o1 o2 => ⟨(Below.refl _ _).alloc hs1 _, ((Below.refl _ _).alloc hs1 _).alloc (by simp at hs1 ⊢; omega) _⟩
            have e2 : w1.cell? ⟨w.heap.size, 2, none⟩ = some (.slice no1 j nc1) := low1.c2
            have hlt1 : w.heap.size < w1.heap.size := low1.size
            have hne1 : ¬ w.heap.size = w1.heap.size := by omega
            have hne2 : ¬ w.heap.size = w1.heap.size + 1 := by omega
            go_cut [] (fun wx => ∃ (nb2 nc2 : Nat) (w2 : World), wx = w2.setCell ⟨w.heap.size, 2, none⟩ (.slice (some ⟨nb2, 0, none⟩) (j + 1) nc2) ∧ Hid (w2.ownsRow (w.heap.size + 1) 23 1 (.slice (some ⟨nb2, 0, none⟩) (j + 1) nc2) (j + 1) (us ++ [.slice (some ⟨w1.heap.size, 0, none⟩) 1 1])) ∧ Hid (World.grownBy (((w1.setCell ⟨w.heap.size, 0, none⟩ (.slice so2 (j + 1) sc2)).alloc (.cells #[.int .i64 (r : Int)] 3)).alloc (.cells #[.slice (some ⟨w1.heap.size, 0, none⟩) 1 1] 23)) w2 (Value.slice no1 j nc1).ownBlock))
            case first =>
              go_region_law (refine step_append_lies _ (by rfl) (.tmp 51) (.tmp 57) 22 (by rfl) (w.heap.size + 1) 23 iL (.slice none 0 0) 1 24 Try.underlying22 hiL hl0 hl1 hl2 (by rfl) (by decide) (.slice no1 j nc1) j us (by rfl) (hnx _ _).drew ⟨w1.heap.size + 1, 0, none⟩ 1 1 [.slice (some ⟨w1.heap.size, 0, none⟩) 1 1] (by rfl) (by rfl) (one_newD _ _ _ _ _ _) (by intro u hu; simp at hu; subst hu; rfl) (by decide) h63 h24 (hbase1 _ _) _ rfl ?_; intro nb2 nc2 w2 ho2 hg2d _ _; have hg2 := grown_undrew hg2d; have low2 := (lowb.alloc _).grow hg2 (owns_from HAy.out.rows.next); have hb2 : Below (w.heap.size + 1) (w1.setCell ⟨w.heap.size, 0, none⟩ (.slice so2 (j + 1) sc2)) w2 := (HK _ _).2.grown hg2 (hbase1 _ _) (owns_from HAy.out.rows.next); have y0 : w2.frozen? ⟨w.heap.size, 2, none⟩ = false := low2.f2; have d0 : w2.cell? ⟨w.heap.size, 2, none⟩ = some (.slice no1 j nc1) := low2.c2; have d2 : w2.cell? ⟨w.heap.size, 3, none⟩ = some (.slice bo1 j bc1) := low2.c3)
              all_goals go_wp2_with fail
              all_goals go_meet
              all_goals exact ⟨nb2, nc2, w2, rfl, ho2, hg2⟩
            case rest =>
              obtain ⟨nb2, nc2, w2, hwc, HO2, HG2⟩ := hcut
              rw [hwc]
              clear hwc
              have ho2 := HO2.out
              have hg2 := HG2.out
              have low2 := (lowb.alloc _).grow hg2 (owns_from HAy.out.rows.next)
              have y0 : w2.frozen? ⟨w.heap.size, 2, none⟩ = false := low2.f2
              have d0 : w2.cell? ⟨w.heap.size, 2, none⟩ = some (.slice no1 j nc1) := low2.c2
              have d2 : w2.cell? ⟨w.heap.size, 3, none⟩ = some (.slice bo1 j bc1) := low2.c3
              have hst := (fun o => HAy.out.sets2 hg1 hg2 (.slice (some ⟨nb2, 0, none⟩) (j + 1) nc2) o)
              have hsz2 := low2.size
              have hbase2 : ∀ o, w.heap.size + 1 ≤ ((w2.setCell ⟨w.heap.size, 2, none⟩ (.slice (some ⟨nb2, 0, none⟩) (j + 1) nc2)).alloc o).heap.size := (fun o => by simp; omega)
              go_wp2_with (at_builtin; refine wpList_append_lies _ rfl (.tmp 61) (.tmp 63) 23 rfl (w.heap.size + 1) 3 i0 (.int .i64 0) 1 8 Try.underlying23 hi hz0 hz1 hz2 rfl (by decide) (.slice bo1 j bc1) j (ivals g.sets) rfl (hst _) ⟨w2.heap.size, 0, none⟩ 1 1 [.int .i64 (y : Int)] rfl rfl (one_newS _ _ _ _ _) (by intro u hu; simp at hu; subst hu; rfl) (by decide) h63 h8 (hbase2 _) _ rfl ?_; intro gb cb w3 ho3 hg3 hor hlt3; have low3 := (low2.set2 (.slice (some ⟨nb2, 0, none⟩) (j + 1) nc2)).grow hg3 (owns_from HAy.out.rows.sets); have q0 : w3.frozen? ⟨w.heap.size, 3, none⟩ = false := low3.f3; have q1 : w3.cell? ⟨w.heap.size, 3, none⟩ = some (.slice bo1 j bc1) := low3.c3)
              have HK4 : Hid (RgGr w (w3.setCell ⟨w.heap.size, 3, none⟩ (.slice (some ⟨gb, 0, none⟩) (j + 1) cb)) K m (j + 1)) := HAy.out.step HR.out hg1 ho1 hg2 ho2 hg3 (by rw [← HY.out]; exact ho3) hor
              go_roundw
              case rel => exact ⟨j + 1, by omega, by go_num, HK4⟩
              case measure => simp [intOf]; omega
    · have e : j = K := by omega
      subst e
      obtain ⟨nb, hnb0, hnb1, hno⟩ : ∃ nb, w.heap.size + 1 ≤ nb ∧ nb < wr.heap.size ∧ no1 = some ⟨nb, 0, none⟩ := by
        obtain ⟨g1, c1, h1, h2, h3⟩ := hat.rows.next.form (by omega)
        injection h1 with h4 _ _
        exact ⟨g1, h2, h3, h4⟩
      subst hno
      obtain ⟨q, hq⟩ : ∃ q, q + 1 = j := ⟨j - 1, by omega⟩
      have hqi : (j : Int) - 1 = (q : Int) := by omega
      have hqj : q < j := by omega
      have hf1 := hat.fair hK1 hK10 hm3
      have HF2 : Hid (∀ w4, Below wr.heap.size wr w4 → Calls Try.prog 14 #[.agg #[.slice so1 j sc1, .int .i64 1, .slice (some ⟨nb, 0, none⟩) j nc1, .slice bo1 j bc1, .int .i64 (m : Int)]] (w4.setCell ⟨nb, q, none⟩ (.slice none 0 0)) fun e w' => e = .returned (.tuple #[.int .i64 0, .int .i64 11]) ∧ Below (w4.setCell ⟨nb, q, none⟩ (.slice none 0 0)).heap.size (w4.setCell ⟨nb, q, none⟩ (.slice none 0 0)) w') := fun w4 hb => hat.torn hK1 hK10 hm3 hq hb
      have HC : Hid (∀ w4, Below wr.heap.size wr w4 → w4.cell? ⟨w.heap.size, 0, none⟩ = some (.slice so1 j sc1) ∧ w4.cell? ⟨w.heap.size, 1, none⟩ = some (.int .i64 1) ∧ w4.cell? ⟨w.heap.size, 2, none⟩ = some (.slice (some ⟨nb, 0, none⟩) j nc1) ∧ w4.cell? ⟨w.heap.size, 3, none⟩ = some (.slice bo1 j bc1) ∧ w4.cell? ⟨w.heap.size, 4, none⟩ = some (.int .i64 (m : Int)) ∧ (∃ u, w4.cell? ⟨nb, q, none⟩ = some u) ∧ w4.frozen? ⟨nb, q, none⟩ = false ∧ Below w.heap.size w w4) := fun w4 hb => by
        have hl := hat.low.keep (hb.mono hat.size)
        have hr := (hat.rows.later hb).next
        refine ⟨hl.c0, hl.c1, hl.c2, hl.c3, hl.c4, ?_, hr.frozenAt q, hl.below⟩
        have hul : us.length = j := by simpa using hr.1
        exact ⟨us[q]'(by omega), by rw [hr.cellAt q (by omega)]; exact List.getElem?_eq_getElem _⟩
      have hne : ¬ w.heap.size = nb := by omega
      have hne' : ¬ nb = w.heap.size := by omega
      obtain ⟨c0, c1, c2, c3, c4, _, _, _⟩ := HC.out wr (Below.refl _ _)
      clear hat HJ hq
      go_wp2_with (first | (go_at_call 14; refine hf1.mono ?_; rintro e w4 ⟨rfl, hb4⟩; obtain ⟨d0, d1, d2, d3, d4, ⟨u, du⟩, df, hbw⟩ := HC.out w4 hb4; have hf2 := HF2.out w4 hb4; clear hf1) | (go_at_call 14; refine hf2.mono ?_; rintro e w6 ⟨rfl, hb6⟩))
      go_ret
      refine ⟨by first | rfl | simp, ?_⟩
      have hb5 : Below w.heap.size w (w4.setCell ⟨nb, q, none⟩ (.slice none 0 0)) := hbw.setCell (by show w.heap.size ≤ nb; omega) _
      exact hb5.trans (hb6.mono hb5.size)
end Go.Proofs.Ytalpodgndfnjcaa
