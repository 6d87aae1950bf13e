/-
  The contract of the keeping laws' own Graph.
-/
import Derived.Test.YtdmclgbmdhhdiaaKGraph1
import Derived.Deep.RegionHeld3
import Derived.Deep.Cut
import Derived.Deep.CutBlock
import Derived.Deep.CutRange
import Derived.Deep.DeepCutAuto
namespace Go.Proofs.Ytdmclgbmdhhdiaa
open Go.ChangeShapes Go.WideShapes Go.ChangeAt Go.RowKit Go.Deep
open Terms

set_option maxHeartbeats 3200000 in
set_option maxRecDepth 20000 in
/-- THE CONTRACT OF Graph. -/
theorem graphFn_any (no bo : Option Addr) (nc bc : Nat) (ls : List (List Int)) (bs : List Int) (wi wm : Int) (w : World) (hL : ListsR w (.slice no ls.length nc) ls) (hlz : ls.length ≤ 140737488355328) (hS : IntsR w (.slice bo bs.length bc) bs) (hwi : I64 wi) (hwm : I64 wm) :
    Calls Try.prog 4 #[.agg #[.slice no ls.length nc, .slice bo bs.length bc, .int .i64 wi, .int .i64 wm]] w fun e w' => ∃ so sc no' nc' bo' bc' g, e = .returned (.agg #[.slice so g.spots.length sc, .int .i64 g.init, .slice no' g.next.length nc', .slice bo' g.sets.length bc', .int .i64 g.many]) ∧ Below w.heap.size w w' ∧ Hid (GraphV w' (.slice so g.spots.length sc) (.slice no' g.next.length nc') (.slice bo' g.sets.length bc') g ∧ GOk g ∧ g.spots.length = min ls.length 20 ∧ ∀ i, i < g.spots.length → (g.next.getD i []).length ≤ 6) := by
  have hpm := fun w => picked_is wm 4 w hwm (by omega) (by omega)
  have hpr := pk_range (n := wm) (m := 4) (by omega)
  obtain ⟨mm, hmm⟩ : ∃ mm : Nat, pk wm 4 = mm := ⟨(pk wm 4).toNat, by omega⟩
  rw [hmm] at hpm hpr
  have hm3 : mm ≤ 3 := by omega
  obtain ⟨n, hn⟩ : ∃ n, n = min ls.length 20 := ⟨_, rfl⟩
  have hn20 : n ≤ 20 := by omega
  have hmin : min (ls.length : Int) 20 = (n : Int) := by omega
  have HN : Hid (n ≤ ls.length) := by show _ ≤ _; omega
  have HNe : Hid (n = min ls.length 20) := hn
  have HL : Hid (ListsR w (.slice no ls.length nc) ls) := hL
  have HS : Hid (IntsR w (.slice bo bs.length bc) bs) := hS
  have hbl : bs.length ≤ 140737488355328 := by have := hS.size; omega
  obtain ⟨nl, hnl⟩ : ∃ nl, nl = ls.length := ⟨_, rfl⟩
  obtain ⟨bl, hbl2⟩ : ∃ bl, bl = bs.length := ⟨_, rfl⟩
  rw [← hnl] at HL hlz hn hmin HN HNe ⊢
  rw [← hbl2] at HS hbl ⊢
  have HLl : Hid (ls.length = nl) := hnl.symm
  have HBl : Hid (bs.length = bl) := hbl2.symm
  clear hL hS hn hmm hpr hnl hbl2
  go_enter Try.func4, Try.ntmps4
  go_upto_region 1 with fail
  go_cut [3] (fun s3 wx => s3 = .int .i64 (n : Int) ∧ wx = ((w.alloc (.cells #[.slice no nl nc, .slice bo bl bc, .int .i64 wi, .int .i64 wm] 25)).alloc (.cells #[.slice none 0 0, .int .i64 0, .slice none 0 0, .slice none 0 0, .int .i64 0] 28)))
  case first =>
    by_cases hc : nl ≤ 20
    · have h1 : (nl : Int) ≤ 20 := by omega
      go_wp2_with fail
      all_goals go_meet
      all_goals exact ⟨by have := HNe.out; congr 1; omega, rfl⟩
    · have h1 : (20 : Int) < (nl : Int) := by omega
      go_wp2_with fail
      all_goals go_meet
      all_goals exact ⟨by have := HNe.out; congr 1; omega, rfl⟩
  case rest =>
    obtain ⟨rfl, hwc⟩ := hcut
    rw [hwc]
    clear hwc hmin
    have hpi := fun (w : World) (h0 : 0 < (n : Int)) => picked_is wi (n : Int) w hwi h0 (by omega)
    have hpr2 := fun (h0 : 0 < (n : Int)) => pk_range (n := wi) (m := (n : Int)) h0
    go_upto_if 18 with (go_at_call_of 6 wm; refine (hpm _).mono ?_; rintro e w9 ⟨rfl, rfl⟩)
    go_cut [] (fun wx => Hid (∃ gi : Int, 0 ≤ gi ∧ gi ≤ (n : Int) ∧ KGr w wx (.slice no nl nc) (.slice bo bl bc) n mm gi 0))
    case first =>
      by_cases h0 : 0 < n
      · have h0' : (0 : Int) < (n : Int) := by omega
        have hp := fun w => hpi w h0'
        obtain ⟨q0, q1⟩ := hpr2 h0'
        generalize pk wi (n : Int) = pi at *
        clear hpi hpr2
        go_wp2_with (go_at_call_of 6 wi; refine (hp _).mono ?_; rintro e w8 ⟨rfl, rfl⟩)
        all_goals go_meet
        all_goals exact ⟨pi + 1, by omega, by omega, _, _, _, _, _, start_at w _ _ _ _ _ _ n mm (pi + 1) rfl⟩
      · have h0' : ¬ (0 : Int) < (n : Int) := by omega
        clear hpi hpr2
        go_wp2_with fail
        all_goals go_meet
        all_goals exact ⟨0, by omega, by omega, _, _, _, _, _, start_at w _ _ _ _ _ _ n mm 0 rfl⟩
    case rest =>
      obtain ⟨gi, hgi0, hgi1, HI0⟩ := hcut.out
      have HI : Hid (KGr w wc (.slice no nl nc) (.slice bo bl bc) n mm gi 0) := HI0
      have HGb : Hid (0 ≤ gi ∧ gi ≤ (n : Int)) := ⟨hgi0, hgi1⟩
      clear hcut HI0 hpi hpr2 hpm
      obtain ⟨iS, hiS, hs0, hs1, hs2⟩ := info_parts infoSpot
      obtain ⟨iL, hiL, hl0, hl1, hl2⟩ := info_parts infoInts
      obtain ⟨i0, hi, hz0, hz1, hz2⟩ := info_parts infoInt
      have HNL : Hid (n ≤ nl ∧ n ≤ 20) := ⟨HN.out, hn20⟩
      have HPk : Hid (∀ (x : Int) (w : World), I64 x → 0 < (n : Int) → Calls Try.prog 6 #[.int .i64 x, .int .i64 (n : Int)] w fun e w' => e = .returned (.int .i64 (pk x n)) ∧ w' = w) := fun x w hx h0 => picked_is x n w hx h0 (by omega)
      go_wp2_with fail
      go_loopw [5] (fun i wr => ∃ k : Nat, k ≤ n ∧ i = .int .i64 k ∧ Hid (KGr w wr (.slice no nl nc) (.slice bo bl bc) n mm gi k)) (fun i _ => n - (intOf i).toNat)
      case atStart => exact ⟨0, Nat.zero_le _, rfl, HI⟩
      case round =>
        obtain ⟨k, hk, rfl, HK⟩ := hrel
        obtain ⟨sv, nv, bv, us, g, hat⟩ := HK.out
        obtain ⟨so1, sc1, no1, nc1, bo1, bc1, rfl, rfl, rfl⟩ := hat.shape
        by_cases hlt : k < n
        · have hkl : k < nl := Nat.lt_of_lt_of_le hlt HNL.out.1
          have hk20 : k < 20 := Nat.lt_of_lt_of_le hlt HNL.out.2
          have hLl : ls.length = nl := HLl.out
          obtain ⟨nb, noff, rfl, hnb, uo, uc, hcu0, hiu⟩ := HL.out.at (i := k) (by rw [hLl]; exact hkl)
          have hul : (ls.getD k []).length ≤ 140737488355328 := by have := hiu.size; omega
          have HIU : Hid (IntsR w (.slice uo (ls.getD k []).length uc) (ls.getD k [])) := hiu
          have HAt : Hid (KAt w wr (.slice (some ⟨nb, noff, none⟩) nl nc) (.slice bo bl bc) n mm gi k (.slice so1 k sc1) (.slice no1 k nc1) (.slice bo1 k bc1) us g) := hat
          generalize ls.getD k [] = row at *
          obtain ⟨rl, hrl⟩ : ∃ rl, rl = row.length := ⟨_, rfl⟩
          have HRL : Hid (rl = row.length) := hrl
          rw [← hrl] at hcu0 hul HIU
          have hszr := hat.size
          have hbwr := hat.below
          clear hiu hrl hat HK hLl
          generalize wr = wo at *
          go_upto_block 2 with fail
          go_cut [6] (fun s6 wx => ∃ (lo : Option Addr) (q lc : Nat), s6 = .slice lo q lc ∧ Hid (∃ l : List Int, l.length = q ∧ q ≤ 6 ∧ (∀ j, j < l.length → 0 ≤ l.getD j 0 ∧ l.getD j 0 < n) ∧ wx.ownsRow wo.heap.size 3 1 (.slice lo q lc) l.length (ivals l)) ∧ Hid (Below wo.heap.size wo wx))
          case first =>
            go_wp2_with fail
            go_loopw [6, 7] (fun v i wr => ∃ q : Nat, q ≤ 6 ∧ q ≤ rl ∧ i = .int .i64 q ∧ Hid (∃ l : List Int, l.length = q ∧ (∀ j, j < l.length → 0 ≤ l.getD j 0 ∧ l.getD j 0 < n) ∧ wr.ownsRow wo.heap.size 3 1 v l.length (ivals l)) ∧ Hid (Below wo.heap.size wo wr)) (fun _ i _ => 6 - (intOf i).toNat)
            case atStart => exact ⟨0, by omega, by omega, rfl, ⟨[], rfl, fun j hj => by simp at hj, World.ownsRow_nil _ _ _ _⟩, Below.refl _ _⟩
            case round =>
              obtain ⟨q, hq6, hqr, rfl, HQ, HBq⟩ := hrel
              obtain ⟨l, hlq0, hli, hown⟩ := HQ.out
              obtain ⟨lo1, lc1, rfl⟩ := owns_slice hown
              have hbq := hbwr.trans (HBq.out.mono hbwr.size)
              have hatq := HAt.out.later HBq.out
              have hcu := (hbq.cell (p := ⟨nb, noff + k, none⟩) hnb).trans hcu0
              have kb0 := hatq.b0
              have kb1 := hatq.b1
              by_cases hgo : q < rl ∧ q < 6
              · obtain ⟨hg1, hg2⟩ := hgo
                obtain ⟨ub, uoff, rfl, hub, hcy0⟩ := HIU.out.v.num (i := q) (by rw [← HRL.out]; exact hg1)
                have hcy := (hbq.cell (p := ⟨ub, uoff + q, none⟩) hub).trans hcy0
                have hr64 := HIU.out.range q (by rw [← HRL.out]; exact hg1)
                have hpk := fun w => HPk.out (row.getD q 0) w hr64 (by omega)
                have hpr := pk_range (n := row.getD q 0) (m := (n : Int)) (by omega)
                generalize pk (row.getD q 0) (n : Int) = y at *
                generalize row.getD q 0 = x at *
                have HN : Hid (∀ (w5 : World) (v' : Value), w5.ownsRow wo.heap.size 3 1 v' (q + 1) (ivals l ++ [.int .i64 y]) → ∃ l : List Int, l.length = q + 1 ∧ (∀ j, j < l.length → 0 ≤ l.getD j 0 ∧ l.getD j 0 < n) ∧ w5.ownsRow wo.heap.size 3 1 v' l.length (ivals l)) := fun w5 v' h => ⟨l ++ [y], by simp [hlq0], fun j hj => by
                  by_cases hjl : j < l.length
                  · rw [getD_snocI hjl]; exact hli j hjl
                  · obtain rfl : j = l.length := by simp at hj; omega
                    rw [getD_snocI']; exact hpr, by rw [List.length_append, hlq0, show ivals (l ++ [y]) = ivals l ++ [.int .i64 y] by simp [ivals]]; exact h⟩
                rw [hlq0] at hown ⊢
                have hnb2 := hown.lt
                have h63 : q + 1 ≤ maxLen := by unfold maxLen; omega
                have hkb : (q + 1) * 8 ≤ 140737488355328 := by omega
                have hown4 := fun o => hown.alloc o
                have hbase : ∀ o, wo.heap.size ≤ (wr.alloc o).heap.size := fun o => by have := HBq.out.size; simp; omega
                clear HQ hli hown hatq hbq hcy0 hr64
                go_wp2_with (first | (go_at_call 6; refine (hpk _).mono ?_; rintro e w9 ⟨rfl, rfl⟩) | (at_builtin; refine wpList_append_own _ rfl (.tmp 44) (.tmp 55) 23 rfl wo.heap.size 3 i0 (.int .i64 0) 1 8 Try.underlying23 hi hz0 hz1 hz2 rfl (by decide) (.slice lo1 q lc1) q _ rfl (hown4 _) ⟨w9.heap.size, 0, none⟩ 1 1 [.int .i64 y] rfl rfl (cell_one_new _ _ _) (by intro u hu; simp at hu; subst hu; rfl) h63 hkb (hbase _) ?_; intro v' w5 hown' hgrow _))
                have hb5 : Below wo.heap.size wo w5 := (HBq.out.alloc HBq.out.size _).grown hgrow (hbase _) (fun z hz => (hnb2 z hz).1)
                have HN5 := (show Hid _ from HN.out w5 v' hown')
                go_roundw
                case rel => exact ⟨q + 1, by omega, by omega, by go_num, HN5, hb5⟩
                case measure => simp [intOf]; omega
              · have HX : Hid (∃ l : List Int, l.length = q ∧ q ≤ 6 ∧ (∀ j, j < l.length → 0 ≤ l.getD j 0 ∧ l.getD j 0 < n) ∧ wr.ownsRow wo.heap.size 3 1 (.slice lo1 q lc1) l.length (ivals l)) := ⟨l, hlq0, hq6, hli, by rw [hlq0] at hown ⊢; exact hown⟩
                rw [hlq0] at *
                clear HQ hli hown hatq hbq
                by_cases hq1 : q < rl
                · have hq2 : ¬ q < 6 := fun h => hgo ⟨hq1, h⟩
                  have hq2' : ¬ (q : Int) < 6 := by omega
                  clear hgo
                  go_wp2_with fail
                  all_goals go_meet
                  all_goals exact ⟨_, _, _, rfl, HX, HBq⟩
                · clear hgo
                  go_wp2_with fail
                  all_goals go_meet
                  all_goals exact ⟨_, _, _, rfl, HX, HBq⟩
          case rest =>
            obtain ⟨lo1, q, lc1, rfl, HX, HBx⟩ := hcut
            generalize hwx : wc = wx at *
            clear hwx
            have kx1 := (HAt.out.later HBx.out).b1
            go_upto_if 61 with fail
            go_cut [8] (fun s8 wz => ∃ y : Int, s8 = .int .i64 y ∧ Hid (0 ≤ y ∧ y ≤ 2 ^ mm - 1) ∧ Hid (Below wx.heap.size wx wz))
            case first =>
              by_cases hs : k < bl
              · obtain ⟨bb, boff, rfl, hbb, hcz0⟩ := HS.out.v.num (i := k) (by rw [HBl.out]; exact hs)
                have hr64 := HS.out.range k (by rw [HBl.out]; exact hs)
                generalize bs.getD k 0 = x at *
                have hS : ∀ w', Below wx.heap.size wx w' → w'.cell? ⟨w.heap.size, 1, none⟩ = some (.slice (some ⟨bb, boff, none⟩) bl bc) ∧ w'.cell? ⟨w.heap.size + 1 + 1, 4, none⟩ = some (.int .i64 (mm : Int)) ∧ w'.cell? ⟨bb, boff + k, none⟩ = some (.int .i64 x) := fun w' hb => by
                  have ha := (HAt.out.later HBx.out).later hb
                  exact ⟨ha.b1, ha.box.c4, (ha.below.cell (p := ⟨bb, boff + k, none⟩) hbb).trans hcz0⟩
                obtain ⟨s1, s2, s3⟩ := hS _ (Below.refl _ _)
                have hmc : mm = 0 ∨ mm = 1 ∨ mm = 2 ∨ mm = 3 := by omega
                clear hcz0
                rcases hmc with rfl | rfl | rfl | rfl
                · have hp := fun w => picked_is x 1 w hr64 (by omega) (by omega)
                  have hpr := pk_range (n := x) (m := 1) (by omega)
                  have HY : Hid (0 ≤ pk x 1 ∧ pk x 1 ≤ 2 ^ 0 - 1) := ⟨hpr.1, by have := hpr.2; simp; try omega⟩
                  generalize pk x 1 = y at *
                  clear hpr
                  go_wp2_with fail
                  go_region_held3 (fun w' => w'.cell? ⟨w.heap.size, 1, none⟩ = some (.slice (some ⟨bb, boff, none⟩) bl bc) ∧ w'.cell? ⟨w.heap.size + 1 + 1, 4, none⟩ = some (.int .i64 ((0 : Nat) : Int)) ∧ w'.cell? ⟨bb, boff + k, none⟩ = some (.int .i64 x)) (exact hS _ (by first | exact (Below.refl _ _).drew | exact Below.refl _ _)) ((go_at_call 6; refine (hp _).mono ?_; rintro e w9 ⟨rfl, rfl⟩))
                  go_wp2_with fail
                  all_goals go_meet
                  all_goals exact ⟨_, rfl, HY, by first | exact (Below.refl _ _).drew | exact Below.refl _ _⟩
                · have hp := fun w => picked_is x 2 w hr64 (by omega) (by omega)
                  have hpr := pk_range (n := x) (m := 2) (by omega)
                  have HY : Hid (0 ≤ pk x 2 ∧ pk x 2 ≤ 2 ^ 1 - 1) := ⟨hpr.1, by have := hpr.2; simp; try omega⟩
                  generalize pk x 2 = y at *
                  clear hpr
                  go_wp2_with fail
                  go_region_held3 (fun w' => w'.cell? ⟨w.heap.size, 1, none⟩ = some (.slice (some ⟨bb, boff, none⟩) bl bc) ∧ w'.cell? ⟨w.heap.size + 1 + 1, 4, none⟩ = some (.int .i64 ((1 : Nat) : Int)) ∧ w'.cell? ⟨bb, boff + k, none⟩ = some (.int .i64 x)) (exact hS _ (by first | exact (Below.refl _ _).drew | exact Below.refl _ _)) ((go_at_call 6; refine (hp _).mono ?_; rintro e w9 ⟨rfl, rfl⟩))
                  go_wp2_with fail
                  all_goals go_meet
                  all_goals exact ⟨_, rfl, HY, by first | exact (Below.refl _ _).drew | exact Below.refl _ _⟩
                · have hp := fun w => picked_is x 4 w hr64 (by omega) (by omega)
                  have hpr := pk_range (n := x) (m := 4) (by omega)
                  have HY : Hid (0 ≤ pk x 4 ∧ pk x 4 ≤ 2 ^ 2 - 1) := ⟨hpr.1, by have := hpr.2; simp; try omega⟩
                  generalize pk x 4 = y at *
                  clear hpr
                  go_wp2_with fail
                  go_region_held3 (fun w' => w'.cell? ⟨w.heap.size, 1, none⟩ = some (.slice (some ⟨bb, boff, none⟩) bl bc) ∧ w'.cell? ⟨w.heap.size + 1 + 1, 4, none⟩ = some (.int .i64 ((2 : Nat) : Int)) ∧ w'.cell? ⟨bb, boff + k, none⟩ = some (.int .i64 x)) (exact hS _ (by first | exact (Below.refl _ _).drew | exact Below.refl _ _)) ((go_at_call 6; refine (hp _).mono ?_; rintro e w9 ⟨rfl, rfl⟩))
                  go_wp2_with fail
                  all_goals go_meet
                  all_goals exact ⟨_, rfl, HY, by first | exact (Below.refl _ _).drew | exact Below.refl _ _⟩
                · have hp := fun w => picked_is x 8 w hr64 (by omega) (by omega)
                  have hpr := pk_range (n := x) (m := 8) (by omega)
                  have HY : Hid (0 ≤ pk x 8 ∧ pk x 8 ≤ 2 ^ 3 - 1) := ⟨hpr.1, by have := hpr.2; simp; try omega⟩
                  generalize pk x 8 = y at *
                  clear hpr
                  go_wp2_with fail
                  go_region_held3 (fun w' => w'.cell? ⟨w.heap.size, 1, none⟩ = some (.slice (some ⟨bb, boff, none⟩) bl bc) ∧ w'.cell? ⟨w.heap.size + 1 + 1, 4, none⟩ = some (.int .i64 ((3 : Nat) : Int)) ∧ w'.cell? ⟨bb, boff + k, none⟩ = some (.int .i64 x)) (exact hS _ (by first | exact (Below.refl _ _).drew | exact Below.refl _ _)) ((go_at_call 6; refine (hp _).mono ?_; rintro e w9 ⟨rfl, rfl⟩))
                  go_wp2_with fail
                  all_goals go_meet
                  all_goals exact ⟨_, rfl, HY, by first | exact (Below.refl _ _).drew | exact Below.refl _ _⟩
              · go_wp2_with fail
                all_goals go_meet
                all_goals exact ⟨0, rfl, ⟨by omega, by have : (1 : Int) ≤ 2 ^ mm := (by exact_mod_cast Nat.one_le_two_pow); omega⟩, Below.refl _ _⟩
            case rest =>
              obtain ⟨y, rfl, HY, HBy⟩ := hcut
              obtain ⟨l, hlq, hq6, hli, hlo⟩ := HX.out
              have haty := (HAt.out.later HBx.out).later HBy.out
              have HAy : Hid (KAt w wc (.slice (some ⟨nb, noff, none⟩) nl nc) (.slice bo bl bc) n mm gi k (.slice so1 k sc1) (.slice no1 k nc1) (.slice bo1 k bc1) us g) := haty
              have HLo : Hid (wc.ownsRow (w.heap.size + 3) 3 1 (.slice lo1 q lc1) l.length (ivals l)) := owns_mono (owns_later hlo HBy.out (Nat.le_refl _)) hszr
              have HLa : Hid ((Value.slice lo1 q lc1).ownBlock = none ∨ (Value.slice lo1 q lc1).ownBlock ≠ (Value.slice bo1 k bc1).ownBlock) := owns_new hlo HAt.out.rows.sets (Nat.le_refl _)
              have HLi : Hid (l.length ≤ 6 ∧ ∀ j, j < l.length → 0 ≤ l.getD j 0 ∧ l.getD j 0 < n) := ⟨by omega, hli⟩
              have hsp := fun o => haty.rows.spots.alloc o
              have hsz := haty.size
              have hbase : ∀ o, w.heap.size + 3 ≤ (wc.alloc o).heap.size := fun o => by simp; omega
              have hbox := haty.box
              have k0 : wc.cell? ⟨w.heap.size + 1 + 1, 0, none⟩ = some (.slice so1 k sc1) := hbox.c0
              have h63 : k + 1 ≤ maxLen := by unfold maxLen; omega
              have h16 : (k + 1) * 16 ≤ 140737488355328 := by omega
              have h24 : (k + 1) * 24 ≤ 140737488355328 := by omega
              have h8 : (k + 1) * 8 ≤ 140737488355328 := by omega
              have HRt : Hid (∃ f0 : Bool, True) := ⟨true, trivial⟩
              clear hlo hli hlq haty hbox
              generalize hwy : wc = wy at *
              clear hwy
              go_wp2_with (first
                | (at_builtin; refine wpList_append_own _ rfl (.tmp 72) (.tmp 75) 26 rfl (w.heap.size + 3) 36 iS (.agg #[.int .i64 0, .int .i64 0]) 2 16 Try.underlying26 hiS hs0 hs1 hs2 rfl (by decide) (.slice so1 k sc1) k (flat g.spots) rfl (hsp _) ⟨wy.heap.size, 0, none⟩ 1 1 [.int .i64 (k : Int), .int .i64 0] rfl rfl (two_new _ _ _ _) (by intro u hu; simp at hu; rcases hu with rfl | rfl <;> rfl) h63 h16 (hbase _) ?_; intro sv1 w1 ho1 hg1 _; have low1 := HAy.out.low.grow hg1 (owns_from HAy.out.rows.spots); obtain ⟨so2, sc2, rfl⟩ := owns_slice ho1; have z0 : w1.frozen? ⟨w.heap.size + 1 + 1, 0, none⟩ = false := low1.box.f0; have e0 : w1.cell? ⟨w.heap.size + 1 + 1, 0, none⟩ = some (.slice so1 k sc1) := low1.box.c0; have e2 : w1.cell? ⟨w.heap.size + 1 + 1, 2, none⟩ = some (.slice no1 k nc1) := low1.box.c2; have hnx := (fun o => HAy.out.next1 hg1 (.slice so2 (k + 1) sc2) o); have hs1 := low1.size; have hbase1 : ∀ o, w.heap.size + 3 ≤ ((w1.setCell ⟨w.heap.size + 2, 0, none⟩ (.slice so2 (k + 1) sc2)).alloc o).heap.size := (fun o => by simp; omega))
                | (at_builtin; refine wpList_append_own _ rfl (.tmp 79) (.tmp 81) 22 rfl (w.heap.size + 3) 23 iL (.slice none 0 0) 1 24 Try.underlying22 hiL hl0 hl1 hl2 rfl (by decide) (.slice no1 k nc1) k us rfl (hnx _) ⟨w1.heap.size, 0, none⟩ 1 1 [.slice lo1 q lc1] rfl rfl (one_newS _ _ _ _ _) (by intro u hu; simp at hu; subst hu; rfl) h63 h24 (hbase1 _) ?_; intro nv1 w2 ho2 hg2 _; have low2 := (low1.set0 (.slice so2 (k + 1) sc2)).grow hg2 (owns_from HAy.out.rows.next); obtain ⟨no2, nc2, rfl⟩ := owns_slice ho2; have y0 : w2.frozen? ⟨w.heap.size + 1 + 1, 2, none⟩ = false := low2.box.f2; have d0 : w2.cell? ⟨w.heap.size + 1 + 1, 2, none⟩ = some (.slice no1 k nc1) := low2.box.c2; have d2 : w2.cell? ⟨w.heap.size + 1 + 1, 3, none⟩ = some (.slice bo1 k bc1) := low2.box.c3; have hst := (fun o => HAy.out.sets2 hg1 hg2 (.slice no2 (k + 1) nc2) o); have hsz2 := low2.size; have hbase2 : ∀ o, w.heap.size + 3 ≤ ((w2.setCell ⟨w.heap.size + 2, 2, none⟩ (.slice no2 (k + 1) nc2)).alloc o).heap.size := (fun o => by simp; omega))
                | (at_builtin; refine wpList_append_lies _ rfl (.tmp 85) (.tmp 87) 23 rfl (w.heap.size + 3) 3 i0 (.int .i64 0) 1 8 Try.underlying23 hi hz0 hz1 hz2 rfl (by decide) (.slice bo1 k bc1) k (ivals g.sets) rfl (hst _) ⟨w2.heap.size, 0, none⟩ 1 1 [.int .i64 y] rfl rfl (one_newS _ _ _ _ _) (by intro u hu; simp at hu; subst hu; rfl) (by decide) h63 h8 (hbase2 _) _ rfl ?_; intro gb cb w3 ho3 hg3 hor hlt3; have low3 := (low2.set2 (.slice no2 (k + 1) nc2)).grow hg3 (owns_from HAy.out.rows.sets); have q0 : w3.frozen? ⟨w.heap.size + 1 + 1, 3, none⟩ = false := low3.box.f3; have q1 : w3.cell? ⟨w.heap.size + 1 + 1, 3, none⟩ = some (.slice bo1 k bc1) := low3.box.c3))
              have HK4 : Hid (KGr w (w3.setCell ⟨w.heap.size + 1 + 1, 3, none⟩ (.slice (some ⟨gb, 0, none⟩) (k + 1) cb)) (.slice (some ⟨nb, noff, none⟩) nl nc) (.slice bo bl bc) n mm gi (k + 1)) := ⟨_, _, _, _, _, HAy.out.step HLo.out HLa.out HLi.out.1 HLi.out.2 HY.out hg1 ho1 hg2 ho2 hg3 ho3 hor⟩
              go_roundw
              case rel => exact ⟨k + 1, by omega, by go_num, HK4⟩
              case measure => simp [intOf]; omega
        · have HKn : Hid (k = n) := by show _ = _; omega
          have HD : Hid (GOk g ∧ g.spots.length = n ∧ ∀ i, i < g.spots.length → (g.next.getD i []).length ≤ 6) := hat.done HKn.out HGb.out hm3 hn20
          have c0 : wr.cell? ⟨w.heap.size + 1 + 1, 0, none⟩ = some (.slice so1 k sc1) := hat.box.c0
          have c1 : wr.cell? ⟨w.heap.size + 1 + 1, 1, none⟩ = some (.int .i64 gi) := hat.box.c1
          have c2 : wr.cell? ⟨w.heap.size + 1 + 1, 2, none⟩ = some (.slice no1 k nc1) := hat.box.c2
          have c3 : wr.cell? ⟨w.heap.size + 1 + 1, 3, none⟩ = some (.slice bo1 k bc1) := hat.box.c3
          have c4 : wr.cell? ⟨w.heap.size + 1 + 1, 4, none⟩ = some (.int .i64 (mm : Int)) := hat.box.c4
          obtain ⟨_, _, _, _, _, _, _, _, _, r0, r1, r2, r3, r4, z0, z1, z2, z3, z4⟩ := hat.box
          obtain ⟨t0, t1, t2, t3, t4⟩ := ktower_cells hat.box (.slice so1 k sc1) (.int .i64 gi) (.slice no1 k nc1) (.slice bo1 k bc1) (.int .i64 (mm : Int))
          have HBe : Hid _ := ktower_below hat.below (.slice so1 k sc1) (.int .i64 gi) (.slice no1 k nc1) (.slice bo1 k bc1) (.int .i64 (mm : Int))
          have HV : Hid _ := hat.tower (.slice so1 k sc1) (.int .i64 gi) (.slice no1 k nc1) (.slice bo1 k bc1) (.int .i64 (mm : Int))
          have HAt : Hid (KAt w wr (.slice no nl nc) (.slice bo bl bc) n mm gi k (.slice so1 k sc1) (.slice no1 k nc1) (.slice bo1 k bc1) us g) := hat
          clear hat HK
          go_wp2_with fail
          have h1 := HAt.out.rows.ks
          have h2 := HAt.out.rows.kn
          have h3 := HAt.out.rows.kb
          have h4 := HAt.out.init
          have h5 := HAt.out.kg.many
          refine bodyPost_ret (v := .agg #[.slice so1 k sc1, .int .i64 gi, .slice no1 k nc1, .slice bo1 k bc1, .int .i64 (mm : Int)]) ?_ rfl ⟨so1, sc1, no1, nc1, bo1, bc1, g, by rw [h1, h2, h3, h4, h5], HBe.out, by rw [h1, h2, h3]; exact HV.out, HD.out.1, by rw [HD.out.2.1]; exact HNe.out, HD.out.2.2⟩
          simp only [results, Try.results4]
          simp [go_sem, t0, t1, t2, t3, t4]
end Go.Proofs.Ytdmclgbmdhhdiaa
