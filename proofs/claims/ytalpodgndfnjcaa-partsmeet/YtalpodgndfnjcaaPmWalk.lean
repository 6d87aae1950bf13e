/-
  The walk of PartsMeet.
-/
import Derived.Test.YtalpodgndfnjcaaKParts
namespace Go.Proofs.Ytalpodgndfnjcaa
open Go.ChangeShapes Go.WideShapes Go.ChangeAt Go.RowKit Go.Deep
open Terms

set_option maxHeartbeats 3200000 in
set_option maxRecDepth 20000 in
theorem partsMeet_walk (nv bv : Value) (ls : List (List Int)) (bs : List Int) (wi wm a b : Int) (w : World) (hL : ListsR w nv ls) (hlz0 : ls.length * 24 ≤ 140737488355328) (hS : IntsR w bv bs) (hwi : I64 wi) (hwm : I64 wm) (ha : I64 a) (hb : I64 b) :
    Calls Try.prog 3 #[.agg #[nv, bv, .int .i64 wi, .int .i64 wm], .int .i64 a, .int .i64 b] w fun e w' => e = .returned (.bool true) ∧ Below w.heap.size w w' := by
  have hlz : ls.length ≤ 140737488355328 := by omega
  obtain ⟨no, nc, rfl⟩ : ∃ no nc, nv = .slice no ls.length nc := by obtain ⟨us, a, c, h, _⟩ := hL; exact ⟨a, c, h⟩
  obtain ⟨bo, bc, rfl⟩ : ∃ bo bc, bv = .slice bo bs.length bc := by obtain ⟨a, c, h, _⟩ := hS.v; exact ⟨a, c, h⟩
  obtain ⟨W0, hW0⟩ : ∃ W0, W0 = w.alloc (.cells #[.slice no ls.length nc, .slice bo bs.length bc, .int .i64 wi, .int .i64 wm] 25) := ⟨_, rfl⟩
  have hA : Below w.heap.size w W0 := by rw [hW0]; exact (Below.refl _ _).alloc (Nat.le_refl _) _
  have hgr := graphFn_got no bo nc bc ls bs wi wm W0 (hL.below hA) hlz (hS.below hA) hwi hwm
  generalize ls.length = nl at *
  generalize bs.length = bl at *
  clear hL hS
  subst hW0
  go_enter Try.func3, Try.ntmps3
  go_upto_region 2 with (go_at_call 8; refine hgr.mono ?_; rintro e w1 ⟨so1, sc1, no1, nc1, bo1, bc1, n, gi, mm, g, rfl, hb1, hnm, HG⟩; clear hnm)
  clear hgr
  have HBx : Hid (∀ w', Below (w1.alloc (.cells #[.slice so1 n sc1, .int .i64 (gi : Int), .slice no1 n nc1, .slice bo1 n bc1, .int .i64 (mm : Int)] 28)).heap.size (w1.alloc (.cells #[.slice so1 n sc1, .int .i64 (gi : Int), .slice no1 n nc1, .slice bo1 n bc1, .int .i64 (mm : Int)] 28)) w' → KGot w' so1 sc1 no1 nc1 bo1 bc1 n gi mm g ∧ Below w1.heap.size w1 w' ∧ w1.heap.size < w'.heap.size ∧ w'.cell? ⟨w1.heap.size, 0, none⟩ = some (.slice so1 n sc1) ∧ w'.cell? ⟨w1.heap.size, 1, none⟩ = some (.int .i64 (gi : Int)) ∧ w'.cell? ⟨w1.heap.size, 2, none⟩ = some (.slice no1 n nc1) ∧ w'.cell? ⟨w1.heap.size, 3, none⟩ = some (.slice bo1 n bc1) ∧ w'.cell? ⟨w1.heap.size, 4, none⟩ = some (.int .i64 (mm : Int))) := HG.out.box rfl
  have hw1 : Below w.heap.size w w1 := hA.trans (hb1.mono hA.size)
  have hn20 := HG.out.small
  have HLn : Hid (g.spots.length = n) := HG.out.len
  generalize w1.alloc (.cells #[.slice so1 n sc1, .int .i64 (gi : Int), .slice no1 n nc1, .slice bo1 n bc1, .int .i64 (mm : Int)] 28) = W2 at HBx ⊢
  obtain ⟨hk2, hb2, hs2, c0, c1, c2, c3, c4⟩ := HBx.out W2 (Below.refl _ _)
  have hpa := hk2.parts
  clear hb1 hk2 HG hA
  by_cases hn0 : n = 0
  · subst hn0
    go_wp2_with (first | (go_at_call 9; refine hpa.mono ?_; rintro e w3 ⟨B, rfl, hb3, HP⟩; obtain ⟨_, hb13, _, d0, _, _, _, _⟩ := HBx.out w3 hb3; have hck := scheck_head none none none 0 0 0 ⟨[], 1, [], [], 0⟩ w3 (fun h => by have := h.init1; simp at this) (by simp) (by simp) (by simp); rw [gcode_head (g := ⟨[], 1, [], [], 0⟩) (fun h => by have := h.init1; simp at this)] at hck) | (go_at_call 10; refine hck.mono ?_; rintro e w5 ⟨rfl, hb5⟩))
    go_ret
    exact ⟨by first | rfl | simp, (hw1.trans (hb13.mono hw1.size)).trans (hb5.mono (hw1.trans (hb13.mono hw1.size)).size)⟩
  · have hnn : 0 < (n : Int) := by omega
    have hn0' : ¬ (n : Int) = 0 := by omega
    have hpka := fun w => picked_is a (n : Int) w ha hnn (by omega)
    have hpkb := fun w => picked_is b (n : Int) w hb hnn (by omega)
    obtain ⟨qa0, qa1⟩ := pk_range (n := a) (m := (n : Int)) hnn
    obtain ⟨qb0, qb1⟩ := pk_range (n := b) (m := (n : Int)) hnn
    obtain ⟨x, hx⟩ : ∃ x : Nat, pk a (n : Int) = x := ⟨(pk a (n : Int)).toNat, by omega⟩
    obtain ⟨y, hy⟩ : ∃ y : Nat, pk b (n : Int) = y := ⟨(pk b (n : Int)).toNat, by omega⟩
    rw [hx] at hpka qa0 qa1
    rw [hy] at hpkb qb0 qb1
    have hxn : x < n := by omega
    have hyn : y < n := by omega
    clear hx hy ha hb
    go_wp2_with (first | (go_at_call 9; refine hpa.mono ?_; rintro e w3 ⟨B, rfl, hb3, HP⟩; obtain ⟨hk3, hb13, hs3, d0, d1, d2, d3, d4⟩ := HBx.out w3 hb3; have hrx := hk3.reaches hxn) | (go_at_call_of 11 a; refine (hpka _).mono ?_; rintro e w9 ⟨rfl, rfl⟩) | (go_at_call_of 11 b; refine (hpkb _).mono ?_; rintro e w9 ⟨rfl, rfl⟩) | (go_at_call_of 12 x; refine hrx.mono ?_; rintro e w4 ⟨rfl, hb4, HR4⟩; have hb34 := hb3.trans (hb4.mono hb3.size); obtain ⟨hk4, hb14, hs4, f0, f1, f2, f3, f4⟩ := HBx.out w4 hb34; have hry := hk4.reaches hyn; clear hrx) | (go_at_call_of 12 y; refine hry.mono ?_; rintro e w5 ⟨rfl, hb5, HR5⟩))
    obtain ⟨pt, hBl, hrow3, hpt⟩ := HP.out
    have hrow := row_later (row_later hrow3 hb4) hb5
    have hto := row_later HR4.out hb5
    have hbk := HR5.out
    have HTo : Hid ((reachB (nxt g) [x] n).getD y false = true ↔ Way (nxt g) x y) := by
      show _ ↔ _
      rw [reachB_at hyn]; simp
    have HBk : Hid ((reachB (nxt g) [y] n).getD x false = true ↔ Way (nxt g) y x) := by
      show _ ↔ _
      rw [reachB_at hxn]; simp
    have hLn := HLn.out
    have HPx : Hid (pt x = pt y ↔ Way (nxt g) x y ∧ Way (nxt g) y x) := (hpt x (by omega)).iff (hpt y (by omega))
    have HAt : Hid (∀ k, k < n → ∃ z : Nat, pt k = (z : Int) ∧ z ≤ k ∧ pt z = (z : Int)) := fun k hk => by
      obtain ⟨z, h1, h2, _, h4⟩ := hpt.at (x := k) (by omega)
      exact ⟨z, h1, h2, h4⟩
    have hbw5 : Below w.heap.size w w5 := by
      have h14 := hb14.trans (hb5.mono hb14.size)
      exact hw1.trans (h14.mono hw1.size)
    have cto : w5.cell? ⟨w9.heap.size + 1, y, none⟩ = some (.bool ((reachB (nxt g) [x] n).getD y false)) := hto.cell hyn
    have cbk : w5.cell? ⟨w4.heap.size + 1, x, none⟩ = some (.bool ((reachB (nxt g) [y] n).getD x false)) := hbk.cell hxn
    have cpx : w5.cell? ⟨B, x, none⟩ = some (.int .i64 (pt x)) := hrow.cell hxn
    have cpy : w5.cell? ⟨B, y, none⟩ = some (.int .i64 (pt y)) := hrow.cell hyn
    have HRow : Hid (w5.rowIs B 3 n (intRow pt)) := hrow
    generalize (reachB (nxt g) [x] n).getD y false = b1 at *
    generalize (reachB (nxt g) [y] n).getD x false = b2 at *
    have HFin : Hid (decide (pt x = pt y) = (b1 && b2)) := by
      show _ = _
      rw [Bool.eq_iff_iff, decide_eq_true_iff, HPx.out, Bool.and_eq_true, HTo.out, HBk.out]
    clear hto hbk hrow hrow3 hpt hLn HP HR4 HR5 d0 d1 d2 d3 d4 f0 f1 f2 f3 f4 c0 c1 c2 c3 c4 hpa hpka hpkb hry HBx hk3 hk4 HTo HBk HPx
    go_loopw [14] (fun i wr => ∃ k : Nat, k ≤ n ∧ i = .int .i64 k ∧ ∃ d, wr = w5.drewN d) (fun i _ => n - (intOf i).toNat)
    case atStart => exact ⟨0, Nat.zero_le _, rfl, 0, rfl⟩
    case round =>
      obtain ⟨k, hk, rfl, d, rfl⟩ := hrel
      by_cases hlt : k < n
      · obtain ⟨z, hz1, hz2, hz3⟩ := HAt.out k hlt
        have e1 : w5.cell? ⟨B, k, none⟩ = some (.int .i64 (z : Int)) := by rw [← hz1]; exact HRow.out.cell hlt
        have e2 : w5.cell? ⟨B, z, none⟩ = some (.int .i64 (z : Int)) := by rw [← hz3]; exact HRow.out.cell (by omega)
        have hzn : z < n := by omega
        clear hz1 hz3 cpx cpy
        go_wp2_with fail
        have t1 : decide ((z : Int) < 0) = false := decide_eq_false (by omega)
        have t2 : decide ((k : Int) < (z : Int)) = false := decide_eq_false (by omega)
        go_quiet (fail)
        go_wp2_with fail
        go_roundw
        case rel => exact ⟨k + 1, by omega, by go_num, _, rfl⟩
        case measure => simp [intOf]; omega
      · generalize pt x = z1 at *
        generalize pt y = z2 at *
        cases b1
        · go_wp2_with fail
          go_quiet (fail)
          go_wp2_with fail
          go_ret
          refine ⟨?_, below_drewN (below_drewN hbw5 _) _⟩
          show Ending.returned (.bool (!(z1 == z2))) = _
          have e : (z1 == z2) = false := HFin.out
          rw [e]; rfl
        · go_wp2_with fail
          go_quiet (fail)
          go_wp2_with fail
          go_ret
          refine ⟨?_, below_drewN (below_drewN hbw5 _) _⟩
          show Ending.returned (.bool ((z1 == z2) == b2)) = _
          have e : (z1 == z2) = b2 := HFin.out.trans (by simp)
          rw [e]; simp
end Go.Proofs.Ytalpodgndfnjcaa
