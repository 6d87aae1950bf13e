/-
  The contract of scc.fairSpots.
-/
import Derived.Test.YtknneajaklcjdaaFairM
namespace Go.Proofs.Ytknneajaklcjdaa
open Go.ChangeShapes Go.WideShapes Go.ChangeAt Go.RowKit Go.Deep
open Terms

/-- the rows of fairSpots, under way. -/
structure FsSt (W0 wr : World) (s0 n : Nat) (nx : Nat → List Nat) (s pz : Nat → Nat) (k q kk : Nat) : Prop where
  below : Below s0 W0 wr
  size : s0 + 2 ≤ wr.heap.size
  loops : wr.rowIs s0 4 n (fun p => .bool (lpB nx pz k q p))
  sets : wr.rowIs (s0 + 1) 3 n (fun p => .int .i64 (orTo s pz p kk : Int))
theorem FsSt.later {W0 wr w' : World} {s0 n : Nat} {nx : Nat → List Nat} {s pz : Nat → Nat} {k q kk : Nat} (h : FsSt W0 wr s0 n nx s pz k q kk) (hb : Below (s0 + 2) wr w') : FsSt W0 w' s0 n nx s pz k q kk :=
  ⟨h.below.trans (hb.mono (by omega)), Nat.le_trans h.size hb.size, h.loops.of_block (hb.block _ (by omega)), h.sets.of_block (hb.block _ (by omega))⟩
theorem FsSt.drew {W0 wr : World} {s0 n : Nat} {nx : Nat → List Nat} {s pz : Nat → Nat} {k q kk : Nat} (h : FsSt W0 wr s0 n nx s pz k q kk) : FsSt W0 wr.drew s0 n nx s pz k q kk := ⟨h.below.drew, h.size, h.loops, h.sets⟩
theorem FsSt.putSets {W0 wr : World} {s0 n : Nat} {nx : Nat → List Nat} {s pz : Nat → Nat} {k : Nat} (h : FsSt W0 wr s0 n nx s pz k 0 k) : FsSt W0 (wr.setCell ⟨s0 + 1, pz k, none⟩ (.int .i64 ((orTo s pz (pz k) k ||| s k : Nat) : Int))) s0 n nx s pz k 0 (k + 1) := by
  refine ⟨h.below.setCell (by show s0 ≤ s0 + 1; omega) _, by simpa using h.size, h.loops.setOther (by show s0 ≠ s0 + 1; omega) _, (h.sets.set (pz k) _).congr fun p _ => ?_⟩
  by_cases e : p = pz k
  · subst e; simp [orTo]
  · rw [if_neg e]; simp [orTo, Ne.symm e]
theorem FsSt.next {W0 wr : World} {s0 n : Nat} {nx : Nat → List Nat} {s pz : Nat → Nat} {k kk : Nat} (h : FsSt W0 wr s0 n nx s pz k (nx k).length kk) : FsSt W0 wr s0 n nx s pz (k + 1) 0 kk :=
  ⟨h.below, h.size, h.loops.congr fun p _ => by rw [lpB_next], h.sets⟩
theorem FsSt.no {W0 wr : World} {s0 n : Nat} {nx : Nat → List Nat} {s pz : Nat → Nat} {k q kk : Nat} (h : FsSt W0 wr s0 n nx s pz k q kk) (hp : pz ((nx k).getD q 0) ≠ pz k) : FsSt W0 wr s0 n nx s pz k (q + 1) kk :=
  ⟨h.below, h.size, h.loops.congr fun p _ => by rw [lpB_no hp], h.sets⟩
theorem FsSt.yes {W0 wr : World} {s0 n : Nat} {nx : Nat → List Nat} {s pz : Nat → Nat} {k q kk : Nat} (h : FsSt W0 wr s0 n nx s pz k q kk) (hq : q < (nx k).length) (hp : pz ((nx k).getD q 0) = pz k) : FsSt W0 (wr.setCell ⟨s0, pz k, none⟩ (.bool true)) s0 n nx s pz k (q + 1) kk := by
  refine ⟨h.below.setCell (Nat.le_refl _) _, by simpa using h.size, (h.loops.set (pz k) _).congr fun p _ => ?_, h.sets.setOther (by show s0 + 1 ≠ s0; omega) _⟩
  rw [lpB_yes hq hp]
  by_cases e : p = pz k
  · rw [if_pos e, if_pos e]
  · rw [if_neg e, if_neg e]
theorem fsSt_zero (W0 : World) (n : Nat) (nx : Nat → List Nat) (s pz : Nat → Nat) : FsSt W0 ((W0.alloc (.cells (madeCells #[.bool false] n) 4)).alloc (.cells (madeCells #[.int .i64 0] n) 3)) W0.heap.size n nx s pz 0 0 0 := by
  refine ⟨((Below.refl _ _).alloc (Nat.le_refl _) _).alloc (by simp) _, by simp, ?_, ?_⟩
  · exact ((World.rowIs_made W0 (.bool false) n 4).alloc _).congr fun p _ => by rw [lpB_zero]
  · have := World.rowIs_made (W0.alloc (.cells (madeCells #[.bool false] n) 4)) (.int .i64 0) n 3
    rw [World.size_alloc] at this
    exact this

set_option maxHeartbeats 6400000 in
set_option maxRecDepth 20000 in
/-- THE CONTRACT OF fairSpots. -/
theorem fairSpots_any (so no bo : Option Addr) (sc nc bc B : Nat) (g : Gr) (pz : Nat → Nat) (w : World) (hz : GrLe g) (hV : GraphV w (.slice so g.spots.length sc) (.slice no g.next.length nc) (.slice bo g.sets.length bc) g) (hok : GOk g) (hP : w.rowIs B 3 g.spots.length (natRow pz)) (hpz : ∀ x, x < g.spots.length → pz x < g.spots.length) :
    Calls Try.prog 25 #[.agg #[.slice so g.spots.length sc, .int .i64 g.init, .slice no g.next.length nc, .slice bo g.sets.length bc, .int .i64 g.many], .slice (some ⟨B, 0, none⟩) g.spots.length g.spots.length] w fun e w' => ∃ Bf, e = .returned (.slice (some ⟨Bf, 0, none⟩) g.spots.length g.spots.length) ∧ Below w.heap.size w w' ∧ Hid (w.heap.size ≤ Bf ∧ w'.rowIs Bf 4 g.spots.length (fun x => .bool (fairB g pz x))) := by
  have hn := hok.head.n
  have hmk1 := run_make_row' (P := Try.prog) 45 4 (.bool false) 1 Try.underlying45 infoBool rfl .i64 .i64 g.spots.length (by omega) (by omega)
  have hmk2 := run_make_row' (P := Try.prog) 24 3 (.int .i64 0) 8 Try.underlying24 infoInt rfl .i64 .i64 g.spots.length (by omega) (by omega)
  obtain ⟨W0, hW0⟩ : ∃ W0, W0 = w.alloc (.cells #[.slice so g.spots.length sc, .int .i64 g.init, .slice no g.next.length nc, .slice bo g.sets.length bc, .int .i64 g.many] 26) := ⟨_, rfl⟩
  have hA : Below w.heap.size w W0 := by rw [hW0]; exact (Below.refl _ _).alloc (Nat.le_refl _) _
  have hs0 : W0.heap.size = w.heap.size + 1 := by rw [hW0]; simp
  have HD : Hid (∀ w1, Below (w.heap.size + 1) W0 w1 → Below w.heap.size w w1 ∧ w1.rowIs B 3 g.spots.length (natRow pz) ∧ w1.cell? ⟨w.heap.size, 0, none⟩ = some (.slice so g.spots.length sc) ∧ w1.cell? ⟨w.heap.size, 1, none⟩ = some (.int .i64 g.init) ∧ w1.cell? ⟨w.heap.size, 2, none⟩ = some (.slice no g.next.length nc) ∧ w1.cell? ⟨w.heap.size, 3, none⟩ = some (.slice bo g.sets.length bc) ∧ w1.cell? ⟨w.heap.size, 4, none⟩ = some (.int .i64 g.many)) := fun w1 hb => by
    have c : ∀ j, w1.cell? ⟨w.heap.size, j, none⟩ = W0.cell? ⟨w.heap.size, j, none⟩ := fun j => hb.cell (p := ⟨w.heap.size, j, none⟩) (by show w.heap.size < w.heap.size + 1; omega)
    have hb2 := hA.trans (hb.mono (by omega))
    refine ⟨hb2, hP.of_block (hb2.block B hP.lt), (c _).trans ?_, (c _).trans ?_, (c _).trans ?_, (c _).trans ?_, (c _).trans ?_⟩ <;> (rw [hW0]; simp [go_sem])
  have HRow : Hid (NextRows w no g.spots.length (nxt g)) := graph_rows hok hV
  have HNX : Hid (∀ i, i < g.spots.length → ∀ k ∈ nxt g i, k < g.spots.length) := fun i hi k hk => nxt_lt hok hi hk
  have HXL : Hid (∀ i, i < g.spots.length → (nxt g i).length ≤ 140737488355328) := fun i hi => by rw [nxt_length]; exact hz.rows i (by rw [hok.head.next]; exact hi)
  have HSet : Hid (∀ k, k < g.spots.length → ∃ b off, bo = some ⟨b, off, none⟩ ∧ b < w.heap.size ∧ w.cell? ⟨b, off + k, none⟩ = some (.int .i64 (sN g k : Int))) := fun k hk => by
    obtain ⟨b, off, e, hb, hc⟩ := hV.sets.num (i := k) (by rw [hok.head.sets]; exact hk)
    exact ⟨b, off, e, hb, by rw [hc, (hok.sN hk).1]⟩
  have HOr : Hid (∀ k, k < g.spots.length → bits BinOp.or IntKind.i64 (orTo (sN g) pz (pz k) k : Int) (sN g k : Int) = ((orTo (sN g) pz (pz k) k ||| sN g k : Nat) : Int)) := fun k hk => by
    have h6 := pow64 hok.mN.1
    have h1 := orTo_lt (p := pz k) (pz := pz) (fun x hx => (hok.sN hx).2) k (by omega)
    have h2 := (hok.sN hk).2
    exact or_nat0 _ (by omega) _ (by omega)
  have HAll : Hid (∀ w1, Calls Try.prog 34 #[.agg #[.slice so g.spots.length sc, .int .i64 g.init, .slice no g.next.length nc, .slice bo g.sets.length bc, .int .i64 g.many]] w1 fun e w' => e = .returned (.int .i64 ((2 ^ mN g - 1 : Nat) : Int)) ∧ Below w1.heap.size w1 w') := fun w1 => by
    have := allSets_any so no bo g.spots.length sc g.next.length nc g.sets.length bc g w1 hok.head.many0 hok.head.many6
    rw [hok.mN.2.2] at this
    exact this
  have HFair : Hid (∀ x, fairB g pz x = (lpB (nxt g) pz g.spots.length 0 (pz x) && decide (orTo (sN g) pz (pz x) g.spots.length = 2 ^ mN g - 1))) := fairB_is hok pz
  have HPz : Hid (∀ x, x < g.spots.length → pz x < g.spots.length) := hpz
  have H0 : Hid (FsSt W0 ((W0.alloc (.cells (madeCells #[.bool false] g.spots.length) 4)).alloc (.cells (madeCells #[.int .i64 0] g.spots.length) 3)) (w.heap.size + 1) g.spots.length (nxt g) (sN g) pz 0 0 0) := by rw [← hs0]; exact fsSt_zero W0 _ _ _ _
  have hgn := hok.head.next
  generalize fairB g pz = FB at *
  generalize nxt g = nx at *
  generalize sN g = s at *
  generalize 2 ^ mN g - 1 = tp at *
  rw [hgn] at hW0 HD HAll ⊢
  have hgs := hok.head.sets
  rw [hgs] at hW0 HD HAll ⊢
  clear hV hok hz hP hpz hgn hgs hA
  generalize g.spots.length = n at *
  generalize g.init = gi at *
  generalize g.many = gm at *
  go_enter Try.func25, Try.ntmps25
  go_wp2_with fail
  rw [← hW0]
  clear hW0
  generalize (W0.alloc (.cells (madeCells #[.bool false] n) 4)).alloc (.cells (madeCells #[.int .i64 0] n) 3) = W3 at H0 ⊢
  clear hs0
  go_loopw [22] (fun i wr => ∃ k : Nat, k ≤ n ∧ i = .int .i64 k ∧ Hid (FsSt W0 wr (w.heap.size + 1) n nx s pz k 0 k)) (fun i _ => n - (intOf i).toNat)
  case atStart => exact ⟨0, Nat.zero_le _, rfl, H0⟩
  case round =>
    obtain ⟨k, hk, rfl, HK⟩ := hrel
    obtain ⟨hbw, hrB, d0, d1, d2, d3, d4⟩ := HD.out wr HK.out.below
    by_cases hlt : k < n
    · have hpk := HPz.out k hlt
      have e0 : wr.cell? ⟨B, k, none⟩ = some (.int .i64 (pz k : Int)) := hrB.cell hlt
      have e1 : wr.cell? ⟨w.heap.size + 1 + 1, pz k, none⟩ = some (.int .i64 (orTo s pz (pz k) k : Int)) := HK.out.sets.cell hpk
      have f1 := HK.out.sets.frozen (pz k)
      obtain ⟨sb, soff, rfl, hsb, hcs⟩ := HSet.out k hlt
      have e2 := (hbw.cell (p := ⟨sb, soff + k, none⟩) hsb).trans hcs
      have hor := HOr.out k hlt
      have H5 : Hid (FsSt W0 (wr.setCell ⟨w.heap.size + 1 + 1, pz k, none⟩ (.int .i64 ((orTo s pz (pz k) k ||| s k : Nat) : Int))).drew (w.heap.size + 1) n nx s pz k 0 (k + 1)) := HK.out.putSets.drew
      rw [← hor] at H5
      obtain ⟨p, hp⟩ : ∃ p, p = pz k := ⟨_, rfl⟩
      have HPk : Hid (p = pz k) := hp
      rw [← hp] at hpk e0 e1 f1 H5
      clear hor hp hcs HK
      generalize orTo s pz p k = x at *
      generalize s k = y at *
      go_upto_region 6 with fail
      go_region
      generalize (wr.setCell ⟨w.heap.size + 1 + 1, p, none⟩ (.int .i64 (bits BinOp.or IntKind.i64 (x : Int) (y : Int)))).drew = w5 at H5 ⊢
      obtain ⟨hbw5, hrB5, g0, g1, g2, g3, g4⟩ := HD.out w5 H5.out.below
      obtain ⟨nb, noff, rfl, hnb, uo, uc, hcu0, hnv0⟩ := HRow.out k hlt
      have hcu := (hbw5.cell (p := ⟨nb, noff + k, none⟩) hnb).trans hcu0
      have hxl := HXL.out k hlt
      have HNv : Hid (NatsV w (.slice uo (nx k).length uc) (nx k)) := hnv0
      obtain ⟨ln, hln⟩ : ∃ ln, ln = (nx k).length := ⟨_, rfl⟩
      have HLN : Hid (ln = (nx k).length) := hln
      rw [← hln] at hcu hxl HNv
      clear hcu0 hnv0 hln d0 d1 d2 d3 d4 e0 e1 e2 f1 hrB hbw
      go_wp2_with fail
      generalize wr = wo at *
      go_loopw [44] (fun i wr => ∃ q : Nat, q ≤ ln ∧ i = .int .i64 q ∧ Hid (FsSt W0 wr (w.heap.size + 1) n nx s pz k q (k + 1))) (fun i _ => ln - (intOf i).toNat)
      case atStart => exact ⟨0, Nat.zero_le _, rfl, H5⟩
      case round =>
        obtain ⟨q, hq, rfl, HQ⟩ := hrel
        obtain ⟨hbwq, hrBq, _⟩ := HD.out wr HQ.out.below
        by_cases hlq : q < ln
        · have hql : q < (nx k).length := by rw [← HLN.out]; exact hlq
          obtain ⟨ub, uoff, rfl, hub, hcy0⟩ := (HNv.out.below hbwq).num (i := q) hql
          have hyn : (nx k).getD q 0 < n := HNX.out k hlt _ (by rw [List.getD_eq_getElem?_getD, List.getElem?_eq_getElem hql]; exact List.getElem_mem _)
          have e5 : wr.cell? ⟨B, (nx k).getD q 0, none⟩ = some (.int .i64 (pz ((nx k).getD q 0) : Int)) := hrBq.cell hyn
          have HYes : Hid (pz ((nx k).getD q 0) = p → FsSt W0 (wr.setCell ⟨w.heap.size + 1, p, none⟩ (.bool true)) (w.heap.size + 1) n nx s pz k (q + 1) (k + 1)) := fun h => by
            rw [HPk.out] at h ⊢
            exact HQ.out.yes hql h
          have HNo : Hid (pz ((nx k).getD q 0) ≠ p → FsSt W0 wr (w.heap.size + 1) n nx s pz k (q + 1) (k + 1)) := fun h => HQ.out.no (by rw [← HPk.out]; exact h)
          have l1 := HQ.out.loops.cell hpk
          have l2 := HQ.out.loops.frozen p
          generalize lpB nx pz k q p = old at *
          generalize (nx k).getD q 0 = y2 at *
          generalize pz y2 = p2 at *
          clear HQ hrBq hbwq
          by_cases hpp : p2 = p
          · subst hpp
            have HN := HYes.out rfl
            have HN' : Hid (FsSt W0 (wr.setCell ⟨w.heap.size + 1, p2, none⟩ (.bool true)) (w.heap.size + 1) n nx s pz k (q + 1) (k + 1)) := HN
            clear HN HYes HNo
            go_wp2_with fail
            go_roundw
            case rel => exact ⟨q + 1, hlq, by go_num, HN'⟩
            case measure => simp [intOf]; omega
          · have hpp2 : ¬ (p2 : Int) = (p : Int) := by omega
            have HN' : Hid (FsSt W0 wr (w.heap.size + 1) n nx s pz k (q + 1) (k + 1)) := HNo.out hpp
            clear HYes HNo
            go_wp2_with fail
            go_roundw
            case rel => exact ⟨q + 1, hlq, by go_num, HN'⟩
            case measure => simp [intOf]; omega
        · have HN' : Hid (FsSt W0 wr (w.heap.size + 1) n nx s pz (k + 1) 0 (k + 1)) := by
            have h := HQ.out
            have e : q = (nx k).length := by rw [← HLN.out]; omega
            rw [e] at h
            exact h.next
          clear HQ hrBq hbwq
          go_wp2_with fail
          go_roundw
          case rel => exact ⟨k + 1, hlt, by go_num, HN'⟩
          case measure => simp [intOf]; omega
    · obtain rfl : k = n := by omega
      have HE : Hid (FsSt W0 wr (w.heap.size + 1) k nx s pz k 0 k) := HK
      have hsz := HK.out.size
      have hr0 := World.rowIs_made wr (.bool false) k 4
      have HR0 : Hid ((wr.alloc (.cells (madeCells #[.bool false] k) 4)).rowIs wr.heap.size 4 k (fun j => .bool (if j < 0 then FB j else false))) := hr0.congr fun j _ => by simp
      have HB0 : Hid (Below wr.heap.size wr (wr.alloc (.cells (madeCells #[.bool false] k) 4))) := (Below.refl _ _).alloc (Nat.le_refl _) _
      clear hr0 d0 d1 d2 d3 d4 hrB HK
      go_wp2_with fail
      generalize wr.alloc (.cells (madeCells #[.bool false] k) 4) = W5 at HR0 HB0 ⊢
      generalize wr = wE at *
      go_loopw [64] (fun i wr => ∃ q : Nat, q ≤ k ∧ i = .int .i64 q ∧ Hid (wr.rowIs wE.heap.size 4 k (fun j => .bool (if j < q then FB j else false))) ∧ Hid (Below wE.heap.size wE wr)) (fun i _ => k - (intOf i).toNat)
      case atStart => exact ⟨0, Nat.zero_le _, rfl, HR0, HB0⟩
      case round =>
        obtain ⟨q, hq, rfl, HQ, HBq⟩ := hrel
        have hFS := HE.out.later (HBq.out.mono hsz)
        obtain ⟨hbwq, hrBq, d0, d1, d2, d3, d4⟩ := HD.out wr hFS.below
        by_cases hlq : q < k
        · have hpq := HPz.out q hlq
          have e0 : wr.cell? ⟨B, q, none⟩ = some (.int .i64 (pz q : Int)) := hrBq.cell hlq
          have e1 : wr.cell? ⟨w.heap.size + 1, pz q, none⟩ = some (.bool (lpB nx pz k 0 (pz q))) := hFS.loops.cell hpq
          have e2 : wr.cell? ⟨w.heap.size + 1 + 1, pz q, none⟩ = some (.int .i64 (orTo s pz (pz q) k : Int)) := hFS.sets.cell hpq
          have l1 := HQ.out.cell hlq
          have l2 := HQ.out.frozen q
          have HF : Hid (FB q = (lpB nx pz k 0 (pz q) && decide (orTo s pz (pz q) k = tp))) := HFair.out q
          have HN : Hid (∀ w9, w9.rowIs wE.heap.size 4 k (fun j => .bool (if j < q then FB j else false)) → Below wE.heap.size wE w9 → (w9.setCell ⟨wE.heap.size, q, none⟩ (.bool (FB q))).rowIs wE.heap.size 4 k (fun j => .bool (if j < q + 1 then FB j else false)) ∧ Below wE.heap.size wE (w9.setCell ⟨wE.heap.size, q, none⟩ (.bool (FB q)))) := fun w9 h hb => by
            refine ⟨(h.set q (.bool (FB q))).congr fun j _ => ?_, hb.setCell (Nat.le_refl _) _⟩
            by_cases hj : j = q
            · subst hj; simp
            · rw [if_neg hj]
              by_cases hjq : j < q
              · rw [if_pos hjq, if_pos (by omega)]
              · rw [if_neg hjq, if_neg (by omega)]
          have hwl : wE.heap.size < wr.heap.size := HQ.out.lt
          generalize (if q < q then FB q else false) = old at *
          generalize pz q = p at *
          generalize orTo s pz p k = x at *
          cases hb : lpB nx pz k 0 p with
          | false =>
            rw [hb] at e1 HF
            have HFq : Hid (FB q = false) := HF.out.trans (by simp)
            rw [HFq.out] at HN
            clear hFS HF hb
            go_upto_region 18 with fail
            go_region
            go_wp2_with fail
            have HX := HN.out wr HQ.out HBq.out
            have HX1 : Hid ((wr.setCell ⟨wE.heap.size, q, none⟩ (.bool false)).drew.rowIs wE.heap.size 4 k (fun j => .bool (if j < q + 1 then FB j else false))) := HX.1
            have HX2 : Hid (Below wE.heap.size wE (wr.setCell ⟨wE.heap.size, q, none⟩ (.bool false)).drew) := HX.2.drew
            go_roundw
            case rel => exact ⟨q + 1, hlq, by go_num, HX1, HX2⟩
            case measure => simp [intOf]; omega
          | true =>
            rw [hb] at e1 HF
            have HFq : Hid (FB q = decide (x = tp)) := HF.out.trans (by simp)
            have hS : ∀ w', Below wE.heap.size wr w' → w'.cell? ⟨w.heap.size, 0, none⟩ = some (.slice so k sc) ∧ w'.cell? ⟨w.heap.size, 1, none⟩ = some (.int .i64 gi) ∧ w'.cell? ⟨w.heap.size, 2, none⟩ = some (.slice no k nc) ∧ w'.cell? ⟨w.heap.size, 3, none⟩ = some (.slice bo k bc) ∧ w'.cell? ⟨w.heap.size, 4, none⟩ = some (.int .i64 gm) ∧ w'.cell? ⟨w.heap.size + 1, p, none⟩ = some (.bool true) ∧ w'.cell? ⟨w.heap.size + 1 + 1, p, none⟩ = some (.int .i64 (x : Int)) := fun w' hb => by
              have c : ∀ b j, b < wE.heap.size → w'.cell? ⟨b, j, none⟩ = wr.cell? ⟨b, j, none⟩ := fun b j h => hb.cell (p := ⟨b, j, none⟩) h
              exact ⟨(c _ _ (by omega)).trans d0, (c _ _ (by omega)).trans d1, (c _ _ (by omega)).trans d2, (c _ _ (by omega)).trans d3, (c _ _ (by omega)).trans d4, (c _ _ (by omega)).trans e1, (c _ _ (by omega)).trans e2⟩
            have hal := HAll.out wr.drew
            clear hFS HF hb
            go_upto_region 18 with fail
            go_region_held3 (fun w' => w'.cell? ⟨w.heap.size, 0, none⟩ = some (.slice so k sc) ∧ w'.cell? ⟨w.heap.size, 1, none⟩ = some (.int .i64 gi) ∧ w'.cell? ⟨w.heap.size, 2, none⟩ = some (.slice no k nc) ∧ w'.cell? ⟨w.heap.size, 3, none⟩ = some (.slice bo k bc) ∧ w'.cell? ⟨w.heap.size, 4, none⟩ = some (.int .i64 gm) ∧ w'.cell? ⟨w.heap.size + 1, p, none⟩ = some (.bool true) ∧ w'.cell? ⟨w.heap.size + 1 + 1, p, none⟩ = some (.int .i64 (x : Int)))
              (exact hS _ (by first | exact (Below.refl _ _).drew | exact Below.refl _ _ | exact hbx | exact hbx.setCell (Nat.le_refl _) _))
              ((go_at_call 34; refine hal.mono ?_; rintro e w4 ⟨rfl, hb4⟩; have hbx : Below wE.heap.size wr w4 := ((Below.refl _ _).drew).trans (hb4.mono (Nat.le_of_lt hwl)); have l14 := (hb4.cell (p := ⟨wE.heap.size, q, none⟩) hwl).trans l1; have l24 := (hb4.frozen (p := ⟨wE.heap.size, q, none⟩) hwl).trans l2))
            go_wp2_with fail
            have e9 : ((x : Int) == (tp : Int)) = FB q := by
              rw [HFq.out]
              show decide ((x : Int) = (tp : Int)) = _
              rw [decide_eq_decide]; omega
            have HX := HN.out w4 (row_later HQ.out ⟨hb4.os, hb4.tape, hb4.output, hb4.size, hb4.block⟩) (HBq.out.trans hbx)
            rw [← e9] at HX
            have HX1 : Hid _ := HX.1
            have HX2 : Hid _ := HX.2
            go_roundw
            case rel => exact ⟨q + 1, hlq, by go_num, HX1, HX2⟩
            case measure => simp [intOf]; omega
        · obtain rfl : q = k := by omega
          have HR : Hid (wr.rowIs wE.heap.size 4 q (fun x => .bool (FB x))) := HQ.out.congr fun j hj => by rw [if_pos hj]
          have hle : w.heap.size ≤ wE.heap.size := by omega
          clear hFS
          go_wp2_with fail
          go_ret
          exact ⟨_, rfl, hbwq, hle, HR.out⟩
end Go.Proofs.Ytknneajaklcjdaa
