/-
  The document's own said: what holds at a place and a moment.
-/
import Derived.Test.YtalbnbcfdpfofaaDoorRefWord0
import Derived.Test.YtalbnbcfdpfofaaDoorRefTruths
import Derived.Deep.RegionHeld3
namespace Go.Proofs.YtalbnbcfdpfofaaDoor
open Go.ChangeShapes Go.WideShapes Go.ChangeAt Go.RowKit Go.Deep
open Terms

set_option maxRecDepth 20000 in
set_option maxHeartbeats 800000 in
/-- letterAt hands out the very slice that the word has. -/
theorem letterAt_ex (so lo : Option Addr) (sn sc ln lc : Nat) (ss ll : List (List Bool)) (i : Nat) (w : World) (hsn : sn = ss.length) (hln : ln = ll.length) (hs : sn ≤ 12) (hl0 : 1 ≤ ln) (hl : ln ≤ 12) (hi : i ≤ 100) (hS : LettersV w (.slice so sn sc) ss) (hL : LettersV w (.slice lo ln lc) ll) :
    ∃ uo uc, BoolsV w (.slice uo ((ss ++ ll).getD (moAt sn (sn + ln) i) []).length uc) ((ss ++ ll).getD (moAt sn (sn + ln) i) []) ∧ ∀ w1, Below w.heap.size w w1 → Calls Tryd.prog 51 #[.agg #[.slice so sn sc, .slice lo ln lc], .int .i64 (i : Int)] w1 fun e w' => e = .returned (.slice uo ((ss ++ ll).getD (moAt sn (sn + ln) i) []).length uc) ∧ Below w1.heap.size w1 w' := by
  have hmlt := moAt_lt (s := sn) (n := sn + ln) (i := i) (by omega)
  have hm2 : ∀ w1 : World, Calls Tryd.prog 52 #[.agg #[.slice so sn sc, .slice lo ln lc], .int .i64 (i : Int)] (w1.alloc (.cells #[.slice so sn sc, .slice lo ln lc] 25)) fun e w' => e = .returned (.int .i64 (moAt sn (sn + ln) i : Int)) ∧ Below (w1.heap.size + 1) (w1.alloc (.cells #[.slice so sn sc, .slice lo ln lc] 25)) w' := fun w1 => (moment_any so lo sn sc ln lc i _ hs hl0 hl hi).mono fun e w' ⟨h1, h2⟩ => ⟨h1, by simpa using h2⟩
  have hA : ∀ (w1 : World) o, Below w1.heap.size w1 (w1.alloc o) := fun w1 o => (Below.refl _ _).alloc (Nat.le_refl _) o
  have d0 : ∀ w1 : World, (w1.alloc (.cells #[.slice so sn sc, .slice lo ln lc] 25)).cell? ⟨w1.heap.size, 0, none⟩ = some (.slice so sn sc) := fun w1 => by simp [go_sem]
  have d1 : ∀ w1 : World, (w1.alloc (.cells #[.slice so sn sc, .slice lo ln lc] 25)).cell? ⟨w1.heap.size, 1, none⟩ = some (.slice lo ln lc) := fun w1 => by simp [go_sem]
  generalize moAt sn (sn + ln) i = mo at *
  by_cases hlow : mo < sn
  · obtain ⟨b, off, rfl, hbl, u, hcu, hbu⟩ := hS.at (i := mo) (by omega)
    have hgd : (ss ++ ll).getD mo [] = ss.getD mo [] := by rw [getD_app, if_pos (by omega)]
    rw [hgd]
    generalize ss.getD mo [] = x at *
    obtain ⟨uo, uc, rfl, hux⟩ := id hbu
    refine ⟨uo, uc, hbu, fun w1 hbw1 => ?_⟩
    have hcu1 := (hbw1.cell (p := ⟨b, off + mo, none⟩) hbl).trans hcu
    have hbl1 := Nat.lt_of_lt_of_le hbl hbw1.size
    have hlow' : (mo : Int) < (sn : Int) := by omega
    have hm3 := hm2 w1
    have d0' := d0 w1
    have d1' := d1 w1
    have hA1 := hA w1
    generalize x.length = xn at *
    clear hgd hS hL hsn hln hm2 d0 d1 hA hbu hux hcu
    go_enter Tryd.func51, Tryd.ntmps51
    go_wp2_with (go_at_call 52; refine hm3.mono ?_; rintro e w2 ⟨rfl, hb1⟩; have hbw := (hA1 _).trans (hb1.mono (Nat.le_succ _)); have e0 := (hb1.cell (p := ⟨w1.heap.size, 0, none⟩) (Nat.lt_succ_self _)).trans d0'; have e1 := (hb1.cell (p := ⟨w1.heap.size, 1, none⟩) (Nat.lt_succ_self _)).trans d1'; have e2 := (hbw.cell (p := ⟨b, off + mo, none⟩) hbl1).trans hcu1)
    go_ret
    exact ⟨rfl, hbw⟩
  · obtain ⟨b, off, rfl, hbl, u, hcu, hbu⟩ := hL.at (i := mo - sn) (by omega)
    have hgd : (ss ++ ll).getD mo [] = ll.getD (mo - sn) [] := by rw [getD_app, if_neg (by omega), ← hsn]
    rw [hgd]
    generalize ll.getD (mo - sn) [] = x at *
    obtain ⟨uo, uc, rfl, hux⟩ := id hbu
    refine ⟨uo, uc, hbu, fun w1 hbw1 => ?_⟩
    obtain ⟨q, hq⟩ : ∃ q : Nat, q = mo - sn := ⟨_, rfl⟩
    have hqi : (mo : Int) - (sn : Int) = (q : Int) := by omega
    have hql : q < ln := by omega
    rw [← hq] at hcu
    have hcu1 := (hbw1.cell (p := ⟨b, off + q, none⟩) hbl).trans hcu
    have hbl1 := Nat.lt_of_lt_of_le hbl hbw1.size
    have hlow' : ¬ (mo : Int) < (sn : Int) := by omega
    have hm3 := hm2 w1
    have d0' := d0 w1
    have d1' := d1 w1
    have hA1 := hA w1
    generalize x.length = xn at *
    clear hgd hS hL hsn hln hm2 d0 d1 hA hbu hux hcu hq
    go_enter Tryd.func51, Tryd.ntmps51
    go_wp2_with (go_at_call 52; refine hm3.mono ?_; rintro e w2 ⟨rfl, hb1⟩; have hbw := (hA1 _).trans (hb1.mono (Nat.le_succ _)); have e0 := (hb1.cell (p := ⟨w1.heap.size, 0, none⟩) (Nat.lt_succ_self _)).trans d0'; have e1 := (hb1.cell (p := ⟨w1.heap.size, 1, none⟩) (Nat.lt_succ_self _)).trans d1'; have e2 := (hbw.cell (p := ⟨b, off + q, none⟩) hbl1).trans hcu1)
    go_ret
    exact ⟨rfl, hbw⟩

/-- what said stands on. -/
structure SaIn (w : World) (b off n RB m p : Nat) (l : List (Int × Int)) (h : Nat → Nat → Bool) : Prop where
  ops : OpsAt w b off l
  hb : b < w.heap.size
  rows : ∀ q, p < q → q < n → ∃ rb ro rc, w.cell? ⟨RB, q, none⟩ = some (.slice (some ⟨rb, ro, none⟩) m rc) ∧ rb < w.heap.size ∧ ∀ j, j < m → w.cell? ⟨rb, ro + j, none⟩ = some (.bool (h q j))
  hR : RB < w.heap.size
theorem SaIn.below {w w' : World} {b off n RB m p : Nat} {l : List (Int × Int)} {h : Nat → Nat → Bool} (s : SaIn w b off n RB m p l h) (hb : Below w.heap.size w w') : SaIn w' b off n RB m p l h :=
  ⟨s.ops.below hb s.hb, Nat.lt_of_lt_of_le s.hb hb.size, fun q h1 h2 => by
    obtain ⟨rb, ro, rc, e1, e2, e3⟩ := s.rows q h1 h2
    exact ⟨rb, ro, rc, (hb.cell (p := ⟨RB, q, none⟩) s.hR).trans e1, Nat.lt_of_lt_of_le e2 hb.size, fun j hj => (hb.cell (p := ⟨rb, ro + j, none⟩) e2).trans (e3 j hj)⟩, Nat.lt_of_lt_of_le s.hR hb.size⟩

section
variable (b off n cap RB p : Nat) (so lo : Option Addr) (sn sc ln lc : Nat) (kx vx : Int) (i : Nat) (w : World)

set_option maxRecDepth 20000 in
set_option maxHeartbeats 800000 in
theorem said_11 (hpn : p < n) (h12 : sn ≤ 12) (hl12 : ln ≤ 12) (hi : i < 24) (c0 : w.cell? ⟨b, off + p * 2, none⟩ = some (.int .i64 11)) (hbl : b < w.heap.size) : Calls Tryd.prog 29 #[.slice (some ⟨b, off, none⟩) n cap, .agg #[.slice so sn sc, .slice lo ln lc], .slice (some ⟨RB, 0, none⟩) n n, .int .i64 (p : Int), .int .i64 (i : Int)] w fun e w' => e = .returned (.bool true) ∧ Below w.heap.size w w' := by
  have hA : ∀ o, Below w.heap.size w (w.alloc o) := fun o => (Below.refl _ _).alloc (Nat.le_refl _) o
  have cA := fun o => ((hA o).cell (p := ⟨b, off + p * 2, none⟩) hbl).trans c0
  have hpI : (p : Int) < (n : Int) := by omega
  go_enter Tryd.func29, Tryd.ntmps29
  go_wp2_with fail
  go_ret
  exact ⟨rfl, hA _⟩

set_option maxRecDepth 20000 in
set_option maxHeartbeats 800000 in
theorem said_12 (hpn : p < n) (h12 : sn ≤ 12) (hl12 : ln ≤ 12) (hi : i < 24) (c0 : w.cell? ⟨b, off + p * 2, none⟩ = some (.int .i64 12)) (hbl : b < w.heap.size) : Calls Tryd.prog 29 #[.slice (some ⟨b, off, none⟩) n cap, .agg #[.slice so sn sc, .slice lo ln lc], .slice (some ⟨RB, 0, none⟩) n n, .int .i64 (p : Int), .int .i64 (i : Int)] w fun e w' => e = .returned (.bool false) ∧ Below w.heap.size w w' := by
  have hA : ∀ o, Below w.heap.size w (w.alloc o) := fun o => (Below.refl _ _).alloc (Nat.le_refl _) o
  have cA := fun o => ((hA o).cell (p := ⟨b, off + p * 2, none⟩) hbl).trans c0
  have hpI : (p : Int) < (n : Int) := by omega
  go_enter Tryd.func29, Tryd.ntmps29
  go_wp2_with fail
  go_ret
  exact ⟨rfl, hA _⟩

set_option maxRecDepth 20000 in
set_option maxHeartbeats 800000 in
theorem said_10 (h12 : sn ≤ 12) (hl12 : ln ≤ 12) (hi : i < 24) (c0 : w.cell? ⟨b, off + p * 2, none⟩ = some (.int .i64 10)) (hbl : b < w.heap.size) (m rb ro rc : Nat) (x : Bool) (him : i < m) (hp1 : p + 1 < n) (hn : n ≤ 60) (r0 : w.cell? ⟨RB, p + 1, none⟩ = some (.slice (some ⟨rb, ro, none⟩) m rc)) (r1 : w.cell? ⟨rb, ro + i, none⟩ = some (.bool x)) (hR : RB < w.heap.size) (hrb : rb < w.heap.size) : Calls Tryd.prog 29 #[.slice (some ⟨b, off, none⟩) n cap, .agg #[.slice so sn sc, .slice lo ln lc], .slice (some ⟨RB, 0, none⟩) n n, .int .i64 (p : Int), .int .i64 (i : Int)] w fun e w' => e = .returned (.bool (!x)) ∧ Below w.heap.size w w' := by
  have hA : ∀ o, Below w.heap.size w (w.alloc o) := fun o => (Below.refl _ _).alloc (Nat.le_refl _) o
  have cA := fun o => ((hA o).cell (p := ⟨b, off + p * 2, none⟩) hbl).trans c0
  have cB := fun o => ((hA o).cell (p := ⟨RB, p + 1, none⟩) hR).trans r0
  have cC := fun o => ((hA o).cell (p := ⟨rb, ro + i, none⟩) hrb).trans r1
  have hpI : (p : Int) < (n : Int) := by omega
  go_enter Tryd.func29, Tryd.ntmps29
  go_wp2_with fail
  go_ret
  exact ⟨rfl, hA _⟩

set_option maxRecDepth 20000 in
set_option maxHeartbeats 1600000 in
theorem said_13 (hpn : p < n) (h12 : sn ≤ 12) (hl12 : ln ≤ 12) (hi : i < 24) (c0 : w.cell? ⟨b, off + p * 2, none⟩ = some (.int .i64 13)) (hbl : b < w.heap.size) (c1 : w.cell? ⟨b, off + p * 2 + 1, none⟩ = some (.int .i64 vx)) (uo : Addr) (xn uc : Nat) (x : Bool) (hv0 : 0 ≤ vx) (hv : vx < xn) (hul : uo.block < w.heap.size) (hux : ∀ w1, Below w.heap.size w w1 → w1.cell? ⟨uo.block, uo.off + vx.toNat, none⟩ = some (.bool x)) (hus : uo.spot = none)
    (hla : ∀ w1, Below w.heap.size w w1 → Calls Tryd.prog 51 #[.agg #[.slice so sn sc, .slice lo ln lc], .int .i64 (i : Int)] w1 fun e w' => e = .returned (.slice (some uo) xn uc) ∧ Below w1.heap.size w1 w') : Calls Tryd.prog 29 #[.slice (some ⟨b, off, none⟩) n cap, .agg #[.slice so sn sc, .slice lo ln lc], .slice (some ⟨RB, 0, none⟩) n n, .int .i64 (p : Int), .int .i64 (i : Int)] w fun e w' => e = .returned (.bool x) ∧ Below w.heap.size w w' := by
  obtain ⟨ub, uoff, us⟩ := uo
  simp only at hus hul hux
  subst hus
  obtain ⟨vn, rfl⟩ : ∃ vn : Nat, vx = vn := ⟨vx.toNat, by omega⟩
  simp only [Int.toNat_natCast] at hux
  have hvn : vn < xn := by omega
  obtain ⟨V0, hV0⟩ : ∃ V0, V0 = (w.alloc (.cells #[.slice so sn sc, .slice lo ln lc] 25)) := ⟨_, rfl⟩
  have hA : Below w.heap.size w V0 := by rw [hV0]; exact (Below.refl _ _).alloc (Nat.le_refl _) _
  have hz0 : w.heap.size < V0.heap.size := by rw [hV0]; simp
  have d0 : V0.cell? ⟨w.heap.size, 0, none⟩ = some (.slice so sn sc) := by rw [hV0]; simp [go_sem]
  have d1 : V0.cell? ⟨w.heap.size, 1, none⟩ = some (.slice lo ln lc) := by rw [hV0]; simp [go_sem]
  have HS : Hid (∀ Y, Below V0.heap.size V0 Y → Y.cell? ⟨w.heap.size, 0, none⟩ = some (.slice so sn sc) ∧ Y.cell? ⟨w.heap.size, 1, none⟩ = some (.slice lo ln lc) ∧ Y.cell? ⟨b, off + p * 2, none⟩ = some (.int .i64 13) ∧ Y.cell? ⟨b, off + p * 2 + 1, none⟩ = some (.int .i64 (vn : Int)) ∧ Y.cell? ⟨ub, uoff + vn, none⟩ = some (.bool x) ∧ Below V0.heap.size V0 Y) := fun Y hb => by
    have hw := hA.trans (hb.mono hA.size)
    exact ⟨(hb.cell (p := ⟨w.heap.size, 0, none⟩) hz0).trans d0, (hb.cell (p := ⟨w.heap.size, 1, none⟩) hz0).trans d1, (hw.cell (p := ⟨b, off + p * 2, none⟩) hbl).trans c0, (hw.cell (p := ⟨b, off + p * 2 + 1, none⟩) hbl).trans c1, hux Y hw, hb⟩
  have hS := HS.out
  have HLa : Hid (∀ Y, Below V0.heap.size V0 Y → Calls Tryd.prog 51 #[.agg #[.slice so sn sc, .slice lo ln lc], .int .i64 (i : Int)] Y fun e w' => e = .returned (.slice (some ⟨ub, uoff, none⟩) xn uc) ∧ Below V0.heap.size V0 w') := fun Y hb => (hla Y (hA.trans (hb.mono hA.size))).mono fun e w' ⟨h1, h2⟩ => ⟨h1, hb.trans (h2.mono hb.size)⟩
  have hB0 : Below V0.heap.size V0 V0 := Below.refl _ _
  obtain ⟨q0, q1, q2, q3, q4, _⟩ := hS V0 hB0
  have hpI : (p : Int) < (n : Int) := by omega
  have q2' := q2
  rw [hV0] at q2'
  have HV : Hid (V0 = (w.alloc (.cells #[.slice so sn sc, .slice lo ln lc] 25))) := hV0
  clear hux hla d0 d1 c0 c1 hV0
  go_enter Tryd.func29, Tryd.ntmps29
  go_wp2_with fail
  rw [← HV.out]
  go_region_held3 (fun Y => Y.cell? ⟨w.heap.size, 0, none⟩ = some (.slice so sn sc) ∧ Y.cell? ⟨w.heap.size, 1, none⟩ = some (.slice lo ln lc) ∧ Y.cell? ⟨b, off + p * 2, none⟩ = some (.int .i64 13) ∧ Y.cell? ⟨b, off + p * 2 + 1, none⟩ = some (.int .i64 (vn : Int)) ∧ Y.cell? ⟨ub, uoff + vn, none⟩ = some (.bool x) ∧ Below V0.heap.size V0 Y)
    (exact hS _ (by first | exact hB0 | exact hB0.drew | exact hb4))
    (first | (go_at_call 51; refine (HLa.out _ hB0.drew).mono ?_; rintro e w4 ⟨rfl, hb4⟩))
  go_wp2_with fail
  go_ret
  exact ⟨rfl, hA.trans (hb4.mono hA.size)⟩

set_option maxRecDepth 20000 in
set_option maxHeartbeats 1600000 in
theorem said_14 (h12 : sn ≤ 12) (hl12 : ln ≤ 12) (hi : i < 24) (c0 : w.cell? ⟨b, off + p * 2, none⟩ = some (.int .i64 14)) (hbl : b < w.heap.size) (m rb ro rc : Nat) (h : Nat → Bool) (hm : m = sn + ln) (hl1 : 1 ≤ ln) (him : i < m) (hp1 : p + 1 < n) (hn : n ≤ 60) (r0 : w.cell? ⟨RB, p + 1, none⟩ = some (.slice (some ⟨rb, ro, none⟩) m rc)) (r1 : ∀ j, j < m → w.cell? ⟨rb, ro + j, none⟩ = some (.bool (h j))) (hR : RB < w.heap.size) (hrb : rb < w.heap.size) : Calls Tryd.prog 29 #[.slice (some ⟨b, off, none⟩) n cap, .agg #[.slice so sn sc, .slice lo ln lc], .slice (some ⟨RB, 0, none⟩) n n, .int .i64 (p : Int), .int .i64 (i : Int)] w fun e w' => e = .returned (.bool (h (moAt sn m (i + 1)))) ∧ Below w.heap.size w w' := by
  obtain ⟨V0, hV0⟩ : ∃ V0, V0 = (w.alloc (.cells #[.slice so sn sc, .slice lo ln lc] 25)) := ⟨_, rfl⟩
  have hA : Below w.heap.size w V0 := by rw [hV0]; exact (Below.refl _ _).alloc (Nat.le_refl _) _
  have hz0 : w.heap.size < V0.heap.size := by rw [hV0]; simp
  have d0 : V0.cell? ⟨w.heap.size, 0, none⟩ = some (.slice so sn sc) := by rw [hV0]; simp [go_sem]
  have d1 : V0.cell? ⟨w.heap.size, 1, none⟩ = some (.slice lo ln lc) := by rw [hV0]; simp [go_sem]
  have hmo := fun w1 => moment_any so lo sn sc ln lc (i + 1) w1 h12 hl1 hl12 (by omega)
  rw [← hm] at hmo
  have hml : moAt sn m (i + 1) < m := moAt_lt (by omega)
  have r1' := r1 _ hml
  generalize h (moAt sn m (i + 1)) = x at *
  generalize moAt sn m (i + 1) = mo at *
  have HS : Hid (∀ Y, Below V0.heap.size V0 Y → Y.cell? ⟨w.heap.size, 0, none⟩ = some (.slice so sn sc) ∧ Y.cell? ⟨w.heap.size, 1, none⟩ = some (.slice lo ln lc) ∧ Y.cell? ⟨b, off + p * 2, none⟩ = some (.int .i64 14) ∧ Y.cell? ⟨RB, p + 1, none⟩ = some (.slice (some ⟨rb, ro, none⟩) m rc) ∧ Y.cell? ⟨rb, ro + mo, none⟩ = some (.bool x) ∧ Below V0.heap.size V0 Y) := fun Y hb => by
    have hw := hA.trans (hb.mono hA.size)
    exact ⟨(hb.cell (p := ⟨w.heap.size, 0, none⟩) hz0).trans d0, (hb.cell (p := ⟨w.heap.size, 1, none⟩) hz0).trans d1, (hw.cell (p := ⟨b, off + p * 2, none⟩) hbl).trans c0, (hw.cell (p := ⟨RB, p + 1, none⟩) hR).trans r0, (hw.cell (p := ⟨rb, ro + mo, none⟩) hrb).trans r1', hb⟩
  have hS := HS.out
  have hB0 : Below V0.heap.size V0 V0 := Below.refl _ _
  obtain ⟨q0, q1, q2, q3, q4, _⟩ := hS V0 hB0
  have hpI : (p : Int) < (n : Int) := by omega
  have hp1I : (p : Int) + 1 < (n : Int) := by omega
  have hp0I : (0 : Int) ≤ (p : Int) + 1 := by omega
  have hmoI : (mo : Int) < (m : Int) := by omega
  have hwr1 : IntKind.i64.wrap ((p : Int) + 1) = (p : Int) + 1 := by rw [IntKind.wrap_i64]; omega
  have hwr2 : IntKind.i64.wrap ((i : Int) + 1) = (i : Int) + 1 := by rw [IntKind.wrap_i64]; omega
  have hm24 : m ≤ 24 := by omega
  have q2' := q2
  rw [hV0] at q2'
  have HV : Hid (V0 = (w.alloc (.cells #[.slice so sn sc, .slice lo ln lc] 25))) := hV0
  clear d0 d1 c0 r0 r1 r1' hV0 hm
  go_enter Tryd.func29, Tryd.ntmps29
  go_wp2_with fail
  rw [← HV.out]
  go_region_held3 (fun Y => Y.cell? ⟨w.heap.size, 0, none⟩ = some (.slice so sn sc) ∧ Y.cell? ⟨w.heap.size, 1, none⟩ = some (.slice lo ln lc) ∧ Y.cell? ⟨b, off + p * 2, none⟩ = some (.int .i64 14) ∧ Y.cell? ⟨RB, p + 1, none⟩ = some (.slice (some ⟨rb, ro, none⟩) m rc) ∧ Y.cell? ⟨rb, ro + mo, none⟩ = some (.bool x) ∧ Below V0.heap.size V0 Y)
    (exact hS _ (by first | exact hB0 | exact hB0.drew | exact hb4))
    (first | (go_at_call 52; refine (hmo _).mono ?_; rintro e w4 ⟨rfl, hb4'⟩; have hb4 := hB0.drew.trans (hb4'.mono hB0.drew.size)))
  go_wp2_with fail
  go_ret
  exact ⟨rfl, hA.trans (hb4.mono hA.size)⟩

set_option maxRecDepth 20000 in
set_option maxHeartbeats 3200000 in
theorem said_17 (h12 : sn ≤ 12) (hl12 : ln ≤ 12) (hi : i < 24) (c0 : w.cell? ⟨b, off + p * 2, none⟩ = some (.int .i64 17)) (hbl : b < w.heap.size) (m rb ro rc : Nat) (h : Nat → Bool) (hm : m = sn + ln) (hl1 : 1 ≤ ln) (him : i < m) (hp1 : p + 1 < n) (hn : n ≤ 60) (r0 : w.cell? ⟨RB, p + 1, none⟩ = some (.slice (some ⟨rb, ro, none⟩) m rc)) (r1 : ∀ j, j < m → w.cell? ⟨rb, ro + j, none⟩ = some (.bool (h j))) (hmoh : ∀ j, h (moAt sn m j) = h j) (hR : RB < w.heap.size) (hrb : rb < w.heap.size) : Calls Tryd.prog 29 #[.slice (some ⟨b, off, none⟩) n cap, .agg #[.slice so sn sc, .slice lo ln lc], .slice (some ⟨RB, 0, none⟩) n n, .int .i64 (p : Int), .int .i64 (i : Int)] w fun e w' => e = .returned (.bool (stp h (fun _ => true) false (m + 1) i)) ∧ Below w.heap.size w w' := by
  obtain ⟨V0, hV0⟩ : ∃ V0, V0 = (w.alloc (.cells #[.slice so sn sc, .slice lo ln lc] 25)) := ⟨_, rfl⟩
  have hA : Below w.heap.size w V0 := by rw [hV0]; exact (Below.refl _ _).alloc (Nat.le_refl _) _
  have hz0 : w.heap.size < V0.heap.size := by rw [hV0]; simp
  have d0 : V0.cell? ⟨w.heap.size, 0, none⟩ = some (.slice so sn sc) := by rw [hV0]; simp [go_sem]
  have d1 : V0.cell? ⟨w.heap.size, 1, none⟩ = some (.slice lo ln lc) := by rw [hV0]; simp [go_sem]
  have HS : Hid (∀ (Y : World) (j : Nat), Below V0.heap.size V0 Y → j < 100 → Y.cell? ⟨w.heap.size, 0, none⟩ = some (.slice so sn sc) ∧ Y.cell? ⟨w.heap.size, 1, none⟩ = some (.slice lo ln lc) ∧ Y.cell? ⟨b, off + p * 2, none⟩ = some (.int .i64 17) ∧ Y.cell? ⟨RB, p + 1, none⟩ = some (.slice (some ⟨rb, ro, none⟩) m rc) ∧ Y.cell? ⟨rb, ro + moAt sn m j, none⟩ = some (.bool (h j)) ∧ Below V0.heap.size V0 Y) := fun Y j hb hj => by
    have hw := hA.trans (hb.mono hA.size)
    have hml : moAt sn m j < m := moAt_lt (by omega)
    exact ⟨(hb.cell (p := ⟨w.heap.size, 0, none⟩) hz0).trans d0, (hb.cell (p := ⟨w.heap.size, 1, none⟩) hz0).trans d1, (hw.cell (p := ⟨b, off + p * 2, none⟩) hbl).trans c0, (hw.cell (p := ⟨RB, p + 1, none⟩) hR).trans r0, ((hw.cell (p := ⟨rb, ro + moAt sn m j, none⟩) hrb).trans (r1 _ hml)).trans (congrArg (fun z => some (Value.bool z)) (hmoh j)), hb⟩
  have HMo : Hid (∀ (j : Nat) (w1 : World), j < 100 → Calls Tryd.prog 52 #[.agg #[.slice so sn sc, .slice lo ln lc], .int .i64 (j : Int)] w1 fun e w' => e = .returned (.int .i64 (moAt sn m j : Int)) ∧ Below w1.heap.size w1 w') := fun j w1 hj => by
    have hx := moment_any so lo sn sc ln lc j w1 h12 hl1 hl12 (by omega)
    rw [← hm] at hx
    exact hx
  have HMl : Hid (∀ j : Nat, moAt sn m j < m) := fun j => moAt_lt (by omega)
  have HSt : Hid (∀ q j : Nat, stp h (fun _ => true) false (q + 1) j = (h j || ((fun _ => true) j && stp h (fun _ => true) false q (j + 1)))) := fun _ _ => rfl
  have HS0 : Hid (∀ j : Nat, stp h (fun _ => true) false 0 j = false) := fun _ => rfl
  have hB0 : Below V0.heap.size V0 V0 := Below.refl _ _
  obtain ⟨q0, q1, q2, q3, _, _⟩ := HS.out V0 i hB0 (by omega)
  have hpI : (p : Int) < (n : Int) := by omega
  have q2' := q2
  rw [hV0] at q2'
  have HV : Hid (V0 = (w.alloc (.cells #[.slice so sn sc, .slice lo ln lc] 25))) := hV0
  have hp1I : (p : Int) + 1 < (n : Int) := by omega
  have hp0I : (0 : Int) ≤ (p : Int) + 1 := by omega
  have hwr1 : IntKind.i64.wrap ((p : Int) + 1) = (p : Int) + 1 := by rw [IntKind.wrap_i64]; omega
  have hmI : (m : Int) = (sn : Int) + (ln : Int) := by omega
  have HmI : Hid ((m : Int) = (sn : Int) + (ln : Int)) := hmI
  have HM : Hid (m = sn + ln) := hm
  have hm24 : m ≤ 24 := by omega
  clear d0 d1 c0 r0 r1 hV0 hm hmI hmoh
  generalize hres : stp h (fun _ => true) false = st at *
  clear hres
  obtain ⟨x, hx⟩ : ∃ x, x = st (m + 1) i := ⟨_, rfl⟩
  have HX : Hid (x = st (m + 1) i) := hx
  rw [← hx]
  clear hx
  go_enter Tryd.func29, Tryd.ntmps29
  go_wp2_with fail
  rw [← HV.out]
  go_loopw [13] (fun jv wr => ∃ j : Nat, i ≤ j ∧ j ≤ i + m + 1 ∧ jv = .int .i64 (j : Int) ∧ Hid (x = st (i + m + 1 - j) j) ∧ Hid (Below V0.heap.size V0 wr)) (fun jv _ => i + m + 1 - (intOf jv).toNat)
  case atStart => exact ⟨i, Nat.le_refl _, by omega, rfl, by rw [show i + m + 1 - i = m + 1 by omega]; exact HX.out, hB0⟩
  case round =>
    obtain ⟨j, hj1, hj2, rfl, HE, HB⟩ := hrel
    have hbr := HB.out
    by_cases hlt : j ≤ i + m
    · have hSj := fun Y hb => HS.out Y j hb (by omega)
      have hmo := fun w1 => HMo.out j w1 (by omega)
      have hml := HMl.out j
      have hjw : IntKind.i64.wrap (j : Int) = (j : Int) := by rw [IntKind.wrap_i64]; omega
      have HE2 : Hid (x = (h j || ((fun _ => true) j && st (i + m + 1 - (j + 1)) (j + 1)))) := by
        show _ = _
        rw [HE.out, show i + m + 1 - j = (i + m + 1 - (j + 1)) + 1 by omega, HSt.out]
      have hle : (j : Int) ≤ (i : Int) + (sn : Int) + (ln : Int) := by have := HM.out; omega
      obtain ⟨y0, y1, y2, y3, y4, _⟩ := hSj wr hbr
      generalize moAt sn m j = mo at *
      cases hh : h j with
      | false =>
        rw [hh] at hSj y4
        have HE3 : Hid (x = st (i + m + 1 - (j + 1)) (j + 1)) := by show _ = _; rw [HE2.out]; simp [hh]
        clear hh HE HE2
        go_wp2_with fail
        go_region_held3 (fun Y => Y.cell? ⟨w.heap.size, 0, none⟩ = some (.slice so sn sc) ∧ Y.cell? ⟨w.heap.size, 1, none⟩ = some (.slice lo ln lc) ∧ Y.cell? ⟨b, off + p * 2, none⟩ = some (.int .i64 17) ∧ Y.cell? ⟨RB, p + 1, none⟩ = some (.slice (some ⟨rb, ro, none⟩) m rc) ∧ Y.cell? ⟨rb, ro + mo, none⟩ = some (.bool false) ∧ Below V0.heap.size V0 Y)
          (exact hSj _ (by first | exact hbr | exact hbr.drew | exact hb4))
          (first | (go_at_call 52; refine (hmo _).mono ?_; rintro e w4 ⟨rfl, hb4'⟩; have hb4 := hbr.drew.trans (hb4'.mono hbr.drew.size)))
        go_wp2_with fail
        go_roundw
        case rel => exact ⟨j + 1, by omega, by omega, by go_num, HE3, hb4⟩
        case measure => simp [intOf]; omega
      | true =>
        rw [hh] at hSj y4
        have HE3 : Hid (x = true) := by show _ = _; rw [HE2.out]; simp [hh]
        clear hh HE HE2
        go_wp2_with fail
        go_region_held3 (fun Y => Y.cell? ⟨w.heap.size, 0, none⟩ = some (.slice so sn sc) ∧ Y.cell? ⟨w.heap.size, 1, none⟩ = some (.slice lo ln lc) ∧ Y.cell? ⟨b, off + p * 2, none⟩ = some (.int .i64 17) ∧ Y.cell? ⟨RB, p + 1, none⟩ = some (.slice (some ⟨rb, ro, none⟩) m rc) ∧ Y.cell? ⟨rb, ro + mo, none⟩ = some (.bool true) ∧ Below V0.heap.size V0 Y)
          (exact hSj _ (by first | exact hbr | exact hbr.drew | exact hb4))
          (first | (go_at_call 52; refine (hmo _).mono ?_; rintro e w4 ⟨rfl, hb4'⟩; have hb4 := hbr.drew.trans (hb4'.mono hbr.drew.size)))
        go_wp2_with fail
        go_ret
        rw [HE3.out]
        exact ⟨rfl, hA.trans (hb4.mono hA.size)⟩
    · obtain rfl : j = i + m + 1 := by omega
      have HE3 : Hid (x = false) := by show _ = _; rw [HE.out, show i + m + 1 - (i + m + 1) = 0 by omega, HS0.out]
      have hle : ¬ ((i + m + 1 : Nat) : Int) ≤ (i : Int) + (sn : Int) + (ln : Int) := by have := HM.out; omega
      go_wp2_with fail
      go_ret
      rw [HE3.out]
      exact ⟨rfl, hA.trans (hbr.mono hA.size)⟩

set_option maxRecDepth 20000 in
set_option maxHeartbeats 3200000 in
theorem said_18 (h12 : sn ≤ 12) (hl12 : ln ≤ 12) (hi : i < 24) (c0 : w.cell? ⟨b, off + p * 2, none⟩ = some (.int .i64 18)) (hbl : b < w.heap.size) (m rb ro rc : Nat) (h : Nat → Bool) (hm : m = sn + ln) (hl1 : 1 ≤ ln) (him : i < m) (hp1 : p + 1 < n) (hn : n ≤ 60) (r0 : w.cell? ⟨RB, p + 1, none⟩ = some (.slice (some ⟨rb, ro, none⟩) m rc)) (r1 : ∀ j, j < m → w.cell? ⟨rb, ro + j, none⟩ = some (.bool (h j))) (hmoh : ∀ j, h (moAt sn m j) = h j) (hR : RB < w.heap.size) (hrb : rb < w.heap.size) : Calls Tryd.prog 29 #[.slice (some ⟨b, off, none⟩) n cap, .agg #[.slice so sn sc, .slice lo ln lc], .slice (some ⟨RB, 0, none⟩) n n, .int .i64 (p : Int), .int .i64 (i : Int)] w fun e w' => e = .returned (.bool (stp (fun _ => false) h true (m + 1) i)) ∧ Below w.heap.size w w' := by
  obtain ⟨V0, hV0⟩ : ∃ V0, V0 = (w.alloc (.cells #[.slice so sn sc, .slice lo ln lc] 25)) := ⟨_, rfl⟩
  have hA : Below w.heap.size w V0 := by rw [hV0]; exact (Below.refl _ _).alloc (Nat.le_refl _) _
  have hz0 : w.heap.size < V0.heap.size := by rw [hV0]; simp
  have d0 : V0.cell? ⟨w.heap.size, 0, none⟩ = some (.slice so sn sc) := by rw [hV0]; simp [go_sem]
  have d1 : V0.cell? ⟨w.heap.size, 1, none⟩ = some (.slice lo ln lc) := by rw [hV0]; simp [go_sem]
  have HS : Hid (∀ (Y : World) (j : Nat), Below V0.heap.size V0 Y → j < 100 → Y.cell? ⟨w.heap.size, 0, none⟩ = some (.slice so sn sc) ∧ Y.cell? ⟨w.heap.size, 1, none⟩ = some (.slice lo ln lc) ∧ Y.cell? ⟨b, off + p * 2, none⟩ = some (.int .i64 18) ∧ Y.cell? ⟨RB, p + 1, none⟩ = some (.slice (some ⟨rb, ro, none⟩) m rc) ∧ Y.cell? ⟨rb, ro + moAt sn m j, none⟩ = some (.bool (h j)) ∧ Below V0.heap.size V0 Y) := fun Y j hb hj => by
    have hw := hA.trans (hb.mono hA.size)
    have hml : moAt sn m j < m := moAt_lt (by omega)
    exact ⟨(hb.cell (p := ⟨w.heap.size, 0, none⟩) hz0).trans d0, (hb.cell (p := ⟨w.heap.size, 1, none⟩) hz0).trans d1, (hw.cell (p := ⟨b, off + p * 2, none⟩) hbl).trans c0, (hw.cell (p := ⟨RB, p + 1, none⟩) hR).trans r0, ((hw.cell (p := ⟨rb, ro + moAt sn m j, none⟩) hrb).trans (r1 _ hml)).trans (congrArg (fun z => some (Value.bool z)) (hmoh j)), hb⟩
  have HMo : Hid (∀ (j : Nat) (w1 : World), j < 100 → Calls Tryd.prog 52 #[.agg #[.slice so sn sc, .slice lo ln lc], .int .i64 (j : Int)] w1 fun e w' => e = .returned (.int .i64 (moAt sn m j : Int)) ∧ Below w1.heap.size w1 w') := fun j w1 hj => by
    have hx := moment_any so lo sn sc ln lc j w1 h12 hl1 hl12 (by omega)
    rw [← hm] at hx
    exact hx
  have HMl : Hid (∀ j : Nat, moAt sn m j < m) := fun j => moAt_lt (by omega)
  have HSt : Hid (∀ q j : Nat, stp (fun _ => false) h true (q + 1) j = ((fun _ => false) j || (h j && stp (fun _ => false) h true q (j + 1)))) := fun _ _ => rfl
  have HS0 : Hid (∀ j : Nat, stp (fun _ => false) h true 0 j = true) := fun _ => rfl
  have hB0 : Below V0.heap.size V0 V0 := Below.refl _ _
  obtain ⟨q0, q1, q2, q3, _, _⟩ := HS.out V0 i hB0 (by omega)
  have hpI : (p : Int) < (n : Int) := by omega
  have q2' := q2
  rw [hV0] at q2'
  have HV : Hid (V0 = (w.alloc (.cells #[.slice so sn sc, .slice lo ln lc] 25))) := hV0
  have hp1I : (p : Int) + 1 < (n : Int) := by omega
  have hp0I : (0 : Int) ≤ (p : Int) + 1 := by omega
  have hwr1 : IntKind.i64.wrap ((p : Int) + 1) = (p : Int) + 1 := by rw [IntKind.wrap_i64]; omega
  have hmI : (m : Int) = (sn : Int) + (ln : Int) := by omega
  have HmI : Hid ((m : Int) = (sn : Int) + (ln : Int)) := hmI
  have HM : Hid (m = sn + ln) := hm
  have hm24 : m ≤ 24 := by omega
  clear d0 d1 c0 r0 r1 hV0 hm hmI hmoh
  generalize hres : stp (fun _ => false) h true = st at *
  clear hres
  obtain ⟨x, hx⟩ : ∃ x, x = st (m + 1) i := ⟨_, rfl⟩
  have HX : Hid (x = st (m + 1) i) := hx
  rw [← hx]
  clear hx
  go_enter Tryd.func29, Tryd.ntmps29
  go_wp2_with fail
  rw [← HV.out]
  go_loopw [13] (fun jv wr => ∃ j : Nat, i ≤ j ∧ j ≤ i + m + 1 ∧ jv = .int .i64 (j : Int) ∧ Hid (x = st (i + m + 1 - j) j) ∧ Hid (Below V0.heap.size V0 wr)) (fun jv _ => i + m + 1 - (intOf jv).toNat)
  case atStart => exact ⟨i, Nat.le_refl _, by omega, rfl, by rw [show i + m + 1 - i = m + 1 by omega]; exact HX.out, hB0⟩
  case round =>
    obtain ⟨j, hj1, hj2, rfl, HE, HB⟩ := hrel
    have hbr := HB.out
    by_cases hlt : j ≤ i + m
    · have hSj := fun Y hb => HS.out Y j hb (by omega)
      have hmo := fun w1 => HMo.out j w1 (by omega)
      have hml := HMl.out j
      have hjw : IntKind.i64.wrap (j : Int) = (j : Int) := by rw [IntKind.wrap_i64]; omega
      have HE2 : Hid (x = ((fun _ => false) j || (h j && st (i + m + 1 - (j + 1)) (j + 1)))) := by
        show _ = _
        rw [HE.out, show i + m + 1 - j = (i + m + 1 - (j + 1)) + 1 by omega, HSt.out]
      have hle : (j : Int) ≤ (i : Int) + (sn : Int) + (ln : Int) := by have := HM.out; omega
      obtain ⟨y0, y1, y2, y3, y4, _⟩ := hSj wr hbr
      generalize moAt sn m j = mo at *
      cases hh : h j with
      | false =>
        rw [hh] at hSj y4
        have HE3 : Hid (x = false) := by show _ = _; rw [HE2.out]; simp [hh]
        clear hh HE HE2
        go_wp2_with fail
        go_region_held3 (fun Y => Y.cell? ⟨w.heap.size, 0, none⟩ = some (.slice so sn sc) ∧ Y.cell? ⟨w.heap.size, 1, none⟩ = some (.slice lo ln lc) ∧ Y.cell? ⟨b, off + p * 2, none⟩ = some (.int .i64 18) ∧ Y.cell? ⟨RB, p + 1, none⟩ = some (.slice (some ⟨rb, ro, none⟩) m rc) ∧ Y.cell? ⟨rb, ro + mo, none⟩ = some (.bool false) ∧ Below V0.heap.size V0 Y)
          (exact hSj _ (by first | exact hbr | exact hbr.drew | exact hb4))
          (first | (go_at_call 52; refine (hmo _).mono ?_; rintro e w4 ⟨rfl, hb4'⟩; have hb4 := hbr.drew.trans (hb4'.mono hbr.drew.size)))
        go_wp2_with fail
        go_ret
        rw [HE3.out]
        exact ⟨rfl, hA.trans (hb4.mono hA.size)⟩
      | true =>
        rw [hh] at hSj y4
        have HE3 : Hid (x = st (i + m + 1 - (j + 1)) (j + 1)) := by show _ = _; rw [HE2.out]; simp [hh]
        clear hh HE HE2
        go_wp2_with fail
        go_region_held3 (fun Y => Y.cell? ⟨w.heap.size, 0, none⟩ = some (.slice so sn sc) ∧ Y.cell? ⟨w.heap.size, 1, none⟩ = some (.slice lo ln lc) ∧ Y.cell? ⟨b, off + p * 2, none⟩ = some (.int .i64 18) ∧ Y.cell? ⟨RB, p + 1, none⟩ = some (.slice (some ⟨rb, ro, none⟩) m rc) ∧ Y.cell? ⟨rb, ro + mo, none⟩ = some (.bool true) ∧ Below V0.heap.size V0 Y)
          (exact hSj _ (by first | exact hbr | exact hbr.drew | exact hb4))
          (first | (go_at_call 52; refine (hmo _).mono ?_; rintro e w4 ⟨rfl, hb4'⟩; have hb4 := hbr.drew.trans (hb4'.mono hbr.drew.size)))
        go_wp2_with fail
        go_roundw
        case rel => exact ⟨j + 1, by omega, by omega, by go_num, HE3, hb4⟩
        case measure => simp [intOf]; omega
    · obtain rfl : j = i + m + 1 := by omega
      have HE3 : Hid (x = true) := by show _ = _; rw [HE.out, show i + m + 1 - (i + m + 1) = 0 by omega, HS0.out]
      have hle : ¬ ((i + m + 1 : Nat) : Int) ≤ (i : Int) + (sn : Int) + (ln : Int) := by have := HM.out; omega
      go_wp2_with fail
      go_ret
      rw [HE3.out]
      exact ⟨rfl, hA.trans (hbr.mono hA.size)⟩

set_option maxRecDepth 20000 in
set_option maxHeartbeats 3200000 in
theorem said_8 (h12 : sn ≤ 12) (hl12 : ln ≤ 12) (hi : i < 24) (c0 : w.cell? ⟨b, off + p * 2, none⟩ = some (.int .i64 8)) (hbl : b < w.heap.size) (m rb ro rc rb2 ro2 rc2 sp : Nat) (h g : Nat → Bool) (hm : m = sn + ln) (hl1 : 1 ≤ ln) (him : i < m) (hp1 : p + 1 < n) (hsp : sp < n) (hn : n ≤ 60) (r0 : w.cell? ⟨RB, p + 1, none⟩ = some (.slice (some ⟨rb, ro, none⟩) m rc)) (r1 : ∀ j, j < m → w.cell? ⟨rb, ro + j, none⟩ = some (.bool (h j))) (r2 : w.cell? ⟨RB, sp, none⟩ = some (.slice (some ⟨rb2, ro2, none⟩) m rc2)) (r3 : ∀ j, j < m → w.cell? ⟨rb2, ro2 + j, none⟩ = some (.bool (g j))) (hR : RB < w.heap.size) (hrb : rb < w.heap.size) (hrb2 : rb2 < w.heap.size) (hsec : ∀ w1, Below w.heap.size w w1 → Calls Tryd.prog 53 #[.slice (some ⟨b, off, none⟩) n cap, .int .i64 (p : Int)] w1 fun e w2 => e = .returned (.int .i64 (sp : Int)) ∧ w2 = w1) : Calls Tryd.prog 29 #[.slice (some ⟨b, off, none⟩) n cap, .agg #[.slice so sn sc, .slice lo ln lc], .slice (some ⟨RB, 0, none⟩) n n, .int .i64 (p : Int), .int .i64 (i : Int)] w fun e w' => e = .returned (.bool (h i && g i)) ∧ Below w.heap.size w w' := by
  obtain ⟨V0, hV0⟩ : ∃ V0, V0 = (w.alloc (.cells #[.slice so sn sc, .slice lo ln lc] 25)) := ⟨_, rfl⟩
  have hA : Below w.heap.size w V0 := by rw [hV0]; exact (Below.refl _ _).alloc (Nat.le_refl _) _
  have hz0 : w.heap.size < V0.heap.size := by rw [hV0]; simp
  have d0 : V0.cell? ⟨w.heap.size, 0, none⟩ = some (.slice so sn sc) := by rw [hV0]; simp [go_sem]
  have d1 : V0.cell? ⟨w.heap.size, 1, none⟩ = some (.slice lo ln lc) := by rw [hV0]; simp [go_sem]
  have hsc := hsec V0 hA
  have q2 := (hA.cell (p := ⟨b, off + p * 2, none⟩) hbl).trans c0
  have q3 := (hA.cell (p := ⟨RB, p + 1, none⟩) hR).trans r0
  have q4 := (hA.cell (p := ⟨RB, sp, none⟩) hR).trans r2
  have q5 := (hA.cell (p := ⟨rb, ro + i, none⟩) hrb).trans (r1 i him)
  have q6 := (hA.cell (p := ⟨rb2, ro2 + i, none⟩) hrb2).trans (r3 i him)
  have hpI : (p : Int) < (n : Int) := by omega
  have hm24 : m ≤ 24 := by omega
  generalize h i = x at *
  generalize g i = y at *
  clear c0 r0 r1 r2 r3 hsec hm
  rw [hV0] at hsc q2 q3 q4 q5 q6 d0 d1 hA
  clear hV0 hz0
  cases x <;> cases y
  all_goals
    go_enter Tryd.func29, Tryd.ntmps29
    go_wp2_with (go_at_call 53; refine hsc.mono ?_; rintro e w3 ⟨rfl, hw3⟩; obtain rfl := hw3.symm)
    go_ret
    exact ⟨rfl, hA⟩

set_option maxRecDepth 20000 in
set_option maxHeartbeats 3200000 in
theorem said_9 (h12 : sn ≤ 12) (hl12 : ln ≤ 12) (hi : i < 24) (c0 : w.cell? ⟨b, off + p * 2, none⟩ = some (.int .i64 9)) (hbl : b < w.heap.size) (m rb ro rc rb2 ro2 rc2 sp : Nat) (h g : Nat → Bool) (hm : m = sn + ln) (hl1 : 1 ≤ ln) (him : i < m) (hp1 : p + 1 < n) (hsp : sp < n) (hn : n ≤ 60) (r0 : w.cell? ⟨RB, p + 1, none⟩ = some (.slice (some ⟨rb, ro, none⟩) m rc)) (r1 : ∀ j, j < m → w.cell? ⟨rb, ro + j, none⟩ = some (.bool (h j))) (r2 : w.cell? ⟨RB, sp, none⟩ = some (.slice (some ⟨rb2, ro2, none⟩) m rc2)) (r3 : ∀ j, j < m → w.cell? ⟨rb2, ro2 + j, none⟩ = some (.bool (g j))) (hR : RB < w.heap.size) (hrb : rb < w.heap.size) (hrb2 : rb2 < w.heap.size) (hsec : ∀ w1, Below w.heap.size w w1 → Calls Tryd.prog 53 #[.slice (some ⟨b, off, none⟩) n cap, .int .i64 (p : Int)] w1 fun e w2 => e = .returned (.int .i64 (sp : Int)) ∧ w2 = w1) : Calls Tryd.prog 29 #[.slice (some ⟨b, off, none⟩) n cap, .agg #[.slice so sn sc, .slice lo ln lc], .slice (some ⟨RB, 0, none⟩) n n, .int .i64 (p : Int), .int .i64 (i : Int)] w fun e w' => e = .returned (.bool (h i || g i)) ∧ Below w.heap.size w w' := by
  obtain ⟨V0, hV0⟩ : ∃ V0, V0 = (w.alloc (.cells #[.slice so sn sc, .slice lo ln lc] 25)) := ⟨_, rfl⟩
  have hA : Below w.heap.size w V0 := by rw [hV0]; exact (Below.refl _ _).alloc (Nat.le_refl _) _
  have hz0 : w.heap.size < V0.heap.size := by rw [hV0]; simp
  have d0 : V0.cell? ⟨w.heap.size, 0, none⟩ = some (.slice so sn sc) := by rw [hV0]; simp [go_sem]
  have d1 : V0.cell? ⟨w.heap.size, 1, none⟩ = some (.slice lo ln lc) := by rw [hV0]; simp [go_sem]
  have hsc := hsec V0 hA
  have q2 := (hA.cell (p := ⟨b, off + p * 2, none⟩) hbl).trans c0
  have q3 := (hA.cell (p := ⟨RB, p + 1, none⟩) hR).trans r0
  have q4 := (hA.cell (p := ⟨RB, sp, none⟩) hR).trans r2
  have q5 := (hA.cell (p := ⟨rb, ro + i, none⟩) hrb).trans (r1 i him)
  have q6 := (hA.cell (p := ⟨rb2, ro2 + i, none⟩) hrb2).trans (r3 i him)
  have hpI : (p : Int) < (n : Int) := by omega
  have hm24 : m ≤ 24 := by omega
  generalize h i = x at *
  generalize g i = y at *
  clear c0 r0 r1 r2 r3 hsec hm
  rw [hV0] at hsc q2 q3 q4 q5 q6 d0 d1 hA
  clear hV0 hz0
  cases x <;> cases y
  all_goals
    go_enter Tryd.func29, Tryd.ntmps29
    go_wp2_with (go_at_call 53; refine hsc.mono ?_; rintro e w3 ⟨rfl, hw3⟩; obtain rfl := hw3.symm)
    go_ret
    exact ⟨rfl, hA⟩

set_option maxRecDepth 20000 in
set_option maxHeartbeats 6400000 in
theorem said_15 (h12 : sn ≤ 12) (hl12 : ln ≤ 12) (hi : i < 24) (c0 : w.cell? ⟨b, off + p * 2, none⟩ = some (.int .i64 15)) (hbl : b < w.heap.size) (m rb ro rc rb2 ro2 rc2 sp : Nat) (h g : Nat → Bool) (hm : m = sn + ln) (hl1 : 1 ≤ ln) (him : i < m) (hp1 : p + 1 < n) (hsp : sp < n) (hn : n ≤ 60) (r0 : w.cell? ⟨RB, p + 1, none⟩ = some (.slice (some ⟨rb, ro, none⟩) m rc)) (r1 : ∀ j, j < m → w.cell? ⟨rb, ro + j, none⟩ = some (.bool (h j))) (r2 : w.cell? ⟨RB, sp, none⟩ = some (.slice (some ⟨rb2, ro2, none⟩) m rc2)) (r3 : ∀ j, j < m → w.cell? ⟨rb2, ro2 + j, none⟩ = some (.bool (g j))) (hR : RB < w.heap.size) (hrb : rb < w.heap.size) (hrb2 : rb2 < w.heap.size) (hsec : ∀ w1, Below w.heap.size w w1 → Calls Tryd.prog 53 #[.slice (some ⟨b, off, none⟩) n cap, .int .i64 (p : Int)] w1 fun e w2 => e = .returned (.int .i64 (sp : Int)) ∧ w2 = w1) (hmoh : ∀ j, h (moAt sn m j) = h j) (hmog : ∀ j, g (moAt sn m j) = g j) : Calls Tryd.prog 29 #[.slice (some ⟨b, off, none⟩) n cap, .agg #[.slice so sn sc, .slice lo ln lc], .slice (some ⟨RB, 0, none⟩) n n, .int .i64 (p : Int), .int .i64 (i : Int)] w fun e w' => e = .returned (.bool (stp g h false (m + 1) i)) ∧ Below w.heap.size w w' := by
  obtain ⟨V0, hV0⟩ : ∃ V0, V0 = (w.alloc (.cells #[.slice so sn sc, .slice lo ln lc] 25)) := ⟨_, rfl⟩
  have hA : Below w.heap.size w V0 := by rw [hV0]; exact (Below.refl _ _).alloc (Nat.le_refl _) _
  have hz0 : w.heap.size < V0.heap.size := by rw [hV0]; simp
  have d0 : V0.cell? ⟨w.heap.size, 0, none⟩ = some (.slice so sn sc) := by rw [hV0]; simp [go_sem]
  have d1 : V0.cell? ⟨w.heap.size, 1, none⟩ = some (.slice lo ln lc) := by rw [hV0]; simp [go_sem]
  have hsc := hsec V0 hA
  have HS : Hid (∀ (Y : World) (j : Nat), Below V0.heap.size V0 Y → j < 100 → Y.cell? ⟨w.heap.size, 0, none⟩ = some (.slice so sn sc) ∧ Y.cell? ⟨w.heap.size, 1, none⟩ = some (.slice lo ln lc) ∧ Y.cell? ⟨b, off + p * 2, none⟩ = some (.int .i64 15) ∧ Y.cell? ⟨RB, p + 1, none⟩ = some (.slice (some ⟨rb, ro, none⟩) m rc) ∧ Y.cell? ⟨RB, sp, none⟩ = some (.slice (some ⟨rb2, ro2, none⟩) m rc2) ∧ Y.cell? ⟨rb, ro + moAt sn m j, none⟩ = some (.bool (h j)) ∧ Y.cell? ⟨rb2, ro2 + moAt sn m j, none⟩ = some (.bool (g j))) := fun Y j hb hj => by
    have hw := hA.trans (hb.mono hA.size)
    have hml : moAt sn m j < m := moAt_lt (by omega)
    exact ⟨(hb.cell (p := ⟨w.heap.size, 0, none⟩) hz0).trans d0, (hb.cell (p := ⟨w.heap.size, 1, none⟩) hz0).trans d1, (hw.cell (p := ⟨b, off + p * 2, none⟩) hbl).trans c0, (hw.cell (p := ⟨RB, p + 1, none⟩) hR).trans r0, (hw.cell (p := ⟨RB, sp, none⟩) hR).trans r2, ((hw.cell (p := ⟨rb, ro + moAt sn m j, none⟩) hrb).trans (r1 _ hml)).trans (congrArg (fun z => some (Value.bool z)) (hmoh j)), ((hw.cell (p := ⟨rb2, ro2 + moAt sn m j, none⟩) hrb2).trans (r3 _ hml)).trans (congrArg (fun z => some (Value.bool z)) (hmog j))⟩
  have HMo : Hid (∀ (j : Nat) (w1 : World), j < 100 → Calls Tryd.prog 52 #[.agg #[.slice so sn sc, .slice lo ln lc], .int .i64 (j : Int)] w1 fun e w' => e = .returned (.int .i64 (moAt sn m j : Int)) ∧ Below w1.heap.size w1 w') := fun j w1 hj => by
    have hx := moment_any so lo sn sc ln lc j w1 h12 hl1 hl12 (by omega)
    rw [← hm] at hx
    exact hx
  have HMl : Hid (∀ j : Nat, moAt sn m j < m) := fun j => moAt_lt (by omega)
  have HSt : Hid (∀ q j : Nat, stp g h false (q + 1) j = (g j || (h j && stp g h false q (j + 1)))) := fun _ _ => rfl
  have HS0 : Hid (∀ j : Nat, stp g h false 0 j = false) := fun _ => rfl
  have hB0 : Below V0.heap.size V0 V0 := Below.refl _ _
  obtain ⟨q0, q1, q2, q3, q4, _, _⟩ := HS.out V0 i hB0 (by omega)
  have hpI : (p : Int) < (n : Int) := by omega
  have HV : Hid (V0 = (w.alloc (.cells #[.slice so sn sc, .slice lo ln lc] 25))) := hV0
  have HM : Hid (m = sn + ln) := hm
  have hm24 : m ≤ 24 := by omega
  have q2' := q2
  have q3' := q3
  have q4' := q4
  have hsc' := hsc
  rw [hV0] at q2' q3' q4' hsc'
  clear d0 d1 c0 r0 r1 r2 r3 hV0 hm hmoh hmog hsec hsc
  generalize hres : stp g h false = st at *
  clear hres
  obtain ⟨x, hx⟩ : ∃ x, x = st (m + 1) i := ⟨_, rfl⟩
  have HX : Hid (x = st (m + 1) i) := hx
  rw [← hx]
  clear hx
  go_enter Tryd.func29, Tryd.ntmps29
  go_wp2_with (go_at_call 53; refine hsc'.mono ?_; rintro e w3 ⟨rfl, hw3⟩; obtain rfl := hw3.symm)
  rw [← HV.out]
  clear q2' q3' q4' hsc'
  go_loopw [16] (fun jv wr => ∃ j : Nat, i ≤ j ∧ j ≤ i + m + 1 ∧ jv = .int .i64 (j : Int) ∧ Hid (x = st (i + m + 1 - j) j) ∧ Hid (Below V0.heap.size V0 wr)) (fun jv _ => i + m + 1 - (intOf jv).toNat)
  case atStart => exact ⟨i, Nat.le_refl _, by omega, rfl, by rw [show i + m + 1 - i = m + 1 by omega]; exact HX.out, hB0⟩
  case round =>
    obtain ⟨j, hj1, hj2, rfl, HE, HB⟩ := hrel
    have hbr := HB.out
    by_cases hlt : j ≤ i + m
    · have hSj := fun Y hb => HS.out Y j hb (by omega)
      have hmo := fun w1 => HMo.out j w1 (by omega)
      have hml := HMl.out j
      have HE2 : Hid (x = (g j || (h j && st (i + m + 1 - (j + 1)) (j + 1)))) := by
        show _ = _
        rw [HE.out, show i + m + 1 - j = (i + m + 1 - (j + 1)) + 1 by omega, HSt.out]
      have hle : (j : Int) ≤ (i : Int) + (sn : Int) + (ln : Int) := by have := HM.out; omega
      obtain ⟨y0, y1, y2, y3, y5, _, _⟩ := hSj wr hbr
      generalize moAt sn m j = mo at *
      by_cases hc1 : h j = false ∧ g j = false
      · obtain ⟨hh, hg⟩ := hc1
        rw [hh, hg] at hSj
        have HE3 : Hid (x = false) := by show _ = _; rw [HE2.out]; simp [hh, hg]
        clear hh hg HE HE2
        go_wp2_with (go_at_call 52; refine (hmo _).mono ?_; rintro e w4 ⟨rfl, hb4'⟩; have hb4 := hbr.trans (hb4'.mono hbr.size); obtain ⟨_, _, _, _, _, z0, z1⟩ := hSj w4 hb4)
        go_ret
        rw [HE3.out]
        exact ⟨rfl, hA.trans (hb4.mono hA.size)⟩
      by_cases hc2 : h j = false ∧ g j = true
      · obtain ⟨hh, hg⟩ := hc2
        rw [hh, hg] at hSj
        have HE3 : Hid (x = true) := by show _ = _; rw [HE2.out]; simp [hh, hg]
        clear hh hg HE HE2
        go_wp2_with (go_at_call 52; refine (hmo _).mono ?_; rintro e w4 ⟨rfl, hb4'⟩; have hb4 := hbr.trans (hb4'.mono hbr.size); obtain ⟨_, _, _, _, _, z0, z1⟩ := hSj w4 hb4)
        go_ret
        rw [HE3.out]
        exact ⟨rfl, hA.trans (hb4.mono hA.size)⟩
      by_cases hc3 : h j = true ∧ g j = false
      · obtain ⟨hh, hg⟩ := hc3
        rw [hh, hg] at hSj
        have HE3 : Hid (x = st (i + m + 1 - (j + 1)) (j + 1)) := by show _ = _; rw [HE2.out]; simp [hh, hg]
        clear hh hg HE HE2
        go_wp2_with (go_at_call 52; refine (hmo _).mono ?_; rintro e w4 ⟨rfl, hb4'⟩; have hb4 := hbr.trans (hb4'.mono hbr.size); obtain ⟨_, _, _, _, _, z0, z1⟩ := hSj w4 hb4)
        go_roundw
        case rel => exact ⟨j + 1, by omega, by omega, by go_num, HE3, hb4⟩
        case measure => simp [intOf]; omega
      by_cases hc4 : h j = true ∧ g j = true
      · obtain ⟨hh, hg⟩ := hc4
        rw [hh, hg] at hSj
        have HE3 : Hid (x = true) := by show _ = _; rw [HE2.out]; simp [hh, hg]
        clear hh hg HE HE2
        go_wp2_with (go_at_call 52; refine (hmo _).mono ?_; rintro e w4 ⟨rfl, hb4'⟩; have hb4 := hbr.trans (hb4'.mono hbr.size); obtain ⟨_, _, _, _, _, z0, z1⟩ := hSj w4 hb4)
        go_ret
        rw [HE3.out]
        exact ⟨rfl, hA.trans (hb4.mono hA.size)⟩
      exfalso
      revert hc1 hc2 hc3 hc4
      cases h j <;> cases g j <;> simp
    · obtain rfl : j = i + m + 1 := by omega
      have HE3 : Hid (x = false) := by show _ = _; rw [HE.out, show i + m + 1 - (i + m + 1) = 0 by omega, HS0.out]
      have hle : ¬ ((i + m + 1 : Nat) : Int) ≤ (i : Int) + (sn : Int) + (ln : Int) := by have := HM.out; omega
      go_wp2_with fail
      go_ret
      rw [HE3.out]
      exact ⟨rfl, hA.trans (hbr.mono hA.size)⟩

set_option maxRecDepth 20000 in
set_option maxHeartbeats 6400000 in
theorem said_16 (h12 : sn ≤ 12) (hl12 : ln ≤ 12) (hi : i < 24) (c0 : w.cell? ⟨b, off + p * 2, none⟩ = some (.int .i64 16)) (hbl : b < w.heap.size) (m rb ro rc rb2 ro2 rc2 sp : Nat) (h g : Nat → Bool) (hm : m = sn + ln) (hl1 : 1 ≤ ln) (him : i < m) (hp1 : p + 1 < n) (hsp : sp < n) (hn : n ≤ 60) (r0 : w.cell? ⟨RB, p + 1, none⟩ = some (.slice (some ⟨rb, ro, none⟩) m rc)) (r1 : ∀ j, j < m → w.cell? ⟨rb, ro + j, none⟩ = some (.bool (h j))) (r2 : w.cell? ⟨RB, sp, none⟩ = some (.slice (some ⟨rb2, ro2, none⟩) m rc2)) (r3 : ∀ j, j < m → w.cell? ⟨rb2, ro2 + j, none⟩ = some (.bool (g j))) (hR : RB < w.heap.size) (hrb : rb < w.heap.size) (hrb2 : rb2 < w.heap.size) (hsec : ∀ w1, Below w.heap.size w w1 → Calls Tryd.prog 53 #[.slice (some ⟨b, off, none⟩) n cap, .int .i64 (p : Int)] w1 fun e w2 => e = .returned (.int .i64 (sp : Int)) ∧ w2 = w1) (hmoh : ∀ j, h (moAt sn m j) = h j) (hmog : ∀ j, g (moAt sn m j) = g j) : Calls Tryd.prog 29 #[.slice (some ⟨b, off, none⟩) n cap, .agg #[.slice so sn sc, .slice lo ln lc], .slice (some ⟨RB, 0, none⟩) n n, .int .i64 (p : Int), .int .i64 (i : Int)] w fun e w' => e = .returned (.bool (stp (fun j => h j && g j) g true (m + 1) i)) ∧ Below w.heap.size w w' := by
  obtain ⟨V0, hV0⟩ : ∃ V0, V0 = (w.alloc (.cells #[.slice so sn sc, .slice lo ln lc] 25)) := ⟨_, rfl⟩
  have hA : Below w.heap.size w V0 := by rw [hV0]; exact (Below.refl _ _).alloc (Nat.le_refl _) _
  have hz0 : w.heap.size < V0.heap.size := by rw [hV0]; simp
  have d0 : V0.cell? ⟨w.heap.size, 0, none⟩ = some (.slice so sn sc) := by rw [hV0]; simp [go_sem]
  have d1 : V0.cell? ⟨w.heap.size, 1, none⟩ = some (.slice lo ln lc) := by rw [hV0]; simp [go_sem]
  have hsc := hsec V0 hA
  have HS : Hid (∀ (Y : World) (j : Nat), Below V0.heap.size V0 Y → j < 100 → Y.cell? ⟨w.heap.size, 0, none⟩ = some (.slice so sn sc) ∧ Y.cell? ⟨w.heap.size, 1, none⟩ = some (.slice lo ln lc) ∧ Y.cell? ⟨b, off + p * 2, none⟩ = some (.int .i64 16) ∧ Y.cell? ⟨RB, p + 1, none⟩ = some (.slice (some ⟨rb, ro, none⟩) m rc) ∧ Y.cell? ⟨RB, sp, none⟩ = some (.slice (some ⟨rb2, ro2, none⟩) m rc2) ∧ Y.cell? ⟨rb, ro + moAt sn m j, none⟩ = some (.bool (h j)) ∧ Y.cell? ⟨rb2, ro2 + moAt sn m j, none⟩ = some (.bool (g j))) := fun Y j hb hj => by
    have hw := hA.trans (hb.mono hA.size)
    have hml : moAt sn m j < m := moAt_lt (by omega)
    exact ⟨(hb.cell (p := ⟨w.heap.size, 0, none⟩) hz0).trans d0, (hb.cell (p := ⟨w.heap.size, 1, none⟩) hz0).trans d1, (hw.cell (p := ⟨b, off + p * 2, none⟩) hbl).trans c0, (hw.cell (p := ⟨RB, p + 1, none⟩) hR).trans r0, (hw.cell (p := ⟨RB, sp, none⟩) hR).trans r2, ((hw.cell (p := ⟨rb, ro + moAt sn m j, none⟩) hrb).trans (r1 _ hml)).trans (congrArg (fun z => some (Value.bool z)) (hmoh j)), ((hw.cell (p := ⟨rb2, ro2 + moAt sn m j, none⟩) hrb2).trans (r3 _ hml)).trans (congrArg (fun z => some (Value.bool z)) (hmog j))⟩
  have HMo : Hid (∀ (j : Nat) (w1 : World), j < 100 → Calls Tryd.prog 52 #[.agg #[.slice so sn sc, .slice lo ln lc], .int .i64 (j : Int)] w1 fun e w' => e = .returned (.int .i64 (moAt sn m j : Int)) ∧ Below w1.heap.size w1 w') := fun j w1 hj => by
    have hx := moment_any so lo sn sc ln lc j w1 h12 hl1 hl12 (by omega)
    rw [← hm] at hx
    exact hx
  have HMl : Hid (∀ j : Nat, moAt sn m j < m) := fun j => moAt_lt (by omega)
  have HSt : Hid (∀ q j : Nat, stp (fun j => h j && g j) g true (q + 1) j = ((fun j => h j && g j) j || (g j && stp (fun j => h j && g j) g true q (j + 1)))) := fun _ _ => rfl
  have HS0 : Hid (∀ j : Nat, stp (fun j => h j && g j) g true 0 j = true) := fun _ => rfl
  have hB0 : Below V0.heap.size V0 V0 := Below.refl _ _
  obtain ⟨q0, q1, q2, q3, q4, _, _⟩ := HS.out V0 i hB0 (by omega)
  have hpI : (p : Int) < (n : Int) := by omega
  have HV : Hid (V0 = (w.alloc (.cells #[.slice so sn sc, .slice lo ln lc] 25))) := hV0
  have HM : Hid (m = sn + ln) := hm
  have hm24 : m ≤ 24 := by omega
  have q2' := q2
  have q3' := q3
  have q4' := q4
  have hsc' := hsc
  rw [hV0] at q2' q3' q4' hsc'
  clear d0 d1 c0 r0 r1 r2 r3 hV0 hm hmoh hmog hsec hsc
  generalize hres : stp (fun j => h j && g j) g true = st at *
  clear hres
  obtain ⟨x, hx⟩ : ∃ x, x = st (m + 1) i := ⟨_, rfl⟩
  have HX : Hid (x = st (m + 1) i) := hx
  rw [← hx]
  clear hx
  go_enter Tryd.func29, Tryd.ntmps29
  go_wp2_with (go_at_call 53; refine hsc'.mono ?_; rintro e w3 ⟨rfl, hw3⟩; obtain rfl := hw3.symm)
  rw [← HV.out]
  clear q2' q3' q4' hsc'
  go_loopw [16] (fun jv wr => ∃ j : Nat, i ≤ j ∧ j ≤ i + m + 1 ∧ jv = .int .i64 (j : Int) ∧ Hid (x = st (i + m + 1 - j) j) ∧ Hid (Below V0.heap.size V0 wr)) (fun jv _ => i + m + 1 - (intOf jv).toNat)
  case atStart => exact ⟨i, Nat.le_refl _, by omega, rfl, by rw [show i + m + 1 - i = m + 1 by omega]; exact HX.out, hB0⟩
  case round =>
    obtain ⟨j, hj1, hj2, rfl, HE, HB⟩ := hrel
    have hbr := HB.out
    by_cases hlt : j ≤ i + m
    · have hSj := fun Y hb => HS.out Y j hb (by omega)
      have hmo := fun w1 => HMo.out j w1 (by omega)
      have hml := HMl.out j
      have HE2 : Hid (x = ((fun j => h j && g j) j || (g j && st (i + m + 1 - (j + 1)) (j + 1)))) := by
        show _ = _
        rw [HE.out, show i + m + 1 - j = (i + m + 1 - (j + 1)) + 1 by omega, HSt.out]
      have hle : (j : Int) ≤ (i : Int) + (sn : Int) + (ln : Int) := by have := HM.out; omega
      obtain ⟨y0, y1, y2, y3, y5, _, _⟩ := hSj wr hbr
      generalize moAt sn m j = mo at *
      by_cases hc1 : h j = false ∧ g j = false
      · obtain ⟨hh, hg⟩ := hc1
        rw [hh, hg] at hSj
        have HE3 : Hid (x = false) := by show _ = _; rw [HE2.out]; simp [hh, hg]
        clear hh hg HE HE2
        go_wp2_with (go_at_call 52; refine (hmo _).mono ?_; rintro e w4 ⟨rfl, hb4'⟩; have hb4 := hbr.trans (hb4'.mono hbr.size); obtain ⟨_, _, _, _, _, z0, z1⟩ := hSj w4 hb4)
        go_ret
        rw [HE3.out]
        exact ⟨rfl, hA.trans (hb4.mono hA.size)⟩
      by_cases hc2 : h j = false ∧ g j = true
      · obtain ⟨hh, hg⟩ := hc2
        rw [hh, hg] at hSj
        have HE3 : Hid (x = st (i + m + 1 - (j + 1)) (j + 1)) := by show _ = _; rw [HE2.out]; simp [hh, hg]
        clear hh hg HE HE2
        go_wp2_with (go_at_call 52; refine (hmo _).mono ?_; rintro e w4 ⟨rfl, hb4'⟩; have hb4 := hbr.trans (hb4'.mono hbr.size); obtain ⟨_, _, _, _, _, z0, z1⟩ := hSj w4 hb4)
        go_roundw
        case rel => exact ⟨j + 1, by omega, by omega, by go_num, HE3, hb4⟩
        case measure => simp [intOf]; omega
      by_cases hc3 : h j = true ∧ g j = false
      · obtain ⟨hh, hg⟩ := hc3
        rw [hh, hg] at hSj
        have HE3 : Hid (x = false) := by show _ = _; rw [HE2.out]; simp [hh, hg]
        clear hh hg HE HE2
        go_wp2_with (go_at_call 52; refine (hmo _).mono ?_; rintro e w4 ⟨rfl, hb4'⟩; have hb4 := hbr.trans (hb4'.mono hbr.size); obtain ⟨_, _, _, _, _, z0, z1⟩ := hSj w4 hb4)
        go_ret
        rw [HE3.out]
        exact ⟨rfl, hA.trans (hb4.mono hA.size)⟩
      by_cases hc4 : h j = true ∧ g j = true
      · obtain ⟨hh, hg⟩ := hc4
        rw [hh, hg] at hSj
        have HE3 : Hid (x = true) := by show _ = _; rw [HE2.out]; simp [hh, hg]
        clear hh hg HE HE2
        go_wp2_with (go_at_call 52; refine (hmo _).mono ?_; rintro e w4 ⟨rfl, hb4'⟩; have hb4 := hbr.trans (hb4'.mono hbr.size); obtain ⟨_, _, _, _, _, z0, z1⟩ := hSj w4 hb4)
        go_ret
        rw [HE3.out]
        exact ⟨rfl, hA.trans (hb4.mono hA.size)⟩
      exfalso
      revert hc1 hc2 hc3 hc4
      cases h j <;> cases g j <;> simp
    · obtain rfl : j = i + m + 1 := by omega
      have HE3 : Hid (x = true) := by show _ = _; rw [HE.out, show i + m + 1 - (i + m + 1) = 0 by omega, HS0.out]
      have hle : ¬ ((i + m + 1 : Nat) : Int) ≤ (i : Int) + (sn : Int) + (ln : Int) := by have := HM.out; omega
      go_wp2_with fail
      go_ret
      rw [HE3.out]
      exact ⟨rfl, hA.trans (hbr.mono hA.size)⟩

end
end Go.Proofs.YtalbnbcfdpfofaaDoor
