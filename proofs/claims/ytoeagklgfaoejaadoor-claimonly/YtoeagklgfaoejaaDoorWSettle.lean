/-
  The contract of word's settle.
-/
import Derived.Test.YtoeagklgfaoejaaDoorWLaw2
import Derived.Test.YtoeagklgfaoejaaDoorCodes0
namespace Go.Proofs.YtoeagklgfaoejaaDoor
open Go.ChangeShapes Go.WideShapes Go.ChangeAt Go.RowKit Go.Deep
open Terms

/-- the row when k moments of a round back are settled. -/
def rnd (u v : Nat → Bool) (m s : Nat) (r : Nat → Bool) (k : Nat) : Nat → Bool := fun j => if m - k ≤ j then stp u v (r s) (m - j) j else r j
theorem rnd_zero {u v : Nat → Bool} {m s : Nat} {r : Nat → Bool} {j : Nat} (hj : j < m) : rnd u v m s r 0 j = r j := by unfold rnd; rw [if_neg (by omega)]
theorem rnd_all {u v : Nat → Bool} {m s : Nat} {r : Nat → Bool} {j : Nat} : rnd u v m s r m j = stp u v (r s) (m - j) j := by unfold rnd; rw [if_pos (by omega)]
theorem rnd_step {u v : Nat → Bool} {m s : Nat} {r : Nat → Bool} {k : Nat} (hs : s < m) (hk : k < m) (j : Nat) (hj : j < m) :
    (if j = m - 1 - k then (u (m - 1 - k) || (v (m - 1 - k) && rnd u v m s r k (if m - 1 - k = m - 1 then s else m - 1 - k + 1))) else rnd u v m s r k j) = rnd u v m s r (k + 1) j := by
  by_cases hjk : j = m - 1 - k
  · rw [if_pos hjk]
    have e : rnd u v m s r (k + 1) j = stp u v (r s) (m - j) j := by unfold rnd; rw [if_pos (by omega)]
    rw [e, show m - j = k + 1 by omega, ← hjk]
    simp only [stp]
    congr 2
    by_cases hk0 : k = 0
    · subst hk0
      rw [if_pos (by omega), rnd_zero hs]
      rfl
    · rw [if_neg (by omega)]
      unfold rnd
      rw [if_pos (by omega), show m - (j + 1) = k by omega]
  · rw [if_neg hjk]
    unfold rnd
    by_cases h1 : m - k ≤ j
    · rw [if_pos h1, if_pos (by omega)]
    · rw [if_neg h1, if_neg (by omega)]
/-- the row ahead of each round. -/
def rows2 (u v : Nat → Bool) (m s : Nat) (d : Bool) : Nat → Nat → Bool
  | 0 => fun j => if j = s then d else false
  | c + 1 => rnd u v m s (rows2 u v m s d c) m
theorem rows2_done (u v : Nat → Bool) {m s : Nat} (d : Bool) (j : Nat) : rows2 u v m s d 2 j = stp u v (stp u v d (m - s) s) (m - j) j := by
  simp only [rows2]
  rw [rnd_all, rnd_all, if_pos rfl]

/-- what settle keeps. -/
structure SeSt (w : World) (x0 x1 x2 x3 x4 x5 : Value) (m : Nat) (r : Nat → Bool) (W : World) : Prop where
  c0 : W.cell? ⟨w.heap.size, 0, none⟩ = some x0
  c1 : W.cell? ⟨w.heap.size, 1, none⟩ = some x1
  c2 : W.cell? ⟨w.heap.size, 2, none⟩ = some x2
  c3 : W.cell? ⟨w.heap.size, 3, none⟩ = some x3
  c4 : W.cell? ⟨w.heap.size, 4, none⟩ = some x4
  c5 : W.cell? ⟨w.heap.size, 5, none⟩ = some x5
  row : W.rowIs (w.heap.size + 1) 4 m (fun j => .bool (r j))
  below : Below w.heap.size w W
theorem SeSt.later {w : World} {x0 x1 x2 x3 x4 x5 : Value} {m : Nat} {r : Nat → Bool} {W W' : World} (t : SeSt w x0 x1 x2 x3 x4 x5 m r W) (hb : Below W.heap.size W W') : SeSt w x0 x1 x2 x3 x4 x5 m r W' := by
  have hl : w.heap.size < W.heap.size := World.block_lt_of_cell? W ⟨w.heap.size, 0, none⟩ t.c0
  exact ⟨(hb.cell (p := ⟨w.heap.size, 0, none⟩) hl).trans t.c0, (hb.cell (p := ⟨w.heap.size, 1, none⟩) hl).trans t.c1, (hb.cell (p := ⟨w.heap.size, 2, none⟩) hl).trans t.c2, (hb.cell (p := ⟨w.heap.size, 3, none⟩) hl).trans t.c3, (hb.cell (p := ⟨w.heap.size, 4, none⟩) hl).trans t.c4, (hb.cell (p := ⟨w.heap.size, 5, none⟩) hl).trans t.c5, row_later t.row hb, t.below.trans (hb.mono t.below.size)⟩
theorem SeSt.congr {w : World} {x0 x1 x2 x3 x4 x5 : Value} {m : Nat} {r r' : Nat → Bool} {W : World} (t : SeSt w x0 x1 x2 x3 x4 x5 m r W) (e : ∀ j, j < m → r j = r' j) : SeSt w x0 x1 x2 x3 x4 x5 m r' W :=
  ⟨t.c0, t.c1, t.c2, t.c3, t.c4, t.c5, t.row.congr fun j hj => by rw [e j hj], t.below⟩
theorem SeSt.put {w : World} {x0 x1 x2 x3 x4 x5 : Value} {m : Nat} {r : Nat → Bool} {W : World} (t : SeSt w x0 x1 x2 x3 x4 x5 m r W) (p : Nat) (x : Bool) : SeSt w x0 x1 x2 x3 x4 x5 m (fun j => if j = p then x else r j) (W.setCell ⟨w.heap.size + 1, p, none⟩ (.bool x)) := by
  have hc : ∀ q, (W.setCell ⟨w.heap.size + 1, p, none⟩ (.bool x)).cell? ⟨w.heap.size, q, none⟩ = W.cell? ⟨w.heap.size, q, none⟩ := fun q => World.cell?_of_block (w := W) (Below.heap_setCell W _ _ _ (by simp))
  refine ⟨(hc 0).trans t.c0, (hc 1).trans t.c1, (hc 2).trans t.c2, (hc 3).trans t.c3, (hc 4).trans t.c4, (hc 5).trans t.c5, ?_, t.below.setCell (by simp) _⟩
  refine (t.row.set p (.bool x)).congr fun i _ => ?_
  by_cases hip : i = p
  · rw [if_pos hip, if_pos hip]
  · rw [if_neg hip, if_neg hip]

set_option maxHeartbeats 3200000 in
set_option maxRecDepth 20000 in
/-- THE CONTRACT OF settle. -/
theorem settle_any (b off n cap B : Nat) (aao : Option Addr) (an ac lb m lcap s R : Nat) (d : Bool) (f : FuncId) (caps : Array Value) (u v : Nat → Bool) (w : World) (hm : m ≤ 24) (hs : s < m) (hF : LawAt w (.func (.func f) #[] caps) m u v) :
    Calls Tryd.prog 24 #[.agg #[.slice (some ⟨b, off, none⟩) n cap, .slice (some ⟨B, 0, none⟩) n n, .slice aao an ac, .slice (some ⟨lb, 0, none⟩) m lcap, .int .i64 (s : Int), .slice (some ⟨R, 0, none⟩) n n], .bool d, .func (.func f) #[] caps] w fun e w' => e = .returned (.slice (some ⟨w.heap.size + 1, 0, none⟩) m m) ∧ Below w.heap.size w w' ∧ Hid (w'.rowIs (w.heap.size + 1) 4 m (fun j => .bool (stp u v (stp u v d (m - s) s) (m - j) j))) := by
  have hmk := run_make_row' (P := Tryd.prog) 39 4 (.bool false) 1 Tryd.underlying39 infoBool rfl .i64 .i64 m (by omega) (by omega)
  obtain ⟨f', caps', e1, hen, hlaw⟩ := hF
  injection e1 with e1 e2 e3
  injection e1 with e1
  subst e1 e3
  clear e2
  have HLaw : Hid (∀ w', Below w.heap.size w w' → ∀ (now : Nat) (x : Bool), now < m → Calls Tryd.prog f (#[.int .i64 (now : Int), .bool x] ++ caps) w' fun e w2 => e = .returned (.bool (u now || (v now && x))) ∧ Below w'.heap.size w' w2) := hlaw
  have haf := fun (now : Nat) w1 (h : now < m) => after_any b off n cap B aao an ac lb m lcap s R now w1 hm h
  have HR0 : Hid (∀ j, rows2 u v m s d 0 j = if j = s then d else false) := fun _ => rfl
  have HRS : Hid (∀ c, rows2 u v m s d (c + 1) = rnd u v m s (rows2 u v m s d c) m) := fun _ => rfl
  have HRD : Hid (∀ j, rows2 u v m s d 2 j = stp u v (stp u v d (m - s) s) (m - j) j) := rows2_done u v d
  have HST : Hid (∀ r k, k < m → ∀ j, j < m → (if j = m - 1 - k then (u (m - 1 - k) || (v (m - 1 - k) && rnd u v m s r k (if m - 1 - k = m - 1 then s else m - 1 - k + 1))) else rnd u v m s r k j) = rnd u v m s r (k + 1) j) := fun r k hk j hj => rnd_step hs hk j hj
  clear hlaw
  have hsm : (s : Int) < (m : Int) := by omega
  have hrow0 : ((w.alloc (.cells #[.slice (some ⟨b, off, none⟩) n cap, .slice (some ⟨B, 0, none⟩) n n, .slice aao an ac, .slice (some ⟨lb, 0, none⟩) m lcap, .int .i64 (s : Int), .slice (some ⟨R, 0, none⟩) n n] 49)).alloc (.cells (madeCells #[.bool false] m) 4)).rowIs (w.heap.size + 1) 4 m (fun _ => .bool false) := by
    have r := World.rowIs_made (w.alloc (.cells #[.slice (some ⟨b, off, none⟩) n cap, .slice (some ⟨B, 0, none⟩) n n, .slice aao an ac, .slice (some ⟨lb, 0, none⟩) m lcap, .int .i64 (s : Int), .slice (some ⟨R, 0, none⟩) n n] 49)) (.bool false) m 4
    simpa using r
  have hc0 := hrow0.cell hs
  have hf0 := hrow0.frozen s
  have HS0 : Hid (SeSt w (.slice (some ⟨b, off, none⟩) n cap) (.slice (some ⟨B, 0, none⟩) n n) (.slice aao an ac) (.slice (some ⟨lb, 0, none⟩) m lcap) (.int .i64 (s : Int)) (.slice (some ⟨R, 0, none⟩) n n) m (fun _ => false) ((w.alloc (.cells #[.slice (some ⟨b, off, none⟩) n cap, .slice (some ⟨B, 0, none⟩) n n, .slice aao an ac, .slice (some ⟨lb, 0, none⟩) m lcap, .int .i64 (s : Int), .slice (some ⟨R, 0, none⟩) n n] 49)).alloc (.cells (madeCells #[.bool false] m) 4))) :=
    ⟨by simp [go_sem], by simp [go_sem], by simp [go_sem], by simp [go_sem], by simp [go_sem], by simp [go_sem], hrow0, ((Below.refl _ _).alloc (Nat.le_refl _) _).alloc (by simp) _⟩
  clear hrow0
  go_enter Tryd.func24, Tryd.ntmps24
  go_wp2_with fail
  have HS1 := (show Hid _ from HS0.out.put s d)
  have HS2 : Hid (SeSt w (.slice (some ⟨b, off, none⟩) n cap) (.slice (some ⟨B, 0, none⟩) n n) (.slice aao an ac) (.slice (some ⟨lb, 0, none⟩) m lcap) (.int .i64 (s : Int)) (.slice (some ⟨R, 0, none⟩) n n) m (rows2 u v m s d 0) ((w.alloc (.cells #[.slice (some ⟨b, off, none⟩) n cap, .slice (some ⟨B, 0, none⟩) n n, .slice aao an ac, .slice (some ⟨lb, 0, none⟩) m lcap, .int .i64 (s : Int), .slice (some ⟨R, 0, none⟩) n n] 49)).alloc (.cells ((madeCells #[.bool false] m).setIfInBounds s (.bool d)) 4))) := by
    have t := HS1.out.congr (r' := rows2 u v m s d 0) fun j _ => by rw [HR0.out]
    rw [World.setCell_alloc_at _ _ _ _ _ (by simp)] at t
    exact t
  clear HS0 HS1 hc0 hf0 hmk
  go_loopw [18] (fun i wr => ∃ c : Nat, c ≤ 2 ∧ i = .int .i64 (c : Int) ∧ Hid (SeSt w (.slice (some ⟨b, off, none⟩) n cap) (.slice (some ⟨B, 0, none⟩) n n) (.slice aao an ac) (.slice (some ⟨lb, 0, none⟩) m lcap) (.int .i64 (s : Int)) (.slice (some ⟨R, 0, none⟩) n n) m (rows2 u v m s d c) wr)) (fun i _ => 2 - (intOf i).toNat)
  case atStart => exact ⟨0, by omega, rfl, HS2.out⟩
  case round =>
    obtain ⟨c, hc, rfl, HSt⟩ := hrel
    by_cases hlt : c < 2
    · have HR1 : Hid (rows2 u v m s d (c + 1) = rnd u v m s (rows2 u v m s d c) m) := HRS.out c
      generalize rows2 u v m s d c = r at *
      generalize wr = wo at *
      go_wp2_with fail
      rw [show decide ((c : Int) < 2) = true by simp; omega]
      go_loopw [8] (fun i wr => ∃ k : Nat, k ≤ m ∧ i = .int .i64 ((m : Int) - 1 - (k : Int)) ∧ Hid (SeSt w (.slice (some ⟨b, off, none⟩) n cap) (.slice (some ⟨B, 0, none⟩) n n) (.slice aao an ac) (.slice (some ⟨lb, 0, none⟩) m lcap) (.int .i64 (s : Int)) (.slice (some ⟨R, 0, none⟩) n n) m (rnd u v m s r k) wr)) (fun i _ => (intOf i + 1).toNat)
      case atStart => exact ⟨0, by omega, by simp, HSt.out.congr fun j hj => (rnd_zero hj).symm⟩
      case round =>
        obtain ⟨k, hk, rfl, HSr⟩ := hrel
        by_cases hlk : k < m
        · obtain ⟨now, hnow⟩ : ∃ now : Nat, now = m - 1 - k := ⟨_, rfl⟩
          have hni : (m : Int) - 1 - (k : Int) = (now : Int) := by omega
          have hnm : now < m := by omega
          rw [hni]
          have HNI : Hid ((m : Int) - 1 - (k : Int) = (now : Int)) := hni
          have hst := HSr.out
          have hax : (if now = m - 1 then s else now + 1) < m := by split <;> omega
          have HPut : Hid (∀ W x, SeSt w (.slice (some ⟨b, off, none⟩) n cap) (.slice (some ⟨B, 0, none⟩) n n) (.slice aao an ac) (.slice (some ⟨lb, 0, none⟩) m lcap) (.int .i64 (s : Int)) (.slice (some ⟨R, 0, none⟩) n n) m (rnd u v m s r k) W → x = rnd u v m s r k (if now = m - 1 then s else now + 1) → SeSt w (.slice (some ⟨b, off, none⟩) n cap) (.slice (some ⟨B, 0, none⟩) n n) (.slice aao an ac) (.slice (some ⟨lb, 0, none⟩) m lcap) (.int .i64 (s : Int)) (.slice (some ⟨R, 0, none⟩) n n) m (rnd u v m s r (k + 1)) (W.setCell ⟨w.heap.size + 1, now, none⟩ (.bool (u now || (v now && x))))) := fun W x h e => (h.put now _).congr fun j hj => by
            have := HST.out r k hlk j hj
            rw [← hnow] at this
            rw [e]; exact this
          have haf1 := fun w1 => haf now w1 hnm
          generalize (if now = m - 1 then s else now + 1) = ax at *
          obtain ⟨c0, c1, c2, c3, c4, c5, hrow, hbel⟩ := hst
          have HAf : Hid (∀ w1, Below wr.heap.size wr w1 → w1.cell? ⟨w.heap.size + 1, ax, none⟩ = some (.bool (rnd u v m s r k ax)) ∧ w1.cell? ⟨w.heap.size + 1, now, none⟩ = some (.bool (rnd u v m s r k now)) ∧ w1.frozen? ⟨w.heap.size + 1, now, none⟩ = false ∧ (∀ x, Calls Tryd.prog f (#[.int .i64 (now : Int), .bool x] ++ caps) w1 fun e w2 => e = .returned (.bool (u now || (v now && x))) ∧ Below w1.heap.size w1 w2)) := fun w1 hb => by
            have t := HSr.out.later hb
            exact ⟨t.row.cell hax, t.row.cell hnm, t.row.frozen now, fun x => HLaw.out w1 t.below now x hnm⟩
          have HLat : Hid (∀ w1 w2, Below wr.heap.size wr w1 → Below w1.heap.size w1 w2 → SeSt w (.slice (some ⟨b, off, none⟩) n cap) (.slice (some ⟨B, 0, none⟩) n n) (.slice aao an ac) (.slice (some ⟨lb, 0, none⟩) m lcap) (.int .i64 (s : Int)) (.slice (some ⟨R, 0, none⟩) n n) m (rnd u v m s r k) w2) := fun w1 w2 h1 h2 => (HSr.out.later h1).later h2
          clear hnow hni hrow HST HLaw haf HSt HS2 HRS HRD HR0
          generalize hxe : rnd u v m s r k ax = xv at *
          generalize rnd u v m s r k now = xw at *
          clear hxe
          go_wp2_with (first | (go_at_call 35; refine (haf1 _).mono ?_; rintro e w4 ⟨rfl, hb4⟩; obtain ⟨d0, d1, d2, hl4⟩ := HAf.out w4 hb4; have hl5 := hl4 xv) | (refine hl5.mono ?_; rintro e w5 ⟨rfl, hb5⟩; obtain ⟨g0, g1, g2, _⟩ := HAf.out w5 (hb4.trans (hb5.mono hb4.size))))
          have HFin : Hid (SeSt w (.slice (some ⟨b, off, none⟩) n cap) (.slice (some ⟨B, 0, none⟩) n n) (.slice aao an ac) (.slice (some ⟨lb, 0, none⟩) m lcap) (.int .i64 (s : Int)) (.slice (some ⟨R, 0, none⟩) n n) m (rnd u v m s r (k + 1)) (w5.setCell ⟨w.heap.size + 1, now, none⟩ (.bool (u now || (v now && xv))))) := HPut.out w5 xv (HLat.out w4 w5 hb4 hb5) rfl
          go_roundw
          case rel => exact ⟨k + 1, hlk, by have := HNI.out; congr 1; omega, HFin⟩
          case measure => have := HNI.out; first | (simp [intOf]; done) | (simp [intOf]; omega)
        · obtain rfl : k = m := by omega
          go_wp2_with fail
          exact ⟨⟨c + 1, hlt, by first | rfl | simp, by rw [HR1.out]; exact HSr.out⟩, by simp [intOf]; omega⟩
    · obtain rfl : c = 2 := by omega
      have HF : Hid (Below w.heap.size w wr ∧ wr.rowIs (w.heap.size + 1) 4 m (fun j => .bool (stp u v (stp u v d (m - s) s) (m - j) j))) := ⟨HSt.out.below, HSt.out.row.congr fun j _ => by rw [HRD.out]⟩
      clear HSt HS2
      go_wp2_with fail
      go_ret
      exact ⟨rfl, HF.out.1, HF.out.2⟩
end Go.Proofs.YtoeagklgfaoejaaDoor
