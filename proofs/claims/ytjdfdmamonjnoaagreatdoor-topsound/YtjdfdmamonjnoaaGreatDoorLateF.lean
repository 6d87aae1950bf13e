/-
  Joined out of WSettle, WFill0, BackBy, WFill1, in their order: a claim bears at most so many files.
-/
import Derived.Test.YtjdfdmamonjnoaaGreatDoorLateE
import Derived.Test.YtjdfdmamonjnoaaGreatDoorLateA
namespace Go.Proofs.YtjdfdmamonjnoaaGreatDoor
open Go.ChangeShapes Go.WideShapes Go.ChangeAt Go.RowKit Go.Deep
open Terms
set_option maxHeartbeats 6400000
set_option maxRecDepth 20000
def rnd (u v : Nat -> Bool) (m s : Nat) (r : Nat -> Bool) (k : Nat) : Nat -> Bool := fun j => if m - k <= j then stp u v (r s) (m - j) j else r j
theorem rnd_zero {u v : Nat -> Bool} {m s : Nat} {r : Nat -> Bool} {j : Nat} (hj : j < m) : rnd u v m s r 0 j = r j := by unfold rnd; rw [if_neg (by omega)]
theorem rnd_all {u v : Nat -> Bool} {m s : Nat} {r : Nat -> Bool} {j : Nat} : rnd u v m s r m j = stp u v (r s) (m - j) j := by unfold rnd; rw [if_pos (by omega)]
theorem rnd_step {u v : Nat -> Bool} {m s : Nat} {r : Nat -> Bool} {k : Nat} (hs : s < m) (hk : k < m) (j : Nat) (hj : j < m) :
    (if j = m - 1 - k then (u (m - 1 - k) || (v (m - 1 - k) && rnd u v m s r k (if m - 1 - k = m - 1 then s else m - 1 - k + 1))) else rnd u v m s r k j) = rnd u v m s r (k + 1) j := by
  by_cases hjk : j = m - 1 - k
  · rw [if_pos hjk]
    have e : rnd u v m s r (k + 1) j = stp u v (r s) (m - j) j := by unfold rnd; rw [if_pos (by omega)]
    rw [e, show m - j = k + 1 by omega, <- hjk]
    simp only [stp]
    congr 2
    by_cases hk0 : k = 0
    · subst hk0
      rw [if_pos (by omega), rnd_zero hs]
      rfl
    · rw [if_neg (by omega)]
      unfold rnd; rw [if_pos (by omega), show m - (j + 1) = k by omega]
  · rw [if_neg hjk]
    unfold rnd
    by_cases h1 : m - k <= j
    · rw [if_pos h1, if_pos (by omega)]
    · rw [if_neg h1, if_neg (by omega)]
def rows2 (u v : Nat -> Bool) (m s : Nat) (d : Bool) : Nat -> Nat -> Bool
  | 0 => fun j => if j = s then d else false
  | c + 1 => rnd u v m s (rows2 u v m s d c) m
theorem rows2_done (u v : Nat -> Bool) {m s : Nat} (d : Bool) (j : Nat) : rows2 u v m s d 2 j = stp u v (stp u v d (m - s) s) (m - j) j := by
  simp only [rows2]; rw [rnd_all, rnd_all, if_pos rfl]
structure SeSt (w : World) (x0 x1 x2 x3 x4 x5 : Value) (m : Nat) (r : Nat -> Bool) (W : World) : Prop where
  c0 : W.cell? ⟨w.heap.size, 0, none⟩ = some x0
  c1 : W.cell? ⟨w.heap.size, 1, none⟩ = some x1
  c2 : W.cell? ⟨w.heap.size, 2, none⟩ = some x2
  c3 : W.cell? ⟨w.heap.size, 3, none⟩ = some x3
  c4 : W.cell? ⟨w.heap.size, 4, none⟩ = some x4
  c5 : W.cell? ⟨w.heap.size, 5, none⟩ = some x5
  row : W.rowIs (w.heap.size + 1) 4 m (fun j => .bool (r j))
  below : Below w.heap.size w W
theorem SeSt.later {w : World} {x0 x1 x2 x3 x4 x5 : Value} {m : Nat} {r : Nat -> Bool} {W W' : World} (t : SeSt w x0 x1 x2 x3 x4 x5 m r W) (hb : Below W.heap.size W W') : SeSt w x0 x1 x2 x3 x4 x5 m r W' := by
  have hl : w.heap.size < W.heap.size := World.block_lt_of_cell? W ⟨w.heap.size, 0, none⟩ t.c0
  exact ⟨(hb.cell (p := ⟨w.heap.size, 0, none⟩) hl).trans t.c0, (hb.cell (p := ⟨w.heap.size, 1, none⟩) hl).trans t.c1, (hb.cell (p := ⟨w.heap.size, 2, none⟩) hl).trans t.c2, (hb.cell (p := ⟨w.heap.size, 3, none⟩) hl).trans t.c3, (hb.cell (p := ⟨w.heap.size, 4, none⟩) hl).trans t.c4, (hb.cell (p := ⟨w.heap.size, 5, none⟩) hl).trans t.c5, row_later t.row hb, t.below.trans (hb.mono t.below.size)⟩
theorem SeSt.congr {w : World} {x0 x1 x2 x3 x4 x5 : Value} {m : Nat} {r r' : Nat -> Bool} {W : World} (t : SeSt w x0 x1 x2 x3 x4 x5 m r W) (e : ∀ j, j < m -> r j = r' j) : SeSt w x0 x1 x2 x3 x4 x5 m r' W :=
  ⟨t.c0, t.c1, t.c2, t.c3, t.c4, t.c5, t.row.congr fun j hj => by rw [e j hj], t.below⟩
theorem SeSt.put {w : World} {x0 x1 x2 x3 x4 x5 : Value} {m : Nat} {r : Nat -> Bool} {W : World} (t : SeSt w x0 x1 x2 x3 x4 x5 m r W) (p : Nat) (x : Bool) : SeSt w x0 x1 x2 x3 x4 x5 m (fun j => if j = p then x else r j) (W.setCell ⟨w.heap.size + 1, p, none⟩ (.bool x)) := by
  have hc : ∀ q, (W.setCell ⟨w.heap.size + 1, p, none⟩ (.bool x)).cell? ⟨w.heap.size, q, none⟩ = W.cell? ⟨w.heap.size, q, none⟩ := fun q => World.cell?_of_block (w := W) (Below.heap_setCell W _ _ _ (by simp))
  refine ⟨(hc 0).trans t.c0, (hc 1).trans t.c1, (hc 2).trans t.c2, (hc 3).trans t.c3, (hc 4).trans t.c4, (hc 5).trans t.c5, ?_, t.below.setCell (by simp) _⟩
  refine (t.row.set p (.bool x)).congr fun i _ => ?_
  by_cases hip : i = p
  · rw [if_pos hip, if_pos hip]
  · rw [if_neg hip, if_neg hip]
theorem settle_any (b off n cap B : Nat) (aao : Option Addr) (an ac lb m lcap s R : Nat) (d : Bool) (f : FuncId) (caps : Array Value) (u v : Nat -> Bool) (w : World) (hm : m <= 24) (hs : s < m) (hF : LawAt w (.func (.func f) #[] caps) m u v) :
    Calls Tryz.prog 89 #[.agg #[.slice (some ⟨b, off, none⟩) n cap, .slice (some ⟨B, 0, none⟩) n n, .slice aao an ac, .slice (some ⟨lb, 0, none⟩) m lcap, .int .i64 (s : Int), .slice (some ⟨R, 0, none⟩) n n], .bool d, .func (.func f) #[] caps] w fun e w' => e = .returned (.slice (some ⟨w.heap.size + 1, 0, none⟩) m m) /\ Below w.heap.size w w' /\ Hid (w'.rowIs (w.heap.size + 1) 4 m (fun j => .bool (stp u v (stp u v d (m - s) s) (m - j) j))) := by
  have hmk := run_make_row' (P := Tryz.prog) 60 4 (.bool false) 1 Tryz.underlying60 infoBool rfl .i64 .i64 m (by omega) (by omega)
  obtain ⟨f', caps', e1, hen, hlaw⟩ := hF
  injection e1 with e1 e2 e3
  injection e1 with e1
  subst e1 e3; clear e2; have HLaw : Hid (∀ w', Below w.heap.size w w' -> ∀ (now : Nat) (x : Bool), now < m -> Calls Tryz.prog f (#[.int .i64 (now : Int), .bool x] ++ caps) w' fun e w2 => e = .returned (.bool (u now || (v now && x))) /\ Below w'.heap.size w' w2) := hlaw
  have haf := fun (now : Nat) w1 (h : now < m) => after_any b off n cap B aao an ac lb m lcap s R now w1 hm h
  have HR0 : Hid (∀ j, rows2 u v m s d 0 j = if j = s then d else false) := fun _ => rfl
  have HRS : Hid (∀ c, rows2 u v m s d (c + 1) = rnd u v m s (rows2 u v m s d c) m) := fun _ => rfl
  have HRD : Hid (∀ j, rows2 u v m s d 2 j = stp u v (stp u v d (m - s) s) (m - j) j) := rows2_done u v d
  have HST : Hid (∀ r k, k < m -> ∀ j, j < m -> (if j = m - 1 - k then (u (m - 1 - k) || (v (m - 1 - k) && rnd u v m s r k (if m - 1 - k = m - 1 then s else m - 1 - k + 1))) else rnd u v m s r k j) = rnd u v m s r (k + 1) j) := fun r k hk j hj => rnd_step hs hk j hj
  clear hlaw; have hsm : (s : Int) < (m : Int) := by omega
  have hrow0 : ((w.alloc (.cells #[.slice (some ⟨b, off, none⟩) n cap, .slice (some ⟨B, 0, none⟩) n n, .slice aao an ac, .slice (some ⟨lb, 0, none⟩) m lcap, .int .i64 (s : Int), .slice (some ⟨R, 0, none⟩) n n] 131)).alloc (.cells (madeCells #[.bool false] m) 4)).rowIs (w.heap.size + 1) 4 m (fun _ => .bool false) := by
    have r := World.rowIs_made (w.alloc (.cells #[.slice (some ⟨b, off, none⟩) n cap, .slice (some ⟨B, 0, none⟩) n n, .slice aao an ac, .slice (some ⟨lb, 0, none⟩) m lcap, .int .i64 (s : Int), .slice (some ⟨R, 0, none⟩) n n] 131)) (.bool false) m 4; simpa using r
  have hc0 := hrow0.cell hs; have hf0 := hrow0.frozen s
  have HS0 : Hid (SeSt w (.slice (some ⟨b, off, none⟩) n cap) (.slice (some ⟨B, 0, none⟩) n n) (.slice aao an ac) (.slice (some ⟨lb, 0, none⟩) m lcap) (.int .i64 (s : Int)) (.slice (some ⟨R, 0, none⟩) n n) m (fun _ => false) ((w.alloc (.cells #[.slice (some ⟨b, off, none⟩) n cap, .slice (some ⟨B, 0, none⟩) n n, .slice aao an ac, .slice (some ⟨lb, 0, none⟩) m lcap, .int .i64 (s : Int), .slice (some ⟨R, 0, none⟩) n n] 131)).alloc (.cells (madeCells #[.bool false] m) 4))) :=
    ⟨by simp [go_sem], by simp [go_sem], by simp [go_sem], by simp [go_sem], by simp [go_sem], by simp [go_sem], hrow0, ((Below.refl _ _).alloc (Nat.le_refl _) _).alloc (by simp) _⟩
  clear hrow0
  go_enter Tryz.func89, Tryz.ntmps89
  go_wp2_with fail
  have HS1 := (show Hid _ from HS0.out.put s d)
  have HS2 : Hid (SeSt w (.slice (some ⟨b, off, none⟩) n cap) (.slice (some ⟨B, 0, none⟩) n n) (.slice aao an ac) (.slice (some ⟨lb, 0, none⟩) m lcap) (.int .i64 (s : Int)) (.slice (some ⟨R, 0, none⟩) n n) m (rows2 u v m s d 0) ((w.alloc (.cells #[.slice (some ⟨b, off, none⟩) n cap, .slice (some ⟨B, 0, none⟩) n n, .slice aao an ac, .slice (some ⟨lb, 0, none⟩) m lcap, .int .i64 (s : Int), .slice (some ⟨R, 0, none⟩) n n] 131)).alloc (.cells ((madeCells #[.bool false] m).setIfInBounds s (.bool d)) 4))) := by
    have t := HS1.out.congr (r' := rows2 u v m s d 0) fun j _ => by rw [HR0.out]
    rw [World.setCell_alloc_at _ _ _ _ _ (by simp)] at t
    exact t
  clear HS0 HS1 hc0 hf0 hmk
  go_loopw [18] (fun i wr => ∃ c : Nat, c <= 2 /\ i = .int .i64 (c : Int) /\ Hid (SeSt w (.slice (some ⟨b, off, none⟩) n cap) (.slice (some ⟨B, 0, none⟩) n n) (.slice aao an ac) (.slice (some ⟨lb, 0, none⟩) m lcap) (.int .i64 (s : Int)) (.slice (some ⟨R, 0, none⟩) n n) m (rows2 u v m s d c) wr)) (fun i _ => 2 - (intOf i).toNat)
  case atStart => exact ⟨0, by omega, rfl, HS2.out⟩
  case round =>
    obtain ⟨c, hc, rfl, HSt⟩ := hrel
    by_cases hlt : c < 2
    · have HR1 : Hid (rows2 u v m s d (c + 1) = rnd u v m s (rows2 u v m s d c) m) := HRS.out c
      generalize rows2 u v m s d c = r at *; generalize wr = wo at *
      go_wp2_with fail
      rw [show decide ((c : Int) < 2) = true by simp; omega]
      go_loopw [8] (fun i wr => ∃ k : Nat, k <= m /\ i = .int .i64 ((m : Int) - 1 - (k : Int)) /\ Hid (SeSt w (.slice (some ⟨b, off, none⟩) n cap) (.slice (some ⟨B, 0, none⟩) n n) (.slice aao an ac) (.slice (some ⟨lb, 0, none⟩) m lcap) (.int .i64 (s : Int)) (.slice (some ⟨R, 0, none⟩) n n) m (rnd u v m s r k) wr)) (fun i _ => (intOf i + 1).toNat)
      case atStart => exact ⟨0, by omega, by simp, HSt.out.congr fun j hj => (rnd_zero hj).symm⟩
      case round =>
        obtain ⟨k, hk, rfl, HSr⟩ := hrel
        by_cases hlk : k < m
        · obtain ⟨now, hnow⟩ : ∃ now : Nat, now = m - 1 - k := ⟨_, rfl⟩
          have hni : (m : Int) - 1 - (k : Int) = (now : Int) := by omega
          have hnm : now < m := by omega
          rw [hni]; have HNI : Hid ((m : Int) - 1 - (k : Int) = (now : Int)) := hni; have hst := HSr.out; have hax : (if now = m - 1 then s else now + 1) < m := by split <;> omega
          have HPut : Hid (∀ W x, SeSt w (.slice (some ⟨b, off, none⟩) n cap) (.slice (some ⟨B, 0, none⟩) n n) (.slice aao an ac) (.slice (some ⟨lb, 0, none⟩) m lcap) (.int .i64 (s : Int)) (.slice (some ⟨R, 0, none⟩) n n) m (rnd u v m s r k) W -> x = rnd u v m s r k (if now = m - 1 then s else now + 1) -> SeSt w (.slice (some ⟨b, off, none⟩) n cap) (.slice (some ⟨B, 0, none⟩) n n) (.slice aao an ac) (.slice (some ⟨lb, 0, none⟩) m lcap) (.int .i64 (s : Int)) (.slice (some ⟨R, 0, none⟩) n n) m (rnd u v m s r (k + 1)) (W.setCell ⟨w.heap.size + 1, now, none⟩ (.bool (u now || (v now && x))))) := fun W x h e => (h.put now _).congr fun j hj => by
            have := HST.out r k hlk j hj; rw [<- hnow] at this; rw [e]; exact this
          have haf1 := fun w1 => haf now w1 hnm
          generalize (if now = m - 1 then s else now + 1) = ax at *
          obtain ⟨c0, c1, c2, c3, c4, c5, hrow, hbel⟩ := hst
          have HAf : Hid (∀ w1, Below wr.heap.size wr w1 -> w1.cell? ⟨w.heap.size + 1, ax, none⟩ = some (.bool (rnd u v m s r k ax)) /\ w1.cell? ⟨w.heap.size + 1, now, none⟩ = some (.bool (rnd u v m s r k now)) /\ w1.frozen? ⟨w.heap.size + 1, now, none⟩ = false /\ (∀ x, Calls Tryz.prog f (#[.int .i64 (now : Int), .bool x] ++ caps) w1 fun e w2 => e = .returned (.bool (u now || (v now && x))) /\ Below w1.heap.size w1 w2)) := fun w1 hb => by
            have t := HSr.out.later hb; exact ⟨t.row.cell hax, t.row.cell hnm, t.row.frozen now, fun x => HLaw.out w1 t.below now x hnm⟩
          have HLat : Hid (∀ w1 w2, Below wr.heap.size wr w1 -> Below w1.heap.size w1 w2 -> SeSt w (.slice (some ⟨b, off, none⟩) n cap) (.slice (some ⟨B, 0, none⟩) n n) (.slice aao an ac) (.slice (some ⟨lb, 0, none⟩) m lcap) (.int .i64 (s : Int)) (.slice (some ⟨R, 0, none⟩) n n) m (rnd u v m s r k) w2) := fun w1 w2 h1 h2 => (HSr.out.later h1).later h2
          clear hnow hni hrow HST HLaw haf HSt HS2 HRS HRD HR0; generalize hxe : rnd u v m s r k ax = xv at *; generalize rnd u v m s r k now = xw at *; clear hxe
          go_wp2_with (first | (go_at_call 120; refine (haf1 _).mono ?_; rintro e w4 ⟨rfl, hb4⟩; obtain ⟨d0, d1, d2, hl4⟩ := HAf.out w4 hb4; have hl5 := hl4 xv) | (refine hl5.mono ?_; rintro e w5 ⟨rfl, hb5⟩; obtain ⟨g0, g1, g2, _⟩ := HAf.out w5 (hb4.trans (hb5.mono hb4.size))))
          have HFin : Hid (SeSt w (.slice (some ⟨b, off, none⟩) n cap) (.slice (some ⟨B, 0, none⟩) n n) (.slice aao an ac) (.slice (some ⟨lb, 0, none⟩) m lcap) (.int .i64 (s : Int)) (.slice (some ⟨R, 0, none⟩) n n) m (rnd u v m s r (k + 1)) (w5.setCell ⟨w.heap.size + 1, now, none⟩ (.bool (u now || (v now && xv))))) := HPut.out w5 xv (HLat.out w4 w5 hb4 hb5) rfl
          go_roundw
          case rel => exact ⟨k + 1, hlk, by have := HNI.out; congr 1; omega, HFin⟩
          case measure => have := HNI.out; first | (simp [intOf]; done) | (simp [intOf]; omega)
        · obtain rfl : k = m := by omega
          go_wp2_with fail
          exact ⟨⟨c + 1, hlt, by first | rfl | simp, by rw [HR1.out]; exact HSr.out⟩, by simp [intOf]; omega⟩
    · obtain rfl : c = 2 := by omega
      have HF : Hid (Below w.heap.size w wr /\ wr.rowIs (w.heap.size + 1) 4 m (fun j => .bool (stp u v (stp u v d (m - s) s) (m - j) j))) := ⟨HSt.out.below, HSt.out.row.congr fun j _ => by rw [HRD.out]⟩
      clear HSt HS2
      go_wp2_with fail
      go_ret
      exact ⟨rfl, HF.out.1, HF.out.2⟩
structure Six (w : World) (b : Nat) (x0 x1 x2 x3 x4 x5 : Value) : Prop where
  k0 : w.cell? ⟨b, 0, none⟩ = some x0
  f0 : w.frozen? ⟨b, 0, none⟩ = false
  k1 : w.cell? ⟨b, 1, none⟩ = some x1
  f1 : w.frozen? ⟨b, 1, none⟩ = false
  k2 : w.cell? ⟨b, 2, none⟩ = some x2
  f2 : w.frozen? ⟨b, 2, none⟩ = false
  k3 : w.cell? ⟨b, 3, none⟩ = some x3
  f3 : w.frozen? ⟨b, 3, none⟩ = false
  k4 : w.cell? ⟨b, 4, none⟩ = some x4
  f4 : w.frozen? ⟨b, 4, none⟩ = false
  k5 : w.cell? ⟨b, 5, none⟩ = some x5
  f5 : w.frozen? ⟨b, 5, none⟩ = false
  hl : b < w.heap.size
theorem Six.below {w w' : World} {B b : Nat} {x0 x1 x2 x3 x4 x5 : Value} (h : Six w b x0 x1 x2 x3 x4 x5) (hb : Below B w w') (hB : b < B) : Six w' b x0 x1 x2 x3 x4 x5 :=
  ⟨(hb.cell (p := ⟨b, 0, none⟩) hB).trans h.k0, (hb.frozen (p := ⟨b, 0, none⟩) hB).trans h.f0, (hb.cell (p := ⟨b, 1, none⟩) hB).trans h.k1, (hb.frozen (p := ⟨b, 1, none⟩) hB).trans h.f1, (hb.cell (p := ⟨b, 2, none⟩) hB).trans h.k2, (hb.frozen (p := ⟨b, 2, none⟩) hB).trans h.f2, (hb.cell (p := ⟨b, 3, none⟩) hB).trans h.k3, (hb.frozen (p := ⟨b, 3, none⟩) hB).trans h.f3, (hb.cell (p := ⟨b, 4, none⟩) hB).trans h.k4, (hb.frozen (p := ⟨b, 4, none⟩) hB).trans h.f4, (hb.cell (p := ⟨b, 5, none⟩) hB).trans h.k5, (hb.frozen (p := ⟨b, 5, none⟩) hB).trans h.f5, Nat.lt_of_lt_of_le h.hl hb.size⟩
theorem Six.new (w : World) (x0 x1 x2 x3 x4 x5 : Value) (t : TypeId) : Six (w.alloc (.cells #[x0, x1, x2, x3, x4, x5] t)) w.heap.size x0 x1 x2 x3 x4 x5 :=
  ⟨by simp [go_sem], by simp [go_sem], by simp [go_sem], by simp [go_sem], by simp [go_sem], by simp [go_sem], by simp [go_sem], by simp [go_sem], by simp [go_sem], by simp [go_sem], by simp [go_sem], by simp [go_sem], by simp⟩
theorem Six.read {w : World} {b : Nat} {x0 x1 x2 x3 x4 x5 : Value} (h : Six w b x0 x1 x2 x3 x4 x5) (u0 u1 u2 u3 u4 u5 : Value) : ((w.setCell ⟨b, 0, none⟩ u0)).cell? ⟨b, 0, none⟩ = some u0 /\ (((w.setCell ⟨b, 0, none⟩ u0).setCell ⟨b, 1, none⟩ u1)).cell? ⟨b, 1, none⟩ = some u1 /\ ((((w.setCell ⟨b, 0, none⟩ u0).setCell ⟨b, 1, none⟩ u1).setCell ⟨b, 2, none⟩ u2)).cell? ⟨b, 2, none⟩ = some u2 /\ (((((w.setCell ⟨b, 0, none⟩ u0).setCell ⟨b, 1, none⟩ u1).setCell ⟨b, 2, none⟩ u2).setCell ⟨b, 3, none⟩ u3)).cell? ⟨b, 3, none⟩ = some u3 /\ ((((((w.setCell ⟨b, 0, none⟩ u0).setCell ⟨b, 1, none⟩ u1).setCell ⟨b, 2, none⟩ u2).setCell ⟨b, 3, none⟩ u3).setCell ⟨b, 4, none⟩ u4)).cell? ⟨b, 4, none⟩ = some u4 /\ (((((((w.setCell ⟨b, 0, none⟩ u0).setCell ⟨b, 1, none⟩ u1).setCell ⟨b, 2, none⟩ u2).setCell ⟨b, 3, none⟩ u3).setCell ⟨b, 4, none⟩ u4).setCell ⟨b, 5, none⟩ u5)).cell? ⟨b, 5, none⟩ = some u5 := by
  obtain ⟨k0, _, k1, _, k2, _, k3, _, k4, _, k5, _, _⟩ := h; refine ⟨World.cell?_setCell_same' _ _ _ ?_, World.cell?_setCell_same' _ _ _ ?_, World.cell?_setCell_same' _ _ _ ?_, World.cell?_setCell_same' _ _ _ ?_, World.cell?_setCell_same' _ _ _ ?_, World.cell?_setCell_same' _ _ _ ?_⟩
  · simp [go_sem, k0]
  · simp [go_sem, k1]
  · simp [go_sem, k2]
  · simp [go_sem, k3]
  · simp [go_sem, k4]
  · simp [go_sem, k5]
end Go.Proofs.YtjdfdmamonjnoaaGreatDoor
namespace Go.Proofs.YtjdfdmamonjnoaaGreatDoor
open Go.ChangeShapes Go.WideShapes Go.ChangeAt Go.RowKit Go.Deep Go.Shelf
open Terms
set_option maxHeartbeats 6400000
set_option maxRecDepth 20000
attribute [local go_sem] Oper.semAt_some
def backArg (l : List (Int × Int)) (n k : Nat) : Array Value := #[.int .i64 ((n - 1 - k : Nat) : Int), .agg #[.int .i64 (l.getD (n - 1 - k) (0, 0)).1, .int .i64 (l.getD (n - 1 - k) (0, 0)).2]]
set_option maxRecDepth 100000 in
theorem back_by (m : Nat) (L Bs n₀ b off n cap : Nat) (l : List (Int × Int)) (hnl : n = l.length) (h60 : n <= 60) (hb : b < n₀) (J : Nat -> World -> Prop)
    (hY : ∀ k W, k < n -> J k W -> YieldAt Fence.wide (m - 1) Tryz.prog L (backArg l n k) W fun e W' => e = .returned (.bool true) /\ J (k + 1) W' /\ BackK n₀ Bs W W')
    (W : World) (hBs : W.cell? ⟨Bs, 0, none⟩ = some (.slice (some ⟨b, off, none⟩) n cap)) (hc : OpsAt W b off l) (h0 : J 0 W) :
    CallsIn Fence.wide m Tryz.prog 119 #[.func (.yield L) #[] #[], .pointer (some ⟨Bs, 0, none⟩)] W fun e W' => (∃ v, e = .returned v) /\ J n W' := by
  refine callsIn_of_wp Tryz.func119 rfl trivial ?_ rfl
  simp only [Tryz.ntmps119, List.size_toArray, List.length_cons, List.length_nil, Nat.reduceAdd, Nat.reduceSub, Array.replicate_succ, Array.replicate_zero, List.push_toArray, List.append_toArray, List.nil_append, List.cons_append]; have HC : Hid (OpsAt W b off l) := hc; have HN : Hid (n = l.length) := hnl; clear hc hnl
  gi_wp2
  gi_loopw [3] (fun i wr => ∃ k : Nat, k <= n /\ i = .int .i64 ((n : Int) - 1 - k) /\ J k wr /\ BackK n₀ Bs W wr) (fun i _ => (intOf i + 1).toNat)
  case atStart => exact ⟨0, Nat.zero_le _, by first | rfl | simp, h0, Below.refl _ _, rfl⟩
  case round =>
    obtain ⟨k, hk, rfl, hJs, hnx, hbx⟩ := hrel; have hcb : wr.cell? ⟨Bs, 0, none⟩ = some (.slice (some ⟨b, off, none⟩) n cap) := (World.cell?_of_block (w := W) hbx).trans hBs
    by_cases hlt : k < n
    · obtain ⟨p, hp⟩ : ∃ p : Nat, p = n - 1 - k := ⟨_, rfl⟩
      have hpi : (n : Int) - 1 - k = (p : Int) := by omega
      have hpn : p < n := by omega
      obtain ⟨c0, c1⟩ := (HC.out.below hnx hb) p (by rw [<- HN.out]; exact hpn)
      obtain ⟨fn, tmps, assign, body, hy, hR⟩ := hY k wr hlt hJs; simp only [backArg, <- hp] at hy; rw [hpi]; have HPI : Hid ((n : Int) - 1 - k = (p : Int)) := hpi; clear hp hpi; generalize l.getD p (0, 0) = xy at c0 c1 hy; obtain ⟨x, y⟩ := xy; simp only at c0 c1 hy
      gi_wp2
      refine ⟨fun h => by simp [Fence.wide] at h, hR.mono ?_⟩
      rintro e W3 ⟨rfl, hJ3, hk3, hk4⟩
      gi_wp2
      go_roundw
      case rel => exact ⟨k + 1, by omega, by have := HPI.out; first | (congr 1; omega) | (simp; omega), hJ3, hnx.trans hk3, hk4.trans hbx⟩
      case measure => have := HPI.out; first | (simp [intOf]; omega) | simp [intOf]
    · obtain rfl : k = n := by omega
      have hpi : (k : Int) - 1 - k = -1 := by omega
      rw [hpi]
      gi_wp2
      go_end0
      exact ⟨⟨_, rfl⟩, hJs⟩
def roundEnd (B : Nat) (Kp : World -> World -> Prop) (J : World -> Prop) (W : World) : Exit -> Act -> World -> Prop
  | .normal, _, W' => KeepsFrom B W W' /\ Kp W W' /\ J W'
  | _, _, _ => False
theorem range_by {P : Program} {g : Operand} {ps : Array Tmp} {assign body : Code} {Q : Exit -> Act -> World -> Prop} {a : Act} {w : World} {m gf N : Nat} {lb : Array Value}
    (hm : 1 <= m) (hg : a.eval g = .func (.func gf) #[] lb) (eg : ∀ args w, (callFunc gf args).run P w = .ok (.enter gf args) w) (arg : Nat -> Array Value) (hps : ∀ k, (arg k).size = ps.size) (Kp : World -> World -> Prop)
    (hseq : ∀ (l : Nat) (J : Nat -> World -> Prop) (W : World), Below w.heap.size w W -> (∀ k W1, k < N -> J k W1 -> YieldAt Fence.wide (m - 1 - 1) P l (arg k) W1 fun e W' => e = .returned (.bool true) /\ J (k + 1) W' /\ Kp W1 W') -> J 0 W -> CallsIn Fence.wide (m - 1) P gf (#[.func (.yield l) #[] #[]] ++ lb) W fun e W' => (∃ v, e = .returned v) /\ J N W')
    (hKt : ∀ {A B C : World}, Kp A B -> Kp B C -> Kp A C) (hKb : ∀ (W : World) (l : Nat) (o o' : Obj), w.heap.size <= l -> W.heap[l]? = some o -> o.isCells = false -> o.isWalk = false -> Kp W (W.putObj l o'))
    (I : Nat -> World -> Prop) (hI : OwnFrom w.heap.size I) (h0 : I 0 w) (Ax : Nat -> Act -> World -> Prop) (hAx : ∀ k a', OwnFrom w.heap.size (fun (_ : Unit) W => Ax k a' W))
    (hassign : ∀ (l k : Nat) (W : World) (K : Act -> World -> Prop), k < N -> I k W -> (∀ a' W', KeepsFrom w.heap.size W W' -> Kp W W' -> I k W' -> Ax k a' W' -> K a' W') ->
      assign.wpIn (Fence.wide.inRound l) (m - 1 - 1) P (Exit.then K (fun _ _ _ => False)) { tmps := (ps.zip (arg k)).foldl (fun t (p, v) => t.setIfInBounds p v) a.tmps, defers := [] } W)
    (hbody : ∀ (l k : Nat) (a' : Act) (W : World), k < N -> I k W -> Ax k a' W -> body.wpIn (Fence.wide.inRound l) (m - 1 - 1) P (roundEnd w.heap.size Kp (I (k + 1)) W) a' W)
    (hdone : ∀ (D : Nat) (W : World), w.heap.size <= D -> I N W -> W.heap[D]? = some (.deferred (some [])) -> Q .normal { a with defers := { target := .collected D, args := #[] } :: a.defers } W) :
    (Code.rangeFunc g ps assign body).wpIn Fence.wide m P Q a w := by
  refine wpIn_rangeFunc ?_
  intro fn hfn; rw [show Fence.wide.round = none from rfl]
  obtain ⟨mk, hmk⟩ : ∃ mk : LoopState -> Loop, mk = fun st => { state := st, pending := none, fn, tmps := a.tmps, params := ps, assign, body, defers := w.heap.size } := ⟨_, rfl⟩
  obtain ⟨X, hX⟩ : ∃ X, X = (w.alloc (.deferred (some []))).alloc (.loop (mk .ready)) := ⟨_, rfl⟩
  obtain ⟨R, hR⟩ : ∃ R, R = w.heap.size + 1 := ⟨_, rfl⟩
  have hXR : X.heap[R]? = some (.loop (mk .ready)) := by
    have := World.alloc_heap_new (w.alloc (.deferred (some []))) (.loop (mk .ready)); rw [World.size_alloc, <- hX, <- hR] at this; exact this
  have hXD : X.heap[w.heap.size]? = some (.deferred (some [])) := by
    rw [hX]; exact (Below.heap_alloc _ _ _ (by simp)).trans (World.alloc_heap_new w _)
  have hXI : I 0 X := by rw [hX]; exact hI.alloc _ (hI.alloc _ h0)
  have hXB : Below w.heap.size w X := by rw [hX]; exact ((Below.refl _ w).alloc (Nat.le_refl _) _).alloc (by simp) _
  refine ⟨R, [{ target := .collected w.heap.size, args := #[] }], X, { target := .fn (.func gf) lb, args := #[.func (.yield R) #[] #[]] }, X, gf, #[.func (.yield R) #[] #[]] ++ lb, X, ?_, ?_, ?_, ?_, fun _ => hm, ?_⟩
  · rw [hX, hR, hmk]; exact run_enterLoop_outer _ _ _ _ _
  · simp only [resolve, hg]
    simp [go_sem]
  · intro f' _; trivial
  · simp [invoke, go_sem, eg]
  refine (hseq R (fun k W => I k W /\ W.heap[R]? = some (.loop (mk .ready)) /\ W.heap[w.heap.size]? = some (.deferred (some []))) X hXB ?_ ⟨hXI, hXR, hXD⟩).mono ?_
  · rintro k W hkN ⟨hi, hl, hd⟩
    have hy := run_yield (P := P) (args := arg k) hl (by rw [hmk]; exact hps k)
    rw [hmk] at hy; refine ⟨fn, _, assign, body, hy, roundIn_of_wpIn hfn (hassign _ k W _ hkN hi ?_)⟩
    intro a' V hf hp hiV hax; have hlV := hf.same _ _ (by omega) hl rfl
    have hdV := hf.same _ _ (Nat.le_refl _) hd rfl; have hRV : R < V.heap.size := (Array.getElem?_eq_some_iff.1 hlV).1
    refine ⟨_, run_beginRound hlV (by rw [hmk]), ?_⟩
    obtain ⟨U, hU⟩ : ∃ U, U = V.putObj R (.loop { mk .ready with state := .busy }) := ⟨_, rfl⟩
    have hUR : U.heap[R]? = some (.loop { mk .ready with state := .busy }) := by rw [hU]; exact World.putObj_heap_same hRV
    have hUD : U.heap[w.heap.size]? = some (.deferred (some [])) := by rw [hU]; exact (World.putObj_heap_other (by omega)).trans hdV
    have hUK : Kp V U := by rw [hU]; exact hKb _ _ _ _ (by omega) hlV rfl rfl
    have hUI : I k U := by rw [hU]; exact hI.putObj _ hiV (by omega) hlV rfl
    have hUA : Ax k a' U := by rw [hU]; exact (hAx k a').putObj (s := ()) _ hax (by omega) hlV rfl
    rw [<- hU]; refine wpIn_mono (hbody _ k a' U hkN hUI hUA) ?_
    rintro e a3 Z hz
    cases e with
    | normal =>
      obtain ⟨hfZ, hpZ, hiZ⟩ := hz; have hlZ := hfZ.same _ _ (by omega) hUR rfl
      have hdZ := hfZ.same _ _ (Nat.le_refl _) hUD rfl; have hr := run_endRound (P := P) none hlZ; have hRZ : R < Z.heap.size := (Array.getElem?_eq_some_iff.1 hlZ).1
      refine ⟨_, _, hr, rfl, ⟨hI.putObj _ hiZ (by omega) hlZ rfl, ?_, (World.putObj_heap_other (by omega)).trans hdZ⟩, hKt hp (hKt (hKt hUK hpZ) (hKb _ _ _ _ (by omega) hlZ rfl rfl))⟩
      rw [World.putObj_heap_same hRZ, hmk]; rfl
    | _ => exact hz.elim
  · rintro e W2 ⟨⟨v, rfl⟩, hi, hl, hd⟩
    exact ⟨none, _, by have := run_endLoop (P := P) hl (by rw [hmk]; simp); rw [hmk] at this; exact this, hdone _ _ (Nat.le_refl _) (hI.putObj _ hi (by omega) hl rfl) ((World.putObj_heap_other (by omega)).trans hd)⟩
end Go.Proofs.YtjdfdmamonjnoaaGreatDoor
namespace Go.Proofs.YtjdfdmamonjnoaaGreatDoor
open Go.ChangeShapes Go.WideShapes Go.ChangeAt Go.RowKit Go.Deep Go.Shelf
open Terms
set_option maxHeartbeats 6400000
set_option maxRecDepth 20000
theorem owns_block_eq {w w' : World} {base g cap k : Nat} {e : TypeId} {s n : Nat} {xs : List Value} (h : w.ownsRow base e s (.slice (some ⟨g, 0, none⟩) n cap) k xs) (hh : w'.heap[g]? = w.heap[g]?) : w'.ownsRow base e s (.slice (some ⟨g, 0, none⟩) n cap) k xs := by
  obtain ⟨h1, h2⟩ := h; refine ⟨h1, ?_⟩
  rcases h2 with ⟨h2, _⟩ | ⟨g', cap', cur, hv, hg, hc, r⟩
  · simp at h2
  · have hgg : g = g' := by simp at hv; exact hv.1
    subst hgg; exact .inr ⟨g, cap', cur, hv, hg, hh.trans hc, r⟩
theorem Six.block {w w' : World} {b : Nat} {x0 x1 x2 x3 x4 x5 : Value} (h : Six w b x0 x1 x2 x3 x4 x5) (hh : w'.heap[b]? = w.heap[b]?) (hs : w.heap.size <= w'.heap.size) : Six w' b x0 x1 x2 x3 x4 x5 :=
  ⟨(World.cell?_of_block (w := w) hh).trans h.k0, (World.frozen?_of_block (w := w) hh).trans h.f0, (World.cell?_of_block (w := w) hh).trans h.k1, (World.frozen?_of_block (w := w) hh).trans h.f1, (World.cell?_of_block (w := w) hh).trans h.k2, (World.frozen?_of_block (w := w) hh).trans h.f2, (World.cell?_of_block (w := w) hh).trans h.k3, (World.frozen?_of_block (w := w) hh).trans h.f3, (World.cell?_of_block (w := w) hh).trans h.k4, (World.frozen?_of_block (w := w) hh).trans h.f4, (World.cell?_of_block (w := w) hh).trans h.k5, (World.frozen?_of_block (w := w) hh).trans h.f5, Nat.lt_of_lt_of_le h.hl hs⟩
theorem row_apart {w : World} {b b' t t' n n' : Nat} {f f' : Nat -> Value} (h : w.rowIs b t n f) (h' : w.rowIs b' t' n' f') (ht : t ≠ t') : b ≠ b' := by
  rintro rfl
  obtain ⟨c, h1, _⟩ := h; obtain ⟨c', h2, _⟩ := h'; rw [h1] at h2; simp at h2
  exact ht h2.2
theorem row_kept {w w' : World} {b t n : Nat} {f : Nat -> Value} {row : Option Nat} (h : w.rowIs b t n f) (hg : w.grownBy w' row) (hrow : ∀ r, row = some r -> ∃ o : Obj, w.heap[r]? = some o /\ o.isCells = false) : w'.rowIs b t n f := by
  obtain ⟨c, h1, h2⟩ := id h; exact h.of_block (grownBy_keeps_cells hg hrow h1 rfl)
theorem Six.chain {w : World} {b : Nat} {x0 x1 x2 x3 x4 x5 : Value} (h : Six w b x0 x1 x2 x3 x4 x5) (u0 u1 u2 u3 u4 u5 : Value) : (((((((w.setCell ⟨b, 0, none⟩ u0).setCell ⟨b, 1, none⟩ u1).setCell ⟨b, 2, none⟩ u2).setCell ⟨b, 3, none⟩ u3).setCell ⟨b, 4, none⟩ u4).setCell ⟨b, 5, none⟩ u5)).cell? ⟨b, 0, none⟩ = some u0 /\ (((((((w.setCell ⟨b, 0, none⟩ u0).setCell ⟨b, 1, none⟩ u1).setCell ⟨b, 2, none⟩ u2).setCell ⟨b, 3, none⟩ u3).setCell ⟨b, 4, none⟩ u4).setCell ⟨b, 5, none⟩ u5)).cell? ⟨b, 1, none⟩ = some u1 /\ (((((((w.setCell ⟨b, 0, none⟩ u0).setCell ⟨b, 1, none⟩ u1).setCell ⟨b, 2, none⟩ u2).setCell ⟨b, 3, none⟩ u3).setCell ⟨b, 4, none⟩ u4).setCell ⟨b, 5, none⟩ u5)).cell? ⟨b, 2, none⟩ = some u2 /\ (((((((w.setCell ⟨b, 0, none⟩ u0).setCell ⟨b, 1, none⟩ u1).setCell ⟨b, 2, none⟩ u2).setCell ⟨b, 3, none⟩ u3).setCell ⟨b, 4, none⟩ u4).setCell ⟨b, 5, none⟩ u5)).cell? ⟨b, 3, none⟩ = some u3 /\ (((((((w.setCell ⟨b, 0, none⟩ u0).setCell ⟨b, 1, none⟩ u1).setCell ⟨b, 2, none⟩ u2).setCell ⟨b, 3, none⟩ u3).setCell ⟨b, 4, none⟩ u4).setCell ⟨b, 5, none⟩ u5)).cell? ⟨b, 4, none⟩ = some u4 /\ (((((((w.setCell ⟨b, 0, none⟩ u0).setCell ⟨b, 1, none⟩ u1).setCell ⟨b, 2, none⟩ u2).setCell ⟨b, 3, none⟩ u3).setCell ⟨b, 4, none⟩ u4).setCell ⟨b, 5, none⟩ u5)).cell? ⟨b, 5, none⟩ = some u5 := by
  obtain ⟨q0, q1, q2, q3, q4, q5⟩ := h.read u0 u1 u2 u3 u4 u5; have ho : ∀ (X : World) (i j : Nat) (u : Value), i ≠ j -> (X.setCell ⟨b, i, none⟩ u).cell? ⟨b, j, none⟩ = X.cell? ⟨b, j, none⟩ := fun X i j u hij => World.cell?_setCell_other _ _ _ _ (by intro e; injection e with _ e2; exact hij e2)
  refine ⟨?_, ?_, ?_, ?_, ?_, q5⟩
  · rw [ho _ 5 0 _ (by decide), ho _ 4 0 _ (by decide), ho _ 3 0 _ (by decide), ho _ 2 0 _ (by decide), ho _ 1 0 _ (by decide)]; exact q0
  · rw [ho _ 5 1 _ (by decide), ho _ 4 1 _ (by decide), ho _ 3 1 _ (by decide), ho _ 2 1 _ (by decide)]; exact q1
  · rw [ho _ 5 2 _ (by decide), ho _ 4 2 _ (by decide), ho _ 3 2 _ (by decide)]; exact q2
  · rw [ho _ 5 3 _ (by decide), ho _ 4 3 _ (by decide)]; exact q3
  · rw [ho _ 5 4 _ (by decide)]; exact q4
theorem chain_block (w : World) (b z : Nat) (hz : z ≠ b) (u0 u1 u2 u3 u4 u5 : Value) : (((((((w.setCell ⟨b, 0, none⟩ u0).setCell ⟨b, 1, none⟩ u1).setCell ⟨b, 2, none⟩ u2).setCell ⟨b, 3, none⟩ u3).setCell ⟨b, 4, none⟩ u4).setCell ⟨b, 5, none⟩ u5)).heap[z]? = w.heap[z]? := by
  rw [Below.heap_setCell _ _ _ z hz, Below.heap_setCell _ _ _ z hz, Below.heap_setCell _ _ _ z hz, Below.heap_setCell _ _ _ z hz, Below.heap_setCell _ _ _ z hz, Below.heap_setCell _ _ _ z hz]
theorem chain_far (w : World) (b z q : Nat) (hz : z ≠ b) (u0 u1 u2 u3 u4 u5 : Value) : (((((((w.setCell ⟨b, 0, none⟩ u0).setCell ⟨b, 1, none⟩ u1).setCell ⟨b, 2, none⟩ u2).setCell ⟨b, 3, none⟩ u3).setCell ⟨b, 4, none⟩ u4).setCell ⟨b, 5, none⟩ u5)).cell? ⟨z, q, none⟩ = w.cell? ⟨z, q, none⟩ := by
  have h := chain_block w b z hz u0 u1 u2 u3 u4 u5; simp only [World.cell?, h]
structure FiJ (w w3 : World) (b off n cap B : Nat) (aao : Option Addr) (an ac m sn : Nat) (ls : List (List Bool)) (t : Tm) (TB CB ccap RB W0s : Nat) (k : Nat) (W : World) : Prop where
  below : Below w3.heap.size w3 W
  tab : Six W TB (.slice (some ⟨b, off, none⟩) n cap) (.slice (some ⟨B, 0, none⟩) n n) (.slice aao an ac) (.slice (some ⟨CB, 0, none⟩) m ccap) (.int .i64 (sn : Int)) (.slice (some ⟨RB, 0, none⟩) n n)
  lets : ∃ us, W.ownsRow w3.heap.size 60 1 (.slice (some ⟨CB, 0, none⟩) m ccap) us.length us /\ LetsU w us ls
  rows : ∃ f, W.rowIs RB 60 n f /\ ∀ q, n - k <= q -> q < n -> ∃ rb, f q = .slice (some ⟨rb, 0, none⟩) m m /\ W.rowIs rb 4 m (fun j => .bool ((t.sub q).hb (sig ls sn) j))
  size : W0s <= W.heap.size
theorem FiJ.later {w w3 : World} {b off n cap B : Nat} {aao : Option Addr} {an ac m sn : Nat} {ls : List (List Bool)} {t : Tm} {TB CB ccap RB W0s : Nat} {k : Nat} {W W' : World} (h : FiJ w w3 b off n cap B aao an ac m sn ls t TB CB ccap RB W0s k W) (hb : Below W.heap.size W W') : FiJ w w3 b off n cap B aao an ac m sn ls t TB CB ccap RB W0s k W' := by
  obtain ⟨us, h1, h2⟩ := h.lets; obtain ⟨f, h3, h4⟩ := h.rows; refine ⟨h.below.trans (hb.mono h.below.size), h.tab.below hb h.tab.hl, ⟨us, owns_later h1 hb (Nat.le_refl _), h2⟩, ⟨f, row_later h3 hb, fun q a b => ?_⟩, Nat.le_trans h.size hb.size⟩
  obtain ⟨rb, e1, e2⟩ := h4 q a b; exact ⟨rb, e1, row_later e2 hb⟩
theorem FiJ.kept {w w3 : World} {b off n cap B : Nat} {aao : Option Addr} {an ac m sn : Nat} {ls : List (List Bool)} {t : Tm} {TB CB ccap RB W0s : Nat} {k base : Nat} {W W' : World} {row : Option Nat} (h : FiJ w w3 b off n cap B aao an ac m sn ls t TB CB ccap RB W0s k W) (hg : W.grownBy W' row) (hr : ∀ r, row = some r -> base <= r /\ ∃ o : Obj, W.heap[r]? = some o /\ o.isCells = false) (h3 : w3.heap.size <= base) (hT : TB < base) (hC : CB < base) (hbW : base <= W.heap.size) : FiJ w w3 b off n cap B aao an ac m sn ls t TB CB ccap RB W0s k W' := by
  have hb : Below base W W' := (Below.refl _ _).grown hg hbW (fun z e => (hr z e).1)
  obtain ⟨us, h1, h2⟩ := h.lets; obtain ⟨f, h4, h5⟩ := h.rows; refine ⟨h.below.trans (hb.mono h3), h.tab.below hb hT, ⟨us, owns_block_eq h1 (hb.block CB hC), h2⟩, ⟨f, row_kept h4 hg (fun r e => (hr r e).2), fun q a b => ?_⟩, Nat.le_trans h.size hb.size⟩
  obtain ⟨rb, e1, e2⟩ := h5 q a b; exact ⟨rb, e1, row_kept e2 hg (fun r e => (hr r e).2)⟩
theorem FiJ.put {w w3 : World} {b off n cap B : Nat} {aao : Option Addr} {an ac m sn : Nat} {ls : List (List Bool)} {t : Tm} {TB CB ccap RB W0s : Nat} {k rb : Nat} {W : World} (h : FiJ w w3 b off n cap B aao an ac m sn ls t TB CB ccap RB W0s k W) (hk : k < n) (hTR : TB ≠ RB) (hCR : CB ≠ RB) (hR3 : w3.heap.size <= RB) (hrow : W.rowIs rb 4 m (fun j => .bool ((t.sub (n - 1 - k)).hb (sig ls sn) j))) : FiJ w w3 b off n cap B aao an ac m sn ls t TB CB ccap RB W0s (k + 1) (W.setCell ⟨RB, n - 1 - k, none⟩ (.slice (some ⟨rb, 0, none⟩) m m)) := by
  have hb : ∀ z, z ≠ RB -> (W.setCell ⟨RB, n - 1 - k, none⟩ (.slice (some ⟨rb, 0, none⟩) m m)).heap[z]? = W.heap[z]? := fun z hz => Below.heap_setCell W _ _ z hz
  have hsz : (W.setCell ⟨RB, n - 1 - k, none⟩ (.slice (some ⟨rb, 0, none⟩) m m)).heap.size = W.heap.size := by simp
  obtain ⟨us, h1, h2⟩ := h.lets; obtain ⟨f, h4, h5⟩ := h.rows; refine ⟨h.below.setCell hR3 _, h.tab.block (hb TB hTR) (by omega), ⟨us, owns_block_eq h1 (hb CB hCR), h2⟩, ⟨_, h4.set (n - 1 - k) _, fun q a b => ?_⟩, by rw [hsz]; exact h.size⟩
  by_cases hq : q = n - 1 - k
  · subst hq
    exact ⟨rb, if_pos rfl, hrow.of_block (hb rb (row_apart hrow h4 (by decide)))⟩
  · obtain ⟨r, e1, e2⟩ := h5 q (by omega) b
    exact ⟨r, (if_neg hq).trans e1, e2.of_block (hb r (row_apart e2 h4 (by decide)))⟩
theorem FiJ.start {w w3 : World} {b off n cap B : Nat} {aao : Option Addr} {an ac m sn : Nat} {ls : List (List Bool)} {t : Tm} {TB CB ccap RB W0s : Nat} {Y : World} (hY : Below w3.heap.size w3 Y) (h6 : Six Y TB (.slice none 0 0) (.slice none 0 0) (.slice none 0 0) (.slice none 0 0) (.int .i64 0) (.slice none 0 0)) (hlets : ∃ us, Y.ownsRow w3.heap.size 60 1 (.slice (some ⟨CB, 0, none⟩) m ccap) us.length us /\ LetsU w us ls) (hrow : Y.rowIs RB 60 n (fun _ => .slice none 0 0)) (h3 : w3.heap.size <= TB) (hTR : TB ≠ RB) (hTC : TB ≠ CB) (hz : W0s <= Y.heap.size) : FiJ w w3 b off n cap B aao an ac m sn ls t TB CB ccap RB W0s 0 (((((((Y.setCell ⟨TB, 0, none⟩ (.slice (some ⟨b, off, none⟩) n cap)).setCell ⟨TB, 1, none⟩ (.slice (some ⟨B, 0, none⟩) n n)).setCell ⟨TB, 2, none⟩ (.slice aao an ac)).setCell ⟨TB, 3, none⟩ (.slice (some ⟨CB, 0, none⟩) m ccap)).setCell ⟨TB, 4, none⟩ (.int .i64 (sn : Int))).setCell ⟨TB, 5, none⟩ (.slice (some ⟨RB, 0, none⟩) n n))) := by
  have hb : ∀ z, z ≠ TB -> (((((((Y.setCell ⟨TB, 0, none⟩ (.slice (some ⟨b, off, none⟩) n cap)).setCell ⟨TB, 1, none⟩ (.slice (some ⟨B, 0, none⟩) n n)).setCell ⟨TB, 2, none⟩ (.slice aao an ac)).setCell ⟨TB, 3, none⟩ (.slice (some ⟨CB, 0, none⟩) m ccap)).setCell ⟨TB, 4, none⟩ (.int .i64 (sn : Int))).setCell ⟨TB, 5, none⟩ (.slice (some ⟨RB, 0, none⟩) n n))).heap[z]? = Y.heap[z]? := fun z hz => by
    rw [Below.heap_setCell _ _ _ z hz, Below.heap_setCell _ _ _ z hz, Below.heap_setCell _ _ _ z hz, Below.heap_setCell _ _ _ z hz, Below.heap_setCell _ _ _ z hz, Below.heap_setCell _ _ _ z hz]
  have hf : ∀ q, (((((((Y.setCell ⟨TB, 0, none⟩ (.slice (some ⟨b, off, none⟩) n cap)).setCell ⟨TB, 1, none⟩ (.slice (some ⟨B, 0, none⟩) n n)).setCell ⟨TB, 2, none⟩ (.slice aao an ac)).setCell ⟨TB, 3, none⟩ (.slice (some ⟨CB, 0, none⟩) m ccap)).setCell ⟨TB, 4, none⟩ (.int .i64 (sn : Int))).setCell ⟨TB, 5, none⟩ (.slice (some ⟨RB, 0, none⟩) n n))).frozen? ⟨TB, q, none⟩ = Y.frozen? ⟨TB, q, none⟩ := fun q => by simp only [World.frozen?_setCell]
  have hsz : (((((((Y.setCell ⟨TB, 0, none⟩ (.slice (some ⟨b, off, none⟩) n cap)).setCell ⟨TB, 1, none⟩ (.slice (some ⟨B, 0, none⟩) n n)).setCell ⟨TB, 2, none⟩ (.slice aao an ac)).setCell ⟨TB, 3, none⟩ (.slice (some ⟨CB, 0, none⟩) m ccap)).setCell ⟨TB, 4, none⟩ (.int .i64 (sn : Int))).setCell ⟨TB, 5, none⟩ (.slice (some ⟨RB, 0, none⟩) n n))).heap.size = Y.heap.size := by simp
  obtain ⟨us, h1, h2⟩ := hlets; obtain ⟨q0, q1, q2, q3, q4, q5⟩ := h6.read (.slice (some ⟨b, off, none⟩) n cap) (.slice (some ⟨B, 0, none⟩) n n) (.slice aao an ac) (.slice (some ⟨CB, 0, none⟩) m ccap) (.int .i64 (sn : Int)) (.slice (some ⟨RB, 0, none⟩) n n)
  have ho : ∀ (X : World) (i j : Nat) (u : Value), i ≠ j -> (X.setCell ⟨TB, i, none⟩ u).cell? ⟨TB, j, none⟩ = X.cell? ⟨TB, j, none⟩ := fun X i j u hij => World.cell?_setCell_other _ _ _ _ (by intro e; injection e with _ e2; exact hij e2)
  refine ⟨(((((hY.setCell h3 _).setCell h3 _).setCell h3 _).setCell h3 _).setCell h3 _).setCell h3 _, ⟨?_, (hf 0).trans h6.f0, ?_, (hf 1).trans h6.f1, ?_, (hf 2).trans h6.f2, ?_, (hf 3).trans h6.f3, ?_, (hf 4).trans h6.f4, q5, (hf 5).trans h6.f5, by rw [hsz]; exact h6.hl⟩, ⟨us, owns_block_eq h1 (hb CB (Ne.symm hTC)), h2⟩, ⟨_, hrow.of_block (hb RB (Ne.symm hTR)), fun q a b => by omega⟩, by rw [hsz]; exact hz⟩
  · rw [ho _ 5 0 _ (by decide), ho _ 4 0 _ (by decide), ho _ 3 0 _ (by decide), ho _ 2 0 _ (by decide), ho _ 1 0 _ (by decide)]; exact q0
  · rw [ho _ 5 1 _ (by decide), ho _ 4 1 _ (by decide), ho _ 3 1 _ (by decide), ho _ 2 1 _ (by decide)]; exact q1
  · rw [ho _ 5 2 _ (by decide), ho _ 4 2 _ (by decide), ho _ 3 2 _ (by decide)]; exact q2
  · rw [ho _ 5 3 _ (by decide), ho _ 4 3 _ (by decide)]; exact q3
  · rw [ho _ 5 4 _ (by decide)]; exact q4
end Go.Proofs.YtjdfdmamonjnoaaGreatDoor
