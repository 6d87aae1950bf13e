import Derived.Test.YtobopjjmhginlaaGreatDoorLogicTr3
namespace Go.Proofs.YtobopjjmhginlaaGreatDoor
open Go.ChangeShapes Go.WideShapes Go.ChangeAt Go.RowKit Go.Deep
open Terms
set_option maxHeartbeats 6400000
set_option maxRecDepth 20000
def waitB (k : Int) (a x y : Bool) : Bool := if k = 17 then a && !x else if k = 18 then !a && x else if k = 15 then a && !y else if k = 16 then !a && y else false
def comeB (k : Int) (x y z nx : Bool) : Bool := if k = 17 then x || z else if k = 18 then x && z else if k = 15 then y || (x && z) else if k = 16 then y && (x || z) else nx
structure PlaceIn (w : World) (b off n cap B bH : Nat) (l : List (Int × Int)) (h : Nat -> Bool) (p : Nat) (kx : Int) : Prop where
  n60 : n <= 60
  pl : p < n
  one : p + 1 < n
  two : kx = 15 \/ kx = 16 -> sec l p < n
  kind : w.cell? ⟨b, off + p * 2, none⟩ = some (.int .i64 kx)
  bl : b < w.heap.size
  row : ∀ j, j < n -> w.cell? ⟨bH, j, none⟩ = some (.bool (h j))
  hl : bH < w.heap.size
  ends : ∀ j, j < n -> w.cell? ⟨B, j, none⟩ = some (.int .i64 (endAt (l.map Prod.fst) j))
  el : B < w.heap.size
theorem waits_any (b off n cap B bH : Nat) (l : List (Int × Int)) (h : Nat -> Bool) (p : Nat) (kx : Int) (aao : Option Addr) (an ac : Nat) (w : World) (hI : PlaceIn w b off n cap B bH l h p kx) :
    Calls Tryz.prog 86 #[.agg #[.slice (some ⟨b, off, none⟩) n cap, .slice (some ⟨B, 0, none⟩) n n, .slice aao an ac], .int .i64 (p : Int), .slice (some ⟨bH, 0, none⟩) n n] w fun e w' => e = .returned (.bool (waitB kx (h p) (h (p + 1)) (h (sec l p)))) /\ Below w.heap.size w w' := by
  obtain ⟨h60, hp, hp1, hp2, ck, hbl, hrow, hhl, hends, hel⟩ := hI; have hA : ∀ o, Below w.heap.size w (w.alloc o) := fun o => (Below.refl _ _).alloc (Nat.le_refl _) o
  have hpa := fun o => parts_any b off cap n B bH p _ h l aao an ac rfl (w.alloc o) (fun j hj => ((hA o).cell (p := ⟨bH, j, none⟩) hhl).trans (hrow j hj)) (Nat.lt_of_lt_of_le hhl (hA o).size) (fun j hj => ((hA o).cell (p := ⟨B, j, none⟩) hel).trans (hends j hj)) (Nat.lt_of_lt_of_le hel (hA o).size)
  have hpa := hpa (.cells #[.slice (some ⟨b, off, none⟩) n cap, .slice (some ⟨B, 0, none⟩) n n, .slice aao an ac] 128); simp only [World.size_alloc] at hpa
  have HP2 : Hid (∀ w2, Below (w.heap.size + 1) (w.alloc (.cells #[.slice (some ⟨b, off, none⟩) n cap, .slice (some ⟨B, 0, none⟩) n n, .slice aao an ac] 128)) w2 -> Below w.heap.size w w2 /\ w2.cell? ⟨b, off + p * 2, none⟩ = some (.int .i64 kx) /\ w2.cell? ⟨bH, p, none⟩ = some (.bool (h p)) /\ w2.cell? ⟨w.heap.size, 0, none⟩ = some (.slice (some ⟨b, off, none⟩) n cap)) := fun w2 hb => by
    have hb2 := (hA _).trans (hb.mono (Nat.le_succ _)); exact ⟨hb2, (hb2.cell (p := ⟨b, _, none⟩) hbl).trans ck, (hb2.cell (p := ⟨bH, _, none⟩) hhl).trans (hrow p hp), (hb.cell (p := ⟨w.heap.size, 0, none⟩) (by simp)).trans (by simp [go_sem])⟩
  have HF : Hid (∀ w2 bh bf bp, PartsAt w2 bh bf bp bH n B p h l -> Calls Tryz.prog 99 #[.pointer (some ⟨bh, 0, none⟩), .pointer (some ⟨bp, 0, none⟩)] w2 fun e w' => e = .returned (.bool (h (p + 1))) /\ w' = w2) := fun w2 bh bf bp hP => first_any bh bp bH n p _ w2 h60 hp1 hP.holds hP.place (hP.row _ hp1)
  have HS : Hid ((kx = 15 \/ kx = 16) -> ∀ w2 bh bf bp, PartsAt w2 bh bf bp bH n B p h l -> Calls Tryz.prog 100 #[.pointer (some ⟨bh, 0, none⟩), .pointer (some ⟨bf, 0, none⟩), .pointer (some ⟨bp, 0, none⟩)] w2 fun e w' => e = .returned (.bool (h (sec l p))) /\ ∃ r, w' = w2.drewN r) := fun hk w2 bh bf bp hP => second_any bh bf bp bH n B p (sec l p) _ w2 h60 hp1 (hp2 hk) hP.holds hP.place hP.ends (hP.erow _ hp1) (hP.row _ (hp2 hk))
  generalize hx : h (p + 1) = x at *; generalize hy : h (sec l p) = y at *; generalize hz : h p = z at *; clear hx hy hz hrow hends ck hp2 hA
  by_cases e17 : kx = 17
  · subst e17
    rw [show waitB 17 z x y = (z && !x) by simp [waitB]]
    clear HS
    cases z
    all_goals
      go_enter Tryz.func86, Tryz.ntmps86
      go_wp2_with (first | (go_at_call 81; refine hpa.mono ?_; rintro e w2 ⟨rfl, hb2, HP⟩; obtain ⟨hbw, d0, d1, d2⟩ := HP2.out w2 hb2; have hf := HF.out w2 _ _ _ HP.out) | (go_at_call 99; refine hf.mono ?_; rintro e w3 ⟨rfl, hw3⟩; obtain rfl := hw3.symm))
      go_ret
      exact ⟨by first | rfl | simp, by first | exact hbw | exact below_drewN hbw _⟩
  · by_cases e18 : kx = 18
    · subst e18
      rw [show waitB 18 z x y = (!z && x) by simp [waitB]]
      clear HS
      cases z
      all_goals
        go_enter Tryz.func86, Tryz.ntmps86
        go_wp2_with (first | (go_at_call 81; refine hpa.mono ?_; rintro e w2 ⟨rfl, hb2, HP⟩; obtain ⟨hbw, d0, d1, d2⟩ := HP2.out w2 hb2; have hf := HF.out w2 _ _ _ HP.out) | (go_at_call 99; refine hf.mono ?_; rintro e w3 ⟨rfl, hw3⟩; obtain rfl := hw3.symm))
        go_ret
        exact ⟨by first | rfl | simp, by first | exact hbw | exact below_drewN hbw _⟩
    · by_cases e15 : kx = 15
      · subst e15
        rw [show waitB 15 z x y = (z && !y) by simp [waitB]]
        have HS2 := (show Hid _ from HS.out (by decide))
        clear HS
        cases z
        all_goals
          go_enter Tryz.func86, Tryz.ntmps86
          go_wp2_with (first | (go_at_call 81; refine hpa.mono ?_; rintro e w2 ⟨rfl, hb2, HP⟩; obtain ⟨hbw, d0, d1, d2⟩ := HP2.out w2 hb2; have hs := HS2.out w2 _ _ _ HP.out) | (go_at_call 100; refine hs.mono ?_; rintro e w3 ⟨rfl, r3, rfl⟩))
          go_ret
          exact ⟨by first | rfl | simp, by first | exact hbw | exact below_drewN hbw _⟩
      · by_cases e16 : kx = 16
        · subst e16
          rw [show waitB 16 z x y = (!z && y) by simp [waitB]]
          have HS2 := (show Hid _ from HS.out (by decide))
          clear HS
          cases z
          all_goals
            go_enter Tryz.func86, Tryz.ntmps86
            go_wp2_with (first | (go_at_call 81; refine hpa.mono ?_; rintro e w2 ⟨rfl, hb2, HP⟩; obtain ⟨hbw, d0, d1, d2⟩ := HP2.out w2 hb2; have hs := HS2.out w2 _ _ _ HP.out) | (go_at_call 100; refine hs.mono ?_; rintro e w3 ⟨rfl, r3, rfl⟩))
            go_ret
            exact ⟨by first | rfl | simp, by first | exact hbw | exact below_drewN hbw _⟩
        · rw [show waitB kx z x y = false by simp [waitB, e17, e18, e15, e16]]
          clear HS
          go_enter Tryz.func86, Tryz.ntmps86
          go_wp2_with (first | (go_at_call 81; refine hpa.mono ?_; rintro e w2 ⟨rfl, hb2, HP⟩; obtain ⟨hbw, d0, d1, d2⟩ := HP2.out w2 hb2))
          go_ret
          exact ⟨rfl, hbw⟩
theorem itself_any (bn bp bN n pl : Nat) (x : Bool) (w : World) (hp : pl < n) (c0 : w.cell? ⟨bn, 0, none⟩ = some (.slice (some ⟨bN, 0, none⟩) n n)) (c1 : w.cell? ⟨bp, 0, none⟩ = some (.int .i64 pl)) (c2 : w.cell? ⟨bN, pl, none⟩ = some (.bool x)) :
    Calls Tryz.prog 120 #[.pointer (some ⟨bn, 0, none⟩), .pointer (some ⟨bp, 0, none⟩)] w fun e w' => e = .returned (.bool x) /\ w' = w := by
  go_enter Tryz.func120, Tryz.ntmps120
  go_wp2_with fail
  go_ret
  exact ⟨rfl, rfl⟩
end Go.Proofs.YtobopjjmhginlaaGreatDoor
