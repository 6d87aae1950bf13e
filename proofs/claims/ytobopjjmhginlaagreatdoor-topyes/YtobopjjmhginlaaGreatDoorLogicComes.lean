import Derived.Test.YtobopjjmhginlaaGreatDoorLogicWait
namespace Go.Proofs.YtobopjjmhginlaaGreatDoor
open Go.ChangeShapes Go.WideShapes Go.ChangeAt Go.RowKit Go.Deep
open Terms
set_option maxHeartbeats 6400000
set_option maxRecDepth 20000
theorem comes_any (b off n cap B bH bN : Nat) (l : List (Int × Int)) (h g : Nat -> Bool) (p : Nat) (kx : Int) (aao : Option Addr) (an ac : Nat) (w : World) (hI : PlaceIn w b off n cap B bH l h p kx) (hN : ∀ j, j < n -> w.cell? ⟨bN, j, none⟩ = some (.bool (g j))) (hNl : bN < w.heap.size) :
    Calls Tryz.prog 102 #[.agg #[.slice (some ⟨b, off, none⟩) n cap, .slice (some ⟨B, 0, none⟩) n n, .slice aao an ac], .int .i64 (p : Int), .slice (some ⟨bH, 0, none⟩) n n, .slice (some ⟨bN, 0, none⟩) n n] w fun e w' => e = .returned (.bool (comeB kx (h (p + 1)) (h (sec l p)) (g p) (g (p + 1)))) /\ Below w.heap.size w w' := by
  obtain ⟨h60, hp, hp1, hp2, ck, hbl, hrow, hhl, hends, hel⟩ := hI; have hA : Below w.heap.size w (((w.alloc (.cells #[.slice (some ⟨b, off, none⟩) n cap, .slice (some ⟨B, 0, none⟩) n n, .slice aao an ac] 128)).alloc (.cells #[.int .i64 (p : Int)] 3)).alloc (.cells #[.slice (some ⟨bN, 0, none⟩) n n] 90)) := (((Below.refl _ _).alloc (Nat.le_refl _) _).alloc (by simp) _).alloc (by simp; omega) _
  have hpa := parts_any b off cap n B bH p _ h l aao an ac rfl (((w.alloc (.cells #[.slice (some ⟨b, off, none⟩) n cap, .slice (some ⟨B, 0, none⟩) n n, .slice aao an ac] 128)).alloc (.cells #[.int .i64 (p : Int)] 3)).alloc (.cells #[.slice (some ⟨bN, 0, none⟩) n n] 90)) (fun j hj => (hA.cell (p := ⟨bH, j, none⟩) hhl).trans (hrow j hj)) (Nat.lt_of_lt_of_le hhl hA.size) (fun j hj => (hA.cell (p := ⟨B, j, none⟩) hel).trans (hends j hj)) (Nat.lt_of_lt_of_le hel hA.size)
  simp only [World.size_alloc] at hpa
  have HP2 : Hid (∀ w2, Below (w.heap.size + 1 + 1 + 1) (((w.alloc (.cells #[.slice (some ⟨b, off, none⟩) n cap, .slice (some ⟨B, 0, none⟩) n n, .slice aao an ac] 128)).alloc (.cells #[.int .i64 (p : Int)] 3)).alloc (.cells #[.slice (some ⟨bN, 0, none⟩) n n] 90)) w2 -> Below w.heap.size w w2 /\ w2.cell? ⟨b, off + p * 2, none⟩ = some (.int .i64 kx) /\ w2.cell? ⟨w.heap.size, 0, none⟩ = some (.slice (some ⟨b, off, none⟩) n cap) /\ w2.cell? ⟨w.heap.size, 1, none⟩ = some (.slice (some ⟨B, 0, none⟩) n n) /\ w2.cell? ⟨w.heap.size, 2, none⟩ = some (.slice aao an ac) /\ w2.cell? ⟨w.heap.size + 1, 0, none⟩ = some (.int .i64 (p : Int)) /\ w2.cell? ⟨w.heap.size + 1 + 1, 0, none⟩ = some (.slice (some ⟨bN, 0, none⟩) n n)) := fun w2 hb => by
    have hb2 := hA.trans (hb.mono (by omega))
    refine ⟨hb2, (hb2.cell (p := ⟨b, _, none⟩) hbl).trans ck, (hb.cell (p := ⟨w.heap.size, 0, none⟩) (by first | (simp; omega) | simp)).trans (by simp [go_sem]), (hb.cell (p := ⟨w.heap.size, 1, none⟩) (by first | (simp; omega) | simp)).trans (by simp [go_sem]), (hb.cell (p := ⟨w.heap.size, 2, none⟩) (by first | (simp; omega) | simp)).trans (by simp [go_sem]), (hb.cell (p := ⟨w.heap.size + 1, 0, none⟩) (by first | (simp; omega) | simp)).trans (by simp [go_sem]), (hb.cell (p := ⟨w.heap.size + 1 + 1, 0, none⟩) (by simp)).trans (by simp [go_sem])⟩
  have HF : Hid (∀ w2 bh bf bp, PartsAt w2 bh bf bp bH n B p h l -> ∀ w3, (∀ q, w3.cell? q = w2.cell? q) -> Calls Tryz.prog 99 #[.pointer (some ⟨bh, 0, none⟩), .pointer (some ⟨bp, 0, none⟩)] w3 fun e w' => e = .returned (.bool (h (p + 1))) /\ w' = w3) := fun w2 bh bf bp hP w3 hc => first_any bh bp bH n p _ w3 h60 hp1 ((hc _).trans hP.holds) ((hc _).trans hP.place) ((hc _).trans (hP.row _ hp1))
  have HS : Hid ((kx = 15 \/ kx = 16) -> ∀ w2 bh bf bp, PartsAt w2 bh bf bp bH n B p h l -> Calls Tryz.prog 100 #[.pointer (some ⟨bh, 0, none⟩), .pointer (some ⟨bf, 0, none⟩), .pointer (some ⟨bp, 0, none⟩)] w2 fun e w' => e = .returned (.bool (h (sec l p))) /\ ∃ r, w' = w2.drewN r) := fun hk w2 bh bf bp hP => second_any bh bf bp bH n B p (sec l p) _ w2 h60 hp1 (hp2 hk) hP.holds hP.place hP.ends (hP.erow _ hp1) (hP.row _ (hp2 hk))
  have HZ : Hid (∀ w2, Below w.heap.size w w2 -> w2.cell? ⟨w.heap.size + 1, 0, none⟩ = some (.int .i64 (p : Int)) -> w2.cell? ⟨w.heap.size + 1 + 1, 0, none⟩ = some (.slice (some ⟨bN, 0, none⟩) n n) -> ∀ w3, (∀ q, w3.cell? q = w2.cell? q) -> Calls Tryz.prog 120 #[.pointer (some ⟨w.heap.size + 1 + 1, 0, none⟩), .pointer (some ⟨w.heap.size + 1, 0, none⟩)] w3 fun e w' => e = .returned (.bool (g p)) /\ w' = w3) := fun w2 hb c1 c2 w3 hc => itself_any _ _ bN n p _ w3 hp ((hc _).trans c2) ((hc _).trans c1) ((hc _).trans ((hb.cell (p := ⟨bN, p, none⟩) hNl).trans (hN p hp)))
  have HPN : Hid (∀ w2, Below w.heap.size w w2 -> Calls Tryz.prog 81 #[.agg #[.slice (some ⟨b, off, none⟩) n cap, .slice (some ⟨B, 0, none⟩) n n, .slice aao an ac], .int .i64 (p : Int), .slice (some ⟨bN, 0, none⟩) n n] w2 fun e w' => e = .returned (.tuple #[.func (.func 99) #[] #[.pointer (some ⟨w2.heap.size + 1 + 1, 0, none⟩), .pointer (some ⟨w2.heap.size + 1, 0, none⟩)], .func (.func 100) #[] #[.pointer (some ⟨w2.heap.size + 1 + 1, 0, none⟩), .pointer (some ⟨w2.heap.size, 0, none⟩), .pointer (some ⟨w2.heap.size + 1, 0, none⟩)]]) /\ Below w.heap.size w w' /\ Hid (Calls Tryz.prog 99 #[.pointer (some ⟨w2.heap.size + 1 + 1, 0, none⟩), .pointer (some ⟨w2.heap.size + 1, 0, none⟩)] w' fun e w'' => e = .returned (.bool (g (p + 1))) /\ w'' = w')) := fun w2 hb => by
    refine (parts_any b off cap n B bN p _ g l aao an ac rfl w2 (fun j hj => (hb.cell (p := ⟨bN, j, none⟩) hNl).trans (hN j hj)) (Nat.lt_of_lt_of_le hNl hb.size) (fun j hj => (hb.cell (p := ⟨B, j, none⟩) hel).trans (hends j hj)) (Nat.lt_of_lt_of_le hel hb.size)).mono fun e w' ⟨h1, h2, h3⟩ => ⟨h1, hb.trans (h2.mono hb.size), ?_⟩
    exact first_any _ _ bN n p _ w' h60 hp1 h3.out.holds h3.out.place (h3.out.row _ hp1)
  generalize hx : h (p + 1) = x at *; generalize hy : h (sec l p) = y at *; generalize hz : g p = z at *; generalize hnx : g (p + 1) = nx at *; clear hx hy hz hnx hrow hends ck hp2 hN
  by_cases e17 : kx = 17
  · subst e17
    rw [show comeB 17 x y z nx = (x || z) by simp [comeB]]
    clear HS HPN
    cases x
    all_goals
      go_enter Tryz.func102, Tryz.ntmps102
      go_wp2_with (first | (go_at_call 81; refine hpa.mono ?_; clear hpa; rintro e w2 ⟨rfl, hb2, HP⟩; obtain ⟨hbw, d0, d1, d2, d3, d4, d5⟩ := HP2.out w2 hb2; have hf := HF.out w2 _ _ _ HP.out; have hit := HZ.out w2 hbw d4 d5) | (go_at_call 99; refine (hf _ (by first | exact fun _ => rfl | (intro q; simp))).mono ?_; rintro e w3 ⟨rfl, hw3⟩; obtain rfl := hw3.symm) | (go_at_call 120; refine (hit _ (by first | exact fun _ => rfl | (intro q; simp))).mono ?_; rintro e w3 ⟨rfl, hw3⟩; obtain rfl := hw3.symm))
      go_ret
      exact ⟨by first | rfl | simp, by first | exact hbw | exact below_drewN hbw _⟩
  · by_cases e18 : kx = 18
    · subst e18
      rw [show comeB 18 x y z nx = (x && z) by simp [comeB]]
      clear HS HPN
      cases x
      all_goals
        go_enter Tryz.func102, Tryz.ntmps102
        go_wp2_with (first | (go_at_call 81; refine hpa.mono ?_; clear hpa; rintro e w2 ⟨rfl, hb2, HP⟩; obtain ⟨hbw, d0, d1, d2, d3, d4, d5⟩ := HP2.out w2 hb2; have hf := HF.out w2 _ _ _ HP.out; have hit := HZ.out w2 hbw d4 d5) | (go_at_call 99; refine (hf _ (by first | exact fun _ => rfl | (intro q; simp))).mono ?_; rintro e w3 ⟨rfl, hw3⟩; obtain rfl := hw3.symm) | (go_at_call 120; refine (hit _ (by first | exact fun _ => rfl | (intro q; simp))).mono ?_; rintro e w3 ⟨rfl, hw3⟩; obtain rfl := hw3.symm))
        go_ret
        exact ⟨by first | rfl | simp, by first | exact hbw | exact below_drewN hbw _⟩
    · by_cases e15 : kx = 15
      · subst e15
        rw [show comeB 15 x y z nx = (y || (x && z)) by simp [comeB]]
        have HS2 := (show Hid _ from HS.out (by decide))
        clear HS HPN
        cases x <;> cases y
        all_goals
          go_enter Tryz.func102, Tryz.ntmps102
          go_wp2_with (first | (go_at_call 81; refine hpa.mono ?_; clear hpa; rintro e w2 ⟨rfl, hb2, HP⟩; obtain ⟨hbw, d0, d1, d2, d3, d4, d5⟩ := HP2.out w2 hb2; have hf := HF.out w2 _ _ _ HP.out; have hs := HS2.out w2 _ _ _ HP.out; have hit := HZ.out w2 hbw d4 d5) | (go_at_call 99; refine (hf _ (by first | exact fun _ => rfl | (intro q; simp))).mono ?_; rintro e w3 ⟨rfl, hw3⟩; obtain rfl := hw3.symm) | (go_at_call 100; refine hs.mono ?_; rintro e w3 ⟨rfl, r3, rfl⟩) | (go_at_call 120; refine (hit _ (by first | exact fun _ => rfl | (intro q; simp))).mono ?_; rintro e w3 ⟨rfl, hw3⟩; obtain rfl := hw3.symm))
          go_ret
          exact ⟨by first | rfl | simp, by first | exact hbw | exact below_drewN hbw _⟩
      · by_cases e16 : kx = 16
        · subst e16
          rw [show comeB 16 x y z nx = (y && (x || z)) by simp [comeB]]
          have HS2 := (show Hid _ from HS.out (by decide))
          clear HS HPN
          cases x <;> cases y
          all_goals
            go_enter Tryz.func102, Tryz.ntmps102
            go_wp2_with (first | (go_at_call 81; refine hpa.mono ?_; clear hpa; rintro e w2 ⟨rfl, hb2, HP⟩; obtain ⟨hbw, d0, d1, d2, d3, d4, d5⟩ := HP2.out w2 hb2; have hf := HF.out w2 _ _ _ HP.out; have hs := HS2.out w2 _ _ _ HP.out; have hit := HZ.out w2 hbw d4 d5) | (go_at_call 99; refine (hf _ (by first | exact fun _ => rfl | (intro q; simp))).mono ?_; rintro e w3 ⟨rfl, hw3⟩; obtain rfl := hw3.symm) | (go_at_call 100; refine hs.mono ?_; rintro e w3 ⟨rfl, r3, rfl⟩) | (go_at_call 120; refine (hit _ (by first | exact fun _ => rfl | (intro q; simp))).mono ?_; rintro e w3 ⟨rfl, hw3⟩; obtain rfl := hw3.symm))
            go_ret
            exact ⟨by first | rfl | simp, by first | exact hbw | exact below_drewN hbw _⟩
        · rw [show comeB kx x y z nx = nx by simp [comeB, e17, e18, e15, e16]]
          clear HS HF HZ
          go_enter Tryz.func102, Tryz.ntmps102
          go_wp2_with (first | (go_at_call 81; refine hpa.mono ?_; clear hpa; rintro e w2 ⟨rfl, hb2, HP⟩; obtain ⟨hbw, d0, d1, d2, d3, d4, d5⟩ := HP2.out w2 hb2; have hpn := HPN.out w2 hbw) | (go_at_call 81; refine hpn.mono ?_; rintro e w4 ⟨rfl, hb4, HF4⟩) | (go_at_call 99; refine HF4.out.mono ?_; rintro e w5 ⟨rfl, hw5⟩; obtain rfl := hw5.symm))
          go_ret
          exact ⟨rfl, hb4⟩
end Go.Proofs.YtobopjjmhginlaaGreatDoor
