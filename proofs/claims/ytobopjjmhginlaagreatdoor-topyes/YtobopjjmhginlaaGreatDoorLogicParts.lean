import Derived.Test.YtobopjjmhginlaaGreatDoorLogicT
import Derived.Test.YtobopjjmhginlaaGreatDoorLogicRead
import Derived.Test.YtobopjjmhginlaaGreatDoorBools
namespace Go.Proofs.YtobopjjmhginlaaGreatDoor
open Go.ChangeShapes Go.WideShapes Go.ChangeAt Go.RowKit Go.Deep
open Terms
set_option maxHeartbeats 6400000
set_option maxRecDepth 20000
structure PartsAt (w : World) (bh bf bp bH n B pl : Nat) (h : Nat -> Bool) (l : List (Int × Int)) : Prop where
  holds : w.cell? ⟨bh, 0, none⟩ = some (.slice (some ⟨bH, 0, none⟩) n n)
  row : ∀ j, j < n -> w.cell? ⟨bH, j, none⟩ = some (.bool (h j))
  ends : w.cell? ⟨bf, 1, none⟩ = some (.slice (some ⟨B, 0, none⟩) n n)
  erow : ∀ j, j < n -> w.cell? ⟨B, j, none⟩ = some (.int .i64 (endAt (l.map Prod.fst) j))
  place : w.cell? ⟨bp, 0, none⟩ = some (.int .i64 pl)
theorem first_any (bh bp bH n pl : Nat) (x : Bool) (w : World) (hn : n <= 60) (hp : pl + 1 < n) (c0 : w.cell? ⟨bh, 0, none⟩ = some (.slice (some ⟨bH, 0, none⟩) n n)) (c1 : w.cell? ⟨bp, 0, none⟩ = some (.int .i64 pl)) (c2 : w.cell? ⟨bH, pl + 1, none⟩ = some (.bool x)) :
    Calls Tryz.prog 99 #[.pointer (some ⟨bh, 0, none⟩), .pointer (some ⟨bp, 0, none⟩)] w fun e w' => e = .returned (.bool x) /\ w' = w := by
  go_enter Tryz.func99, Tryz.ntmps99
  go_wp2_with fail
  go_ret
  exact ⟨rfl, rfl⟩
theorem second_any (bh bf bp bH n B pl s : Nat) (x : Bool) (w : World) (hn : n <= 60) (hp : pl + 1 < n) (hs : s < n) (c0 : w.cell? ⟨bh, 0, none⟩ = some (.slice (some ⟨bH, 0, none⟩) n n)) (c1 : w.cell? ⟨bp, 0, none⟩ = some (.int .i64 pl)) (c2 : w.cell? ⟨bf, 1, none⟩ = some (.slice (some ⟨B, 0, none⟩) n n)) (c3 : w.cell? ⟨B, pl + 1, none⟩ = some (.int .i64 s)) (c4 : w.cell? ⟨bH, s, none⟩ = some (.bool x)) :
    Calls Tryz.prog 100 #[.pointer (some ⟨bh, 0, none⟩), .pointer (some ⟨bf, 0, none⟩), .pointer (some ⟨bp, 0, none⟩)] w fun e w' => e = .returned (.bool x) /\ ∃ q, w' = w.drewN q := by
  go_enter Tryz.func100, Tryz.ntmps100
  go_wp2_with fail
  go_quiet (fail)
  go_wp2_with fail
  go_ret
  exact ⟨rfl, _, rfl⟩
theorem parts_any (b off cap n B bH pl : Nat) (av : Value) (h : Nat -> Bool) (l : List (Int × Int)) (aao : Option Addr) (an ac : Nat) (hav : av = .slice aao an ac) (w : World) (hr : ∀ j, j < n -> w.cell? ⟨bH, j, none⟩ = some (.bool (h j))) (hbH : bH < w.heap.size) (he : ∀ j, j < n -> w.cell? ⟨B, j, none⟩ = some (.int .i64 (endAt (l.map Prod.fst) j))) (hbB : B < w.heap.size) :
    Calls Tryz.prog 81 #[.agg #[.slice (some ⟨b, off, none⟩) n cap, .slice (some ⟨B, 0, none⟩) n n, av], .int .i64 pl, .slice (some ⟨bH, 0, none⟩) n n] w fun e w' =>
      e = .returned (.tuple #[.func (.func 99) #[] #[.pointer (some ⟨w.heap.size + 1 + 1, 0, none⟩), .pointer (some ⟨w.heap.size + 1, 0, none⟩)], .func (.func 100) #[] #[.pointer (some ⟨w.heap.size + 1 + 1, 0, none⟩), .pointer (some ⟨w.heap.size, 0, none⟩), .pointer (some ⟨w.heap.size + 1, 0, none⟩)]]) /\ Below w.heap.size w w' /\ Hid (PartsAt w' (w.heap.size + 1 + 1) w.heap.size (w.heap.size + 1) bH n B pl h l) := by
  subst hav; have HR := (show Hid _ from hr)
  have HE := (show Hid _ from he)
  clear hr he
  go_enter Tryz.func81, Tryz.ntmps81
  go_wp2_with fail
  go_ret2
  have hb : Below w.heap.size w (((w.alloc (.cells #[.slice (some ⟨b, off, none⟩) n cap, .slice (some ⟨B, 0, none⟩) n n, .slice aao an ac] 128)).alloc (.cells #[.int .i64 pl] 3)).alloc (.cells #[.slice (some ⟨bH, 0, none⟩) n n] 90)) := (((Below.refl _ _).alloc (Nat.le_refl _) _).alloc (by simp) _).alloc (by simp; omega) _
  refine ⟨rfl, hb, ?_⟩
  show PartsAt _ _ _ _ _ _ _ _ _ _
  constructor
  · simp [go_sem]
  · exact fun j hj => (hb.cell (p := ⟨bH, j, none⟩) hbH).trans (HR.out j hj)
  · simp [go_sem]
  · exact fun j hj => (hb.cell (p := ⟨B, j, none⟩) hbB).trans (HE.out j hj)
  · simp [go_sem]
theorem PartsAt.below {w w' : World} {bh bf bp bH n B pl : Nat} {h : Nat -> Bool} {l : List (Int × Int)} (p : PartsAt w bh bf bp bH n B pl h l) (hb : Below w.heap.size w w') (h1 : bh < w.heap.size) (h2 : bf < w.heap.size) (h3 : bp < w.heap.size) (h4 : bH < w.heap.size) (h5 : B < w.heap.size) : PartsAt w' bh bf bp bH n B pl h l :=
  ⟨(hb.cell (p := ⟨bh, 0, none⟩) h1).trans p.holds, fun j hj => (hb.cell (p := ⟨bH, j, none⟩) h4).trans (p.row j hj), (hb.cell (p := ⟨bf, 1, none⟩) h2).trans p.ends, fun j hj => (hb.cell (p := ⟨B, j, none⟩) h5).trans (p.erow j hj), (hb.cell (p := ⟨bp, 0, none⟩) h3).trans p.place⟩
theorem PartsAt.first {w : World} {bh bf bp bH n B pl : Nat} {h : Nat -> Bool} {l : List (Int × Int)} (p : PartsAt w bh bf bp bH n B pl h l) (hn : n <= 60) (hp : pl + 1 < n) (q : Nat) :
    Calls Tryz.prog 99 #[.pointer (some ⟨bh, 0, none⟩), .pointer (some ⟨bp, 0, none⟩)] (w.drewN q) fun e w' => e = .returned (.bool (h (pl + 1))) /\ w' = w.drewN q :=
  first_any bh bp bH n pl _ _ hn hp (by simpa using p.holds) (by simpa using p.place) (by simpa using p.row _ hp)
theorem PartsAt.second {w : World} {bh bf bp bH n B pl : Nat} {h : Nat -> Bool} {l : List (Int × Int)} (p : PartsAt w bh bf bp bH n B pl h l) (hn : n <= 60) (hp : pl + 1 < n) (hs : sec l pl < n) (q : Nat) :
    Calls Tryz.prog 100 #[.pointer (some ⟨bh, 0, none⟩), .pointer (some ⟨bf, 0, none⟩), .pointer (some ⟨bp, 0, none⟩)] (w.drewN q) fun e w' => e = .returned (.bool (h (sec l pl))) /\ ∃ r, w' = w.drewN r :=
  (second_any bh bf bp bH n B pl (sec l pl) _ _ hn hp hs (by simpa using p.holds) (by simpa using p.place) (by simpa using p.ends) (by have := p.erow _ hp; unfold sec; simpa using this) (by simpa using p.row _ hs)).mono fun e w' ⟨h1, r, h2⟩ => ⟨h1, q + r, by rw [h2, World.drewN_drewN]⟩
theorem makes_any (k v : Int) (lo : Option Addr) (lc bh bf bp bH n B pl : Nat) (letter : List Bool) (h : Nat -> Bool) (l : List (Int × Int)) (w : World) (hn : n <= 60)
    (hL : BoolsV w (.slice lo letter.length lc) letter) (hP : PartsAt w bh bf bp bH n B pl h l) (b1 : bh < w.heap.size) (b2 : bf < w.heap.size) (b3 : bp < w.heap.size) (b4 : bH < w.heap.size) (b5 : B < w.heap.size)
    (h13 : k = 13 -> 0 <= v /\ v < letter.length) (h1 : k = 10 \/ k = 8 \/ k = 9 -> pl + 1 < n) (h2 : k = 8 \/ k = 9 -> sec l pl < n) :
    Calls Tryz.prog 82 #[.agg #[.int .i64 k, .int .i64 v], .slice lo letter.length lc, .func (.func 99) #[] #[.pointer (some ⟨bh, 0, none⟩), .pointer (some ⟨bp, 0, none⟩)], .func (.func 100) #[] #[.pointer (some ⟨bh, 0, none⟩), .pointer (some ⟨bf, 0, none⟩), .pointer (some ⟨bp, 0, none⟩)]] w fun e w' =>
      e = .returned (.bool (mkB (k, v) letter (h (pl + 1)) (h (sec l pl)))) /\ Below w.heap.size w w' := by
  have hA : ∀ o, Below w.heap.size w (w.alloc o) := fun o => (Below.refl _ _).alloc (Nat.le_refl _) o
  have hP' := fun o => hP.below (hA o) b1 b2 b3 b4 b5
  by_cases e13 : k = 13
  · subst e13
    obtain ⟨hv0, hv1⟩ := h13 rfl; obtain ⟨vn, rfl⟩ : ∃ vn : Nat, v = vn := ⟨v.toNat, by omega⟩
    obtain ⟨lo', lc', hls, hll⟩ := hL
    injection hls with e1 e2 e3
    subst e1; obtain ⟨b, off, rfl, hbl, hat⟩ := hll (by intro h; rw [h] at hv1; simp at hv1; omega)
    have hc := fun o => ((hA o).cell (p := ⟨b, off + vn, none⟩) hbl).trans (hat vn (by omega))
    have hm : mkB (13, (vn : Int)) letter (h (pl + 1)) (h (sec l pl)) = letter.getD vn false := by simp [mkB]
    rw [hm]; generalize letter.getD vn false = x at hc ⊢; generalize letter.length = ln at *; have hvl : vn < ln := by omega
    clear hm hll hat hv0 hv1 h1 h2 h13 hP hP'
    go_enter Tryz.func82, Tryz.ntmps82
    go_wp2_with fail
    go_ret
    exact ⟨rfl, hA _⟩
  · by_cases e11 : k = 11
    · subst e11
      have hm : mkB (11, v) letter (h (pl + 1)) (h (sec l pl)) = true := by simp [mkB]
      rw [hm]; clear hm hL h1 h2 h13 hP hP' e13
      go_enter Tryz.func82, Tryz.ntmps82
      go_wp2_with fail
      go_ret
      exact ⟨rfl, hA _⟩
    · by_cases e10 : k = 10
      · subst e10
        have hp := h1 (.inl rfl); have hf := fun o => (hP' o).first hn hp 0
        have hm : mkB (10, v) letter (h (pl + 1)) (h (sec l pl)) = !h (pl + 1) := by simp [mkB]
        rw [hm]; generalize h (pl + 1) = x at hf ⊢; clear hm hL h1 h2 h13 hP hP' e13 e11
        go_enter Tryz.func82, Tryz.ntmps82
        go_wp2_with (go_at_call 99; refine (hf _).mono ?_; rintro e w1 ⟨rfl, rfl⟩)
        go_ret
        exact ⟨rfl, below_drewN (hA _) 0⟩
      · by_cases e8 : k = 8
        · subst e8
          have hp := h1 (.inr (.inl rfl)); have hs := h2 (.inl rfl); have hf := fun o q => (hP' o).first hn hp q
          have hf2 := fun o q => (hP' o).second hn hp hs q
          have hm : mkB (8, v) letter (h (pl + 1)) (h (sec l pl)) = (h (pl + 1) && h (sec l pl)) := by simp [mkB]
          rw [hm]; generalize h (pl + 1) = x at hf ⊢; generalize h (sec l pl) = y at hf2 ⊢; clear hm hL h1 h2 h13 hP hP' e13 e11 e10
          cases x
          · go_enter Tryz.func82, Tryz.ntmps82
            go_wp2_with (go_at_call 99; refine (hf _ 0).mono ?_; rintro e w1 ⟨rfl, rfl⟩)
            go_ret
            exact ⟨rfl, below_drewN (hA _) 0⟩
          · go_enter Tryz.func82, Tryz.ntmps82
            go_wp2_with (first | (go_at_call 99; refine (hf _ 0).mono ?_; rintro e w1 ⟨rfl, rfl⟩) | (go_at_call 100; refine (hf2 _ 0).mono ?_; rintro e w1 ⟨rfl, r, rfl⟩))
            go_ret
            exact ⟨by simp, below_drewN (hA _) _⟩
        · by_cases e9 : k = 9
          · subst e9
            have hp := h1 (.inr (.inr rfl)); have hs := h2 (.inr rfl); have hf := fun o q => (hP' o).first hn hp q
            have hf2 := fun o q => (hP' o).second hn hp hs q
            have hm : mkB (9, v) letter (h (pl + 1)) (h (sec l pl)) = (h (pl + 1) || h (sec l pl)) := by simp [mkB]
            rw [hm]; generalize h (pl + 1) = x at hf ⊢; generalize h (sec l pl) = y at hf2 ⊢; clear hm hL h1 h2 h13 hP hP' e13 e11 e10 e8
            cases x
            · go_enter Tryz.func82, Tryz.ntmps82
              go_wp2_with (first | (go_at_call 99; refine (hf _ 0).mono ?_; rintro e w1 ⟨rfl, rfl⟩) | (go_at_call 100; refine (hf2 _ 0).mono ?_; rintro e w1 ⟨rfl, r, rfl⟩))
              go_ret
              exact ⟨by simp, below_drewN (hA _) _⟩
            · go_enter Tryz.func82, Tryz.ntmps82
              go_wp2_with (go_at_call 99; refine (hf _ 0).mono ?_; rintro e w1 ⟨rfl, rfl⟩)
              go_ret
              exact ⟨rfl, below_drewN (hA _) 0⟩
          · have hm : mkB (k, v) letter (h (pl + 1)) (h (sec l pl)) = false := by simp [mkB, e13, e11, e10, e8, e9]
            rw [hm]; clear hm hL h1 h2 h13 hP hP'
            go_enter Tryz.func82, Tryz.ntmps82
            go_wp2_with fail
            go_ret
            exact ⟨rfl, hA _⟩
end Go.Proofs.YtobopjjmhginlaaGreatDoor
