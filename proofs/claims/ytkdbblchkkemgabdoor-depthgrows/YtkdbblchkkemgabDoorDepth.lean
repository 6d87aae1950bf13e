/-
  The contract of polish.Depth.
-/
import Derived.Test.YtkdbblchkkemgabDoorMem
namespace Go.Proofs.YtkdbblchkkemgabDoor
open Go.ChangeShapes Go.WideShapes Go.ChangeAt Go.RowKit Go.Deep
open Terms

/-- the parts of what begins at a place, seen from the whole list. -/
theorem place_step {ks : List Int} {place m j : Nat} (h : cnt (ks.drop place) 1 = .ok m) (hj : j < pn ((ks.drop place).getD 0 0)) :
    ∃ m', cnt (ks.drop (place + pos (ks.drop place) j)) 1 = .ok m' ∧ 1 ≤ m' ∧ 1 ≤ pos (ks.drop place) j ∧ endAt ks (place + pos (ks.drop place) j) = place + pos (ks.drop place) (j + 1) ∧ pos (ks.drop place) (j + 1) = pos (ks.drop place) j + m' ∧ pos (ks.drop place) (j + 1) ≤ m := by
  obtain ⟨_, m', hm', h1, hp, _, hle⟩ := one_step h hj
  rw [List.drop_drop] at hm'
  have := pos_ge h (j := j) (by omega)
  exact ⟨m', hm', h1, by omega, by rw [endAt_ok hm']; omega, hp, hle⟩

set_option maxHeartbeats 1000000 in
theorem depthAt_any (B n : Nat) (ks : List Int) (h60 : n ≤ 60) (hks : ks.length = n) (w : World) (hrow : w.rowIs B 3 n (fun q => .int .i64 (endAt ks q))) (d : Nat) : ∀ (place m : Nat), n - place ≤ d → cnt (ks.drop place) 1 = .ok m →
    Calls Tryd.prog 13 #[.slice (some ⟨B, 0, none⟩) n n, .int .i64 place] w fun e w' => e = .returned (.int .i64 (D (ks.drop place))) ∧ w' = w := by
  induction d with
  | zero =>
    intro place m hd h
    have := cnt_le _ _ _ h
    rw [List.length_drop] at this
    omega
  | succ d ih =>
    intro place m hd h
    have hle := cnt_le _ _ _ h
    rw [List.length_drop] at hle
    have hcp := hrow.cell (i := place) (by omega)
    rw [endAt_ok h] at hcp
    have HD := (show Hid _ from D_eq h)
    have HR : Hid (w.rowIs B 3 n (fun q => .int .i64 (endAt ks q))) := hrow
    have H : Hid (cnt (ks.drop place) 1 = .ok m) := h
    have HLast := (show Hid _ from one_last h)
    obtain ⟨np, hnp⟩ : ∃ np, np = pn ((ks.drop place).getD 0 0) := ⟨_, rfl⟩
    have HP : Hid (np = pn ((ks.drop place).getD 0 0)) := hnp
    rw [← hnp] at HD HLast
    have HB : Hid (∀ j, j < np → D ((ks.drop place).drop (pos (ks.drop place) j)) ≤ 60) := fun j hj => by
      obtain ⟨m', a, b, c, _⟩ := place_step h (j := j) (by rw [← hnp]; exact hj)
      rw [List.drop_drop]
      have h2 := D_le _ _ _ (Nat.le_refl _) a
      have := cnt_le _ _ _ a
      rw [List.length_drop] at this
      omega
    have hpl : place < n := by omega
    have hmn : place + m ≤ n := by omega
    have HL : Hid (ks.length = n) := hks
    clear h hrow hnp hks
    go_enter Tryd.func13, Tryd.ntmps13
    go_wp2_with fail
    go_loop [5, 6] (fun dp pt => ∃ i : Nat, i ≤ np ∧ pt = .int .i64 ((place + pos (ks.drop place) i : Nat) : Int) ∧ dp = .int .i64 (maxTo i (fun j => D ((ks.drop place).drop (pos (ks.drop place) j))) : Nat)) (fun _ pt => place + m - (intOf pt).toNat)
    case atStart => exact ⟨0, Nat.zero_le _, by rw [pos_zero]; rfl, rfl⟩
    case round =>
      obtain ⟨i, hi, rfl, rfl⟩ := hrel
      by_cases hlt : i < np
      · obtain ⟨m', hm', h1, hp1, he, hp2, hp3⟩ := place_step H.out (j := i) (by rw [← HP.out]; exact hlt)
        have hci := HR.out.cell (i := place + pos (ks.drop place) i) (by omega)
        rw [he] at hci
        have hrec := ih _ m' (by omega) hm'
        have hmx := maxTo_le (g := fun j => D ((ks.drop place).drop (pos (ks.drop place) j))) (b := 60) i (fun j hj => HB.out j (by omega))
        have hdi := HB.out i hlt
        have HS : Hid (maxTo (i + 1) (fun j => D ((ks.drop place).drop (pos (ks.drop place) j))) = max (maxTo i (fun j => D ((ks.drop place).drop (pos (ks.drop place) j)))) (D ((ks.drop place).drop (pos (ks.drop place) i)))) := rfl
        rw [List.drop_drop] at hdi HS
        have hpp : pos (ks.drop place) i < pos (ks.drop place) (i + 1) := by omega
        clear he hm' hp2
        obtain ⟨p', hp'⟩ : ∃ p', p' = pos (ks.drop place) (i + 1) := ⟨_, rfl⟩
        rw [← hp'] at hci hp3 hpp
        have HQ : Hid (p' = pos (ks.drop place) (i + 1)) := hp'
        clear hp'
        generalize pos (ks.drop place) i = p at *
        generalize maxTo i (fun j => D ((ks.drop place).drop (pos (ks.drop place) j))) = mx at *
        generalize D (ks.drop (place + p)) = dd at *
        go_wp2_with (go_at_call 13; refine hrec.mono ?_; rintro e w' ⟨rfl, rfl⟩)
        all_goals
          go_round
          case rel => exact ⟨i + 1, by omega, by rw [HQ.out]; go_num, by rw [HS.out]; go_num⟩
          case measure => simp [intOf]; omega
      · have hin : i = np := by omega
        subst hin
        have hl := HLast.out
        have hmx := maxTo_le (g := fun j => D ((ks.drop place).drop (pos (ks.drop place) j))) (b := 60) i (fun j hj => HB.out j (by omega))
        rw [hl]
        generalize maxTo i (fun j => D ((ks.drop place).drop (pos (ks.drop place) j))) = mx at *
        clear hlt hi hl
        go_wp2_with fail
        go_ret
        exact ⟨ret_int (by rw [HD.out]; omega), rfl⟩

def depthV (ks : List Int) : Nat := if endsCode ks = 0 then D ks else 0

/-- THE CONTRACT OF polish.Depth. -/
theorem depth_any (v : Value) (ks : List Int) (w : World) (hB : 0 < w.heap.size) (hT : TabAt w) (hK : Kinds w v ks) :
    Calls Tryd.prog 8 #[v] w fun e w' => e = .returned (.tuple #[.int .i64 (depthV ks : Nat), .int .i64 (endsCode ks)]) ∧ Below w.heap.size w w' := by
  have hends := ends_any v ks w hB hT hK
  by_cases hz : endsCode ks = 0
  · obtain ⟨h60, hone⟩ := code_zero hz
    have hv : depthV ks = D ks := by unfold depthV; rw [if_pos hz]
    rw [hv, hz]
    obtain ⟨n, hn⟩ : ∃ n, ks.length = n := ⟨_, rfl⟩
    have hends2 : Calls Tryd.prog 6 #[v] w fun e w' => Below w.heap.size w w' ∧ ∃ B, w.heap.size ≤ B ∧ e = .returned (.tuple #[.slice (some ⟨B, 0, none⟩) n n, .int .i64 0]) ∧ w'.rowIs B 3 n (fun q => .int .i64 (endAt ks q)) :=
      hends.mono fun e w' ⟨h1, _, h3⟩ => ⟨h1, by have := h3 hz; rwa [hn] at this⟩
    have HN : Hid (ks.length = n) := hn
    have HO : Hid (cnt ks 1 = .ok ks.length) := hone
    have H60 : Hid (ks.length ≤ 60) := h60
    clear hends hz hone h60 hn hv hK hT
    go_enter Tryd.func8, Tryd.ntmps8
    go_wp2_with (go_at_call 6; refine hends2.mono ?_; rintro e w1 ⟨hb1, B, hBw, rfl, hrow⟩)
    have hd := depthAt_any B n ks (by rw [← HN.out]; exact H60.out) HN.out w1 hrow n 0 ks.length (by omega) (by rw [List.drop_zero]; exact HO.out)
    rw [List.drop_zero] at hd
    clear hrow
    go_wp2_with (go_at_call 13; refine hd.mono ?_; rintro e w2 ⟨rfl, rfl⟩)
    go_ret2
    exact ⟨rfl, hb1⟩
  · have hv : depthV ks = 0 := by unfold depthV; rw [if_neg hz]
    rw [hv]
    have hends2 : Calls Tryd.prog 6 #[v] w fun e w' => e = .returned (.tuple #[.slice none 0 0, .int .i64 (endsCode ks)]) ∧ Below w.heap.size w w' := hends.mono fun e w' ⟨h1, h2, _⟩ => ⟨h2 hz, h1⟩
    clear hends hv hK hT
    generalize endsCode ks = x at *
    go_enter Tryd.func8, Tryd.ntmps8
    go_wp2_with (go_at_call 6; refine hends2.mono ?_; rintro e w1 ⟨rfl, hb1⟩)
    go_ret2
    exact ⟨rfl, hb1⟩

end Go.Proofs.YtkdbblchkkemgabDoor
