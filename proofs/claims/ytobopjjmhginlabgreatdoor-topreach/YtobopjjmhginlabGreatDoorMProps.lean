import Derived.Test.YtobopjjmhginlabGreatDoorMCheck2
namespace Go.Proofs.YtobopjjmhginlabGreatDoor
open Go.ChangeShapes Go.WideShapes Go.ChangeAt Go.RowKit Go.Deep
open Terms Tm
set_option maxHeartbeats 6400000
set_option maxRecDepth 20000
theorem TermsV.shape {w : World} {v : Value} {ts : List (List (Int × Int))} (h : TermsV w v ts) : ∃ ao cap, v = .slice ao ts.length cap := by
  obtain ⟨ao, cap, h1, _⟩ := h; exact ⟨ao, cap, h1⟩
theorem TermsV.at {w : World} {ao : Option Addr} {cap n : Nat} {ts : List (List (Int × Int))} (h : TermsV w (.slice ao n cap) ts) {i : Nat} (hi : i < ts.length) : ∃ b off, ao = some ⟨b, off, none⟩ /\ b < w.heap.size /\ ∃ u, w.cell? ⟨b, off + i, none⟩ = some u /\ OpsV w u (ts.getD i []) := by
  obtain ⟨ao', cap', h1, h3⟩ := h
  injection h1 with e1 e2 e3
  subst e1; obtain ⟨b, off, e, hb, hh⟩ := h3 (by intro h; subst h; simp at hi)
  exact ⟨b, off, e, hb, hh i hi⟩
theorem mprops_loop (va vr pv : Value) (m : Mo) (ps : List (List (Int × Int))) (w : World) (hB : 0 < w.heap.size) (hT : TabAt w) (hV : ModelV w va vr m) (hP : TermsV w pv ps) (h : mcode m = 0) (hl6 : ps.length <= 6) :
    Calls Tryz.prog 59 #[.agg #[va, vr], pv] w fun e w' => e = .returned (.int .i64 (firstOf (fun i => kcode m.vars.length (ps.getD i []) true) ps.length)) /\ Below w.heap.size w w' := by
  have hA : ∀ o, Below w.heap.size w (w.alloc o) := fun o => (Below.refl _ _).alloc (Nat.le_refl _) o
  have hch := fun o => mcheck_any va vr m (w.alloc o) (Nat.lt_of_lt_of_le hB (hA o).size) (hT.below (hA o) hB) (hV.below (hA o))
  rw [h] at hch; have h6 := (mcode_vars h).1; obtain ⟨ao, cap, rfl⟩ := hV.1.shape; obtain ⟨ro, rc, rfl⟩ := hV.2.shape; obtain ⟨po, pc, rfl⟩ := hP.shape; have HP : Hid (TermsV w (.slice po ps.length pc) ps) := hP; have HT : Hid (TabAt w) := hT; obtain ⟨n, hn⟩ : ∃ n, n = ps.length := ⟨_, rfl⟩
  have HN : Hid (n = ps.length) := hn; rw [<- hn] at hl6 HP ⊢; generalize m.vars.length = vn at *; generalize m.rules.length = rn at *; clear hV hT hP hn h; obtain ⟨f, hf⟩ : ∃ f : Nat -> Int, f = fun i => kcode vn (ps.getD i []) true := ⟨_, rfl⟩
  rw [<- hf]; have HF : Hid (f = fun i => kcode vn (ps.getD i []) true) := hf
  clear hf
  go_enter Tryz.func59, Tryz.ntmps59
  go_wp2_with (go_at_call 41; refine (hch _).mono ?_; rintro e w1 ⟨rfl, hb1⟩)
  have hb1' : Below (w.heap.size + 1) (w.alloc (.cells #[.slice ao vn cap, .slice ro rn rc] 39)) w1 := hb1.mono (by simp)
  clear hch hb1
  go_loopw [19] (fun i wr => ∃ k : Nat, k <= n /\ i = .int .i64 k /\ Hid (∀ j, j < k -> f j = 0) /\ Below (w.heap.size + 1) (w.alloc (.cells #[.slice ao vn cap, .slice ro rn rc] 39)) wr) (fun i _ => n - (intOf i).toNat)
  case atStart => exact ⟨0, Nat.zero_le _, rfl, fun j hj => by omega, hb1'⟩
  case round =>
    obtain ⟨k, hk, rfl, HJ, hbel⟩ := hrel; clear hb1'; have hbw := (hA _).trans (hbel.mono (Nat.le_succ _)); have hszb : w.heap.size + 1 <= wr.heap.size := by have := hbel.size; simp at this; omega
    have cb := (hbel.cell (p := ⟨w.heap.size, 0, none⟩) (by simp)).trans (show _ = some (.slice ao vn cap) by simp [go_sem])
    by_cases hlt : k < n
    · obtain ⟨b, off, rfl, hblt, u, c0', hO⟩ := HP.out.at (i := k) (by rw [<- HN.out]; exact hlt)
      have HFk : Hid (f k = kcode vn (ps.getD k []) true) := by show _ = _; rw [HF.out]
      have HHit : Hid (∀ c, f k = c -> c ≠ 0 -> firstOf f n = c) := fun c h1 h2 => by rw [firstOf_hit hlt HJ.out (by rw [h1]; exact h2), h1]
      have HStep : Hid (f k = 0 -> ∀ j, j < k + 1 -> f j = 0) := fun h0 j hj => by
        by_cases hjk : j = k
        · subst hjk; exact h0
        · exact HJ.out j (by omega)
      generalize ps.getD k [] = p at *; obtain ⟨ua, uc, rfl⟩ := hO.shape; have c0 := (hbw.cell (p := ⟨b, off + k, none⟩) hblt).trans c0'; have hcm := checkMakes_any _ p vn true wr (Nat.lt_of_lt_of_le hB hbw.size) (HT.out.below hbw hB) (hO.below hbw); generalize p.length = pn at *; obtain ⟨x, hx⟩ : ∃ x, kcode vn p true = x := ⟨_, rfl⟩
      rw [hx] at hcm HFk; clear HJ c0' hO hx HF
      by_cases hx0 : x = 0
      · subst hx0
        have HJ2 := (show Hid _ from HStep.out HFk.out)
        clear HStep HHit HFk
        go_wp2_with (go_at_call 92; refine hcm.mono ?_; rintro e w3 ⟨rfl, hb3⟩)
        go_roundw
        case rel => exact ⟨k + 1, hlt, by go_num, HJ2, hbel.trans (hb3.mono hszb)⟩
        case measure => simp [intOf]; omega
      · have HR : Hid (firstOf f n = x) := HHit.out x HFk.out hx0
        clear HStep HHit HFk
        go_wp2_with (go_at_call 92; refine hcm.mono ?_; rintro e w3 ⟨rfl, hb3⟩)
        go_ret
        rw [HR.out]; exact ⟨rfl, hbw.trans (hb3.mono hbw.size)⟩
    · have hkn : k = n := by omega
      have HR : Hid (firstOf f n = 0) := firstOf_none (fun j hj => HJ.out j (by omega))
      go_wp2
      go_ret
      rw [HR.out]; exact ⟨rfl, hbw⟩
theorem mprops_any (va vr pv : Value) (m : Mo) (ps : List (List (Int × Int))) (w : World) (hB : 0 < w.heap.size) (hT : TabAt w) (hV : ModelV w va vr m) (hP : TermsV w pv ps) :
    Calls Tryz.prog 59 #[.agg #[va, vr], pv] w fun e w' => e = .returned (.int .i64 (pcode m ps)) /\ Below w.heap.size w w' := by
  unfold pcode
  by_cases h : mcode m = 0
  · rw [if_pos h]
    by_cases h6 : 6 < ps.length
    · rw [if_pos h6]
      have hA : ∀ o, Below w.heap.size w (w.alloc o) := fun o => (Below.refl _ _).alloc (Nat.le_refl _) o
      have hch := fun o => mcheck_any va vr m (w.alloc o) (Nat.lt_of_lt_of_le hB (hA o).size) (hT.below (hA o) hB) (hV.below (hA o))
      rw [h] at hch; obtain ⟨ao, cap, rfl⟩ := hV.1.shape; obtain ⟨ro, rc, rfl⟩ := hV.2.shape; obtain ⟨po, pc, rfl⟩ := hP.shape; generalize m.vars.length = vn at *; generalize m.rules.length = rn at *; generalize ps.length = n at *; clear hV hT hP h
      go_enter Tryz.func59, Tryz.ntmps59
      go_wp2_with (go_at_call 41; refine (hch _).mono ?_; rintro e w1 ⟨rfl, hb1⟩)
      go_ret
      exact ⟨rfl, (hA _).trans (hb1.mono (hA _).size)⟩
    · rw [if_neg h6]
      exact mprops_loop va vr pv m ps w hB hT hV hP h (by omega)
  · rw [if_neg h]
    have hA : ∀ o, Below w.heap.size w (w.alloc o) := fun o => (Below.refl _ _).alloc (Nat.le_refl _) o
    have hch := fun o => mcheck_any va vr m (w.alloc o) (Nat.lt_of_lt_of_le hB (hA o).size) (hT.below (hA o) hB) (hV.below (hA o))
    obtain ⟨ao, cap, rfl⟩ := hV.1.shape; obtain ⟨ro, rc, rfl⟩ := hV.2.shape; obtain ⟨po, pc, rfl⟩ := hP.shape; generalize mcode m = x at *; generalize m.vars.length = vn at *; generalize m.rules.length = rn at *; generalize ps.length = n at *; clear hV hT hP
    go_enter Tryz.func59, Tryz.ntmps59
    go_wp2_with (go_at_call 41; refine (hch _).mono ?_; rintro e w1 ⟨rfl, hb1⟩)
    go_ret
    exact ⟨rfl, (hA _).trans (hb1.mono (hA _).size)⟩
end Go.Proofs.YtobopjjmhginlabGreatDoor
