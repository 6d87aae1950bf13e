import Derived.Test.YtobopjjmhginlaaGreatDoorStepNext
namespace Go.Proofs.YtobopjjmhginlaaGreatDoor
open Go.ChangeShapes Go.WideShapes Go.ChangeAt Go.RowKit Go.Deep
open Terms Tm
set_option maxHeartbeats 6400000
set_option maxRecDepth 20000
theorem next_own (va vr : Value) (m : Mo) (code : Int) (w : World) (hB : 0 < w.heap.size) (hT : TabAt w) (hV : ModelV w va vr m) (hm : mcode m = 0) :
    Calls Tryz.prog 83 #[.agg #[va, vr], .int .i64 code] w fun e w' => ∃ v, e = .returned (.tuple #[v, .int .i64 (wcode m code)]) /\ Below w.heap.size w w' /\ w'.ownsRow w.heap.size 3 1 v (nxtL m code).length (ivals (nxtL m code)) := by
  have hA : ∀ o, Below w.heap.size w (w.alloc o) := fun o => (Below.refl _ _).alloc (Nat.le_refl _) o
  have hch := fun o => mcheck_any va vr m (w.alloc o) (Nat.lt_of_lt_of_le hB (hA o).size) (hT.below (hA o) hB) (hV.below (hA o))
  have hne := fun w' (hb : Below w.heap.size w w') => nextOf_own va vr m code w' (Nat.lt_of_lt_of_le hB hb.size) (hT.below hb hB) (hV.below hb) hm
  rw [hm] at hch; obtain ⟨ao, cap, rfl⟩ := hV.1.shape; obtain ⟨ro, rc, rfl⟩ := hV.2.shape; generalize wcode m code = c at *; generalize nxtL m code = res at *; generalize m.vars.length = n at *; generalize m.rules.length = rn at *; clear hV hT hm
  go_enter Tryz.func83, Tryz.ntmps83
  go_wp2_with (first | (go_at_call 59; refine (hch _).mono ?_; rintro e w1 ⟨rfl, hb1⟩; have hbw1 := (hA _).trans (hb1.mono (hA _).size); have k10 : w1.cell? ⟨w.heap.size, 0, none⟩ = some (.slice ao n cap) := (hb1.cell (p := ⟨w.heap.size, 0, none⟩) (by simp)).trans (by simp [go_sem]); have k11 : w1.cell? ⟨w.heap.size, 1, none⟩ = some (.slice ro rn rc) := (hb1.cell (p := ⟨w.heap.size, 1, none⟩) (by simp)).trans (by simp [go_sem])) | (go_at_call 101; refine (hne _ hbw1).mono ?_; rintro e w2 ⟨v, rfl, hb2, hI2, ho2⟩))
  go_ret2
  exact ⟨_, rfl, hbw1.trans (hb2.mono hbw1.size), owns_mono ho2 hbw1.size⟩
end Go.Proofs.YtobopjjmhginlaaGreatDoor
