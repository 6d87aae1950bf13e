import Derived.Test.YtobopjjmhginlaaGreatDoorKeepStates
import Derived.Test.YtobopjjmhginlaaGreatDoorStepLetter
import Derived.Test.YtobopjjmhginlaaGreatDoorJoined2
namespace Go.Proofs.YtobopjjmhginlaaGreatDoor
open Go.ChangeShapes Go.WideShapes Go.ChangeAt Go.RowKit Go.Deep
open Terms Tm
set_option maxHeartbeats 6400000
set_option maxRecDepth 20000
def tp0 : Tm := .bi 7 0 (.leaf 2 0) (.leaf 1 1)
def tp1 : Tm := .bi 7 0 (.leaf 2 0) (.leaf 2 1)
def tp2 : Tm := .bi 6 0 (.leaf 2 0) (.leaf 2 1)
def propsL : List (List (Int × Int)) := [[(7, 0), (2, 0), (1, 1)], [(7, 0), (2, 0), (2, 1)], [(6, 0), (2, 0), (2, 1)]]
theorem tp0_good : tp0.Good 2 := ⟨by decide, by decide, rfl, .inr (.inl ⟨rfl, by decide, by decide⟩), .inl ⟨rfl, by decide, by decide⟩⟩
theorem tp1_good : tp1.Good 2 := ⟨by decide, by decide, rfl, .inr (.inl ⟨rfl, by decide, by decide⟩), .inr (.inl ⟨rfl, by decide, by decide⟩)⟩
theorem tp2_good : tp2.Good 2 := ⟨by decide, by decide, rfl, .inr (.inl ⟨rfl, by decide, by decide⟩), .inr (.inl ⟨rfl, by decide, by decide⟩)⟩
theorem prop_code {T : Tm} (hg : T.Good 2) (h60 : T.size <= 60) (ht : T.typed = true) (hk : mkT T.kind = true) : kcode 2 T.ops true = 0 := by
  rw [kcode_tree (by decide) (by decide) hg h60 ht, if_pos hk]
theorem props_code {m : Mo} (hm : mcode m = 0) (hv : m.vars.length = 2) : pcode m propsL = 0 := by
  unfold pcode; rw [if_pos hm, if_neg (by decide)]
  refine firstOf_none fun j hj => ?_
  rw [hv]; have : j = 0 \/ j = 1 \/ j = 2 := by simp [propsL] at hj; omega
  rcases this with rfl | rfl | rfl
  · exact prop_code tp0_good (by decide) (by decide) (by decide)
  · exact prop_code tp1_good (by decide) (by decide) (by decide)
  · exact prop_code tp2_good (by decide) (by decide) (by decide)
section
variable {a b : Vr} {w : World} {va vr pv : Value}
end
theorem ops_one (w : World) (k v : Int) : OpsV (w.alloc (.cells #[.int .i64 k, .int .i64 v] 29)) (.slice (some ⟨w.heap.size, 0, none⟩) 1 1) [(k, v)] := by
  refine ⟨_, 1, rfl, ⟨Nat.le_refl _, fun h => by cases h⟩, fun _ => ⟨w.heap.size, 0, rfl, by simp, fun i hi => ?_⟩⟩
  obtain rfl : i = 0 := by simpa using hi
  constructor <;> simp [go_sem]
theorem OpsV.al {w : World} {v : Value} {l : List (Int × Int)} (h : OpsV w v l) (o : Obj) : OpsV (w.alloc o) v l := h.below ((Below.refl _ _).alloc (Nat.le_refl _) o)
theorem propsFn_any (w : World) :
    Calls Tryz.prog 38 #[] w fun e w' => ∃ pb, e = .returned (.slice (some ⟨pb, 0, none⟩) 3 3) /\ Below w.heap.size w w' /\ TermsV w' (.slice (some ⟨pb, 0, none⟩) 3 3) propsL := by
  have tk1 := True.intro; have tk2 := True.intro; have tk3 := True.intro; have hA : ∀ o1 o2 o3 o4, Below w.heap.size w ((((w.alloc o1).alloc o2).alloc o3).alloc o4) := fun o1 o2 o3 o4 => ((((Below.refl _ _).alloc (Nat.le_refl _) _).alloc (by simp) _).alloc (by simp; omega) _).alloc (by simp; omega) _
  have hX : ∀ o2 o3 o4, OpsV ((((w.alloc (.cells #[.int .i64 2, .int .i64 0] 29)).alloc o2).alloc o3).alloc o4) (.slice (some ⟨w.heap.size, 0, none⟩) 1 1) [(2, 0)] := fun o2 o3 o4 => (((ops_one w 2 0).al o2).al o3).al o4
  have hY : ∀ o1 o3 o4, OpsV ((((w.alloc o1).alloc (.cells #[.int .i64 2, .int .i64 1] 29)).alloc o3).alloc o4) (.slice (some ⟨w.heap.size + 1, 0, none⟩) 1 1) [(2, 1)] := fun o1 o3 o4 => by
    have := ((ops_one (w.alloc o1) 2 1).al o3).al o4; rw [World.size_alloc] at this; exact this
  have hN : ∀ o1 o2 o4, OpsV ((((w.alloc o1).alloc o2).alloc (.cells #[.int .i64 1, .int .i64 1] 29)).alloc o4) (.slice (some ⟨w.heap.size + 1 + 1, 0, none⟩) 1 1) [(1, 1)] := fun o1 o2 o4 => by
    have := (ops_one ((w.alloc o1).alloc o2) 1 1).al o4; rw [World.size_alloc, World.size_alloc] at this; exact this
  go_enter Tryz.func38, Tryz.ntmps38
  go_wp2_with (first | (clear tk1; go_at_call 15; refine (joined2 7 _ (.slice (some ⟨w.heap.size, 0, none⟩) 1 1) (.slice (some ⟨w.heap.size + 1 + 1, 0, none⟩) 1 1) [(2, 0)] [(1, 1)] _ (by simp [go_sem]) (by simp [go_sem]) (by simp) (by simp) (by simp) (by simp) (hX _ _ _) (hN _ _ _)).mono ?_; rintro e w5 ⟨a1, c1, rfl, hb5, hp1⟩; have hx5 := (hX _ _ _).below hb5; have hy5 := (hY _ _ _).below hb5; have hbw5 := (hA _ _ _ _).trans (hb5.mono (hA _ _ _ _).size)) | (clear tk2; go_at_call 15; refine (joined2 7 _ (.slice (some ⟨w.heap.size, 0, none⟩) 1 1) (.slice (some ⟨w.heap.size + 1, 0, none⟩) 1 1) [(2, 0)] [(2, 1)] _ (by simp [go_sem]) (by simp [go_sem]) (by simp) (by simp) (by simp) (by simp) (hx5.al _) (hy5.al _)).mono ?_; rintro e w6 ⟨a2, c2, rfl, hb6, hp2⟩; have hx6 := (hx5.al _).below hb6; have hy6 := (hy5.al _).below hb6; have hq6 := (hp1.al _).below hb6) | (clear tk3; go_at_call 15; refine (joined2 6 _ (.slice (some ⟨w.heap.size, 0, none⟩) 1 1) (.slice (some ⟨w.heap.size + 1, 0, none⟩) 1 1) [(2, 0)] [(2, 1)] _ (by simp [go_sem]) (by simp [go_sem]) (by simp) (by simp) (by simp) (by simp) (hx6.al _) (hy6.al _)).mono ?_; rintro e w7 ⟨a3, c3, rfl, hb7, hp3⟩; have hq7 := (hq6.al _).below hb7; have hr7 := (hp2.al _).below hb7))
  go_ret
  have h6 : Below w.heap.size w w6 := (hbw5.alloc hbw5.size _).trans (hb6.mono (hbw5.alloc hbw5.size _).size); have h7 : Below w.heap.size w w7 := (h6.alloc h6.size _).trans (hb7.mono (h6.alloc h6.size _).size); refine ⟨w7.heap.size, rfl, h7.alloc h7.size _, _, 3, rfl, fun _ => ⟨w7.heap.size, 0, rfl, by simp, fun i hi => ?_⟩⟩
  have : i = 0 \/ i = 1 \/ i = 2 := by simp [propsL] at hi; omega
  rcases this with rfl | rfl | rfl
  · exact ⟨_, by simp [go_sem], hq7.al _⟩
  · exact ⟨_, by simp [go_sem], hr7.al _⟩
  · exact ⟨_, by simp [go_sem], hp3.al _⟩
end Go.Proofs.YtobopjjmhginlaaGreatDoor
