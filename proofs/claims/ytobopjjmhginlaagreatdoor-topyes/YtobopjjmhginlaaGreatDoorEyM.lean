import Derived.Test.YtobopjjmhginlaaGreatDoorBaM
import Derived.Test.YtobopjjmhginlaaGreatDoorPEx0
namespace Go.Proofs.YtobopjjmhginlaaGreatDoor
open Go.ChangeShapes Go.WideShapes Go.ChangeAt Go.RowKit Go.Deep
open Terms Tm
set_option maxHeartbeats 6400000
set_option maxRecDepth 20000
section
variable {m : Mo} {l : List (Int × Int)}
end
theorem xp_bound {m : Mo} {ps : List (List (Int × Int))} {l : List (Int × Int)} {k P : Nat} (hP : prodTo m.vars m.vars.length = (P : Nat)) (hs : ∀ p ∈ xpP m ps l k, spOk m l p) : (xpP m ps l k).length <= P * 2 ^ (aheadL l).length := by
  have hnd : (xpP m ps l k).Nodup := exS_nodup _ _ k
  have hcode : ∀ p ∈ xpP m ps l k, 0 <= p.1 * ((2 ^ (aheadL l).length : Nat) : Int) + p.2 /\ p.1 * ((2 ^ (aheadL l).length : Nat) : Int) + p.2 < ((P * 2 ^ (aheadL l).length : Nat) : Int) := fun p hp => by
    obtain ⟨⟨h1, h2⟩, d, h3, h4⟩ := hs p hp; generalize 2 ^ (aheadL l).length = N at *; have h5 : p.1 * (N : Int) <= ((P : Int) - 1) * N := Int.mul_le_mul_of_nonneg_right (by omega) (by omega)
    have h6 : 0 <= p.1 * (N : Int) := Int.mul_nonneg h1 (by omega)
    have h7 : ((P : Int) - 1) * (N : Int) = (P : Int) * N - N := by rw [Int.sub_mul]; omega
    have h8 : ((P * N : Nat) : Int) = (P : Int) * N := by push_cast; rfl
    omega
  have hnd2 : ((xpP m ps l k).map fun p => p.1 * ((2 ^ (aheadL l).length : Nat) : Int) + p.2).Nodup := by
    refine List.Pairwise.map _ (fun a b hab => hab) ?_
    refine List.Pairwise.imp_of_mem ?_ hnd
    intro a b ha hb hne e; obtain ⟨_, d, h3, h4⟩ := hs a ha; obtain ⟨_, d', h3', h4'⟩ := hs b hb; generalize 2 ^ (aheadL l).length = N at *; have hN : (0 : Int) < N := by omega
    have e1 : a.2 = b.2 := by
      rw [h4, h4']; have r1 : ((d : Int) + a.1 * N) % (N : Int) = (d : Int) := by rw [Int.add_mul_emod_self_right]; exact Int.emod_eq_of_lt (by omega) (by omega)
      have r2 : ((d' : Int) + b.1 * N) % (N : Int) = (d' : Int) := by rw [Int.add_mul_emod_self_right]; exact Int.emod_eq_of_lt (by omega) (by omega)
      have e' : (d : Int) + a.1 * N = (d' : Int) + b.1 * N := by rw [h4, h4'] at e; omega
      rw [<- r1, <- r2, e']
    have e2 : a.1 * (N : Int) = b.1 * N := by omega
    exact hne (Prod.ext (Int.eq_of_mul_eq_mul_right (by omega) e2) e1)
  have := nodup_length (N := P * 2 ^ (aheadL l).length) hnd2 (fun y hy => by
    obtain ⟨p, hp, rfl⟩ := List.mem_map.1 hy
    exact hcode p hp)
  rw [List.length_map] at this; exact this
theorem xp_few {m : Mo} {ps : List (List (Int × Int))} {l : List (Int × Int)} {P : Nat} (hk : tkcode m ps l = 0) (hP : prodTo m.vars m.vars.length = (P : Nat)) (hz : P * 2 ^ (aheadL l).length <= 20000) : ¬ ExFull m ps l := by
  rintro ⟨k, h1, h2⟩
  have hs : ∀ j, j <= k + 1 -> ∀ p ∈ xpP m ps l j, spOk m l p := fun j => by
    induction j with
    | zero => exact fun _ => xpP_zero hk
    | succ j ih => exact fun hj => xpP_next hk (h1 j (by omega)) (ih (by omega))
  have := xp_bound hP (hs (k + 1) (Nat.le_refl _)); omega
end Go.Proofs.YtobopjjmhginlaaGreatDoor
