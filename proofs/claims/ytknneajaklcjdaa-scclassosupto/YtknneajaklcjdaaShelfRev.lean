/-
  The library's slices.Reverse at lists of numbers: its contract at this program, in plain words.
-/
import Derived.Shelf.Slices.Reverse
import Derived.Lib.OwnBridge
import Derived.Lib.RowBridge
import Derived.Test.YtknneajaklcjdaaSFair
namespace Go.Proofs.Ytknneajaklcjdaa
open Go.Shelf Go.RowKit
def laysRev_ren : Go.Shelf.Ren := ⟨fun | 112 => 39 | n => n, fun | 28 => 24 | 3 => 3 | 4 => 4 | 0 => 0 | n => n, fun | n => n⟩
theorem laysRev : Go.Proofs.Lays.n112 Try.prog laysRev_ren := {
  mixed := by kernel_rfl
  f112 := Try.func39.trans (congrArg some (by kernel_rfl))
  t0 := Try.underlying0
  a0 := Try.isAgg0
  z0 := Try.sizeOf0
  v0 := Try.zeroValue0
  t3 := Try.underlying3
  a3 := Try.isAgg3
  z3 := Try.sizeOf3
  v3 := Try.zeroValue3
  t4 := Try.underlying4
  a4 := Try.isAgg4
  z4 := Try.sizeOf4
  v4 := Try.zeroValue4
  t28 := Try.underlying24
  a28 := Try.isAgg24
  z28 := Try.sizeOf24
  v28 := Try.zeroValue24 }
open Go.Lib Go.Sort in
theorem slices_Reverse_int (blk off cap : Nat) (zs : List Int) (w : World) (hH : Holds (Value.int .i64) w blk off zs.toArray) (hsz : zs.length ≤ 9223372036854775807) :
    Calls Try.prog 39 #[.slice (some ⟨blk, off, none⟩) zs.length cap] w fun e w' => e = .returned (.tuple #[]) ∧ ∃ n, w' = putRow (Value.int .i64) (Sort.ahead w n) blk off zs.reverse.toArray := Any.slices_Reverse_int laysRev blk off cap zs w hH hsz
open Go.Sort in
set_option maxRecDepth 20000 in
/-- slices.Reverse. -/
theorem reverse_own (g cap base : Nat) (l : List Nat) (w : World) (hz : l.length ≤ 100000) (ho : w.ownsRow base 3 1 (.slice (some ⟨g, 0, none⟩) l.length cap) l.length (nvals l)) :
    Calls Try.prog 39 #[.slice (some ⟨g, 0, none⟩) l.length cap] w fun e w' => e = .returned (.tuple #[]) ∧ w.grownBy w' (some g) ∧ w'.ownsRow base 3 1 (.slice (some ⟨g, 0, none⟩) l.length cap) l.length (nvals l.reverse) := by
  obtain ⟨zs, hzs⟩ : ∃ zs : List Int, zs = l.map (fun x : Nat => (x : Int)) := ⟨_, rfl⟩
  have hl : zs.length = l.length := by rw [hzs]; simp
  have e1 : nvals l = zs.map (Value.int .i64) := by rw [hzs, nvals, List.map_map]; rfl
  have e2 : nvals l.reverse = zs.reverse.map (Value.int .i64) := by rw [hzs, nvals, ← List.map_reverse, List.map_map]; rfl
  rw [e1] at ho
  rw [e2]
  rw [← hl] at ho hz ⊢
  obtain ⟨g', cap', hv, hbg, hlt, hn, hm, hl2, hH⟩ := Lib.holds_of_ownsRow ho (by simp)
  injection hv with h1 h2 h3
  injection h1 with h1
  injection h1 with h1
  subst h1 h3
  refine (slices_Reverse_int g 0 cap zs w hH (by omega)).mono fun e w' ⟨he, q, hw⟩ => ⟨he, ?_, ?_⟩
  · rw [hw]
    refine ⟨rfl, rfl, rfl, by simp [putRow, mapBlock, Sort.ahead], fun k _ hne => ?_⟩
    have : g ≠ k := fun e => hne (by rw [e])
    simp [putRow, mapBlock, Sort.ahead, Array.getElem?_modify, this]
  · rw [hw]
    have h := Lib.ownsRow_putRow (q := q) (k := zs.length) (ys := zs.reverse) ho (by simp) (Nat.le_refl _)
    rw [List.take_of_length_le (by simp)] at h
    exact h
set_option maxRecDepth 20000 in
theorem reverse_none (ao : Option Addr) (c : Nat) (w : World) :
    Calls Try.prog 39 #[.slice ao 0 c] w fun e w' => e = .returned (.tuple #[]) ∧ w' = w := by
  go_enter Try.func39, Try.ntmps39
  go_wp2_with fail
  go_loopw [2, 3] (fun i j wr => i = .int .i64 0 ∧ j = .int .i64 (-1) ∧ wr = w) (fun _ _ _ => 0)
  case atStart => exact ⟨rfl, rfl, rfl⟩
  case round =>
    obtain ⟨rfl, rfl, rfl⟩ := hrel
    go_wp2_with fail
    go_end0
    exact ⟨rfl, rfl⟩
end Go.Proofs.Ytknneajaklcjdaa
