/-
  The contract of the keeping laws' own picked, exact.
-/
import Derived.Test.YtafbnmiipfkohaaGreatDoorGrown3
namespace Go.Proofs.YtafbnmiipfkohaaGreatDoor
open Go.ChangeShapes Go.WideShapes Go.ChangeAt Go.RowKit Go.Deep
open Terms

/-- what picked makes. -/
def pk (n m : Int) : Int := if n < 0 then -((n + 1).tmod m) else n % m
set_option maxRecDepth 20000 in
theorem pk_range {n m : Int} (hm : 0 < m) : 0 ≤ pk n m ∧ pk n m < m := by
  unfold pk
  split
  · exact neg_rem (by omega) hm
  · exact ⟨Int.emod_nonneg _ (by omega), Int.emod_lt_of_pos _ hm⟩
set_option maxRecDepth 20000 in
theorem picked_is (n many : Int) (w : World) (hn : I64 n) (hm : 0 < many) (hm2 : many ≤ 10000) :
    Calls Tryz.prog 8 #[.int .i64 n, .int .i64 many] w fun e w' => e = .returned (.int .i64 (pk n many)) ∧ w' = w := by
  obtain ⟨h1, h2⟩ := hn
  by_cases h0 : n < 0
  · have hne : ¬ many = 0 := by omega
    rw [show pk n many = -((n + 1).tmod many) by unfold pk; rw [if_pos h0]]
    go_enter Tryz.func8, Tryz.ntmps8
    go_wp2
    go_ret
    exact ⟨rfl, rfl⟩
  · have hne : ¬ many = 0 := by omega
    rw [show pk n many = n % many by unfold pk; rw [if_neg h0]]
    go_enter Tryz.func8, Tryz.ntmps8
    go_wp2
    go_ret
    exact ⟨rfl, rfl⟩

end Go.Proofs.YtafbnmiipfkohaaGreatDoor
