/-
  The contracts of the keeping laws' own picked (exact) and env.
-/
import Derived.Test.YtefbadgmcgdpiaaDoorGrownTrees
import Derived.Deep.RegionHeld3
import Derived.Laws.IdiomArrays
namespace Go.Proofs.YtefbadgmcgdpiaaDoor
open Go.ChangeShapes Go.WideShapes Go.ChangeAt Go.RowKit Go.Deep
open Terms

/-- what picked makes. -/
def pk (n m : Int) : Int := if n < 0 then -((n + 1).tmod m) else n % m
theorem pk_range {n m : Int} (hm : 0 < m) : 0 ≤ pk n m ∧ pk n m < m := by
  unfold pk
  split
  · exact neg_rem (by omega) hm
  · exact ⟨Int.emod_nonneg _ (by omega), Int.emod_lt_of_pos _ hm⟩
theorem picked_is (n many : Int) (w : World) (hn : I64 n) (hm : 0 < many) (hm2 : many ≤ 10000) :
    Calls Tryd.prog 7 #[.int .i64 n, .int .i64 many] w fun e w' => e = .returned (.int .i64 (pk n many)) ∧ w' = w := by
  obtain ⟨h1, h2⟩ := hn
  by_cases h0 : n < 0
  · have hne : ¬ many = 0 := by omega
    rw [show pk n many = -((n + 1).tmod many) by unfold pk; rw [if_pos h0]]
    go_enter Tryd.func7, Tryd.ntmps7
    go_wp2
    go_ret
    exact ⟨rfl, rfl⟩
  · have hne : ¬ many = 0 := by omega
    rw [show pk n many = n % many by unfold pk; rw [if_neg h0]]
    go_enter Tryd.func7, Tryd.ntmps7
    go_wp2
    go_ret
    exact ⟨rfl, rfl⟩

def envL (a b c : Int) : List Int := [pk a 9, pk b 9, pk c 9]
theorem envL_s (a b c : Int) : EnvS (envL a b c) := by
  refine ⟨rfl, fun i hi => ?_⟩
  have h0 := pk_range (n := a) (m := 9) (by omega)
  have h1 := pk_range (n := b) (m := 9) (by omega)
  have h2 := pk_range (n := c) (m := 9) (by omega)
  match i, hi with
  | 0, _ => simp [envL]; omega
  | 1, _ => simp [envL]; omega
  | 2, _ => simp [envL]; omega

/-- raw numbers stay what they are. -/
theorem Raws.later {w w' : World} {v : Value} {rs : List (Int × Int)} (h : Raws w w.heap.size v rs) (hb : Below w.heap.size w w') : Raws w' w'.heap.size v rs := by
  obtain ⟨⟨ao, cap, hv, h1⟩, h2, h3⟩ := h.below hb
  refine ⟨⟨ao, cap, hv, fun hne => ?_⟩, h2, h3⟩
  obtain ⟨b, off, hx, hlt, hat⟩ := h1 hne
  exact ⟨b, off, hx, Nat.lt_of_lt_of_le hlt hb.size, hat⟩
end Go.Proofs.YtefbadgmcgdpiaaDoor
