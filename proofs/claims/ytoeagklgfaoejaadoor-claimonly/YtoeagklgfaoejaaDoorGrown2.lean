/-
  Terms that are grown from raw numbers: the contracts of number, truth and Truth.
-/
import Derived.Test.YtoeagklgfaoejaaDoorGrown
namespace Go.Proofs.YtoeagklgfaoejaaDoor
open Go.ChangeShapes Go.WideShapes Go.ChangeAt Go.RowKit Go.Deep
open Terms

/-- What growing a truth leaves. -/
def GrewT (G : Nat) (rawv : Value) (at' : Nat) (vars props tempo : Int) (l : List (Int × Int)) (d : Nat) (w : World) (e : Ending) (w' : World) : Prop :=
  ∃ t, e = .returned (.tuple #[]) ∧ TruT vars d t ∧ (at' + t.length ≤ at' + 3 ∨ at' + t.length ≤ 17 + 3 * d) ∧ GrownAt w' G rawv (at' + t.length) vars props tempo (l ++ t) ∧ Below G w w'

theorem cmp_end {G : Nat} {rawv : Value} {at' : Nat} {vars props tempo K : Int} {l : List (Int × Int)} {d : Nat} {w w5 : World} {ta tb : List (Int × Int)} (hta : NumT vars 1 ta) (htb : NumT vars 1 tb) (h6 : 6 ≤ K) (h7 : K ≤ 7)
    (hn : at' + 1 + ta.length + tb.length ≤ at' + 3 ∨ at' + 1 + ta.length + tb.length ≤ 17) (hb : Below G w w5) (hg : GrownAt w5 G rawv (at' + 1 + ta.length + tb.length) vars props tempo (l ++ [(K, 0)] ++ ta ++ tb)) : GrewT G rawv at' vars props tempo l d w (.returned (.tuple #[])) w5 := by
  have e1 : at' + ((K, (0 : Int)) :: (ta ++ tb)).length = at' + 1 + ta.length + tb.length := by simp; omega
  have e2 : l ++ (K, (0 : Int)) :: (ta ++ tb) = l ++ [(K, 0)] ++ ta ++ tb := by simp
  refine ⟨(K, 0) :: (ta ++ tb), rfl, .cmp _ _ _ _ h6 h7 hta htb, ?_, ?_, hb⟩
  · rw [e1]; omega
  · rw [e1, e2]; exact hg

theorem not_end {G : Nat} {rawv : Value} {at' : Nat} {vars props tempo : Int} {l : List (Int × Int)} {d : Nat} {w w5 : World} {ta : List (Int × Int)} (hta : TruT vars d ta)
    (hn : at' + 1 + ta.length ≤ 17 + 3 * (d + 1)) (hb : Below G w w5) (hg : GrownAt w5 G rawv (at' + 1 + ta.length) vars props tempo (l ++ [(10, 0)] ++ ta)) : GrewT G rawv at' vars props tempo l (d + 1) w (.returned (.tuple #[])) w5 := by
  have e1 : at' + ((10, (0 : Int)) :: ta : List (Int × Int)).length = at' + 1 + ta.length := by simp; omega
  have e2 : l ++ (10, (0 : Int)) :: ta = l ++ [(10, 0)] ++ ta := by simp
  refine ⟨(10, 0) :: ta, rfl, .not _ _ hta, ?_, ?_, hb⟩
  · rw [e1]; omega
  · rw [e1, e2]; exact hg
theorem bin_end {G : Nat} {rawv : Value} {at' : Nat} {vars props tempo K : Int} {l : List (Int × Int)} {d : Nat} {w w5 : World} {ta tb : List (Int × Int)} (hta : TruT vars d ta) (htb : TruT vars d tb) (h6 : 8 ≤ K) (h7 : K ≤ 9)
    (hn : at' + 1 + ta.length + tb.length ≤ 17 + 3 * (d + 1)) (hb : Below G w w5) (hg : GrownAt w5 G rawv (at' + 1 + ta.length + tb.length) vars props tempo (l ++ [(K, 0)] ++ ta ++ tb)) : GrewT G rawv at' vars props tempo l (d + 1) w (.returned (.tuple #[])) w5 := by
  have e1 : at' + ((K, (0 : Int)) :: (ta ++ tb)).length = at' + 1 + ta.length + tb.length := by simp; omega
  have e2 : l ++ (K, (0 : Int)) :: (ta ++ tb) = l ++ [(K, 0)] ++ ta ++ tb := by simp
  refine ⟨(K, 0) :: (ta ++ tb), rfl, .bin _ _ _ _ h6 h7 hta htb, ?_, ?_, hb⟩
  · rw [e1]; omega
  · rw [e1, e2]; exact hg

/-- a new struct that has grown nothing yet. -/
theorem grown_new (w : World) (rawv : Value) (vars props tempo : Int) :
    GrownAt (w.alloc (.cells #[rawv, .int .i64 0, .int .i64 vars, .int .i64 props, .int .i64 tempo, .slice none 0 0] 46)) w.heap.size rawv 0 vars props tempo [] :=
  ⟨_, blk_alloc_new _ _, World.ownsRow_nil _ _ _ _⟩

end Go.Proofs.YtoeagklgfaoejaaDoor
