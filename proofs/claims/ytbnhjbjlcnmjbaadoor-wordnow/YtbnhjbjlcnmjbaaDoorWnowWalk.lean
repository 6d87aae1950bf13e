/-
  The walk of the law WordNow.
-/
import Derived.Test.YtbnhjbjlcnmjbaaDoorKeepHolds2
import Derived.Test.YtbnhjbjlcnmjbaaDoorWordsNow
import Derived.Deep.RegionHeld3
import Derived.Test.YtbnhjbjlcnmjbaaDoorBoolOps
import Derived.Deep.Cut
import Derived.Deep.CutBlock
import Derived.Deep.CutRange
import Derived.Deep.DeepCutAuto
namespace Go.Proofs.YtbnhjbjlcnmjbaaDoor
open Go.ChangeShapes Go.WideShapes Go.ChangeAt Go.RowKit Go.Deep
open Terms
set_option linter.unusedVariables false in
/-- what the operations of a test leave. -/
def now1P (r0 r1 r2 r3 r4 r5 r6 nm q kk : Nat) (b0 b1 k0 k2 k3 k4 k5 : Bool) : Nat → Value → World → Prop
  | 0, v, _ => v = .slice (some ⟨r2, 0, none⟩) nm nm
  | 1, v, _ => v = .int .i64 (q : Int)
  | 2, v, _ => v = .pointer (some ⟨r2, q, none⟩)
  | 3, v, _ => v = .bool (b1 || (b0 && k2))
  | 4, v, _ => v = .slice (some ⟨r1, 0, none⟩) nm nm
  | 5, v, _ => v = .int .i64 (q : Int)
  | 6, v, _ => v = .pointer (some ⟨r1, q, none⟩)
  | 7, v, _ => v = .bool b1
  | 8, v, _ => v = .bool b1
  | 9, v, _ => v = cond (true && (b1 == false)) (.slice (some ⟨r0, 0, none⟩) nm nm) undef
  | 10, v, _ => v = cond (true && (b1 == false)) (.int .i64 (q : Int)) undef
  | 11, v, _ => v = cond (true && (b1 == false)) (.pointer (some ⟨r0, q, none⟩)) undef
  | 12, v, _ => v = cond (true && (b1 == false)) (.bool b0) undef
  | 13, v, _ => v = cond (true && (b1 == false)) (.bool b0) undef
  | 14, v, _ => v = cond ((true && (b1 == false)) && (b0 == true)) (.slice (some ⟨r2, 0, none⟩) nm nm) undef
  | 15, v, _ => v = cond ((true && (b1 == false)) && (b0 == true)) (.int .i64 (kk : Int)) undef
  | 16, v, _ => v = cond ((true && (b1 == false)) && (b0 == true)) (.pointer (some ⟨r2, kk, none⟩)) undef
  | 17, v, _ => v = cond ((true && (b1 == false)) && (b0 == true)) (.bool k2) undef
  | 18, v, _ => v = cond (true && (b1 == false)) (.bool (b0 && k2)) undef
  | 19, v, _ => v = .bool (b1 || (b0 && k2))
  | 20, v, _ => v = .bool false
  | 21, v, _ => v = .bool false
  | 22, v, _ => v = cond (true && (false == false)) (.slice (some ⟨r3, 0, none⟩) nm nm) undef
  | 23, v, _ => v = cond (true && (false == false)) (.int .i64 (q : Int)) undef
  | 24, v, _ => v = cond (true && (false == false)) (.pointer (some ⟨r3, q, none⟩)) undef
  | 25, v, _ => v = cond (true && (false == false)) (.bool (b1 && (b0 || k3))) undef
  | 26, v, _ => v = cond (true && (false == false)) (.slice (some ⟨r1, 0, none⟩) nm nm) undef
  | 27, v, _ => v = cond (true && (false == false)) (.int .i64 (q : Int)) undef
  | 28, v, _ => v = cond (true && (false == false)) (.pointer (some ⟨r1, q, none⟩)) undef
  | 29, v, _ => v = cond (true && (false == false)) (.bool b1) undef
  | 30, v, _ => v = cond (true && (false == false)) (.bool b1) undef
  | 31, v, _ => v = cond ((true && (false == false)) && (b1 == true)) (.slice (some ⟨r0, 0, none⟩) nm nm) undef
  | 32, v, _ => v = cond ((true && (false == false)) && (b1 == true)) (.int .i64 (q : Int)) undef
  | 33, v, _ => v = cond ((true && (false == false)) && (b1 == true)) (.pointer (some ⟨r0, q, none⟩)) undef
  | 34, v, _ => v = cond ((true && (false == false)) && (b1 == true)) (.bool b0) undef
  | 35, v, _ => v = cond ((true && (false == false)) && (b1 == true)) (.bool b0) undef
  | 36, v, _ => v = cond (((true && (false == false)) && (b1 == true)) && (b0 == false)) (.slice (some ⟨r3, 0, none⟩) nm nm) undef
  | 37, v, _ => v = cond (((true && (false == false)) && (b1 == true)) && (b0 == false)) (.int .i64 (kk : Int)) undef
  | 38, v, _ => v = cond (((true && (false == false)) && (b1 == true)) && (b0 == false)) (.pointer (some ⟨r3, kk, none⟩)) undef
  | 39, v, _ => v = cond (((true && (false == false)) && (b1 == true)) && (b0 == false)) (.bool k3) undef
  | 40, v, _ => v = cond ((true && (false == false)) && (b1 == true)) (.bool (b0 || k3)) undef
  | 41, v, _ => v = cond (true && (false == false)) (.bool (b1 && (b0 || k3))) undef
  | 42, v, _ => v = cond (true && (false == false)) (.bool false) undef
  | 43, v, _ => v = .bool false
  | 44, v, _ => v = .bool false
  | 45, v, _ => v = cond (true && (false == false)) (.slice (some ⟨r4, 0, none⟩) nm nm) undef
  | 46, v, _ => v = cond (true && (false == false)) (.int .i64 (q : Int)) undef
  | 47, v, _ => v = cond (true && (false == false)) (.pointer (some ⟨r4, q, none⟩)) undef
  | 48, v, _ => v = cond (true && (false == false)) (.bool (b0 || k4)) undef
  | 49, v, _ => v = cond (true && (false == false)) (.slice (some ⟨r0, 0, none⟩) nm nm) undef
  | 50, v, _ => v = cond (true && (false == false)) (.int .i64 (q : Int)) undef
  | 51, v, _ => v = cond (true && (false == false)) (.pointer (some ⟨r0, q, none⟩)) undef
  | 52, v, _ => v = cond (true && (false == false)) (.bool b0) undef
  | 53, v, _ => v = cond (true && (false == false)) (.bool b0) undef
  | 54, v, _ => v = cond ((true && (false == false)) && (b0 == false)) (.slice (some ⟨r4, 0, none⟩) nm nm) undef
  | 55, v, _ => v = cond ((true && (false == false)) && (b0 == false)) (.int .i64 (kk : Int)) undef
  | 56, v, _ => v = cond ((true && (false == false)) && (b0 == false)) (.pointer (some ⟨r4, kk, none⟩)) undef
  | 57, v, _ => v = cond ((true && (false == false)) && (b0 == false)) (.bool k4) undef
  | 58, v, _ => v = cond (true && (false == false)) (.bool (b0 || k4)) undef
  | 59, v, _ => v = cond (true && (false == false)) (.bool false) undef
  | 60, v, _ => v = .bool false
  | 61, v, _ => v = .bool false
  | 62, v, _ => v = cond (true && (false == false)) (.slice (some ⟨r5, 0, none⟩) nm nm) undef
  | 63, v, _ => v = cond (true && (false == false)) (.int .i64 (q : Int)) undef
  | 64, v, _ => v = cond (true && (false == false)) (.pointer (some ⟨r5, q, none⟩)) undef
  | 65, v, _ => v = cond (true && (false == false)) (.bool (b0 && k5)) undef
  | 66, v, _ => v = cond (true && (false == false)) (.slice (some ⟨r0, 0, none⟩) nm nm) undef
  | 67, v, _ => v = cond (true && (false == false)) (.int .i64 (q : Int)) undef
  | 68, v, _ => v = cond (true && (false == false)) (.pointer (some ⟨r0, q, none⟩)) undef
  | 69, v, _ => v = cond (true && (false == false)) (.bool b0) undef
  | 70, v, _ => v = cond (true && (false == false)) (.bool b0) undef
  | 71, v, _ => v = cond ((true && (false == false)) && (b0 == true)) (.slice (some ⟨r5, 0, none⟩) nm nm) undef
  | 72, v, _ => v = cond ((true && (false == false)) && (b0 == true)) (.int .i64 (kk : Int)) undef
  | 73, v, _ => v = cond ((true && (false == false)) && (b0 == true)) (.pointer (some ⟨r5, kk, none⟩)) undef
  | 74, v, _ => v = cond ((true && (false == false)) && (b0 == true)) (.bool k5) undef
  | 75, v, _ => v = cond (true && (false == false)) (.bool (b0 && k5)) undef
  | 76, v, _ => v = cond (true && (false == false)) (.bool false) undef
  | 77, v, _ => v = .bool false
  | 78, v, _ => v = .bool false
  | 79, v, _ => v = cond (true && (false == false)) (.slice (some ⟨r6, 0, none⟩) nm nm) undef
  | 80, v, _ => v = cond (true && (false == false)) (.int .i64 (q : Int)) undef
  | 81, v, _ => v = cond (true && (false == false)) (.pointer (some ⟨r6, q, none⟩)) undef
  | 82, v, _ => v = cond (true && (false == false)) (.bool k0) undef
  | 83, v, _ => v = cond (true && (false == false)) (.slice (some ⟨r0, 0, none⟩) nm nm) undef
  | 84, v, _ => v = cond (true && (false == false)) (.int .i64 (kk : Int)) undef
  | 85, v, _ => v = cond (true && (false == false)) (.pointer (some ⟨r0, kk, none⟩)) undef
  | 86, v, _ => v = cond (true && (false == false)) (.bool k0) undef
  | 87, v, _ => v = cond (true && (false == false)) (.bool false) undef
  | _, _, _ => True
theorem now1_lt : ∀ i, i < 88 → i = 0 ∨ i = 1 ∨ i = 2 ∨ i = 3 ∨ i = 4 ∨ i = 5 ∨ i = 6 ∨ i = 7 ∨ i = 8 ∨ i = 9 ∨ i = 10 ∨ i = 11 ∨ i = 12 ∨ i = 13 ∨ i = 14 ∨ i = 15 ∨ i = 16 ∨ i = 17 ∨ i = 18 ∨ i = 19 ∨ i = 20 ∨ i = 21 ∨ i = 22 ∨ i = 23 ∨ i = 24 ∨ i = 25 ∨ i = 26 ∨ i = 27 ∨ i = 28 ∨ i = 29 ∨ i = 30 ∨ i = 31 ∨ i = 32 ∨ i = 33 ∨ i = 34 ∨ i = 35 ∨ i = 36 ∨ i = 37 ∨ i = 38 ∨ i = 39 ∨ i = 40 ∨ i = 41 ∨ i = 42 ∨ i = 43 ∨ i = 44 ∨ i = 45 ∨ i = 46 ∨ i = 47 ∨ i = 48 ∨ i = 49 ∨ i = 50 ∨ i = 51 ∨ i = 52 ∨ i = 53 ∨ i = 54 ∨ i = 55 ∨ i = 56 ∨ i = 57 ∨ i = 58 ∨ i = 59 ∨ i = 60 ∨ i = 61 ∨ i = 62 ∨ i = 63 ∨ i = 64 ∨ i = 65 ∨ i = 66 ∨ i = 67 ∨ i = 68 ∨ i = 69 ∨ i = 70 ∨ i = 71 ∨ i = 72 ∨ i = 73 ∨ i = 74 ∨ i = 75 ∨ i = 76 ∨ i = 77 ∨ i = 78 ∨ i = 79 ∨ i = 80 ∨ i = 81 ∨ i = 82 ∨ i = 83 ∨ i = 84 ∨ i = 85 ∨ i = 86 ∨ i = 87 := by intro i hi; omega
set_option maxHeartbeats 3200000 in
set_option maxRecDepth 20000 in
theorem now1P_stable (r0 r1 r2 r3 r4 r5 r6 nm q kk : Nat) (b0 b1 k0 k2 k3 k4 k5 : Bool) (i : Nat) (v : Value) (w w' : World) (hlt : i < 88) (h : now1P r0 r1 r2 r3 r4 r5 r6 nm q kk b0 b1 k0 k2 k3 k4 k5 i v w) (_ : Below w.heap.size w w') : now1P r0 r1 r2 r3 r4 r5 r6 nm q kk b0 b1 k0 k2 k3 k4 k5 i v w' := by
  rcases now1_lt i hlt with rfl | rfl | rfl | rfl | rfl | rfl | rfl | rfl | rfl | rfl | rfl | rfl | rfl | rfl | rfl | rfl | rfl | rfl | rfl | rfl | rfl | rfl | rfl | rfl | rfl | rfl | rfl | rfl | rfl | rfl | rfl | rfl | rfl | rfl | rfl | rfl | rfl | rfl | rfl | rfl | rfl | rfl | rfl | rfl | rfl | rfl | rfl | rfl | rfl | rfl | rfl | rfl | rfl | rfl | rfl | rfl | rfl | rfl | rfl | rfl | rfl | rfl | rfl | rfl | rfl | rfl | rfl | rfl | rfl | rfl | rfl | rfl | rfl | rfl | rfl | rfl | rfl | rfl | rfl | rfl | rfl | rfl | rfl | rfl | rfl | rfl | rfl | rfl
  all_goals exact h
set_option linter.unusedVariables false in
/-- what the operations of a test leave. -/
def now2P (r0 r1 r2 r3 r4 r5 r6 nm q kk : Nat) (b0 b1 k0 k2 k3 k4 k5 : Bool) : Nat → Value → World → Prop
  | 0, v, _ => v = .slice (some ⟨r2, 0, none⟩) nm nm
  | 1, v, _ => v = .int .i64 (q : Int)
  | 2, v, _ => v = .pointer (some ⟨r2, q, none⟩)
  | 3, v, _ => v = .bool (b1 || (b0 && k2))
  | 4, v, _ => v = .bool (b1 || (b0 && k2))
  | 5, v, _ => v = cond (true && ((b1 || (b0 && k2)) == true)) (.slice (some ⟨r4, 0, none⟩) nm nm) undef
  | 6, v, _ => v = cond (true && ((b1 || (b0 && k2)) == true)) (.int .i64 (q : Int)) undef
  | 7, v, _ => v = cond (true && ((b1 || (b0 && k2)) == true)) (.pointer (some ⟨r4, q, none⟩)) undef
  | 8, v, _ => v = cond (true && ((b1 || (b0 && k2)) == true)) (.bool (b0 || k4)) undef
  | 9, v, _ => v = cond (true && ((b1 || (b0 && k2)) == true)) (.bool (!(b0 || k4))) undef
  | 10, v, _ => v = .bool ((b1 || (b0 && k2)) && (!(b0 || k4)))
  | 11, v, _ => v = .bool ((b1 || (b0 && k2)) && (!(b0 || k4)))
  | 12, v, _ => v = cond (true && (((b1 || (b0 && k2)) && (!(b0 || k4))) == true)) (.slice (some ⟨r1, 0, none⟩) nm nm) undef
  | 13, v, _ => v = cond (true && (((b1 || (b0 && k2)) && (!(b0 || k4))) == true)) (.int .i64 (q : Int)) undef
  | 14, v, _ => v = cond (true && (((b1 || (b0 && k2)) && (!(b0 || k4))) == true)) (.pointer (some ⟨r1, q, none⟩)) undef
  | 15, v, _ => v = cond (true && (((b1 || (b0 && k2)) && (!(b0 || k4))) == true)) (.bool b1) undef
  | 16, v, _ => v = cond (true && (((b1 || (b0 && k2)) && (!(b0 || k4))) == true)) (.bool (!b1)) undef
  | 17, v, _ => v = .bool (((b1 || (b0 && k2)) && (!(b0 || k4))) && (!b1))
  | 18, v, _ => v = .bool (((b1 || (b0 && k2)) && (!(b0 || k4))) && (!b1))
  | 19, v, _ => v = cond (true && ((((b1 || (b0 && k2)) && (!(b0 || k4))) && (!b1)) == true)) (.slice (some ⟨r2, 0, none⟩) nm nm) undef
  | 20, v, _ => v = cond (true && ((((b1 || (b0 && k2)) && (!(b0 || k4))) && (!b1)) == true)) (.int .i64 (kk : Int)) undef
  | 21, v, _ => v = cond (true && ((((b1 || (b0 && k2)) && (!(b0 || k4))) && (!b1)) == true)) (.pointer (some ⟨r2, kk, none⟩)) undef
  | 22, v, _ => v = cond (true && ((((b1 || (b0 && k2)) && (!(b0 || k4))) && (!b1)) == true)) (.bool k2) undef
  | 23, v, _ => v = cond (true && ((((b1 || (b0 && k2)) && (!(b0 || k4))) && (!b1)) == true)) (.bool (!k2)) undef
  | 24, v, _ => v = .bool ((((b1 || (b0 && k2)) && (!(b0 || k4))) && (!b1)) && (!k2))
  | 25, v, _ => v = .bool ((((b1 || (b0 && k2)) && (!(b0 || k4))) && (!b1)) && (!k2))
  | 26, v, _ => v = cond (true && (((((b1 || (b0 && k2)) && (!(b0 || k4))) && (!b1)) && (!k2)) == false)) (.slice (some ⟨r5, 0, none⟩) nm nm) undef
  | 27, v, _ => v = cond (true && (((((b1 || (b0 && k2)) && (!(b0 || k4))) && (!b1)) && (!k2)) == false)) (.int .i64 (q : Int)) undef
  | 28, v, _ => v = cond (true && (((((b1 || (b0 && k2)) && (!(b0 || k4))) && (!b1)) && (!k2)) == false)) (.pointer (some ⟨r5, q, none⟩)) undef
  | 29, v, _ => v = cond (true && (((((b1 || (b0 && k2)) && (!(b0 || k4))) && (!b1)) && (!k2)) == false)) (.bool (b0 && k5)) undef
  | 30, v, _ => v = cond (true && (((((b1 || (b0 && k2)) && (!(b0 || k4))) && (!b1)) && (!k2)) == false)) (.bool (b0 && k5)) undef
  | 31, v, _ => v = cond ((true && (((((b1 || (b0 && k2)) && (!(b0 || k4))) && (!b1)) && (!k2)) == false)) && ((b0 && k5) == true)) (.slice (some ⟨r0, 0, none⟩) nm nm) undef
  | 32, v, _ => v = cond ((true && (((((b1 || (b0 && k2)) && (!(b0 || k4))) && (!b1)) && (!k2)) == false)) && ((b0 && k5) == true)) (.int .i64 (q : Int)) undef
  | 33, v, _ => v = cond ((true && (((((b1 || (b0 && k2)) && (!(b0 || k4))) && (!b1)) && (!k2)) == false)) && ((b0 && k5) == true)) (.pointer (some ⟨r0, q, none⟩)) undef
  | 34, v, _ => v = cond ((true && (((((b1 || (b0 && k2)) && (!(b0 || k4))) && (!b1)) && (!k2)) == false)) && ((b0 && k5) == true)) (.bool b0) undef
  | 35, v, _ => v = cond ((true && (((((b1 || (b0 && k2)) && (!(b0 || k4))) && (!b1)) && (!k2)) == false)) && ((b0 && k5) == true)) (.bool (!b0)) undef
  | 36, v, _ => v = cond (true && (((((b1 || (b0 && k2)) && (!(b0 || k4))) && (!b1)) && (!k2)) == false)) (.bool ((b0 && k5) && (!b0))) undef
  | _, _, _ => True
theorem now2_lt : ∀ i, i < 37 → i = 0 ∨ i = 1 ∨ i = 2 ∨ i = 3 ∨ i = 4 ∨ i = 5 ∨ i = 6 ∨ i = 7 ∨ i = 8 ∨ i = 9 ∨ i = 10 ∨ i = 11 ∨ i = 12 ∨ i = 13 ∨ i = 14 ∨ i = 15 ∨ i = 16 ∨ i = 17 ∨ i = 18 ∨ i = 19 ∨ i = 20 ∨ i = 21 ∨ i = 22 ∨ i = 23 ∨ i = 24 ∨ i = 25 ∨ i = 26 ∨ i = 27 ∨ i = 28 ∨ i = 29 ∨ i = 30 ∨ i = 31 ∨ i = 32 ∨ i = 33 ∨ i = 34 ∨ i = 35 ∨ i = 36 := by intro i hi; omega
set_option maxHeartbeats 3200000 in
set_option maxRecDepth 20000 in
theorem now2P_stable (r0 r1 r2 r3 r4 r5 r6 nm q kk : Nat) (b0 b1 k0 k2 k3 k4 k5 : Bool) (i : Nat) (v : Value) (w w' : World) (hlt : i < 37) (h : now2P r0 r1 r2 r3 r4 r5 r6 nm q kk b0 b1 k0 k2 k3 k4 k5 i v w) (_ : Below w.heap.size w w') : now2P r0 r1 r2 r3 r4 r5 r6 nm q kk b0 b1 k0 k2 k3 k4 k5 i v w' := by
  rcases now2_lt i hlt with rfl | rfl | rfl | rfl | rfl | rfl | rfl | rfl | rfl | rfl | rfl | rfl | rfl | rfl | rfl | rfl | rfl | rfl | rfl | rfl | rfl | rfl | rfl | rfl | rfl | rfl | rfl | rfl | rfl | rfl | rfl | rfl | rfl | rfl | rfl | rfl | rfl
  all_goals exact h
theorem now1_pk18 (b0 b1 k2 : Bool) (hg : (true && (b1 == false)) = true) : (cond b0 (cond ((true && (b1 == false)) && (b0 == true)) (.bool k2) undef) (.bool false) : Value) = .bool (b0 && k2) := by
  revert hg; cases b0 <;> cases b1 <;> cases k2 <;> simp
theorem now1_pk19 (b0 b1 k2 : Bool) : (cond b1 (.bool true) (cond (true && (b1 == false)) (.bool (b0 && k2)) undef) : Value) = .bool (b1 || (b0 && k2)) := by
  cases b0 <;> cases b1 <;> cases k2 <;> simp
theorem now1_ne20 (b0 b1 k2 : Bool) : ((b1 || (b0 && k2)) != (b1 || (b0 && k2))) = false := by
  cases b0 <;> cases b1 <;> cases k2 <;> rfl
theorem now1_pk40 (b0 b1 k3 : Bool) (hg : ((true && (false == false)) && (b1 == true)) = true) : (cond b0 (.bool true) (cond (((true && (false == false)) && (b1 == true)) && (b0 == false)) (.bool k3) undef) : Value) = .bool (b0 || k3) := by
  revert hg; cases b0 <;> cases b1 <;> cases k3 <;> simp
theorem now1_pk41 (b0 b1 k3 : Bool) (hg : (true && (false == false)) = true) : (cond b1 (cond ((true && (false == false)) && (b1 == true)) (.bool (b0 || k3)) undef) (.bool false) : Value) = .bool (b1 && (b0 || k3)) := by
  revert hg; cases b0 <;> cases b1 <;> cases k3 <;> simp
theorem now1_ne42 (b0 b1 k3 : Bool) : ((b1 && (b0 || k3)) != (b1 && (b0 || k3))) = false := by
  cases b0 <;> cases b1 <;> cases k3 <;> rfl
theorem now1_pk43 : (cond false (.bool true) (cond (true && (false == false)) (.bool false) undef) : Value) = .bool false := by
  simp
theorem now1_pk58 (b0 k4 : Bool) (hg : (true && (false == false)) = true) : (cond b0 (.bool true) (cond ((true && (false == false)) && (b0 == false)) (.bool k4) undef) : Value) = .bool (b0 || k4) := by
  revert hg; cases b0 <;> cases k4 <;> simp
theorem now1_ne59 (b0 k4 : Bool) : ((b0 || k4) != (b0 || k4)) = false := by
  cases b0 <;> cases k4 <;> rfl
theorem now1_pk60 : (cond false (.bool true) (cond (true && (false == false)) (.bool false) undef) : Value) = .bool false := by
  simp
theorem now1_pk75 (b0 k5 : Bool) (hg : (true && (false == false)) = true) : (cond b0 (cond ((true && (false == false)) && (b0 == true)) (.bool k5) undef) (.bool false) : Value) = .bool (b0 && k5) := by
  revert hg; cases b0 <;> cases k5 <;> simp
theorem now1_ne76 (b0 k5 : Bool) : ((b0 && k5) != (b0 && k5)) = false := by
  cases b0 <;> cases k5 <;> rfl
theorem now1_pk77 : (cond false (.bool true) (cond (true && (false == false)) (.bool false) undef) : Value) = .bool false := by
  simp
theorem now1_ne87 (k0 : Bool) : (k0 != k0) = false := by
  cases k0 <;> rfl
theorem now1_pk88 : (cond false (.bool true) (cond (true && (false == false)) (.bool false) undef) : Value) = .bool false := by
  simp
theorem now2_pk10 (b0 b1 k2 k4 : Bool) : (cond (b1 || (b0 && k2)) (cond (true && ((b1 || (b0 && k2)) == true)) (.bool (!(b0 || k4))) undef) (.bool false) : Value) = .bool ((b1 || (b0 && k2)) && (!(b0 || k4))) := by
  cases b0 <;> cases b1 <;> cases k2 <;> cases k4 <;> simp
theorem now2_pk17 (b0 b1 k2 k4 : Bool) : (cond ((b1 || (b0 && k2)) && (!(b0 || k4))) (cond (true && (((b1 || (b0 && k2)) && (!(b0 || k4))) == true)) (.bool (!b1)) undef) (.bool false) : Value) = .bool (((b1 || (b0 && k2)) && (!(b0 || k4))) && (!b1)) := by
  cases b0 <;> cases b1 <;> cases k2 <;> cases k4 <;> simp
theorem now2_pk24 (b0 b1 k2 k4 : Bool) : (cond (((b1 || (b0 && k2)) && (!(b0 || k4))) && (!b1)) (cond (true && ((((b1 || (b0 && k2)) && (!(b0 || k4))) && (!b1)) == true)) (.bool (!k2)) undef) (.bool false) : Value) = .bool ((((b1 || (b0 && k2)) && (!(b0 || k4))) && (!b1)) && (!k2)) := by
  cases b0 <;> cases b1 <;> cases k2 <;> cases k4 <;> simp
theorem now2_pk36 (b0 b1 k2 k4 k5 : Bool) (hg : (true && (((((b1 || (b0 && k2)) && (!(b0 || k4))) && (!b1)) && (!k2)) == false)) = true) : (cond (b0 && k5) (cond ((true && (((((b1 || (b0 && k2)) && (!(b0 || k4))) && (!b1)) && (!k2)) == false)) && ((b0 && k5) == true)) (.bool (!b0)) undef) (.bool false) : Value) = .bool ((b0 && k5) && (!b0)) := by
  revert hg; cases b0 <;> cases b1 <;> cases k2 <;> cases k4 <;> cases k5 <;> simp
theorem now2_pk37 (b0 b1 k2 k4 k5 : Bool) : (cond ((((b1 || (b0 && k2)) && (!(b0 || k4))) && (!b1)) && (!k2)) (.bool true) (cond (true && (((((b1 || (b0 && k2)) && (!(b0 || k4))) && (!b1)) && (!k2)) == false)) (.bool ((b0 && k5) && (!b0))) undef) : Value) = .bool (((((b1 || (b0 && k2)) && (!(b0 || k4))) && (!b1)) && (!k2)) || ((b0 && k5) && (!b0))) := by
  cases b0 <;> cases b1 <;> cases k2 <;> cases k4 <;> cases k5 <;> simp
theorem now1_last : (Value.bool false) = .bool false := by
  rfl
theorem now2_last (b0 b1 k2 k4 k5 : Bool) : (Value.bool (((((b1 || (b0 && k2)) && (!(b0 || k4))) && (!b1)) && (!k2)) || ((b0 && k5) && (!b0)))) = .bool false := by
  cases b0 <;> cases b1 <;> cases k2 <;> cases k4 <;> cases k5 <;> rfl

set_option maxHeartbeats 25600000 in
set_option maxRecDepth 20000 in
theorem wordNow_walk (xv yv s0 s1 : Value) (xs ys : List (Int × Int)) (a b : List Int) (w : World) (hB : 0 < w.heap.size) (hT : TabAt w) (hRx : Raws w w.heap.size xv xs) (hRy : Raws w w.heap.size yv ys) (hA : IntsR w s0 a) (hBb : IntsR w s1 b) :
    Calls Tryd.prog 3 #[xv, yv, .agg #[s0, s1]] w fun e w' => e = .returned (.bool true) ∧ Below w.heap.size w w' := by
  have HWo : Hid (∀ w1, Below w.heap.size w w1 → Calls Tryd.prog 7 #[.agg #[s0, s1]] w1 fun e w' => ∃ so sc lo lc ss ll, e = .returned (.agg #[.slice so ss.length sc, .slice lo ll.length lc]) ∧ Below w1.heap.size w1 w' ∧ Hid (WOk ss ll) ∧ Hid (LettersV w' (.slice so ss.length sc) ss ∧ LettersV w' (.slice lo ll.length lc) ll)) := fun w1 h => wordFn_any s0 s1 a b w1 (hA.below h) (hBb.below h)
  have HFx : Hid (∀ w1, Below w.heap.size w w1 → Calls Tryd.prog 8 #[xv, .int .i64 3, .int .i64 2] w1 fun e w' => ∃ a c t T m, e = .returned (.slice a t.length c) ∧ Below w1.heap.size w1 w' ∧ Hid (KFor w' (.slice a t.length c) 2 t T m)) := fun w1 h => (formulaFn_any xv xs 3 2 w1 (by omega) (by omega) (by omega) (hRx.up h)).mono fun e w' ⟨a, c, t, m, h1, h2, h3, h4, h5, h6⟩ => by
    obtain ⟨T, hT⟩ := h2.ok
    exact ⟨a, c, t, T, m, h1, h6, h5, hT, h4, h2.ne, h3⟩
  have HFy : Hid (∀ w1, Below w.heap.size w w1 → Calls Tryd.prog 8 #[yv, .int .i64 3, .int .i64 2] w1 fun e w' => ∃ a c t T m, e = .returned (.slice a t.length c) ∧ Below w1.heap.size w1 w' ∧ Hid (KFor w' (.slice a t.length c) 2 t T m)) := fun w1 h => (formulaFn_any yv ys 3 2 w1 (by omega) (by omega) (by omega) (hRy.up h)).mono fun e w' ⟨a, c, t, m, h1, h2, h3, h4, h5, h6⟩ => by
    obtain ⟨T, hT⟩ := h2.ok
    exact ⟨a, c, t, T, m, h1, h6, h5, hT, h4, h2.ne, h3⟩
  obtain ⟨xq0, xq1, xq2, rfl⟩ : ∃ a n c, xv = .slice a n c := by obtain ⟨⟨a, c, h, _⟩, _, _⟩ := hRx; exact ⟨_, _, _, h⟩
  obtain ⟨yq0, yq1, yq2, rfl⟩ : ∃ a n c, yv = .slice a n c := by obtain ⟨⟨a, c, h, _⟩, _, _⟩ := hRy; exact ⟨_, _, _, h⟩
  obtain ⟨e0, e1, e2, rfl⟩ : ∃ a n c, s0 = .slice a n c := by obtain ⟨a, c, h, _⟩ := hA.v; exact ⟨_, _, _, h⟩
  obtain ⟨g0, g1, g2, rfl⟩ : ∃ a n c, s1 = .slice a n c := by obtain ⟨a, c, h, _⟩ := hBb.v; exact ⟨_, _, _, h⟩
  have hA0 : ∀ o, Below w.heap.size w (w.alloc o) := fun o => (Below.refl _ _).alloc (Nat.le_refl _) o
  have HT : Hid (0 < w.heap.size ∧ TabAt w) := ⟨hB, hT⟩
  clear hRx hRy hA hBb hT hB
  go_enter Tryd.func3, Tryd.ntmps3
  go_wp2_with (first | (go_at_call 7; refine (HWo.out _ (by first | exact Below.refl _ _ | exact hA0 _)).mono ?_; rintro e w1 ⟨so, sc, lo, lc, ss, ll, rfl, hb1, HWk, HLs⟩; have hbw1 : Below w.heap.size w w1 := (by first | exact hb1 | exact (hA0 _).trans (hb1.mono (hA0 _).size)); have hbA := hbw1.alloc hbw1.size (.cells #[.slice so ss.length sc, .slice lo ll.length lc] 28); have hq0 := HFx.out _ hbA) | (go_at_call_of 8 xq1; refine hq0.mono ?_; rintro e v0 ⟨xa, xc, x, Tx, mx, rfl, hbf0, Hx⟩; have hbF0 := hbA.trans (hbf0.mono hbA.size); have hq1 := HFy.out _ hbF0) | (go_at_call_of 8 yq1; refine hq1.mono ?_; rintro e v1 ⟨ya, yc, y, Ty, my, rfl, hbf1, Hy⟩; have hbF1 := hbF0.trans (hbf1.mono hbF0.size); have HK := (show Hid _ from KCtx.start HT.out hbw1 HLs.out HWk.out ((hbf0).trans (hbf1.mono (hbf0).size))); have hkc := HK.out.c0; have hkd := HK.out.c1; have hklt := HK.out.lt; have hs5 : ss.length ≤ 5 := HWk.out.stem; have hl5 : ll.length ≤ 5 := HWk.out.loop))
  have Kx : Hid (KFor v1 (.slice xa x.length xc) 2 x Tx mx) := Hx.out.later (hbf1)
  have Ky : Hid (KFor v1 (.slice ya y.length yc) 2 y Ty my) := Hy
  have HC0 : Hid (Below v1.heap.size v1 v1) := Below.refl _ _
  clear HFx Hx HFy Hy HWo HLs HWk HT hA0 hbA hbw1 hb1 hkc hkd hs5 hl5 hklt hbf0 hbF0 hq0 hbf1 hbF1 hq1
  generalize w1.heap.size = wb at *
  generalize v1 = w3 at *
  generalize hxn : x.length = xn at *
  have Lx : Hid (x.length = xn) := hxn
  clear hxn
  generalize hyn : y.length = yn at *
  have Ly : Hid (y.length = yn) := hyn
  clear hyn
  generalize hsn : ss.length = sn at *
  generalize hln : ll.length = ln at *
  have LS : Hid (ss.length = sn) := hsn
  have LL : Hid (ll.length = ln) := hln
  clear hsn hln
  obtain ⟨nm, hnm⟩ : ∃ nm, nm = sn + ln := ⟨_, rfl⟩
  have HNM : Hid (nm = ss.length + ll.length) := by show _ = _; rw [hnm, LS.out, LL.out]
  have HNS : Hid (nm = sn + ln) := hnm
  clear hnm
  have HSI : Hid ((sn : Int) + (ln : Int) = (nm : Int)) := by show _ = _; have := HNS.out; omega
  rw [HSI.out]
  have hE0 : Calls Tryd.prog 9 #[(.slice xa xn xc), .agg #[.slice so sn sc, .slice lo ln lc], .int .i64 3] w3 fun e w' => ∃ rb, e = .returned (.tuple #[.slice (some ⟨rb, 0, none⟩) nm nm, .int .i64 0]) ∧ Below w3.heap.size w3 w' ∧ Hid (RowT w' rb nm (Tm.hb (sig (ss ++ ll) ss.length) Tx)) := (HK.out.later HC0.out).moments (Kx.out.v.below HC0.out) Kx.out.ok (by have := Kx.out.len; have := Kx.out.many; omega) (by have := Kx.out.len; have := Kx.out.many; omega) HNM.out
  have hc0 := (HK.out.later HC0.out).c0
  have hd0 := (HK.out.later HC0.out).c1
  go_wp2_with (go_at_call_of 9 xn; refine hE0.mono ?_; rintro e w0c ⟨r0, rfl, hb0c, HR0⟩; have hk0c := (HK.out.later (HC0.out.trans (hb0c.mono HC0.out.size))).c0; have hk0d := (HK.out.later (HC0.out.trans (hb0c.mono HC0.out.size))).c1)
  have HC1 : Hid (Below w3.heap.size w3 w0c) := (HC0.out.trans (hb0c.mono HC0.out.size))
  have HD0 := (show Hid _ from hb0c)
  clear hE0 hc0 hd0 hb0c hk0c hk0d
  have hE1 : Calls Tryd.prog 9 #[(.slice ya yn yc), .agg #[.slice so sn sc, .slice lo ln lc], .int .i64 3] w0c fun e w' => ∃ rb, e = .returned (.tuple #[.slice (some ⟨rb, 0, none⟩) nm nm, .int .i64 0]) ∧ Below w0c.heap.size w0c w' ∧ Hid (RowT w' rb nm (Tm.hb (sig (ss ++ ll) ss.length) Ty)) := (HK.out.later HC1.out).moments (Ky.out.v.below HC1.out) Ky.out.ok (by have := Ky.out.len; have := Ky.out.many; omega) (by have := Ky.out.len; have := Ky.out.many; omega) HNM.out
  have hc1 := (HK.out.later HC1.out).c0
  have hd1 := (HK.out.later HC1.out).c1
  go_wp2_with (go_at_call_of 9 yn; refine hE1.mono ?_; rintro e w1c ⟨r1, rfl, hb1c, HR1⟩; have hk1c := (HK.out.later (HC1.out.trans (hb1c.mono HC1.out.size))).c0; have hk1d := (HK.out.later (HC1.out.trans (hb1c.mono HC1.out.size))).c1)
  have HC2 : Hid (Below w3.heap.size w3 w1c) := (HC1.out.trans (hb1c.mono HC1.out.size))
  have HD1 := (show Hid _ from hb1c)
  clear hE1 hc1 hd1 hb1c hk1c hk1d
  have hB2 : Below w1c.heap.size w1c w1c := Below.refl _ _
  have hS2 : ∀ w', Below w1c.heap.size w1c w' → w'.cell? ⟨wb, 0, none⟩ = some (.slice so sn sc) ∧ w'.cell? ⟨wb, 1, none⟩ = some (.slice lo ln lc) := fun w' hw' => ⟨(HK.out.later (HC2.out.trans (hw'.mono HC2.out.size))).c0, (HK.out.later (HC2.out.trans (hw'.mono HC2.out.size))).c1⟩
  have hJ2x0 : ∀ (g : Nat) (w' : World), w'.cell? ⟨g, 0, none⟩ = some (.slice xa xn xc) → w'.cell? ⟨g, 1, none⟩ = some (.slice ya yn yc) → Below w1c.heap.size w1c w' → Calls Tryd.prog 10 #[.int .i64 15, .slice (some ⟨g, 0, none⟩) 2 2] w' fun e w'' => ∃ a c, e = .returned (.slice a ((((15 : Int), (0 : Int)) :: (x ++ y)) : List (Int × Int)).length c) ∧ Below w'.heap.size w' w'' ∧ OpsV w'' (.slice a ((((15 : Int), (0 : Int)) :: (x ++ y)) : List (Int × Int)).length c) (((15 : Int), (0 : Int)) :: (x ++ y)) := fun g w'  c0 c1 hw => joined2 15 g (.slice xa xn xc) (.slice ya yn yc) x y w' c0 c1 (by have := Kx.out.len; have := Kx.out.many; omega) (by have := Ky.out.len; have := Ky.out.many; omega) Kx.out.ne Ky.out.ne (Kx.out.v.below (HC2.out.trans (hw.mono HC2.out.size))) (Ky.out.v.below (HC2.out.trans (hw.mono HC2.out.size)))
  have hE2 : ∀ (w6 : World) (jv : Value), Below w1c.heap.size w1c w6 → OpsV w6 jv (((15 : Int), (0 : Int)) :: (x ++ y)) → Calls Tryd.prog 9 #[jv, .agg #[.slice so sn sc, .slice lo ln lc], .int .i64 3] w6 fun e w' => ∃ rb, e = .returned (.tuple #[.slice (some ⟨rb, 0, none⟩) nm nm, .int .i64 0]) ∧ Below w6.heap.size w6 w' ∧ Hid (RowT w' rb nm (Tm.hb (sig (ss ++ ll) ss.length) (.bi 15 0 Tx Ty))) := fun w6 jv hw6 ho => (HK.out.later (HC2.out.trans (hw6.mono HC2.out.size))).moments ho (FOk.tbi (k := 15) (by decide) (by decide) Kx.out.ok Ky.out.ok) (by have := Kx.out.len; have := Kx.out.many; have := Ky.out.len; have := Ky.out.many; simp; omega) (by have := Kx.out.len; have := Kx.out.many; have := Ky.out.len; have := Ky.out.many; omega) HNM.out
  generalize ((((15 : Int), (0 : Int)) :: (x ++ y)) : List (Int × Int)).length = mm2x0 at hJ2x0
  try go_wp2_with fail
  go_region_held3 (fun w' => w'.cell? ⟨wb, 0, none⟩ = some (.slice so sn sc) ∧ w'.cell? ⟨wb, 1, none⟩ = some (.slice lo ln lc))
    (exact hS2 _ (by first | exact hcF2 | exact hc2n0 | exact hc2n0.alloc hc2n0.size _ | exact hB2 | exact hB2.drew | exact (hB2.alloc (Nat.le_refl _) _).drew | exact ((hB2.alloc (Nat.le_refl _) _).alloc (by simp) _).drew))
    (first | (go_at_call 10; refine (hJ2x0 _ _ ?_ ?_ ?_).mono ?_; (focus (simp [go_sem]; done)); (focus (simp [go_sem]; done)); (focus (first | exact hB2 | exact hB2.drew | exact (hB2.alloc (Nat.le_refl _) _).drew | exact ((hB2.alloc (Nat.le_refl _) _).alloc (by simp) _).drew)); rintro e w2n0 ⟨ja2n0, jc2n0, rfl, hb2n0, ho2n0⟩; have hc2n0 : Below w1c.heap.size w1c w2n0 := Below.trans (by first | exact hB2 | exact hB2.drew | exact (hB2.alloc (Nat.le_refl _) _).drew | exact ((hB2.alloc (Nat.le_refl _) _).alloc (by simp) _).drew) (hb2n0.mono (by first | exact Nat.le_refl _ | (simp; omega) | simp))) | (go_at_call 9; refine (hE2 _ _ hc2n0 ho2n0).mono ?_; rintro e w2c ⟨r2, rfl, hb2c, HR2⟩; have hcF2 : Below w1c.heap.size w1c w2c := hc2n0.trans (hb2c.mono hc2n0.size)))
  have HC3 : Hid (Below w3.heap.size w3 w2c) := (HC2.out.trans (hcF2.mono HC2.out.size))
  have HD2 := (show Hid _ from hcF2)
  clear hE2 hS2 hB2 hb2c hcF2 hJ2x0 hb2n0 ho2n0 hc2n0
  have hB3 : Below w2c.heap.size w2c w2c := Below.refl _ _
  have hS3 : ∀ w', Below w2c.heap.size w2c w' → w'.cell? ⟨wb, 0, none⟩ = some (.slice so sn sc) ∧ w'.cell? ⟨wb, 1, none⟩ = some (.slice lo ln lc) := fun w' hw' => ⟨(HK.out.later (HC3.out.trans (hw'.mono HC3.out.size))).c0, (HK.out.later (HC3.out.trans (hw'.mono HC3.out.size))).c1⟩
  have hJ3x0 : ∀ (g : Nat) (w' : World), w'.cell? ⟨g, 0, none⟩ = some (.slice xa xn xc) → w'.cell? ⟨g, 1, none⟩ = some (.slice ya yn yc) → Below w2c.heap.size w2c w' → Calls Tryd.prog 10 #[.int .i64 16, .slice (some ⟨g, 0, none⟩) 2 2] w' fun e w'' => ∃ a c, e = .returned (.slice a ((((16 : Int), (0 : Int)) :: (x ++ y)) : List (Int × Int)).length c) ∧ Below w'.heap.size w' w'' ∧ OpsV w'' (.slice a ((((16 : Int), (0 : Int)) :: (x ++ y)) : List (Int × Int)).length c) (((16 : Int), (0 : Int)) :: (x ++ y)) := fun g w'  c0 c1 hw => joined2 16 g (.slice xa xn xc) (.slice ya yn yc) x y w' c0 c1 (by have := Kx.out.len; have := Kx.out.many; omega) (by have := Ky.out.len; have := Ky.out.many; omega) Kx.out.ne Ky.out.ne (Kx.out.v.below (HC3.out.trans (hw.mono HC3.out.size))) (Ky.out.v.below (HC3.out.trans (hw.mono HC3.out.size)))
  have hE3 : ∀ (w6 : World) (jv : Value), Below w2c.heap.size w2c w6 → OpsV w6 jv (((16 : Int), (0 : Int)) :: (x ++ y)) → Calls Tryd.prog 9 #[jv, .agg #[.slice so sn sc, .slice lo ln lc], .int .i64 3] w6 fun e w' => ∃ rb, e = .returned (.tuple #[.slice (some ⟨rb, 0, none⟩) nm nm, .int .i64 0]) ∧ Below w6.heap.size w6 w' ∧ Hid (RowT w' rb nm (Tm.hb (sig (ss ++ ll) ss.length) (.bi 16 0 Tx Ty))) := fun w6 jv hw6 ho => (HK.out.later (HC3.out.trans (hw6.mono HC3.out.size))).moments ho (FOk.tbi (k := 16) (by decide) (by decide) Kx.out.ok Ky.out.ok) (by have := Kx.out.len; have := Kx.out.many; have := Ky.out.len; have := Ky.out.many; simp; omega) (by have := Kx.out.len; have := Kx.out.many; have := Ky.out.len; have := Ky.out.many; omega) HNM.out
  generalize ((((16 : Int), (0 : Int)) :: (x ++ y)) : List (Int × Int)).length = mm3x0 at hJ3x0
  try go_wp2_with fail
  go_region_held3 (fun w' => w'.cell? ⟨wb, 0, none⟩ = some (.slice so sn sc) ∧ w'.cell? ⟨wb, 1, none⟩ = some (.slice lo ln lc))
    (exact hS3 _ (by first | exact hcF3 | exact hc3n0 | exact hc3n0.alloc hc3n0.size _ | exact hB3 | exact hB3.drew | exact (hB3.alloc (Nat.le_refl _) _).drew | exact ((hB3.alloc (Nat.le_refl _) _).alloc (by simp) _).drew))
    (first | (go_at_call 10; refine (hJ3x0 _ _ ?_ ?_ ?_).mono ?_; (focus (simp [go_sem]; done)); (focus (simp [go_sem]; done)); (focus (first | exact hB3 | exact hB3.drew | exact (hB3.alloc (Nat.le_refl _) _).drew | exact ((hB3.alloc (Nat.le_refl _) _).alloc (by simp) _).drew)); rintro e w3n0 ⟨ja3n0, jc3n0, rfl, hb3n0, ho3n0⟩; have hc3n0 : Below w2c.heap.size w2c w3n0 := Below.trans (by first | exact hB3 | exact hB3.drew | exact (hB3.alloc (Nat.le_refl _) _).drew | exact ((hB3.alloc (Nat.le_refl _) _).alloc (by simp) _).drew) (hb3n0.mono (by first | exact Nat.le_refl _ | (simp; omega) | simp))) | (go_at_call 9; refine (hE3 _ _ hc3n0 ho3n0).mono ?_; rintro e w3c ⟨r3, rfl, hb3c, HR3⟩; have hcF3 : Below w2c.heap.size w2c w3c := hc3n0.trans (hb3c.mono hc3n0.size)))
  have HC4 : Hid (Below w3.heap.size w3 w3c) := (HC3.out.trans (hcF3.mono HC3.out.size))
  have HD3 := (show Hid _ from hcF3)
  clear hE3 hS3 hB3 hb3c hcF3 hJ3x0 hb3n0 ho3n0 hc3n0
  have hB4 : Below w3c.heap.size w3c w3c := Below.refl _ _
  have hS4 : ∀ w', Below w3c.heap.size w3c w' → w'.cell? ⟨wb, 0, none⟩ = some (.slice so sn sc) ∧ w'.cell? ⟨wb, 1, none⟩ = some (.slice lo ln lc) := fun w' hw' => ⟨(HK.out.later (HC4.out.trans (hw'.mono HC4.out.size))).c0, (HK.out.later (HC4.out.trans (hw'.mono HC4.out.size))).c1⟩
  have hJ4x0 : ∀ (g : Nat) (w' : World), w'.cell? ⟨g, 0, none⟩ = some (.slice xa xn xc) → Below w3c.heap.size w3c w' → Calls Tryd.prog 10 #[.int .i64 17, .slice (some ⟨g, 0, none⟩) 1 1] w' fun e w'' => ∃ a c, e = .returned (.slice a ((((17 : Int), (0 : Int)) :: x) : List (Int × Int)).length c) ∧ Below w'.heap.size w' w'' ∧ OpsV w'' (.slice a ((((17 : Int), (0 : Int)) :: x) : List (Int × Int)).length c) (((17 : Int), (0 : Int)) :: x) := fun g w'  c0 hw => joined1 17 g (.slice xa xn xc) x w' c0 (by have := Kx.out.len; have := Kx.out.many; omega) Kx.out.ne (Kx.out.v.below (HC4.out.trans (hw.mono HC4.out.size)))
  have hE4 : ∀ (w6 : World) (jv : Value), Below w3c.heap.size w3c w6 → OpsV w6 jv (((17 : Int), (0 : Int)) :: x) → Calls Tryd.prog 9 #[jv, .agg #[.slice so sn sc, .slice lo ln lc], .int .i64 3] w6 fun e w' => ∃ rb, e = .returned (.tuple #[.slice (some ⟨rb, 0, none⟩) nm nm, .int .i64 0]) ∧ Below w6.heap.size w6 w' ∧ Hid (RowT w' rb nm (Tm.hb (sig (ss ++ ll) ss.length) (.un 17 0 Tx))) := fun w6 jv hw6 ho => (HK.out.later (HC4.out.trans (hw6.mono HC4.out.size))).moments ho (FOk.tun (k := 17) (by decide) Kx.out.ok) (by have := Kx.out.len; have := Kx.out.many; simp; omega) (by have := Kx.out.len; have := Kx.out.many; omega) HNM.out
  generalize ((((17 : Int), (0 : Int)) :: x) : List (Int × Int)).length = mm4x0 at hJ4x0
  try go_wp2_with fail
  go_region_held3 (fun w' => w'.cell? ⟨wb, 0, none⟩ = some (.slice so sn sc) ∧ w'.cell? ⟨wb, 1, none⟩ = some (.slice lo ln lc))
    (exact hS4 _ (by first | exact hcF4 | exact hc4n0 | exact hc4n0.alloc hc4n0.size _ | exact hB4 | exact hB4.drew | exact (hB4.alloc (Nat.le_refl _) _).drew | exact ((hB4.alloc (Nat.le_refl _) _).alloc (by simp) _).drew))
    (first | (go_at_call 10; refine (hJ4x0 _ _ ?_ ?_).mono ?_; (focus (simp [go_sem]; done)); (focus (first | exact hB4 | exact hB4.drew | exact (hB4.alloc (Nat.le_refl _) _).drew | exact ((hB4.alloc (Nat.le_refl _) _).alloc (by simp) _).drew)); rintro e w4n0 ⟨ja4n0, jc4n0, rfl, hb4n0, ho4n0⟩; have hc4n0 : Below w3c.heap.size w3c w4n0 := Below.trans (by first | exact hB4 | exact hB4.drew | exact (hB4.alloc (Nat.le_refl _) _).drew | exact ((hB4.alloc (Nat.le_refl _) _).alloc (by simp) _).drew) (hb4n0.mono (by first | exact Nat.le_refl _ | (simp; omega) | simp))) | (go_at_call 9; refine (hE4 _ _ hc4n0 ho4n0).mono ?_; rintro e w4c ⟨r4, rfl, hb4c, HR4⟩; have hcF4 : Below w3c.heap.size w3c w4c := hc4n0.trans (hb4c.mono hc4n0.size)))
  have HC5 : Hid (Below w3.heap.size w3 w4c) := (HC4.out.trans (hcF4.mono HC4.out.size))
  have HD4 := (show Hid _ from hcF4)
  clear hE4 hS4 hB4 hb4c hcF4 hJ4x0 hb4n0 ho4n0 hc4n0
  have hB5 : Below w4c.heap.size w4c w4c := Below.refl _ _
  have hS5 : ∀ w', Below w4c.heap.size w4c w' → w'.cell? ⟨wb, 0, none⟩ = some (.slice so sn sc) ∧ w'.cell? ⟨wb, 1, none⟩ = some (.slice lo ln lc) := fun w' hw' => ⟨(HK.out.later (HC5.out.trans (hw'.mono HC5.out.size))).c0, (HK.out.later (HC5.out.trans (hw'.mono HC5.out.size))).c1⟩
  have hJ5x0 : ∀ (g : Nat) (w' : World), w'.cell? ⟨g, 0, none⟩ = some (.slice xa xn xc) → Below w4c.heap.size w4c w' → Calls Tryd.prog 10 #[.int .i64 18, .slice (some ⟨g, 0, none⟩) 1 1] w' fun e w'' => ∃ a c, e = .returned (.slice a ((((18 : Int), (0 : Int)) :: x) : List (Int × Int)).length c) ∧ Below w'.heap.size w' w'' ∧ OpsV w'' (.slice a ((((18 : Int), (0 : Int)) :: x) : List (Int × Int)).length c) (((18 : Int), (0 : Int)) :: x) := fun g w'  c0 hw => joined1 18 g (.slice xa xn xc) x w' c0 (by have := Kx.out.len; have := Kx.out.many; omega) Kx.out.ne (Kx.out.v.below (HC5.out.trans (hw.mono HC5.out.size)))
  have hE5 : ∀ (w6 : World) (jv : Value), Below w4c.heap.size w4c w6 → OpsV w6 jv (((18 : Int), (0 : Int)) :: x) → Calls Tryd.prog 9 #[jv, .agg #[.slice so sn sc, .slice lo ln lc], .int .i64 3] w6 fun e w' => ∃ rb, e = .returned (.tuple #[.slice (some ⟨rb, 0, none⟩) nm nm, .int .i64 0]) ∧ Below w6.heap.size w6 w' ∧ Hid (RowT w' rb nm (Tm.hb (sig (ss ++ ll) ss.length) (.un 18 0 Tx))) := fun w6 jv hw6 ho => (HK.out.later (HC5.out.trans (hw6.mono HC5.out.size))).moments ho (FOk.tun (k := 18) (by decide) Kx.out.ok) (by have := Kx.out.len; have := Kx.out.many; simp; omega) (by have := Kx.out.len; have := Kx.out.many; omega) HNM.out
  generalize ((((18 : Int), (0 : Int)) :: x) : List (Int × Int)).length = mm5x0 at hJ5x0
  try go_wp2_with fail
  go_region_held3 (fun w' => w'.cell? ⟨wb, 0, none⟩ = some (.slice so sn sc) ∧ w'.cell? ⟨wb, 1, none⟩ = some (.slice lo ln lc))
    (exact hS5 _ (by first | exact hcF5 | exact hc5n0 | exact hc5n0.alloc hc5n0.size _ | exact hB5 | exact hB5.drew | exact (hB5.alloc (Nat.le_refl _) _).drew | exact ((hB5.alloc (Nat.le_refl _) _).alloc (by simp) _).drew))
    (first | (go_at_call 10; refine (hJ5x0 _ _ ?_ ?_).mono ?_; (focus (simp [go_sem]; done)); (focus (first | exact hB5 | exact hB5.drew | exact (hB5.alloc (Nat.le_refl _) _).drew | exact ((hB5.alloc (Nat.le_refl _) _).alloc (by simp) _).drew)); rintro e w5n0 ⟨ja5n0, jc5n0, rfl, hb5n0, ho5n0⟩; have hc5n0 : Below w4c.heap.size w4c w5n0 := Below.trans (by first | exact hB5 | exact hB5.drew | exact (hB5.alloc (Nat.le_refl _) _).drew | exact ((hB5.alloc (Nat.le_refl _) _).alloc (by simp) _).drew) (hb5n0.mono (by first | exact Nat.le_refl _ | (simp; omega) | simp))) | (go_at_call 9; refine (hE5 _ _ hc5n0 ho5n0).mono ?_; rintro e w5c ⟨r5, rfl, hb5c, HR5⟩; have hcF5 : Below w4c.heap.size w4c w5c := hc5n0.trans (hb5c.mono hc5n0.size)))
  have HC6 : Hid (Below w3.heap.size w3 w5c) := (HC5.out.trans (hcF5.mono HC5.out.size))
  have HD5 := (show Hid _ from hcF5)
  clear hE5 hS5 hB5 hb5c hcF5 hJ5x0 hb5n0 ho5n0 hc5n0
  have hB6 : Below w5c.heap.size w5c w5c := Below.refl _ _
  have hS6 : ∀ w', Below w5c.heap.size w5c w' → w'.cell? ⟨wb, 0, none⟩ = some (.slice so sn sc) ∧ w'.cell? ⟨wb, 1, none⟩ = some (.slice lo ln lc) := fun w' hw' => ⟨(HK.out.later (HC6.out.trans (hw'.mono HC6.out.size))).c0, (HK.out.later (HC6.out.trans (hw'.mono HC6.out.size))).c1⟩
  have hJ6x0 : ∀ (g : Nat) (w' : World), w'.cell? ⟨g, 0, none⟩ = some (.slice xa xn xc) → Below w5c.heap.size w5c w' → Calls Tryd.prog 10 #[.int .i64 14, .slice (some ⟨g, 0, none⟩) 1 1] w' fun e w'' => ∃ a c, e = .returned (.slice a ((((14 : Int), (0 : Int)) :: x) : List (Int × Int)).length c) ∧ Below w'.heap.size w' w'' ∧ OpsV w'' (.slice a ((((14 : Int), (0 : Int)) :: x) : List (Int × Int)).length c) (((14 : Int), (0 : Int)) :: x) := fun g w'  c0 hw => joined1 14 g (.slice xa xn xc) x w' c0 (by have := Kx.out.len; have := Kx.out.many; omega) Kx.out.ne (Kx.out.v.below (HC6.out.trans (hw.mono HC6.out.size)))
  have hE6 : ∀ (w6 : World) (jv : Value), Below w5c.heap.size w5c w6 → OpsV w6 jv (((14 : Int), (0 : Int)) :: x) → Calls Tryd.prog 9 #[jv, .agg #[.slice so sn sc, .slice lo ln lc], .int .i64 3] w6 fun e w' => ∃ rb, e = .returned (.tuple #[.slice (some ⟨rb, 0, none⟩) nm nm, .int .i64 0]) ∧ Below w6.heap.size w6 w' ∧ Hid (RowT w' rb nm (Tm.hb (sig (ss ++ ll) ss.length) (.un 14 0 Tx))) := fun w6 jv hw6 ho => (HK.out.later (HC6.out.trans (hw6.mono HC6.out.size))).moments ho (FOk.tun (k := 14) (by decide) Kx.out.ok) (by have := Kx.out.len; have := Kx.out.many; simp; omega) (by have := Kx.out.len; have := Kx.out.many; omega) HNM.out
  generalize ((((14 : Int), (0 : Int)) :: x) : List (Int × Int)).length = mm6x0 at hJ6x0
  try go_wp2_with fail
  go_region_held3 (fun w' => w'.cell? ⟨wb, 0, none⟩ = some (.slice so sn sc) ∧ w'.cell? ⟨wb, 1, none⟩ = some (.slice lo ln lc))
    (exact hS6 _ (by first | exact hcF6 | exact hc6n0 | exact hc6n0.alloc hc6n0.size _ | exact hB6 | exact hB6.drew | exact (hB6.alloc (Nat.le_refl _) _).drew | exact ((hB6.alloc (Nat.le_refl _) _).alloc (by simp) _).drew))
    (first | (go_at_call 10; refine (hJ6x0 _ _ ?_ ?_).mono ?_; (focus (simp [go_sem]; done)); (focus (first | exact hB6 | exact hB6.drew | exact (hB6.alloc (Nat.le_refl _) _).drew | exact ((hB6.alloc (Nat.le_refl _) _).alloc (by simp) _).drew)); rintro e w6n0 ⟨ja6n0, jc6n0, rfl, hb6n0, ho6n0⟩; have hc6n0 : Below w5c.heap.size w5c w6n0 := Below.trans (by first | exact hB6 | exact hB6.drew | exact (hB6.alloc (Nat.le_refl _) _).drew | exact ((hB6.alloc (Nat.le_refl _) _).alloc (by simp) _).drew) (hb6n0.mono (by first | exact Nat.le_refl _ | (simp; omega) | simp))) | (go_at_call 9; refine (hE6 _ _ hc6n0 ho6n0).mono ?_; rintro e w6c ⟨r6, rfl, hb6c, HR6⟩; have hcF6 : Below w5c.heap.size w5c w6c := hc6n0.trans (hb6c.mono hc6n0.size)))
  have HC7 : Hid (Below w3.heap.size w3 w6c) := (HC6.out.trans (hcF6.mono HC6.out.size))
  have HD6 := (show Hid _ from hcF6)
  clear hE6 hS6 hB6 hb6c hcF6 hJ6x0 hb6n0 ho6n0 hc6n0
  have HQ0 : Hid (RowT w6c r0 nm (Tm.hb (sig (ss ++ ll) ss.length) Tx)) := ((((((HR0.out.later HD1.out).later HD2.out).later HD3.out).later HD4.out).later HD5.out).later HD6.out)
  have HQ1 : Hid (RowT w6c r1 nm (Tm.hb (sig (ss ++ ll) ss.length) Ty)) := (((((HR1.out.later HD2.out).later HD3.out).later HD4.out).later HD5.out).later HD6.out)
  have HQ2 : Hid (RowT w6c r2 nm (Tm.hb (sig (ss ++ ll) ss.length) (.bi 15 0 Tx Ty))) := ((((HR2.out.later HD3.out).later HD4.out).later HD5.out).later HD6.out)
  have HQ3 : Hid (RowT w6c r3 nm (Tm.hb (sig (ss ++ ll) ss.length) (.bi 16 0 Tx Ty))) := (((HR3.out.later HD4.out).later HD5.out).later HD6.out)
  have HQ4 : Hid (RowT w6c r4 nm (Tm.hb (sig (ss ++ ll) ss.length) (.un 17 0 Tx))) := ((HR4.out.later HD5.out).later HD6.out)
  have HQ5 : Hid (RowT w6c r5 nm (Tm.hb (sig (ss ++ ll) ss.length) (.un 18 0 Tx))) := (HR5.out.later HD6.out)
  have HQ6 : Hid (RowT w6c r6 nm (Tm.hb (sig (ss ++ ll) ss.length) (.un 14 0 Tx))) := HR6.out
  have HK3 : Hid (KCtx w wb (.slice so sn sc) (.slice lo ln lc) ss ll w6c) := HK.out.later HC7.out
  have hc0 := HK3.out.c0
  have hc1 := HK3.out.c1
  have hs5 : sn ≤ 5 := by rw [← LS.out]; exact HK.out.ok.stem
  have hl5 : ln ≤ 5 := by rw [← LL.out]; exact HK.out.ok.loop
  have hl1 : 1 ≤ ln := by rw [← LL.out]; exact HK.out.ok.one
  have hn10 : nm ≤ 10 := by have := HNS.out; omega
  have hsn : sn < nm := by have := HNS.out; omega
  have hbf := HK3.out.below
  have HLt : Hid (wb < w6c.heap.size) := HK3.out.lt
  have hlen : (ss ++ ll).length = nm := by rw [List.length_append, HNM.out]
  have hslt : ss.length < (ss ++ ll).length := by rw [hlen, LS.out]; exact hsn
  have HLaw : Hid (∀ i, i < nm → (Tm.hb (sig (ss ++ ll) ss.length) (.bi 15 0 Tx Ty) i = (Tm.hb (sig (ss ++ ll) ss.length) Ty i || (Tm.hb (sig (ss ++ ll) ss.length) Tx i && Tm.hb (sig (ss ++ ll) ss.length) (.bi 15 0 Tx Ty) (nxt sn nm i)))) ∧ (Tm.hb (sig (ss ++ ll) ss.length) (.bi 16 0 Tx Ty) i = (Tm.hb (sig (ss ++ ll) ss.length) Ty i && (Tm.hb (sig (ss ++ ll) ss.length) Tx i || Tm.hb (sig (ss ++ ll) ss.length) (.bi 16 0 Tx Ty) (nxt sn nm i)))) ∧ (Tm.hb (sig (ss ++ ll) ss.length) (.un 17 0 Tx) i = (Tm.hb (sig (ss ++ ll) ss.length) Tx i || Tm.hb (sig (ss ++ ll) ss.length) (.un 17 0 Tx) (nxt sn nm i))) ∧ (Tm.hb (sig (ss ++ ll) ss.length) (.un 18 0 Tx) i = (Tm.hb (sig (ss ++ ll) ss.length) Tx i && Tm.hb (sig (ss ++ ll) ss.length) (.un 18 0 Tx) (nxt sn nm i))) ∧ Tm.hb (sig (ss ++ ll) ss.length) (.un 14 0 Tx) i = Tm.hb (sig (ss ++ ll) ss.length) Tx (nxt sn nm i)) := fun i hi => by
    have hi' : i < (ss ++ ll).length := by rw [hlen]; exact hi
    rw [← hlen, ← LS.out]
    exact ⟨now_until hslt 0 Tx Ty hi', now_release hslt 0 Tx Ty hi', now_finally hslt 0 Tx hi', now_globally hslt 0 Tx hi', now_next hslt 0 Tx hi'⟩
  clear hlen hslt
  generalize Tm.hb (sig (ss ++ ll) ss.length) Tx = z0 at *
  generalize Tm.hb (sig (ss ++ ll) ss.length) Ty = z1 at *
  generalize Tm.hb (sig (ss ++ ll) ss.length) (.bi 15 0 Tx Ty) = z2 at *
  generalize Tm.hb (sig (ss ++ ll) ss.length) (.bi 16 0 Tx Ty) = z3 at *
  generalize Tm.hb (sig (ss ++ ll) ss.length) (.un 17 0 Tx) = z4 at *
  generalize Tm.hb (sig (ss ++ ll) ss.length) (.un 18 0 Tx) = z5 at *
  generalize Tm.hb (sig (ss ++ ll) ss.length) (.un 14 0 Tx) = z6 at *
  clear HC0 HC1 HC2 HC3 HC4 HC5 HC6 HC7 HD0 HD1 HD2 HD3 HD4 HD5 HD6 HR0 HR1 HR2 HR3 HR4 HR5 HR6 HK HNM HK3 Kx Ky
  go_wp2_with fail
  go_loopw [25] (fun i wr => ∃ q : Nat, q ≤ nm ∧ i = .int .i64 (q : Int) ∧ Hid (Below w6c.heap.size w6c wr)) (fun i _ => nm - (intOf i).toNat)
  case atStart => exact ⟨0, Nat.zero_le _, rfl, Below.refl _ _⟩
  case round =>
    obtain ⟨q, hq, rfl, HBel⟩ := hrel
    have hbel := HBel.out
    have hd0 := (hbel.cell (p := ⟨wb, 0, none⟩) HLt.out).trans hc0
    have hd1 := (hbel.cell (p := ⟨wb, 1, none⟩) HLt.out).trans hc1
    clear hc0 hc1
    by_cases hlt : q < nm
    · by_cases hqn : q + 1 = nm
      · have HQN : Hid (q + 1 = nm) := hqn
        have hqe : (((q : Int) + 1) == (nm : Int)) = true := by simp; omega
        have HL := (show Hid _ from HLaw.out q hlt)
        have hkn : sn < nm := by omega
        rw [show nxt sn nm q = sn by unfold nxt; rw [if_pos hqn]] at HL
        obtain ⟨L2, L3, L4, L5, L6⟩ := HL.out
        have C0 : Hid (∀ w', Below wr.heap.size wr w' → w'.cell? ⟨r0, q, none⟩ = some (.bool (z0 q))) := fun w' hb => (HQ0.out.later (HBel.out.trans (hb.mono HBel.out.size))).2 q hlt
        have C1 : Hid (∀ w', Below wr.heap.size wr w' → w'.cell? ⟨r1, q, none⟩ = some (.bool (z1 q))) := fun w' hb => (HQ1.out.later (HBel.out.trans (hb.mono HBel.out.size))).2 q hlt
        have C2 : Hid (∀ w', Below wr.heap.size wr w' → w'.cell? ⟨r2, q, none⟩ = some (.bool (z2 q))) := fun w' hb => (HQ2.out.later (HBel.out.trans (hb.mono HBel.out.size))).2 q hlt
        have C3 : Hid (∀ w', Below wr.heap.size wr w' → w'.cell? ⟨r3, q, none⟩ = some (.bool (z3 q))) := fun w' hb => (HQ3.out.later (HBel.out.trans (hb.mono HBel.out.size))).2 q hlt
        have C4 : Hid (∀ w', Below wr.heap.size wr w' → w'.cell? ⟨r4, q, none⟩ = some (.bool (z4 q))) := fun w' hb => (HQ4.out.later (HBel.out.trans (hb.mono HBel.out.size))).2 q hlt
        have C5 : Hid (∀ w', Below wr.heap.size wr w' → w'.cell? ⟨r5, q, none⟩ = some (.bool (z5 q))) := fun w' hb => (HQ5.out.later (HBel.out.trans (hb.mono HBel.out.size))).2 q hlt
        have C6 : Hid (∀ w', Below wr.heap.size wr w' → w'.cell? ⟨r6, q, none⟩ = some (.bool (z6 q))) := fun w' hb => (HQ6.out.later (HBel.out.trans (hb.mono HBel.out.size))).2 q hlt
        have D0 : Hid (∀ w', Below wr.heap.size wr w' → w'.cell? ⟨r0, sn, none⟩ = some (.bool (z0 (sn)))) := fun w' hb => (HQ0.out.later (HBel.out.trans (hb.mono HBel.out.size))).2 sn hkn
        have D2 : Hid (∀ w', Below wr.heap.size wr w' → w'.cell? ⟨r2, sn, none⟩ = some (.bool (z2 (sn)))) := fun w' hb => (HQ2.out.later (HBel.out.trans (hb.mono HBel.out.size))).2 sn hkn
        have D3 : Hid (∀ w', Below wr.heap.size wr w' → w'.cell? ⟨r3, sn, none⟩ = some (.bool (z3 (sn)))) := fun w' hb => (HQ3.out.later (HBel.out.trans (hb.mono HBel.out.size))).2 sn hkn
        have D4 : Hid (∀ w', Below wr.heap.size wr w' → w'.cell? ⟨r4, sn, none⟩ = some (.bool (z4 (sn)))) := fun w' hb => (HQ4.out.later (HBel.out.trans (hb.mono HBel.out.size))).2 sn hkn
        have D5 : Hid (∀ w', Below wr.heap.size wr w' → w'.cell? ⟨r5, sn, none⟩ = some (.bool (z5 (sn)))) := fun w' hb => (HQ5.out.later (HBel.out.trans (hb.mono HBel.out.size))).2 sn hkn
        rw [L2] at C2
        rw [L3] at C3
        rw [L4] at C4
        rw [L5] at C5
        rw [L6] at C6
        clear L2 L3 L4 L5 L6 HL HLaw
        generalize z0 q = b0 at *
        generalize z1 q = b1 at *
        generalize z0 (sn) = k0 at *
        generalize z2 (sn) = k2 at *
        generalize z3 (sn) = k3 at *
        generalize z4 (sn) = k4 at *
        generalize z5 (sn) = k5 at *
        clear hqn HQ0 HQ1 HQ2 HQ3 HQ4 HQ5 HQ6
        go_upto_region 20 with fail
        obtain ⟨kk, hkk⟩ : ∃ kk : Nat, kk = sn := ⟨_, rfl⟩
        rw [← hkk] at D0
        rw [← hkk] at D2
        rw [← hkk] at D3
        rw [← hkk] at D4
        rw [← hkk] at D5
        have hxq : q < nm := hlt
        have hxkk : kk < nm := by rw [hkk]; exact hkn
        have HKK : Hid (kk = sn) := hkk
        have hki : ((kk : Nat) : Int) = (sn : Int) := by have := hkk; omega
        rw [← hki]
        clear hkk hki
        have c0 := fun (w' : World) (hb : Below wr.heap.size wr w') => C0.out w' hb
        have c1 := fun (w' : World) (hb : Below wr.heap.size wr w') => C1.out w' hb
        have c2 := fun (w' : World) (hb : Below wr.heap.size wr w') => C2.out w' hb
        have c3 := fun (w' : World) (hb : Below wr.heap.size wr w') => C3.out w' hb
        have c4 := fun (w' : World) (hb : Below wr.heap.size wr w') => C4.out w' hb
        have c5 := fun (w' : World) (hb : Below wr.heap.size wr w') => C5.out w' hb
        have c6 := fun (w' : World) (hb : Below wr.heap.size wr w') => C6.out w' hb
        have d0 := fun (w' : World) (hb : Below wr.heap.size wr w') => D0.out w' hb
        have d2 := fun (w' : World) (hb : Below wr.heap.size wr w') => D2.out w' hb
        have d3 := fun (w' : World) (hb : Below wr.heap.size wr w') => D3.out w' hb
        have d4 := fun (w' : World) (hb : Below wr.heap.size wr w') => D4.out w' hb
        have d5 := fun (w' : World) (hb : Below wr.heap.size wr w') => D5.out w' hb
        go_cut [233] from 132 to 271 (fun sv wv => sv = .bool false ∧ Hid (Below wr.heap.size wr wv))
        case first =>
          rename_i J K' hJ hK'
          generalize ha0 : Act.mk _ _ = a0
          have hsz : a0.tmps.size = 272 := by rw [← ha0]; rfl
          have a11 : a0.eval (.tmp 11) = .slice (some ⟨r0, 0, none⟩) nm nm := by rw [← ha0]; rfl
          have a13 : a0.eval (.tmp 13) = .slice (some ⟨r1, 0, none⟩) nm nm := by rw [← ha0]; rfl
          have a15 : a0.eval (.tmp 15) = .slice (some ⟨r2, 0, none⟩) nm nm := by rw [← ha0]; rfl
          have a17 : a0.eval (.tmp 17) = .slice (some ⟨r3, 0, none⟩) nm nm := by rw [← ha0]; rfl
          have a19 : a0.eval (.tmp 19) = .slice (some ⟨r4, 0, none⟩) nm nm := by rw [← ha0]; rfl
          have a21 : a0.eval (.tmp 21) = .slice (some ⟨r5, 0, none⟩) nm nm := by rw [← ha0]; rfl
          have a23 : a0.eval (.tmp 23) = .slice (some ⟨r6, 0, none⟩) nm nm := by rw [← ha0]; rfl
          have a25 : a0.eval (.tmp 25) = .int .i64 (q : Int) := by rw [← ha0]; rfl
          have a26 : a0.eval (.tmp 26) = .int .i64 (kk : Int) := by rw [← ha0]; first | rfl | (show Value.int _ _ = _; congr 1)
          refine wp_anywayG (by rfl) [145, 146, 147, 148, 149, 150, 151, 152, 153, 154, 155, 156, 157, 158, 159, 160, 161, 162, 163, 164, 165, 166, 167, 168, 169, 170, 171, 172, 173, 174, 175, 176, 177, 178, 179, 180, 181, 182, 183, 184, 185, 186, 187, 188, 189, 190, 191, 192, 193, 194, 195, 196, 197, 198, 199, 200, 201, 202, 203, 204, 205, 206, 207, 208, 209, 210, 211, 212, 213, 214, 215, 216, 217, 218, 219, 220, 221, 222, 223, 224, 225, 226, 227, 228, 229, 230, 231, 232, 233] 88 (now1P r0 r1 r2 r3 r4 r5 r6 nm q kk b0 b1 k0 k2 k3 k4 k5) (by rw [hsz]; rfl) (now1P_stable _ _ _ _ _ _ _ _ _ _ _ _ _ _ _ _ _ ) ?_ ?_
          · intro i o hi ho q' w' hb hq
            have f : ∀ t, [145, 146, 147, 148, 149, 150, 151, 152, 153, 154, 155, 156, 157, 158, 159, 160, 161, 162, 163, 164, 165, 166, 167, 168, 169, 170, 171, 172, 173, 174, 175, 176, 177, 178, 179, 180, 181, 182, 183, 184, 185, 186, 187, 188, 189, 190, 191, 192, 193, 194, 195, 196, 197, 198, 199, 200, 201, 202, 203, 204, 205, 206, 207, 208, 209, 210, 211, 212, 213, 214, 215, 216, 217, 218, 219, 220, 221, 222, 223, 224, 225, 226, 227, 228, 229, 230, 231, 232, 233].contains t = true → t < 272 → (frm a0 [145, 146, 147, 148, 149, 150, 151, 152, 153, 154, 155, 156, 157, 158, 159, 160, 161, 162, 163, 164, 165, 166, 167, 168, 169, 170, 171, 172, 173, 174, 175, 176, 177, 178, 179, 180, 181, 182, 183, 184, 185, 186, 187, 188, 189, 190, 191, 192, 193, 194, 195, 196, 197, 198, 199, 200, 201, 202, 203, 204, 205, 206, 207, 208, 209, 210, 211, 212, 213, 214, 215, 216, 217, 218, 219, 220, 221, 222, 223, 224, 225, 226, 227, 228, 229, 230, 231, 232, 233] q').eval (.tmp t) = q' t := fun t h1 h2 => frm_in h1 (by rw [hsz]; exact h2)
            have evc : ∀ v, (frm a0 [145, 146, 147, 148, 149, 150, 151, 152, 153, 154, 155, 156, 157, 158, 159, 160, 161, 162, 163, 164, 165, 166, 167, 168, 169, 170, 171, 172, 173, 174, 175, 176, 177, 178, 179, 180, 181, 182, 183, 184, 185, 186, 187, 188, 189, 190, 191, 192, 193, 194, 195, 196, 197, 198, 199, 200, 201, 202, 203, 204, 205, 206, 207, 208, 209, 210, 211, 212, 213, 214, 215, 216, 217, 218, 219, 220, 221, 222, 223, 224, 225, 226, 227, 228, 229, 230, 231, 232, 233] q').eval (.const v) = v := fun v => rfl
            rcases now1_lt i hi with rfl | rfl | rfl | rfl | rfl | rfl | rfl | rfl | rfl | rfl | rfl | rfl | rfl | rfl | rfl | rfl | rfl | rfl | rfl | rfl | rfl | rfl | rfl | rfl | rfl | rfl | rfl | rfl | rfl | rfl | rfl | rfl | rfl | rfl | rfl | rfl | rfl | rfl | rfl | rfl | rfl | rfl | rfl | rfl | rfl | rfl | rfl | rfl | rfl | rfl | rfl | rfl | rfl | rfl | rfl | rfl | rfl | rfl | rfl | rfl | rfl | rfl | rfl | rfl | rfl | rfl | rfl | rfl | rfl | rfl | rfl | rfl | rfl | rfl | rfl | rfl | rfl | rfl | rfl | rfl | rfl | rfl | rfl | rfl | rfl | rfl | rfl | rfl
            all_goals obtain rfl := Option.some.inj ho
            · exact op_plain rfl rfl (op_val (w' := w') (v := .slice (some ⟨r2, 0, none⟩) nm nm) (run_moveB rfl ((frm_out rfl).trans a15)) (Below.refl _ _) rfl)
            · exact op_plain rfl rfl (op_val (w' := w') (v := .int .i64 (q : Int)) (run_moveB rfl ((frm_out rfl).trans a25)) (Below.refl _ _) rfl)
            · exact op_plain rfl rfl (op_val (w' := w') (v := .pointer (some ⟨r2, q, none⟩)) (run_idxB rfl ((f 145 rfl (by decide)).trans (hq 0 145 rfl rfl)) ((f 146 rfl (by decide)).trans (hq 1 146 rfl rfl)) hxq) (Below.refl _ _) rfl)
            · exact op_plain rfl rfl (op_val (w' := w') (v := .bool (b1 || (b0 && k2))) (run_loadB rfl ((f 147 rfl (by decide)).trans (hq 2 147 rfl rfl)) (c2 w' hb)) (Below.refl _ _) rfl)
            · exact op_plain rfl rfl (op_val (w' := w') (v := .slice (some ⟨r1, 0, none⟩) nm nm) (run_moveB rfl ((frm_out rfl).trans a13)) (Below.refl _ _) rfl)
            · exact op_plain rfl rfl (op_val (w' := w') (v := .int .i64 (q : Int)) (run_moveB rfl ((frm_out rfl).trans a25)) (Below.refl _ _) rfl)
            · exact op_plain rfl rfl (op_val (w' := w') (v := .pointer (some ⟨r1, q, none⟩)) (run_idxB rfl ((f 149 rfl (by decide)).trans (hq 4 149 rfl rfl)) ((f 150 rfl (by decide)).trans (hq 5 150 rfl rfl)) hxq) (Below.refl _ _) rfl)
            · exact op_plain rfl rfl (op_val (w' := w') (v := .bool b1) (run_loadB rfl ((f 151 rfl (by decide)).trans (hq 6 151 rfl rfl)) (c1 w' hb)) (Below.refl _ _) rfl)
            · exact op_plain rfl rfl (op_val (w' := w') (v := .bool b1) (run_moveB rfl ((f 152 rfl (by decide)).trans (hq 7 152 rfl rfl))) (Below.refl _ _) rfl)
            · exact op_guard (g := true) (x := b1) rfl rfl rfl ((f 153 rfl (by decide)).trans (hq 8 153 rfl rfl)) (fun hg => op_val (w' := w') (v := .slice (some ⟨r0, 0, none⟩) nm nm) (run_moveB rfl ((frm_out rfl).trans a11)) (Below.refl _ _) (cond_yes hg).symm) (fun hg => ⟨undef, rfl, Below.refl _ _, cond_no hg⟩)
            · exact op_guard (g := true) (x := b1) rfl rfl rfl ((f 153 rfl (by decide)).trans (hq 8 153 rfl rfl)) (fun hg => op_val (w' := w') (v := .int .i64 (q : Int)) (run_moveB rfl ((frm_out rfl).trans a25)) (Below.refl _ _) (cond_yes hg).symm) (fun hg => ⟨undef, rfl, Below.refl _ _, cond_no hg⟩)
            · exact op_guard (g := true) (x := b1) rfl rfl rfl ((f 153 rfl (by decide)).trans (hq 8 153 rfl rfl)) (fun hg => op_val (w' := w') (v := .pointer (some ⟨r0, q, none⟩)) (run_idxB rfl (((f 154 rfl (by decide)).trans (hq 9 154 rfl rfl)).trans (cond_yes hg)) (((f 155 rfl (by decide)).trans (hq 10 155 rfl rfl)).trans (cond_yes hg)) hxq) (Below.refl _ _) (cond_yes hg).symm) (fun hg => ⟨undef, rfl, Below.refl _ _, cond_no hg⟩)
            · exact op_guard (g := true) (x := b1) rfl rfl rfl ((f 153 rfl (by decide)).trans (hq 8 153 rfl rfl)) (fun hg => op_val (w' := w') (v := .bool b0) (run_loadB rfl (((f 156 rfl (by decide)).trans (hq 11 156 rfl rfl)).trans (cond_yes hg)) (c0 w' hb)) (Below.refl _ _) (cond_yes hg).symm) (fun hg => ⟨undef, rfl, Below.refl _ _, cond_no hg⟩)
            · exact op_guard (g := true) (x := b1) rfl rfl rfl ((f 153 rfl (by decide)).trans (hq 8 153 rfl rfl)) (fun hg => op_val (w' := w') (v := .bool b0) (run_moveB rfl (((f 157 rfl (by decide)).trans (hq 12 157 rfl rfl)).trans (cond_yes hg))) (Below.refl _ _) (cond_yes hg).symm) (fun hg => ⟨undef, rfl, Below.refl _ _, cond_no hg⟩)
            · exact op_guard (g := (true && (b1 == false))) (x := b0) rfl rfl rfl ((f 158 rfl (by decide)).trans (hq 13 158 rfl rfl)) (fun hg => op_val (w' := w') (v := .slice (some ⟨r2, 0, none⟩) nm nm) (run_moveB rfl ((frm_out rfl).trans a15)) (Below.refl _ _) (cond_yes hg).symm) (fun hg => ⟨undef, rfl, Below.refl _ _, cond_no hg⟩)
            · exact op_guard (g := (true && (b1 == false))) (x := b0) rfl rfl rfl ((f 158 rfl (by decide)).trans (hq 13 158 rfl rfl)) (fun hg => op_val (w' := w') (v := .int .i64 (kk : Int)) (run_moveB rfl ((frm_out rfl).trans a26)) (Below.refl _ _) (cond_yes hg).symm) (fun hg => ⟨undef, rfl, Below.refl _ _, cond_no hg⟩)
            · exact op_guard (g := (true && (b1 == false))) (x := b0) rfl rfl rfl ((f 158 rfl (by decide)).trans (hq 13 158 rfl rfl)) (fun hg => op_val (w' := w') (v := .pointer (some ⟨r2, kk, none⟩)) (run_idxB rfl (((f 159 rfl (by decide)).trans (hq 14 159 rfl rfl)).trans (cond_yes hg)) (((f 160 rfl (by decide)).trans (hq 15 160 rfl rfl)).trans (cond_yes hg)) hxkk) (Below.refl _ _) (cond_yes hg).symm) (fun hg => ⟨undef, rfl, Below.refl _ _, cond_no hg⟩)
            · exact op_guard (g := (true && (b1 == false))) (x := b0) rfl rfl rfl ((f 158 rfl (by decide)).trans (hq 13 158 rfl rfl)) (fun hg => op_val (w' := w') (v := .bool k2) (run_loadB rfl (((f 161 rfl (by decide)).trans (hq 16 161 rfl rfl)).trans (cond_yes hg)) (d2 w' hb)) (Below.refl _ _) (cond_yes hg).symm) (fun hg => ⟨undef, rfl, Below.refl _ _, cond_no hg⟩)
            · exact op_guard (g := true) (x := b1) rfl rfl rfl ((f 153 rfl (by decide)).trans (hq 8 153 rfl rfl)) (fun hg => op_val (w' := w') (v := .bool (b0 && k2)) (run_pickB rfl (((f 158 rfl (by decide)).trans (hq 13 158 rfl rfl)).trans (cond_yes hg)) (by rw [((f 162 rfl (by decide)).trans (hq 17 162 rfl rfl)), evc]; exact now1_pk18 b0 b1 k2 hg)) (Below.refl _ _) (cond_yes hg).symm) (fun hg => ⟨undef, rfl, Below.refl _ _, cond_no hg⟩)
            · exact op_plain rfl rfl (op_val (w' := w') (v := .bool (b1 || (b0 && k2))) (run_pickB rfl ((f 153 rfl (by decide)).trans (hq 8 153 rfl rfl)) (by rw [((f 163 rfl (by decide)).trans (hq 18 163 rfl rfl)), evc]; exact now1_pk19 b0 b1 k2)) (Below.refl _ _) rfl)
            · exact op_plain rfl rfl (op_val (w' := w') (v := .bool false) (run_neqB rfl ((f 148 rfl (by decide)).trans (hq 3 148 rfl rfl)) ((f 164 rfl (by decide)).trans (hq 19 164 rfl rfl)) (now1_ne20 b0 b1 k2)) (Below.refl _ _) rfl)
            · exact op_plain rfl rfl (op_val (w' := w') (v := .bool false) (run_moveB rfl ((f 165 rfl (by decide)).trans (hq 20 165 rfl rfl))) (Below.refl _ _) rfl)
            · exact op_guard (g := true) (x := false) rfl rfl rfl ((f 166 rfl (by decide)).trans (hq 21 166 rfl rfl)) (fun hg => op_val (w' := w') (v := .slice (some ⟨r3, 0, none⟩) nm nm) (run_moveB rfl ((frm_out rfl).trans a17)) (Below.refl _ _) (cond_yes hg).symm) (fun hg => ⟨undef, rfl, Below.refl _ _, cond_no hg⟩)
            · exact op_guard (g := true) (x := false) rfl rfl rfl ((f 166 rfl (by decide)).trans (hq 21 166 rfl rfl)) (fun hg => op_val (w' := w') (v := .int .i64 (q : Int)) (run_moveB rfl ((frm_out rfl).trans a25)) (Below.refl _ _) (cond_yes hg).symm) (fun hg => ⟨undef, rfl, Below.refl _ _, cond_no hg⟩)
            · exact op_guard (g := true) (x := false) rfl rfl rfl ((f 166 rfl (by decide)).trans (hq 21 166 rfl rfl)) (fun hg => op_val (w' := w') (v := .pointer (some ⟨r3, q, none⟩)) (run_idxB rfl (((f 167 rfl (by decide)).trans (hq 22 167 rfl rfl)).trans (cond_yes hg)) (((f 168 rfl (by decide)).trans (hq 23 168 rfl rfl)).trans (cond_yes hg)) hxq) (Below.refl _ _) (cond_yes hg).symm) (fun hg => ⟨undef, rfl, Below.refl _ _, cond_no hg⟩)
            · exact op_guard (g := true) (x := false) rfl rfl rfl ((f 166 rfl (by decide)).trans (hq 21 166 rfl rfl)) (fun hg => op_val (w' := w') (v := .bool (b1 && (b0 || k3))) (run_loadB rfl (((f 169 rfl (by decide)).trans (hq 24 169 rfl rfl)).trans (cond_yes hg)) (c3 w' hb)) (Below.refl _ _) (cond_yes hg).symm) (fun hg => ⟨undef, rfl, Below.refl _ _, cond_no hg⟩)
            · exact op_guard (g := true) (x := false) rfl rfl rfl ((f 166 rfl (by decide)).trans (hq 21 166 rfl rfl)) (fun hg => op_val (w' := w') (v := .slice (some ⟨r1, 0, none⟩) nm nm) (run_moveB rfl ((frm_out rfl).trans a13)) (Below.refl _ _) (cond_yes hg).symm) (fun hg => ⟨undef, rfl, Below.refl _ _, cond_no hg⟩)
            · exact op_guard (g := true) (x := false) rfl rfl rfl ((f 166 rfl (by decide)).trans (hq 21 166 rfl rfl)) (fun hg => op_val (w' := w') (v := .int .i64 (q : Int)) (run_moveB rfl ((frm_out rfl).trans a25)) (Below.refl _ _) (cond_yes hg).symm) (fun hg => ⟨undef, rfl, Below.refl _ _, cond_no hg⟩)
            · exact op_guard (g := true) (x := false) rfl rfl rfl ((f 166 rfl (by decide)).trans (hq 21 166 rfl rfl)) (fun hg => op_val (w' := w') (v := .pointer (some ⟨r1, q, none⟩)) (run_idxB rfl (((f 171 rfl (by decide)).trans (hq 26 171 rfl rfl)).trans (cond_yes hg)) (((f 172 rfl (by decide)).trans (hq 27 172 rfl rfl)).trans (cond_yes hg)) hxq) (Below.refl _ _) (cond_yes hg).symm) (fun hg => ⟨undef, rfl, Below.refl _ _, cond_no hg⟩)
            · exact op_guard (g := true) (x := false) rfl rfl rfl ((f 166 rfl (by decide)).trans (hq 21 166 rfl rfl)) (fun hg => op_val (w' := w') (v := .bool b1) (run_loadB rfl (((f 173 rfl (by decide)).trans (hq 28 173 rfl rfl)).trans (cond_yes hg)) (c1 w' hb)) (Below.refl _ _) (cond_yes hg).symm) (fun hg => ⟨undef, rfl, Below.refl _ _, cond_no hg⟩)
            · exact op_guard (g := true) (x := false) rfl rfl rfl ((f 166 rfl (by decide)).trans (hq 21 166 rfl rfl)) (fun hg => op_val (w' := w') (v := .bool b1) (run_moveB rfl (((f 174 rfl (by decide)).trans (hq 29 174 rfl rfl)).trans (cond_yes hg))) (Below.refl _ _) (cond_yes hg).symm) (fun hg => ⟨undef, rfl, Below.refl _ _, cond_no hg⟩)
            · exact op_guard (g := (true && (false == false))) (x := b1) rfl rfl rfl ((f 175 rfl (by decide)).trans (hq 30 175 rfl rfl)) (fun hg => op_val (w' := w') (v := .slice (some ⟨r0, 0, none⟩) nm nm) (run_moveB rfl ((frm_out rfl).trans a11)) (Below.refl _ _) (cond_yes hg).symm) (fun hg => ⟨undef, rfl, Below.refl _ _, cond_no hg⟩)
            · exact op_guard (g := (true && (false == false))) (x := b1) rfl rfl rfl ((f 175 rfl (by decide)).trans (hq 30 175 rfl rfl)) (fun hg => op_val (w' := w') (v := .int .i64 (q : Int)) (run_moveB rfl ((frm_out rfl).trans a25)) (Below.refl _ _) (cond_yes hg).symm) (fun hg => ⟨undef, rfl, Below.refl _ _, cond_no hg⟩)
            · exact op_guard (g := (true && (false == false))) (x := b1) rfl rfl rfl ((f 175 rfl (by decide)).trans (hq 30 175 rfl rfl)) (fun hg => op_val (w' := w') (v := .pointer (some ⟨r0, q, none⟩)) (run_idxB rfl (((f 176 rfl (by decide)).trans (hq 31 176 rfl rfl)).trans (cond_yes hg)) (((f 177 rfl (by decide)).trans (hq 32 177 rfl rfl)).trans (cond_yes hg)) hxq) (Below.refl _ _) (cond_yes hg).symm) (fun hg => ⟨undef, rfl, Below.refl _ _, cond_no hg⟩)
            · exact op_guard (g := (true && (false == false))) (x := b1) rfl rfl rfl ((f 175 rfl (by decide)).trans (hq 30 175 rfl rfl)) (fun hg => op_val (w' := w') (v := .bool b0) (run_loadB rfl (((f 178 rfl (by decide)).trans (hq 33 178 rfl rfl)).trans (cond_yes hg)) (c0 w' hb)) (Below.refl _ _) (cond_yes hg).symm) (fun hg => ⟨undef, rfl, Below.refl _ _, cond_no hg⟩)
            · exact op_guard (g := (true && (false == false))) (x := b1) rfl rfl rfl ((f 175 rfl (by decide)).trans (hq 30 175 rfl rfl)) (fun hg => op_val (w' := w') (v := .bool b0) (run_moveB rfl (((f 179 rfl (by decide)).trans (hq 34 179 rfl rfl)).trans (cond_yes hg))) (Below.refl _ _) (cond_yes hg).symm) (fun hg => ⟨undef, rfl, Below.refl _ _, cond_no hg⟩)
            · exact op_guard (g := ((true && (false == false)) && (b1 == true))) (x := b0) rfl rfl rfl ((f 180 rfl (by decide)).trans (hq 35 180 rfl rfl)) (fun hg => op_val (w' := w') (v := .slice (some ⟨r3, 0, none⟩) nm nm) (run_moveB rfl ((frm_out rfl).trans a17)) (Below.refl _ _) (cond_yes hg).symm) (fun hg => ⟨undef, rfl, Below.refl _ _, cond_no hg⟩)
            · exact op_guard (g := ((true && (false == false)) && (b1 == true))) (x := b0) rfl rfl rfl ((f 180 rfl (by decide)).trans (hq 35 180 rfl rfl)) (fun hg => op_val (w' := w') (v := .int .i64 (kk : Int)) (run_moveB rfl ((frm_out rfl).trans a26)) (Below.refl _ _) (cond_yes hg).symm) (fun hg => ⟨undef, rfl, Below.refl _ _, cond_no hg⟩)
            · exact op_guard (g := ((true && (false == false)) && (b1 == true))) (x := b0) rfl rfl rfl ((f 180 rfl (by decide)).trans (hq 35 180 rfl rfl)) (fun hg => op_val (w' := w') (v := .pointer (some ⟨r3, kk, none⟩)) (run_idxB rfl (((f 181 rfl (by decide)).trans (hq 36 181 rfl rfl)).trans (cond_yes hg)) (((f 182 rfl (by decide)).trans (hq 37 182 rfl rfl)).trans (cond_yes hg)) hxkk) (Below.refl _ _) (cond_yes hg).symm) (fun hg => ⟨undef, rfl, Below.refl _ _, cond_no hg⟩)
            · exact op_guard (g := ((true && (false == false)) && (b1 == true))) (x := b0) rfl rfl rfl ((f 180 rfl (by decide)).trans (hq 35 180 rfl rfl)) (fun hg => op_val (w' := w') (v := .bool k3) (run_loadB rfl (((f 183 rfl (by decide)).trans (hq 38 183 rfl rfl)).trans (cond_yes hg)) (d3 w' hb)) (Below.refl _ _) (cond_yes hg).symm) (fun hg => ⟨undef, rfl, Below.refl _ _, cond_no hg⟩)
            · exact op_guard (g := (true && (false == false))) (x := b1) rfl rfl rfl ((f 175 rfl (by decide)).trans (hq 30 175 rfl rfl)) (fun hg => op_val (w' := w') (v := .bool (b0 || k3)) (run_pickB rfl (((f 180 rfl (by decide)).trans (hq 35 180 rfl rfl)).trans (cond_yes hg)) (by rw [((f 184 rfl (by decide)).trans (hq 39 184 rfl rfl)), evc]; exact now1_pk40 b0 b1 k3 hg)) (Below.refl _ _) (cond_yes hg).symm) (fun hg => ⟨undef, rfl, Below.refl _ _, cond_no hg⟩)
            · exact op_guard (g := true) (x := false) rfl rfl rfl ((f 166 rfl (by decide)).trans (hq 21 166 rfl rfl)) (fun hg => op_val (w' := w') (v := .bool (b1 && (b0 || k3))) (run_pickB rfl (((f 175 rfl (by decide)).trans (hq 30 175 rfl rfl)).trans (cond_yes hg)) (by rw [((f 185 rfl (by decide)).trans (hq 40 185 rfl rfl)), evc]; exact now1_pk41 b0 b1 k3 hg)) (Below.refl _ _) (cond_yes hg).symm) (fun hg => ⟨undef, rfl, Below.refl _ _, cond_no hg⟩)
            · exact op_guard (g := true) (x := false) rfl rfl rfl ((f 166 rfl (by decide)).trans (hq 21 166 rfl rfl)) (fun hg => op_val (w' := w') (v := .bool false) (run_neqB rfl (((f 170 rfl (by decide)).trans (hq 25 170 rfl rfl)).trans (cond_yes hg)) (((f 186 rfl (by decide)).trans (hq 41 186 rfl rfl)).trans (cond_yes hg)) (now1_ne42 b0 b1 k3)) (Below.refl _ _) (cond_yes hg).symm) (fun hg => ⟨undef, rfl, Below.refl _ _, cond_no hg⟩)
            · exact op_plain rfl rfl (op_val (w' := w') (v := .bool false) (run_pickB rfl ((f 166 rfl (by decide)).trans (hq 21 166 rfl rfl)) (by rw [((f 187 rfl (by decide)).trans (hq 42 187 rfl rfl)), evc]; exact now1_pk43 )) (Below.refl _ _) rfl)
            · exact op_plain rfl rfl (op_val (w' := w') (v := .bool false) (run_moveB rfl ((f 188 rfl (by decide)).trans (hq 43 188 rfl rfl))) (Below.refl _ _) rfl)
            · exact op_guard (g := true) (x := false) rfl rfl rfl ((f 189 rfl (by decide)).trans (hq 44 189 rfl rfl)) (fun hg => op_val (w' := w') (v := .slice (some ⟨r4, 0, none⟩) nm nm) (run_moveB rfl ((frm_out rfl).trans a19)) (Below.refl _ _) (cond_yes hg).symm) (fun hg => ⟨undef, rfl, Below.refl _ _, cond_no hg⟩)
            · exact op_guard (g := true) (x := false) rfl rfl rfl ((f 189 rfl (by decide)).trans (hq 44 189 rfl rfl)) (fun hg => op_val (w' := w') (v := .int .i64 (q : Int)) (run_moveB rfl ((frm_out rfl).trans a25)) (Below.refl _ _) (cond_yes hg).symm) (fun hg => ⟨undef, rfl, Below.refl _ _, cond_no hg⟩)
            · exact op_guard (g := true) (x := false) rfl rfl rfl ((f 189 rfl (by decide)).trans (hq 44 189 rfl rfl)) (fun hg => op_val (w' := w') (v := .pointer (some ⟨r4, q, none⟩)) (run_idxB rfl (((f 190 rfl (by decide)).trans (hq 45 190 rfl rfl)).trans (cond_yes hg)) (((f 191 rfl (by decide)).trans (hq 46 191 rfl rfl)).trans (cond_yes hg)) hxq) (Below.refl _ _) (cond_yes hg).symm) (fun hg => ⟨undef, rfl, Below.refl _ _, cond_no hg⟩)
            · exact op_guard (g := true) (x := false) rfl rfl rfl ((f 189 rfl (by decide)).trans (hq 44 189 rfl rfl)) (fun hg => op_val (w' := w') (v := .bool (b0 || k4)) (run_loadB rfl (((f 192 rfl (by decide)).trans (hq 47 192 rfl rfl)).trans (cond_yes hg)) (c4 w' hb)) (Below.refl _ _) (cond_yes hg).symm) (fun hg => ⟨undef, rfl, Below.refl _ _, cond_no hg⟩)
            · exact op_guard (g := true) (x := false) rfl rfl rfl ((f 189 rfl (by decide)).trans (hq 44 189 rfl rfl)) (fun hg => op_val (w' := w') (v := .slice (some ⟨r0, 0, none⟩) nm nm) (run_moveB rfl ((frm_out rfl).trans a11)) (Below.refl _ _) (cond_yes hg).symm) (fun hg => ⟨undef, rfl, Below.refl _ _, cond_no hg⟩)
            · exact op_guard (g := true) (x := false) rfl rfl rfl ((f 189 rfl (by decide)).trans (hq 44 189 rfl rfl)) (fun hg => op_val (w' := w') (v := .int .i64 (q : Int)) (run_moveB rfl ((frm_out rfl).trans a25)) (Below.refl _ _) (cond_yes hg).symm) (fun hg => ⟨undef, rfl, Below.refl _ _, cond_no hg⟩)
            · exact op_guard (g := true) (x := false) rfl rfl rfl ((f 189 rfl (by decide)).trans (hq 44 189 rfl rfl)) (fun hg => op_val (w' := w') (v := .pointer (some ⟨r0, q, none⟩)) (run_idxB rfl (((f 194 rfl (by decide)).trans (hq 49 194 rfl rfl)).trans (cond_yes hg)) (((f 195 rfl (by decide)).trans (hq 50 195 rfl rfl)).trans (cond_yes hg)) hxq) (Below.refl _ _) (cond_yes hg).symm) (fun hg => ⟨undef, rfl, Below.refl _ _, cond_no hg⟩)
            · exact op_guard (g := true) (x := false) rfl rfl rfl ((f 189 rfl (by decide)).trans (hq 44 189 rfl rfl)) (fun hg => op_val (w' := w') (v := .bool b0) (run_loadB rfl (((f 196 rfl (by decide)).trans (hq 51 196 rfl rfl)).trans (cond_yes hg)) (c0 w' hb)) (Below.refl _ _) (cond_yes hg).symm) (fun hg => ⟨undef, rfl, Below.refl _ _, cond_no hg⟩)
            · exact op_guard (g := true) (x := false) rfl rfl rfl ((f 189 rfl (by decide)).trans (hq 44 189 rfl rfl)) (fun hg => op_val (w' := w') (v := .bool b0) (run_moveB rfl (((f 197 rfl (by decide)).trans (hq 52 197 rfl rfl)).trans (cond_yes hg))) (Below.refl _ _) (cond_yes hg).symm) (fun hg => ⟨undef, rfl, Below.refl _ _, cond_no hg⟩)
            · exact op_guard (g := (true && (false == false))) (x := b0) rfl rfl rfl ((f 198 rfl (by decide)).trans (hq 53 198 rfl rfl)) (fun hg => op_val (w' := w') (v := .slice (some ⟨r4, 0, none⟩) nm nm) (run_moveB rfl ((frm_out rfl).trans a19)) (Below.refl _ _) (cond_yes hg).symm) (fun hg => ⟨undef, rfl, Below.refl _ _, cond_no hg⟩)
            · exact op_guard (g := (true && (false == false))) (x := b0) rfl rfl rfl ((f 198 rfl (by decide)).trans (hq 53 198 rfl rfl)) (fun hg => op_val (w' := w') (v := .int .i64 (kk : Int)) (run_moveB rfl ((frm_out rfl).trans a26)) (Below.refl _ _) (cond_yes hg).symm) (fun hg => ⟨undef, rfl, Below.refl _ _, cond_no hg⟩)
            · exact op_guard (g := (true && (false == false))) (x := b0) rfl rfl rfl ((f 198 rfl (by decide)).trans (hq 53 198 rfl rfl)) (fun hg => op_val (w' := w') (v := .pointer (some ⟨r4, kk, none⟩)) (run_idxB rfl (((f 199 rfl (by decide)).trans (hq 54 199 rfl rfl)).trans (cond_yes hg)) (((f 200 rfl (by decide)).trans (hq 55 200 rfl rfl)).trans (cond_yes hg)) hxkk) (Below.refl _ _) (cond_yes hg).symm) (fun hg => ⟨undef, rfl, Below.refl _ _, cond_no hg⟩)
            · exact op_guard (g := (true && (false == false))) (x := b0) rfl rfl rfl ((f 198 rfl (by decide)).trans (hq 53 198 rfl rfl)) (fun hg => op_val (w' := w') (v := .bool k4) (run_loadB rfl (((f 201 rfl (by decide)).trans (hq 56 201 rfl rfl)).trans (cond_yes hg)) (d4 w' hb)) (Below.refl _ _) (cond_yes hg).symm) (fun hg => ⟨undef, rfl, Below.refl _ _, cond_no hg⟩)
            · exact op_guard (g := true) (x := false) rfl rfl rfl ((f 189 rfl (by decide)).trans (hq 44 189 rfl rfl)) (fun hg => op_val (w' := w') (v := .bool (b0 || k4)) (run_pickB rfl (((f 198 rfl (by decide)).trans (hq 53 198 rfl rfl)).trans (cond_yes hg)) (by rw [((f 202 rfl (by decide)).trans (hq 57 202 rfl rfl)), evc]; exact now1_pk58 b0 k4 hg)) (Below.refl _ _) (cond_yes hg).symm) (fun hg => ⟨undef, rfl, Below.refl _ _, cond_no hg⟩)
            · exact op_guard (g := true) (x := false) rfl rfl rfl ((f 189 rfl (by decide)).trans (hq 44 189 rfl rfl)) (fun hg => op_val (w' := w') (v := .bool false) (run_neqB rfl (((f 193 rfl (by decide)).trans (hq 48 193 rfl rfl)).trans (cond_yes hg)) (((f 203 rfl (by decide)).trans (hq 58 203 rfl rfl)).trans (cond_yes hg)) (now1_ne59 b0 k4)) (Below.refl _ _) (cond_yes hg).symm) (fun hg => ⟨undef, rfl, Below.refl _ _, cond_no hg⟩)
            · exact op_plain rfl rfl (op_val (w' := w') (v := .bool false) (run_pickB rfl ((f 189 rfl (by decide)).trans (hq 44 189 rfl rfl)) (by rw [((f 204 rfl (by decide)).trans (hq 59 204 rfl rfl)), evc]; exact now1_pk60 )) (Below.refl _ _) rfl)
            · exact op_plain rfl rfl (op_val (w' := w') (v := .bool false) (run_moveB rfl ((f 205 rfl (by decide)).trans (hq 60 205 rfl rfl))) (Below.refl _ _) rfl)
            · exact op_guard (g := true) (x := false) rfl rfl rfl ((f 206 rfl (by decide)).trans (hq 61 206 rfl rfl)) (fun hg => op_val (w' := w') (v := .slice (some ⟨r5, 0, none⟩) nm nm) (run_moveB rfl ((frm_out rfl).trans a21)) (Below.refl _ _) (cond_yes hg).symm) (fun hg => ⟨undef, rfl, Below.refl _ _, cond_no hg⟩)
            · exact op_guard (g := true) (x := false) rfl rfl rfl ((f 206 rfl (by decide)).trans (hq 61 206 rfl rfl)) (fun hg => op_val (w' := w') (v := .int .i64 (q : Int)) (run_moveB rfl ((frm_out rfl).trans a25)) (Below.refl _ _) (cond_yes hg).symm) (fun hg => ⟨undef, rfl, Below.refl _ _, cond_no hg⟩)
            · exact op_guard (g := true) (x := false) rfl rfl rfl ((f 206 rfl (by decide)).trans (hq 61 206 rfl rfl)) (fun hg => op_val (w' := w') (v := .pointer (some ⟨r5, q, none⟩)) (run_idxB rfl (((f 207 rfl (by decide)).trans (hq 62 207 rfl rfl)).trans (cond_yes hg)) (((f 208 rfl (by decide)).trans (hq 63 208 rfl rfl)).trans (cond_yes hg)) hxq) (Below.refl _ _) (cond_yes hg).symm) (fun hg => ⟨undef, rfl, Below.refl _ _, cond_no hg⟩)
            · exact op_guard (g := true) (x := false) rfl rfl rfl ((f 206 rfl (by decide)).trans (hq 61 206 rfl rfl)) (fun hg => op_val (w' := w') (v := .bool (b0 && k5)) (run_loadB rfl (((f 209 rfl (by decide)).trans (hq 64 209 rfl rfl)).trans (cond_yes hg)) (c5 w' hb)) (Below.refl _ _) (cond_yes hg).symm) (fun hg => ⟨undef, rfl, Below.refl _ _, cond_no hg⟩)
            · exact op_guard (g := true) (x := false) rfl rfl rfl ((f 206 rfl (by decide)).trans (hq 61 206 rfl rfl)) (fun hg => op_val (w' := w') (v := .slice (some ⟨r0, 0, none⟩) nm nm) (run_moveB rfl ((frm_out rfl).trans a11)) (Below.refl _ _) (cond_yes hg).symm) (fun hg => ⟨undef, rfl, Below.refl _ _, cond_no hg⟩)
            · exact op_guard (g := true) (x := false) rfl rfl rfl ((f 206 rfl (by decide)).trans (hq 61 206 rfl rfl)) (fun hg => op_val (w' := w') (v := .int .i64 (q : Int)) (run_moveB rfl ((frm_out rfl).trans a25)) (Below.refl _ _) (cond_yes hg).symm) (fun hg => ⟨undef, rfl, Below.refl _ _, cond_no hg⟩)
            · exact op_guard (g := true) (x := false) rfl rfl rfl ((f 206 rfl (by decide)).trans (hq 61 206 rfl rfl)) (fun hg => op_val (w' := w') (v := .pointer (some ⟨r0, q, none⟩)) (run_idxB rfl (((f 211 rfl (by decide)).trans (hq 66 211 rfl rfl)).trans (cond_yes hg)) (((f 212 rfl (by decide)).trans (hq 67 212 rfl rfl)).trans (cond_yes hg)) hxq) (Below.refl _ _) (cond_yes hg).symm) (fun hg => ⟨undef, rfl, Below.refl _ _, cond_no hg⟩)
            · exact op_guard (g := true) (x := false) rfl rfl rfl ((f 206 rfl (by decide)).trans (hq 61 206 rfl rfl)) (fun hg => op_val (w' := w') (v := .bool b0) (run_loadB rfl (((f 213 rfl (by decide)).trans (hq 68 213 rfl rfl)).trans (cond_yes hg)) (c0 w' hb)) (Below.refl _ _) (cond_yes hg).symm) (fun hg => ⟨undef, rfl, Below.refl _ _, cond_no hg⟩)
            · exact op_guard (g := true) (x := false) rfl rfl rfl ((f 206 rfl (by decide)).trans (hq 61 206 rfl rfl)) (fun hg => op_val (w' := w') (v := .bool b0) (run_moveB rfl (((f 214 rfl (by decide)).trans (hq 69 214 rfl rfl)).trans (cond_yes hg))) (Below.refl _ _) (cond_yes hg).symm) (fun hg => ⟨undef, rfl, Below.refl _ _, cond_no hg⟩)
            · exact op_guard (g := (true && (false == false))) (x := b0) rfl rfl rfl ((f 215 rfl (by decide)).trans (hq 70 215 rfl rfl)) (fun hg => op_val (w' := w') (v := .slice (some ⟨r5, 0, none⟩) nm nm) (run_moveB rfl ((frm_out rfl).trans a21)) (Below.refl _ _) (cond_yes hg).symm) (fun hg => ⟨undef, rfl, Below.refl _ _, cond_no hg⟩)
            · exact op_guard (g := (true && (false == false))) (x := b0) rfl rfl rfl ((f 215 rfl (by decide)).trans (hq 70 215 rfl rfl)) (fun hg => op_val (w' := w') (v := .int .i64 (kk : Int)) (run_moveB rfl ((frm_out rfl).trans a26)) (Below.refl _ _) (cond_yes hg).symm) (fun hg => ⟨undef, rfl, Below.refl _ _, cond_no hg⟩)
            · exact op_guard (g := (true && (false == false))) (x := b0) rfl rfl rfl ((f 215 rfl (by decide)).trans (hq 70 215 rfl rfl)) (fun hg => op_val (w' := w') (v := .pointer (some ⟨r5, kk, none⟩)) (run_idxB rfl (((f 216 rfl (by decide)).trans (hq 71 216 rfl rfl)).trans (cond_yes hg)) (((f 217 rfl (by decide)).trans (hq 72 217 rfl rfl)).trans (cond_yes hg)) hxkk) (Below.refl _ _) (cond_yes hg).symm) (fun hg => ⟨undef, rfl, Below.refl _ _, cond_no hg⟩)
            · exact op_guard (g := (true && (false == false))) (x := b0) rfl rfl rfl ((f 215 rfl (by decide)).trans (hq 70 215 rfl rfl)) (fun hg => op_val (w' := w') (v := .bool k5) (run_loadB rfl (((f 218 rfl (by decide)).trans (hq 73 218 rfl rfl)).trans (cond_yes hg)) (d5 w' hb)) (Below.refl _ _) (cond_yes hg).symm) (fun hg => ⟨undef, rfl, Below.refl _ _, cond_no hg⟩)
            · exact op_guard (g := true) (x := false) rfl rfl rfl ((f 206 rfl (by decide)).trans (hq 61 206 rfl rfl)) (fun hg => op_val (w' := w') (v := .bool (b0 && k5)) (run_pickB rfl (((f 215 rfl (by decide)).trans (hq 70 215 rfl rfl)).trans (cond_yes hg)) (by rw [((f 219 rfl (by decide)).trans (hq 74 219 rfl rfl)), evc]; exact now1_pk75 b0 k5 hg)) (Below.refl _ _) (cond_yes hg).symm) (fun hg => ⟨undef, rfl, Below.refl _ _, cond_no hg⟩)
            · exact op_guard (g := true) (x := false) rfl rfl rfl ((f 206 rfl (by decide)).trans (hq 61 206 rfl rfl)) (fun hg => op_val (w' := w') (v := .bool false) (run_neqB rfl (((f 210 rfl (by decide)).trans (hq 65 210 rfl rfl)).trans (cond_yes hg)) (((f 220 rfl (by decide)).trans (hq 75 220 rfl rfl)).trans (cond_yes hg)) (now1_ne76 b0 k5)) (Below.refl _ _) (cond_yes hg).symm) (fun hg => ⟨undef, rfl, Below.refl _ _, cond_no hg⟩)
            · exact op_plain rfl rfl (op_val (w' := w') (v := .bool false) (run_pickB rfl ((f 206 rfl (by decide)).trans (hq 61 206 rfl rfl)) (by rw [((f 221 rfl (by decide)).trans (hq 76 221 rfl rfl)), evc]; exact now1_pk77 )) (Below.refl _ _) rfl)
            · exact op_plain rfl rfl (op_val (w' := w') (v := .bool false) (run_moveB rfl ((f 222 rfl (by decide)).trans (hq 77 222 rfl rfl))) (Below.refl _ _) rfl)
            · exact op_guard (g := true) (x := false) rfl rfl rfl ((f 223 rfl (by decide)).trans (hq 78 223 rfl rfl)) (fun hg => op_val (w' := w') (v := .slice (some ⟨r6, 0, none⟩) nm nm) (run_moveB rfl ((frm_out rfl).trans a23)) (Below.refl _ _) (cond_yes hg).symm) (fun hg => ⟨undef, rfl, Below.refl _ _, cond_no hg⟩)
            · exact op_guard (g := true) (x := false) rfl rfl rfl ((f 223 rfl (by decide)).trans (hq 78 223 rfl rfl)) (fun hg => op_val (w' := w') (v := .int .i64 (q : Int)) (run_moveB rfl ((frm_out rfl).trans a25)) (Below.refl _ _) (cond_yes hg).symm) (fun hg => ⟨undef, rfl, Below.refl _ _, cond_no hg⟩)
            · exact op_guard (g := true) (x := false) rfl rfl rfl ((f 223 rfl (by decide)).trans (hq 78 223 rfl rfl)) (fun hg => op_val (w' := w') (v := .pointer (some ⟨r6, q, none⟩)) (run_idxB rfl (((f 224 rfl (by decide)).trans (hq 79 224 rfl rfl)).trans (cond_yes hg)) (((f 225 rfl (by decide)).trans (hq 80 225 rfl rfl)).trans (cond_yes hg)) hxq) (Below.refl _ _) (cond_yes hg).symm) (fun hg => ⟨undef, rfl, Below.refl _ _, cond_no hg⟩)
            · exact op_guard (g := true) (x := false) rfl rfl rfl ((f 223 rfl (by decide)).trans (hq 78 223 rfl rfl)) (fun hg => op_val (w' := w') (v := .bool k0) (run_loadB rfl (((f 226 rfl (by decide)).trans (hq 81 226 rfl rfl)).trans (cond_yes hg)) (c6 w' hb)) (Below.refl _ _) (cond_yes hg).symm) (fun hg => ⟨undef, rfl, Below.refl _ _, cond_no hg⟩)
            · exact op_guard (g := true) (x := false) rfl rfl rfl ((f 223 rfl (by decide)).trans (hq 78 223 rfl rfl)) (fun hg => op_val (w' := w') (v := .slice (some ⟨r0, 0, none⟩) nm nm) (run_moveB rfl ((frm_out rfl).trans a11)) (Below.refl _ _) (cond_yes hg).symm) (fun hg => ⟨undef, rfl, Below.refl _ _, cond_no hg⟩)
            · exact op_guard (g := true) (x := false) rfl rfl rfl ((f 223 rfl (by decide)).trans (hq 78 223 rfl rfl)) (fun hg => op_val (w' := w') (v := .int .i64 (kk : Int)) (run_moveB rfl ((frm_out rfl).trans a26)) (Below.refl _ _) (cond_yes hg).symm) (fun hg => ⟨undef, rfl, Below.refl _ _, cond_no hg⟩)
            · exact op_guard (g := true) (x := false) rfl rfl rfl ((f 223 rfl (by decide)).trans (hq 78 223 rfl rfl)) (fun hg => op_val (w' := w') (v := .pointer (some ⟨r0, kk, none⟩)) (run_idxB rfl (((f 228 rfl (by decide)).trans (hq 83 228 rfl rfl)).trans (cond_yes hg)) (((f 229 rfl (by decide)).trans (hq 84 229 rfl rfl)).trans (cond_yes hg)) hxkk) (Below.refl _ _) (cond_yes hg).symm) (fun hg => ⟨undef, rfl, Below.refl _ _, cond_no hg⟩)
            · exact op_guard (g := true) (x := false) rfl rfl rfl ((f 223 rfl (by decide)).trans (hq 78 223 rfl rfl)) (fun hg => op_val (w' := w') (v := .bool k0) (run_loadB rfl (((f 230 rfl (by decide)).trans (hq 85 230 rfl rfl)).trans (cond_yes hg)) (d0 w' hb)) (Below.refl _ _) (cond_yes hg).symm) (fun hg => ⟨undef, rfl, Below.refl _ _, cond_no hg⟩)
            · exact op_guard (g := true) (x := false) rfl rfl rfl ((f 223 rfl (by decide)).trans (hq 78 223 rfl rfl)) (fun hg => op_val (w' := w') (v := .bool false) (run_neqB rfl (((f 227 rfl (by decide)).trans (hq 82 227 rfl rfl)).trans (cond_yes hg)) (((f 231 rfl (by decide)).trans (hq 86 231 rfl rfl)).trans (cond_yes hg)) (now1_ne87 k0)) (Below.refl _ _) (cond_yes hg).symm) (fun hg => ⟨undef, rfl, Below.refl _ _, cond_no hg⟩)
          · intro q' w' hb hq
            have f : ∀ t, [145, 146, 147, 148, 149, 150, 151, 152, 153, 154, 155, 156, 157, 158, 159, 160, 161, 162, 163, 164, 165, 166, 167, 168, 169, 170, 171, 172, 173, 174, 175, 176, 177, 178, 179, 180, 181, 182, 183, 184, 185, 186, 187, 188, 189, 190, 191, 192, 193, 194, 195, 196, 197, 198, 199, 200, 201, 202, 203, 204, 205, 206, 207, 208, 209, 210, 211, 212, 213, 214, 215, 216, 217, 218, 219, 220, 221, 222, 223, 224, 225, 226, 227, 228, 229, 230, 231, 232, 233].contains t = true → t < 272 → (frm a0 [145, 146, 147, 148, 149, 150, 151, 152, 153, 154, 155, 156, 157, 158, 159, 160, 161, 162, 163, 164, 165, 166, 167, 168, 169, 170, 171, 172, 173, 174, 175, 176, 177, 178, 179, 180, 181, 182, 183, 184, 185, 186, 187, 188, 189, 190, 191, 192, 193, 194, 195, 196, 197, 198, 199, 200, 201, 202, 203, 204, 205, 206, 207, 208, 209, 210, 211, 212, 213, 214, 215, 216, 217, 218, 219, 220, 221, 222, 223, 224, 225, 226, 227, 228, 229, 230, 231, 232, 233] q').eval (.tmp t) = q' t := fun t h1 h2 => frm_in h1 (by rw [hsz]; exact h2)
            have evc : ∀ v, (frm a0 [145, 146, 147, 148, 149, 150, 151, 152, 153, 154, 155, 156, 157, 158, 159, 160, 161, 162, 163, 164, 165, 166, 167, 168, 169, 170, 171, 172, 173, 174, 175, 176, 177, 178, 179, 180, 181, 182, 183, 184, 185, 186, 187, 188, 189, 190, 191, 192, 193, 194, 195, 196, 197, 198, 199, 200, 201, 202, 203, 204, 205, 206, 207, 208, 209, 210, 211, 212, 213, 214, 215, 216, 217, 218, 219, 220, 221, 222, 223, 224, 225, 226, 227, 228, 229, 230, 231, 232, 233] q').eval (.const v) = v := fun v => rfl
            show wpOps Tryd.prog _ _ [88] _ _
            rw [wpOps_cons]
            refine op_at rfl rfl ?_
            refine op_run (w' := w') (v := .bool false) (run_pickB rfl ((f 223 rfl (by decide)).trans (hq 78 223 (by decide) rfl)) (by rw [((f 232 rfl (by decide)).trans (hq 87 232 (by decide) rfl)), evc]; exact now1_pk88 )) ?_
            rw [late_put 233 rfl rfl]
            show K' _ _
            refine hK' _ _ ?_
            rw [← ha0]
            go_meet
            exact ⟨(setV_same q' 233 _).trans (now1_last ), hb⟩
        case rest =>
          obtain ⟨rfl, HBx⟩ := hcut
          clear c0 c1 c2 c3 c4 c5 c6 d0 d2 d3 d4 d5
          go_upto_region 22 with fail
          obtain ⟨wx, hwx⟩ : ∃ wx, wx = wc := ⟨_, rfl⟩
          rw [← hwx] at HBx ⊢
          clear hwx
          have c0 := fun (w' : World) (hb : Below wx.heap.size wx w') => C0.out w' (HBx.out.trans (hb.mono HBx.out.size))
          have c1 := fun (w' : World) (hb : Below wx.heap.size wx w') => C1.out w' (HBx.out.trans (hb.mono HBx.out.size))
          have c2 := fun (w' : World) (hb : Below wx.heap.size wx w') => C2.out w' (HBx.out.trans (hb.mono HBx.out.size))
          have c3 := fun (w' : World) (hb : Below wx.heap.size wx w') => C3.out w' (HBx.out.trans (hb.mono HBx.out.size))
          have c4 := fun (w' : World) (hb : Below wx.heap.size wx w') => C4.out w' (HBx.out.trans (hb.mono HBx.out.size))
          have c5 := fun (w' : World) (hb : Below wx.heap.size wx w') => C5.out w' (HBx.out.trans (hb.mono HBx.out.size))
          have c6 := fun (w' : World) (hb : Below wx.heap.size wx w') => C6.out w' (HBx.out.trans (hb.mono HBx.out.size))
          have d0 := fun (w' : World) (hb : Below wx.heap.size wx w') => D0.out w' (HBx.out.trans (hb.mono HBx.out.size))
          have d2 := fun (w' : World) (hb : Below wx.heap.size wx w') => D2.out w' (HBx.out.trans (hb.mono HBx.out.size))
          have d3 := fun (w' : World) (hb : Below wx.heap.size wx w') => D3.out w' (HBx.out.trans (hb.mono HBx.out.size))
          have d4 := fun (w' : World) (hb : Below wx.heap.size wx w') => D4.out w' (HBx.out.trans (hb.mono HBx.out.size))
          have d5 := fun (w' : World) (hb : Below wx.heap.size wx w') => D5.out w' (HBx.out.trans (hb.mono HBx.out.size))
          go_cut [271] from 132 to 271 (fun sv wv => sv = .bool false ∧ Hid (Below wx.heap.size wx wv))
          case first =>
            rename_i J K' hJ hK'
            generalize ha0 : Act.mk _ _ = a0
            have hsz : a0.tmps.size = 272 := by rw [← ha0]; rfl
            have a11 : a0.eval (.tmp 11) = .slice (some ⟨r0, 0, none⟩) nm nm := by rw [← ha0]; rfl
            have a13 : a0.eval (.tmp 13) = .slice (some ⟨r1, 0, none⟩) nm nm := by rw [← ha0]; rfl
            have a15 : a0.eval (.tmp 15) = .slice (some ⟨r2, 0, none⟩) nm nm := by rw [← ha0]; rfl
            have a17 : a0.eval (.tmp 17) = .slice (some ⟨r3, 0, none⟩) nm nm := by rw [← ha0]; rfl
            have a19 : a0.eval (.tmp 19) = .slice (some ⟨r4, 0, none⟩) nm nm := by rw [← ha0]; rfl
            have a21 : a0.eval (.tmp 21) = .slice (some ⟨r5, 0, none⟩) nm nm := by rw [← ha0]; rfl
            have a23 : a0.eval (.tmp 23) = .slice (some ⟨r6, 0, none⟩) nm nm := by rw [← ha0]; rfl
            have a25 : a0.eval (.tmp 25) = .int .i64 (q : Int) := by rw [← ha0]; rfl
            have a26 : a0.eval (.tmp 26) = .int .i64 (kk : Int) := by rw [← ha0]; first | rfl | (show Value.int _ _ = _; congr 1)
            refine wp_inorderG [234, 235, 236, 237, 238, 239, 240, 241, 242, 243, 244, 245, 246, 247, 248, 249, 250, 251, 252, 253, 254, 255, 256, 257, 258, 259, 260, 261, 262, 263, 264, 265, 266, 267, 268, 269, 270, 271] 37 (now2P r0 r1 r2 r3 r4 r5 r6 nm q kk b0 b1 k0 k2 k3 k4 k5) (by rw [hsz]; rfl) (now2P_stable _ _ _ _ _ _ _ _ _ _ _ _ _ _ _ _ _ ) ?_ ?_
            · intro i o hi ho q' w' hb hq
              have f : ∀ t, [234, 235, 236, 237, 238, 239, 240, 241, 242, 243, 244, 245, 246, 247, 248, 249, 250, 251, 252, 253, 254, 255, 256, 257, 258, 259, 260, 261, 262, 263, 264, 265, 266, 267, 268, 269, 270, 271].contains t = true → t < 272 → (frm a0 [234, 235, 236, 237, 238, 239, 240, 241, 242, 243, 244, 245, 246, 247, 248, 249, 250, 251, 252, 253, 254, 255, 256, 257, 258, 259, 260, 261, 262, 263, 264, 265, 266, 267, 268, 269, 270, 271] q').eval (.tmp t) = q' t := fun t h1 h2 => frm_in h1 (by rw [hsz]; exact h2)
              have evc : ∀ v, (frm a0 [234, 235, 236, 237, 238, 239, 240, 241, 242, 243, 244, 245, 246, 247, 248, 249, 250, 251, 252, 253, 254, 255, 256, 257, 258, 259, 260, 261, 262, 263, 264, 265, 266, 267, 268, 269, 270, 271] q').eval (.const v) = v := fun v => rfl
              rcases now2_lt i hi with rfl | rfl | rfl | rfl | rfl | rfl | rfl | rfl | rfl | rfl | rfl | rfl | rfl | rfl | rfl | rfl | rfl | rfl | rfl | rfl | rfl | rfl | rfl | rfl | rfl | rfl | rfl | rfl | rfl | rfl | rfl | rfl | rfl | rfl | rfl | rfl | rfl
              all_goals obtain rfl := Option.some.inj ho
              · exact op_plain rfl rfl (op_val (w' := w') (v := .slice (some ⟨r2, 0, none⟩) nm nm) (run_moveB rfl ((frm_out rfl).trans a15)) (Below.refl _ _) rfl)
              · exact op_plain rfl rfl (op_val (w' := w') (v := .int .i64 (q : Int)) (run_moveB rfl ((frm_out rfl).trans a25)) (Below.refl _ _) rfl)
              · exact op_plain rfl rfl (op_val (w' := w') (v := .pointer (some ⟨r2, q, none⟩)) (run_idxB rfl ((f 234 rfl (by decide)).trans (hq 0 234 rfl rfl)) ((f 235 rfl (by decide)).trans (hq 1 235 rfl rfl)) hxq) (Below.refl _ _) rfl)
              · exact op_plain rfl rfl (op_val (w' := w') (v := .bool (b1 || (b0 && k2))) (run_loadB rfl ((f 236 rfl (by decide)).trans (hq 2 236 rfl rfl)) (c2 w' hb)) (Below.refl _ _) rfl)
              · exact op_plain rfl rfl (op_val (w' := w') (v := .bool (b1 || (b0 && k2))) (run_moveB rfl ((f 237 rfl (by decide)).trans (hq 3 237 rfl rfl))) (Below.refl _ _) rfl)
              · exact op_guard (g := true) (x := (b1 || (b0 && k2))) rfl rfl rfl ((f 238 rfl (by decide)).trans (hq 4 238 rfl rfl)) (fun hg => op_val (w' := w') (v := .slice (some ⟨r4, 0, none⟩) nm nm) (run_moveB rfl ((frm_out rfl).trans a19)) (Below.refl _ _) (cond_yes hg).symm) (fun hg => ⟨undef, rfl, Below.refl _ _, cond_no hg⟩)
              · exact op_guard (g := true) (x := (b1 || (b0 && k2))) rfl rfl rfl ((f 238 rfl (by decide)).trans (hq 4 238 rfl rfl)) (fun hg => op_val (w' := w') (v := .int .i64 (q : Int)) (run_moveB rfl ((frm_out rfl).trans a25)) (Below.refl _ _) (cond_yes hg).symm) (fun hg => ⟨undef, rfl, Below.refl _ _, cond_no hg⟩)
              · exact op_guard (g := true) (x := (b1 || (b0 && k2))) rfl rfl rfl ((f 238 rfl (by decide)).trans (hq 4 238 rfl rfl)) (fun hg => op_val (w' := w') (v := .pointer (some ⟨r4, q, none⟩)) (run_idxB rfl (((f 239 rfl (by decide)).trans (hq 5 239 rfl rfl)).trans (cond_yes hg)) (((f 240 rfl (by decide)).trans (hq 6 240 rfl rfl)).trans (cond_yes hg)) hxq) (Below.refl _ _) (cond_yes hg).symm) (fun hg => ⟨undef, rfl, Below.refl _ _, cond_no hg⟩)
              · exact op_guard (g := true) (x := (b1 || (b0 && k2))) rfl rfl rfl ((f 238 rfl (by decide)).trans (hq 4 238 rfl rfl)) (fun hg => op_val (w' := w') (v := .bool (b0 || k4)) (run_loadB rfl (((f 241 rfl (by decide)).trans (hq 7 241 rfl rfl)).trans (cond_yes hg)) (c4 w' hb)) (Below.refl _ _) (cond_yes hg).symm) (fun hg => ⟨undef, rfl, Below.refl _ _, cond_no hg⟩)
              · exact op_guard (g := true) (x := (b1 || (b0 && k2))) rfl rfl rfl ((f 238 rfl (by decide)).trans (hq 4 238 rfl rfl)) (fun hg => op_val (w' := w') (v := .bool (!(b0 || k4))) (run_notB rfl (((f 242 rfl (by decide)).trans (hq 8 242 rfl rfl)).trans (cond_yes hg))) (Below.refl _ _) (cond_yes hg).symm) (fun hg => ⟨undef, rfl, Below.refl _ _, cond_no hg⟩)
              · exact op_plain rfl rfl (op_val (w' := w') (v := .bool ((b1 || (b0 && k2)) && (!(b0 || k4)))) (run_pickB rfl ((f 238 rfl (by decide)).trans (hq 4 238 rfl rfl)) (by rw [((f 243 rfl (by decide)).trans (hq 9 243 rfl rfl)), evc]; exact now2_pk10 b0 b1 k2 k4)) (Below.refl _ _) rfl)
              · exact op_plain rfl rfl (op_val (w' := w') (v := .bool ((b1 || (b0 && k2)) && (!(b0 || k4)))) (run_moveB rfl ((f 244 rfl (by decide)).trans (hq 10 244 rfl rfl))) (Below.refl _ _) rfl)
              · exact op_guard (g := true) (x := ((b1 || (b0 && k2)) && (!(b0 || k4)))) rfl rfl rfl ((f 245 rfl (by decide)).trans (hq 11 245 rfl rfl)) (fun hg => op_val (w' := w') (v := .slice (some ⟨r1, 0, none⟩) nm nm) (run_moveB rfl ((frm_out rfl).trans a13)) (Below.refl _ _) (cond_yes hg).symm) (fun hg => ⟨undef, rfl, Below.refl _ _, cond_no hg⟩)
              · exact op_guard (g := true) (x := ((b1 || (b0 && k2)) && (!(b0 || k4)))) rfl rfl rfl ((f 245 rfl (by decide)).trans (hq 11 245 rfl rfl)) (fun hg => op_val (w' := w') (v := .int .i64 (q : Int)) (run_moveB rfl ((frm_out rfl).trans a25)) (Below.refl _ _) (cond_yes hg).symm) (fun hg => ⟨undef, rfl, Below.refl _ _, cond_no hg⟩)
              · exact op_guard (g := true) (x := ((b1 || (b0 && k2)) && (!(b0 || k4)))) rfl rfl rfl ((f 245 rfl (by decide)).trans (hq 11 245 rfl rfl)) (fun hg => op_val (w' := w') (v := .pointer (some ⟨r1, q, none⟩)) (run_idxB rfl (((f 246 rfl (by decide)).trans (hq 12 246 rfl rfl)).trans (cond_yes hg)) (((f 247 rfl (by decide)).trans (hq 13 247 rfl rfl)).trans (cond_yes hg)) hxq) (Below.refl _ _) (cond_yes hg).symm) (fun hg => ⟨undef, rfl, Below.refl _ _, cond_no hg⟩)
              · exact op_guard (g := true) (x := ((b1 || (b0 && k2)) && (!(b0 || k4)))) rfl rfl rfl ((f 245 rfl (by decide)).trans (hq 11 245 rfl rfl)) (fun hg => op_val (w' := w') (v := .bool b1) (run_loadB rfl (((f 248 rfl (by decide)).trans (hq 14 248 rfl rfl)).trans (cond_yes hg)) (c1 w' hb)) (Below.refl _ _) (cond_yes hg).symm) (fun hg => ⟨undef, rfl, Below.refl _ _, cond_no hg⟩)
              · exact op_guard (g := true) (x := ((b1 || (b0 && k2)) && (!(b0 || k4)))) rfl rfl rfl ((f 245 rfl (by decide)).trans (hq 11 245 rfl rfl)) (fun hg => op_val (w' := w') (v := .bool (!b1)) (run_notB rfl (((f 249 rfl (by decide)).trans (hq 15 249 rfl rfl)).trans (cond_yes hg))) (Below.refl _ _) (cond_yes hg).symm) (fun hg => ⟨undef, rfl, Below.refl _ _, cond_no hg⟩)
              · exact op_plain rfl rfl (op_val (w' := w') (v := .bool (((b1 || (b0 && k2)) && (!(b0 || k4))) && (!b1))) (run_pickB rfl ((f 245 rfl (by decide)).trans (hq 11 245 rfl rfl)) (by rw [((f 250 rfl (by decide)).trans (hq 16 250 rfl rfl)), evc]; exact now2_pk17 b0 b1 k2 k4)) (Below.refl _ _) rfl)
              · exact op_plain rfl rfl (op_val (w' := w') (v := .bool (((b1 || (b0 && k2)) && (!(b0 || k4))) && (!b1))) (run_moveB rfl ((f 251 rfl (by decide)).trans (hq 17 251 rfl rfl))) (Below.refl _ _) rfl)
              · exact op_guard (g := true) (x := (((b1 || (b0 && k2)) && (!(b0 || k4))) && (!b1))) rfl rfl rfl ((f 252 rfl (by decide)).trans (hq 18 252 rfl rfl)) (fun hg => op_val (w' := w') (v := .slice (some ⟨r2, 0, none⟩) nm nm) (run_moveB rfl ((frm_out rfl).trans a15)) (Below.refl _ _) (cond_yes hg).symm) (fun hg => ⟨undef, rfl, Below.refl _ _, cond_no hg⟩)
              · exact op_guard (g := true) (x := (((b1 || (b0 && k2)) && (!(b0 || k4))) && (!b1))) rfl rfl rfl ((f 252 rfl (by decide)).trans (hq 18 252 rfl rfl)) (fun hg => op_val (w' := w') (v := .int .i64 (kk : Int)) (run_moveB rfl ((frm_out rfl).trans a26)) (Below.refl _ _) (cond_yes hg).symm) (fun hg => ⟨undef, rfl, Below.refl _ _, cond_no hg⟩)
              · exact op_guard (g := true) (x := (((b1 || (b0 && k2)) && (!(b0 || k4))) && (!b1))) rfl rfl rfl ((f 252 rfl (by decide)).trans (hq 18 252 rfl rfl)) (fun hg => op_val (w' := w') (v := .pointer (some ⟨r2, kk, none⟩)) (run_idxB rfl (((f 253 rfl (by decide)).trans (hq 19 253 rfl rfl)).trans (cond_yes hg)) (((f 254 rfl (by decide)).trans (hq 20 254 rfl rfl)).trans (cond_yes hg)) hxkk) (Below.refl _ _) (cond_yes hg).symm) (fun hg => ⟨undef, rfl, Below.refl _ _, cond_no hg⟩)
              · exact op_guard (g := true) (x := (((b1 || (b0 && k2)) && (!(b0 || k4))) && (!b1))) rfl rfl rfl ((f 252 rfl (by decide)).trans (hq 18 252 rfl rfl)) (fun hg => op_val (w' := w') (v := .bool k2) (run_loadB rfl (((f 255 rfl (by decide)).trans (hq 21 255 rfl rfl)).trans (cond_yes hg)) (d2 w' hb)) (Below.refl _ _) (cond_yes hg).symm) (fun hg => ⟨undef, rfl, Below.refl _ _, cond_no hg⟩)
              · exact op_guard (g := true) (x := (((b1 || (b0 && k2)) && (!(b0 || k4))) && (!b1))) rfl rfl rfl ((f 252 rfl (by decide)).trans (hq 18 252 rfl rfl)) (fun hg => op_val (w' := w') (v := .bool (!k2)) (run_notB rfl (((f 256 rfl (by decide)).trans (hq 22 256 rfl rfl)).trans (cond_yes hg))) (Below.refl _ _) (cond_yes hg).symm) (fun hg => ⟨undef, rfl, Below.refl _ _, cond_no hg⟩)
              · exact op_plain rfl rfl (op_val (w' := w') (v := .bool ((((b1 || (b0 && k2)) && (!(b0 || k4))) && (!b1)) && (!k2))) (run_pickB rfl ((f 252 rfl (by decide)).trans (hq 18 252 rfl rfl)) (by rw [((f 257 rfl (by decide)).trans (hq 23 257 rfl rfl)), evc]; exact now2_pk24 b0 b1 k2 k4)) (Below.refl _ _) rfl)
              · exact op_plain rfl rfl (op_val (w' := w') (v := .bool ((((b1 || (b0 && k2)) && (!(b0 || k4))) && (!b1)) && (!k2))) (run_moveB rfl ((f 258 rfl (by decide)).trans (hq 24 258 rfl rfl))) (Below.refl _ _) rfl)
              · exact op_guard (g := true) (x := ((((b1 || (b0 && k2)) && (!(b0 || k4))) && (!b1)) && (!k2))) rfl rfl rfl ((f 259 rfl (by decide)).trans (hq 25 259 rfl rfl)) (fun hg => op_val (w' := w') (v := .slice (some ⟨r5, 0, none⟩) nm nm) (run_moveB rfl ((frm_out rfl).trans a21)) (Below.refl _ _) (cond_yes hg).symm) (fun hg => ⟨undef, rfl, Below.refl _ _, cond_no hg⟩)
              · exact op_guard (g := true) (x := ((((b1 || (b0 && k2)) && (!(b0 || k4))) && (!b1)) && (!k2))) rfl rfl rfl ((f 259 rfl (by decide)).trans (hq 25 259 rfl rfl)) (fun hg => op_val (w' := w') (v := .int .i64 (q : Int)) (run_moveB rfl ((frm_out rfl).trans a25)) (Below.refl _ _) (cond_yes hg).symm) (fun hg => ⟨undef, rfl, Below.refl _ _, cond_no hg⟩)
              · exact op_guard (g := true) (x := ((((b1 || (b0 && k2)) && (!(b0 || k4))) && (!b1)) && (!k2))) rfl rfl rfl ((f 259 rfl (by decide)).trans (hq 25 259 rfl rfl)) (fun hg => op_val (w' := w') (v := .pointer (some ⟨r5, q, none⟩)) (run_idxB rfl (((f 260 rfl (by decide)).trans (hq 26 260 rfl rfl)).trans (cond_yes hg)) (((f 261 rfl (by decide)).trans (hq 27 261 rfl rfl)).trans (cond_yes hg)) hxq) (Below.refl _ _) (cond_yes hg).symm) (fun hg => ⟨undef, rfl, Below.refl _ _, cond_no hg⟩)
              · exact op_guard (g := true) (x := ((((b1 || (b0 && k2)) && (!(b0 || k4))) && (!b1)) && (!k2))) rfl rfl rfl ((f 259 rfl (by decide)).trans (hq 25 259 rfl rfl)) (fun hg => op_val (w' := w') (v := .bool (b0 && k5)) (run_loadB rfl (((f 262 rfl (by decide)).trans (hq 28 262 rfl rfl)).trans (cond_yes hg)) (c5 w' hb)) (Below.refl _ _) (cond_yes hg).symm) (fun hg => ⟨undef, rfl, Below.refl _ _, cond_no hg⟩)
              · exact op_guard (g := true) (x := ((((b1 || (b0 && k2)) && (!(b0 || k4))) && (!b1)) && (!k2))) rfl rfl rfl ((f 259 rfl (by decide)).trans (hq 25 259 rfl rfl)) (fun hg => op_val (w' := w') (v := .bool (b0 && k5)) (run_moveB rfl (((f 263 rfl (by decide)).trans (hq 29 263 rfl rfl)).trans (cond_yes hg))) (Below.refl _ _) (cond_yes hg).symm) (fun hg => ⟨undef, rfl, Below.refl _ _, cond_no hg⟩)
              · exact op_guard (g := (true && (((((b1 || (b0 && k2)) && (!(b0 || k4))) && (!b1)) && (!k2)) == false))) (x := (b0 && k5)) rfl rfl rfl ((f 264 rfl (by decide)).trans (hq 30 264 rfl rfl)) (fun hg => op_val (w' := w') (v := .slice (some ⟨r0, 0, none⟩) nm nm) (run_moveB rfl ((frm_out rfl).trans a11)) (Below.refl _ _) (cond_yes hg).symm) (fun hg => ⟨undef, rfl, Below.refl _ _, cond_no hg⟩)
              · exact op_guard (g := (true && (((((b1 || (b0 && k2)) && (!(b0 || k4))) && (!b1)) && (!k2)) == false))) (x := (b0 && k5)) rfl rfl rfl ((f 264 rfl (by decide)).trans (hq 30 264 rfl rfl)) (fun hg => op_val (w' := w') (v := .int .i64 (q : Int)) (run_moveB rfl ((frm_out rfl).trans a25)) (Below.refl _ _) (cond_yes hg).symm) (fun hg => ⟨undef, rfl, Below.refl _ _, cond_no hg⟩)
              · exact op_guard (g := (true && (((((b1 || (b0 && k2)) && (!(b0 || k4))) && (!b1)) && (!k2)) == false))) (x := (b0 && k5)) rfl rfl rfl ((f 264 rfl (by decide)).trans (hq 30 264 rfl rfl)) (fun hg => op_val (w' := w') (v := .pointer (some ⟨r0, q, none⟩)) (run_idxB rfl (((f 265 rfl (by decide)).trans (hq 31 265 rfl rfl)).trans (cond_yes hg)) (((f 266 rfl (by decide)).trans (hq 32 266 rfl rfl)).trans (cond_yes hg)) hxq) (Below.refl _ _) (cond_yes hg).symm) (fun hg => ⟨undef, rfl, Below.refl _ _, cond_no hg⟩)
              · exact op_guard (g := (true && (((((b1 || (b0 && k2)) && (!(b0 || k4))) && (!b1)) && (!k2)) == false))) (x := (b0 && k5)) rfl rfl rfl ((f 264 rfl (by decide)).trans (hq 30 264 rfl rfl)) (fun hg => op_val (w' := w') (v := .bool b0) (run_loadB rfl (((f 267 rfl (by decide)).trans (hq 33 267 rfl rfl)).trans (cond_yes hg)) (c0 w' hb)) (Below.refl _ _) (cond_yes hg).symm) (fun hg => ⟨undef, rfl, Below.refl _ _, cond_no hg⟩)
              · exact op_guard (g := (true && (((((b1 || (b0 && k2)) && (!(b0 || k4))) && (!b1)) && (!k2)) == false))) (x := (b0 && k5)) rfl rfl rfl ((f 264 rfl (by decide)).trans (hq 30 264 rfl rfl)) (fun hg => op_val (w' := w') (v := .bool (!b0)) (run_notB rfl (((f 268 rfl (by decide)).trans (hq 34 268 rfl rfl)).trans (cond_yes hg))) (Below.refl _ _) (cond_yes hg).symm) (fun hg => ⟨undef, rfl, Below.refl _ _, cond_no hg⟩)
              · exact op_guard (g := true) (x := ((((b1 || (b0 && k2)) && (!(b0 || k4))) && (!b1)) && (!k2))) rfl rfl rfl ((f 259 rfl (by decide)).trans (hq 25 259 rfl rfl)) (fun hg => op_val (w' := w') (v := .bool ((b0 && k5) && (!b0))) (run_pickB rfl (((f 264 rfl (by decide)).trans (hq 30 264 rfl rfl)).trans (cond_yes hg)) (by rw [((f 269 rfl (by decide)).trans (hq 35 269 rfl rfl)), evc]; exact now2_pk36 b0 b1 k2 k4 k5 hg)) (Below.refl _ _) (cond_yes hg).symm) (fun hg => ⟨undef, rfl, Below.refl _ _, cond_no hg⟩)
            · intro q' w' hb hq
              have f : ∀ t, [234, 235, 236, 237, 238, 239, 240, 241, 242, 243, 244, 245, 246, 247, 248, 249, 250, 251, 252, 253, 254, 255, 256, 257, 258, 259, 260, 261, 262, 263, 264, 265, 266, 267, 268, 269, 270, 271].contains t = true → t < 272 → (frm a0 [234, 235, 236, 237, 238, 239, 240, 241, 242, 243, 244, 245, 246, 247, 248, 249, 250, 251, 252, 253, 254, 255, 256, 257, 258, 259, 260, 261, 262, 263, 264, 265, 266, 267, 268, 269, 270, 271] q').eval (.tmp t) = q' t := fun t h1 h2 => frm_in h1 (by rw [hsz]; exact h2)
              have evc : ∀ v, (frm a0 [234, 235, 236, 237, 238, 239, 240, 241, 242, 243, 244, 245, 246, 247, 248, 249, 250, 251, 252, 253, 254, 255, 256, 257, 258, 259, 260, 261, 262, 263, 264, 265, 266, 267, 268, 269, 270, 271] q').eval (.const v) = v := fun v => rfl
              show wpOps Tryd.prog _ _ [37] _ _
              rw [wpOps_cons]
              refine op_at rfl rfl ?_
              refine op_run (w' := w') (v := .bool (((((b1 || (b0 && k2)) && (!(b0 || k4))) && (!b1)) && (!k2)) || ((b0 && k5) && (!b0)))) (run_pickB rfl ((f 259 rfl (by decide)).trans (hq 25 259 (by decide) rfl)) (by rw [((f 270 rfl (by decide)).trans (hq 36 270 (by decide) rfl)), evc]; exact now2_pk37 b0 b1 k2 k4 k5)) ?_
              rw [late_put 271 rfl rfl]
              show K' _ _
              refine hK' _ _ ?_
              rw [← ha0]
              go_meet
              exact ⟨(setV_same q' 271 _).trans (now2_last b0 b1 k2 k4 k5), hb⟩
          case rest =>
            obtain ⟨rfl, HBy⟩ := hcut
            have HBz : Hid (Below w6c.heap.size w6c wc) := HBel.out.trans ((HBx.out.trans (HBy.out.mono HBx.out.size)).mono HBel.out.size)
            clear c0 c1 c2 c3 c4 c5 c6 d0 d2 d3 d4 d5 C0 C1 C2 C3 C4 C5 C6 D0 D2 D3 D4 D5
            have hkk := HKK.out
            subst hkk
            go_wp2_with fail
            go_roundw
            case rel => exact ⟨q + 1, by omega, by go_num, HBz⟩
            case measure => simp [intOf]; omega
      · have hqe : (((q : Int) + 1) == (nm : Int)) = false := by simp; omega
        have HL := (show Hid _ from HLaw.out q hlt)
        have hkn : (q + 1) < nm := by omega
        rw [show nxt sn nm q = (q + 1) by unfold nxt; rw [if_neg hqn]] at HL
        obtain ⟨L2, L3, L4, L5, L6⟩ := HL.out
        have C0 : Hid (∀ w', Below wr.heap.size wr w' → w'.cell? ⟨r0, q, none⟩ = some (.bool (z0 q))) := fun w' hb => (HQ0.out.later (HBel.out.trans (hb.mono HBel.out.size))).2 q hlt
        have C1 : Hid (∀ w', Below wr.heap.size wr w' → w'.cell? ⟨r1, q, none⟩ = some (.bool (z1 q))) := fun w' hb => (HQ1.out.later (HBel.out.trans (hb.mono HBel.out.size))).2 q hlt
        have C2 : Hid (∀ w', Below wr.heap.size wr w' → w'.cell? ⟨r2, q, none⟩ = some (.bool (z2 q))) := fun w' hb => (HQ2.out.later (HBel.out.trans (hb.mono HBel.out.size))).2 q hlt
        have C3 : Hid (∀ w', Below wr.heap.size wr w' → w'.cell? ⟨r3, q, none⟩ = some (.bool (z3 q))) := fun w' hb => (HQ3.out.later (HBel.out.trans (hb.mono HBel.out.size))).2 q hlt
        have C4 : Hid (∀ w', Below wr.heap.size wr w' → w'.cell? ⟨r4, q, none⟩ = some (.bool (z4 q))) := fun w' hb => (HQ4.out.later (HBel.out.trans (hb.mono HBel.out.size))).2 q hlt
        have C5 : Hid (∀ w', Below wr.heap.size wr w' → w'.cell? ⟨r5, q, none⟩ = some (.bool (z5 q))) := fun w' hb => (HQ5.out.later (HBel.out.trans (hb.mono HBel.out.size))).2 q hlt
        have C6 : Hid (∀ w', Below wr.heap.size wr w' → w'.cell? ⟨r6, q, none⟩ = some (.bool (z6 q))) := fun w' hb => (HQ6.out.later (HBel.out.trans (hb.mono HBel.out.size))).2 q hlt
        have D0 : Hid (∀ w', Below wr.heap.size wr w' → w'.cell? ⟨r0, (q + 1), none⟩ = some (.bool (z0 ((q + 1))))) := fun w' hb => (HQ0.out.later (HBel.out.trans (hb.mono HBel.out.size))).2 (q + 1) hkn
        have D2 : Hid (∀ w', Below wr.heap.size wr w' → w'.cell? ⟨r2, (q + 1), none⟩ = some (.bool (z2 ((q + 1))))) := fun w' hb => (HQ2.out.later (HBel.out.trans (hb.mono HBel.out.size))).2 (q + 1) hkn
        have D3 : Hid (∀ w', Below wr.heap.size wr w' → w'.cell? ⟨r3, (q + 1), none⟩ = some (.bool (z3 ((q + 1))))) := fun w' hb => (HQ3.out.later (HBel.out.trans (hb.mono HBel.out.size))).2 (q + 1) hkn
        have D4 : Hid (∀ w', Below wr.heap.size wr w' → w'.cell? ⟨r4, (q + 1), none⟩ = some (.bool (z4 ((q + 1))))) := fun w' hb => (HQ4.out.later (HBel.out.trans (hb.mono HBel.out.size))).2 (q + 1) hkn
        have D5 : Hid (∀ w', Below wr.heap.size wr w' → w'.cell? ⟨r5, (q + 1), none⟩ = some (.bool (z5 ((q + 1))))) := fun w' hb => (HQ5.out.later (HBel.out.trans (hb.mono HBel.out.size))).2 (q + 1) hkn
        rw [L2] at C2
        rw [L3] at C3
        rw [L4] at C4
        rw [L5] at C5
        rw [L6] at C6
        clear L2 L3 L4 L5 L6 HL HLaw
        generalize z0 q = b0 at *
        generalize z1 q = b1 at *
        generalize z0 ((q + 1)) = k0 at *
        generalize z2 ((q + 1)) = k2 at *
        generalize z3 ((q + 1)) = k3 at *
        generalize z4 ((q + 1)) = k4 at *
        generalize z5 ((q + 1)) = k5 at *
        clear HQ0 HQ1 HQ2 HQ3 HQ4 HQ5 HQ6
        go_upto_region 20 with fail
        obtain ⟨kk, hkk⟩ : ∃ kk : Nat, kk = (q + 1) := ⟨_, rfl⟩
        rw [← hkk] at D0
        rw [← hkk] at D2
        rw [← hkk] at D3
        rw [← hkk] at D4
        rw [← hkk] at D5
        have hxq : q < nm := hlt
        have hxkk : kk < nm := by rw [hkk]; exact hkn
        have HKK : Hid (kk = (q + 1)) := hkk
        have hki : ((kk : Nat) : Int) = (q : Int) + 1 := by have := hkk; omega
        rw [← hki]
        clear hkk hki
        have c0 := fun (w' : World) (hb : Below wr.heap.size wr w') => C0.out w' hb
        have c1 := fun (w' : World) (hb : Below wr.heap.size wr w') => C1.out w' hb
        have c2 := fun (w' : World) (hb : Below wr.heap.size wr w') => C2.out w' hb
        have c3 := fun (w' : World) (hb : Below wr.heap.size wr w') => C3.out w' hb
        have c4 := fun (w' : World) (hb : Below wr.heap.size wr w') => C4.out w' hb
        have c5 := fun (w' : World) (hb : Below wr.heap.size wr w') => C5.out w' hb
        have c6 := fun (w' : World) (hb : Below wr.heap.size wr w') => C6.out w' hb
        have d0 := fun (w' : World) (hb : Below wr.heap.size wr w') => D0.out w' hb
        have d2 := fun (w' : World) (hb : Below wr.heap.size wr w') => D2.out w' hb
        have d3 := fun (w' : World) (hb : Below wr.heap.size wr w') => D3.out w' hb
        have d4 := fun (w' : World) (hb : Below wr.heap.size wr w') => D4.out w' hb
        have d5 := fun (w' : World) (hb : Below wr.heap.size wr w') => D5.out w' hb
        go_cut [233] from 132 to 271 (fun sv wv => sv = .bool false ∧ Hid (Below wr.heap.size wr wv))
        case first =>
          rename_i J K' hJ hK'
          generalize ha0 : Act.mk _ _ = a0
          have hsz : a0.tmps.size = 272 := by rw [← ha0]; rfl
          have a11 : a0.eval (.tmp 11) = .slice (some ⟨r0, 0, none⟩) nm nm := by rw [← ha0]; rfl
          have a13 : a0.eval (.tmp 13) = .slice (some ⟨r1, 0, none⟩) nm nm := by rw [← ha0]; rfl
          have a15 : a0.eval (.tmp 15) = .slice (some ⟨r2, 0, none⟩) nm nm := by rw [← ha0]; rfl
          have a17 : a0.eval (.tmp 17) = .slice (some ⟨r3, 0, none⟩) nm nm := by rw [← ha0]; rfl
          have a19 : a0.eval (.tmp 19) = .slice (some ⟨r4, 0, none⟩) nm nm := by rw [← ha0]; rfl
          have a21 : a0.eval (.tmp 21) = .slice (some ⟨r5, 0, none⟩) nm nm := by rw [← ha0]; rfl
          have a23 : a0.eval (.tmp 23) = .slice (some ⟨r6, 0, none⟩) nm nm := by rw [← ha0]; rfl
          have a25 : a0.eval (.tmp 25) = .int .i64 (q : Int) := by rw [← ha0]; rfl
          have a26 : a0.eval (.tmp 26) = .int .i64 (kk : Int) := by rw [← ha0]; first | rfl | (show Value.int _ _ = _; congr 1)
          refine wp_anywayG (by rfl) [145, 146, 147, 148, 149, 150, 151, 152, 153, 154, 155, 156, 157, 158, 159, 160, 161, 162, 163, 164, 165, 166, 167, 168, 169, 170, 171, 172, 173, 174, 175, 176, 177, 178, 179, 180, 181, 182, 183, 184, 185, 186, 187, 188, 189, 190, 191, 192, 193, 194, 195, 196, 197, 198, 199, 200, 201, 202, 203, 204, 205, 206, 207, 208, 209, 210, 211, 212, 213, 214, 215, 216, 217, 218, 219, 220, 221, 222, 223, 224, 225, 226, 227, 228, 229, 230, 231, 232, 233] 88 (now1P r0 r1 r2 r3 r4 r5 r6 nm q kk b0 b1 k0 k2 k3 k4 k5) (by rw [hsz]; rfl) (now1P_stable _ _ _ _ _ _ _ _ _ _ _ _ _ _ _ _ _ ) ?_ ?_
          · intro i o hi ho q' w' hb hq
            have f : ∀ t, [145, 146, 147, 148, 149, 150, 151, 152, 153, 154, 155, 156, 157, 158, 159, 160, 161, 162, 163, 164, 165, 166, 167, 168, 169, 170, 171, 172, 173, 174, 175, 176, 177, 178, 179, 180, 181, 182, 183, 184, 185, 186, 187, 188, 189, 190, 191, 192, 193, 194, 195, 196, 197, 198, 199, 200, 201, 202, 203, 204, 205, 206, 207, 208, 209, 210, 211, 212, 213, 214, 215, 216, 217, 218, 219, 220, 221, 222, 223, 224, 225, 226, 227, 228, 229, 230, 231, 232, 233].contains t = true → t < 272 → (frm a0 [145, 146, 147, 148, 149, 150, 151, 152, 153, 154, 155, 156, 157, 158, 159, 160, 161, 162, 163, 164, 165, 166, 167, 168, 169, 170, 171, 172, 173, 174, 175, 176, 177, 178, 179, 180, 181, 182, 183, 184, 185, 186, 187, 188, 189, 190, 191, 192, 193, 194, 195, 196, 197, 198, 199, 200, 201, 202, 203, 204, 205, 206, 207, 208, 209, 210, 211, 212, 213, 214, 215, 216, 217, 218, 219, 220, 221, 222, 223, 224, 225, 226, 227, 228, 229, 230, 231, 232, 233] q').eval (.tmp t) = q' t := fun t h1 h2 => frm_in h1 (by rw [hsz]; exact h2)
            have evc : ∀ v, (frm a0 [145, 146, 147, 148, 149, 150, 151, 152, 153, 154, 155, 156, 157, 158, 159, 160, 161, 162, 163, 164, 165, 166, 167, 168, 169, 170, 171, 172, 173, 174, 175, 176, 177, 178, 179, 180, 181, 182, 183, 184, 185, 186, 187, 188, 189, 190, 191, 192, 193, 194, 195, 196, 197, 198, 199, 200, 201, 202, 203, 204, 205, 206, 207, 208, 209, 210, 211, 212, 213, 214, 215, 216, 217, 218, 219, 220, 221, 222, 223, 224, 225, 226, 227, 228, 229, 230, 231, 232, 233] q').eval (.const v) = v := fun v => rfl
            rcases now1_lt i hi with rfl | rfl | rfl | rfl | rfl | rfl | rfl | rfl | rfl | rfl | rfl | rfl | rfl | rfl | rfl | rfl | rfl | rfl | rfl | rfl | rfl | rfl | rfl | rfl | rfl | rfl | rfl | rfl | rfl | rfl | rfl | rfl | rfl | rfl | rfl | rfl | rfl | rfl | rfl | rfl | rfl | rfl | rfl | rfl | rfl | rfl | rfl | rfl | rfl | rfl | rfl | rfl | rfl | rfl | rfl | rfl | rfl | rfl | rfl | rfl | rfl | rfl | rfl | rfl | rfl | rfl | rfl | rfl | rfl | rfl | rfl | rfl | rfl | rfl | rfl | rfl | rfl | rfl | rfl | rfl | rfl | rfl | rfl | rfl | rfl | rfl | rfl | rfl
            all_goals obtain rfl := Option.some.inj ho
            · exact op_plain rfl rfl (op_val (w' := w') (v := .slice (some ⟨r2, 0, none⟩) nm nm) (run_moveB rfl ((frm_out rfl).trans a15)) (Below.refl _ _) rfl)
            · exact op_plain rfl rfl (op_val (w' := w') (v := .int .i64 (q : Int)) (run_moveB rfl ((frm_out rfl).trans a25)) (Below.refl _ _) rfl)
            · exact op_plain rfl rfl (op_val (w' := w') (v := .pointer (some ⟨r2, q, none⟩)) (run_idxB rfl ((f 145 rfl (by decide)).trans (hq 0 145 rfl rfl)) ((f 146 rfl (by decide)).trans (hq 1 146 rfl rfl)) hxq) (Below.refl _ _) rfl)
            · exact op_plain rfl rfl (op_val (w' := w') (v := .bool (b1 || (b0 && k2))) (run_loadB rfl ((f 147 rfl (by decide)).trans (hq 2 147 rfl rfl)) (c2 w' hb)) (Below.refl _ _) rfl)
            · exact op_plain rfl rfl (op_val (w' := w') (v := .slice (some ⟨r1, 0, none⟩) nm nm) (run_moveB rfl ((frm_out rfl).trans a13)) (Below.refl _ _) rfl)
            · exact op_plain rfl rfl (op_val (w' := w') (v := .int .i64 (q : Int)) (run_moveB rfl ((frm_out rfl).trans a25)) (Below.refl _ _) rfl)
            · exact op_plain rfl rfl (op_val (w' := w') (v := .pointer (some ⟨r1, q, none⟩)) (run_idxB rfl ((f 149 rfl (by decide)).trans (hq 4 149 rfl rfl)) ((f 150 rfl (by decide)).trans (hq 5 150 rfl rfl)) hxq) (Below.refl _ _) rfl)
            · exact op_plain rfl rfl (op_val (w' := w') (v := .bool b1) (run_loadB rfl ((f 151 rfl (by decide)).trans (hq 6 151 rfl rfl)) (c1 w' hb)) (Below.refl _ _) rfl)
            · exact op_plain rfl rfl (op_val (w' := w') (v := .bool b1) (run_moveB rfl ((f 152 rfl (by decide)).trans (hq 7 152 rfl rfl))) (Below.refl _ _) rfl)
            · exact op_guard (g := true) (x := b1) rfl rfl rfl ((f 153 rfl (by decide)).trans (hq 8 153 rfl rfl)) (fun hg => op_val (w' := w') (v := .slice (some ⟨r0, 0, none⟩) nm nm) (run_moveB rfl ((frm_out rfl).trans a11)) (Below.refl _ _) (cond_yes hg).symm) (fun hg => ⟨undef, rfl, Below.refl _ _, cond_no hg⟩)
            · exact op_guard (g := true) (x := b1) rfl rfl rfl ((f 153 rfl (by decide)).trans (hq 8 153 rfl rfl)) (fun hg => op_val (w' := w') (v := .int .i64 (q : Int)) (run_moveB rfl ((frm_out rfl).trans a25)) (Below.refl _ _) (cond_yes hg).symm) (fun hg => ⟨undef, rfl, Below.refl _ _, cond_no hg⟩)
            · exact op_guard (g := true) (x := b1) rfl rfl rfl ((f 153 rfl (by decide)).trans (hq 8 153 rfl rfl)) (fun hg => op_val (w' := w') (v := .pointer (some ⟨r0, q, none⟩)) (run_idxB rfl (((f 154 rfl (by decide)).trans (hq 9 154 rfl rfl)).trans (cond_yes hg)) (((f 155 rfl (by decide)).trans (hq 10 155 rfl rfl)).trans (cond_yes hg)) hxq) (Below.refl _ _) (cond_yes hg).symm) (fun hg => ⟨undef, rfl, Below.refl _ _, cond_no hg⟩)
            · exact op_guard (g := true) (x := b1) rfl rfl rfl ((f 153 rfl (by decide)).trans (hq 8 153 rfl rfl)) (fun hg => op_val (w' := w') (v := .bool b0) (run_loadB rfl (((f 156 rfl (by decide)).trans (hq 11 156 rfl rfl)).trans (cond_yes hg)) (c0 w' hb)) (Below.refl _ _) (cond_yes hg).symm) (fun hg => ⟨undef, rfl, Below.refl _ _, cond_no hg⟩)
            · exact op_guard (g := true) (x := b1) rfl rfl rfl ((f 153 rfl (by decide)).trans (hq 8 153 rfl rfl)) (fun hg => op_val (w' := w') (v := .bool b0) (run_moveB rfl (((f 157 rfl (by decide)).trans (hq 12 157 rfl rfl)).trans (cond_yes hg))) (Below.refl _ _) (cond_yes hg).symm) (fun hg => ⟨undef, rfl, Below.refl _ _, cond_no hg⟩)
            · exact op_guard (g := (true && (b1 == false))) (x := b0) rfl rfl rfl ((f 158 rfl (by decide)).trans (hq 13 158 rfl rfl)) (fun hg => op_val (w' := w') (v := .slice (some ⟨r2, 0, none⟩) nm nm) (run_moveB rfl ((frm_out rfl).trans a15)) (Below.refl _ _) (cond_yes hg).symm) (fun hg => ⟨undef, rfl, Below.refl _ _, cond_no hg⟩)
            · exact op_guard (g := (true && (b1 == false))) (x := b0) rfl rfl rfl ((f 158 rfl (by decide)).trans (hq 13 158 rfl rfl)) (fun hg => op_val (w' := w') (v := .int .i64 (kk : Int)) (run_moveB rfl ((frm_out rfl).trans a26)) (Below.refl _ _) (cond_yes hg).symm) (fun hg => ⟨undef, rfl, Below.refl _ _, cond_no hg⟩)
            · exact op_guard (g := (true && (b1 == false))) (x := b0) rfl rfl rfl ((f 158 rfl (by decide)).trans (hq 13 158 rfl rfl)) (fun hg => op_val (w' := w') (v := .pointer (some ⟨r2, kk, none⟩)) (run_idxB rfl (((f 159 rfl (by decide)).trans (hq 14 159 rfl rfl)).trans (cond_yes hg)) (((f 160 rfl (by decide)).trans (hq 15 160 rfl rfl)).trans (cond_yes hg)) hxkk) (Below.refl _ _) (cond_yes hg).symm) (fun hg => ⟨undef, rfl, Below.refl _ _, cond_no hg⟩)
            · exact op_guard (g := (true && (b1 == false))) (x := b0) rfl rfl rfl ((f 158 rfl (by decide)).trans (hq 13 158 rfl rfl)) (fun hg => op_val (w' := w') (v := .bool k2) (run_loadB rfl (((f 161 rfl (by decide)).trans (hq 16 161 rfl rfl)).trans (cond_yes hg)) (d2 w' hb)) (Below.refl _ _) (cond_yes hg).symm) (fun hg => ⟨undef, rfl, Below.refl _ _, cond_no hg⟩)
            · exact op_guard (g := true) (x := b1) rfl rfl rfl ((f 153 rfl (by decide)).trans (hq 8 153 rfl rfl)) (fun hg => op_val (w' := w') (v := .bool (b0 && k2)) (run_pickB rfl (((f 158 rfl (by decide)).trans (hq 13 158 rfl rfl)).trans (cond_yes hg)) (by rw [((f 162 rfl (by decide)).trans (hq 17 162 rfl rfl)), evc]; exact now1_pk18 b0 b1 k2 hg)) (Below.refl _ _) (cond_yes hg).symm) (fun hg => ⟨undef, rfl, Below.refl _ _, cond_no hg⟩)
            · exact op_plain rfl rfl (op_val (w' := w') (v := .bool (b1 || (b0 && k2))) (run_pickB rfl ((f 153 rfl (by decide)).trans (hq 8 153 rfl rfl)) (by rw [((f 163 rfl (by decide)).trans (hq 18 163 rfl rfl)), evc]; exact now1_pk19 b0 b1 k2)) (Below.refl _ _) rfl)
            · exact op_plain rfl rfl (op_val (w' := w') (v := .bool false) (run_neqB rfl ((f 148 rfl (by decide)).trans (hq 3 148 rfl rfl)) ((f 164 rfl (by decide)).trans (hq 19 164 rfl rfl)) (now1_ne20 b0 b1 k2)) (Below.refl _ _) rfl)
            · exact op_plain rfl rfl (op_val (w' := w') (v := .bool false) (run_moveB rfl ((f 165 rfl (by decide)).trans (hq 20 165 rfl rfl))) (Below.refl _ _) rfl)
            · exact op_guard (g := true) (x := false) rfl rfl rfl ((f 166 rfl (by decide)).trans (hq 21 166 rfl rfl)) (fun hg => op_val (w' := w') (v := .slice (some ⟨r3, 0, none⟩) nm nm) (run_moveB rfl ((frm_out rfl).trans a17)) (Below.refl _ _) (cond_yes hg).symm) (fun hg => ⟨undef, rfl, Below.refl _ _, cond_no hg⟩)
            · exact op_guard (g := true) (x := false) rfl rfl rfl ((f 166 rfl (by decide)).trans (hq 21 166 rfl rfl)) (fun hg => op_val (w' := w') (v := .int .i64 (q : Int)) (run_moveB rfl ((frm_out rfl).trans a25)) (Below.refl _ _) (cond_yes hg).symm) (fun hg => ⟨undef, rfl, Below.refl _ _, cond_no hg⟩)
            · exact op_guard (g := true) (x := false) rfl rfl rfl ((f 166 rfl (by decide)).trans (hq 21 166 rfl rfl)) (fun hg => op_val (w' := w') (v := .pointer (some ⟨r3, q, none⟩)) (run_idxB rfl (((f 167 rfl (by decide)).trans (hq 22 167 rfl rfl)).trans (cond_yes hg)) (((f 168 rfl (by decide)).trans (hq 23 168 rfl rfl)).trans (cond_yes hg)) hxq) (Below.refl _ _) (cond_yes hg).symm) (fun hg => ⟨undef, rfl, Below.refl _ _, cond_no hg⟩)
            · exact op_guard (g := true) (x := false) rfl rfl rfl ((f 166 rfl (by decide)).trans (hq 21 166 rfl rfl)) (fun hg => op_val (w' := w') (v := .bool (b1 && (b0 || k3))) (run_loadB rfl (((f 169 rfl (by decide)).trans (hq 24 169 rfl rfl)).trans (cond_yes hg)) (c3 w' hb)) (Below.refl _ _) (cond_yes hg).symm) (fun hg => ⟨undef, rfl, Below.refl _ _, cond_no hg⟩)
            · exact op_guard (g := true) (x := false) rfl rfl rfl ((f 166 rfl (by decide)).trans (hq 21 166 rfl rfl)) (fun hg => op_val (w' := w') (v := .slice (some ⟨r1, 0, none⟩) nm nm) (run_moveB rfl ((frm_out rfl).trans a13)) (Below.refl _ _) (cond_yes hg).symm) (fun hg => ⟨undef, rfl, Below.refl _ _, cond_no hg⟩)
            · exact op_guard (g := true) (x := false) rfl rfl rfl ((f 166 rfl (by decide)).trans (hq 21 166 rfl rfl)) (fun hg => op_val (w' := w') (v := .int .i64 (q : Int)) (run_moveB rfl ((frm_out rfl).trans a25)) (Below.refl _ _) (cond_yes hg).symm) (fun hg => ⟨undef, rfl, Below.refl _ _, cond_no hg⟩)
            · exact op_guard (g := true) (x := false) rfl rfl rfl ((f 166 rfl (by decide)).trans (hq 21 166 rfl rfl)) (fun hg => op_val (w' := w') (v := .pointer (some ⟨r1, q, none⟩)) (run_idxB rfl (((f 171 rfl (by decide)).trans (hq 26 171 rfl rfl)).trans (cond_yes hg)) (((f 172 rfl (by decide)).trans (hq 27 172 rfl rfl)).trans (cond_yes hg)) hxq) (Below.refl _ _) (cond_yes hg).symm) (fun hg => ⟨undef, rfl, Below.refl _ _, cond_no hg⟩)
            · exact op_guard (g := true) (x := false) rfl rfl rfl ((f 166 rfl (by decide)).trans (hq 21 166 rfl rfl)) (fun hg => op_val (w' := w') (v := .bool b1) (run_loadB rfl (((f 173 rfl (by decide)).trans (hq 28 173 rfl rfl)).trans (cond_yes hg)) (c1 w' hb)) (Below.refl _ _) (cond_yes hg).symm) (fun hg => ⟨undef, rfl, Below.refl _ _, cond_no hg⟩)
            · exact op_guard (g := true) (x := false) rfl rfl rfl ((f 166 rfl (by decide)).trans (hq 21 166 rfl rfl)) (fun hg => op_val (w' := w') (v := .bool b1) (run_moveB rfl (((f 174 rfl (by decide)).trans (hq 29 174 rfl rfl)).trans (cond_yes hg))) (Below.refl _ _) (cond_yes hg).symm) (fun hg => ⟨undef, rfl, Below.refl _ _, cond_no hg⟩)
            · exact op_guard (g := (true && (false == false))) (x := b1) rfl rfl rfl ((f 175 rfl (by decide)).trans (hq 30 175 rfl rfl)) (fun hg => op_val (w' := w') (v := .slice (some ⟨r0, 0, none⟩) nm nm) (run_moveB rfl ((frm_out rfl).trans a11)) (Below.refl _ _) (cond_yes hg).symm) (fun hg => ⟨undef, rfl, Below.refl _ _, cond_no hg⟩)
            · exact op_guard (g := (true && (false == false))) (x := b1) rfl rfl rfl ((f 175 rfl (by decide)).trans (hq 30 175 rfl rfl)) (fun hg => op_val (w' := w') (v := .int .i64 (q : Int)) (run_moveB rfl ((frm_out rfl).trans a25)) (Below.refl _ _) (cond_yes hg).symm) (fun hg => ⟨undef, rfl, Below.refl _ _, cond_no hg⟩)
            · exact op_guard (g := (true && (false == false))) (x := b1) rfl rfl rfl ((f 175 rfl (by decide)).trans (hq 30 175 rfl rfl)) (fun hg => op_val (w' := w') (v := .pointer (some ⟨r0, q, none⟩)) (run_idxB rfl (((f 176 rfl (by decide)).trans (hq 31 176 rfl rfl)).trans (cond_yes hg)) (((f 177 rfl (by decide)).trans (hq 32 177 rfl rfl)).trans (cond_yes hg)) hxq) (Below.refl _ _) (cond_yes hg).symm) (fun hg => ⟨undef, rfl, Below.refl _ _, cond_no hg⟩)
            · exact op_guard (g := (true && (false == false))) (x := b1) rfl rfl rfl ((f 175 rfl (by decide)).trans (hq 30 175 rfl rfl)) (fun hg => op_val (w' := w') (v := .bool b0) (run_loadB rfl (((f 178 rfl (by decide)).trans (hq 33 178 rfl rfl)).trans (cond_yes hg)) (c0 w' hb)) (Below.refl _ _) (cond_yes hg).symm) (fun hg => ⟨undef, rfl, Below.refl _ _, cond_no hg⟩)
            · exact op_guard (g := (true && (false == false))) (x := b1) rfl rfl rfl ((f 175 rfl (by decide)).trans (hq 30 175 rfl rfl)) (fun hg => op_val (w' := w') (v := .bool b0) (run_moveB rfl (((f 179 rfl (by decide)).trans (hq 34 179 rfl rfl)).trans (cond_yes hg))) (Below.refl _ _) (cond_yes hg).symm) (fun hg => ⟨undef, rfl, Below.refl _ _, cond_no hg⟩)
            · exact op_guard (g := ((true && (false == false)) && (b1 == true))) (x := b0) rfl rfl rfl ((f 180 rfl (by decide)).trans (hq 35 180 rfl rfl)) (fun hg => op_val (w' := w') (v := .slice (some ⟨r3, 0, none⟩) nm nm) (run_moveB rfl ((frm_out rfl).trans a17)) (Below.refl _ _) (cond_yes hg).symm) (fun hg => ⟨undef, rfl, Below.refl _ _, cond_no hg⟩)
            · exact op_guard (g := ((true && (false == false)) && (b1 == true))) (x := b0) rfl rfl rfl ((f 180 rfl (by decide)).trans (hq 35 180 rfl rfl)) (fun hg => op_val (w' := w') (v := .int .i64 (kk : Int)) (run_moveB rfl ((frm_out rfl).trans a26)) (Below.refl _ _) (cond_yes hg).symm) (fun hg => ⟨undef, rfl, Below.refl _ _, cond_no hg⟩)
            · exact op_guard (g := ((true && (false == false)) && (b1 == true))) (x := b0) rfl rfl rfl ((f 180 rfl (by decide)).trans (hq 35 180 rfl rfl)) (fun hg => op_val (w' := w') (v := .pointer (some ⟨r3, kk, none⟩)) (run_idxB rfl (((f 181 rfl (by decide)).trans (hq 36 181 rfl rfl)).trans (cond_yes hg)) (((f 182 rfl (by decide)).trans (hq 37 182 rfl rfl)).trans (cond_yes hg)) hxkk) (Below.refl _ _) (cond_yes hg).symm) (fun hg => ⟨undef, rfl, Below.refl _ _, cond_no hg⟩)
            · exact op_guard (g := ((true && (false == false)) && (b1 == true))) (x := b0) rfl rfl rfl ((f 180 rfl (by decide)).trans (hq 35 180 rfl rfl)) (fun hg => op_val (w' := w') (v := .bool k3) (run_loadB rfl (((f 183 rfl (by decide)).trans (hq 38 183 rfl rfl)).trans (cond_yes hg)) (d3 w' hb)) (Below.refl _ _) (cond_yes hg).symm) (fun hg => ⟨undef, rfl, Below.refl _ _, cond_no hg⟩)
            · exact op_guard (g := (true && (false == false))) (x := b1) rfl rfl rfl ((f 175 rfl (by decide)).trans (hq 30 175 rfl rfl)) (fun hg => op_val (w' := w') (v := .bool (b0 || k3)) (run_pickB rfl (((f 180 rfl (by decide)).trans (hq 35 180 rfl rfl)).trans (cond_yes hg)) (by rw [((f 184 rfl (by decide)).trans (hq 39 184 rfl rfl)), evc]; exact now1_pk40 b0 b1 k3 hg)) (Below.refl _ _) (cond_yes hg).symm) (fun hg => ⟨undef, rfl, Below.refl _ _, cond_no hg⟩)
            · exact op_guard (g := true) (x := false) rfl rfl rfl ((f 166 rfl (by decide)).trans (hq 21 166 rfl rfl)) (fun hg => op_val (w' := w') (v := .bool (b1 && (b0 || k3))) (run_pickB rfl (((f 175 rfl (by decide)).trans (hq 30 175 rfl rfl)).trans (cond_yes hg)) (by rw [((f 185 rfl (by decide)).trans (hq 40 185 rfl rfl)), evc]; exact now1_pk41 b0 b1 k3 hg)) (Below.refl _ _) (cond_yes hg).symm) (fun hg => ⟨undef, rfl, Below.refl _ _, cond_no hg⟩)
            · exact op_guard (g := true) (x := false) rfl rfl rfl ((f 166 rfl (by decide)).trans (hq 21 166 rfl rfl)) (fun hg => op_val (w' := w') (v := .bool false) (run_neqB rfl (((f 170 rfl (by decide)).trans (hq 25 170 rfl rfl)).trans (cond_yes hg)) (((f 186 rfl (by decide)).trans (hq 41 186 rfl rfl)).trans (cond_yes hg)) (now1_ne42 b0 b1 k3)) (Below.refl _ _) (cond_yes hg).symm) (fun hg => ⟨undef, rfl, Below.refl _ _, cond_no hg⟩)
            · exact op_plain rfl rfl (op_val (w' := w') (v := .bool false) (run_pickB rfl ((f 166 rfl (by decide)).trans (hq 21 166 rfl rfl)) (by rw [((f 187 rfl (by decide)).trans (hq 42 187 rfl rfl)), evc]; exact now1_pk43 )) (Below.refl _ _) rfl)
            · exact op_plain rfl rfl (op_val (w' := w') (v := .bool false) (run_moveB rfl ((f 188 rfl (by decide)).trans (hq 43 188 rfl rfl))) (Below.refl _ _) rfl)
            · exact op_guard (g := true) (x := false) rfl rfl rfl ((f 189 rfl (by decide)).trans (hq 44 189 rfl rfl)) (fun hg => op_val (w' := w') (v := .slice (some ⟨r4, 0, none⟩) nm nm) (run_moveB rfl ((frm_out rfl).trans a19)) (Below.refl _ _) (cond_yes hg).symm) (fun hg => ⟨undef, rfl, Below.refl _ _, cond_no hg⟩)
            · exact op_guard (g := true) (x := false) rfl rfl rfl ((f 189 rfl (by decide)).trans (hq 44 189 rfl rfl)) (fun hg => op_val (w' := w') (v := .int .i64 (q : Int)) (run_moveB rfl ((frm_out rfl).trans a25)) (Below.refl _ _) (cond_yes hg).symm) (fun hg => ⟨undef, rfl, Below.refl _ _, cond_no hg⟩)
            · exact op_guard (g := true) (x := false) rfl rfl rfl ((f 189 rfl (by decide)).trans (hq 44 189 rfl rfl)) (fun hg => op_val (w' := w') (v := .pointer (some ⟨r4, q, none⟩)) (run_idxB rfl (((f 190 rfl (by decide)).trans (hq 45 190 rfl rfl)).trans (cond_yes hg)) (((f 191 rfl (by decide)).trans (hq 46 191 rfl rfl)).trans (cond_yes hg)) hxq) (Below.refl _ _) (cond_yes hg).symm) (fun hg => ⟨undef, rfl, Below.refl _ _, cond_no hg⟩)
            · exact op_guard (g := true) (x := false) rfl rfl rfl ((f 189 rfl (by decide)).trans (hq 44 189 rfl rfl)) (fun hg => op_val (w' := w') (v := .bool (b0 || k4)) (run_loadB rfl (((f 192 rfl (by decide)).trans (hq 47 192 rfl rfl)).trans (cond_yes hg)) (c4 w' hb)) (Below.refl _ _) (cond_yes hg).symm) (fun hg => ⟨undef, rfl, Below.refl _ _, cond_no hg⟩)
            · exact op_guard (g := true) (x := false) rfl rfl rfl ((f 189 rfl (by decide)).trans (hq 44 189 rfl rfl)) (fun hg => op_val (w' := w') (v := .slice (some ⟨r0, 0, none⟩) nm nm) (run_moveB rfl ((frm_out rfl).trans a11)) (Below.refl _ _) (cond_yes hg).symm) (fun hg => ⟨undef, rfl, Below.refl _ _, cond_no hg⟩)
            · exact op_guard (g := true) (x := false) rfl rfl rfl ((f 189 rfl (by decide)).trans (hq 44 189 rfl rfl)) (fun hg => op_val (w' := w') (v := .int .i64 (q : Int)) (run_moveB rfl ((frm_out rfl).trans a25)) (Below.refl _ _) (cond_yes hg).symm) (fun hg => ⟨undef, rfl, Below.refl _ _, cond_no hg⟩)
            · exact op_guard (g := true) (x := false) rfl rfl rfl ((f 189 rfl (by decide)).trans (hq 44 189 rfl rfl)) (fun hg => op_val (w' := w') (v := .pointer (some ⟨r0, q, none⟩)) (run_idxB rfl (((f 194 rfl (by decide)).trans (hq 49 194 rfl rfl)).trans (cond_yes hg)) (((f 195 rfl (by decide)).trans (hq 50 195 rfl rfl)).trans (cond_yes hg)) hxq) (Below.refl _ _) (cond_yes hg).symm) (fun hg => ⟨undef, rfl, Below.refl _ _, cond_no hg⟩)
            · exact op_guard (g := true) (x := false) rfl rfl rfl ((f 189 rfl (by decide)).trans (hq 44 189 rfl rfl)) (fun hg => op_val (w' := w') (v := .bool b0) (run_loadB rfl (((f 196 rfl (by decide)).trans (hq 51 196 rfl rfl)).trans (cond_yes hg)) (c0 w' hb)) (Below.refl _ _) (cond_yes hg).symm) (fun hg => ⟨undef, rfl, Below.refl _ _, cond_no hg⟩)
            · exact op_guard (g := true) (x := false) rfl rfl rfl ((f 189 rfl (by decide)).trans (hq 44 189 rfl rfl)) (fun hg => op_val (w' := w') (v := .bool b0) (run_moveB rfl (((f 197 rfl (by decide)).trans (hq 52 197 rfl rfl)).trans (cond_yes hg))) (Below.refl _ _) (cond_yes hg).symm) (fun hg => ⟨undef, rfl, Below.refl _ _, cond_no hg⟩)
            · exact op_guard (g := (true && (false == false))) (x := b0) rfl rfl rfl ((f 198 rfl (by decide)).trans (hq 53 198 rfl rfl)) (fun hg => op_val (w' := w') (v := .slice (some ⟨r4, 0, none⟩) nm nm) (run_moveB rfl ((frm_out rfl).trans a19)) (Below.refl _ _) (cond_yes hg).symm) (fun hg => ⟨undef, rfl, Below.refl _ _, cond_no hg⟩)
            · exact op_guard (g := (true && (false == false))) (x := b0) rfl rfl rfl ((f 198 rfl (by decide)).trans (hq 53 198 rfl rfl)) (fun hg => op_val (w' := w') (v := .int .i64 (kk : Int)) (run_moveB rfl ((frm_out rfl).trans a26)) (Below.refl _ _) (cond_yes hg).symm) (fun hg => ⟨undef, rfl, Below.refl _ _, cond_no hg⟩)
            · exact op_guard (g := (true && (false == false))) (x := b0) rfl rfl rfl ((f 198 rfl (by decide)).trans (hq 53 198 rfl rfl)) (fun hg => op_val (w' := w') (v := .pointer (some ⟨r4, kk, none⟩)) (run_idxB rfl (((f 199 rfl (by decide)).trans (hq 54 199 rfl rfl)).trans (cond_yes hg)) (((f 200 rfl (by decide)).trans (hq 55 200 rfl rfl)).trans (cond_yes hg)) hxkk) (Below.refl _ _) (cond_yes hg).symm) (fun hg => ⟨undef, rfl, Below.refl _ _, cond_no hg⟩)
            · exact op_guard (g := (true && (false == false))) (x := b0) rfl rfl rfl ((f 198 rfl (by decide)).trans (hq 53 198 rfl rfl)) (fun hg => op_val (w' := w') (v := .bool k4) (run_loadB rfl (((f 201 rfl (by decide)).trans (hq 56 201 rfl rfl)).trans (cond_yes hg)) (d4 w' hb)) (Below.refl _ _) (cond_yes hg).symm) (fun hg => ⟨undef, rfl, Below.refl _ _, cond_no hg⟩)
            · exact op_guard (g := true) (x := false) rfl rfl rfl ((f 189 rfl (by decide)).trans (hq 44 189 rfl rfl)) (fun hg => op_val (w' := w') (v := .bool (b0 || k4)) (run_pickB rfl (((f 198 rfl (by decide)).trans (hq 53 198 rfl rfl)).trans (cond_yes hg)) (by rw [((f 202 rfl (by decide)).trans (hq 57 202 rfl rfl)), evc]; exact now1_pk58 b0 k4 hg)) (Below.refl _ _) (cond_yes hg).symm) (fun hg => ⟨undef, rfl, Below.refl _ _, cond_no hg⟩)
            · exact op_guard (g := true) (x := false) rfl rfl rfl ((f 189 rfl (by decide)).trans (hq 44 189 rfl rfl)) (fun hg => op_val (w' := w') (v := .bool false) (run_neqB rfl (((f 193 rfl (by decide)).trans (hq 48 193 rfl rfl)).trans (cond_yes hg)) (((f 203 rfl (by decide)).trans (hq 58 203 rfl rfl)).trans (cond_yes hg)) (now1_ne59 b0 k4)) (Below.refl _ _) (cond_yes hg).symm) (fun hg => ⟨undef, rfl, Below.refl _ _, cond_no hg⟩)
            · exact op_plain rfl rfl (op_val (w' := w') (v := .bool false) (run_pickB rfl ((f 189 rfl (by decide)).trans (hq 44 189 rfl rfl)) (by rw [((f 204 rfl (by decide)).trans (hq 59 204 rfl rfl)), evc]; exact now1_pk60 )) (Below.refl _ _) rfl)
            · exact op_plain rfl rfl (op_val (w' := w') (v := .bool false) (run_moveB rfl ((f 205 rfl (by decide)).trans (hq 60 205 rfl rfl))) (Below.refl _ _) rfl)
            · exact op_guard (g := true) (x := false) rfl rfl rfl ((f 206 rfl (by decide)).trans (hq 61 206 rfl rfl)) (fun hg => op_val (w' := w') (v := .slice (some ⟨r5, 0, none⟩) nm nm) (run_moveB rfl ((frm_out rfl).trans a21)) (Below.refl _ _) (cond_yes hg).symm) (fun hg => ⟨undef, rfl, Below.refl _ _, cond_no hg⟩)
            · exact op_guard (g := true) (x := false) rfl rfl rfl ((f 206 rfl (by decide)).trans (hq 61 206 rfl rfl)) (fun hg => op_val (w' := w') (v := .int .i64 (q : Int)) (run_moveB rfl ((frm_out rfl).trans a25)) (Below.refl _ _) (cond_yes hg).symm) (fun hg => ⟨undef, rfl, Below.refl _ _, cond_no hg⟩)
            · exact op_guard (g := true) (x := false) rfl rfl rfl ((f 206 rfl (by decide)).trans (hq 61 206 rfl rfl)) (fun hg => op_val (w' := w') (v := .pointer (some ⟨r5, q, none⟩)) (run_idxB rfl (((f 207 rfl (by decide)).trans (hq 62 207 rfl rfl)).trans (cond_yes hg)) (((f 208 rfl (by decide)).trans (hq 63 208 rfl rfl)).trans (cond_yes hg)) hxq) (Below.refl _ _) (cond_yes hg).symm) (fun hg => ⟨undef, rfl, Below.refl _ _, cond_no hg⟩)
            · exact op_guard (g := true) (x := false) rfl rfl rfl ((f 206 rfl (by decide)).trans (hq 61 206 rfl rfl)) (fun hg => op_val (w' := w') (v := .bool (b0 && k5)) (run_loadB rfl (((f 209 rfl (by decide)).trans (hq 64 209 rfl rfl)).trans (cond_yes hg)) (c5 w' hb)) (Below.refl _ _) (cond_yes hg).symm) (fun hg => ⟨undef, rfl, Below.refl _ _, cond_no hg⟩)
            · exact op_guard (g := true) (x := false) rfl rfl rfl ((f 206 rfl (by decide)).trans (hq 61 206 rfl rfl)) (fun hg => op_val (w' := w') (v := .slice (some ⟨r0, 0, none⟩) nm nm) (run_moveB rfl ((frm_out rfl).trans a11)) (Below.refl _ _) (cond_yes hg).symm) (fun hg => ⟨undef, rfl, Below.refl _ _, cond_no hg⟩)
            · exact op_guard (g := true) (x := false) rfl rfl rfl ((f 206 rfl (by decide)).trans (hq 61 206 rfl rfl)) (fun hg => op_val (w' := w') (v := .int .i64 (q : Int)) (run_moveB rfl ((frm_out rfl).trans a25)) (Below.refl _ _) (cond_yes hg).symm) (fun hg => ⟨undef, rfl, Below.refl _ _, cond_no hg⟩)
            · exact op_guard (g := true) (x := false) rfl rfl rfl ((f 206 rfl (by decide)).trans (hq 61 206 rfl rfl)) (fun hg => op_val (w' := w') (v := .pointer (some ⟨r0, q, none⟩)) (run_idxB rfl (((f 211 rfl (by decide)).trans (hq 66 211 rfl rfl)).trans (cond_yes hg)) (((f 212 rfl (by decide)).trans (hq 67 212 rfl rfl)).trans (cond_yes hg)) hxq) (Below.refl _ _) (cond_yes hg).symm) (fun hg => ⟨undef, rfl, Below.refl _ _, cond_no hg⟩)
            · exact op_guard (g := true) (x := false) rfl rfl rfl ((f 206 rfl (by decide)).trans (hq 61 206 rfl rfl)) (fun hg => op_val (w' := w') (v := .bool b0) (run_loadB rfl (((f 213 rfl (by decide)).trans (hq 68 213 rfl rfl)).trans (cond_yes hg)) (c0 w' hb)) (Below.refl _ _) (cond_yes hg).symm) (fun hg => ⟨undef, rfl, Below.refl _ _, cond_no hg⟩)
            · exact op_guard (g := true) (x := false) rfl rfl rfl ((f 206 rfl (by decide)).trans (hq 61 206 rfl rfl)) (fun hg => op_val (w' := w') (v := .bool b0) (run_moveB rfl (((f 214 rfl (by decide)).trans (hq 69 214 rfl rfl)).trans (cond_yes hg))) (Below.refl _ _) (cond_yes hg).symm) (fun hg => ⟨undef, rfl, Below.refl _ _, cond_no hg⟩)
            · exact op_guard (g := (true && (false == false))) (x := b0) rfl rfl rfl ((f 215 rfl (by decide)).trans (hq 70 215 rfl rfl)) (fun hg => op_val (w' := w') (v := .slice (some ⟨r5, 0, none⟩) nm nm) (run_moveB rfl ((frm_out rfl).trans a21)) (Below.refl _ _) (cond_yes hg).symm) (fun hg => ⟨undef, rfl, Below.refl _ _, cond_no hg⟩)
            · exact op_guard (g := (true && (false == false))) (x := b0) rfl rfl rfl ((f 215 rfl (by decide)).trans (hq 70 215 rfl rfl)) (fun hg => op_val (w' := w') (v := .int .i64 (kk : Int)) (run_moveB rfl ((frm_out rfl).trans a26)) (Below.refl _ _) (cond_yes hg).symm) (fun hg => ⟨undef, rfl, Below.refl _ _, cond_no hg⟩)
            · exact op_guard (g := (true && (false == false))) (x := b0) rfl rfl rfl ((f 215 rfl (by decide)).trans (hq 70 215 rfl rfl)) (fun hg => op_val (w' := w') (v := .pointer (some ⟨r5, kk, none⟩)) (run_idxB rfl (((f 216 rfl (by decide)).trans (hq 71 216 rfl rfl)).trans (cond_yes hg)) (((f 217 rfl (by decide)).trans (hq 72 217 rfl rfl)).trans (cond_yes hg)) hxkk) (Below.refl _ _) (cond_yes hg).symm) (fun hg => ⟨undef, rfl, Below.refl _ _, cond_no hg⟩)
            · exact op_guard (g := (true && (false == false))) (x := b0) rfl rfl rfl ((f 215 rfl (by decide)).trans (hq 70 215 rfl rfl)) (fun hg => op_val (w' := w') (v := .bool k5) (run_loadB rfl (((f 218 rfl (by decide)).trans (hq 73 218 rfl rfl)).trans (cond_yes hg)) (d5 w' hb)) (Below.refl _ _) (cond_yes hg).symm) (fun hg => ⟨undef, rfl, Below.refl _ _, cond_no hg⟩)
            · exact op_guard (g := true) (x := false) rfl rfl rfl ((f 206 rfl (by decide)).trans (hq 61 206 rfl rfl)) (fun hg => op_val (w' := w') (v := .bool (b0 && k5)) (run_pickB rfl (((f 215 rfl (by decide)).trans (hq 70 215 rfl rfl)).trans (cond_yes hg)) (by rw [((f 219 rfl (by decide)).trans (hq 74 219 rfl rfl)), evc]; exact now1_pk75 b0 k5 hg)) (Below.refl _ _) (cond_yes hg).symm) (fun hg => ⟨undef, rfl, Below.refl _ _, cond_no hg⟩)
            · exact op_guard (g := true) (x := false) rfl rfl rfl ((f 206 rfl (by decide)).trans (hq 61 206 rfl rfl)) (fun hg => op_val (w' := w') (v := .bool false) (run_neqB rfl (((f 210 rfl (by decide)).trans (hq 65 210 rfl rfl)).trans (cond_yes hg)) (((f 220 rfl (by decide)).trans (hq 75 220 rfl rfl)).trans (cond_yes hg)) (now1_ne76 b0 k5)) (Below.refl _ _) (cond_yes hg).symm) (fun hg => ⟨undef, rfl, Below.refl _ _, cond_no hg⟩)
            · exact op_plain rfl rfl (op_val (w' := w') (v := .bool false) (run_pickB rfl ((f 206 rfl (by decide)).trans (hq 61 206 rfl rfl)) (by rw [((f 221 rfl (by decide)).trans (hq 76 221 rfl rfl)), evc]; exact now1_pk77 )) (Below.refl _ _) rfl)
            · exact op_plain rfl rfl (op_val (w' := w') (v := .bool false) (run_moveB rfl ((f 222 rfl (by decide)).trans (hq 77 222 rfl rfl))) (Below.refl _ _) rfl)
            · exact op_guard (g := true) (x := false) rfl rfl rfl ((f 223 rfl (by decide)).trans (hq 78 223 rfl rfl)) (fun hg => op_val (w' := w') (v := .slice (some ⟨r6, 0, none⟩) nm nm) (run_moveB rfl ((frm_out rfl).trans a23)) (Below.refl _ _) (cond_yes hg).symm) (fun hg => ⟨undef, rfl, Below.refl _ _, cond_no hg⟩)
            · exact op_guard (g := true) (x := false) rfl rfl rfl ((f 223 rfl (by decide)).trans (hq 78 223 rfl rfl)) (fun hg => op_val (w' := w') (v := .int .i64 (q : Int)) (run_moveB rfl ((frm_out rfl).trans a25)) (Below.refl _ _) (cond_yes hg).symm) (fun hg => ⟨undef, rfl, Below.refl _ _, cond_no hg⟩)
            · exact op_guard (g := true) (x := false) rfl rfl rfl ((f 223 rfl (by decide)).trans (hq 78 223 rfl rfl)) (fun hg => op_val (w' := w') (v := .pointer (some ⟨r6, q, none⟩)) (run_idxB rfl (((f 224 rfl (by decide)).trans (hq 79 224 rfl rfl)).trans (cond_yes hg)) (((f 225 rfl (by decide)).trans (hq 80 225 rfl rfl)).trans (cond_yes hg)) hxq) (Below.refl _ _) (cond_yes hg).symm) (fun hg => ⟨undef, rfl, Below.refl _ _, cond_no hg⟩)
            · exact op_guard (g := true) (x := false) rfl rfl rfl ((f 223 rfl (by decide)).trans (hq 78 223 rfl rfl)) (fun hg => op_val (w' := w') (v := .bool k0) (run_loadB rfl (((f 226 rfl (by decide)).trans (hq 81 226 rfl rfl)).trans (cond_yes hg)) (c6 w' hb)) (Below.refl _ _) (cond_yes hg).symm) (fun hg => ⟨undef, rfl, Below.refl _ _, cond_no hg⟩)
            · exact op_guard (g := true) (x := false) rfl rfl rfl ((f 223 rfl (by decide)).trans (hq 78 223 rfl rfl)) (fun hg => op_val (w' := w') (v := .slice (some ⟨r0, 0, none⟩) nm nm) (run_moveB rfl ((frm_out rfl).trans a11)) (Below.refl _ _) (cond_yes hg).symm) (fun hg => ⟨undef, rfl, Below.refl _ _, cond_no hg⟩)
            · exact op_guard (g := true) (x := false) rfl rfl rfl ((f 223 rfl (by decide)).trans (hq 78 223 rfl rfl)) (fun hg => op_val (w' := w') (v := .int .i64 (kk : Int)) (run_moveB rfl ((frm_out rfl).trans a26)) (Below.refl _ _) (cond_yes hg).symm) (fun hg => ⟨undef, rfl, Below.refl _ _, cond_no hg⟩)
            · exact op_guard (g := true) (x := false) rfl rfl rfl ((f 223 rfl (by decide)).trans (hq 78 223 rfl rfl)) (fun hg => op_val (w' := w') (v := .pointer (some ⟨r0, kk, none⟩)) (run_idxB rfl (((f 228 rfl (by decide)).trans (hq 83 228 rfl rfl)).trans (cond_yes hg)) (((f 229 rfl (by decide)).trans (hq 84 229 rfl rfl)).trans (cond_yes hg)) hxkk) (Below.refl _ _) (cond_yes hg).symm) (fun hg => ⟨undef, rfl, Below.refl _ _, cond_no hg⟩)
            · exact op_guard (g := true) (x := false) rfl rfl rfl ((f 223 rfl (by decide)).trans (hq 78 223 rfl rfl)) (fun hg => op_val (w' := w') (v := .bool k0) (run_loadB rfl (((f 230 rfl (by decide)).trans (hq 85 230 rfl rfl)).trans (cond_yes hg)) (d0 w' hb)) (Below.refl _ _) (cond_yes hg).symm) (fun hg => ⟨undef, rfl, Below.refl _ _, cond_no hg⟩)
            · exact op_guard (g := true) (x := false) rfl rfl rfl ((f 223 rfl (by decide)).trans (hq 78 223 rfl rfl)) (fun hg => op_val (w' := w') (v := .bool false) (run_neqB rfl (((f 227 rfl (by decide)).trans (hq 82 227 rfl rfl)).trans (cond_yes hg)) (((f 231 rfl (by decide)).trans (hq 86 231 rfl rfl)).trans (cond_yes hg)) (now1_ne87 k0)) (Below.refl _ _) (cond_yes hg).symm) (fun hg => ⟨undef, rfl, Below.refl _ _, cond_no hg⟩)
          · intro q' w' hb hq
            have f : ∀ t, [145, 146, 147, 148, 149, 150, 151, 152, 153, 154, 155, 156, 157, 158, 159, 160, 161, 162, 163, 164, 165, 166, 167, 168, 169, 170, 171, 172, 173, 174, 175, 176, 177, 178, 179, 180, 181, 182, 183, 184, 185, 186, 187, 188, 189, 190, 191, 192, 193, 194, 195, 196, 197, 198, 199, 200, 201, 202, 203, 204, 205, 206, 207, 208, 209, 210, 211, 212, 213, 214, 215, 216, 217, 218, 219, 220, 221, 222, 223, 224, 225, 226, 227, 228, 229, 230, 231, 232, 233].contains t = true → t < 272 → (frm a0 [145, 146, 147, 148, 149, 150, 151, 152, 153, 154, 155, 156, 157, 158, 159, 160, 161, 162, 163, 164, 165, 166, 167, 168, 169, 170, 171, 172, 173, 174, 175, 176, 177, 178, 179, 180, 181, 182, 183, 184, 185, 186, 187, 188, 189, 190, 191, 192, 193, 194, 195, 196, 197, 198, 199, 200, 201, 202, 203, 204, 205, 206, 207, 208, 209, 210, 211, 212, 213, 214, 215, 216, 217, 218, 219, 220, 221, 222, 223, 224, 225, 226, 227, 228, 229, 230, 231, 232, 233] q').eval (.tmp t) = q' t := fun t h1 h2 => frm_in h1 (by rw [hsz]; exact h2)
            have evc : ∀ v, (frm a0 [145, 146, 147, 148, 149, 150, 151, 152, 153, 154, 155, 156, 157, 158, 159, 160, 161, 162, 163, 164, 165, 166, 167, 168, 169, 170, 171, 172, 173, 174, 175, 176, 177, 178, 179, 180, 181, 182, 183, 184, 185, 186, 187, 188, 189, 190, 191, 192, 193, 194, 195, 196, 197, 198, 199, 200, 201, 202, 203, 204, 205, 206, 207, 208, 209, 210, 211, 212, 213, 214, 215, 216, 217, 218, 219, 220, 221, 222, 223, 224, 225, 226, 227, 228, 229, 230, 231, 232, 233] q').eval (.const v) = v := fun v => rfl
            show wpOps Tryd.prog _ _ [88] _ _
            rw [wpOps_cons]
            refine op_at rfl rfl ?_
            refine op_run (w' := w') (v := .bool false) (run_pickB rfl ((f 223 rfl (by decide)).trans (hq 78 223 (by decide) rfl)) (by rw [((f 232 rfl (by decide)).trans (hq 87 232 (by decide) rfl)), evc]; exact now1_pk88 )) ?_
            rw [late_put 233 rfl rfl]
            show K' _ _
            refine hK' _ _ ?_
            rw [← ha0]
            go_meet
            exact ⟨(setV_same q' 233 _).trans (now1_last ), hb⟩
        case rest =>
          obtain ⟨rfl, HBx⟩ := hcut
          clear c0 c1 c2 c3 c4 c5 c6 d0 d2 d3 d4 d5
          go_upto_region 22 with fail
          obtain ⟨wx, hwx⟩ : ∃ wx, wx = wc := ⟨_, rfl⟩
          rw [← hwx] at HBx ⊢
          clear hwx
          have c0 := fun (w' : World) (hb : Below wx.heap.size wx w') => C0.out w' (HBx.out.trans (hb.mono HBx.out.size))
          have c1 := fun (w' : World) (hb : Below wx.heap.size wx w') => C1.out w' (HBx.out.trans (hb.mono HBx.out.size))
          have c2 := fun (w' : World) (hb : Below wx.heap.size wx w') => C2.out w' (HBx.out.trans (hb.mono HBx.out.size))
          have c3 := fun (w' : World) (hb : Below wx.heap.size wx w') => C3.out w' (HBx.out.trans (hb.mono HBx.out.size))
          have c4 := fun (w' : World) (hb : Below wx.heap.size wx w') => C4.out w' (HBx.out.trans (hb.mono HBx.out.size))
          have c5 := fun (w' : World) (hb : Below wx.heap.size wx w') => C5.out w' (HBx.out.trans (hb.mono HBx.out.size))
          have c6 := fun (w' : World) (hb : Below wx.heap.size wx w') => C6.out w' (HBx.out.trans (hb.mono HBx.out.size))
          have d0 := fun (w' : World) (hb : Below wx.heap.size wx w') => D0.out w' (HBx.out.trans (hb.mono HBx.out.size))
          have d2 := fun (w' : World) (hb : Below wx.heap.size wx w') => D2.out w' (HBx.out.trans (hb.mono HBx.out.size))
          have d3 := fun (w' : World) (hb : Below wx.heap.size wx w') => D3.out w' (HBx.out.trans (hb.mono HBx.out.size))
          have d4 := fun (w' : World) (hb : Below wx.heap.size wx w') => D4.out w' (HBx.out.trans (hb.mono HBx.out.size))
          have d5 := fun (w' : World) (hb : Below wx.heap.size wx w') => D5.out w' (HBx.out.trans (hb.mono HBx.out.size))
          go_cut [271] from 132 to 271 (fun sv wv => sv = .bool false ∧ Hid (Below wx.heap.size wx wv))
          case first =>
            rename_i J K' hJ hK'
            generalize ha0 : Act.mk _ _ = a0
            have hsz : a0.tmps.size = 272 := by rw [← ha0]; rfl
            have a11 : a0.eval (.tmp 11) = .slice (some ⟨r0, 0, none⟩) nm nm := by rw [← ha0]; rfl
            have a13 : a0.eval (.tmp 13) = .slice (some ⟨r1, 0, none⟩) nm nm := by rw [← ha0]; rfl
            have a15 : a0.eval (.tmp 15) = .slice (some ⟨r2, 0, none⟩) nm nm := by rw [← ha0]; rfl
            have a17 : a0.eval (.tmp 17) = .slice (some ⟨r3, 0, none⟩) nm nm := by rw [← ha0]; rfl
            have a19 : a0.eval (.tmp 19) = .slice (some ⟨r4, 0, none⟩) nm nm := by rw [← ha0]; rfl
            have a21 : a0.eval (.tmp 21) = .slice (some ⟨r5, 0, none⟩) nm nm := by rw [← ha0]; rfl
            have a23 : a0.eval (.tmp 23) = .slice (some ⟨r6, 0, none⟩) nm nm := by rw [← ha0]; rfl
            have a25 : a0.eval (.tmp 25) = .int .i64 (q : Int) := by rw [← ha0]; rfl
            have a26 : a0.eval (.tmp 26) = .int .i64 (kk : Int) := by rw [← ha0]; first | rfl | (show Value.int _ _ = _; congr 1)
            refine wp_inorderG [234, 235, 236, 237, 238, 239, 240, 241, 242, 243, 244, 245, 246, 247, 248, 249, 250, 251, 252, 253, 254, 255, 256, 257, 258, 259, 260, 261, 262, 263, 264, 265, 266, 267, 268, 269, 270, 271] 37 (now2P r0 r1 r2 r3 r4 r5 r6 nm q kk b0 b1 k0 k2 k3 k4 k5) (by rw [hsz]; rfl) (now2P_stable _ _ _ _ _ _ _ _ _ _ _ _ _ _ _ _ _ ) ?_ ?_
            · intro i o hi ho q' w' hb hq
              have f : ∀ t, [234, 235, 236, 237, 238, 239, 240, 241, 242, 243, 244, 245, 246, 247, 248, 249, 250, 251, 252, 253, 254, 255, 256, 257, 258, 259, 260, 261, 262, 263, 264, 265, 266, 267, 268, 269, 270, 271].contains t = true → t < 272 → (frm a0 [234, 235, 236, 237, 238, 239, 240, 241, 242, 243, 244, 245, 246, 247, 248, 249, 250, 251, 252, 253, 254, 255, 256, 257, 258, 259, 260, 261, 262, 263, 264, 265, 266, 267, 268, 269, 270, 271] q').eval (.tmp t) = q' t := fun t h1 h2 => frm_in h1 (by rw [hsz]; exact h2)
              have evc : ∀ v, (frm a0 [234, 235, 236, 237, 238, 239, 240, 241, 242, 243, 244, 245, 246, 247, 248, 249, 250, 251, 252, 253, 254, 255, 256, 257, 258, 259, 260, 261, 262, 263, 264, 265, 266, 267, 268, 269, 270, 271] q').eval (.const v) = v := fun v => rfl
              rcases now2_lt i hi with rfl | rfl | rfl | rfl | rfl | rfl | rfl | rfl | rfl | rfl | rfl | rfl | rfl | rfl | rfl | rfl | rfl | rfl | rfl | rfl | rfl | rfl | rfl | rfl | rfl | rfl | rfl | rfl | rfl | rfl | rfl | rfl | rfl | rfl | rfl | rfl | rfl
              all_goals obtain rfl := Option.some.inj ho
              · exact op_plain rfl rfl (op_val (w' := w') (v := .slice (some ⟨r2, 0, none⟩) nm nm) (run_moveB rfl ((frm_out rfl).trans a15)) (Below.refl _ _) rfl)
              · exact op_plain rfl rfl (op_val (w' := w') (v := .int .i64 (q : Int)) (run_moveB rfl ((frm_out rfl).trans a25)) (Below.refl _ _) rfl)
              · exact op_plain rfl rfl (op_val (w' := w') (v := .pointer (some ⟨r2, q, none⟩)) (run_idxB rfl ((f 234 rfl (by decide)).trans (hq 0 234 rfl rfl)) ((f 235 rfl (by decide)).trans (hq 1 235 rfl rfl)) hxq) (Below.refl _ _) rfl)
              · exact op_plain rfl rfl (op_val (w' := w') (v := .bool (b1 || (b0 && k2))) (run_loadB rfl ((f 236 rfl (by decide)).trans (hq 2 236 rfl rfl)) (c2 w' hb)) (Below.refl _ _) rfl)
              · exact op_plain rfl rfl (op_val (w' := w') (v := .bool (b1 || (b0 && k2))) (run_moveB rfl ((f 237 rfl (by decide)).trans (hq 3 237 rfl rfl))) (Below.refl _ _) rfl)
              · exact op_guard (g := true) (x := (b1 || (b0 && k2))) rfl rfl rfl ((f 238 rfl (by decide)).trans (hq 4 238 rfl rfl)) (fun hg => op_val (w' := w') (v := .slice (some ⟨r4, 0, none⟩) nm nm) (run_moveB rfl ((frm_out rfl).trans a19)) (Below.refl _ _) (cond_yes hg).symm) (fun hg => ⟨undef, rfl, Below.refl _ _, cond_no hg⟩)
              · exact op_guard (g := true) (x := (b1 || (b0 && k2))) rfl rfl rfl ((f 238 rfl (by decide)).trans (hq 4 238 rfl rfl)) (fun hg => op_val (w' := w') (v := .int .i64 (q : Int)) (run_moveB rfl ((frm_out rfl).trans a25)) (Below.refl _ _) (cond_yes hg).symm) (fun hg => ⟨undef, rfl, Below.refl _ _, cond_no hg⟩)
              · exact op_guard (g := true) (x := (b1 || (b0 && k2))) rfl rfl rfl ((f 238 rfl (by decide)).trans (hq 4 238 rfl rfl)) (fun hg => op_val (w' := w') (v := .pointer (some ⟨r4, q, none⟩)) (run_idxB rfl (((f 239 rfl (by decide)).trans (hq 5 239 rfl rfl)).trans (cond_yes hg)) (((f 240 rfl (by decide)).trans (hq 6 240 rfl rfl)).trans (cond_yes hg)) hxq) (Below.refl _ _) (cond_yes hg).symm) (fun hg => ⟨undef, rfl, Below.refl _ _, cond_no hg⟩)
              · exact op_guard (g := true) (x := (b1 || (b0 && k2))) rfl rfl rfl ((f 238 rfl (by decide)).trans (hq 4 238 rfl rfl)) (fun hg => op_val (w' := w') (v := .bool (b0 || k4)) (run_loadB rfl (((f 241 rfl (by decide)).trans (hq 7 241 rfl rfl)).trans (cond_yes hg)) (c4 w' hb)) (Below.refl _ _) (cond_yes hg).symm) (fun hg => ⟨undef, rfl, Below.refl _ _, cond_no hg⟩)
              · exact op_guard (g := true) (x := (b1 || (b0 && k2))) rfl rfl rfl ((f 238 rfl (by decide)).trans (hq 4 238 rfl rfl)) (fun hg => op_val (w' := w') (v := .bool (!(b0 || k4))) (run_notB rfl (((f 242 rfl (by decide)).trans (hq 8 242 rfl rfl)).trans (cond_yes hg))) (Below.refl _ _) (cond_yes hg).symm) (fun hg => ⟨undef, rfl, Below.refl _ _, cond_no hg⟩)
              · exact op_plain rfl rfl (op_val (w' := w') (v := .bool ((b1 || (b0 && k2)) && (!(b0 || k4)))) (run_pickB rfl ((f 238 rfl (by decide)).trans (hq 4 238 rfl rfl)) (by rw [((f 243 rfl (by decide)).trans (hq 9 243 rfl rfl)), evc]; exact now2_pk10 b0 b1 k2 k4)) (Below.refl _ _) rfl)
              · exact op_plain rfl rfl (op_val (w' := w') (v := .bool ((b1 || (b0 && k2)) && (!(b0 || k4)))) (run_moveB rfl ((f 244 rfl (by decide)).trans (hq 10 244 rfl rfl))) (Below.refl _ _) rfl)
              · exact op_guard (g := true) (x := ((b1 || (b0 && k2)) && (!(b0 || k4)))) rfl rfl rfl ((f 245 rfl (by decide)).trans (hq 11 245 rfl rfl)) (fun hg => op_val (w' := w') (v := .slice (some ⟨r1, 0, none⟩) nm nm) (run_moveB rfl ((frm_out rfl).trans a13)) (Below.refl _ _) (cond_yes hg).symm) (fun hg => ⟨undef, rfl, Below.refl _ _, cond_no hg⟩)
              · exact op_guard (g := true) (x := ((b1 || (b0 && k2)) && (!(b0 || k4)))) rfl rfl rfl ((f 245 rfl (by decide)).trans (hq 11 245 rfl rfl)) (fun hg => op_val (w' := w') (v := .int .i64 (q : Int)) (run_moveB rfl ((frm_out rfl).trans a25)) (Below.refl _ _) (cond_yes hg).symm) (fun hg => ⟨undef, rfl, Below.refl _ _, cond_no hg⟩)
              · exact op_guard (g := true) (x := ((b1 || (b0 && k2)) && (!(b0 || k4)))) rfl rfl rfl ((f 245 rfl (by decide)).trans (hq 11 245 rfl rfl)) (fun hg => op_val (w' := w') (v := .pointer (some ⟨r1, q, none⟩)) (run_idxB rfl (((f 246 rfl (by decide)).trans (hq 12 246 rfl rfl)).trans (cond_yes hg)) (((f 247 rfl (by decide)).trans (hq 13 247 rfl rfl)).trans (cond_yes hg)) hxq) (Below.refl _ _) (cond_yes hg).symm) (fun hg => ⟨undef, rfl, Below.refl _ _, cond_no hg⟩)
              · exact op_guard (g := true) (x := ((b1 || (b0 && k2)) && (!(b0 || k4)))) rfl rfl rfl ((f 245 rfl (by decide)).trans (hq 11 245 rfl rfl)) (fun hg => op_val (w' := w') (v := .bool b1) (run_loadB rfl (((f 248 rfl (by decide)).trans (hq 14 248 rfl rfl)).trans (cond_yes hg)) (c1 w' hb)) (Below.refl _ _) (cond_yes hg).symm) (fun hg => ⟨undef, rfl, Below.refl _ _, cond_no hg⟩)
              · exact op_guard (g := true) (x := ((b1 || (b0 && k2)) && (!(b0 || k4)))) rfl rfl rfl ((f 245 rfl (by decide)).trans (hq 11 245 rfl rfl)) (fun hg => op_val (w' := w') (v := .bool (!b1)) (run_notB rfl (((f 249 rfl (by decide)).trans (hq 15 249 rfl rfl)).trans (cond_yes hg))) (Below.refl _ _) (cond_yes hg).symm) (fun hg => ⟨undef, rfl, Below.refl _ _, cond_no hg⟩)
              · exact op_plain rfl rfl (op_val (w' := w') (v := .bool (((b1 || (b0 && k2)) && (!(b0 || k4))) && (!b1))) (run_pickB rfl ((f 245 rfl (by decide)).trans (hq 11 245 rfl rfl)) (by rw [((f 250 rfl (by decide)).trans (hq 16 250 rfl rfl)), evc]; exact now2_pk17 b0 b1 k2 k4)) (Below.refl _ _) rfl)
              · exact op_plain rfl rfl (op_val (w' := w') (v := .bool (((b1 || (b0 && k2)) && (!(b0 || k4))) && (!b1))) (run_moveB rfl ((f 251 rfl (by decide)).trans (hq 17 251 rfl rfl))) (Below.refl _ _) rfl)
              · exact op_guard (g := true) (x := (((b1 || (b0 && k2)) && (!(b0 || k4))) && (!b1))) rfl rfl rfl ((f 252 rfl (by decide)).trans (hq 18 252 rfl rfl)) (fun hg => op_val (w' := w') (v := .slice (some ⟨r2, 0, none⟩) nm nm) (run_moveB rfl ((frm_out rfl).trans a15)) (Below.refl _ _) (cond_yes hg).symm) (fun hg => ⟨undef, rfl, Below.refl _ _, cond_no hg⟩)
              · exact op_guard (g := true) (x := (((b1 || (b0 && k2)) && (!(b0 || k4))) && (!b1))) rfl rfl rfl ((f 252 rfl (by decide)).trans (hq 18 252 rfl rfl)) (fun hg => op_val (w' := w') (v := .int .i64 (kk : Int)) (run_moveB rfl ((frm_out rfl).trans a26)) (Below.refl _ _) (cond_yes hg).symm) (fun hg => ⟨undef, rfl, Below.refl _ _, cond_no hg⟩)
              · exact op_guard (g := true) (x := (((b1 || (b0 && k2)) && (!(b0 || k4))) && (!b1))) rfl rfl rfl ((f 252 rfl (by decide)).trans (hq 18 252 rfl rfl)) (fun hg => op_val (w' := w') (v := .pointer (some ⟨r2, kk, none⟩)) (run_idxB rfl (((f 253 rfl (by decide)).trans (hq 19 253 rfl rfl)).trans (cond_yes hg)) (((f 254 rfl (by decide)).trans (hq 20 254 rfl rfl)).trans (cond_yes hg)) hxkk) (Below.refl _ _) (cond_yes hg).symm) (fun hg => ⟨undef, rfl, Below.refl _ _, cond_no hg⟩)
              · exact op_guard (g := true) (x := (((b1 || (b0 && k2)) && (!(b0 || k4))) && (!b1))) rfl rfl rfl ((f 252 rfl (by decide)).trans (hq 18 252 rfl rfl)) (fun hg => op_val (w' := w') (v := .bool k2) (run_loadB rfl (((f 255 rfl (by decide)).trans (hq 21 255 rfl rfl)).trans (cond_yes hg)) (d2 w' hb)) (Below.refl _ _) (cond_yes hg).symm) (fun hg => ⟨undef, rfl, Below.refl _ _, cond_no hg⟩)
              · exact op_guard (g := true) (x := (((b1 || (b0 && k2)) && (!(b0 || k4))) && (!b1))) rfl rfl rfl ((f 252 rfl (by decide)).trans (hq 18 252 rfl rfl)) (fun hg => op_val (w' := w') (v := .bool (!k2)) (run_notB rfl (((f 256 rfl (by decide)).trans (hq 22 256 rfl rfl)).trans (cond_yes hg))) (Below.refl _ _) (cond_yes hg).symm) (fun hg => ⟨undef, rfl, Below.refl _ _, cond_no hg⟩)
              · exact op_plain rfl rfl (op_val (w' := w') (v := .bool ((((b1 || (b0 && k2)) && (!(b0 || k4))) && (!b1)) && (!k2))) (run_pickB rfl ((f 252 rfl (by decide)).trans (hq 18 252 rfl rfl)) (by rw [((f 257 rfl (by decide)).trans (hq 23 257 rfl rfl)), evc]; exact now2_pk24 b0 b1 k2 k4)) (Below.refl _ _) rfl)
              · exact op_plain rfl rfl (op_val (w' := w') (v := .bool ((((b1 || (b0 && k2)) && (!(b0 || k4))) && (!b1)) && (!k2))) (run_moveB rfl ((f 258 rfl (by decide)).trans (hq 24 258 rfl rfl))) (Below.refl _ _) rfl)
              · exact op_guard (g := true) (x := ((((b1 || (b0 && k2)) && (!(b0 || k4))) && (!b1)) && (!k2))) rfl rfl rfl ((f 259 rfl (by decide)).trans (hq 25 259 rfl rfl)) (fun hg => op_val (w' := w') (v := .slice (some ⟨r5, 0, none⟩) nm nm) (run_moveB rfl ((frm_out rfl).trans a21)) (Below.refl _ _) (cond_yes hg).symm) (fun hg => ⟨undef, rfl, Below.refl _ _, cond_no hg⟩)
              · exact op_guard (g := true) (x := ((((b1 || (b0 && k2)) && (!(b0 || k4))) && (!b1)) && (!k2))) rfl rfl rfl ((f 259 rfl (by decide)).trans (hq 25 259 rfl rfl)) (fun hg => op_val (w' := w') (v := .int .i64 (q : Int)) (run_moveB rfl ((frm_out rfl).trans a25)) (Below.refl _ _) (cond_yes hg).symm) (fun hg => ⟨undef, rfl, Below.refl _ _, cond_no hg⟩)
              · exact op_guard (g := true) (x := ((((b1 || (b0 && k2)) && (!(b0 || k4))) && (!b1)) && (!k2))) rfl rfl rfl ((f 259 rfl (by decide)).trans (hq 25 259 rfl rfl)) (fun hg => op_val (w' := w') (v := .pointer (some ⟨r5, q, none⟩)) (run_idxB rfl (((f 260 rfl (by decide)).trans (hq 26 260 rfl rfl)).trans (cond_yes hg)) (((f 261 rfl (by decide)).trans (hq 27 261 rfl rfl)).trans (cond_yes hg)) hxq) (Below.refl _ _) (cond_yes hg).symm) (fun hg => ⟨undef, rfl, Below.refl _ _, cond_no hg⟩)
              · exact op_guard (g := true) (x := ((((b1 || (b0 && k2)) && (!(b0 || k4))) && (!b1)) && (!k2))) rfl rfl rfl ((f 259 rfl (by decide)).trans (hq 25 259 rfl rfl)) (fun hg => op_val (w' := w') (v := .bool (b0 && k5)) (run_loadB rfl (((f 262 rfl (by decide)).trans (hq 28 262 rfl rfl)).trans (cond_yes hg)) (c5 w' hb)) (Below.refl _ _) (cond_yes hg).symm) (fun hg => ⟨undef, rfl, Below.refl _ _, cond_no hg⟩)
              · exact op_guard (g := true) (x := ((((b1 || (b0 && k2)) && (!(b0 || k4))) && (!b1)) && (!k2))) rfl rfl rfl ((f 259 rfl (by decide)).trans (hq 25 259 rfl rfl)) (fun hg => op_val (w' := w') (v := .bool (b0 && k5)) (run_moveB rfl (((f 263 rfl (by decide)).trans (hq 29 263 rfl rfl)).trans (cond_yes hg))) (Below.refl _ _) (cond_yes hg).symm) (fun hg => ⟨undef, rfl, Below.refl _ _, cond_no hg⟩)
              · exact op_guard (g := (true && (((((b1 || (b0 && k2)) && (!(b0 || k4))) && (!b1)) && (!k2)) == false))) (x := (b0 && k5)) rfl rfl rfl ((f 264 rfl (by decide)).trans (hq 30 264 rfl rfl)) (fun hg => op_val (w' := w') (v := .slice (some ⟨r0, 0, none⟩) nm nm) (run_moveB rfl ((frm_out rfl).trans a11)) (Below.refl _ _) (cond_yes hg).symm) (fun hg => ⟨undef, rfl, Below.refl _ _, cond_no hg⟩)
              · exact op_guard (g := (true && (((((b1 || (b0 && k2)) && (!(b0 || k4))) && (!b1)) && (!k2)) == false))) (x := (b0 && k5)) rfl rfl rfl ((f 264 rfl (by decide)).trans (hq 30 264 rfl rfl)) (fun hg => op_val (w' := w') (v := .int .i64 (q : Int)) (run_moveB rfl ((frm_out rfl).trans a25)) (Below.refl _ _) (cond_yes hg).symm) (fun hg => ⟨undef, rfl, Below.refl _ _, cond_no hg⟩)
              · exact op_guard (g := (true && (((((b1 || (b0 && k2)) && (!(b0 || k4))) && (!b1)) && (!k2)) == false))) (x := (b0 && k5)) rfl rfl rfl ((f 264 rfl (by decide)).trans (hq 30 264 rfl rfl)) (fun hg => op_val (w' := w') (v := .pointer (some ⟨r0, q, none⟩)) (run_idxB rfl (((f 265 rfl (by decide)).trans (hq 31 265 rfl rfl)).trans (cond_yes hg)) (((f 266 rfl (by decide)).trans (hq 32 266 rfl rfl)).trans (cond_yes hg)) hxq) (Below.refl _ _) (cond_yes hg).symm) (fun hg => ⟨undef, rfl, Below.refl _ _, cond_no hg⟩)
              · exact op_guard (g := (true && (((((b1 || (b0 && k2)) && (!(b0 || k4))) && (!b1)) && (!k2)) == false))) (x := (b0 && k5)) rfl rfl rfl ((f 264 rfl (by decide)).trans (hq 30 264 rfl rfl)) (fun hg => op_val (w' := w') (v := .bool b0) (run_loadB rfl (((f 267 rfl (by decide)).trans (hq 33 267 rfl rfl)).trans (cond_yes hg)) (c0 w' hb)) (Below.refl _ _) (cond_yes hg).symm) (fun hg => ⟨undef, rfl, Below.refl _ _, cond_no hg⟩)
              · exact op_guard (g := (true && (((((b1 || (b0 && k2)) && (!(b0 || k4))) && (!b1)) && (!k2)) == false))) (x := (b0 && k5)) rfl rfl rfl ((f 264 rfl (by decide)).trans (hq 30 264 rfl rfl)) (fun hg => op_val (w' := w') (v := .bool (!b0)) (run_notB rfl (((f 268 rfl (by decide)).trans (hq 34 268 rfl rfl)).trans (cond_yes hg))) (Below.refl _ _) (cond_yes hg).symm) (fun hg => ⟨undef, rfl, Below.refl _ _, cond_no hg⟩)
              · exact op_guard (g := true) (x := ((((b1 || (b0 && k2)) && (!(b0 || k4))) && (!b1)) && (!k2))) rfl rfl rfl ((f 259 rfl (by decide)).trans (hq 25 259 rfl rfl)) (fun hg => op_val (w' := w') (v := .bool ((b0 && k5) && (!b0))) (run_pickB rfl (((f 264 rfl (by decide)).trans (hq 30 264 rfl rfl)).trans (cond_yes hg)) (by rw [((f 269 rfl (by decide)).trans (hq 35 269 rfl rfl)), evc]; exact now2_pk36 b0 b1 k2 k4 k5 hg)) (Below.refl _ _) (cond_yes hg).symm) (fun hg => ⟨undef, rfl, Below.refl _ _, cond_no hg⟩)
            · intro q' w' hb hq
              have f : ∀ t, [234, 235, 236, 237, 238, 239, 240, 241, 242, 243, 244, 245, 246, 247, 248, 249, 250, 251, 252, 253, 254, 255, 256, 257, 258, 259, 260, 261, 262, 263, 264, 265, 266, 267, 268, 269, 270, 271].contains t = true → t < 272 → (frm a0 [234, 235, 236, 237, 238, 239, 240, 241, 242, 243, 244, 245, 246, 247, 248, 249, 250, 251, 252, 253, 254, 255, 256, 257, 258, 259, 260, 261, 262, 263, 264, 265, 266, 267, 268, 269, 270, 271] q').eval (.tmp t) = q' t := fun t h1 h2 => frm_in h1 (by rw [hsz]; exact h2)
              have evc : ∀ v, (frm a0 [234, 235, 236, 237, 238, 239, 240, 241, 242, 243, 244, 245, 246, 247, 248, 249, 250, 251, 252, 253, 254, 255, 256, 257, 258, 259, 260, 261, 262, 263, 264, 265, 266, 267, 268, 269, 270, 271] q').eval (.const v) = v := fun v => rfl
              show wpOps Tryd.prog _ _ [37] _ _
              rw [wpOps_cons]
              refine op_at rfl rfl ?_
              refine op_run (w' := w') (v := .bool (((((b1 || (b0 && k2)) && (!(b0 || k4))) && (!b1)) && (!k2)) || ((b0 && k5) && (!b0)))) (run_pickB rfl ((f 259 rfl (by decide)).trans (hq 25 259 (by decide) rfl)) (by rw [((f 270 rfl (by decide)).trans (hq 36 270 (by decide) rfl)), evc]; exact now2_pk37 b0 b1 k2 k4 k5)) ?_
              rw [late_put 271 rfl rfl]
              show K' _ _
              refine hK' _ _ ?_
              rw [← ha0]
              go_meet
              exact ⟨(setV_same q' 271 _).trans (now2_last b0 b1 k2 k4 k5), hb⟩
          case rest =>
            obtain ⟨rfl, HBy⟩ := hcut
            have HBz : Hid (Below w6c.heap.size w6c wc) := HBel.out.trans ((HBx.out.trans (HBy.out.mono HBx.out.size)).mono HBel.out.size)
            clear c0 c1 c2 c3 c4 c5 c6 d0 d2 d3 d4 d5 C0 C1 C2 C3 C4 C5 C6 D0 D2 D3 D4 D5
            have hkk := HKK.out
            subst hkk
            go_wp2_with fail
            go_roundw
            case rel => exact ⟨q + 1, by omega, by go_num, HBz⟩
            case measure => simp [intOf]; omega
    · obtain rfl : q = nm := by omega
      go_wp2_with fail
      go_ret
      exact ⟨rfl, hbf.trans (hbel.mono hbf.size)⟩
end Go.Proofs.YtbnhjbjlcnmjbaaDoor
