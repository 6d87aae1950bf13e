import Derived.Test.YtlepcjafgdlmgaaDoorMName
import Derived.Test.YtlepcjafgdlmgaaDoorModelMem
namespace Go.Proofs.YtlepcjafgdlmgaaDoor
open Go.ChangeShapes Go.WideShapes Go.ChangeAt Go.RowKit Go.Deep
open Terms Tm
set_option maxHeartbeats 6400000
set_option maxRecDepth 20000
theorem within_any (s:ByteArray) (lo hi ini x:Int) (w:World) :
  Calls Tryd.prog 73 #[.agg #[.string s,.int .i64 lo,.int .i64 hi,.int .i64 ini],.int .i64 x] w fun e w'=>e=.returned (.bool (decide (lo <= x/\x <= hi)))/\Below w.heap.size w w':=by
 by_cases h1:lo <= x
 ·by_cases h2:x <= hi
  ·rw [show decide (lo <= x/\x <= hi)=true by simp [h1,h2]]
   go_enter Tryd.func73,Tryd.ntmps73
   go_wp2
   all_goals go_ret
   all_goals exact ⟨rfl,(Below.refl _ _).alloc (Nat.le_refl _) _⟩
  ·rw [show decide (lo <= x/\x <= hi)=false by simp [h2]]
   go_enter Tryd.func73,Tryd.ntmps73
   go_wp2
   all_goals go_ret
   all_goals exact ⟨rfl,(Below.refl _ _).alloc (Nat.le_refl _) _⟩
 ·rw [show decide (lo <= x/\x <= hi)=false by simp [h1]]
  go_enter Tryd.func73,Tryd.ntmps73
  go_wp2
  all_goals go_ret
  all_goals exact ⟨rfl,(Below.refl _ _).alloc (Nat.le_refl _) _⟩
theorem span_any (s:ByteArray) (lo hi ini:Int) (w:World) (h1:-1000 <= lo) (h2:hi <= 1000) (h3:lo <= hi) :
  Calls Tryd.prog 60 #[.agg #[.string s,.int .i64 lo,.int .i64 hi,.int .i64 ini]] w fun e w'=>e=.returned (.int .i64 (hi - lo+1))/\Below w.heap.size w w':=by
 go_enter Tryd.func60,Tryd.ntmps60
 go_wp2
 all_goals go_ret
 all_goals exact ⟨rfl,(Below.refl _ _).alloc (Nat.le_refl _) _⟩
theorem boundsFit_any (s:ByteArray) (lo hi ini:Int) (w:World) :
  Calls Tryd.prog 59 #[.agg #[.string s,.int .i64 lo,.int .i64 hi,.int .i64 ini]] w fun e w'=>e=.returned (.bool (vbound ⟨s,lo,hi,ini⟩))/\Below w.heap.size w w':=by
 by_cases hb:-1000 <= lo/\hi <= 1000/\lo <= hi
 ·obtain ⟨h1,h2,h3⟩:=hb
  rw [show vbound ⟨s,lo,hi,ini⟩=decide (lo <= ini/\ini <= hi) by simp [vbound,h1,h2,h3]]
  have hw:=fun w=>within_any s lo hi ini ini w
  generalize decide (lo <= ini/\ini <= hi)=bb at *
  go_enter Tryd.func59,Tryd.ntmps59
  go_wp2_with (go_at_call 73;refine (hw _).mono ?_;rintro e w1 ⟨rfl,hb1⟩)
  all_goals go_ret
  all_goals exact ⟨rfl,((Below.refl _ _).alloc (Nat.le_refl _) _).trans (hb1.mono (by simp))⟩
 ·rw [show vbound ⟨s,lo,hi,ini⟩=false by simp [vbound];omega]
  have hcase:¬ -1000 <= lo\/(-1000 <= lo/\¬ hi <= 1000)\/(-1000 <= lo/\hi <= 1000/\¬ lo <= hi):=by omega
  clear hb
  rcases hcase with h1 | ⟨h1,h2⟩ | ⟨h1,h2,h3⟩
  all_goals
   go_enter Tryd.func59,Tryd.ntmps59
   go_wp2
   all_goals go_ret
   all_goals exact ⟨rfl,(Below.refl _ _).alloc (Nat.le_refl _) _⟩
