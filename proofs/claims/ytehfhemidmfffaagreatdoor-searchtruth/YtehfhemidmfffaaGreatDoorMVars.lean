import Derived.Test.YtehfhemidmfffaaGreatDoorMName
import Derived.Test.YtehfhemidmfffaaGreatDoorModelMem
open Go.IntKind renaming i64→Y
open Go.Value renaming int→Z
namespace Go.Proofs.YtehfhemidmfffaaGreatDoor
open Go.RowKit.Below renaming refl→qD
open _root_.Nat renaming le_refl→qB
open Go.Proofs.Tryz renaming prog→qA
open Go.ChangeShapes Go.WideShapes Go.ChangeAt Go.RowKit Go.Deep
open Terms Tm
open Go.Proofs.Tryz renaming func113→ch,func139→cj,ntmps113→cq,ntmps139→cr
set_option maxHeartbeats 6400000
set_option maxRecDepth 20000
theorem OB(s:ByteArray)(lo hi ini x:Int)(w:World) :
  Calls qA 139 #[.agg #[.string s,Z Y lo,Z Y hi,Z Y ini],Z Y x] w fun e w'=>e=.returned (.bool (decide (lo<=x/\x<=hi)))/\Below w.heap.size w w':=by
 by_cases h1:lo<=x
 .by_cases h2:x<=hi
  .rw[show decide (lo<=x/\x<=hi)=true by simp[h1,h2]];go_enter cj,cr;go_wp2;all_goals go_ret
   all_goals exact⟨rfl,ai⟩
  .rw[show decide (lo<=x/\x<=hi)=false by simp[h2]];go_enter cj,cr;go_wp2;all_goals go_ret
   all_goals exact⟨rfl,ai⟩
 .rw[show decide (lo<=x/\x<=hi)=false by simp[h1]];go_enter cj,cr;go_wp2;all_goals go_ret
  all_goals exact⟨rfl,ai⟩
theorem Hs(s:ByteArray)(lo hi ini:Int)(w:World)(h1:-1000<=lo)(h2:hi<=1000)(h3:lo<=hi) :
  Calls qA 83 #[.agg #[.string s,Z Y lo,Z Y hi,Z Y ini]] w fun e w'=>e=.returned (Z Y (hi-lo+1))/\Below w.heap.size w w':=by
 go_enter Tryz.func83,Tryz.ntmps83;go_wp2;all_goals go_ret
 all_goals exact⟨rfl,ai⟩
theorem PP(s:ByteArray)(lo hi ini:Int)(w:World) :
  Calls qA 113 #[.agg #[.string s,Z Y lo,Z Y hi,Z Y ini]] w fun e w'=>e=.returned (.bool (CJ ⟨s,lo,hi,ini⟩))/\Below w.heap.size w w':=by
 by_cases hb:-1000<=lo/\hi<=1000/\lo<=hi
 .obtain ⟨h1,h2,h3⟩:=hb;rw[show CJ ⟨s,lo,hi,ini⟩=decide (lo<=ini/\ini<=hi) by simp[CJ,h1,h2,h3]];have hw:=fun w=>OB s lo hi ini ini w;generalize decide (lo<=ini/\ini<=hi)=bb at *
  go_enter ch,cq;go_wp2_with (go_at_call 139;refine(hw _).mono ?_;rintro e w1 ⟨rfl,hb1⟩)
  all_goals go_ret
  all_goals exact⟨rfl,(ai).trans (hb1.mono (by simp))⟩
 .rw[show CJ ⟨s,lo,hi,ini⟩=false by simp[CJ];omega];have hcase:¬ -1000<=lo\/(-1000<=lo/\¬hi<=1000)\/(-1000<=lo/\hi<=1000/\¬lo<=hi):=by omega
  clear hb;rcases hcase with h1|⟨h1,h2⟩|⟨h1,h2,h3⟩;all_goals
   go_enter ch,cq;go_wp2;all_goals go_ret
   all_goals exact⟨rfl,ai⟩
