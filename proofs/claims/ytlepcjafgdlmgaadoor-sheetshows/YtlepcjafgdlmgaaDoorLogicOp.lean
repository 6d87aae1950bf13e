import Derived.Test.YtlepcjafgdlmgaaDoorLogicM
namespace Go.Proofs.YtlepcjafgdlmgaaDoor
open Go.ChangeShapes Go.WideShapes Go.ChangeAt Go.RowKit Go.Deep
open Terms
set_option maxHeartbeats 6400000
set_option maxRecDepth 20000
theorem look_any (k:Int) (w:World) :
  Calls Tryd.prog 51 #[.int .i64 k] w fun e w'=>e=.returned (.bool (lookB k))/\w'=w:=by
 by_cases h:14 <= k/\k <= 18
 ·have hk:k=14\/k=15\/k=16\/k=17\/k=18:=by omega
  clear h
  rcases hk with rfl | rfl | rfl | rfl | rfl
  all_goals
   go_enter Tryd.func51,Tryd.ntmps51
   go_wp2
   all_goals go_ret
   all_goals exact ⟨rfl,rfl⟩
 ·have hm:lookB k=false:=by simp [lookB];omega
  rw [hm];have e1:¬ k=14:=by omega
  have e2:¬ k=15:=by omega
  have e3:¬ k=16:=by omega
  have e4:¬ k=17:=by omega
  have e5:¬ k=18:=by omega
  clear hm h
  go_enter Tryd.func51,Tryd.ntmps51
  go_wp2
  all_goals go_ret
  all_goals exact ⟨rfl,rfl⟩
theorem lcheckOp_any (k v props:Int) (w:World) (h0:0 <= props) (h6:props <= 6) :
  Calls Tryd.prog 50 #[.agg #[.int .i64 k,.int .i64 v],.int .i64 props] w fun e w'=>e=.returned (.int .i64 (lopErr props (k,v)))/\Below w.heap.size w w':=by
 by_cases hk:k < 8
 ·have hx:lopErr props (k,v)=13:=by simp [lopErr,hk]
  rw [hx];clear hx
  go_enter Tryd.func50,Tryd.ntmps50
  go_wp2
  all_goals go_ret
  all_goals exact ⟨rfl,(Below.refl _ _).alloc (Nat.le_refl _) _⟩
 ·by_cases h2:k=13
  ·subst h2
   by_cases hv:0 <= v/\v <= props - 1
   ·have hx:lopErr props (13,v)=0:=by simp [lopErr];omega
    rw [hx];obtain ⟨ha,hb⟩:=hv;clear hx
    go_enter Tryd.func50,Tryd.ntmps50
    go_wp2
    all_goals go_ret
    all_goals exact ⟨rfl,(Below.refl _ _).alloc (Nat.le_refl _) _⟩
   ·have hx:lopErr props (13,v)=2:=by simp [lopErr];omega
    rw [hx];have hv':v < 0\/props - 1 < v:=by omega
    clear hx hv
    rcases hv' with hv | hv
    all_goals
     go_enter Tryd.func50,Tryd.ntmps50
     go_wp2
     all_goals go_ret
     all_goals exact ⟨rfl,(Below.refl _ _).alloc (Nat.le_refl _) _⟩
  ·by_cases hv:v=0
   ·subst hv
    have hx:lopErr props (k,0)=0:=by simp [lopErr,h2];omega
    rw [hx];clear hx
    go_enter Tryd.func50,Tryd.ntmps50
    go_wp2
    all_goals go_ret
    all_goals exact ⟨rfl,(Below.refl _ _).alloc (Nat.le_refl _) _⟩
   ·have hx:lopErr props (k,v)=2:=by simp [lopErr,h2];omega
    rw [hx];have hv':v < 0\/0 < v:=by omega
    clear hx hv
    rcases hv' with hv | hv
    all_goals
     go_enter Tryd.func50,Tryd.ntmps50
     go_wp2
     all_goals go_ret
     all_goals exact ⟨rfl,(Below.refl _ _).alloc (Nat.le_refl _) _⟩
