import Derived.Test.YtehfhemidmfffaaGreatDoorMem
import Derived.Test.YtehfhemidmfffaaGreatDoorTrees
namespace Go.Proofs.YtehfhemidmfffaaGreatDoor
open Go.RowKit.Below renaming refl→qD
open _root_.Nat renaming le_refl→qB
open Go.Proofs.Tryz renaming prog→qA
open Go.ChangeShapes Go.WideShapes Go.ChangeAt Go.RowKit Go.Deep
open Terms Tm
open Go.Proofs.Tryz renaming func137→cC,func140→cD,func172→cF,ntmps137→cG,ntmps140→cH,ntmps172→cI
set_option maxHeartbeats 6400000
set_option maxRecDepth 20000
theorem NJ{a b:Bool}(h:a=b):Ending.returned (.bool a)=.returned (.bool b):=by rw[h]
theorem MC(k:Int)(w:World)(h1:1<=k)(h12:k<=12) :
  Calls qA 137 #[.int .i64 k] w fun e w'=>e=.returned (.bool (mkT k))/\w'=w:=by
 by_cases h6:6<=k
 .have hm:mkT k=true:=by simp[mkT];omega
  rw[hm];have e1:¬k=1:=by omega
  have e2:¬k=2:=by omega
  have e3:¬k=3:=by omega
  have e4:¬k=4:=by omega
  have e5:¬k=5:=by omega
  clear hm h1 h12 h6;go_enter cC,cG;go_wp2;all_goals go_ret
  all_goals exact⟨rfl,rfl⟩
 .have hk:k=1\/k=2\/k=3\/k=4\/k=5:=by omega
  clear h1 h12 h6;rcases hk with rfl|rfl|rfl|rfl|rfl;all_goals
   go_enter cC,cG;go_wp2;all_goals go_ret
   all_goals exact⟨rfl,rfl⟩
theorem V5(k:Int)(w:World) :
  Calls qA 172 #[.int .i64 k] w fun e w'=>e=.returned (.bool (tkT k))/\w'=w:=by
 by_cases h:8<=k/\k<=10
 .have hk:k=8\/k=9\/k=10:=by omega
  clear h;rcases hk with rfl|rfl|rfl;all_goals
   go_enter cF,cI;go_wp2;all_goals go_ret
   all_goals exact⟨rfl,rfl⟩
 .have hm:tkT k=false:=by simp[tkT];omega
  rw[hm];have e1:¬k=8:=by omega
  have e2:¬k=9:=by omega
  have e3:¬k=10:=by omega
  clear hm h;go_enter cF,cI;go_wp2;all_goals go_ret
  all_goals exact⟨rfl,rfl⟩
theorem Pg(k v vars:Int)(w:World)(h0:0<=vars)(h6:vars<=6) :
  Calls qA 140 #[.agg #[.int .i64 k,.int .i64 v],.int .i64 vars] w fun e w'=>e=.returned (.int .i64 (opErr vars (k,v)))/\Below w.heap.size w w':=by
 by_cases hk:12<k
 .have hx:opErr vars (k,v)=13:=by simp[opErr,hk]
  rw[hx];clear hx;go_enter cD,cH;go_wp2;all_goals go_ret
  all_goals exact⟨rfl,ai⟩
 .by_cases h1:k=1
  .subst h1;by_cases hv:-1000<=v/\v<=1000
   .have hx:opErr vars (1,v)=0:=by simp[opErr,hv]
    rw[hx];obtain⟨ha,hb⟩:=hv;clear hx;go_enter cD,cH;go_wp2;all_goals go_ret
    all_goals exact⟨rfl,ai⟩
   .have hx:opErr vars (1,v)=2:=by simp[opErr];omega
    rw[hx];have hv':v < -1000\/1000<v:=by omega
    clear hx hv;rcases hv' with hv|hv;all_goals
     go_enter cD,cH;go_wp2;all_goals go_ret
     all_goals exact⟨rfl,ai⟩
  .by_cases h2:k=2
   .subst h2;by_cases hv:0<=v/\v<=vars-1
    .have hx:opErr vars (2,v)=0:=by simp[opErr];omega
     rw[hx];obtain⟨ha,hb⟩:=hv;clear hx;go_enter cD,cH;go_wp2;all_goals go_ret
     all_goals exact⟨rfl,ai⟩
    .have hx:opErr vars (2,v)=2:=by simp[opErr];omega
     rw[hx];have hv':v<0\/vars-1<v:=by omega
     clear hx hv;rcases hv' with hv|hv;all_goals
      go_enter cD,cH;go_wp2;all_goals go_ret
      all_goals exact⟨rfl,ai⟩
   .by_cases hv:v=0
    .subst hv;have hx:opErr vars (k,0)=0:=by simp[opErr,h1,h2];omega
     rw[hx];clear hx;go_enter cD,cH;go_wp2;all_goals go_ret
     all_goals exact⟨rfl,ai⟩
    .have hx:opErr vars (k,v)=2:=by simp[opErr,h1,h2,hv];omega
     rw[hx];have hv':v<0\/0<v:=by omega
     clear hx hv;rcases hv' with hv|hv;all_goals
      go_enter cD,cH;go_wp2;all_goals go_ret
      all_goals exact⟨rfl,ai⟩
