import Derived.Test.YtlepcjafgdlmgaaDoorMem
import Derived.Test.YtlepcjafgdlmgaaDoorTrees
namespace Go.Proofs.YtlepcjafgdlmgaaDoor
open Go.ChangeShapes Go.WideShapes Go.ChangeAt Go.RowKit Go.Deep
open Terms Tm
set_option maxHeartbeats 6400000
set_option maxRecDepth 20000
theorem row_later {w w':World} {b t n:Nat} {f:Nat->Value} (h:w.rowIs b t n f) (hb:Below w.heap.size w w'):w'.rowIs b t n f:=h.of_block (hb.block b h.lt)
def xcode (vars:Int) (l:List (Int × Int)) (t:Tm):Int:=
 if vars < 0\/6 < vars then 2 else if endsCode (l.map Prod.fst)≠0 then endsCode (l.map Prod.fst) else if firstErr vars l≠0 then firstErr vars l else if t.typed=true then 0 else 5
theorem xcode_range {vars:Int} {l:List (Int × Int)} {t:Tm} (h:vars < 0\/6 < vars):xcode vars l t=2:=by unfold xcode;rw [if_pos h]
theorem xcode_ends {vars:Int} {l:List (Int × Int)} {t:Tm} (h:¬ (vars < 0\/6 < vars)) (h2:endsCode (l.map Prod.fst)≠0):xcode vars l t=endsCode (l.map Prod.fst):=by unfold xcode;rw [if_neg h,if_pos h2]
theorem xcode_op {vars:Int} {l:List (Int × Int)} {t:Tm} (h:¬ (vars < 0\/6 < vars)) (h2:endsCode (l.map Prod.fst)=0) (h3:firstErr vars l≠0):xcode vars l t=firstErr vars l:=by unfold xcode;rw [if_neg h,if_neg (by simpa using h2),if_pos h3]
theorem xcode_type {vars:Int} {l:List (Int × Int)} {t:Tm} (h:¬ (vars < 0\/6 < vars)) (h2:endsCode (l.map Prod.fst)=0) (h3:firstErr vars l=0):xcode vars l t=if t.typed=true then 0 else 5:=by unfold xcode;rw [if_neg h,if_neg (by simpa using h2),if_neg (by simpa using h3)]
theorem tree_code {t:Tm} (h:t.Wf) (h60:t.size <= 60):endsCode (t.ops.map Prod.fst)=0:=by
 unfold endsCode;rw [List.length_map,ops_length,if_neg (by omega),one h]
 simp
theorem xcode_zero {vars:Int} {l:List (Int × Int)} {t:Tm} (h:xcode vars l t=0) (ht:endsCode (l.map Prod.fst)=0->t.Wf/\t.ops=l):0 <= vars/\vars <= 6/\t.ops=l/\t.Good vars/\t.typed=true/\t.size <= 60:=by
 by_cases hr:vars < 0\/6 < vars
 ·rw [xcode_range hr] at h;omega
 ·by_cases hz:endsCode (l.map Prod.fst)=0
  ·obtain ⟨hwf,hops⟩:=ht hz
   obtain ⟨h60,_⟩:=code_zero hz;rw [List.length_map] at h60
   by_cases hf:firstErr vars l=0
   ·rw [xcode_type hr hz hf] at h
    split at h
    ·rename_i htt
     subst hops;exact ⟨by omega,by omega,rfl,good_of hwf (firstErr_all hf),htt,by rw [ops_length] at h60;exact h60⟩
    ·omega
   ·rw [xcode_op hr hz hf] at h;exact absurd h hf
  ·rw [xcode_ends hr hz] at h;exact absurd h hz
