import Derived.Test.YtiimhhjkgeepjaaGreatDoorMem
import Derived.Test.YtiimhhjkgeepjaaGreatDoorTrees
namespace Go.Proofs.YtiimhhjkgeepjaaGreatDoor
open Go.ChangeShapes Go.WideShapes Go.ChangeAt Go.RowKit Go.Deep
open Terms Tm
set_option maxHeartbeats 6400000
set_option maxRecDepth 20000
theorem zAp {w w':World} {b t n:Nat} {f:Nat->Value} (h:w.rowIs b t n f) (hb:Below w.heap.size w w'):w'.rowIs b t n f:=h.of_block (hb.block b h.lt)
def zAx (vars:Int) (l:List (Int × Int)) (t:Tm):Int:=
 if vars < 0\/6 < vars then 2 else if zAE (l.map Prod.fst)≠0 then zAE (l.map Prod.fst) else if firstErr vars l≠0 then firstErr vars l else if t.typed=true then 0 else 5
theorem zHB {vars:Int} {l:List (Int × Int)} {t:Tm} (h:vars < 0\/6 < vars):zAx vars l t=2:=by unfold zAx;rw [if_pos h]
theorem zHq {vars:Int} {l:List (Int × Int)} {t:Tm} (h:¬ (vars < 0\/6 < vars)) (h2:zAE (l.map Prod.fst)≠0):zAx vars l t=zAE (l.map Prod.fst):=by unfold zAx;rw [if_neg h,if_pos h2]
theorem zKB {vars:Int} {l:List (Int × Int)} {t:Tm} (h:¬ (vars < 0\/6 < vars)) (h2:zAE (l.map Prod.fst)=0) (h3:firstErr vars l≠0):zAx vars l t=firstErr vars l:=by unfold zAx;rw [if_neg h,if_neg (by simpa using h2),if_pos h3]
theorem zFp {vars:Int} {l:List (Int × Int)} {t:Tm} (h:¬ (vars < 0\/6 < vars)) (h2:zAE (l.map Prod.fst)=0) (h3:firstErr vars l=0):zAx vars l t=if t.typed=true then 0 else 5:=by unfold zAx;rw [if_neg h,if_neg (by simpa using h2),if_neg (by simpa using h3)]
theorem zGi {t:Tm} (h:t.Wf) (h60:t.size <= 60):zAE (t.ops.map Prod.fst)=0:=by
 unfold zAE;rw [List.length_map,ops_length,if_neg (by omega),one h]
 simp
theorem zIQ {vars:Int} {l:List (Int × Int)} {t:Tm} (h:zAx vars l t=0) (ht:zAE (l.map Prod.fst)=0->t.Wf/\t.ops=l):0 <= vars/\vars <= 6/\t.ops=l/\t.Good vars/\t.typed=true/\t.size <= 60:=by
 by_cases hr:vars < 0\/6 < vars
 ·rw [zHB hr] at h;omega
 ·by_cases hz:zAE (l.map Prod.fst)=0
  ·obtain ⟨hwf,hops⟩:=ht hz
   obtain ⟨h60,_⟩:=zEB hz;rw [List.length_map] at h60
   by_cases hf:firstErr vars l=0
   ·rw [zFp hr hz hf] at h
    split at h
    ·rename_i htt
     subst hops;exact ⟨by omega,by omega,rfl,good_of hwf (firstErr_all hf),htt,by rw [ops_length] at h60;exact h60⟩
    ·omega
   ·rw [zKB hr hz hf] at h;exact absurd h hf
  ·rw [zHq hr hz] at h;exact absurd h hz
theorem zNq {vars:Int} {t:Tm} (h0:0 <= vars) (h6:vars <= 6) (hg:t.Good vars) (h60:t.size <= 60):zAx vars t.ops t=if t.typed=true then 0 else 5:=
 zFp (by omega) (zGi hg.wf h60) (firstErr_of hg.ops)
