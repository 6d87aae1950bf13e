import Derived.Test.YtnihdlgfhhdhkaaGreatDoorMem
import Derived.Test.YtnihdlgfhhdhkaaGreatDoorTrees
namespace Go.Proofs.YtnihdlgfhhdhkaaGreatDoor
open Go.ChangeShapes Go.WideShapes Go.ChangeAt Go.RowKit Go.Deep
open Terms Tm
set_option maxHeartbeats 6400000
set_option maxRecDepth 20000
theorem zAh {w w':World} {b t n:Nat} {f:Nat->Value} (h:w.rowIs b t n f) (hb:Below w.heap.size w w'):w'.rowIs b t n f:=h.of_block (hb.block b h.lt)
def zAq (vars:Int) (l:List (Int × Int)) (t:Tm):Int:=
 if vars < 0\/6 < vars then 2 else if zAD (l.map Prod.fst)≠0 then zAD (l.map Prod.fst) else if firstErr vars l≠0 then firstErr vars l else if t.typed=true then 0 else 5
theorem zF5 {vars:Int} {l:List (Int × Int)} {t:Tm} (h:vars < 0\/6 < vars):zAq vars l t=2:=by unfold zAq;rw [if_pos h]
theorem zGk {vars:Int} {l:List (Int × Int)} {t:Tm} (h:¬ (vars < 0\/6 < vars)) (h2:zAD (l.map Prod.fst)≠0):zAq vars l t=zAD (l.map Prod.fst):=by unfold zAq;rw [if_neg h,if_pos h2]
theorem zIx {vars:Int} {l:List (Int × Int)} {t:Tm} (h:¬ (vars < 0\/6 < vars)) (h2:zAD (l.map Prod.fst)=0) (h3:firstErr vars l≠0):zAq vars l t=firstErr vars l:=by unfold zAq;rw [if_neg h,if_neg (by simpa using h2),if_pos h3]
theorem zEp {vars:Int} {l:List (Int × Int)} {t:Tm} (h:¬ (vars < 0\/6 < vars)) (h2:zAD (l.map Prod.fst)=0) (h3:firstErr vars l=0):zAq vars l t=if t.typed=true then 0 else 5:=by unfold zAq;rw [if_neg h,if_neg (by simpa using h2),if_neg (by simpa using h3)]
theorem zFY {t:Tm} (h:t.Wf) (h60:t.size <= 60):zAD (t.ops.map Prod.fst)=0:=by
 unfold zAD;rw [List.length_map,ops_length,if_neg (by omega),one h]
 simp
theorem zGx {vars:Int} {l:List (Int × Int)} {t:Tm} (h:zAq vars l t=0) (ht:zAD (l.map Prod.fst)=0->t.Wf/\t.ops=l):0 <= vars/\vars <= 6/\t.ops=l/\t.Good vars/\t.typed=true/\t.size <= 60:=by
 by_cases hr:vars < 0\/6 < vars
 ·rw [zF5 hr] at h;omega
 ·by_cases hz:zAD (l.map Prod.fst)=0
  ·obtain ⟨hwf,hops⟩:=ht hz
   obtain ⟨h60,_⟩:=zDW hz;rw [List.length_map] at h60
   by_cases hf:firstErr vars l=0
   ·rw [zEp hr hz hf] at h
    split at h
    ·rename_i htt
     subst hops;exact ⟨by omega,by omega,rfl,good_of hwf (firstErr_all hf),htt,by rw [ops_length] at h60;exact h60⟩
    ·omega
   ·rw [zIx hr hz hf] at h;exact absurd h hf
  ·rw [zGk hr hz] at h;exact absurd h hz
theorem zKi {vars:Int} {t:Tm} (h0:0 <= vars) (h6:vars <= 6) (hg:t.Good vars) (h60:t.size <= 60):zAq vars t.ops t=if t.typed=true then 0 else 5:=
 zEp (by omega) (zFY hg.wf h60) (firstErr_of hg.ops)
