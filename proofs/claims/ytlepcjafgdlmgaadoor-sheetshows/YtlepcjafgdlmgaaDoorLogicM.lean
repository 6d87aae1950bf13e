import Derived.Test.YtlepcjafgdlmgaaDoorIntsOf
namespace Go.Proofs.YtlepcjafgdlmgaaDoor
open Go.ChangeShapes Go.WideShapes Go.ChangeAt Go.RowKit Go.Deep
open Terms
set_option maxHeartbeats 6400000
set_option maxRecDepth 20000
def lookB (k:Int):Bool:=decide (14 <= k/\k <= 18)
def lopErr (props:Int) (o:Int × Int):Int:=if o.1 < 8 then 13 else if o.2 < 0\/(if o.1=13 then props - 1 else 0) < o.2 then 2 else 0
def lfirst (props:Int):List (Int × Int)->Int
 | []=>0
 | o:: r=>if lopErr props o≠0 then lopErr props o else lfirst props r
theorem lfirst_at {props:Int}:∀ {l:List (Int × Int)} {i:Nat},i < l.length->(∀ j,j < i->lopErr props (l.getD j (0,0))=0)->lopErr props (l.getD i (0,0))≠0->lfirst props l=lopErr props (l.getD i (0,0)):=by
 intro l
 induction l with
 | nil=>intro i hi;simp at hi
 | cons o r ih=>
  intro i hi hj hne
  cases i with
  | zero=>simp only [List.getD_cons_zero] at hne ⊢;simp [lfirst,hne]
  | succ i=>
   have h0:=hj 0 (by omega)
   simp only [List.getD_cons_zero] at h0;simp only [List.getD_cons_succ] at hne ⊢;simp only [lfirst,h0,ne_eq,not_true_eq_false,if_false];exact ih (by simpa using hi) (fun j hjj=>by simpa using hj (j+1) (by omega)) hne
theorem lfirst_none {props:Int}:∀ {l:List (Int × Int)},(∀ j,j < l.length->lopErr props (l.getD j (0,0))=0)->lfirst props l=0:=by
 intro l
 induction l with
 | nil=>intro _;rfl
 | cons o r ih=>
  intro hj;have h0:=hj 0 (by simp)
  simp only [List.getD_cons_zero] at h0;simp only [lfirst,h0,ne_eq,not_true_eq_false,if_false];exact ih (fun j hjj=>by simpa using hj (j+1) (by simpa using hjj))
def aheadTo (l:List (Int × Int)):Nat->List Int
 | 0=>[]
 | n+1=>aheadTo l n++if lookB (l.getD n (0,0)).1=true then [(n:Int)] else []
theorem aheadTo_yes {l:List (Int × Int)} {n:Nat} (h:lookB (l.getD n (0,0)).1=true):aheadTo l (n+1)=aheadTo l n++[(n:Int)]:=by simp only [aheadTo];rw [if_pos h]
theorem aheadTo_no {l:List (Int × Int)} {n:Nat} (h:lookB (l.getD n (0,0)).1=false):aheadTo l (n+1)=aheadTo l n:=by simp only [aheadTo];rw [if_neg (by rw [h];decide)];simp
theorem aheadTo_length (l:List (Int × Int)):∀ n,(aheadTo l n).length <= n:=by
 intro n
 induction n with
 | zero=>simp [aheadTo]
 | succ n ih=>simp only [aheadTo,List.length_append];split <;> simp <;> omega
def aheadL (l:List (Int × Int)):List Int:=aheadTo l l.length
def lcode (props:Int) (l:List (Int × Int)):Int:=
 if props < 0\/6 < props then 2 else if endsCode (l.map Prod.fst)≠0 then endsCode (l.map Prod.fst) else if lfirst props l≠0 then lfirst props l else if 6 < (aheadL l).length then 1 else 0
theorem lcode_range {props:Int} {l:List (Int × Int)} (h:props < 0\/6 < props):lcode props l=2:=by unfold lcode;rw [if_pos h]
theorem lcode_ends {props:Int} {l:List (Int × Int)} (h:¬ (props < 0\/6 < props)) (h2:endsCode (l.map Prod.fst)≠0):lcode props l=endsCode (l.map Prod.fst):=by unfold lcode;rw [if_neg h,if_pos h2]
theorem lcode_op {props:Int} {l:List (Int × Int)} (h:¬ (props < 0\/6 < props)) (h2:endsCode (l.map Prod.fst)=0) (h3:lfirst props l≠0):lcode props l=lfirst props l:=by unfold lcode;rw [if_neg h,if_neg (by simpa using h2),if_pos h3]
theorem lcode_many {props:Int} {l:List (Int × Int)} (h:¬ (props < 0\/6 < props)) (h2:endsCode (l.map Prod.fst)=0) (h3:lfirst props l=0):lcode props l=if 6 < (aheadL l).length then 1 else 0:=by unfold lcode;rw [if_neg h,if_neg (by simpa using h2),if_neg (by simpa using h3)]
theorem lcode_zero {props:Int} {l:List (Int × Int)} (h:lcode props l=0):0 <= props/\props <= 6/\endsCode (l.map Prod.fst)=0/\lfirst props l=0/\(aheadL l).length <= 6:=by
 by_cases hr:props < 0\/6 < props
 ·rw [lcode_range hr] at h;omega
 ·by_cases hz:endsCode (l.map Prod.fst)=0
  ·by_cases hf:lfirst props l=0
   ·rw [lcode_many hr hz hf] at h
    split at h
    ·omega
    ·exact ⟨by omega,by omega,hz,hf,by omega⟩
   ·rw [lcode_op hr hz hf] at h;exact absurd h hf
  ·rw [lcode_ends hr hz] at h;exact absurd h hz
theorem ends_ne {ks:List Int} (h:endsCode ks=0):ks≠[]/\ks.length <= 60:=by
 obtain ⟨h1,h2⟩:=code_zero h;refine ⟨?_,h1⟩
 rintro rfl
 simp [cnt] at h2
