import Derived.Test.YtiimhhjkgeepjaaGreatDoorCodes
namespace Go.Proofs.YtiimhhjkgeepjaaGreatDoor
open Terms Tm
set_option maxHeartbeats 6400000
set_option maxRecDepth 20000
def zAf (f:Nat->Int):Nat->Int
 | 0=>0
 | n+1=>if zAf f n=0 then f n else zAf f n
theorem zBQ {f:Nat->Int} {n:Nat} (h:∀ j,j < n->f j=0):zAf f n=0:=by
 induction n with
 | zero=>rfl
 | succ n ih=>
  simp only [zAf];rw [if_pos (ih fun j hj=>h j (by omega))]
  exact h n (by omega)
theorem zD0 {f:Nat->Int} {n i:Nat} (hi:i < n) (h:∀ j,j < i->f j=0) (hne:f i≠0):zAf f n=f i:=by
 induction n with
 | zero=>omega
 | succ n ih=>
  simp only [zAf]
  by_cases hin:i=n
  ·subst hin
   rw [if_pos (zBQ h)]
  ·rw [ih (by omega),if_neg hne]
theorem zEj {f:Nat->Int} {n:Nat} (h:zAf f n=0):∀ j,j < n->f j=0:=by
 induction n with
 | zero=>intro j hj;omega
 | succ n ih=>
  simp only [zAf] at h
  split at h
  ·rename_i h0
   intro j hj
   by_cases hjn:j=n
   ·subst hjn;exact h
   ·exact ih h0 j (by omega)
  ·rename_i h0;exact absurd h h0
theorem zMS (l:List (Int × Int)):∃ t:Tm,zAE (l.map Prod.fst)=0->t.Wf/\t.ops=l:=by
 by_cases hz:zAE (l.map Prod.fst)=0
 ·obtain ⟨t,h1,h2⟩:=zRZ (zEB hz).2
  exact ⟨t,fun _=>⟨h1,h2⟩⟩
 ·exact ⟨.leaf 0 0,fun h=>absurd h hz⟩
noncomputable def zCZ (l:List (Int × Int)):Tm:=Classical.choose (zMS l)
theorem zE2 (l:List (Int × Int)):zAE (l.map Prod.fst)=0->(zCZ l).Wf/\(zCZ l).ops=l:=Classical.choose_spec (zMS l)
noncomputable def kcode (vars:Int) (l:List (Int × Int)) (tr:Bool):Int:=
 if zAx vars l (zCZ l)=0 then (if mkT (zCZ l).kind=tr then 0 else 5) else zAx vars l (zCZ l)
def zFD (i:Nat) (c:Int):Bool:=decide ((97 <= c/\c <= 122)\/(i≠0/\48 <= c/\c <= 57))
def zCC (s:ByteArray):Bool:=decide (1 <= s.size/\s.size <= 8)&&(!(s.toList == [121,101,115])&&!(s.toList == [110,111]))
def zC6 (s:ByteArray) (i:Nat):Int:=((s.data.toList.getD i 0).toNat:Int)
theorem zMY (s:ByteArray) {i:Nat} (h:i < s.size):zC6 s i=(s[i].toNat:Int):=by
 unfold zC6;rw [List.getD_eq_getElem?_getD,List.getElem?_eq_getElem (by simpa using h)]
 rfl
def zA2 (s:ByteArray):Bool:=zCC s&&(List.range s.size).all fun i=>zFD i (zC6 s i)
theorem zLS {s:ByteArray} (h:zCC s=true) (h2:∀ i,i < s.size->zFD i (zC6 s i)=true):zA2 s=true:=by
 simp only [zA2,h,Bool.true_and,List.all_eq_true,List.mem_range];exact h2
theorem zE7 {s:ByteArray} (h:zCC s=false):zA2 s=false:=by simp [zA2,h]
theorem zPQ {s:ByteArray} {i:Nat} (hi:i < s.size) (h:zFD i (zC6 s i)=false):zA2 s=false:=by
 rw [Bool.eq_false_iff];intro hn;simp only [zA2,Bool.and_eq_true,List.all_eq_true,List.mem_range] at hn;rw [hn.2 i hi] at h;exact absurd h (by decide)
structure Vr where
 name:ByteArray
 lo:Int
 hi:Int
 ini:Int
def vr0:Vr:=⟨ByteArray.empty,0,0,0⟩
structure St where
 var:Int
 val:List (Int × Int)
def st0:St:=⟨0,[]⟩
structure Ru where
 guard:List (Int × Int)
 sets:List St
def ru0:Ru:=⟨[],[]⟩
structure Mo where
 vars:List Vr
 rules:List Ru
def zAH (v:Vr):Int:=v.hi - v.lo+1
def zBx (v:Vr):Bool:=decide (-1000 <= v.lo/\v.hi <= 1000/\v.lo <= v.hi/\v.lo <= v.ini/\v.ini <= v.hi)
def zBy (l:List Vr) (i:Nat) (s:ByteArray):Bool:=(List.range i).any fun j=>decide ((l.getD j vr0).name=s)
def zB4 (l:List St) (i:Nat) (x:Int):Bool:=(List.range i).any fun j=>decide ((l.getD j st0).var=x)
def zAC (l:List Vr):Nat->Int
 | 0=>1
 | i+1=>zAC l i*zAH (l.getD i vr0)
def vAt (l:List Vr) (i:Nat):Int:=
 if zA2 (l.getD i vr0).name=false then 6 else if zBy l i (l.getD i vr0).name=true then 7 else if zBx (l.getD i vr0)=false then 2
 else if 64 < zAH (l.getD i vr0)\/4096 < zAC l (i+1) then 1 else 0
def vcode (l:List Vr):Int:=if 6 < l.length then 1 else zAf (vAt l) l.length
noncomputable def sAt (vars:Int) (l:List St) (i:Nat):Int:=
 if (l.getD i st0).var < 0\/vars <= (l.getD i st0).var then 2 else if zB4 l i (l.getD i st0).var=true then 7 else kcode vars (l.getD i st0).val false
noncomputable def zBD (vars:Int) (r:Ru):Int:=
 if 6 < r.sets.length then 1 else if kcode vars r.guard true=0 then zAf (sAt vars r.sets) r.sets.length else kcode vars r.guard true
noncomputable def mcode (m:Mo):Int:=
 if vcode m.vars=0 then (if 12 < m.rules.length then 1 else zAf (fun i=>zBD m.vars.length (m.rules.getD i ru0)) m.rules.length) else vcode m.vars
noncomputable def zCQ (m:Mo) (ps:List (List (Int × Int))):Int:=
 if mcode m=0 then (if 6 < ps.length then 1 else zAf (fun i=>kcode m.vars.length (ps.getD i []) true) ps.length) else mcode m
theorem zKq {l:List Vr} {i:Nat} (h:vAt l i=0):zA2 (l.getD i vr0).name=true/\zBy l i (l.getD i vr0).name=false/\zBx (l.getD i vr0)=true/\zAH (l.getD i vr0) <= 64/\zAC l (i+1) <= 4096:=by
 unfold vAt at h
 split at h
 ·simp at h
 ·rename_i h1
  split at h
  ·simp at h
  ·rename_i h2
   split at h
   ·simp at h
   ·rename_i h3
    split at h
    ·simp at h
    ·rename_i h4
     exact ⟨by simpa using h1,by simpa using h2,by simpa using h3,by omega,by omega⟩
theorem zKb {l:List Vr} {k:Nat} {x:Vr} {st:Int} (hx:l.getD k vr0=x) (hst:zAC l k=st) :
  (zA2 x.name=false->vAt l k=6)/\(zA2 x.name=true->zBy l k x.name=true->vAt l k=7)/\(zA2 x.name=true->zBy l k x.name=false->zBx x=false->vAt l k=2)/\
  (zA2 x.name=true->zBy l k x.name=false->zBx x=true->64 < zAH x\/4096 < st*zAH x->vAt l k=1)/\(zA2 x.name=true->zBy l k x.name=false->zBx x=true->¬ (64 < zAH x\/4096 < st*zAH x)->vAt l k=0):=by
 subst hx hst;refine ⟨fun h1=>?_,fun h1 h2=>?_,fun h1 h2 h3=>?_,fun h1 h2 h3 h4=>?_,fun h1 h2 h3 h4=>?_⟩
 all_goals unfold vAt
 ·rw [if_pos h1]
 ·rw [if_neg (by rw [h1];decide),if_pos h2]
 ·rw [if_neg (by rw [h1];decide),if_neg (by rw [h2];decide),if_pos h3]
 ·rw [if_neg (by rw [h1];decide),if_neg (by rw [h2];decide),if_neg (by rw [h3];decide),show zAC l (k+1)=zAC l k*zAH (l.getD k vr0) from rfl,if_pos h4]
 ·rw [if_neg (by rw [h1];decide),if_neg (by rw [h2];decide),if_neg (by rw [h3];decide),show zAC l (k+1)=zAC l k*zAH (l.getD k vr0) from rfl,if_neg h4]
theorem zE1 {v:Vr} (h:zBx v=true):1 <= zAH v/\zAH v <= 2001/\-1000 <= v.lo/\v.hi <= 1000/\v.lo <= v.hi/\v.lo <= v.ini/\v.ini <= v.hi:=by
 simp only [zBx,decide_eq_true_eq] at h;unfold zAH;omega
theorem zG9 {l:List Vr} {i:Nat} (h:∀ j,j < i->vAt l j=0):1 <= zAC l i/\zAC l i <= 4096:=by
 induction i with
 | zero=>simp [zAC]
 | succ i ih=>
  have h0:=zKq (h i (by omega))
  have h1:=ih fun j hj=>h j (by omega)
  have h2:=zE1 h0.2.2.1;refine ⟨?_,h0.2.2.2.2⟩
  simp only [zAC];have:=Int.mul_le_mul h1.1 h2.1 (by omega) (by omega)
  simpa using this
def zBZ (l:List Vr):Prop:=l.length <= 6/\∀ j,j < l.length->vAt l j=0
theorem zJC {l:List Vr} (h:vcode l=0):zBZ l:=by
 unfold vcode at h
 split at h
 ·simp at h
 ·exact ⟨by omega,zEj h⟩
theorem zAt {m:Mo} (h:mcode m=0):zBZ m.vars:=by
 unfold mcode at h
 split at h
 ·rename_i h0;exact zJC h0
 ·rename_i h0;exact absurd h h0
theorem zBZ.at {l:List Vr} (h:zBZ l) {j:Nat} (hj:j < l.length):1 <= zAH (l.getD j vr0)/\zAH (l.getD j vr0) <= 64/\-1000 <= (l.getD j vr0).lo/\(l.getD j vr0).hi <= 1000/\(l.getD j vr0).lo <= (l.getD j vr0).hi/\(l.getD j vr0).lo <= (l.getD j vr0).ini/\(l.getD j vr0).ini <= (l.getD j vr0).hi:=by
 have h0:=zKq (h.2 j hj);have h1:=zE1 h0.2.2.1;omega
theorem zBZ.prod {l:List Vr} (h:zBZ l) {j:Nat} (hj:j <= l.length):1 <= zAC l j/\zAC l j <= 4096:=zG9 fun i hi=>h.2 i (by omega)
