import Derived.Test.YtnihdlgfhhdhkaaGreatDoorCodes
namespace Go.Proofs.YtnihdlgfhhdhkaaGreatDoor
open Terms Tm
set_option maxHeartbeats 6400000
set_option maxRecDepth 20000
def zAY (f:Nat->Int):Nat->Int
 | 0=>0
 | n+1=>if zAY f n=0 then f n else zAY f n
theorem zBC {f:Nat->Int} {n:Nat} (h:∀ j,j < n->f j=0):zAY f n=0:=by
 induction n with
 | zero=>rfl
 | succ n ih=>
  simp only [zAY];rw [if_pos (ih fun j hj=>h j (by omega))]
  exact h n (by omega)
theorem zDM {f:Nat->Int} {n i:Nat} (hi:i < n) (h:∀ j,j < i->f j=0) (hne:f i≠0):zAY f n=f i:=by
 induction n with
 | zero=>omega
 | succ n ih=>
  simp only [zAY]
  by_cases hin:i=n
  ·subst hin
   rw [if_pos (zBC h)]
  ·rw [ih (by omega),if_neg hne]
theorem zDs {f:Nat->Int} {n:Nat} (h:zAY f n=0):∀ j,j < n->f j=0:=by
 induction n with
 | zero=>intro j hj;omega
 | succ n ih=>
  simp only [zAY] at h
  split at h
  ·rename_i h0
   intro j hj
   by_cases hjn:j=n
   ·subst hjn;exact h
   ·exact ih h0 j (by omega)
  ·rename_i h0;exact absurd h h0
theorem zKI (l:List (Int × Int)):∃ t:Tm,zAD (l.map Prod.fst)=0->t.Wf/\t.ops=l:=by
 by_cases hz:zAD (l.map Prod.fst)=0
 ·obtain ⟨t,h1,h2⟩:=zOz (zDW hz).2
  exact ⟨t,fun _=>⟨h1,h2⟩⟩
 ·exact ⟨.leaf 0 0,fun h=>absurd h hz⟩
noncomputable def zB9 (l:List (Int × Int)):Tm:=Classical.choose (zKI l)
theorem zEE (l:List (Int × Int)):zAD (l.map Prod.fst)=0->(zB9 l).Wf/\(zB9 l).ops=l:=Classical.choose_spec (zKI l)
noncomputable def kcode (vars:Int) (l:List (Int × Int)) (tr:Bool):Int:=
 if zAq vars l (zB9 l)=0 then (if mkT (zB9 l).kind=tr then 0 else 5) else zAq vars l (zB9 l)
def zEN (i:Nat) (c:Int):Bool:=decide ((97 <= c/\c <= 122)\/(i≠0/\48 <= c/\c <= 57))
def zBo (s:ByteArray):Bool:=decide (1 <= s.size/\s.size <= 8)&&(!(s.toList == [121,101,115])&&!(s.toList == [110,111]))
def zCX (s:ByteArray) (i:Nat):Int:=((s.data.toList.getD i 0).toNat:Int)
theorem zKy (s:ByteArray) {i:Nat} (h:i < s.size):zCX s i=(s[i].toNat:Int):=by
 unfold zCX;rw [List.getD_eq_getElem?_getD,List.getElem?_eq_getElem (by simpa using h)]
 rfl
def zAs (s:ByteArray):Bool:=zBo s&&(List.range s.size).all fun i=>zEN i (zCX s i)
theorem zJN {s:ByteArray} (h:zBo s=true) (h2:∀ i,i < s.size->zEN i (zCX s i)=true):zAs s=true:=by
 simp only [zAs,h,Bool.true_and,List.all_eq_true,List.mem_range];exact h2
theorem zEH {s:ByteArray} (h:zBo s=false):zAs s=false:=by simp [zAs,h]
theorem zLy {s:ByteArray} {i:Nat} (hi:i < s.size) (h:zEN i (zCX s i)=false):zAs s=false:=by
 rw [Bool.eq_false_iff];intro hn;simp only [zAs,Bool.and_eq_true,List.all_eq_true,List.mem_range] at hn;rw [hn.2 i hi] at h;exact absurd h (by decide)
structure Vr where
 name:ByteArray
 lo:Int
 hi:Int
 ini:Int
def vr0:Vr:=⟨ByteArray.empty,0,0,0⟩
structure St where
 var:Int
 val:List (Int × Int)
def st0:St:=⟨0,[]⟩
structure Ru where
 guard:List (Int × Int)
 sets:List St
def ru0:Ru:=⟨[],[]⟩
structure Mo where
 vars:List Vr
 rules:List Ru
def zAK (v:Vr):Int:=v.hi - v.lo+1
def zBa (v:Vr):Bool:=decide (-1000 <= v.lo/\v.hi <= 1000/\v.lo <= v.hi/\v.lo <= v.ini/\v.ini <= v.hi)
def zBc (l:List Vr) (i:Nat) (s:ByteArray):Bool:=(List.range i).any fun j=>decide ((l.getD j vr0).name=s)
def zBf (l:List St) (i:Nat) (x:Int):Bool:=(List.range i).any fun j=>decide ((l.getD j st0).var=x)
def zAC (l:List Vr):Nat->Int
 | 0=>1
 | i+1=>zAC l i*zAK (l.getD i vr0)
def vAt (l:List Vr) (i:Nat):Int:=
 if zAs (l.getD i vr0).name=false then 6 else if zBc l i (l.getD i vr0).name=true then 7 else if zBa (l.getD i vr0)=false then 2
 else if 64 < zAK (l.getD i vr0)\/4096 < zAC l (i+1) then 1 else 0
def vcode (l:List Vr):Int:=if 6 < l.length then 1 else zAY (vAt l) l.length
noncomputable def sAt (vars:Int) (l:List St) (i:Nat):Int:=
 if (l.getD i st0).var < 0\/vars <= (l.getD i st0).var then 2 else if zBf l i (l.getD i st0).var=true then 7 else kcode vars (l.getD i st0).val false
noncomputable def zA1 (vars:Int) (r:Ru):Int:=
 if 6 < r.sets.length then 1 else if kcode vars r.guard true=0 then zAY (sAt vars r.sets) r.sets.length else kcode vars r.guard true
noncomputable def mcode (m:Mo):Int:=
 if vcode m.vars=0 then (if 12 < m.rules.length then 1 else zAY (fun i=>zA1 m.vars.length (m.rules.getD i ru0)) m.rules.length) else vcode m.vars
noncomputable def zBz (m:Mo) (ps:List (List (Int × Int))):Int:=
 if mcode m=0 then (if 6 < ps.length then 1 else zAY (fun i=>kcode m.vars.length (ps.getD i []) true) ps.length) else mcode m
theorem zIF {l:List Vr} {i:Nat} (h:vAt l i=0):zAs (l.getD i vr0).name=true/\zBc l i (l.getD i vr0).name=false/\zBa (l.getD i vr0)=true/\zAK (l.getD i vr0) <= 64/\zAC l (i+1) <= 4096:=by
 unfold vAt at h
 split at h
 ·simp at h
 ·rename_i h1
  split at h
  ·simp at h
  ·rename_i h2
   split at h
   ·simp at h
   ·rename_i h3
    split at h
    ·simp at h
    ·rename_i h4
     exact ⟨by simpa using h1,by simpa using h2,by simpa using h3,by omega,by omega⟩
theorem zIw {l:List Vr} {k:Nat} {x:Vr} {st:Int} (hx:l.getD k vr0=x) (hst:zAC l k=st) :
  (zAs x.name=false->vAt l k=6)/\(zAs x.name=true->zBc l k x.name=true->vAt l k=7)/\(zAs x.name=true->zBc l k x.name=false->zBa x=false->vAt l k=2)/\
  (zAs x.name=true->zBc l k x.name=false->zBa x=true->64 < zAK x\/4096 < st*zAK x->vAt l k=1)/\(zAs x.name=true->zBc l k x.name=false->zBa x=true->¬ (64 < zAK x\/4096 < st*zAK x)->vAt l k=0):=by
 subst hx hst;refine ⟨fun h1=>?_,fun h1 h2=>?_,fun h1 h2 h3=>?_,fun h1 h2 h3 h4=>?_,fun h1 h2 h3 h4=>?_⟩
 all_goals unfold vAt
 ·rw [if_pos h1]
 ·rw [if_neg (by rw [h1];decide),if_pos h2]
 ·rw [if_neg (by rw [h1];decide),if_neg (by rw [h2];decide),if_pos h3]
 ·rw [if_neg (by rw [h1];decide),if_neg (by rw [h2];decide),if_neg (by rw [h3];decide),show zAC l (k+1)=zAC l k*zAK (l.getD k vr0) from rfl,if_pos h4]
 ·rw [if_neg (by rw [h1];decide),if_neg (by rw [h2];decide),if_neg (by rw [h3];decide),show zAC l (k+1)=zAC l k*zAK (l.getD k vr0) from rfl,if_neg h4]
theorem zED {v:Vr} (h:zBa v=true):1 <= zAK v/\zAK v <= 2001/\-1000 <= v.lo/\v.hi <= 1000/\v.lo <= v.hi/\v.lo <= v.ini/\v.ini <= v.hi:=by
 simp only [zBa,decide_eq_true_eq] at h;unfold zAK;omega
theorem zF9 {l:List Vr} {i:Nat} (h:∀ j,j < i->vAt l j=0):1 <= zAC l i/\zAC l i <= 4096:=by
 induction i with
 | zero=>simp [zAC]
 | succ i ih=>
  have h0:=zIF (h i (by omega))
  have h1:=ih fun j hj=>h j (by omega)
  have h2:=zED h0.2.2.1;refine ⟨?_,h0.2.2.2.2⟩
  simp only [zAC];have:=Int.mul_le_mul h1.1 h2.1 (by omega) (by omega)
  simpa using this
def zBK (l:List Vr):Prop:=l.length <= 6/\∀ j,j < l.length->vAt l j=0
theorem zHr {l:List Vr} (h:vcode l=0):zBK l:=by
 unfold vcode at h
 split at h
 ·simp at h
 ·exact ⟨by omega,zDs h⟩
theorem zAn {m:Mo} (h:mcode m=0):zBK m.vars:=by
 unfold mcode at h
 split at h
 ·rename_i h0;exact zHr h0
 ·rename_i h0;exact absurd h h0
theorem zBK.at {l:List Vr} (h:zBK l) {j:Nat} (hj:j < l.length):1 <= zAK (l.getD j vr0)/\zAK (l.getD j vr0) <= 64/\-1000 <= (l.getD j vr0).lo/\(l.getD j vr0).hi <= 1000/\(l.getD j vr0).lo <= (l.getD j vr0).hi/\(l.getD j vr0).lo <= (l.getD j vr0).ini/\(l.getD j vr0).ini <= (l.getD j vr0).hi:=by
 have h0:=zIF (h.2 j hj);have h1:=zED h0.2.2.1;omega
theorem zBK.prod {l:List Vr} (h:zBK l) {j:Nat} (hj:j <= l.length):1 <= zAC l j/\zAC l j <= 4096:=zF9 fun i hi=>h.2 i (by omega)
