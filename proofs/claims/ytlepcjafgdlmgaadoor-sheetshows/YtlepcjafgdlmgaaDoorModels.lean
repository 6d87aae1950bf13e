import Derived.Test.YtlepcjafgdlmgaaDoorCodes
namespace Go.Proofs.YtlepcjafgdlmgaaDoor
open Terms Tm
set_option maxHeartbeats 6400000
set_option maxRecDepth 20000
def firstOf (f:Nat->Int):Nat->Int
 | 0=>0
 | n+1=>if firstOf f n=0 then f n else firstOf f n
theorem firstOf_none {f:Nat->Int} {n:Nat} (h:∀ j,j < n->f j=0):firstOf f n=0:=by
 induction n with
 | zero=>rfl
 | succ n ih=>
  simp only [firstOf];rw [if_pos (ih fun j hj=>h j (by omega))]
  exact h n (by omega)
theorem firstOf_hit {f:Nat->Int} {n i:Nat} (hi:i < n) (h:∀ j,j < i->f j=0) (hne:f i≠0):firstOf f n=f i:=by
 induction n with
 | zero=>omega
 | succ n ih=>
  simp only [firstOf]
  by_cases hin:i=n
  ·subst hin
   rw [if_pos (firstOf_none h)]
  ·rw [ih (by omega),if_neg hne]
theorem firstOf_zero {f:Nat->Int} {n:Nat} (h:firstOf f n=0):∀ j,j < n->f j=0:=by
 induction n with
 | zero=>intro j hj;omega
 | succ n ih=>
  simp only [firstOf] at h
  split at h
  ·rename_i h0
   intro j hj
   by_cases hjn:j=n
   ·subst hjn;exact h
   ·exact ih h0 j (by omega)
  ·rename_i h0;exact absurd h h0
theorem tree_ex (l:List (Int × Int)):∃ t:Tm,endsCode (l.map Prod.fst)=0->t.Wf/\t.ops=l:=by
 by_cases hz:endsCode (l.map Prod.fst)=0
 ·obtain ⟨t,h1,h2⟩:=tree_of (code_zero hz).2
  exact ⟨t,fun _=>⟨h1,h2⟩⟩
 ·exact ⟨.leaf 0 0,fun h=>absurd h hz⟩
noncomputable def treeOf (l:List (Int × Int)):Tm:=Classical.choose (tree_ex l)
theorem treeOf_spec (l:List (Int × Int)):endsCode (l.map Prod.fst)=0->(treeOf l).Wf/\(treeOf l).ops=l:=Classical.choose_spec (tree_ex l)
noncomputable def kcode (vars:Int) (l:List (Int × Int)) (tr:Bool):Int:=
 if xcode vars l (treeOf l)=0 then (if mkT (treeOf l).kind=tr then 0 else 5) else xcode vars l (treeOf l)
def chOk (i:Nat) (c:Int):Bool:=decide ((97 <= c/\c <= 122)\/(i≠0/\48 <= c/\c <= 57))
def nmHead (s:ByteArray):Bool:=decide (1 <= s.size/\s.size <= 8)&&(!(s.toList == [121,101,115])&&!(s.toList == [110,111]))
def byteAt (s:ByteArray) (i:Nat):Int:=((s.data.toList.getD i 0).toNat:Int)
theorem byteAt_get (s:ByteArray) {i:Nat} (h:i < s.size):byteAt s i=(s[i].toNat:Int):=by
 unfold byteAt;rw [List.getD_eq_getElem?_getD,List.getElem?_eq_getElem (by simpa using h)]
 rfl
def nameOk (s:ByteArray):Bool:=nmHead s&&(List.range s.size).all fun i=>chOk i (byteAt s i)
theorem nameOk_true {s:ByteArray} (h:nmHead s=true) (h2:∀ i,i < s.size->chOk i (byteAt s i)=true):nameOk s=true:=by
 simp only [nameOk,h,Bool.true_and,List.all_eq_true,List.mem_range];exact h2
theorem nameOk_head {s:ByteArray} (h:nmHead s=false):nameOk s=false:=by simp [nameOk,h]
theorem nameOk_at {s:ByteArray} {i:Nat} (hi:i < s.size) (h:chOk i (byteAt s i)=false):nameOk s=false:=by
 rw [Bool.eq_false_iff];intro hn;simp only [nameOk,Bool.and_eq_true,List.all_eq_true,List.mem_range] at hn;rw [hn.2 i hi] at h;exact absurd h (by decide)
structure Vr where
 name:ByteArray
 lo:Int
 hi:Int
 ini:Int
def vr0:Vr:=⟨ByteArray.empty,0,0,0⟩
structure St where
 var:Int
 val:List (Int × Int)
def st0:St:=⟨0,[]⟩
structure Ru where
 guard:List (Int × Int)
 sets:List St
def ru0:Ru:=⟨[],[]⟩
structure Mo where
 vars:List Vr
 rules:List Ru
def vspan (v:Vr):Int:=v.hi - v.lo+1
def vbound (v:Vr):Bool:=decide (-1000 <= v.lo/\v.hi <= 1000/\v.lo <= v.hi/\v.lo <= v.ini/\v.ini <= v.hi)
def metName (l:List Vr) (i:Nat) (s:ByteArray):Bool:=(List.range i).any fun j=>decide ((l.getD j vr0).name=s)
def metVar (l:List St) (i:Nat) (x:Int):Bool:=(List.range i).any fun j=>decide ((l.getD j st0).var=x)
def prodTo (l:List Vr):Nat->Int
 | 0=>1
 | i+1=>prodTo l i*vspan (l.getD i vr0)
def vAt (l:List Vr) (i:Nat):Int:=
 if nameOk (l.getD i vr0).name=false then 6 else if metName l i (l.getD i vr0).name=true then 7 else if vbound (l.getD i vr0)=false then 2
 else if 64 < vspan (l.getD i vr0)\/4096 < prodTo l (i+1) then 1 else 0
def vcode (l:List Vr):Int:=if 6 < l.length then 1 else firstOf (vAt l) l.length
noncomputable def sAt (vars:Int) (l:List St) (i:Nat):Int:=
 if (l.getD i st0).var < 0\/vars <= (l.getD i st0).var then 2 else if metVar l i (l.getD i st0).var=true then 7 else kcode vars (l.getD i st0).val false
noncomputable def rcode (vars:Int) (r:Ru):Int:=
 if 6 < r.sets.length then 1 else if kcode vars r.guard true=0 then firstOf (sAt vars r.sets) r.sets.length else kcode vars r.guard true
noncomputable def mcode (m:Mo):Int:=
 if vcode m.vars=0 then (if 12 < m.rules.length then 1 else firstOf (fun i=>rcode m.vars.length (m.rules.getD i ru0)) m.rules.length) else vcode m.vars
noncomputable def pcode (m:Mo) (ps:List (List (Int × Int))):Int:=
 if mcode m=0 then (if 6 < ps.length then 1 else firstOf (fun i=>kcode m.vars.length (ps.getD i []) true) ps.length) else mcode m
theorem vAt_zero {l:List Vr} {i:Nat} (h:vAt l i=0):nameOk (l.getD i vr0).name=true/\metName l i (l.getD i vr0).name=false/\vbound (l.getD i vr0)=true/\vspan (l.getD i vr0) <= 64/\prodTo l (i+1) <= 4096:=by
 unfold vAt at h
 split at h
 ·simp at h
 ·rename_i h1
  split at h
  ·simp at h
  ·rename_i h2
   split at h
   ·simp at h
   ·rename_i h3
    split at h
    ·simp at h
    ·rename_i h4
     exact ⟨by simpa using h1,by simpa using h2,by simpa using h3,by omega,by omega⟩
theorem vAt_eq {l:List Vr} {k:Nat} {x:Vr} {st:Int} (hx:l.getD k vr0=x) (hst:prodTo l k=st) :
  (nameOk x.name=false->vAt l k=6)/\(nameOk x.name=true->metName l k x.name=true->vAt l k=7)/\(nameOk x.name=true->metName l k x.name=false->vbound x=false->vAt l k=2)/\
  (nameOk x.name=true->metName l k x.name=false->vbound x=true->64 < vspan x\/4096 < st*vspan x->vAt l k=1)/\(nameOk x.name=true->metName l k x.name=false->vbound x=true->¬ (64 < vspan x\/4096 < st*vspan x)->vAt l k=0):=by
 subst hx hst;refine ⟨fun h1=>?_,fun h1 h2=>?_,fun h1 h2 h3=>?_,fun h1 h2 h3 h4=>?_,fun h1 h2 h3 h4=>?_⟩
 all_goals unfold vAt
 ·rw [if_pos h1]
 ·rw [if_neg (by rw [h1];decide),if_pos h2]
 ·rw [if_neg (by rw [h1];decide),if_neg (by rw [h2];decide),if_pos h3]
 ·rw [if_neg (by rw [h1];decide),if_neg (by rw [h2];decide),if_neg (by rw [h3];decide),show prodTo l (k+1)=prodTo l k*vspan (l.getD k vr0) from rfl,if_pos h4]
 ·rw [if_neg (by rw [h1];decide),if_neg (by rw [h2];decide),if_neg (by rw [h3];decide),show prodTo l (k+1)=prodTo l k*vspan (l.getD k vr0) from rfl,if_neg h4]
theorem vbound_span {v:Vr} (h:vbound v=true):1 <= vspan v/\vspan v <= 2001/\-1000 <= v.lo/\v.hi <= 1000/\v.lo <= v.hi/\v.lo <= v.ini/\v.ini <= v.hi:=by
 simp only [vbound,decide_eq_true_eq] at h;unfold vspan;omega
theorem prod_bounds {l:List Vr} {i:Nat} (h:∀ j,j < i->vAt l j=0):1 <= prodTo l i/\prodTo l i <= 4096:=by
 induction i with
 | zero=>simp [prodTo]
 | succ i ih=>
  have h0:=vAt_zero (h i (by omega))
  have h1:=ih fun j hj=>h j (by omega)
  have h2:=vbound_span h0.2.2.1;refine ⟨?_,h0.2.2.2.2⟩
  simp only [prodTo];have:=Int.mul_le_mul h1.1 h2.1 (by omega) (by omega)
  simpa using this
def VarsOk (l:List Vr):Prop:=l.length <= 6/\∀ j,j < l.length->vAt l j=0
theorem varsOk_of {l:List Vr} (h:vcode l=0):VarsOk l:=by
 unfold vcode at h
 split at h
 ·simp at h
 ·exact ⟨by omega,firstOf_zero h⟩
theorem mcode_vars {m:Mo} (h:mcode m=0):VarsOk m.vars:=by
 unfold mcode at h
 split at h
 ·rename_i h0;exact varsOk_of h0
 ·rename_i h0;exact absurd h h0
