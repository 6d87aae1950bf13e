import Derived.Test.YtjldkfiabgagiaaGreatDoorModels
open Go.Ending renaming returned→Z
open _root_.Bool renaming false→Y
namespace Go.Proofs.YtjldkfiabgagiaaGreatDoor
open Go.Proofs.Tryz renaming prog→qA
open Go.ChangeShapes Go.WideShapes Go.ChangeAt Go.RowKit Go.Deep
open Terms Tm
set_option maxHeartbeats 6400000
set_option maxRecDepth 20000
theorem Q7(s:ByteArray)(w:World)(h:s.size<1\/8<s.size) :
  Calls qA 93 #[.string s] w fun e w'=>e=Z (.bool (BM s))/\w'=w:=by
 rw[I3 (show CY s=Y by simp[CY];omega)];rcases h with h|h
 .go_enter Tryz.func93,Tryz.ntmps93;go_wp2;all_goals go_ret
  all_goals exact⟨rfl,rfl⟩
 .have h2:¬s.size<1:=by omega
  go_enter Tryz.func93,Tryz.ntmps93;go_wp2;all_goals go_ret
  all_goals exact⟨rfl,rfl⟩
theorem Q8(s:ByteArray)(w:World)(h1:1<=s.size)(h8:s.size<=8)(h:(s.toList == [121,101,115])=true) :
  Calls qA 93 #[.string s] w fun e w'=>e=Z (.bool (BM s))/\w'=w:=by
 rw[I3 (show CY s=Y by simp only[CY,h];simp)];go_enter Tryz.func93,Tryz.ntmps93;go_wp2;all_goals go_ret
 all_goals exact⟨rfl,rfl⟩
theorem Q6(s:ByteArray)(w:World)(h1:1<=s.size)(h8:s.size<=8)(hy:(s.toList == [121,101,115])=Y)(h:(s.toList == [110,111])=true) :
  Calls qA 93 #[.string s] w fun e w'=>e=Z (.bool (BM s))/\w'=w:=by
 rw[I3 (show CY s=Y by simp only[CY,h];simp)];go_enter Tryz.func93,Tryz.ntmps93;go_wp2;all_goals go_ret
 all_goals exact⟨rfl,rfl⟩
theorem Q5 (s:ByteArray) (w:World) (h1:1 <= s.size) (h8:s.size <= 8) (hy:(s.toList == [121,101,115])=Y) (hn:(s.toList == [110,111])=Y) :
    Calls qA 93 #[.string s] w fun e w'=>e=Z (.bool (BM s))/\w'=w:=by
  have hh:Hid (CY s=true):=by show CY s=true;simp only[CY,hy,hn];simp[h1,h8]
  go_enter Tryz.func93,Tryz.ntmps93;go_wp2;clear hy hn;go_loop [24] (fun i=>∃k:Nat,k<=s.size/\i=.int .i64 k/\Hid (∀j,j<k->DQ j (DC s j)=true)) (fun i=>s.size-(intOf i).toNat)
  case atStart=>exact⟨0,Nat.zero_le _,rfl,fun j hj=>by omega⟩
  case round=>
    obtain⟨k,hk,rfl,HJ⟩:=hrel;by_cases hlt:k<s.size
    . have hbk:DC s k=(s[k].toNat:Int):=On s hlt
      by_cases hc:DQ k (DC s k)=true
      . have HJ2:Hid (∀j,j<k+1->DQ j (DC s j)=true):=fun j hj=>by
          by_cases hjk:j=k
          . subst hjk;exact hc
          . exact HJ.out j (by omega)
        rw[hbk]at hc;simp only[DQ,decide_eq_true_eq]at hc;clear hbk;have hcase:(97<=(s[k].toNat:Int)/\(s[k].toNat:Int)<=122/\48<=(s[k].toNat:Int)/\¬(s[k].toNat:Int)<=57)\/(¬97<=(s[k].toNat:Int)/\48<=(s[k].toNat:Int)/\(s[k].toNat:Int)<=57/\¬k=0):=by omega
        clear hc;rcases hcase with⟨c1,c2,c3,c4⟩|⟨c1,c2,c3,c4⟩;all_goals
          go_wp2;go_round
          case rel=>exact⟨k+1,by omega,by go_num,HJ2⟩
          case measure=>simp[intOf];omega
      . have HR:Hid (BM s=Y):=SQ hlt (by simpa using hc)
        rw[hbk]at hc;simp only[DQ,decide_eq_true_eq]at hc;clear hbk;have hcase:(¬97<=(s[k].toNat:Int)/\¬48<=(s[k].toNat:Int))\/(¬97<=(s[k].toNat:Int)/\48<=(s[k].toNat:Int)/\¬(s[k].toNat:Int)<=57)\/(97<=(s[k].toNat:Int)/\¬(s[k].toNat:Int)<=122/\48<=(s[k].toNat:Int)/\¬(s[k].toNat:Int)<=57)\/(¬97<=(s[k].toNat:Int)/\48<=(s[k].toNat:Int)/\(s[k].toNat:Int)<=57/\k=0):=by omega
        clear hc;rcases hcase with⟨c1,c2⟩|⟨c1,c2,c3⟩|⟨c1,c2,c3,c4⟩|⟨c1,c2,c3,c4⟩;case' inr.inr.inr=>subst c4
        all_goals
          go_wp2;all_goals go_ret
          all_goals rw[HR.out]
          all_goals exact⟨rfl,rfl⟩
    . have hks:k=s.size:=by omega
      have HR:Hid (BM s=true):=SR hh.out (fun i hi=>HJ.out i (by omega));go_wp2;go_ret;rw[HR.out];exact⟨rfl,rfl⟩
theorem Q4(s:ByteArray)(w:World):Calls qA 93 #[.string s] w fun e w'=>e=Z (.bool (BM s))/\w'=w:=by
 by_cases h:s.size<1\/8<s.size
 .exact Q7 s w h
 .by_cases hy:(s.toList == [121,101,115])=true
  .exact Q8 s w (by omega) (by omega) hy
  .by_cases hn:(s.toList == [110,111])=true
   .exact Q6 s w (by omega) (by omega) (by simpa using hy) hn
   .exact Q5 s w (by omega) (by omega) (by simpa using hy) (by simpa using hn)
