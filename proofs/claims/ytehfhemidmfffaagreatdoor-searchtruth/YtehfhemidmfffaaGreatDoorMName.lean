import Derived.Test.YtehfhemidmfffaaGreatDoorModels
open Go.Ending renaming returned→Z
open _root_.Bool renaming false→Y
namespace Go.Proofs.YtehfhemidmfffaaGreatDoor
open Go.Proofs.Tryz renaming prog→qA
open Go.ChangeShapes Go.WideShapes Go.ChangeAt Go.RowKit Go.Deep
open Terms Tm
open Go.Proofs.Tryz renaming func112→ca,ntmps112→ce
set_option maxHeartbeats 6400000
set_option maxRecDepth 20000
theorem Rg(s:ByteArray)(w:World)(h:s.size<1\/8<s.size) :
  Calls qA 112 #[.string s] w fun e w'=>e=Z (.bool (BO s))/\w'=w:=by
 rw[JL (show CZ s=Y by simp[CZ];omega)];rcases h with h|h
 .go_enter ca,ce;go_wp2;all_goals go_ret
  all_goals exact⟨rfl,rfl⟩
 .have h2:¬s.size<1:=by omega
  go_enter ca,ce;go_wp2;all_goals go_ret
  all_goals exact⟨rfl,rfl⟩
theorem Rh(s:ByteArray)(w:World)(h1:1<=s.size)(h8:s.size<=8)(h:(s.toList == [121,101,115])=true) :
  Calls qA 112 #[.string s] w fun e w'=>e=Z (.bool (BO s))/\w'=w:=by
 rw[JL (show CZ s=Y by simp only[CZ,h];simp)];go_enter ca,ce;go_wp2;all_goals go_ret
 all_goals exact⟨rfl,rfl⟩
theorem Rf(s:ByteArray)(w:World)(h1:1<=s.size)(h8:s.size<=8)(hy:(s.toList == [121,101,115])=Y)(h:(s.toList == [110,111])=true) :
  Calls qA 112 #[.string s] w fun e w'=>e=Z (.bool (BO s))/\w'=w:=by
 rw[JL (show CZ s=Y by simp only[CZ,h];simp)];go_enter ca,ce;go_wp2;all_goals go_ret
 all_goals exact⟨rfl,rfl⟩
theorem Re (s:ByteArray) (w:World) (h1:1 <= s.size) (h8:s.size <= 8) (hy:(s.toList == [121,101,115])=Y) (hn:(s.toList == [110,111])=Y) :
    Calls qA 112 #[.string s] w fun e w'=>e=Z (.bool (BO s))/\w'=w:=by
  have hh:Hid (CZ s=true):=by show CZ s=true;simp only[CZ,hy,hn];simp[h1,h8]
  go_enter ca,ce;go_wp2;clear hy hn;go_loop [24] (fun i=>∃k:Nat,k<=s.size/\i=.int .i64 k/\Hid (∀j,j<k->DY j (DI s j)=true)) (fun i=>s.size-(intOf i).toNat)
  case atStart=>exact⟨0,Nat.zero_le _,rfl,fun j hj=>by omega⟩
  case round=>
    obtain⟨k,hk,rfl,HJ⟩:=hrel;by_cases hlt:k<s.size
    . have hbk:DI s k=(s[k].toNat:Int):=PQ s hlt
      by_cases hc:DY k (DI s k)=true
      . have HJ2:Hid (∀j,j<k+1->DY j (DI s j)=true):=fun j hj=>by
          by_cases hjk:j=k
          . subst hjk;exact hc
          . exact HJ.out j (by omega)
        rw[hbk]at hc;simp only[DY,decide_eq_true_eq]at hc;clear hbk;have hcase:(97<=(s[k].toNat:Int)/\(s[k].toNat:Int)<=122/\48<=(s[k].toNat:Int)/\¬(s[k].toNat:Int)<=57)\/(¬97<=(s[k].toNat:Int)/\48<=(s[k].toNat:Int)/\(s[k].toNat:Int)<=57/\¬k=0):=by omega
        clear hc;rcases hcase with⟨c1,c2,c3,c4⟩|⟨c1,c2,c3,c4⟩;all_goals
          go_wp2;go_round
          case rel=>exact⟨k+1,by omega,by go_num,HJ2⟩
          case measure=>simp[intOf];omega
      . have HR:Hid (BO s=Y):=S5 hlt (by simpa using hc)
        rw[hbk]at hc;simp only[DY,decide_eq_true_eq]at hc;clear hbk;have hcase:(¬97<=(s[k].toNat:Int)/\¬48<=(s[k].toNat:Int))\/(¬97<=(s[k].toNat:Int)/\48<=(s[k].toNat:Int)/\¬(s[k].toNat:Int)<=57)\/(97<=(s[k].toNat:Int)/\¬(s[k].toNat:Int)<=122/\48<=(s[k].toNat:Int)/\¬(s[k].toNat:Int)<=57)\/(¬97<=(s[k].toNat:Int)/\48<=(s[k].toNat:Int)/\(s[k].toNat:Int)<=57/\k=0):=by omega
        clear hc;rcases hcase with⟨c1,c2⟩|⟨c1,c2,c3⟩|⟨c1,c2,c3,c4⟩|⟨c1,c2,c3,c4⟩;case' inr.inr.inr=>subst c4
        all_goals
          go_wp2;all_goals go_ret
          all_goals rw[HR.out]
          all_goals exact⟨rfl,rfl⟩
    . have hks:k=s.size:=by omega
      have HR:Hid (BO s=true):=S6 hh.out (fun i hi=>HJ.out i (by omega));go_wp2;go_ret;rw[HR.out];exact⟨rfl,rfl⟩
theorem Rd(s:ByteArray)(w:World):Calls qA 112 #[.string s] w fun e w'=>e=Z (.bool (BO s))/\w'=w:=by
 by_cases h:s.size<1\/8<s.size
 .exact Rg s w h
 .by_cases hy:(s.toList == [121,101,115])=true
  .exact Rh s w (by omega) (by omega) hy
  .by_cases hn:(s.toList == [110,111])=true
   .exact Rf s w (by omega) (by omega) (by simpa using hy) hn
   .exact Re s w (by omega) (by omega) (by simpa using hy) (by simpa using hn)
