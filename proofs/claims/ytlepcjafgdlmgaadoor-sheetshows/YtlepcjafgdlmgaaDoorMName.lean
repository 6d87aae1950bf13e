import Derived.Test.YtlepcjafgdlmgaaDoorModels
namespace Go.Proofs.YtlepcjafgdlmgaaDoor
open Go.ChangeShapes Go.WideShapes Go.ChangeAt Go.RowKit Go.Deep
open Terms Tm
set_option maxHeartbeats 6400000
set_option maxRecDepth 20000
theorem isName_size (s:ByteArray) (w:World) (h:s.size < 1\/8 < s.size) :
  Calls Tryd.prog 58 #[.string s] w fun e w'=>e=.returned (.bool (nameOk s))/\w'=w:=by
 rw [nameOk_head (show nmHead s=false by simp [nmHead];omega)]
 rcases h with h | h
 ·go_enter Tryd.func58,Tryd.ntmps58
  go_wp2
  all_goals go_ret
  all_goals exact ⟨rfl,rfl⟩
 ·have h2:¬ s.size < 1:=by omega
  go_enter Tryd.func58,Tryd.ntmps58
  go_wp2
  all_goals go_ret
  all_goals exact ⟨rfl,rfl⟩
theorem isName_yes (s:ByteArray) (w:World) (h1:1 <= s.size) (h8:s.size <= 8) (h:(s.toList == [121,101,115])=true) :
  Calls Tryd.prog 58 #[.string s] w fun e w'=>e=.returned (.bool (nameOk s))/\w'=w:=by
 rw [nameOk_head (show nmHead s=false by simp only [nmHead,h];simp)]
 go_enter Tryd.func58,Tryd.ntmps58
 go_wp2
 all_goals go_ret
 all_goals exact ⟨rfl,rfl⟩
theorem isName_no (s:ByteArray) (w:World) (h1:1 <= s.size) (h8:s.size <= 8) (hy:(s.toList == [121,101,115])=false) (h:(s.toList == [110,111])=true) :
  Calls Tryd.prog 58 #[.string s] w fun e w'=>e=.returned (.bool (nameOk s))/\w'=w:=by
 rw [nameOk_head (show nmHead s=false by simp only [nmHead,h];simp)]
 go_enter Tryd.func58,Tryd.ntmps58
 go_wp2
 all_goals go_ret
 all_goals exact ⟨rfl,rfl⟩
theorem isName_loop (s:ByteArray) (w:World) (h1:1 <= s.size) (h8:s.size <= 8) (hy:(s.toList == [121,101,115])=false) (hn:(s.toList == [110,111])=false) :
    Calls Tryd.prog 58 #[.string s] w fun e w'=>e=.returned (.bool (nameOk s))/\w'=w:=by
  have hh:Hid (nmHead s=true):=by show nmHead s=true;simp only [nmHead,hy,hn];simp [h1,h8]
  go_enter Tryd.func58,Tryd.ntmps58
  go_wp2
  clear hy hn
  go_loop [24] (fun i=>∃ k:Nat,k <= s.size/\i=.int .i64 k/\Hid (∀ j,j < k->chOk j (byteAt s j)=true)) (fun i=>s.size - (intOf i).toNat)
  case atStart=>exact ⟨0,Nat.zero_le _,rfl,fun j hj=>by omega⟩
  case round=>
    obtain ⟨k,hk,rfl,HJ⟩:=hrel
    by_cases hlt:k < s.size
    · have hbk:byteAt s k=(s[k].toNat:Int):=byteAt_get s hlt
      by_cases hc:chOk k (byteAt s k)=true
      · have HJ2:Hid (∀ j,j < k+1->chOk j (byteAt s j)=true):=fun j hj=>by
          by_cases hjk:j=k
          · subst hjk;exact hc
          · exact HJ.out j (by omega)
        rw [hbk] at hc;simp only [chOk,decide_eq_true_eq] at hc;clear hbk;have hcase:(97 <= (s[k].toNat:Int)/\(s[k].toNat:Int) <= 122/\48 <= (s[k].toNat:Int)/\¬ (s[k].toNat:Int) <= 57)\/(¬ 97 <= (s[k].toNat:Int)/\48 <= (s[k].toNat:Int)/\(s[k].toNat:Int) <= 57/\¬ k=0):=by omega
        clear hc
        rcases hcase with ⟨c1,c2,c3,c4⟩ | ⟨c1,c2,c3,c4⟩
        all_goals
          go_wp2
          go_round
          case rel=>exact ⟨k+1,by omega,by go_num,HJ2⟩
          case measure=>simp [intOf];omega
      · have HR:Hid (nameOk s=false):=nameOk_at hlt (by simpa using hc)
        rw [hbk] at hc;simp only [chOk,decide_eq_true_eq] at hc;clear hbk
        have hcase:(¬ 97 <= (s[k].toNat:Int)/\¬ 48 <= (s[k].toNat:Int))\/(¬ 97 <= (s[k].toNat:Int)/\48 <= (s[k].toNat:Int)/\¬ (s[k].toNat:Int) <= 57)\/(97 <= (s[k].toNat:Int)/\¬ (s[k].toNat:Int) <= 122/\48 <= (s[k].toNat:Int)/\¬ (s[k].toNat:Int) <= 57)\/(¬ 97 <= (s[k].toNat:Int)/\48 <= (s[k].toNat:Int)/\(s[k].toNat:Int) <= 57/\k=0):=by omega
        clear hc
        rcases hcase with ⟨c1,c2⟩ | ⟨c1,c2,c3⟩ | ⟨c1,c2,c3,c4⟩ | ⟨c1,c2,c3,c4⟩
        case' inr.inr.inr=>subst c4
        all_goals
          go_wp2
          all_goals go_ret
          all_goals rw [HR.out]
          all_goals exact ⟨rfl,rfl⟩
    · have hks:k=s.size:=by omega
      have HR:Hid (nameOk s=true):=nameOk_true hh.out (fun i hi=>HJ.out i (by omega))
      go_wp2
      go_ret
      rw [HR.out];exact ⟨rfl,rfl⟩
theorem isName_any (s:ByteArray) (w:World):Calls Tryd.prog 58 #[.string s] w fun e w'=>e=.returned (.bool (nameOk s))/\w'=w:=by
 by_cases h:s.size < 1\/8 < s.size
 ·exact isName_size s w h
 ·by_cases hy:(s.toList == [121,101,115])=true
  ·exact isName_yes s w (by omega) (by omega) hy
  ·by_cases hn:(s.toList == [110,111])=true
   ·exact isName_no s w (by omega) (by omega) (by simpa using hy) hn
   ·exact isName_loop s w (by omega) (by omega) (by simpa using hy) (by simpa using hn)
