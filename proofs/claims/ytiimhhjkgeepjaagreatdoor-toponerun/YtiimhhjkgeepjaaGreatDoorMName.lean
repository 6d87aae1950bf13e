import Derived.Test.YtiimhhjkgeepjaaGreatDoorModels
namespace Go.Proofs.YtiimhhjkgeepjaaGreatDoor
open Go.ChangeShapes Go.WideShapes Go.ChangeAt Go.RowKit Go.Deep
open Terms Tm
set_option maxHeartbeats 6400000
set_option maxRecDepth 20000
theorem zLG (s:ByteArray) (w:World) (h:s.size < 1\/8 < s.size) :
  Calls Tryz.prog 48 #[.string s] w fun e w'=>e=.returned (.bool (zA2 s))/\w'=w:=by
 rw [zE7 (show zCC s=false by simp [zCC];omega)]
 rcases h with h | h
 ·go_enter Tryz.func48,Tryz.ntmps48
  go_wp2
  all_goals go_ret
  all_goals exact ⟨rfl,rfl⟩
 ·have h2:¬ s.size < 1:=by omega
  go_enter Tryz.func48,Tryz.ntmps48
  go_wp2
  all_goals go_ret
  all_goals exact ⟨rfl,rfl⟩
theorem zNY (s:ByteArray) (w:World) (h1:1 <= s.size) (h8:s.size <= 8) (h:(s.toList == [121,101,115])=true) :
  Calls Tryz.prog 48 #[.string s] w fun e w'=>e=.returned (.bool (zA2 s))/\w'=w:=by
 rw [zE7 (show zCC s=false by simp only [zCC,h];simp)]
 go_enter Tryz.func48,Tryz.ntmps48
 go_wp2
 all_goals go_ret
 all_goals exact ⟨rfl,rfl⟩
theorem zOL (s:ByteArray) (w:World) (h1:1 <= s.size) (h8:s.size <= 8) (hy:(s.toList == [121,101,115])=false) (h:(s.toList == [110,111])=true) :
  Calls Tryz.prog 48 #[.string s] w fun e w'=>e=.returned (.bool (zA2 s))/\w'=w:=by
 rw [zE7 (show zCC s=false by simp only [zCC,h];simp)]
 go_enter Tryz.func48,Tryz.ntmps48
 go_wp2
 all_goals go_ret
 all_goals exact ⟨rfl,rfl⟩
theorem zLK (s:ByteArray) (w:World) (h1:1 <= s.size) (h8:s.size <= 8) (hy:(s.toList == [121,101,115])=false) (hn:(s.toList == [110,111])=false) :
    Calls Tryz.prog 48 #[.string s] w fun e w'=>e=.returned (.bool (zA2 s))/\w'=w:=by
  have hh:Hid (zCC s=true):=by show zCC s=true;simp only [zCC,hy,hn];simp [h1,h8]
  go_enter Tryz.func48,Tryz.ntmps48
  go_wp2
  clear hy hn
  go_loop [24] (fun i=>∃ k:Nat,k <= s.size/\i=.int .i64 k/\Hid (∀ j,j < k->zFD j (zC6 s j)=true)) (fun i=>s.size - (intOf i).toNat)
  case atStart=>exact ⟨0,Nat.zero_le _,rfl,fun j hj=>by omega⟩
  case round=>
    obtain ⟨k,hk,rfl,HJ⟩:=hrel
    by_cases hlt:k < s.size
    · have hbk:zC6 s k=(s[k].toNat:Int):=zMY s hlt
      by_cases hc:zFD k (zC6 s k)=true
      · have HJ2:Hid (∀ j,j < k+1->zFD j (zC6 s j)=true):=fun j hj=>by
          by_cases hjk:j=k
          · subst hjk;exact hc
          · exact HJ.out j (by omega)
        rw [hbk] at hc;simp only [zFD,decide_eq_true_eq] at hc;clear hbk;have hcase:(97 <= (s[k].toNat:Int)/\(s[k].toNat:Int) <= 122/\48 <= (s[k].toNat:Int)/\¬ (s[k].toNat:Int) <= 57)\/(¬ 97 <= (s[k].toNat:Int)/\48 <= (s[k].toNat:Int)/\(s[k].toNat:Int) <= 57/\¬ k=0):=by omega
        clear hc
        rcases hcase with ⟨c1,c2,c3,c4⟩ | ⟨c1,c2,c3,c4⟩
        all_goals
          go_wp2
          go_round
          case rel=>exact ⟨k+1,by omega,by go_num,HJ2⟩
          case measure=>simp [intOf];omega
      · have HR:Hid (zA2 s=false):=zPQ hlt (by simpa using hc)
        rw [hbk] at hc;simp only [zFD,decide_eq_true_eq] at hc;clear hbk
        have hcase:(¬ 97 <= (s[k].toNat:Int)/\¬ 48 <= (s[k].toNat:Int))\/(¬ 97 <= (s[k].toNat:Int)/\48 <= (s[k].toNat:Int)/\¬ (s[k].toNat:Int) <= 57)\/(97 <= (s[k].toNat:Int)/\¬ (s[k].toNat:Int) <= 122/\48 <= (s[k].toNat:Int)/\¬ (s[k].toNat:Int) <= 57)\/(¬ 97 <= (s[k].toNat:Int)/\48 <= (s[k].toNat:Int)/\(s[k].toNat:Int) <= 57/\k=0):=by omega
        clear hc
        rcases hcase with ⟨c1,c2⟩ | ⟨c1,c2,c3⟩ | ⟨c1,c2,c3,c4⟩ | ⟨c1,c2,c3,c4⟩
        case' inr.inr.inr=>subst c4
        all_goals
          go_wp2
          all_goals go_ret
          all_goals rw [HR.out]
          all_goals exact ⟨rfl,rfl⟩
    · have hks:k=s.size:=by omega
      have HR:Hid (zA2 s=true):=zLS hh.out (fun i hi=>HJ.out i (by omega))
      go_wp2
      go_ret
      rw [HR.out];exact ⟨rfl,rfl⟩
theorem zMm (s:ByteArray) (w:World):Calls Tryz.prog 48 #[.string s] w fun e w'=>e=.returned (.bool (zA2 s))/\w'=w:=by
 by_cases h:s.size < 1\/8 < s.size
 ·exact zLG s w h
 ·by_cases hy:(s.toList == [121,101,115])=true
  ·exact zNY s w (by omega) (by omega) hy
  ·by_cases hn:(s.toList == [110,111])=true
   ·exact zOL s w (by omega) (by omega) (by simpa using hy) hn
   ·exact zLK s w (by omega) (by omega) (by simpa using hy) (by simpa using hn)
