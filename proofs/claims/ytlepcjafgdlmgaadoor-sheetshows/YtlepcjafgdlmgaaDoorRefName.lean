import Derived.Test.YtlepcjafgdlmgaaDoorModels
import Derived.Test.YtlepcjafgdlmgaaDoorRefExpr
namespace Go.Proofs.YtlepcjafgdlmgaaDoor
open Go.ChangeShapes Go.WideShapes Go.ChangeAt Go.RowKit Go.Deep
open Terms Tm
set_option maxHeartbeats 6400000
set_option maxRecDepth 20000
theorem nameMay_size (s:ByteArray) (w:World) (h:s.size < 1\/8 < s.size) :
  Calls Tryd.prog 69 #[.string s] w fun e w'=>e=.returned (.bool (nameOk s))/\w'=w:=by
 rw [nameOk_head (show nmHead s=false by simp [nmHead];omega)]
 have hin:=fun w=>in_any (s.size:Int) 1 8 w
 rw [show decide ((1:Int) <= (s.size:Int)/\(s.size:Int) <= 8)=false by simp;omega] at hin
 clear h
 go_enter Tryd.func69,Tryd.ntmps69
 go_wp2_with (go_at_call 42;refine (hin _).mono ?_;rintro e w1 ⟨rfl,rfl⟩)
 all_goals go_ret
 all_goals exact ⟨rfl,rfl⟩
theorem nameMay_word (s:ByteArray) (w:World) (h1:1 <= s.size) (h8:s.size <= 8) (h:(s.toList == [121,101,115])=true\/(s.toList == [121,101,115])=false/\(s.toList == [110,111])=true) :
  Calls Tryd.prog 69 #[.string s] w fun e w'=>e=.returned (.bool (nameOk s))/\w'=w:=by
 rw [nameOk_head (show nmHead s=false by rcases h with h | ⟨_,h⟩ <;> (simp only [nmHead,h];simp))]
 have hin:=fun w=>in_any (s.size:Int) 1 8 w
 rw [show decide ((1:Int) <= (s.size:Int)/\(s.size:Int) <= 8)=true by simp;omega] at hin
 rcases h with h | ⟨h,h'⟩
 all_goals
  go_enter Tryd.func69,Tryd.ntmps69
  go_wp2_with (go_at_call 42;refine (hin _).mono ?_;rintro e w1 ⟨rfl,rfl⟩)
  all_goals go_ret
  all_goals exact ⟨rfl,rfl⟩
theorem nameMay_loop (s:ByteArray) (w:World) (h1:1 <= s.size) (h8:s.size <= 8) (hy:(s.toList == [121,101,115])=false) (hn:(s.toList == [110,111])=false) :
    Calls Tryd.prog 69 #[.string s] w fun e w'=>e=.returned (.bool (nameOk s))/\w'=w:=by
  have hh:Hid (nmHead s=true):=by show nmHead s=true;simp only [nmHead,hy,hn];simp [h1,h8]
  have hin:=fun w=>in_any (s.size:Int) 1 8 w
  rw [show decide ((1:Int) <= (s.size:Int)/\(s.size:Int) <= 8)=true by simp;omega] at hin
  go_enter Tryd.func69,Tryd.ntmps69
  go_wp2_with (go_at_call 42;refine (hin _).mono ?_;rintro e w1 ⟨rfl,rfl⟩)
  clear hy hn hin
  go_loop [3] (fun i=>∃ k:Nat,k <= s.size/\i=.int .i64 k/\Hid (∀ j,j < k->chOk j (byteAt s j)=true)) (fun i=>s.size - (intOf i).toNat)
  case atStart=>exact ⟨0,Nat.zero_le _,rfl,fun j hj=>by omega⟩
  case round=>
    obtain ⟨k,hk,rfl,HJ⟩:=hrel
    by_cases hlt:k < s.size
    · have hbk:byteAt s k=(s[k].toNat:Int):=byteAt_get s hlt
      have hub:(s[k].toNat:Int) <= 255:=by have:=s[k].toNat_lt;omega
      have hub0:0 <= (s[k].toNat:Int):=Int.natCast_nonneg _;have hL:=fun w=>in_any (s[k].toNat:Int) 97 122 w
      have hD:=fun w=>in_any (s[k].toNat:Int) 48 57 w
      by_cases hc:chOk k (byteAt s k)=true
      · have HJ2:Hid (∀ j,j < k+1->chOk j (byteAt s j)=true):=fun j hj=>by
          by_cases hjk:j=k
          · subst hjk;exact hc
          · exact HJ.out j (by omega)
        rw [hbk] at hc;simp only [chOk,decide_eq_true_eq] at hc;clear hbk HJ
        have hcase:(decide (97 <= (s[k].toNat:Int)/\(s[k].toNat:Int) <= 122)=true/\decide (48 <= (s[k].toNat:Int)/\(s[k].toNat:Int) <= 57)=false)\/(decide (97 <= (s[k].toNat:Int)/\(s[k].toNat:Int) <= 122)=false/\decide (48 <= (s[k].toNat:Int)/\(s[k].toNat:Int) <= 57)=true/\¬ k=0):=by
          simp only [decide_eq_true_eq,decide_eq_false_iff_not];omega
        clear hc
        rcases hcase with ⟨c1,c2⟩ | ⟨c1,c2,hk0⟩
        · rw [c1] at hL
          rw [c2] at hD;clear c1 c2
          rcases Nat.eq_zero_or_pos k with rfl | hk0
          all_goals
            go_wp2_with (first | (go_at_call_of 42 (Value.int IntKind.i64 97);refine (hL _).mono ?_;rintro e w1 ⟨rfl,rfl⟩) | (go_at_call_of 42 (Value.int IntKind.i64 48);refine (hD _).mono ?_;rintro e w1 ⟨rfl,rfl⟩))
            go_round
            case rel=>exact ⟨_,Nat.succ_le_of_lt hlt,by first | rfl | go_num,HJ2⟩
            case measure=>simp [intOf];omega
        · rw [c1] at hL
          rw [c2] at hD;clear c1 c2
          go_wp2_with (first | (go_at_call_of 42 (Value.int IntKind.i64 97);refine (hL _).mono ?_;rintro e w1 ⟨rfl,rfl⟩) | (go_at_call_of 42 (Value.int IntKind.i64 48);refine (hD _).mono ?_;rintro e w1 ⟨rfl,rfl⟩))
          go_round
          case rel=>exact ⟨k+1,by omega,by go_num,HJ2⟩
          case measure=>simp [intOf];omega
      · have HR:Hid (nameOk s=false):=nameOk_at hlt (by simpa using hc)
        rw [hbk] at hc;simp only [chOk,decide_eq_true_eq] at hc;clear hbk HJ
        have hcase:(decide (97 <= (s[k].toNat:Int)/\(s[k].toNat:Int) <= 122)=false/\decide (48 <= (s[k].toNat:Int)/\(s[k].toNat:Int) <= 57)=false)\/(decide (97 <= (s[k].toNat:Int)/\(s[k].toNat:Int) <= 122)=false/\decide (48 <= (s[k].toNat:Int)/\(s[k].toNat:Int) <= 57)=true/\k=0):=by
          simp only [decide_eq_true_eq,decide_eq_false_iff_not];omega
        clear hc
        rcases hcase with ⟨c1,c2⟩ | ⟨c1,c2,rfl⟩
        all_goals
          rw [c1] at hL;rw [c2] at hD;clear c1 c2
          go_wp2_with (first | (go_at_call_of 42 (Value.int IntKind.i64 97);refine (hL _).mono ?_;rintro e w1 ⟨rfl,rfl⟩) | (go_at_call_of 42 (Value.int IntKind.i64 48);refine (hD _).mono ?_;rintro e w1 ⟨rfl,rfl⟩))
          all_goals go_ret
          all_goals rw [HR.out]
          all_goals exact ⟨rfl,rfl⟩
    · have hks:k=s.size:=by omega
      have HR:Hid (nameOk s=true):=nameOk_true hh.out (fun i hi=>HJ.out i (by omega))
      go_wp2
      go_ret
      rw [HR.out];exact ⟨rfl,rfl⟩
theorem nameMay_any (s:ByteArray) (w:World):Calls Tryd.prog 69 #[.string s] w fun e w'=>e=.returned (.bool (nameOk s))/\w'=w:=by
 by_cases h:s.size < 1\/8 < s.size
 ·exact nameMay_size s w h
 ·by_cases hy:(s.toList == [121,101,115])=true
  ·exact nameMay_word s w (by omega) (by omega) (.inl hy)
  ·by_cases hn:(s.toList == [110,111])=true
   ·exact nameMay_word s w (by omega) (by omega) (.inr ⟨by simpa using hy,hn⟩)
   ·exact nameMay_loop s w (by omega) (by omega) (by simpa using hy) (by simpa using hn)
