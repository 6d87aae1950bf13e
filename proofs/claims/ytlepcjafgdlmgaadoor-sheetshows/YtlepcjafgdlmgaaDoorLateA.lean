/- Joined texts. -/
import Derived.Shelf.Strings.Builder1
import Derived.Shelf.Strings.Builder2
import Derived.Shelf.Strings.OnBuilder
import Derived.Shelf.Strings.BuilderF
import Derived.Shelf.Strings.BuilderK
import Derived.Shelf.Strings.Builder2Cap
import Derived.Shelf.Strconv.Itoa0
import Derived.Shelf.Strconv.Itoa1
import Derived.Shelf.LaysM
import Derived.Shelf.Strconv.Itoa2
import Derived.Shelf.Strconv.Itoa3
import Derived.Ground.Names2Prog
import Derived.Shelf.Slices.Clone
import Derived.Ground.SlgnProg
import Derived.Shelf.SlicesE.Clone
import Derived.Laws.IdiomStrings
import Derived.Test.YtlepcjafgdlmgaaDoorPCheck
import Derived.Lib.Join
import Derived.OrdersIn
import Derived.RegionIn
import Derived.RangeFuncBound
import Derived.RangeFuncCalls
import Derived.RangeFuncLeaves
import Derived.RangeFuncNested
import Derived.Shelf.Abstract
import Derived.Shelf.RegionOpen
import Derived.OwnWalkIn
import Derived.TacticsInMore
import Derived.LoopNIn
import Derived.LoopIn
namespace Go.Proofs.YtlepcjafgdlmgaaDoor
open Go.Shelf
set_option maxHeartbeats 6400000
set_option maxRecDepth 20000
def lays169_ren:Go.Shelf.Ren:=⟨fun | 169=>15 | n=>n,fun | 70=>42 | 9=>9 | 0=>0 | 72=>45 | 37=>43 | 127=>74 | 3=>3 | 5=>5 | n=>n,fun | n=>n⟩
theorem lays169:Go.Proofs.Lays.n169 Tryd.prog lays169_ren:={
 mixed:=by kernel_rfl
 f169:=Tryd.func15.trans (congrArg some (by kernel_rfl))
 t0:=Tryd.underlying0
 a0:=Tryd.isAgg0
 z0:=Tryd.sizeOf0
 v0:=Tryd.zeroValue0
 t3:=Tryd.underlying3
 a3:=Tryd.isAgg3
 z3:=Tryd.sizeOf3
 v3:=Tryd.zeroValue3
 t9:=Tryd.underlying9
 a9:=Tryd.isAgg9
 z9:=Tryd.sizeOf9
 v9:=Tryd.zeroValue9
 t37:=Tryd.underlying43
 a37:=Tryd.isAgg43
 z37:=Tryd.sizeOf43
 v37:=Tryd.zeroValue43
 t70:=Tryd.underlying42
 a70:=Tryd.isAgg42
 z70:=Tryd.sizeOf42
 v70:=Tryd.zeroValue42
 t72:=Tryd.underlying45
 a72:=Tryd.isAgg45
 z72:=Tryd.sizeOf45
 v72:=Tryd.zeroValue45
 t127:=Tryd.underlying74
 a127:=Tryd.isAgg74
 z127:=Tryd.sizeOf74
 v127:=Tryd.zeroValue74}
theorem sh_Builder_Extra_169:Builder.Extra Tryd.prog lays169_ren:={
 sizeBuilder:=by kernel_rfl
 liesBuilder:=by kernel_rfl
 t5:=Tryd.underlying5
 a5:=Tryd.isAgg5
 z5:=Tryd.sizeOf5
 v5:=Tryd.zeroValue5
 infoByte:=by kernel_rfl
 cellsByte:=by kernel_rfl
 sizeByte:=by kernel_rfl
 neB5:=by decide}
def lays156_ren:Go.Shelf.Ren:=⟨fun | 156=>14 | 165=>28 | 166=>13 | 169=>15 | 240=>27 | 241=>39 | 276=>38 | 277=>53 | n=>n,fun | 31=>49 | 9=>9 | 3=>3 | 4=>4 | 0=>0 | 20=>20 | 72=>45 | 76=>52 | 70=>42 | 37=>43 | 75=>51 | 127=>74 | 164=>87 | 5=>5 | 80=>55 | n=>n,fun | n=>n⟩
theorem lays156:Go.Proofs.Lays.n156 Tryd.prog lays156_ren:={
 mixed:=by kernel_rfl
 f156:=Tryd.func14.trans (congrArg some (by kernel_rfl))
 f165:=Tryd.func28.trans (congrArg some (by kernel_rfl))
 f166:=Tryd.func13.trans (congrArg some (by kernel_rfl))
 f169:=Tryd.func15.trans (congrArg some (by kernel_rfl))
 f240:=Tryd.func27.trans (congrArg some (by kernel_rfl))
 f241:=Tryd.func39.trans (congrArg some (by kernel_rfl))
 f276:=Tryd.func38.trans (congrArg some (by kernel_rfl))
 f277:=Tryd.func53.trans (congrArg some (by kernel_rfl))
 t0:=Tryd.underlying0
 a0:=Tryd.isAgg0
 z0:=Tryd.sizeOf0
 v0:=Tryd.zeroValue0
 t3:=Tryd.underlying3
 a3:=Tryd.isAgg3
 z3:=Tryd.sizeOf3
 v3:=Tryd.zeroValue3
 t4:=Tryd.underlying4
 a4:=Tryd.isAgg4
 z4:=Tryd.sizeOf4
 v4:=Tryd.zeroValue4
 t9:=Tryd.underlying9
 a9:=Tryd.isAgg9
 z9:=Tryd.sizeOf9
 v9:=Tryd.zeroValue9
 t20:=Tryd.underlying20
 a20:=Tryd.isAgg20
 z20:=Tryd.sizeOf20
 v20:=Tryd.zeroValue20
 t31:=Tryd.underlying49
 a31:=Tryd.isAgg49
 z31:=Tryd.sizeOf49
 v31:=Tryd.zeroValue49
 t37:=Tryd.underlying43
 a37:=Tryd.isAgg43
 z37:=Tryd.sizeOf43
 v37:=Tryd.zeroValue43
 t70:=Tryd.underlying42
 a70:=Tryd.isAgg42
 z70:=Tryd.sizeOf42
 v70:=Tryd.zeroValue42
 t72:=Tryd.underlying45
 a72:=Tryd.isAgg45
 z72:=Tryd.sizeOf45
 v72:=Tryd.zeroValue45
 t75:=Tryd.underlying51
 a75:=Tryd.isAgg51
 z75:=Tryd.sizeOf51
 v75:=Tryd.zeroValue51
 t76:=Tryd.underlying52
 a76:=Tryd.isAgg52
 z76:=Tryd.sizeOf52
 v76:=Tryd.zeroValue52
 t127:=Tryd.underlying74
 a127:=Tryd.isAgg74
 z127:=Tryd.sizeOf74
 v127:=Tryd.zeroValue74
 t164:=Tryd.underlying87
 a164:=Tryd.isAgg87
 z164:=Tryd.sizeOf87
 v164:=Tryd.zeroValue87}
theorem sh_Builder_Extra_156:Builder.Extra Tryd.prog lays156_ren:={
 sizeBuilder:=by kernel_rfl
 liesBuilder:=by kernel_rfl
 t5:=Tryd.underlying5
 a5:=Tryd.isAgg5
 z5:=Tryd.sizeOf5
 v5:=Tryd.zeroValue5
 infoByte:=by kernel_rfl
 cellsByte:=by kernel_rfl
 sizeByte:=by kernel_rfl
 neB5:=by decide}
open Go.RowKit in
theorem sh_strings_Join (bk o c:Nat) (xs:List ByteArray) (sep:ByteArray) (w:World) (hcells:∀ (j:Nat) x,xs[j]? = some x->w.cell? ⟨bk,o+j,none⟩=some (.string x)) (hbk:bk < w.heap.size) (hN:xs.length <= 140737488355328) (hcap:xs.length <= c) (hlen:(Lib.join (xs.map (·.data.toList)) sep.data.toList).length <= 140737488355328) :
  Calls Tryd.prog 14 #[.slice (some ⟨bk,o,none⟩) xs.length c,.string sep] w fun e w'=>e=.returned (.string ⟨(Lib.join (xs.map (·.data.toList)) sep.data.toList).toArray⟩)/\Below w.heap.size w w':=Any.strings_Join lays156 sh_Builder_Extra_156 bk o c xs sep w hcells hbk hN hcap hlen
open Go.RowKit in
theorem sh_Builder_String_any_k (B b:Nat) (l:List UInt8) (w:World) (h:Lib.IsBuilderF 45 5 B b (Lib.byteCells l) w) (hBw:B <= w.heap.size) :
  Calls Tryd.prog 15 #[.pointer (some ⟨b,0,none⟩)] w fun e w'=>e=.returned (.string ⟨l.toArray⟩)/\(Lib.IsBuilderF 45 5 B b (Lib.byteCells l) w'/\Below B w w'/\Lib.OthersKept 5 (some b) w w'):=Any.Builder_String_any_k lays169 sh_Builder_Extra_169 B b l w h hBw
def laysM171_ren:Go.Shelf.Ren:=⟨fun | 171=>25 | 243=>35 | 246=>52 | 283=>65 | 284=>66 | 285=>67 | 286=>68 | 129=>78 | 317=>77 | 318=>79 | 319=>80 | 320=>81 | 337=>85 | 338=>86 | n=>n,fun | 3=>3 | 9=>9 | 2=>2 | 4=>4 | 171=>111 | 0=>0 | 53=>112 | 37=>43 | 5=>5 | 173=>115 | 212=>123 | 51=>124 | 20=>20 | 213=>125 | 46=>126 | 232=>133 | 233=>134 | n=>n,fun | 17=>2 | 18=>4 | 19=>5 | n=>n⟩
theorem laysM171:Go.Proofs.LaysM.n171 Tryd.prog laysM171_ren:={
 mixed:=by kernel_rfl
 f129:=Tryd.func78.trans (congrArg some (by kernel_rfl))
 f171:=Tryd.func25.trans (congrArg some (by kernel_rfl))
 f243:=Tryd.func35.trans (congrArg some (by kernel_rfl))
 f246:=Tryd.func52.trans (congrArg some (by kernel_rfl))
 f283:=Tryd.func65.trans (congrArg some (by kernel_rfl))
 f284:=Tryd.func66.trans (congrArg some (by kernel_rfl))
 f285:=Tryd.func67.trans (congrArg some (by kernel_rfl))
 f286:=Tryd.func68.trans (congrArg some (by kernel_rfl))
 f317:=Tryd.func77.trans (congrArg some (by kernel_rfl))
 f318:=Tryd.func79.trans (congrArg some (by kernel_rfl))
 f319:=Tryd.func80.trans (congrArg some (by kernel_rfl))
 f320:=Tryd.func81.trans (congrArg some (by kernel_rfl))
 f337:=Tryd.func85.trans (congrArg some (by kernel_rfl))
 f338:=Tryd.func86.trans (congrArg some (by kernel_rfl))
 t0:=Tryd.underlying0
 a0:=Tryd.isAgg0
 z0:=Tryd.sizeOf0
 v0:=Tryd.zeroValue0
 t2:=Tryd.underlying2
 a2:=Tryd.isAgg2
 z2:=Tryd.sizeOf2
 v2:=Tryd.zeroValue2
 t3:=Tryd.underlying3
 a3:=Tryd.isAgg3
 z3:=Tryd.sizeOf3
 v3:=Tryd.zeroValue3
 t4:=Tryd.underlying4
 a4:=Tryd.isAgg4
 z4:=Tryd.sizeOf4
 v4:=Tryd.zeroValue4
 t5:=Tryd.underlying5
 a5:=Tryd.isAgg5
 z5:=Tryd.sizeOf5
 v5:=Tryd.zeroValue5
 t9:=Tryd.underlying9
 a9:=Tryd.isAgg9
 z9:=Tryd.sizeOf9
 v9:=Tryd.zeroValue9
 t20:=Tryd.underlying20
 a20:=Tryd.isAgg20
 z20:=Tryd.sizeOf20
 v20:=Tryd.zeroValue20
 t37:=Tryd.underlying43
 a37:=Tryd.isAgg43
 z37:=Tryd.sizeOf43
 v37:=Tryd.zeroValue43
 t46:=Tryd.underlying126
 a46:=Tryd.isAgg126
 z46:=Tryd.sizeOf126
 v46:=Tryd.zeroValue126
 t51:=Tryd.underlying124
 a51:=Tryd.isAgg124
 z51:=Tryd.sizeOf124
 v51:=Tryd.zeroValue124
 t53:=Tryd.underlying112
 a53:=Tryd.isAgg112
 z53:=Tryd.sizeOf112
 v53:=Tryd.zeroValue112
 t171:=Tryd.underlying111
 a171:=Tryd.isAgg111
 z171:=Tryd.sizeOf111
 v171:=Tryd.zeroValue111
 t173:=Tryd.underlying115
 a173:=Tryd.isAgg115
 z173:=Tryd.sizeOf115
 v173:=Tryd.zeroValue115
 t212:=Tryd.underlying123
 a212:=Tryd.isAgg123
 z212:=Tryd.sizeOf123
 v212:=Tryd.zeroValue123
 t213:=Tryd.underlying125
 a213:=Tryd.isAgg125
 z213:=Tryd.sizeOf125
 t232:=Tryd.underlying133
 a232:=Tryd.isAgg133
 z232:=Tryd.sizeOf133
 v232:=Tryd.zeroValue133
 t233:=Tryd.underlying134
 a233:=Tryd.isAgg134
 z233:=Tryd.sizeOf134
 v233:=Tryd.zeroValue134
 g17:=by kernel_rfl
 g18:=by kernel_rfl
 g19:=by kernel_rfl
 i0:=by kernel_rfl
 i2:=by kernel_rfl
 i3:=by kernel_rfl
 i4:=by kernel_rfl
 i5:=by kernel_rfl
 i9:=by kernel_rfl
 i20:=by kernel_rfl
 i37:=by kernel_rfl
 i46:=by kernel_rfl
 i51:=by kernel_rfl
 i53:=by kernel_rfl
 i171:=by kernel_rfl
 i173:=by kernel_rfl
 i212:=by kernel_rfl
 i232:=by kernel_rfl
 i233:=by kernel_rfl
 m17:=by kernel_rfl
 m18:=by kernel_rfl
 m19:=by kernel_rfl}
open Go.RowKit Go.Sort Go.Lib in
theorem sh_strconv_Itoa (n : Int) (h0 : -9223372036854775808 <= n) (h1 : n <= 9223372036854775807) (w : World) (htab : Lib.TabIs Tryd.prog w "internal/strconv.uint64pow10" .u64 Lib.pow10Tab) :
  Calls Tryd.prog 25 #[.int .i64 n] w fun e w'=>e=.returned (.string ⟨(Lib.itoa n).toArray⟩)/\∃ k os,w'=grow (w.drewN k) os:=Any.strconv_Itoa laysM171 n h0 h1 w htab
def laysNm216_ren:Go.Shelf.Ren:=⟨fun | 16=>36 | n=>n,fun | 24=>49 | 9=>9 | 4=>4 | n=>n,fun | n=>n⟩
theorem laysNm216:Go.Proofs.Lays2.n16 Tryd.prog laysNm216_ren:={
 mixed:=by kernel_rfl
 f16:=Tryd.func36.trans (congrArg some (by kernel_rfl))
 t4:=Tryd.underlying4
 a4:=Tryd.isAgg4
 z4:=Tryd.sizeOf4
 v4:=Tryd.zeroValue4
 t9:=Tryd.underlying9
 a9:=Tryd.isAgg9
 z9:=Tryd.sizeOf9
 v9:=Tryd.zeroValue9
 t24:=Tryd.underlying49
 a24:=Tryd.isAgg49
 z24:=Tryd.sizeOf49
 v24:=Tryd.zeroValue49
 i9:=by kernel_rfl}
open Go.RowKit Go.Lib in
theorem sh_slices_Clone_string (b off n c:Nat) (zs:List ByteArray) (w:World) (hz:n <= zs.length) (hbig:n*16 <= 140737488355328) (hc:∀ j,j < zs.length->w.cell? ⟨b,off+j,none⟩=some (.string (zs.getD j ByteArray.empty))) :
  Calls Tryd.prog 36 #[.slice (some ⟨b,off,none⟩) n c] w fun e w'=>∃ v',e=.returned v'/\w'.ownsRow w.heap.size 9 1 v' n ((zs.take n).map (Value.string))/\v'≠.slice none 0 0/\Below w.heap.size w w':=Any.slices_Clone_string laysNm216 b off n c zs w hz hbig hc
def lays166_ren:Go.Shelf.Ren:=⟨fun | 166=>13 | 240=>27 | 276=>38 | n=>n,fun | 0=>0 | 3=>3 | 4=>4 | 9=>9 | 20=>20 | 37=>43 | 70=>42 | 72=>45 | 5=>5 | 75=>51 | 80=>55 | 164=>87 | n=>n,fun | n=>n⟩
theorem lays166:Go.Proofs.Lays.n166 Tryd.prog lays166_ren:={
 mixed:=by kernel_rfl
 f166:=Tryd.func13.trans (congrArg some (by kernel_rfl))
 f240:=Tryd.func27.trans (congrArg some (by kernel_rfl))
 f276:=Tryd.func38.trans (congrArg some (by kernel_rfl))
 t0:=Tryd.underlying0
 a0:=Tryd.isAgg0
 z0:=Tryd.sizeOf0
 v0:=Tryd.zeroValue0
 t3:=Tryd.underlying3
 a3:=Tryd.isAgg3
 z3:=Tryd.sizeOf3
 v3:=Tryd.zeroValue3
 t4:=Tryd.underlying4
 a4:=Tryd.isAgg4
 z4:=Tryd.sizeOf4
 v4:=Tryd.zeroValue4
 t9:=Tryd.underlying9
 a9:=Tryd.isAgg9
 z9:=Tryd.sizeOf9
 v9:=Tryd.zeroValue9
 t20:=Tryd.underlying20
 a20:=Tryd.isAgg20
 z20:=Tryd.sizeOf20
 v20:=Tryd.zeroValue20
 t37:=Tryd.underlying43
 a37:=Tryd.isAgg43
 z37:=Tryd.sizeOf43
 v37:=Tryd.zeroValue43
 t70:=Tryd.underlying42
 a70:=Tryd.isAgg42
 z70:=Tryd.sizeOf42
 v70:=Tryd.zeroValue42
 t72:=Tryd.underlying45
 a72:=Tryd.isAgg45
 z72:=Tryd.sizeOf45
 v72:=Tryd.zeroValue45
 t75:=Tryd.underlying51
 a75:=Tryd.isAgg51
 z75:=Tryd.sizeOf51
 v75:=Tryd.zeroValue51
 t164:=Tryd.underlying87
 a164:=Tryd.isAgg87
 z164:=Tryd.sizeOf87
 v164:=Tryd.zeroValue87}
theorem sh_Builder_Extra_166:Builder.Extra Tryd.prog lays166_ren:={
 sizeBuilder:=by kernel_rfl
 liesBuilder:=by kernel_rfl
 t5:=Tryd.underlying5
 a5:=Tryd.isAgg5
 z5:=Tryd.sizeOf5
 v5:=Tryd.zeroValue5
 infoByte:=by kernel_rfl
 cellsByte:=by kernel_rfl
 sizeByte:=by kernel_rfl
 neB5:=by decide}
open Go.RowKit in
theorem sh_Builder_WriteString_k (B b:Nat) (bs:List Value) (s:ByteArray) (w:World) (h:Lib.IsBuilderF 45 5 B b bs w) (hlen:bs.length+s.size <= 140737488355328) (hBw:B <= w.heap.size) :
  Calls Tryd.prog 13 #[.pointer (some ⟨b,0,none⟩),.string s] w fun e w'=>e=.returned (.tuple #[.int .i64 s.size,.nilIface])/\(Lib.BuilderAtF 45 5 B b (.pointer (some ⟨b,0,none⟩)) (bs++Lib.strCells s) w'/\Below B w w'/\Lib.OthersKept 5 (some b) w w'):=Any.Builder_WriteString_k lays166 sh_Builder_Extra_166 B b bs s w h hlen hBw
end Go.Proofs.YtlepcjafgdlmgaaDoor
namespace Go.Proofs.YtlepcjafgdlmgaaDoor
open Go.ChangeShapes Go.WideShapes Go.ChangeAt Go.RowKit Go.Deep
open Terms
set_option maxHeartbeats 6400000
set_option maxRecDepth 20000
def tx (l:List UInt8):Value:=.string ⟨l.toArray⟩
theorem decDigits_more {i:Nat} (h:¬ i < 10):Lib.decDigits i=Lib.decDigits (i / 10)++[UInt8.ofNat (48+i % 10)]:=by rw [Lib.decDigits,dif_neg h]
theorem ba_app (a b:List UInt8):(ByteArray.mk a.toArray++ByteArray.mk b.toArray)=ByteArray.mk (a++b).toArray:=by
 apply ByteArray.ext
 simp
theorem dec_len:∀ u:Nat,(Lib.decDigits u).length <= u+1:=by
 intro u
 induction u using Nat.strongRecOn with
 | _ u ih=>
  by_cases h:u < 10
  ·rw [Lib.decDigits_one h];simp
  ·rw [decDigits_more h,List.length_append]
   have:=ih (u / 10) (by omega)
   simp only [List.length_cons,List.length_nil];omega
theorem conv_at (W:World) (g k:Nat) (hk:k < 10) (hc:W.cell? ⟨g,0,none⟩=some (.int .u8 (48+(k:Int)))):(convert 43 9 (.slice (some ⟨g,0,none⟩) 1 1)).run Tryd.prog W=.ok (.string ⟨#[UInt8.ofNat (48+k)]⟩) W:=by
 refine run_convert_bytes_back (l:=[UInt8.ofNat (48+k)]) _ _ _ 5 ⟨g,0,none⟩ 1 Tryd.underlying43 Tryd.underlying5 Tryd.underlying9 fun j hj=>?_
 have hj0:j=0:=by simp at hj;omega
 subst hj0
 have e:((UInt8.ofNat (48+k)).toNat:Int)=48+(k:Int):=by
  rw [UInt8.toNat_ofNat_of_lt' (by show 48+k < 256;omega)]
  omega
 show W.cell? ⟨g,0+0,none⟩=some (.int .u8 ((UInt8.ofNat (48+k)).toNat:Int))
 rw [e];exact hc
theorem conv_one (w:World) (k:Nat) (hk:k < 10) (t:TypeId):(convert 43 9 (.slice (some ⟨w.heap.size,0,none⟩) 1 1)).run Tryd.prog (w.alloc (.cells #[.int .u8 (48+(k:Int))] t))=.ok (.string ⟨#[UInt8.ofNat (48+k)]⟩) (w.alloc (.cells #[.int .u8 (48+(k:Int))] t)):=conv_at _ _ k hk (by simp [go_sem])
theorem dec_nat:∀ (n:Nat) (w:World),n <= 1000000000->
  Calls Tryd.prog 17 #[.int .i64 (n:Int)] w fun e w'=>e=.returned (tx (Lib.decDigits n))/\Below w.heap.size w w':=by
 intro n
 induction n using Nat.strongRecOn with
 | _ n ih=>
  intro w hn;have h0:¬ (n:Int) < 0:=by omega
  by_cases h10:n < 10
  ·have h10i:(n:Int) < 10:=by omega
   have hcv:=fun t=>conv_one w n h10 t
   rw [Lib.decDigits_one h10]
   go_enter Tryd.func17,Tryd.ntmps17
   go_wp2_with fail
   go_ret
   exact ⟨rfl,(Below.refl _ _).alloc (Nat.le_refl _) _⟩
  ·have h10i:¬ (n:Int) < 10:=by omega
   have hrec:=fun w'=>ih (n / 10) (by omega) w' (by omega)
   rw [decDigits_more h10];have hq:(n:Int).tdiv 10=((n / 10:Nat):Int):=by rw [Int.tdiv_eq_ediv_of_nonneg (by omega)];omega
   have hr:(n:Int).tmod 10=((n % 10:Nat):Int):=by rw [Int.tmod_eq_emod_of_nonneg (by omega)];omega
   have hcv:=fun w' t=>conv_one w' (n % 10) (by omega) t
   have hk10:n % 10 < 10:=by omega
   unfold tx at *;have hdl:=dec_len (n / 10);generalize Lib.decDigits (n / 10)=dq at *;have hqb0:n / 10 <= 1000000000:=by omega
   generalize n / 10=q at *;generalize n % 10=k at *
   go_enter Tryd.func17,Tryd.ntmps17
   go_wp2_with fail
   have hcw:∀ w2,Below (w.alloc (.cells #[.int .u8 (48+(k:Int))] 5)).drew.heap.size (w.alloc (.cells #[.int .u8 (48+(k:Int))] 5)).drew w2->(convert 43 9 (.slice (some ⟨w.heap.size,0,none⟩) 1 1)).run Tryd.prog w2=.ok (.string ⟨#[UInt8.ofNat (48+k)]⟩) w2:=fun w2 hb=>conv_at w2 w.heap.size k hk10 ((hb.cell (p:=⟨w.heap.size,0,none⟩) (by simp)).trans (by simp [go_sem]))
   have hcd:=hcw _ (Below.refl _ _);have hlim:¬ 9223372036854775807 < dq.length+1:=by omega
   have hwq:IntKind.i64.wrap (q:Int)=q:=by rw [IntKind.wrap_i64];omega
   have hwk:IntKind.i64.wrap (48+(k:Int))=48+k:=by rw [IntKind.wrap_i64];omega
   have hwu:IntKind.u8.wrap (48+(k:Int))=48+k:=by rw [IntKind.wrap_u8];omega
   go_region_law (first | (go_simp;go_at_call 17;refine (hrec _).mono ?_;rintro e w2 ⟨rfl,hb2⟩;have hcx:=hcw w2 hb2) | (go_simp;go_at_call 17;refine (hrec _).mono ?_;rintro e w2 ⟨rfl,hb2⟩))
   all_goals go_wp2_with fail
   all_goals go_ret
   all_goals refine ⟨?_,?_⟩
   all_goals first | (show Ending.returned (.string (ByteArray.mk dq.toArray++ByteArray.mk #[_]))=_;rw [show (#[48+UInt8.ofNat k]:Array UInt8)=[48+UInt8.ofNat k].toArray from rfl,ba_app];congr;exact (UInt8.ofNat_add 48 k).symm) | skip
   ·exact ((Below.refl _ _).drew.trans hb2).alloc ((Below.refl _ _).drew.trans hb2).size _
   ·have hA:Below w.heap.size w (w.alloc (.cells #[.int .u8 (48+(k:Int))] 5)).drew:=((Below.refl _ _).alloc (Nat.le_refl _) _).drew
    exact hA.trans (hb2.mono hA.size)
   ·have hA:Below w.heap.size w (w.alloc (.cells #[.int .u8 (48+(k:Int))] 5)).drew:=((Below.refl _ _).alloc (Nat.le_refl _) _).drew
    exact hA.trans (hb2.mono hA.size)
theorem dec_any (n:Int) (w:World) (h0:-1000000000 <= n) (h1:n <= 1000000000) :
  Calls Tryd.prog 17 #[.int .i64 n] w fun e w'=>e=.returned (tx (Lib.itoa n))/\Below w.heap.size w w':=by
 by_cases h:n < 0
 ·have hr:=fun w'=>dec_nat n.natAbs w' (by omega)
  have he:((n.natAbs:Nat):Int)=-n:=by omega
  have hw:IntKind.i64.wrap (-n)=-n:=by rw [IntKind.wrap_i64];omega
  have hl:=dec_len n.natAbs;rw [he] at hr;rw [show Lib.itoa n=45:: Lib.decDigits n.natAbs by unfold Lib.itoa;rw [if_pos h]]
  unfold tx at *;have hlim:¬ 9223372036854775807 < 1+(Lib.decDigits n.natAbs).length:=by omega
  generalize Lib.decDigits n.natAbs=dq at *
  go_enter Tryd.func17,Tryd.ntmps17
  go_wp2_with (go_at_call 17;refine (hr _).mono ?_;rintro e w2 ⟨rfl,hb2⟩)
  all_goals go_ret
  all_goals exact ⟨congrArg (fun x=>Ending.returned (.string x)) (ba_app [45] dq),hb2⟩
 ·obtain ⟨k,rfl⟩:=Int.eq_ofNat_of_zero_le (a:=n) (by omega)
  rw [show Lib.itoa (k:Int)=Lib.decDigits k by unfold Lib.itoa;rw [if_neg h];rfl]
  exact dec_nat k w (by omega)
end Go.Proofs.YtlepcjafgdlmgaaDoor
namespace Go.Proofs.YtlepcjafgdlmgaaDoor
open Terms Tm
set_option maxHeartbeats 6400000
set_option maxRecDepth 20000
def markL (k:Int):List UInt8:=kindW.getD k.toNat []
def opW (vars:List Vr) (o:Int × Int):List UInt8:=if o.1=1 then Lib.itoa o.2 else if o.1=2 then (vars.getD o.2.toNat vr0).name.data.toList else if o.1=13 then 80:: Lib.itoa o.2 else markL o.1
def termW (vars:List Vr) (l:List (Int × Int)):List UInt8:=l.flatMap fun o=>32:: opW vars o
def OpFit (vars:List Vr) (o:Int × Int):Prop:=(-1000000 <= o.2/\o.2 <= 1000000)/\(o.1=2->0 <= o.2/\o.2 < vars.length)
def NamesFit (vars:List Vr):Prop:=∀ i,i < vars.length->(vars.getD i vr0).name.size <= 1000000
theorem itoa_len {n:Int} (h0:-1000000 <= n) (h1:n <= 1000000):(Lib.itoa n).length <= 1000003:=by
 unfold Lib.itoa
 split
 ·have:=dec_len n.natAbs
  simp only [List.length_cons];omega
 ·have:=dec_len n.toNat
  omega
theorem markL_len (k:Int):(markL k).length <= 3:=by
 unfold markL;generalize k.toNat=j
 by_cases h:j < 19
 ·have hc:j=0\/j=1\/j=2\/j=3\/j=4\/j=5\/j=6\/j=7\/j=8\/j=9\/j=10\/j=11\/j=12\/j=13\/j=14\/j=15\/j=16\/j=17\/j=18:=by omega
  rcases hc with rfl | rfl | rfl | rfl | rfl | rfl | rfl | rfl | rfl | rfl | rfl | rfl | rfl | rfl | rfl | rfl | rfl | rfl | rfl <;> decide
 ·rw [List.getD_eq_getElem?_getD,List.getElem?_eq_none (by simp [kindW];omega)]
  simp
theorem opW_len {vars:List Vr} {o:Int × Int} (h:OpFit vars o) (hn:NamesFit vars):(opW vars o).length <= 1000004:=by
 unfold opW
 split
 ·have:=itoa_len h.1.1 h.1.2;omega
 ·split
  ·rename_i _ h2
   have h3:=h.2 h2;have:=hn o.2.toNat (by omega)
   have e:(vars.getD o.2.toNat vr0).name.data.toList.length=(vars.getD o.2.toNat vr0).name.size:=by rw [Array.length_toList];rfl
   omega
  ·split
   ·have:=itoa_len h.1.1 h.1.2
    simp only [List.length_cons];omega
   ·have:=markL_len o.1;omega
theorem termW_snoc {vars:List Vr} {l:List (Int × Int)} {k:Nat} (h:k < l.length):termW vars (l.take (k+1))=termW vars (l.take k)++32:: opW vars (l.getD k (0,0)):=by
 unfold termW;rw [List.take_succ_eq_append_getElem h,List.flatMap_append];simp [List.getD_eq_getElem?_getD,h]
theorem termW_len {vars:List Vr} {l:List (Int × Int)} (hf:∀ i,i < l.length->OpFit vars (l.getD i (0,0))) (hn:NamesFit vars):∀ k,k <= l.length->(termW vars (l.take k)).length <= k*1000005
 | 0,_=>by simp [termW]
 | k+1,hk=>by
  rw [termW_snoc (by omega),List.length_append]
  have h1:=termW_len hf hn k (by omega)
  have h2:=opW_len (hf k (by omega)) hn
  simp only [List.length_cons];omega
def nmL (v:Vr):List UInt8:=v.name.data.toList
def varL (v:Vr):List UInt8:=[118,97,114,32]++nmL v++[32]++Lib.itoa v.lo++[32]++Lib.itoa v.hi++[32]++Lib.itoa v.ini++[10]
def setL (vars:List Vr) (s:St):List UInt8:=[115,101,116,32]++nmL (vars.getD s.var.toNat vr0)++termW vars s.val++[10]
def ruleL0 (vars:List Vr) (r:Ru):List UInt8:=[114,117,108,101]++termW vars r.guard++[10]
def setsL (vars:List Vr) (l:List St):List UInt8:=l.flatMap (setL vars)
def ruleL (vars:List Vr) (r:Ru):List UInt8:=ruleL0 vars r++setsL vars r.sets
def propL (vars:List Vr) (p:List (Int × Int)):List UInt8:=[112,114,111,112]++termW vars p++[10]
def checkL (vars:List Vr) (l:List (Int × Int)):List UInt8:=[99,104,101,99,107]++termW vars l++[10]
def varsL (vars:List Vr):List UInt8:=vars.flatMap varL
def rulesL (vars:List Vr) (rs:List Ru):List UInt8:=rs.flatMap (ruleL vars)
def propsLn (vars:List Vr) (ps:List (List (Int × Int))):List UInt8:=ps.flatMap (propL vars)
def showL (m:Mo) (ps:List (List (Int × Int))) (l:List (Int × Int)):List UInt8:=varsL m.vars++rulesL m.vars m.rules++propsLn m.vars ps++checkL m.vars l
theorem flatMap_snoc {α:Type} (f:α->List UInt8) (d:α) {l:List α} {k:Nat} (h:k < l.length):(l.take (k+1)).flatMap f=(l.take k).flatMap f++f (l.getD k d):=by
 rw [List.take_succ_eq_append_getElem h,List.flatMap_append];simp [List.getD_eq_getElem?_getD,h]
theorem flatMap_len {α:Type} (f:α->List UInt8) (d:α) {l:List α} {B:Nat} (hf:∀ i,i < l.length->(f (l.getD i d)).length <= B):∀ k,k <= l.length->((l.take k).flatMap f).length <= k*B
 | 0,_=>by simp
 | k+1,hk=>by
  rw [flatMap_snoc f d (by omega),List.length_append]
  have h1:=flatMap_len f d hf k (by omega)
  have h2:=hf k (by omega)
  rw [Nat.succ_mul];omega
def TermFit (vars:List Vr) (l:List (Int × Int)):Prop:=l.length <= 60/\∀ i,i < l.length->OpFit vars (l.getD i (0,0))
structure TkFit (m:Mo) (ps:List (List (Int × Int))) (l:List (Int × Int)):Prop where
 nv:m.vars.length <= 6
 nr:m.rules.length <= 12
 np:ps.length <= 6
 names:NamesFit m.vars
 nums:∀ i,i < m.vars.length->(-1000000 <= (m.vars.getD i vr0).lo/\(m.vars.getD i vr0).lo <= 1000000)/\(-1000000 <= (m.vars.getD i vr0).hi/\(m.vars.getD i vr0).hi <= 1000000)/\(-1000000 <= (m.vars.getD i vr0).ini/\(m.vars.getD i vr0).ini <= 1000000)
 guard:∀ i,i < m.rules.length->TermFit m.vars (m.rules.getD i ru0).guard
 nsets:∀ i,i < m.rules.length->(m.rules.getD i ru0).sets.length <= 6
 setv:∀ i,i < m.rules.length->∀ j,j < (m.rules.getD i ru0).sets.length->(0 <= ((m.rules.getD i ru0).sets.getD j st0).var/\((m.rules.getD i ru0).sets.getD j st0).var < m.vars.length)/\TermFit m.vars ((m.rules.getD i ru0).sets.getD j st0).val
 props:∀ i,i < ps.length->TermFit m.vars (ps.getD i [])
 form:TermFit m.vars l
theorem TermFit.len {vars:List Vr} {l:List (Int × Int)} (h:TermFit vars l) (hn:NamesFit vars):(termW vars l).length <= 60000300:=by
 have:=termW_len h.2 hn l.length (Nat.le_refl _);rw [List.take_length] at this;have:=h.1;omega
end Go.Proofs.YtlepcjafgdlmgaaDoor
namespace Go.Proofs.YtlepcjafgdlmgaaDoor
open Go.ChangeShapes Go.WideShapes Go.ChangeAt Go.RowKit Go.Deep
open Terms Tm
set_option maxHeartbeats 6400000
set_option maxRecDepth 20000
theorem markOf_any (k:Int) (w:World):Calls Tryd.prog 45 #[.int .i64 k] w fun e w'=>e=.returned (tx (markL k))/\w'=w:=by
 by_cases h:(3 <= k/\k <= 12)\/(14 <= k/\k <= 18)
 ·have hc:k=3\/k=4\/k=5\/k=6\/k=7\/k=8\/k=9\/k=10\/k=11\/k=12\/k=14\/k=15\/k=16\/k=17\/k=18:=by omega
  clear h
  rcases hc with rfl | rfl | rfl | rfl | rfl | rfl | rfl | rfl | rfl | rfl | rfl | rfl | rfl | rfl | rfl
  all_goals
   go_enter Tryd.func45,Tryd.ntmps45
   go_wp2
   go_ret
   exact ⟨rfl,rfl⟩
 ·have he:markL k=[]:=by
   unfold markL
   by_cases h2:k.toNat < 19
   ·have hc:k.toNat=0\/k.toNat=1\/k.toNat=2\/k.toNat=13:=by omega
    rcases hc with e | e | e | e <;> rw [e] <;> rfl
   ·rw [List.getD_eq_getElem?_getD,List.getElem?_eq_none (by simp [kindW];omega)]
    rfl
  rw [he];have h3:¬ k=3:=by omega
  have h4:¬ k=4:=by omega
  have h5:¬ k=5:=by omega
  have h6:¬ k=6:=by omega
  have h7:¬ k=7:=by omega
  have h8:¬ k=8:=by omega
  have h9:¬ k=9:=by omega
  have h10:¬ k=10:=by omega
  have h11:¬ k=11:=by omega
  have h12:¬ k=12:=by omega
  have h14:¬ k=14:=by omega
  have h15:¬ k=15:=by omega
  have h16:¬ k=16:=by omega
  have h17:¬ k=17:=by omega
  have h18:¬ k=18:=by omega
  clear h he
  go_enter Tryd.func45,Tryd.ntmps45
  go_wp2
  go_ret
  exact ⟨rfl,rfl⟩
theorem opWord_any (va vr:Value) (m:Mo) (x y:Int) (w:World) (hV:ModelV w va vr m) (hf:OpFit m.vars (x,y)) :
  Calls Tryd.prog 31 #[.agg #[va,vr],.agg #[.int .i64 x,.int .i64 y]] w fun e w'=>e=.returned (tx (opW m.vars (x,y)))/\Below w.heap.size w w':=by
 obtain ⟨W2,hW2⟩:∃ W2,W2=(w.alloc (.cells #[va,vr] 25)).alloc (.cells #[.int .i64 x,.int .i64 y] 77):=⟨_,rfl⟩
 have hb2:Below w.heap.size w W2:=by rw [hW2];exact ((Below.refl _ _).alloc (Nat.le_refl _) _).alloc (by simp) _
 have hdec:=dec_any y W2 (by have:=hf.1.1;simp at this;omega) (by have:=hf.1.2;simp at this;omega)
 have hmk:=markOf_any x W2;have hl:=itoa_len hf.1.1 hf.1.2;have hvar:=hf.2;simp only at hl hvar
 obtain ⟨ao,ac,rfl⟩:=hV.1.shape;obtain ⟨ro,rc,rfl⟩:=hV.2.shape;have hlim:¬ 9223372036854775807 < 1+(Lib.itoa y).length:=by omega
 by_cases h1:x=1
 ·subst h1
  rw [show opW m.vars (1,y)=Lib.itoa y from rfl]
  unfold tx at *;generalize Lib.itoa y=dy at *;generalize m.vars.length=vn at *;generalize m.rules.length=rn at *;clear hV hmk hvar;rw [hW2] at hdec
  go_enter Tryd.func31,Tryd.ntmps31
  go_wp2_with (go_at_call 17;refine hdec.mono ?_;rintro e w2 ⟨rfl,hb3⟩)
  go_ret
  rw [<- hW2] at hb3;exact ⟨rfl,hb2.trans (hb3.mono hb2.size)⟩
 ·by_cases h2:x=2
  ·subst h2
   obtain ⟨hy0,hy1⟩:=hvar rfl;obtain ⟨j,rfl⟩:=Int.eq_ofNat_of_zero_le hy0;have hj:j < m.vars.length:=by omega
   obtain ⟨b,off,rfl,hblt,hat⟩:=hV.1.at (i:=j) hj;obtain ⟨c0,_⟩:=hat.below hb2 hblt;rw [show opW m.vars (2,(j:Int))=(m.vars.getD j vr0).name.data.toList from rfl]
   have hji:(j:Int) < (m.vars.length:Int):=by omega
   generalize (m.vars.getD j vr0).name=nm at *;generalize m.vars.length=vn at *;generalize m.rules.length=rn at *;clear hV hmk hvar hdec hat hf hl hlim;rw [hW2] at c0
   go_enter Tryd.func31,Tryd.ntmps31
   go_wp2_with fail
   go_ret
   rw [<- hW2];exact ⟨by unfold tx;simp,hb2⟩
  ·by_cases h13:x=13
   ·subst h13
    rw [show opW m.vars (13,y)=80:: Lib.itoa y from rfl]
    unfold tx at *;generalize Lib.itoa y=dy at *;generalize m.vars.length=vn at *;generalize m.rules.length=rn at *;clear hV hmk hvar;rw [hW2] at hdec
    go_enter Tryd.func31,Tryd.ntmps31
    go_wp2_with (go_at_call 17;refine hdec.mono ?_;rintro e w2 ⟨rfl,hb3⟩)
    all_goals go_ret
    all_goals rw [<- hW2] at hb3
    all_goals exact ⟨congrArg (fun x=>Ending.returned (.string x)) (ba_app [80] dy),hb2.trans (hb3.mono hb2.size)⟩
   ·rw [show opW m.vars (x,y)=markL x by unfold opW;rw [if_neg h1,if_neg h2,if_neg h13]]
    unfold tx at *;generalize markL x=mk at *;generalize m.vars.length=vn at *;generalize m.rules.length=rn at *;clear hV hdec hvar hlim hl;rw [hW2] at hmk
    go_enter Tryd.func31,Tryd.ntmps31
    go_wp2_with (go_at_call 45;refine hmk.mono ?_;rintro e w2 ⟨rfl,rfl⟩)
    go_ret
    rw [<- hW2];exact ⟨rfl,hb2⟩
def PadAt (w:World) (P:Nat) (va vr pv fv:Value):Prop:=P < w.heap.size/\w.cell? ⟨P,0,none⟩=some va/\w.cell? ⟨P,1,none⟩=some vr/\w.cell? ⟨P,2,none⟩=some pv/\w.cell? ⟨P,3,none⟩=some fv
theorem PadAt.below {w w':World} {P:Nat} {va vr pv fv:Value} (h:PadAt w P va vr pv fv) (hb:Below w.heap.size w w'):PadAt w' P va vr pv fv:=by
 obtain ⟨h0,h1,h2,h3,h4⟩:=h;exact ⟨Nat.lt_of_lt_of_le h0 hb.size,(hb.cell (p:=⟨P,0,none⟩) h0).trans h1,(hb.cell (p:=⟨P,1,none⟩) h0).trans h2,(hb.cell (p:=⟨P,2,none⟩) h0).trans h3,(hb.cell (p:=⟨P,3,none⟩) h0).trans h4⟩
theorem grow_below {w:World} {k:Nat} {os:Array Obj}:Below w.heap.size w (Go.Sort.grow (w.drewN k) os):=by
 refine ⟨rfl,rfl,rfl,?_,fun i hi=>?_⟩
 ·show w.heap.size <= (w.heap++os).size
  rw [Array.size_append];omega
 ·show (w.heap++os)[i]? = w.heap[i]?
  rw [Array.getElem?_append_left hi]
theorem sword_any (P:Nat) (va vr pv fv:Value) (m:Mo) (x y:Int) (w:World) (hB:0 < w.heap.size) (hT:TabAt w) (hP:PadAt w P va vr pv fv) (hV:ModelV w va vr m) (hf:OpFit m.vars (x,y)) (hk0:0 <= x) (hk1:x <= 18) :
  Calls Tryd.prog 37 #[.pointer (some ⟨P,0,none⟩),.agg #[.int .i64 x,.int .i64 y]] w fun e w'=>e=.returned (tx (opW m.vars (x,y)))/\Below w.heap.size w w':=by
 obtain ⟨W2,hW2⟩:∃ W2,W2=w.alloc (.cells #[.int .i64 x,.int .i64 y] 77):=⟨_,rfl⟩
 have hb2:Below w.heap.size w W2:=by rw [hW2];exact (Below.refl _ _).alloc (Nat.le_refl _) _
 have hT2:=hT.below hb2 hB;have hP2:=hP.below hb2;have hdec:Calls Tryd.prog 25 #[.int .i64 y] W2 fun e w'=>e=.returned (.string ⟨(Lib.itoa y).toArray⟩)/\Below W2.heap.size W2 w':=(sh_strconv_Itoa y (by have:=hf.1.1;simp at this;omega) (by have:=hf.1.2;simp at this;omega) W2 hT2.2.2).mono fun e w' ⟨h1,k,os,h2⟩=>⟨h1,by rw [h2];exact grow_below⟩
 have hl:=itoa_len hf.1.1 hf.1.2;have hvar:=hf.2;simp only at hl hvar
 obtain ⟨ao,ac,rfl⟩:=hV.1.shape;have hlim:¬ 9223372036854775807 < 1+(Lib.itoa y).length:=by omega
 by_cases h1:x=1
 ·subst h1
  rw [show opW m.vars (1,y)=Lib.itoa y from rfl]
  unfold tx at *;generalize Lib.itoa y=dy at *;clear hV hvar;rw [hW2] at hdec
  go_enter Tryd.func37,Tryd.ntmps37
  go_wp2_with (go_at_call 25;refine hdec.mono ?_;rintro e w2 ⟨rfl,hb3⟩)
  go_ret
  rw [<- hW2] at hb3;exact ⟨rfl,hb2.trans (hb3.mono hb2.size)⟩
 ·by_cases h2:x=2
  ·subst h2
   obtain ⟨hy0,hy1⟩:=hvar rfl;obtain ⟨j,rfl⟩:=Int.eq_ofNat_of_zero_le hy0;have hj:j < m.vars.length:=by omega
   obtain ⟨b,off,rfl,hblt,hat⟩:=hV.1.at (i:=j) hj;obtain ⟨c0,_⟩:=hat.below hb2 hblt;rw [show opW m.vars (2,(j:Int))=(m.vars.getD j vr0).name.data.toList from rfl]
   have hji:(j:Int) < (m.vars.length:Int):=by omega
   generalize (m.vars.getD j vr0).name=nm at *;generalize m.vars.length=vn at *;obtain ⟨_,p0,_⟩:=hP2;clear hV hvar hdec hat hf hl hlim;rw [hW2] at c0 p0
   go_enter Tryd.func37,Tryd.ntmps37
   go_wp2_with fail
   go_quiet (fail)
   go_wp2_with fail
   go_ret
   rw [<- hW2];exact ⟨by unfold tx;simp,below_drewN hb2 _⟩
  ·by_cases h13:x=13
   ·subst h13
    rw [show opW m.vars (13,y)=80:: Lib.itoa y from rfl]
    unfold tx at *;generalize Lib.itoa y=dy at *;clear hV hvar;rw [hW2] at hdec
    go_enter Tryd.func37,Tryd.ntmps37
    go_wp2_with (go_at_call 25;refine hdec.mono ?_;rintro e w2 ⟨rfl,hb3⟩)
    all_goals go_ret
    all_goals rw [<- hW2] at hb3
    all_goals exact ⟨congrArg (fun x=>Ending.returned (.string x)) (ba_app [80] dy),hb2.trans (hb3.mono hb2.size)⟩
   ·obtain ⟨j,rfl⟩:=Int.eq_ofNat_of_zero_le hk0
    rw [show opW m.vars ((j:Int),y)=kindW.getD j [] by unfold opW;rw [if_neg h1,if_neg h2,if_neg h13];rfl]
    have c0:=hT2.2.1 j (by omega)
    unfold tx at *;have hji:(j:Int) < 19:=by omega
    generalize kindW.getD j []=mk at *;clear hV hdec hvar hlim hl hT hT2 hP2;rw [hW2] at c0
    go_enter Tryd.func37,Tryd.ntmps37
    go_wp2_with fail
    go_ret
    rw [<- hW2];exact ⟨rfl,hb2⟩
theorem infoStr:(Tryd.prog.info? 9).map (fun i=>(i.zero,i.size,i.bytes))=some (some (.string ⟨#[]⟩),1,16):=by kernel_rfl
def svals (l:List ByteArray):List Value:=l.map Value.string
def wordsB (vars:List Vr) (l:List (Int × Int)):List ByteArray:=l.map fun o=>⟨(opW vars o).toArray⟩
theorem wordsB_snoc {vars:List Vr} {l:List (Int × Int)} {k:Nat} (h:k < l.length):wordsB vars (l.take (k+1))=wordsB vars (l.take k)++[⟨(opW vars (l.getD k (0,0))).toArray⟩]:=by
 unfold wordsB;rw [List.take_succ_eq_append_getElem h,List.map_append];simp [List.getD_eq_getElem?_getD,h]
def KindsFit (l:List (Int × Int)):Prop:=∀ i,i < l.length->0 <= (l.getD i (0,0)).1/\(l.getD i (0,0)).1 <= 18
theorem swords_any (P ab aoff acap:Nat) (va vr pv fv tv:Value) (m:Mo) (l:List (Int × Int)) (hd:List ByteArray) (w:World) (hB:0 < w.heap.size) (hT:TabAt w) (hP:PadAt w P va vr pv fv) (hV:ModelV w va vr m) (hL:OpsV w tv l) (hf:TermFit m.vars l) (hk:KindsFit l) (ha:hd.length <= 2)
  (hA:∀ j,j < hd.length->w.cell? ⟨ab,aoff+j,none⟩=some (.string (hd.getD j ByteArray.empty))) :
  Calls Tryd.prog 26 #[.pointer (some ⟨P,0,none⟩),tv,.slice (some ⟨ab,aoff,none⟩) hd.length acap] w fun e w'=>∃ v,e=.returned v/\Below w.heap.size w w'/\Hid (w'.ownsRow w.heap.size 9 1 v (hd++wordsB m.vars l).length (svals (hd++wordsB m.vars l))):=by
 have hcl:=sh_slices_Clone_string ab aoff hd.length acap hd w (Nat.le_refl _) (by omega) hA
 rw [List.take_length] at hcl
 have HWd:Hid (∀ (w1:World) (k:Nat),Below w.heap.size w w1->k < l.length->Calls Tryd.prog 37 #[.pointer (some ⟨P,0,none⟩),.agg #[.int .i64 (l.getD k (0,0)).1,.int .i64 (l.getD k (0,0)).2]] w1 fun e w'=>e=.returned (tx (opW m.vars (l.getD k (0,0))))/\Below w1.heap.size w1 w'):=fun w1 k h hkl=>sword_any P va vr pv fv m _ _ w1 (Nat.lt_of_lt_of_le hB h.size) (hT.below h hB) (hP.below h) (hV.below h) (hf.2 k hkl) (hk k hkl).1 (hk k hkl).2
 have HLc:Hid (∀ (w1:World) (k:Nat),Below w.heap.size w w1->k < l.length->∃ b off cap,tv=.slice (some ⟨b,off,none⟩) l.length cap/\b < w.heap.size/\w1.cell? ⟨b,off+k*2,none⟩=some (.int .i64 (l.getD k (0,0)).1)/\w1.cell? ⟨b,off+k*2+1,none⟩=some (.int .i64 (l.getD k (0,0)).2)):=fun w1 k h hkl=>by
  obtain ⟨fo,fc,rfl,hx⟩:=id hL;obtain ⟨b,off,rfl,hlt,hat⟩:=hx.2 (by rintro rfl;simp at hkl)
  obtain ⟨c0,c1⟩:=hat k hkl;exact ⟨b,off,fc,rfl,hlt,(h.cell (p:=⟨b,_,none⟩) hlt).trans c0,(h.cell (p:=⟨b,_,none⟩) hlt).trans c1⟩
 obtain ⟨FW,hFW⟩:∃ FW:Nat->List ByteArray,FW=fun k=>hd++wordsB m.vars (l.take k):=⟨_,rfl⟩
 have HSn:Hid (∀ k,k < l.length->FW (k+1)=FW k++[⟨(opW m.vars (l.getD k (0,0))).toArray⟩]):=fun k hkl=>by
  rw [hFW]
  show hd++wordsB m.vars (l.take (k+1))=_
  rw [wordsB_snoc hkl,<- List.append_assoc]
 have HLn:Hid (∀ k,k <= l.length->(FW k).length=hd.length+k):=fun k hkl=>by
  rw [hFW]
  show (hd++wordsB m.vars (l.take k)).length=_
  rw [List.length_append];simp [wordsB]
  omega
 have HEn:Hid (FW l.length=hd++wordsB m.vars l):=by show _=_;rw [hFW];show hd++wordsB m.vars (l.take l.length)=_;rw [List.take_length]
 have H00:Hid (FW 0=hd):=by show _=_;rw [hFW];simp [wordsB]
 have h60:=hf.1;obtain ⟨fo,fc,rfl,_⟩:=id hL;obtain ⟨n,hn2⟩:∃ n,n=l.length:=⟨_,rfl⟩
 rw [<- hn2] at HWd HLc HSn HLn HEn h60 ⊢;generalize hd++wordsB m.vars l=res at *;obtain ⟨hn,hhn⟩:∃ hn,hn=hd.length:=⟨_,rfl⟩
 have HHn:Hid (hn=hd.length):=hhn;rw [<- hhn] at ha hcl HLn ⊢;obtain ⟨i0,hi,hz0,hz1,hz2⟩:=info_parts infoStr;clear hV hL hf hn2 hk hT hP hA hFW hhn;unfold tx at *
 go_enter Tryd.func26,Tryd.ntmps26
 go_wp2_with (go_at_call 36;refine hcl.mono ?_;rintro e w1 ⟨v1,rfl,ho1,_,hb1⟩)
 have HO1:Hid (w1.ownsRow w.heap.size 9 1 v1 (FW 0).length (svals (FW 0))):=by show World.ownsRow _ _ _ _ _ _ _;rw [H00.out,<- HHn.out];exact ho1
 have HB1:Hid (Below w.heap.size w w1):=hb1;clear hcl ho1 hb1
 go_loopw [7,14] (fun v i wr=>∃ k:Nat,k <= n/\i=.int .i64 (k:Int)/\Hid (wr.ownsRow w.heap.size 9 1 v (FW k).length (svals (FW k)))/\Hid (Below w.heap.size w wr)) (fun _ i _=>n - (intOf i).toNat)
 case atStart=>exact ⟨0,Nat.zero_le _,rfl,HO1,HB1⟩
 case round=>
  obtain ⟨k,hk,rfl,HO,HBr⟩:=hrel;have hbr:=HBr.out;have hown:=HO.out;rw [HLn.out k hk] at hown;have hnb:=hown.lt;obtain ⟨oo,oc,rfl⟩:=owns_slice hown
  by_cases hlt:k < n
  ·obtain ⟨b,off,cap,hfv,hbl,c0,c1⟩:=HLc.out wr k hbr hlt
   injection hfv with e1 _ e3
   subst e1 e3;have hA1:∀ o,Below wr.heap.size wr (wr.alloc o):=fun o=>(Below.refl _ _).alloc (Nat.le_refl _) _
   have hwd:=fun o=>HWd.out (wr.alloc o) k (hbr.trans ((hA1 o).mono hbr.size)) hlt
   have HSk:Hid (FW (k+1)=FW k++[⟨(opW m.vars (l.getD k (0,0))).toArray⟩]):=HSn.out k hlt;generalize opW m.vars (l.getD k (0,0))=ow at *;generalize l.getD k (0,0)=xy at *;obtain ⟨x,y⟩:=xy;simp only at hwd c0 c1
   have hki:(k:Int) < (n:Int):=by omega
   obtain ⟨L,hL⟩:∃ L,L=hn+k:=⟨_,rfl⟩
   have HL:Hid ((FW k).length=L):=by show _=_;rw [hL];exact HLn.out k hk
   have h63:L+1 <= maxLen:=by unfold maxLen;omega
   have hkb:(L+1)*16 <= 140737488355328:=by omega
   rw [<- hL] at hown hnb ⊢;have HOl:Hid (∀ w2 (hb:Below wr.heap.size wr w2) o,(w2.alloc o).ownsRow w.heap.size 9 1 (.slice oo L oc) L (svals (FW k))):=fun w2 hb o=>(owns_later hown hb (Nat.le_refl _)).alloc o
   have HBl:Hid (∀ w2 (hb:Below wr.heap.size wr w2),Below w.heap.size w w2):=fun w2 hb=>hbr.trans (hb.mono hbr.size)
   clear hL HO hown
   go_wp2_with (first | (go_at_call 37;refine (hwd _).mono ?_;rintro e w2 ⟨rfl,hb2⟩;have hb12:=(hA1 _).trans (hb2.mono (hA1 _).size);have hown4:=HOl.out w2 hb12;have hbw2:=HBl.out w2 hb12) | (at_builtin;refine wpList_append_own _ rfl (.tmp 18) (.tmp 22) 49 rfl w.heap.size 9 i0 (.string ⟨#[]⟩) 1 16 Tryd.underlying49 hi hz0 hz1 hz2 rfl (by decide) (.slice oo L oc) L _ rfl (hown4 _) ⟨w2.heap.size,0,none⟩ 1 1 [.string ⟨ow.toArray⟩] rfl rfl (cell_one_new _ _ _) (by intro u hu;simp at hu;subst hu;rfl) h63 hkb (by have:=hbw2.size;simp;omega) ?_;intro v' w4 hown' hgrow _))
   have hb4:Below w.heap.size w w4:=(hbw2.alloc hbw2.size _).grown hgrow (by have:=hbw2.size;simp;omega) (fun z hz=>(hnb z hz).1)
   have ho4:w4.ownsRow w.heap.size 9 1 v' (FW (k+1)).length (svals (FW (k+1))):=by
    rw [HSk.out,List.length_append,HL.out,show svals (FW k++[⟨ow.toArray⟩])=svals (FW k)++[.string ⟨ow.toArray⟩] by simp [svals]]
    exact hown'
   exact ⟨⟨k+1,by omega,by first | rfl | simp,ho4,hb4⟩,by simp [intOf];omega⟩
  ·obtain rfl:n=k:=by omega
   rw [HEn.out] at HO;clear hown
   go_wp2_with fail
   go_ret
   exact ⟨_,rfl,hbr,HO⟩
end Go.Proofs.YtlepcjafgdlmgaaDoor
namespace Go.Proofs.YtlepcjafgdlmgaaDoor
open Terms Tm
set_option maxHeartbeats 6400000
set_option maxRecDepth 20000
theorem mcode_rulesS {m:Mo} (h:mcode m=0):m.rules.length <= 12/\∀ j,j < m.rules.length->rcode m.vars.length (m.rules.getD j ru0)=0:=by
 unfold mcode at h
 split at h
 ·split at h
  ·omega
  ·exact ⟨by omega,firstOf_zero h⟩
 ·rename_i h0;exact absurd h h0
theorem opFit_of {vars:List Vr} {o:Int × Int} (hn:vars.length <= 6) (h:opErr (vars.length:Int) o=0):OpFit vars o:=by
 obtain ⟨k,v⟩:=o;unfold opErr at h;unfold OpFit;simp only at h ⊢
 split at h
 ·omega
 ·split at h
  ·split at h <;> (refine ⟨⟨by omega,by omega⟩,fun e=>by omega⟩)
  ·split at h
   ·split at h <;> (refine ⟨⟨by omega,by omega⟩,fun e=>by omega⟩)
   ·split at h <;> (refine ⟨⟨by omega,by omega⟩,fun e=>by omega⟩)
theorem getD_memO {l:List (Int × Int)} {k:Nat} (h:k < l.length):l.getD k (0,0)∈l:=by
 rw [List.getD_eq_getElem?_getD,List.getElem?_eq_getElem h]
 exact List.getElem_mem h
theorem termFit_of {vars:List Vr} {l:List (Int × Int)} {tr:Bool} (h:kcode (vars.length:Int) l tr=0):TermFit vars l:=by
 have hx:xcode (vars.length:Int) l (treeOf l)=0:=by
  unfold kcode at h
  split at h
  ·assumption
  ·rename_i h0;exact absurd h h0
 by_cases hr:(vars.length:Int) < 0\/6 < (vars.length:Int)
 ·rw [xcode_range hr] at hx;omega
 ·by_cases hz:endsCode (l.map Prod.fst)=0
  ·obtain ⟨h60,_⟩:=code_zero hz
   rw [List.length_map] at h60
   by_cases hf:firstErr (vars.length:Int) l=0
   ·exact ⟨h60,fun i hi=>opFit_of (by omega) (firstErr_all hf _ (getD_memO hi))⟩
   ·rw [xcode_op hr hz hf] at hx;exact absurd hx hf
  ·rw [xcode_ends hr hz] at hx;exact absurd hx hz
theorem lopErr_all {props:Int}:∀ {l:List (Int × Int)},lfirst props l=0->∀ o∈l,lopErr props o=0
 | [],_,o,ho=>by cases ho
 | x:: r,h,o,ho=>by
  unfold lfirst at h
  split at h
  ·rename_i h0;exact absurd h h0
  ·rename_i h0
   rcases List.mem_cons.1 ho with rfl | h2
   ·exact Classical.not_not.1 h0
   ·exact lopErr_all h o h2
theorem formFit_of {vars:List Vr} {props:Int} {l:List (Int × Int)} (h:lcode props l=0):TermFit vars l:=by
 obtain ⟨h0,h6,hz,hf,_⟩:=lcode_zero h;obtain ⟨h60,_⟩:=code_zero hz;rw [List.length_map] at h60;refine ⟨h60,fun i hi=>?_⟩
 have he:=lopErr_all hf _ (getD_memO hi);generalize l.getD i (0,0)=o at he;obtain ⟨k,v⟩:=o;unfold lopErr at he;unfold OpFit;simp only at he ⊢
 by_cases h8:k < 8
 ·rw [if_pos h8] at he;omega
 ·rw [if_neg h8] at he
  by_cases e:k=13
  ·rw [if_pos e] at he
   split at he
   ·omega
   ·exact ⟨⟨by omega,by omega⟩,fun e2=>by omega⟩
  ·rw [if_neg e] at he
   split at he
   ·omega
   ·exact ⟨⟨by omega,by omega⟩,fun e2=>by omega⟩
theorem tk_fit {m:Mo} {ps:List (List (Int × Int))} {l:List (Int × Int)} (h:tkcode m ps l=0):TkFit m ps l:=by
 have hp:pcode m ps=0/\lcode ps.length l=0:=by
  unfold tkcode at h
  split at h
  ·rename_i h1;exact absurd h h1
  ·rename_i h1;exact ⟨Classical.not_not.1 h1,h⟩
 have hm:mcode m=0/\ps.length <= 6/\∀ i,i < ps.length->kcode m.vars.length (ps.getD i []) true=0:=by
  have h2:=hp.1;unfold pcode at h2
  split at h2
  ·rename_i h0
   split at h2
   ·omega
   ·exact ⟨h0,by omega,firstOf_zero h2⟩
  ·rename_i h0;exact absurd h2 h0
 have hv:=mcode_vars hm.1;have hr:=mcode_rulesS hm.1
 have hrc:∀ i,i < m.rules.length->(m.rules.getD i ru0).sets.length <= 6/\kcode m.vars.length (m.rules.getD i ru0).guard true=0/\∀ j,j < (m.rules.getD i ru0).sets.length->sAt m.vars.length (m.rules.getD i ru0).sets j=0:=fun i hi=>by
  have h2:=hr.2 i hi;unfold rcode at h2
  split at h2
  ·omega
  ·split at h2
   ·rename_i h3 h4
    exact ⟨by omega,h4,firstOf_zero h2⟩
   ·rename_i h4;exact absurd h2 h4
 refine ⟨hv.1,hr.1,hm.2.1,fun i hi=>?_,fun i hi=>?_,fun i hi=>termFit_of (hrc i hi).2.1,fun i hi=>(hrc i hi).1,fun i hi j hj=>?_,fun i hi=>termFit_of (hm.2.2 i hi),formFit_of hp.2⟩
 ·have h2:=(vAt_zero (hv.2 i hi)).1
  unfold nameOk at h2;rw [Bool.and_eq_true] at h2;have h3:=h2.1;unfold nmHead at h3;rw [Bool.and_eq_true,decide_eq_true_eq] at h3;omega
 ·have h2:=vbound_span (vAt_zero (hv.2 i hi)).2.2.1
  omega
 ·have h2:=(hrc i hi).2.2 j hj
  unfold sAt at h2
  split at h2
  ·omega
  ·rename_i h3
   split at h2
   ·omega
   ·exact ⟨by omega,termFit_of h2⟩
theorem wf_kinds:∀ {t:Tm},t.Wf->∀ o∈t.ops,okK o.1=true
 | .leaf k v,h,o,ho=>by
  simp only [Tm.ops,List.mem_cons,List.not_mem_nil,or_false] at ho;subst ho;exact h.1
 | .un k v a,h,o,ho=>by
  simp only [Tm.ops,List.mem_cons] at ho
  rcases ho with rfl | ho
  ·exact h.1
  ·exact wf_kinds h.2.2 o ho
 | .bi k v a b,h,o,ho=>by
  simp only [Tm.ops,List.mem_cons,List.mem_append] at ho
  rcases ho with rfl | ho | ho
  ·exact h.1
  ·exact wf_kinds h.2.2.1 o ho
  ·exact wf_kinds h.2.2.2 o ho
theorem kindsFit_of {l:List (Int × Int)} (h:endsCode (l.map Prod.fst)=0):KindsFit l:=fun i hi=>by
 obtain ⟨t,hwf,hto⟩:=tree_of (code_zero h).2;have h1:=wf_kinds hwf (l.getD i (0,0)) (by rw [hto];exact getD_memO hi)
 simp only [okK,decide_eq_true_eq] at h1;omega
theorem kinds_k {vars:List Vr} {l:List (Int × Int)} {tr:Bool} (h:kcode (vars.length:Int) l tr=0):KindsFit l:=by
 have hx:xcode (vars.length:Int) l (treeOf l)=0:=by
  unfold kcode at h
  split at h
  ·assumption
  ·rename_i h0;exact absurd h h0
 by_cases hr:(vars.length:Int) < 0\/6 < (vars.length:Int)
 ·rw [xcode_range hr] at hx;omega
 ·by_cases hz:endsCode (l.map Prod.fst)=0
  ·exact kindsFit_of hz
  ·rw [xcode_ends hr hz] at hx;exact absurd hx hz
theorem kinds_l {props:Int} {l:List (Int × Int)} (h:lcode props l=0):KindsFit l:=kindsFit_of (lcode_zero h).2.2.1
def bVar:ByteArray:=⟨#[118,97,114]⟩
def bRule:ByteArray:=⟨#[114,117,108,101]⟩
def bSet:ByteArray:=⟨#[115,101,116]⟩
def bProp:ByteArray:=⟨#[112,114,111,112]⟩
def bCheck:ByteArray:=⟨#[99,104,101,99,107]⟩
def itB (n:Int):ByteArray:=⟨(Lib.itoa n).toArray⟩
def varWd (v:Vr):List ByteArray:=[bVar,v.name,itB v.lo,itB v.hi,itB v.ini]
def ruleWd (vars:List Vr) (r:Ru):List ByteArray:=[bRule]++wordsB vars r.guard
def setWd (vars:List Vr) (s:St):List ByteArray:=[bSet,(vars.getD s.var.toNat vr0).name]++wordsB vars s.val
def rulesWd (vars:List Vr) (r:Ru):List (List ByteArray):=ruleWd vars r:: r.sets.map (setWd vars)
def propWd (vars:List Vr) (p:List (Int × Int)):List ByteArray:=[bProp]++wordsB vars p
def checkWd (vars:List Vr) (l:List (Int × Int)):List ByteArray:=[bCheck]++wordsB vars l
def linesW (m:Mo) (ps:List (List (Int × Int))) (l:List (Int × Int)):List (List ByteArray):=m.vars.map varWd++m.rules.flatMap (rulesWd m.vars)++ps.map (propWd m.vars)++[checkWd m.vars l]
def lineL (x:List ByteArray):List UInt8:=Lib.join (x.map (·.data.toList)) [32]++[10]
theorem tail_words (vars:List Vr) (l:List (Int × Int)):Lib.joinTail [32] ((wordsB vars l).map (·.data.toList))=termW vars l:=by
 unfold Lib.joinTail wordsB termW;rw [List.map_map,List.map_map,List.flatMap_def]
 congr 1
theorem line_words (hd:ByteArray) (vars:List Vr) (l:List (Int × Int)):lineL ([hd]++wordsB vars l)=hd.data.toList++termW vars l++[10]:=by
 unfold lineL
 show Lib.join (hd.data.toList:: (wordsB vars l).map (·.data.toList)) [32]++[10]=_
 rw [Lib.join_cons,tail_words]
theorem line_set (vars:List Vr) (s:St):lineL (setWd vars s)=setL vars s:=by
 unfold lineL setWd setL
 show Lib.join (bSet.data.toList:: (vars.getD s.var.toNat vr0).name.data.toList:: (wordsB vars s.val).map (·.data.toList)) [32]++[10]=_
 rw [Lib.join_cons];have h:=tail_words vars s.val;unfold Lib.joinTail at h ⊢;rw [List.map_cons,List.flatten_cons,h];simp [bSet,nmL]
theorem line_var (v:Vr):lineL (varWd v)=varL v:=by
 unfold lineL varWd varL
 show Lib.join [bVar.data.toList,v.name.data.toList,Lib.itoa v.lo,Lib.itoa v.hi,Lib.itoa v.ini] [32]++[10]=_
 rw [Lib.join_cons];simp [Lib.joinTail,bVar,nmL]
theorem line_rules (vars:List Vr) (r:Ru):(rulesWd vars r).flatMap lineL=ruleL vars r:=by
 unfold rulesWd ruleL setsL ruleL0;rw [List.flatMap_cons,List.flatMap_map]
 congr 1
 ·exact line_words bRule vars r.guard
 ·exact congrArg (fun f=>List.flatMap f r.sets) (funext fun s=>line_set vars s)
theorem show_lines (m:Mo) (ps:List (List (Int × Int))) (l:List (Int × Int)):(linesW m ps l).flatMap lineL=showL m ps l:=by
 unfold linesW showL varsL rulesL propsLn;rw [List.flatMap_append,List.flatMap_append,List.flatMap_append,List.flatMap_map,List.flatMap_map,List.flatMap_assoc]
 congr 1
 ·congr 1
  ·congr 1
   ·exact congrArg (fun f=>List.flatMap f m.vars) (funext fun v=>line_var v)
   ·exact congrArg (fun f=>List.flatMap f m.rules) (funext fun r=>line_rules m.vars r)
  ·exact congrArg (fun f=>List.flatMap f ps) (funext fun p=>line_words bProp m.vars p)
 ·simp only [List.flatMap_cons,List.flatMap_nil,List.append_nil]
  exact line_words bCheck m.vars l
theorem split_at {α:Type} (d:α) {l:List α} {k:Nat} (h:k < l.length):l=l.take k++l.getD k d:: l.drop (k+1):=by
 rw [List.getD_eq_getElem?_getD,List.getElem?_eq_getElem h,Option.getD_some,List.getElem_cons_drop,List.take_append_drop]
def posR (m:Mo) (k:Nat):Nat:=(m.vars.map varWd++(m.rules.take k).flatMap (rulesWd m.vars)).length
section
variable {m : Mo} {ps : List (List (Int × Int))} {l : List (Int × Int)} {k j : Nat}
theorem posR_zero:posR m 0=m.vars.length:=by simp [posR]
theorem posR_succ (h:k < m.rules.length):posR m (k+1)=posR m k+1+(m.rules.getD k ru0).sets.length:=by
 unfold posR;rw [List.take_succ_eq_append_getElem h,List.flatMap_append,List.getD_eq_getElem?_getD,List.getElem?_eq_getElem h,Option.getD_some]
 simp [rulesWd]
 omega
theorem lines_var (h:k < m.vars.length):∃ pre post,pre.length=k/\linesW m ps l=pre++varWd (m.vars.getD k vr0):: post:=by
 refine ⟨(m.vars.take k).map varWd,(m.vars.drop (k+1)).map varWd++(m.rules.flatMap (rulesWd m.vars)++(ps.map (propWd m.vars)++[checkWd m.vars l])),by rw [List.length_map,List.length_take];omega,?_⟩
 unfold linesW;have e:=congrArg (List.map varWd) (split_at vr0 h);rw [List.map_append,List.map_cons] at e;rw [e];simp only [List.append_assoc,List.cons_append]
theorem lines_rules (h:k < m.rules.length):∃ post,linesW m ps l=(m.vars.map varWd++(m.rules.take k).flatMap (rulesWd m.vars))++(rulesWd m.vars (m.rules.getD k ru0)++post):=by
 refine ⟨(m.rules.drop (k+1)).flatMap (rulesWd m.vars)++(ps.map (propWd m.vars)++[checkWd m.vars l]),?_⟩
 unfold linesW;have e:=congrArg (List.flatMap (rulesWd m.vars)) (split_at ru0 h);rw [List.flatMap_append,List.flatMap_cons] at e;rw [e];simp only [List.append_assoc]
theorem lines_rule (h:k < m.rules.length):∃ pre post,pre.length=posR m k/\linesW m ps l=pre++ruleWd m.vars (m.rules.getD k ru0):: post:=by
 obtain ⟨post,e⟩:=lines_rules (ps:=ps) (l:=l) h;exact ⟨_,_,rfl,e.trans (by unfold rulesWd;rw [List.cons_append])⟩
theorem lines_set (h:k < m.rules.length) (hj:j < (m.rules.getD k ru0).sets.length):∃ pre post,pre.length=posR m k+1+j/\linesW m ps l=pre++setWd m.vars ((m.rules.getD k ru0).sets.getD j st0):: post:=by
 obtain ⟨post,e⟩:=lines_rules (ps:=ps) (l:=l) h;generalize m.rules.getD k ru0=r at *;have e2:=congrArg (List.map (setWd m.vars)) (split_at st0 hj);rw [List.map_append,List.map_cons] at e2
 refine ⟨(m.vars.map varWd++(m.rules.take k).flatMap (rulesWd m.vars))++ruleWd m.vars r:: (r.sets.take j).map (setWd m.vars),(r.sets.drop (j+1)).map (setWd m.vars)++post,?_,e.trans ?_⟩
 ·rw [List.length_append,List.length_cons,List.length_map,List.length_take]
  show posR m k+_=_
  omega
 ·unfold rulesWd
  rw [e2];simp only [List.append_assoc,List.cons_append]
theorem lines_prop (h:k < ps.length):∃ pre post,pre.length=posR m m.rules.length+k/\linesW m ps l=pre++propWd m.vars (ps.getD k []):: post:=by
 have e2:=congrArg (List.map (propWd m.vars)) (split_at [] h);rw [List.map_append,List.map_cons] at e2;refine ⟨m.vars.map varWd++m.rules.flatMap (rulesWd m.vars)++(ps.take k).map (propWd m.vars),(ps.drop (k+1)).map (propWd m.vars)++[checkWd m.vars l],?_,?_⟩
 ·unfold posR
  rw [List.take_length,List.length_append];refine congrArg _ ?_
  rw [List.length_map,List.length_take];omega
 ·unfold linesW
  rw [e2];simp only [List.append_assoc,List.cons_append]
theorem lines_check:∃ pre post,pre.length=posR m m.rules.length+ps.length/\linesW m ps l=pre++checkWd m.vars l:: post:=
 ⟨m.vars.map varWd++m.rules.flatMap (rulesWd m.vars)++ps.map (propWd m.vars),[],by unfold posR;rw [List.take_length,List.length_append];refine congrArg _ ?_;rw [List.length_map],by unfold linesW;rfl⟩
theorem lines_len:(linesW m ps l).length=posR m m.rules.length+ps.length+1:=by
 unfold linesW posR;rw [List.take_length];simp only [List.length_append,List.length_cons,List.length_nil,List.length_map]
end
def LineAt (w:World) (v:Value) (x:List ByteArray):Prop:=∃ b c,v=.slice (some ⟨b,0,none⟩) x.length c/\x.length <= c/\b < w.heap.size/\∀ (j:Nat) y,x[j]? = some y->w.cell? ⟨b,j,none⟩=some (.string y)
open Go.RowKit in
theorem LineAt.below {w w':World} {v:Value} {x:List ByteArray} (h:LineAt w v x) (hb:Below w.heap.size w w'):LineAt w' v x:=by
 obtain ⟨b,c,h1,h2,h3,h4⟩:=h;exact ⟨b,c,h1,h2,Nat.lt_of_lt_of_le h3 hb.size,fun j y hj=>(hb.cell (p:=⟨b,j,none⟩) h3).trans (h4 j y hj)⟩
theorem LineAt.own {w:World} {base:Nat} {v:Value} {x:List ByteArray} (h:w.ownsRow base 9 1 v x.length (svals x)) (hx:x≠[]):LineAt w v x:=by
 rcases h.2 with ⟨_,h0⟩ | ⟨g,cap,cur,rfl,hb,hg,hnc,hcm,hcs,htake⟩
 ·exact absurd (List.eq_nil_of_length_eq_zero h0) hx
 ·refine ⟨g,cap,rfl,hnc,(Array.getElem?_eq_some_iff.1 hg).1,fun j y hj=>?_⟩
  have hlt:j < x.length:=(List.getElem?_eq_some_iff.1 hj).1
  rw [h.cellAt j (by omega)]
  unfold svals;rw [List.getElem?_map,hj]
  rfl
end Go.Proofs.YtlepcjafgdlmgaaDoor
namespace Go.Proofs.YtlepcjafgdlmgaaDoor
open Go.ChangeShapes Go.WideShapes Go.ChangeAt Go.RowKit Go.Deep
set_option maxHeartbeats 6400000
set_option maxRecDepth 20000
section
def mix (ds:List Nat) (q:Nat->Value):Nat->List Value->List Value
 | _,[]=>[]
 | t,v:: l=>(if ds.contains t then q t else v):: mix ds q (t+1) l
def frm (a:Act) (ds:List Nat) (q:Nat->Value):Act:=⟨(mix ds q 0 a.tmps.toList).toArray,a.defers⟩
theorem mix_at (ds:List Nat) (q:Nat->Value):∀ (l:List Value) (t j:Nat),(mix ds q t l)[j]? = (l[j]?).map fun v=>if ds.contains (t+j) then q (t+j) else v
 | [],t,j=>by simp [mix]
 | v:: l,t,0=>by simp [mix]
 | v:: l,t,j+1=>by
  show (mix ds q (t+1) l)[j]? = (l[j]?).map _
  rw [mix_at ds q l (t+1) j,show t+1+j=t+(j+1) by omega]
theorem mix_length (ds:List Nat) (q:Nat->Value):∀ (l:List Value) (t:Nat),(mix ds q t l).length=l.length
 | [],t=>rfl
 | v:: l,t=>by show (mix ds q (t+1) l).length+1=_;rw [mix_length ds q l (t+1)];rfl
theorem frm_in {a:Act} {ds:List Nat} {q:Nat->Value} {t:Nat} (h:ds.contains t=true) (ht:t < a.tmps.size):(frm a ds q).eval (.tmp t)=q t:=by
 show (mix ds q 0 a.tmps.toList).toArray.getD t undef=q t
 rw [Array.getD_eq_getD_getElem?,List.getElem?_toArray,mix_at,Nat.zero_add,h]
 have:a.tmps.toList[t]? = some (a.tmps.toList[t]'(by simpa using ht)):=List.getElem?_eq_getElem _
 rw [this];rfl
theorem frm_out {a:Act} {ds:List Nat} {q:Nat->Value} {t:Nat} (h:ds.contains t=false):(frm a ds q).eval (.tmp t)=a.eval (.tmp t):=by
 show (mix ds q 0 a.tmps.toList).toArray.getD t undef=a.tmps.getD t undef
 rw [Array.getD_eq_getD_getElem?,List.getElem?_toArray,mix_at,Nat.zero_add,h,Array.getD_eq_getD_getElem?,<- Array.getElem?_toList]
 cases a.tmps.toList[t]? <;> rfl
theorem mix_same {ds:List Nat}:∀ (l:List Value) (q:Nat->Value) (t:Nat),(∀ j,j < l.length->q (t+j)=l.getD j undef)->mix ds q t l=l
 | [],_,_,_=>rfl
 | v:: l,q,t,h=>by
  show (if ds.contains t then q t else v):: mix ds q (t+1) l=v:: l
  rw [mix_same l q (t+1) (fun j hj=>by have:=h (j+1) (by simp;omega);rw [show t+1+j=t+(j+1) by omega];exact this)]
  have:=h 0 (by simp)
  have h0:q t=v:=this;rw [h0]
  split <;> rfl
theorem frm_start (a:Act) (ds:List Nat):frm a ds (fun t=>a.eval (.tmp t))=a:=by
 unfold frm;rw [mix_same];intro j hj
 show a.tmps.getD (0+j) undef=a.tmps.toList.getD j undef
 rw [Nat.zero_add,Array.getD_eq_getD_getElem?,List.getD_eq_getElem?_getD,Array.getElem?_toList]
def setV (q:Nat->Value) (t:Nat) (v:Value):Nat->Value:=fun s=>if s=t then v else q s
theorem setV_same (q:Nat->Value) (t:Nat) (v:Value):setV q t v t=v:=if_pos rfl
theorem setV_other {q:Nat->Value} {s t:Nat} {v:Value} (h:s≠t):setV q t v s=q s:=if_neg h
theorem frm_put {a:Act} {ds:List Nat} {q:Nat->Value} {t:Nat} {v:Value} (h:ds.contains t=true):(frm a ds q).put (some t) v=frm a ds (setV q t v):=by
 show Act.mk ((mix ds q 0 a.tmps.toList).toArray.setIfInBounds t v) a.defers=Act.mk (mix ds (setV q t v) 0 a.tmps.toList).toArray a.defers
 congr 1
 apply Array.ext_getElem?
 intro j;rw [Array.getElem?_setIfInBounds,List.getElem?_toArray,List.getElem?_toArray,mix_at,mix_at,Nat.zero_add]
 by_cases hj:t=j
 ·subst hj
  rw [if_pos rfl,h];simp only [List.size_toArray,mix_length,Array.length_toList]
  by_cases hs:t < a.tmps.size
  ·rw [if_pos hs]
   rw [show a.tmps.toList[t]? = some (a.tmps.toList[t]'(by simpa using hs)) from List.getElem?_eq_getElem _]
   simp [setV]
  ·rw [if_neg hs,List.getElem?_eq_none (by simpa using hs)];rfl
 ·rw [if_neg hj]
  cases a.tmps.toList[j]? with
  | none=>rfl
  | some u=>
   show some _=some _
   rw [setV_other (fun e=>hj e.symm)]
def waits (ops:Array Oper) (i k:Nat):Bool:=match ops[i]? with | some o=>o.after.toList.any (fun e=>Region.binds .any e&&e.on == k) | none=>false
def dstOf (ops:Array Oper) (k:Nat):Option Nat:=match ops[k]? with | some o=>o.dst | none=>none
def shapeOk (ops:Array Oper) (ds:List Nat) (size m:Nat):Bool:=
  (List.range ops.size).all (fun i=>match ops[i]? with
    | some o=>o.guard.isNone&&o.after.toList.all (fun e=>!Region.binds .any e||Nat.blt e.on i)&&(if i < m then (match o.dst with
        | some t=>ds.contains t&&Nat.blt t size&&(List.range m).all (fun j=>j == i||!(dstOf ops j == some t))&&(List.range (m+1)).any (fun k=>Nat.blt i k&&waits ops k i)
        | none=>false) else (List.range i).all (fun j=>Nat.blt j m&&i == m||waits ops i j))
    | none=>false)&&Nat.blt m ops.size
structure Shape (ops:Array Oper) (ds:List Nat) (size m:Nat):Prop where
 lt:m < ops.size
 guard:∀ (i:Nat) (o:Oper),ops[i]? = some o->o.guard=none
 before:∀ (i:Nat) (o:Oper) (e:Edge),ops[i]? = some o->e∈o.after->Region.binds .any e=true->e.on < i
 dst:∀ (i:Nat) (o:Oper),i < m->ops[i]? = some o->∃ t,o.dst=some t/\ds.contains t=true/\t < size/\∀ j,j < m->j≠i->dstOf ops j≠some t
 heir:∀ i,i < m->∃ k,i < k/\k <= m/\waits ops k i=true
 late:∀ i j,m <= i->i < ops.size->j < i->(j < m/\i=m)\/waits ops i j=true
theorem shape_of {ops:Array Oper} {ds:List Nat} {size m:Nat} (h:shapeOk ops ds size m=true):Shape ops ds size m:=by
  unfold shapeOk at h;rw [Bool.and_eq_true,List.all_eq_true] at h;obtain ⟨h1,h2⟩:=h;have hm:m < ops.size:=by simpa [Nat.blt_eq] using h2
  have hi:∀ i o,ops[i]? = some o→(o.guard.isNone&&o.after.toList.all (fun e=>!Region.binds .any e||Nat.blt e.on i)&&(if i < m then (match o.dst with
        | some t=>ds.contains t&&Nat.blt t size&&(List.range m).all (fun j=>j == i||!(dstOf ops j == some t))&&(List.range (m+1)).any (fun k=>Nat.blt i k&&waits ops k i)
        | none=>false) else (List.range i).all (fun j=>Nat.blt j m&&i == m||waits ops i j)))=true:=fun i o ho=>by
    have hlt:i < ops.size:=by
      rcases Nat.lt_or_ge i ops.size with h | h
      · exact h
      · rw [Array.getElem?_eq_none h] at ho;cases ho
    have:=h1 i (List.mem_range.2 hlt);rw [ho] at this;exact this
  refine ⟨hm,fun i o ho=>?_,fun i o e ho he hb=>?_,fun i o him ho=>?_,fun i him=>?_,fun i j him hlt hj=>?_⟩
  · have:=hi i o ho
    rw [Bool.and_eq_true,Bool.and_eq_true] at this;simpa using this.1.1
  · have:=hi i o ho
    rw [Bool.and_eq_true,Bool.and_eq_true,List.all_eq_true] at this;have:=this.1.2 e (by simpa using he)
    rw [hb] at this;simpa [Nat.blt_eq] using this
  · have:=hi i o ho
    rw [Bool.and_eq_true,if_pos him] at this;have:=this.2
    cases hd:o.dst with
    | none=>rw [hd] at this;cases this
    | some t=>
      rw [hd] at this;simp only [Bool.and_eq_true,List.all_eq_true] at this;obtain ⟨⟨⟨e1,e2⟩,e3⟩,e4⟩:=this;refine ⟨t,rfl,e1,by simpa [Nat.blt_eq] using e2,fun j hj hne he=>?_⟩
      have:=e3 j (List.mem_range.2 hj);rw [he] at this;simp [hne] at this
  · have hlt:i < ops.size:=by omega
    have:=hi i ops[i] (Array.getElem?_eq_getElem hlt)
    rw [Bool.and_eq_true,if_pos him] at this;have:=this.2
    cases hd:ops[i].dst with
    | none=>rw [hd] at this;cases this
    | some t=>
      rw [hd] at this;simp only [Bool.and_eq_true,List.any_eq_true] at this;obtain ⟨_,k,hk,h5,h6⟩:=this;have:=List.mem_range.1 hk;exact ⟨k,by simpa [Nat.blt_eq] using h5,by omega,h6⟩
  · have:=hi i ops[i] (Array.getElem?_eq_getElem hlt)
    rw [Bool.and_eq_true,if_neg (by omega),List.all_eq_true] at this
    have:=this.2 j (List.mem_range.2 hj);simp only [Bool.or_eq_true,Bool.and_eq_true,beq_iff_eq,Nat.blt_eq] at this;exact this
def doneAt (l:Array Bool) (i:Nat):Prop:=l[i]? = some true
theorem ready_iff {ops:Array Oper} {l:Array Bool} (hl:l.size=ops.size) {i:Nat}:i∈Region.ready .any ops l↔i < ops.size/\¬ doneAt l i/\∀ k,waits ops i k=true->doneAt l k:=by
 unfold Region.ready;rw [List.mem_filter,List.mem_range]
 constructor
 ·rintro ⟨h1,h2⟩
  have hi:i < l.size:=by omega
  rw [Bool.and_eq_true] at h2;obtain ⟨h2,h3⟩:=h2;refine ⟨h1,fun hd=>?_,fun k hk=>?_⟩
  ·unfold doneAt at hd
   rw [Array.getD_eq_getD_getElem?,hd] at h2;simp at h2
  ·unfold waits at hk
   rw [Array.getElem?_eq_getElem h1] at h3 hk
   simp only [Option.map_some,Option.getD_some,Array.all_eq_true_iff_forall_mem] at h3;simp only [List.any_eq_true,Bool.and_eq_true,beq_iff_eq] at hk;obtain ⟨e,he,hb,hon⟩:=hk;have:=h3 e (by simpa using he)
   rw [hb,hon] at this;simp only [Bool.not_true,Bool.false_or,Array.getD_eq_getD_getElem?] at this;unfold doneAt
   cases hx:l[k]? with
   | none=>rw [hx] at this;simp at this
   | some b=>rw [hx] at this;simp at this;rw [this]
 ·rintro ⟨h1,h2,h3⟩
  have hi:i < l.size:=by omega
  refine ⟨h1,?_⟩
  rw [Bool.and_eq_true]
  constructor
  ·rw [Array.getD_eq_getD_getElem?,Array.getElem?_eq_getElem hi]
   unfold doneAt at h2;rw [Array.getElem?_eq_getElem hi] at h2
   cases hx:l[i] with
   | true=>rw [hx] at h2;exact absurd rfl h2
   | false=>rfl
  ·rw [Array.getElem?_eq_getElem h1]
   simp only [Option.map_some,Option.getD_some,Array.all_eq_true_iff_forall_mem];intro e he
   cases hb:Region.binds .any e with
   | false=>rfl
   | true=>
    have:=h3 e.on (by unfold waits;rw [Array.getElem?_eq_getElem h1];simp only [List.any_eq_true,Bool.and_eq_true,beq_iff_eq];exact ⟨e,by simpa using he,hb,rfl⟩)
    unfold doneAt at this;rw [Array.getD_eq_getD_getElem?,this];rfl
def left (l:Array Bool):Nat:=l.toList.count false
theorem left_set {l:Array Bool} {i:Nat} (hi:i < l.size) (h:¬ doneAt l i):left (l.setIfInBounds i true)+1=left l:=by
 unfold left;rw [Array.toList_setIfInBounds];have hl:i < l.toList.length:=by simpa using hi
 have hf:l.toList[i]=false:=by
  unfold doneAt at h;rw [Array.getElem?_eq_getElem hi] at h
  have e:l.toList[i]=l[i]:=Array.getElem_toList _;rw [e]
  cases hx:l[i] with
  | true=>rw [hx] at h;exact absurd rfl h
  | false=>rfl
 have hpos:0 < l.toList.count false:=List.count_pos_iff.2 (hf ▸ List.getElem_mem hl);rw [List.count_set hl,hf]
 show l.toList.count false - 1+0+1=l.toList.count false
 omega
theorem left_zero {l:Array Bool} (h:left l=0) {i:Nat} (hi:i < l.size):doneAt l i:=by
 unfold left at h;have h0:false∉l.toList:=List.count_eq_zero.1 h;unfold doneAt;rw [Array.getElem?_eq_getElem hi]
 cases hx:l[i] with
 | true=>rfl
 | false=>exact absurd (by rw [<- hx];exact Array.getElem_mem_toList hi) h0
theorem done_set {l:Array Bool} {i j:Nat} (hi:i < l.size):doneAt (l.setIfInBounds i true) j↔j=i\/doneAt l j:=by
 unfold doneAt;rw [Array.getElem?_setIfInBounds]
 by_cases h:i=j
 ·subst h
  simp [hi]
 ·rw [if_neg h]
  constructor
  ·exact .inr
  ·rintro (h2 | h2)
   ·exact absurd h2.symm h
   ·exact h2
structure Early (ops:Array Oper) (m:Nat) (W0:World) (post:Nat->Value->World->Prop) (l:Array Bool) (q:Nat->Value) (w:World):Prop where
 size:l.size=ops.size
 later:∀ i,m <= i->¬ doneAt l i
 closed:∀ i k,doneAt l i->waits ops i k=true->doneAt l k
 below:Below W0.heap.size W0 w
 posts:∀ i t,i < m->doneAt l i->dstOf ops i=some t->post i (q t) w
end
theorem op_val {P:Program} {o:Oper} {a:Act} {w w':World} {v:Value} {post:Value->World->Prop} {Q:Exit->Act->World->Prop} (hr:(execOp a.eval o).run P w=.ok (.value v) w') (hb:Below w.heap.size w w') (hp:post v w'):Oper.wp P o a w (fun a' w'=>∃ v,a'=a.put o.dst v/\Below w.heap.size w w'/\post v w') Q:=by
 unfold Oper.wp;rw [hr];exact ⟨v,rfl,hb,hp⟩
theorem op_call {P:Program} {o:Oper} {a:Act} {w:World} {f:FuncId} {args:Array Value} {post:Value->World->Prop} {Q:Exit->Act->World->Prop} (hr:(execOp a.eval o).run P w=.ok (.enter f args) w) (hc:Calls P f args w fun e w'=>∃ v,e=.returned v/\Below w.heap.size w w'/\post v w'):Oper.wp P o a w (fun a' w'=>∃ v,a'=a.put o.dst v/\Below w.heap.size w w'/\post v w') Q:=by
 unfold Oper.wp;rw [hr];refine hc.mono ?_
 rintro e w' ⟨v,rfl,hb,hp⟩
 exact ⟨v,rfl,hb,hp⟩
theorem op_at {P:Program} {ops:Array Oper} {Q:Exit->Act->World->Prop} {i:Nat} {K:Act->World->Prop} {a:Act} {w:World} {o:Oper} (ho:ops[i]? = some o) (hg:o.guard=none) (h:o.wp P a w K Q):wpOp P ops Q i K a w:=by
 unfold wpOp;rw [ho]
 show if Region.wanted o (yielded ops a.tmps)=true then _ else _
 rw [if_pos (by unfold Region.wanted;rw [hg])]
 exact .inl h
theorem late_put {a:Act} {ds:List Nat} {q:Nat->Value} {o:Oper} {v:Value} (t:Nat) (hd:o.dst=some t) (hc:ds.contains t=true):(frm a ds q).put o.dst v=frm a ds (setV q t v):=by rw [hd,frm_put hc]
theorem op_run {P:Program} {o:Oper} {a:Act} {w w':World} {v:Value} {K:Act->World->Prop} {Q:Exit->Act->World->Prop} (hr:(execOp a.eval o).run P w=.ok (.value v) w') (h:K (a.put o.dst v) w'):Oper.wp P o a w K Q:=by
 unfold Oper.wp;rw [hr];exact h
theorem heap_new (w:World) (o:Obj):(w.alloc o).heap[w.heap.size]? = some o:=by
 show (w.heap.push o)[w.heap.size]? = some o
 simp
def shapeOkC (ops:Array Oper) (ds:List Nat) (size m:Nat):Bool:=
  (List.range ops.size).all (fun i=>match ops[i]? with
    | some o=>o.guard.isNone&&o.after.toList.all (fun e=>!Region.binds .any e||Nat.blt e.on i)&&(if i < m then (match o.dst with
        | some t=>ds.contains t&&Nat.blt t size&&(List.range m).all (fun j=>j == i||!(dstOf ops j == some t))&&(List.range (m+1)).any (fun k=>Nat.blt i k&&waits ops k i)
        | none=>false) else (i == m||waits ops i (i - 1)))
    | none=>false)&&Nat.blt m ops.size
structure ShapeC (ops:Array Oper) (ds:List Nat) (size m:Nat):Prop where
 lt:m < ops.size
 guard:∀ (i:Nat) (o:Oper),ops[i]? = some o->o.guard=none
 before:∀ (i:Nat) (o:Oper) (e:Edge),ops[i]? = some o->e∈o.after->Region.binds .any e=true->e.on < i
 dst:∀ (i:Nat) (o:Oper),i < m->ops[i]? = some o->∃ t,o.dst=some t/\ds.contains t=true/\t < size/\∀ j,j < m->j≠i->dstOf ops j≠some t
 heir:∀ i,i < m->∃ k,i < k/\k <= m/\waits ops k i=true
 late:∀ i,m < i->i < ops.size->waits ops i (i - 1)=true
theorem shape_ofC {ops:Array Oper} {ds:List Nat} {size m:Nat} (h:shapeOkC ops ds size m=true):ShapeC ops ds size m:=by
  unfold shapeOkC at h;rw [Bool.and_eq_true,List.all_eq_true] at h;obtain ⟨h1,h2⟩:=h;have hm:m < ops.size:=by simpa [Nat.blt_eq] using h2
  have hi:∀ i o,ops[i]? = some o→(o.guard.isNone&&o.after.toList.all (fun e=>!Region.binds .any e||Nat.blt e.on i)&&(if i < m then (match o.dst with
        | some t=>ds.contains t&&Nat.blt t size&&(List.range m).all (fun j=>j == i||!(dstOf ops j == some t))&&(List.range (m+1)).any (fun k=>Nat.blt i k&&waits ops k i)
        | none=>false) else (i == m||waits ops i (i - 1))))=true:=fun i o ho=>by
    have hlt:i < ops.size:=by
      rcases Nat.lt_or_ge i ops.size with h | h
      · exact h
      · rw [Array.getElem?_eq_none h] at ho;cases ho
    have:=h1 i (List.mem_range.2 hlt);rw [ho] at this;exact this
  refine ⟨hm,fun i o ho=>?_,fun i o e ho he hb=>?_,fun i o him ho=>?_,fun i him=>?_,fun i him hlt=>?_⟩
  · have:=hi i o ho
    rw [Bool.and_eq_true,Bool.and_eq_true] at this;simpa using this.1.1
  · have:=hi i o ho
    rw [Bool.and_eq_true,Bool.and_eq_true,List.all_eq_true] at this;have:=this.1.2 e (by simpa using he)
    rw [hb] at this;simpa [Nat.blt_eq] using this
  · have:=hi i o ho
    rw [Bool.and_eq_true,if_pos him] at this;have:=this.2
    cases hd:o.dst with
    | none=>rw [hd] at this;cases this
    | some t=>
      rw [hd] at this;simp only [Bool.and_eq_true,List.all_eq_true] at this;obtain ⟨⟨⟨e1,e2⟩,e3⟩,e4⟩:=this;refine ⟨t,rfl,e1,by simpa [Nat.blt_eq] using e2,fun j hj hne he=>?_⟩
      have:=e3 j (List.mem_range.2 hj);rw [he] at this;simp [hne] at this
  · have hlt:i < ops.size:=by omega
    have:=hi i ops[i] (Array.getElem?_eq_getElem hlt)
    rw [Bool.and_eq_true,if_pos him] at this;have:=this.2
    cases hd:ops[i].dst with
    | none=>rw [hd] at this;cases this
    | some t=>
      rw [hd] at this;simp only [Bool.and_eq_true,List.any_eq_true] at this;obtain ⟨_,k,hk,h5,h6⟩:=this;have:=List.mem_range.1 hk;exact ⟨k,by simpa [Nat.blt_eq] using h5,by omega,h6⟩
  · have:=hi i ops[i] (Array.getElem?_eq_getElem hlt)
    rw [Bool.and_eq_true,if_neg (by omega)] at this
    have:=this.2;simp only [Bool.or_eq_true,beq_iff_eq] at this
    rcases this with h | h
    · omega
    · exact h
theorem ready_earlyC {ops:Array Oper} {ds:List Nat} {size m:Nat} (hs:ShapeC ops ds size m) {l:Array Bool} (hl:l.size=ops.size) {j:Nat} (hj:j < ops.size) (hd:¬ doneAt l j):Region.ready .any ops l≠[]:=by
 have key:∀ n j,j <= n->j < ops.size->¬ doneAt l j->∃ i,i∈Region.ready .any ops l:=by
  intro n
  induction n with
  | zero=>
   intro j hj0 hj hd;refine ⟨j,(ready_iff hl).2 ⟨hj,hd,fun k hk=>?_⟩⟩
   unfold waits at hk;rw [Array.getElem?_eq_getElem hj] at hk
   simp only [List.any_eq_true,Bool.and_eq_true,beq_iff_eq] at hk;obtain ⟨e,he,hb,hon⟩:=hk;have:=hs.before j ops[j] e (Array.getElem?_eq_getElem hj) (by simpa using he) hb
   omega
  | succ n ih=>
   intro j hj0 hj hd
   by_cases h:∀ k,waits ops j k=true->doneAt l k
   ·exact ⟨j,(ready_iff hl).2 ⟨hj,hd,h⟩⟩
   ·obtain ⟨k,hk⟩:=Classical.not_forall.1 h
    obtain ⟨hk,hnd⟩:=Classical.not_imp.1 hk;have hk2:=hk;unfold waits at hk;rw [Array.getElem?_eq_getElem hj] at hk
    simp only [List.any_eq_true,Bool.and_eq_true,beq_iff_eq] at hk;obtain ⟨e,he,hb,hon⟩:=hk;have:=hs.before j ops[j] e (Array.getElem?_eq_getElem hj) (by simpa using he) hb
    exact ih k (by omega) (by omega) hnd
 intro h;obtain ⟨i,hi⟩:=key j j (Nat.le_refl _) hj hd;rw [h] at hi
 cases hi
theorem all_earlyC {ops:Array Oper} {ds:List Nat} {size m:Nat} (hs:ShapeC ops ds size m) {l:Array Bool} (hc:∀ i k,doneAt l i->waits ops i k=true->doneAt l k) (hm:∀ k,waits ops m k=true->doneAt l k):∀ i,i < m->doneAt l i:=by
 have key:∀ n i,m - i <= n->i < m->doneAt l i:=by
  intro n
  induction n with
  | zero=>intro i h1 h2;omega
  | succ n ih=>
   intro i h1 h2;obtain ⟨k,h3,h4,h5⟩:=hs.heir i h2
   by_cases hk:k=m
   ·subst hk;exact hm i h5
   ·exact hc k i (ih k (by omega) (by omega)) h5
 exact fun i hi=>key _ i (Nat.le_refl _) hi
theorem wpAny_invI {F:Fence} {n:Nat} {P:Program} {md:Region.Mode} {ops:Array Oper} {Q:Exit->Act->World->Prop} (I:Nat->Array Bool->Act->World->Prop)
  (hs:∀ k l a w,I k l a w->(Region.ready md ops l=[]->Q .normal a w)/\(k=0->Region.ready md ops l=[])/\∀ k',k=k' + 1->∀ i∈Region.ready md ops l,wpOpIn F n P ops Q i (fun a' w'=>I k' (l.setIfInBounds i true) a' w') a w) :
  ∀ k l a w,I k l a w->wpAnyIn F n P md ops Q k l a w
 | 0,l,a,w,h=>⟨(hs 0 l a w h).2.1 rfl,(hs 0 l a w h).1 ((hs 0 l a w h).2.1 rfl)⟩
 | k+1,l,a,w,h=>⟨(hs _ l a w h).1,fun i hi=>wpOpIn_mono (fun a' w' h'=>wpAny_invI I hs k _ a' w' h') ((hs _ l a w h).2.2 k rfl i hi)⟩
theorem wp_anywayI {F:Fence} {n:Nat} {P:Program} {id:Nat} {ops:Array Oper} {Q:Exit->Act->World->Prop} {a0:Act} {w0:World} (hmo:P.follows .mixedOrders=true) (ds:List Nat) (m:Nat) (post:Nat->Value->World->Prop)
    (hsh:shapeOkC ops ds a0.tmps.size m=true)
    (stable:∀ i v w w',i < m->post i v w->Below w.heap.size w w'->post i v w')
    (step:∀ (i:Nat) (o:Oper),i < m->ops[i]? = some o->∀ q w,Below w0.heap.size w0 w->(∀ k t,waits ops i k=true->dstOf ops k=some t->post k (q t) w)->Oper.wpIn F n P o (frm a0 ds q) w (fun a' w'=>∃ v,a'=(frm a0 ds q).put o.dst v/\Below w.heap.size w w'/\post i v w') Q)
    (last:∀ q w,Below w0.heap.size w0 w->(∀ i t,i < m->dstOf ops i=some t->post i (q t) w)->wpOpsIn F n P ops Q ((List.range' m (ops.size - m))) (frm a0 ds q) w) :
    (Code.region id ops true).wpIn F n P Q a0 w0:=by
  have hs:=shape_ofC hsh;refine wpIn_region_any hmo ?_
  have hb0:Below w0.heap.size w0 { w0 with drawn:=w0.drawn+1}:=⟨rfl,rfl,rfl,Nat.le_refl _,fun _ _=>rfl⟩
  refine wpAny_invI (fun k l a w=>k=left l/\((∃ q,a=frm a0 ds q/\Early ops m w0 post l q w)\/(l.size=ops.size/\∃ j,m <= j/\j <= ops.size/\(∀ i,doneAt l i↔i < j)/\wpOpsIn F n P ops Q (List.range' j (ops.size - j)) a w))) ?_ _ _ _ _ ⟨?_,.inl ⟨_,(frm_start a0 ds).symm,?_⟩⟩
  · rintro k l a w ⟨hk,hI⟩
    have hlsz:l.size=ops.size:=hI.elim (fun ⟨_,_,hE⟩=>hE.size) (fun ⟨h,_⟩=>h)
    refine ⟨fun hr=>?_,fun h0=>?_,fun k' hk' i hi=>?_⟩
    · rcases hI with ⟨q,rfl,hE⟩ | ⟨_,j,hj1,hj2,hd,hw⟩
      · exact absurd hr (ready_earlyC hs hE.size hs.lt (hE.later m (Nat.le_refl _)))
      · by_cases hjs:j=ops.size
        · subst hjs
          rw [Nat.sub_self] at hw;exact hw
        · exact absurd hr (ready_earlyC hs hlsz (j:=j) (by omega) (fun h=>by have:=(hd j).1 h;omega))
    · cases hr:Region.ready .any ops l with
      | nil=>rfl
      | cons x xs=>
        have hx:=(ready_iff hlsz (i:=x)).1 (by rw [hr];exact List.mem_cons_self)
        exact absurd (left_zero (by omega) (by omega)) hx.2.1
    · obtain ⟨h1,h2,h3⟩:=(ready_iff hlsz).1 hi
      have ho:ops[i]? = some ops[i]:=Array.getElem?_eq_getElem h1
      have hgd:=hs.guard i _ ho;have hleft:=left_set (by omega:i < l.size) h2
      have late:∀ (j:Nat) (a:Act) (w:World),m <= j->j <= ops.size->(∀ i,doneAt l i↔i < j)->wpOpsIn F n P ops Q (List.range' j (ops.size - j)) a w->wpOpIn F n P ops Q i (fun a' w'=>k'=left (l.setIfInBounds i true)/\((∃ q,a'=frm a0 ds q/\Early ops m w0 post (l.setIfInBounds i true) q w')\/((l.setIfInBounds i true).size=ops.size/\∃ j,m <= j/\j <= ops.size/\(∀ i',doneAt (l.setIfInBounds i true) i'↔i' < j)/\wpOpsIn F n P ops Q (List.range' j (ops.size - j)) a' w'))) a w:=by
        intro j a w hj1 hj2 hd hw
        have hij:i=j:=by
          have hge:j <= i:=by
            rcases Nat.lt_or_ge i j with h | h
            · exact absurd ((hd i).2 h) h2
            · exact h
          rcases Nat.lt_or_ge j i with h | h
          · have h4:=hs.late i (by omega) h1
            have:=(hd (i - 1)).1 (h3 _ h4);omega
          · omega
        subst hij;rw [show ops.size - i=(ops.size - (i+1))+1 by omega,List.range'_succ,wpOpsIn_cons] at hw
        refine wpOpIn_mono (fun a' w' h'=>⟨by omega,.inr ⟨by rw [Array.size_setIfInBounds];exact hlsz,i+1,by omega,by omega,fun i'=>?_,h'⟩⟩) hw
        rw [done_set (by omega),hd]
        omega
      rcases hI with ⟨q,rfl,hE⟩ | ⟨_,j,hj1,hj2,hd,hw⟩
      · by_cases him:i < m
        · obtain ⟨t,ht,hdt,hts,hne⟩:=hs.dst i _ him ho
          have hst:=step i _ him ho q w hE.below (fun k t' hk ht'=>by
            have hkd:=h3 k hk
            have hkm:k < m:=by
              rcases Nat.lt_or_ge k m with h | h
              · exact h
              · exact absurd hkd (hE.later k h)
            exact hE.posts k t' hkm hkd ht')
          unfold wpOpIn;rw [ho]
          show if Region.wanted ops[i] (yielded ops (frm a0 ds q).tmps)=true then _ else _
          rw [if_pos (by unfold Region.wanted;rw [hgd])]
          refine Oper.wpIn_mono ?_ hst
          rintro a' w' ⟨v,rfl,hb,hp⟩
          rw [ht,frm_put hdt];refine ⟨by omega,.inl ⟨_,rfl,⟨by rw [Array.size_setIfInBounds];exact hlsz,fun i' hi' hd'=>?_,fun i' k0 hd' hk0=>?_,hE.below.trans (hb.mono hE.below.size),fun i' t' hi' hd' ht'=>?_⟩⟩⟩
          · rcases (done_set (by omega)).1 hd' with h | h
            · omega
            · exact hE.later i' hi' h
          · rw [done_set (by omega)]
            rcases (done_set (by omega)).1 hd' with h | h
            · subst h;exact .inr (h3 k0 hk0)
            · exact .inr (hE.closed i' k0 h hk0)
          · by_cases hii:i'=i
            · subst hii
              have:t'=t:=by
                unfold dstOf at ht';rw [ho] at ht';exact Option.some.inj (ht'.symm.trans ht)
              subst this;rw [setV_same];exact hp
            · rcases (done_set (by omega)).1 hd' with h | h
              · exact absurd h hii
              · rw [setV_other (fun e=>hne i' hi' hii (by rw [ht',e]))]
                exact stable i' _ w w' hi' (hE.posts i' t' hi' h ht') hb
        · have him2:i=m:=by
            rcases Nat.lt_or_ge m i with h | h
            · have h4:=hs.late i h h1
              exact absurd (h3 _ h4) (hE.later (i - 1) (by omega))
            · omega
          subst him2;have hall:=all_earlyC hs hE.closed h3
          exact late i _ w (Nat.le_refl _) (by omega) (fun i'=>⟨fun h=>by
            rcases Nat.lt_or_ge i' i with h' | h'
            · exact h'
            · exact absurd h (hE.later i' h'),fun h=>hall i' h⟩) (last q w hE.below fun i' t' hi' ht'=>hE.posts i' t' hi' (hall i' hi') ht')
      · exact late j a w hj1 hj2 hd hw
  · unfold left
    simp
  · have hnd:∀ i,¬ doneAt (Array.replicate ops.size false) i:=fun i h=>by
      unfold doneAt at h;rw [Array.getElem?_replicate] at h
      split at h <;> cases h
    exact ⟨by simp,fun i _=>hnd i,fun i _ h=>absurd h (hnd i),hb0,fun i _ _ h=>absurd h (hnd i)⟩
theorem upon_wide {P:Program} (n:Nat) {o:Oper} {a:Act} {next:Act->World->Prop} {Q:Exit->Act->World->Prop} {r:Result Next} (h:o.upon P a next Q r):o.uponIn Fence.wide n P a next Q r:=by
 have hd:∀ m:Nat,Fence.wide.depth.isSome=true->1 <= m:=fun m h=>by simp [Fence.wide] at h
 cases r with
 | halt x w'=>cases x <;> first | exact h | exact h.elim
 | ok x w'=>
  cases x with
  | value v=>exact h
  | skip=>exact h
  | defer d=>exact h
  | enter f args=>exact ⟨hd _,(callsIn_wide.2 h).mono fun e w'' he=>by cases e <;> exact he⟩
  | row row args=>exact ⟨hd _,fun c cs _=>by obtain ⟨v,w'',h1,h2⟩:=h c cs;exact ⟨v,w'',h1,stepsIn_wide.2 h2⟩⟩
  | _=>exact (h:False).elim
theorem op_wide {P:Program} (n:Nat) {o:Oper} {a:Act} {w:World} {K:Act->World->Prop} {Q:Exit->Act->World->Prop} (h:Oper.wp P o a w K Q):Oper.wpIn Fence.wide n P o a w K Q:=⟨fun _ _=>trivial,upon_wide n h⟩
theorem wp_anywayW {n:Nat} {P:Program} {id:Nat} {ops:Array Oper} {Q:Exit->Act->World->Prop} {a0:Act} {w0:World} (hmo:P.follows .mixedOrders=true) (ds:List Nat) (m:Nat) (post:Nat->Value->World->Prop)
  (hsh:shapeOkC ops ds a0.tmps.size m=true)
  (stable:∀ i v w w',i < m->post i v w->Below w.heap.size w w'->post i v w')
  (step:∀ (i:Nat) (o:Oper),i < m->ops[i]? = some o->∀ q w,Below w0.heap.size w0 w->(∀ k t,waits ops i k=true->dstOf ops k=some t->post k (q t) w)->Oper.wp P o (frm a0 ds q) w (fun a' w'=>∃ v,a'=(frm a0 ds q).put o.dst v/\Below w.heap.size w w'/\post i v w') Q)
  (last:∀ q w,Below w0.heap.size w0 w->(∀ i t,i < m->dstOf ops i=some t->post i (q t) w)->wpOpsIn Fence.wide n P ops Q ((List.range' m (ops.size - m))) (frm a0 ds q) w) :
  (Code.region id ops true).wpIn Fence.wide n P Q a0 w0:=
 wp_anywayI hmo ds m post hsh stable (fun i o hi ho q w hb hq=>op_wide n (step i o hi ho q w hb hq)) last
end Go.Proofs.YtlepcjafgdlmgaaDoor
namespace Go.Proofs.YtlepcjafgdlmgaaDoor
open Go.ChangeShapes Go.WideShapes Go.ChangeAt Go.RowKit Go.Deep Go.Shelf
open Terms
set_option maxHeartbeats 6400000
set_option maxRecDepth 20000
attribute [local go_sem] Oper.semAt_some
def roundEnd (B:Nat) (Kp:World->World->Prop) (J:World->Prop) (W:World):Exit->Act->World->Prop
 | .normal,_,W'=>KeepsFrom B W W'/\Kp W W'/\J W'
 | _,_,_=>False
end Go.Proofs.YtlepcjafgdlmgaaDoor
namespace Go.Proofs.YtlepcjafgdlmgaaDoor
open Go.ChangeShapes Go.WideShapes Go.ChangeAt Go.RowKit Go.Deep Go.Shelf
open Terms Tm
set_option maxHeartbeats 6400000
set_option maxRecDepth 20000
inductive Pv where
 | is (u:Value)
 | line (x:List ByteArray)
def exP (l:List Pv) (i:Nat) (v:Value) (w:World):Prop:=match l[i]? with
 | some (.is u)=>v=u
 | some (.line x)=>LineAt w v x
 | none=>True
theorem exP_stable (l:List Pv) (m:Nat) (i:Nat) (v:Value) (w w':World) (_hi:i < m) (h:exP l i v w) (hb:Below w.heap.size w w'):exP l i v w':=by
 unfold exP at *
 split at h
 ·exact h
 ·exact LineAt.below h hb
 ·trivial
theorem op_yield {P:Program} {n:Nat} {ops:Array Oper} {Q:Exit->Act->World->Prop} {i:Nat} {K:Act->World->Prop} {a:Act} {w:World} {o:Oper} {l:Nat} {fn:FuncId} {tmps:Array Value} {assign body:Code} {R:Ending->World->Prop}
  (ho:ops[i]? = some o) (hg:o.guard=none) (hr:(execOp a.eval o).run P w=.ok (.round l fn tmps assign body) w) (hR:RoundIn Fence.wide (n - 1) P l fn tmps assign body w R) (h:∀ e w',R e w'->∃ v,e=.returned v/\K (a.put o.dst v) w'):wpOpIn Fence.wide n P ops Q i K a w:=by
 unfold wpOpIn;rw [ho]
 show if Region.wanted o (yielded ops a.tmps)=true then _ else _
 rw [if_pos (by unfold Region.wanted;rw [hg])]
 refine ⟨fun _ _=>trivial,?_⟩
 show Oper.uponIn _ _ _ _ _ _ _ ((execOp a.eval o).run P w)
 rw [hr];refine ⟨fun h=>by simp [Fence.wide] at h,hR.mono fun e w' he=>?_⟩
 obtain ⟨v,rfl,hk⟩:=h e w' he;exact hk
theorem op_atW {P:Program} {n:Nat} {ops:Array Oper} {Q:Exit->Act->World->Prop} {i:Nat} {K:Act->World->Prop} {a:Act} {w:World} {o:Oper} (ho:ops[i]? = some o) (hg:o.guard=none) (h:o.wp P a w K Q):wpOpIn Fence.wide n P ops Q i K a w:=by
 unfold wpOpIn;rw [ho]
 show if Region.wanted o (yielded ops a.tmps)=true then _ else _
 rw [if_pos (by unfold Region.wanted;rw [hg])]
 exact op_wide n h
theorem line_new (w:World) (cs:Array Value) (x:List ByteArray) (t:TypeId) (h:∀ (j:Nat) y,x[j]? = some y->cs[j]? = some (.string y)):LineAt (w.alloc (.cells cs t)) (.slice (some ⟨w.heap.size,0,none⟩) x.length x.length) x:=
 ⟨_,_,rfl,Nat.le_refl _,by simp,fun j y hj=>by
  have:=h j y hj;unfold World.cell?;rw [heap_new w (.cells cs t)]
  exact this⟩
attribute [local go_sem] Oper.semAt_some
theorem pc_mS {m:Mo} {ps:List (List (Int × Int))} (h:pcode m ps=0):mcode m=0:=by
 unfold pcode at h
 split at h
 ·assumption
 ·rename_i h1;exact absurd h h1
theorem pc_props {m:Mo} {ps:List (List (Int × Int))} (h:pcode m ps=0) {k:Nat} (hk:k < ps.length):kcode (m.vars.length:Int) (ps.getD k []) true=0:=by
 have hm:=pc_mS h;unfold pcode at h;rw [if_pos hm] at h
 split at h
 ·simp at h
 ·exact firstOf_zero h k hk
theorem tk_zeroS {m:Mo} {ps:List (List (Int × Int))} {l:List (Int × Int)} (h:tkcode m ps l=0):pcode m ps=0/\lcode ps.length l=0:=by
 unfold tkcode at h
 split at h
 ·rename_i h1;exact absurd h h1
 ·rename_i h1;exact ⟨Classical.byContradiction h1,h⟩
theorem rc_guard {v:Int} {r:Ru} (h:rcode v r=0):kcode v r.guard true=0:=by
 unfold rcode at h
 split at h
 ·simp at h
 ·split at h
  ·assumption
  ·rename_i h2;exact absurd h h2
theorem rc_sets {v:Int} {r:Ru} (h:rcode v r=0):∀ j,j < r.sets.length->kcode v (r.sets.getD j st0).val false=0:=fun j hj=>by
 unfold rcode at h
 split at h
 ·simp at h
 ·split at h
  ·have h3:=firstOf_zero h j hj
   unfold sAt at h3
   split at h3
   ·simp at h3
   ·split at h3
    ·simp at h3
    ·exact h3
  ·rename_i h2;exact absurd h h2
structure LnW (W0:World) (P Bp:Nat) (W:World):Prop where
 bel:Below W0.heap.size W0 W
 box:W.heap[Bp]? = some (.cells #[.pointer (some ⟨P,0,none⟩)] 70 (0,0))
def LnK (n0:Nat) (A B:World):Prop:=Below n0 A B/\∀ (b:Nat) (cs:Array Value) (t:TypeId),t=70\/t=61->A.heap[b]? = some (.cells cs t (0,0))->B.heap[b]? = some (.cells cs t (0,0))
section
variable {W0 W W' : World} {P Bp : Nat}
theorem LnW.keep (h:LnW W0 P Bp W) (hb:Below W.heap.size W W'):LnW W0 P Bp W':=⟨h.bel.trans (hb.mono h.bel.size),(hb.block Bp (Array.getElem?_eq_some_iff.1 h.box).1).trans h.box⟩
theorem LnW.round (h:LnW W0 P Bp W) (hk:LnK W0.heap.size W W'):LnW W0 P Bp W':=⟨h.bel.trans hk.1,hk.2 _ _ _ (.inl rfl) h.box⟩
theorem LnW.cell (h:LnW W0 P Bp W):W.cell? ⟨Bp,0,none⟩=some (.pointer (some ⟨P,0,none⟩)):=by
 unfold World.cell?;rw [h.box];rfl
end
theorem lines_by (mm L P Bp:Nat) (va vr pv fv:Value) (m:Mo) (ps:List (List (Int × Int))) (l:List (Int × Int)) (W0:World) (hB:0 < W0.heap.size) (hT:TabAt W0) (hP:PadAt W0 P va vr pv fv) (hV:TaskV W0 va vr pv fv m ps l) (hk:tkcode m ps l=0) (J:Nat->World->Prop) (hJ:∀ k A B,J k A->Below A.heap.size A B->J k B)
    (hY:∀ pre x post,linesW m ps l=pre++x:: post->∀ v W1,J pre.length W1->LnW W0 P Bp W1->LineAt W1 v x->YieldAt Fence.wide (mm - 1) Tryd.prog L #[v] W1 fun e W'=>e=.returned (.bool true)/\J (pre.length+1) W'/\LnK W0.heap.size W1 W')
    (W:World) (hW:LnW W0 P Bp W) (h0:J 0 W) :
    CallsIn Fence.wide mm Tryd.prog 24 #[.func (.yield L) #[] #[],.pointer (some ⟨Bp,0,none⟩)] W fun e W'=>(∃ v,e=.returned v)/\J (linesW m ps l).length W':=by
  have HP:Hid (∀ w,Below W0.heap.size W0 w->PadAt w P va vr pv fv/\0 < w.heap.size/\TabAt w/\TaskV w va vr pv fv m ps l):=fun w h=>⟨hP.below h,Nat.lt_of_lt_of_le hB h.size,hT.below h hB,hV.below h⟩
  obtain ⟨⟨_,hp0,hp1,hp2,hp3⟩,_,_,hTV⟩:=HP.out W hW.bel;obtain ⟨vo,vc,rfl,_⟩:=hTV.mo.1;obtain ⟨ro,rc,rfl,_⟩:=hTV.mo.2;obtain ⟨po,pc,rfl,_⟩:=hTV.ps;obtain ⟨fo,fc,rfl,_⟩:=hTV.fo;have hbx:=hW.cell;refine callsIn_of_wp Tryd.func24 rfl trivial ?_ rfl
  simp only [Tryd.ntmps24,List.size_toArray,List.length_cons,List.length_nil,Nat.reduceAdd,Nat.reduceSub,Array.replicate_succ,Array.replicate_zero,List.push_toArray,List.append_toArray,List.nil_append,List.cons_append];have hkf:=tk_fit hk;have hmc:=pc_mS (tk_zeroS hk).1
  have hgk0:∀ k,k < m.rules.length->kcode (m.vars.length:Int) (m.rules.getD k ru0).guard true=0:=fun k h=>rc_guard ((mcode_rulesS hmc).2 k h)
  have hkO:=hk;have hpk0:∀ k,k < ps.length->kcode (m.vars.length:Int) (ps.getD k []) true=0:=fun k h=>pc_props (tk_zeroS hk).1 h
  have hsk0:∀ k,k < m.rules.length->∀ j,j < (m.rules.getD k ru0).sets.length->kcode (m.vars.length:Int) ((m.rules.getD k ru0).sets.getD j st0).val false=0:=fun k h=>rc_sets ((mcode_rulesS hmc).2 k h)
  have HW:Hid (∀ w,LnW W0 P Bp w->J 0 w->J 0 w):=fun _ _ h=>h
  have HV0:Hid (TaskV W0 _ _ _ _ m ps l):=hV;have HJ:Hid (∀ k A B,J k A->Below A.heap.size A B->J k B):=hJ
  have HY:Hid (∀ pre x post,linesW m ps l=pre++x:: post->∀ v W1,J pre.length W1->LnW W0 P Bp W1->LineAt W1 v x->YieldAt Fence.wide (mm - 1) Tryd.prog L #[v] W1 fun e W'=>e=.returned (.bool true)/\J (pre.length+1) W'/\LnK W0.heap.size W1 W'):=hY
  obtain ⟨nv,hnv⟩:∃ nv,nv=m.vars.length:=⟨_,rfl⟩
  have HNv:Hid (nv=m.vars.length):=hnv;rw [<- hnv] at hp0;have hnv6:nv <= 6:=by rw [hnv];exact hkf.nv
  clear hnv
  gi_wp2
  clear hp0 hp1 hp2 hp3 hTV hB hT hP hV hJ hY hbx
  have HIt:Hid (∀ (w':World) (n:Int),-1000000 <= n/\n <= 1000000->Below W0.heap.size W0 w'->Calls Tryd.prog 25 #[.int .i64 n] w' fun e w2=>e=.returned (.string (itB n))/\Below w'.heap.size w' w2):=fun w' n hn h=>(sh_strconv_Itoa n (by omega) (by omega) w' (HP.out w' h).2.2.1.2.2).mono fun e w2 ⟨h1,k,os,h2⟩=>⟨h1,by rw [h2];exact grow_below⟩
  gi_loopw [18] (fun i wr=>∃ k:Nat,k <= nv/\i=.int .i64 (k:Int)/\Hid (J k wr/\LnW W0 P Bp wr)) (fun i _=>nv - (intOf i).toNat)
  case atStart=>exact ⟨0,Nat.zero_le _,rfl,h0,hW⟩
  case round=>
    obtain ⟨k,hk,rfl,HR⟩:=hrel;obtain ⟨hJk,hWr⟩:=HR.out;obtain ⟨_,_,_,hTV⟩:=HP.out wr hWr.bel
    by_cases hlt:k < nv
    · obtain ⟨vb,voff,hvo,hvl,hva⟩:∃ b off,vo=some ⟨b,off,none⟩/\b < wr.heap.size/\∀ i,i < nv->VarAt wr b (off+i*4) (m.vars.getD i vr0):=by
        obtain ⟨_,_,e1,_,h3⟩:=hTV.mo.1
        injection e1 with e2 _ _
        subst e2;rw [<- HNv.out] at h3;exact h3 (by omega)
      subst hvo;obtain ⟨c0,c1,c2,c3⟩:=hva k hlt;obtain ⟨pre,post,hpre,hlin⟩:=lines_var (ps:=ps) (l:=l) (show k < m.vars.length by rw [<- HNv.out];exact hlt)
      have hnum:=hkf.nums k (by rw [<- HNv.out];exact hlt)
      generalize m.vars.getD k vr0=v at *;have hki:(k:Int) < (nv:Int):=by omega
      gi_wp2
      rename_i K hK;have hA:Below wr.heap.size wr (wr.alloc (.cells #[.string v.name,.int .i64 v.lo,.int .i64 v.hi,.int .i64 v.ini] 57)):=(Below.refl _ _).alloc (Nat.le_refl _) _;have n0:(wr.alloc (.cells #[.string v.name,.int .i64 v.lo,.int .i64 v.hi,.int .i64 v.ini] 57)).cell? ⟨wr.heap.size,0,none⟩=some (.string v.name):=by simp [go_sem]
      have n1:(wr.alloc (.cells #[.string v.name,.int .i64 v.lo,.int .i64 v.hi,.int .i64 v.ini] 57)).cell? ⟨wr.heap.size,1,none⟩=some (.int .i64 v.lo):=by simp [go_sem]
      have n2:(wr.alloc (.cells #[.string v.name,.int .i64 v.lo,.int .i64 v.hi,.int .i64 v.ini] 57)).cell? ⟨wr.heap.size,2,none⟩=some (.int .i64 v.hi):=by simp [go_sem]
      have n3:(wr.alloc (.cells #[.string v.name,.int .i64 v.lo,.int .i64 v.hi,.int .i64 v.ini] 57)).cell? ⟨wr.heap.size,3,none⟩=some (.int .i64 v.ini):=by simp [go_sem]
      have hsz2:wr.heap.size < (wr.alloc (.cells #[.string v.name,.int .i64 v.lo,.int .i64 v.hi,.int .i64 v.ini] 57)).heap.size:=by simp
      have hb2:=hWr.bel.trans (hA.mono hWr.bel.size)
      have HN4:Hid (∀ w',Below (wr.alloc (.cells #[.string v.name,.int .i64 v.lo,.int .i64 v.hi,.int .i64 v.ini] 57)).heap.size (wr.alloc (.cells #[.string v.name,.int .i64 v.lo,.int .i64 v.hi,.int .i64 v.ini] 57)) w'->w'.cell? ⟨wr.heap.size,0,none⟩=some (.string v.name)/\w'.cell? ⟨wr.heap.size,1,none⟩=some (.int .i64 v.lo)/\w'.cell? ⟨wr.heap.size,2,none⟩=some (.int .i64 v.hi)/\w'.cell? ⟨wr.heap.size,3,none⟩=some (.int .i64 v.ini)):=fun w' h=>⟨(h.cell (p:=⟨_,0,none⟩) hsz2).trans n0,(h.cell (p:=⟨_,1,none⟩) hsz2).trans n1,(h.cell (p:=⟨_,2,none⟩) hsz2).trans n2,(h.cell (p:=⟨_,3,none⟩) hsz2).trans n3⟩
      clear n0 n1 n2 n3;generalize wr.alloc (.cells #[.string v.name,.int .i64 v.lo,.int .i64 v.hi,.int .i64 v.ini] 57)=W2 at *;generalize ha0:Act.mk _ _=a0;have hsz:a0.tmps.size=113:=by rw [<- ha0];rfl
      have a00:a0.eval (.tmp 0)=.func (.yield L) #[] #[]:=by rw [<- ha0];rfl
      have a04:a0.eval (.tmp 4)=.pointer (some ⟨wr.heap.size,0,none⟩):=by rw [<- ha0];rfl
      refine wp_anywayW (by rfl) [22,23,24,25,26,27,28,29,30,31,32,33,34,35,36] 13 (exP [.is (.func (.yield L) #[] #[]),.is (.pointer (some ⟨wr.heap.size,0,none⟩)),.is (.string v.name),.is (.pointer (some ⟨wr.heap.size,1,none⟩)),.is (.int .i64 v.lo),.is (.string (itB v.lo)),.is (.pointer (some ⟨wr.heap.size,2,none⟩)),.is (.int .i64 v.hi),.is (.string (itB v.hi)),.is (.pointer (some ⟨wr.heap.size,3,none⟩)),.is (.int .i64 v.ini),.is (.string (itB v.ini)),.line (varWd v)]) (by rw [hsz];rfl) (fun i v w w' hi=>exP_stable _ _ i v w w' hi) ?_ ?_
      · intro i o hi ho q w' hb hq
        have f:∀ t,[22,23,24,25,26,27,28,29,30,31,32,33,34,35,36].contains t=true->t < 113->(frm a0 [22,23,24,25,26,27,28,29,30,31,32,33,34,35,36] q).eval (.tmp t)=q t:=fun t h1 h2=>frm_in h1 (by rw [hsz];exact h2)
        have e0:(frm a0 [22,23,24,25,26,27,28,29,30,31,32,33,34,35,36] q).eval (.tmp 0)=.func (.yield L) #[] #[]:=(frm_out rfl).trans a00;have e4:(frm a0 [22,23,24,25,26,27,28,29,30,31,32,33,34,35,36] q).eval (.tmp 4)=.pointer (some ⟨wr.heap.size,0,none⟩):=(frm_out rfl).trans a04;obtain ⟨n0,n1,n2,n3⟩:=HN4.out w' hb
        obtain ⟨ev,hev⟩:∃ ev,ev=(frm a0 [22,23,24,25,26,27,28,29,30,31,32,33,34,35,36] q).eval:=⟨_,rfl⟩
        have evc:∀ v,ev (.const v)=v:=fun v=>by rw [hev];rfl
        have evf:∀ n,ev (.func n)=.func (.func n) #[] #[]:=fun n=>by rw [hev];rfl
        rw [<- hev] at f e0 e4;have hc:i=0\/i=1\/i=2\/i=3\/i=4\/i=5\/i=6\/i=7\/i=8\/i=9\/i=10\/i=11\/i=12:=by omega
        rcases hc with rfl | rfl | rfl | rfl | rfl | rfl | rfl | rfl | rfl | rfl | rfl | rfl | rfl
        all_goals obtain rfl:=Option.some.inj ho
        · refine op_val (w':=w') (v:=.func (.yield L) #[] #[]) ?_ (Below.refl _ _) rfl
          rw [<- hev];simp [execOp,e0,go_sem]
        · refine op_val (w':=w') (v:=.pointer (some ⟨wr.heap.size,0,none⟩)) ?_ (Below.refl _ _) rfl
          rw [<- hev];simp [execOp,e4,go_sem]
        · have e23:=(f 23 rfl (by decide)).trans (hq 1 23 rfl rfl)
          refine op_val (w':=w') (v:=.string v.name) ?_ (Below.refl _ _) rfl
          rw [<- hev];simp [execOp,e23,n0,go_sem]
        · refine op_val (w':=w') (v:=.pointer (some ⟨wr.heap.size,1,none⟩)) ?_ (Below.refl _ _) rfl
          rw [<- hev];simp [execOp,e4,go_sem]
        · have e25:=(f 25 rfl (by decide)).trans (hq 3 25 rfl rfl)
          refine op_val (w':=w') (v:=.int .i64 v.lo) ?_ (Below.refl _ _) rfl
          rw [<- hev];simp [execOp,e25,n1,go_sem]
        · have e26:=(f 26 rfl (by decide)).trans (hq 4 26 rfl rfl)
          refine op_call (f:=25) (args:=#[.int .i64 v.lo]) ?_ ((HIt.out w' v.lo hnum.1 (hb2.trans (hb.mono hb2.size))).mono ?_)
          · rw [<- hev];simp [execOp,e26,evf,go_sem]
          · rintro e w2 ⟨rfl,hb3⟩
            exact ⟨_,rfl,hb3,rfl⟩
        · refine op_val (w':=w') (v:=.pointer (some ⟨wr.heap.size,2,none⟩)) ?_ (Below.refl _ _) rfl
          rw [<- hev];simp [execOp,e4,go_sem]
        · have e28:=(f 28 rfl (by decide)).trans (hq 6 28 rfl rfl)
          refine op_val (w':=w') (v:=.int .i64 v.hi) ?_ (Below.refl _ _) rfl
          rw [<- hev];simp [execOp,e28,n2,go_sem]
        · have e29:=(f 29 rfl (by decide)).trans (hq 7 29 rfl rfl)
          refine op_call (f:=25) (args:=#[.int .i64 v.hi]) ?_ ((HIt.out w' v.hi hnum.2.1 (hb2.trans (hb.mono hb2.size))).mono ?_)
          · rw [<- hev];simp [execOp,e29,evf,go_sem]
          · rintro e w2 ⟨rfl,hb3⟩
            exact ⟨_,rfl,hb3,rfl⟩
        · refine op_val (w':=w') (v:=.pointer (some ⟨wr.heap.size,3,none⟩)) ?_ (Below.refl _ _) rfl
          rw [<- hev];simp [execOp,e4,go_sem]
        · have e31:=(f 31 rfl (by decide)).trans (hq 9 31 rfl rfl)
          refine op_val (w':=w') (v:=.int .i64 v.ini) ?_ (Below.refl _ _) rfl
          rw [<- hev];simp [execOp,e31,n3,go_sem]
        · have e32:=(f 32 rfl (by decide)).trans (hq 10 32 rfl rfl)
          refine op_call (f:=25) (args:=#[.int .i64 v.ini]) ?_ ((HIt.out w' v.ini hnum.2.2 (hb2.trans (hb.mono hb2.size))).mono ?_)
          · rw [<- hev];simp [execOp,e32,evf,go_sem]
          · rintro e w2 ⟨rfl,hb3⟩
            exact ⟨_,rfl,hb3,rfl⟩
        · have e24:=(f 24 rfl (by decide)).trans (hq 2 24 rfl rfl)
          have e27:=(f 27 rfl (by decide)).trans (hq 5 27 rfl rfl)
          have e30:=(f 30 rfl (by decide)).trans (hq 8 30 rfl rfl)
          have e33:=(f 33 rfl (by decide)).trans (hq 11 33 rfl rfl)
          refine op_val (v:=.slice (some ⟨w'.heap.size,0,none⟩) 5 5) (w':=w'.alloc (.cells #[.string bVar,.string v.name,.string (itB v.lo),.string (itB v.hi),.string (itB v.ini)] 9)) ?_ ((Below.refl _ _).alloc (Nat.le_refl _) _) (line_new w' _ (varWd v) _ (fun j y hj=>by
            have hlt:j < 5:=(List.getElem?_eq_some_iff.1 hj).1
            rcases (show j=0\/j=1\/j=2\/j=3\/j=4 by omega) with rfl | rfl | rfl | rfl | rfl <;> (injection hj with hj;subst hj;rfl)))
          rw [<- hev];simp [execOp,e24,e27,e30,e33,evc,go_sem,bVar]
      · intro q w' hb hq
        have f:∀ q t,[22,23,24,25,26,27,28,29,30,31,32,33,34,35,36].contains t=true->t < 113->(frm a0 [22,23,24,25,26,27,28,29,30,31,32,33,34,35,36] q).eval (.tmp t)=q t:=fun q t h1 h2=>frm_in h1 (by rw [hsz];exact h2)
        have hln:LineAt w' (q 34) (varWd v):=hq 12 34 (by decide) rfl
        have e22:=(f q 22 rfl (by decide)).trans (hq 0 22 (by decide) rfl)
        have e34:=f q 34 rfl (by decide)
        have hb':=hA.trans (hb.mono hA.size);obtain ⟨fn,tmps,assign,body,hy,hR⟩:=HY.out pre _ post hlin (q 34) w' (by rw [hpre];exact HJ.out k wr w' hJk hb') (hWr.keep hb') hln
        show wpOpsIn Fence.wide _ Tryd.prog _ _ [13,14] _ _
        rw [wpOpsIn_cons];refine op_yield rfl rfl ?_ hR ?_
        · generalize (frm a0 [22,23,24,25,26,27,28,29,30,31,32,33,34,35,36] q).eval=ev at e22 e34 ⊢
          simp [execOp,e22,e34,go_sem,hy]
        rintro e w3 ⟨rfl,hJ3,hK3⟩
        refine ⟨_,rfl,?_⟩
        rw [late_put 35 rfl rfl,wpOpsIn_cons];refine op_atW rfl rfl ?_
        have e35:=(f (setV q 35 (.bool true)) 35 rfl (by decide)).trans (setV_same _ _ _)
        refine op_run (w':=w3) (v:=.bool false) ?_ ?_
        · generalize (frm a0 [22,23,24,25,26,27,28,29,30,31,32,33,34,35,36] (setV q 35 (.bool true))).eval=ev at e35 ⊢
          simp [execOp,e35,go_sem]
        rw [late_put 36 rfl rfl]
        show K _ _
        refine hK _ _ ?_
        have HW3:Hid (LnW W0 P Bp w3):=(hWr.keep hb').round hK3;have HJ3:Hid (J (k+1) w3):=by rw [hpre] at hJ3;exact hJ3
        have e36:setV (setV q 35 (.bool true)) 36 (.bool false) 36=.bool false:=setV_same _ _ _;generalize setV (setV q 35 (.bool true)) 36 (.bool false)=q2 at *;rw [<- ha0];simp [frm,mix,e36]
        gi_wp2
        go_roundw
        case rel=>exact ⟨k+1,by omega,by first | rfl | simp,HJ3.out,HW3.out⟩
        case measure=>simp [intOf];omega
    · obtain rfl:nv=k:=by omega
      obtain ⟨⟨_,hp0,hp1,hp2,hp3⟩,_,_,_⟩:=HP.out wr hWr.bel;have hbx:=hWr.cell;obtain ⟨nr,hnr⟩:∃ nr,nr=m.rules.length:=⟨_,rfl⟩
      have HNr:Hid (nr=m.rules.length):=hnr;rw [<- hnr] at hp1;have hnr12:nr <= 12:=by rw [hnr];exact hkf.nr
      clear hnr;have HJ0:Hid (J (posR m 0) wr/\LnW W0 P Bp wr):=⟨by rw [posR_zero,<- HNv.out];exact hJk,hWr⟩
      gi_wp2
      clear hp0 hp1 hp2 hp3 hTV hbx hJk hWr HR
      gi_loopw [45] (fun i wr=>∃ k:Nat,k <= nr/\i=.int .i64 (k:Int)/\Hid (J (posR m k) wr/\LnW W0 P Bp wr)) (fun i _=>nr - (intOf i).toNat)
      case atStart=>exact ⟨0,Nat.zero_le _,rfl,HJ0⟩
      case round=>
        obtain ⟨k,hk,rfl,HR⟩:=hrel;obtain ⟨hJk,hWr⟩:=HR.out;obtain ⟨⟨_,hp0,hp1,hp2,hp3⟩,hB,hT,hTV⟩:=HP.out wr hWr.bel;have hbx:=hWr.cell
        by_cases hlt:k < nr
        · obtain ⟨rb,roff,hro,hrl,hra⟩:∃ b off,ro=some ⟨b,off,none⟩/\b < W0.heap.size/\∀ i,i < nr->RuleAt W0 b (off+i*2) (m.rules.getD i ru0):=by
            obtain ⟨_,_,e1,_,h3⟩:=HV0.out.mo.2
            injection e1 with e2 _ _
            subst e2;rw [<- HNr.out] at h3;exact h3 (by omega)
          subst hro;have hkr:k < m.rules.length:=by rw [<- HNr.out];exact hlt
          obtain ⟨⟨gu,hg00,hgV0⟩,su,hs00,hsV0⟩:=hra k hlt;have hg0:=(hWr.bel.cell (p:=⟨rb,_,none⟩) hrl).trans hg00;have hs0:=(hWr.bel.cell (p:=⟨rb,_,none⟩) hrl).trans hs00;obtain ⟨pre,post,hpre,hlin⟩:=lines_rule (ps:=ps) (l:=l) hkr;have hgf:=hkf.guard k hkr;have hns6:=hkf.nsets k hkr;have hgk:=hgk0 k hkr;have hskk:=hsk0 k hkr
          have HSt:Hid (∀ j,j < (m.rules.getD k ru0).sets.length->(∃ pre post,pre.length=posR m k+1+j/\linesW m ps l=pre++setWd m.vars ((m.rules.getD k ru0).sets.getD j st0):: post)/\(0 <= ((m.rules.getD k ru0).sets.getD j st0).var/\((m.rules.getD k ru0).sets.getD j st0).var < m.vars.length)/\TermFit m.vars ((m.rules.getD k ru0).sets.getD j st0).val):=fun j hj=>⟨lines_set hkr hj,hkf.setv k hkr j hj⟩
          have HSu:Hid (posR m (k+1)=posR m k+1+(m.rules.getD k ru0).sets.length):=posR_succ hkr;generalize m.rules.getD k ru0=r at *;have hki:(k:Int) < (nr:Int):=by omega
          obtain ⟨go,gc,rfl,_⟩:=id hgV0;obtain ⟨so,sc,rfl,_⟩:=id hsV0;have hns:r.sets.length <= 6:=hns6;generalize hW2:wr.alloc (.cells #[.slice go r.guard.length gc,.slice so r.sets.length sc] 61)=W2;have hA:Below wr.heap.size wr W2:=by rw [<- hW2];exact (Below.refl _ _).alloc (Nat.le_refl _) _
          have hS:W2.heap[wr.heap.size]? = some (.cells #[.slice go r.guard.length gc,.slice so r.sets.length sc] 61 (0,0)):=by rw [<- hW2];exact heap_new _ _
          have hW2w:=hWr.keep hA;have hbx2:=hW2w.cell;have s0:W2.cell? ⟨wr.heap.size,0,none⟩=some (.slice go r.guard.length gc):=by unfold World.cell?;rw [hS];rfl
          have hA3:Below W2.heap.size W2 (W2.alloc (.cells #[.string bRule] 9)):=(Below.refl _ _).alloc (Nat.le_refl _) _;have hb3:=hA.trans (hA3.mono hA.size)
          have HWd:Hid (Calls Tryd.prog 26 #[.pointer (some ⟨P,0,none⟩),.slice go r.guard.length gc,.slice (some ⟨W2.heap.size,0,none⟩) 1 1] (W2.alloc (.cells #[.string bRule] 9)) fun e w'=>∃ v,e=.returned v/\Below (W2.alloc (.cells #[.string bRule] 9)).heap.size (W2.alloc (.cells #[.string bRule] 9)) w'/\Hid (LineAt w' v (ruleWd m.vars r))):=by
            obtain ⟨hPd,h0',hT',hV'⟩:=HP.out _ ((hWr.keep hb3).bel);refine (swords_any P W2.heap.size 0 1 _ _ _ _ _ m r.guard [bRule] _ h0' hT' hPd hV'.mo (hgV0.below ((hWr.keep hb3).bel)) hgf (kinds_k hgk) (by simp) (fun j hj=>?_)).mono fun e w' ⟨v,e1,e2,e3⟩=>⟨v,e1,e2,LineAt.own e3.out (by simp [ruleWd])⟩
            obtain rfl:j=0:=by simp at hj;omega
            simp [go_sem]
          simp only [bRule] at HWd;have HA3:Hid (Below wr.heap.size wr (W2.alloc (.cells #[.string ⟨#[114,117,108,101]⟩] 9))):=hb3;have hS3:Hid ((W2.alloc (.cells #[.string ⟨#[114,117,108,101]⟩] 9)).heap[wr.heap.size]? = some (.cells #[.slice go r.guard.length gc,.slice so r.sets.length sc] 61 (0,0))):=(hA3.block _ (Array.getElem?_eq_some_iff.1 hS).1).trans hS
          clear hb3 hA3 hp0 hp1 hp2 hp3 hbx hT hB hTV hra
          gi_wp2
          refine ⟨trivial,fun h=>by simp [Fence.wide] at h,callsIn_wide.2 (HWd.out.mono ?_)⟩
          rintro e w4 ⟨v,rfl,hb4,hln⟩
          have hb04:=HA3.out.trans (hb4.mono HA3.out.size);have hS4:=(hb4.block _ (Array.getElem?_eq_some_iff.1 hS3.out).1).trans hS3.out
          have hW4:=hWr.keep hb04;obtain ⟨fn,tmps,assign,body,hy,hR⟩:=HY.out pre _ post hlin v w4 (by rw [hpre];exact HJ.out _ wr w4 hJk hb04) hW4 hln.out
          clear hln hbx2 s0 hlin
          gi_wp2
          refine ⟨fun h=>by simp [Fence.wide] at h,hR.mono ?_⟩
          rintro e w5 ⟨rfl,hJ5,hK5⟩
          have hS5:=hK5.2 _ _ _ (.inr rfl) hS4;have hW5:=hW4.round hK5;have s1:w5.cell? ⟨wr.heap.size,1,none⟩=some (.slice so r.sets.length sc):=by unfold World.cell?;rw [hS5];rfl
          rw [hpre] at hJ5;have HJ5:Hid (J (posR m k+1+0) w5/\LnW W0 P Bp w5):=⟨hJ5,hW5⟩;obtain ⟨ns,hnse⟩:∃ ns,ns=r.sets.length:=⟨_,rfl⟩
          have HNs:Hid (ns=r.sets.length):=hnse;rw [<- hnse] at s1 hns;clear hnse hy hR hK5 hJ5 hS hS4 hS5 hW2 hA hb4 hb04 hW4 hW5 hW2w HWd hS3 hns6
          gi_wp2
          clear s1
          gi_loopw [60] (fun i wz=>∃ j:Nat,j <= ns/\i=.int .i64 (j:Int)/\Hid (J (posR m k+1+j) wz/\LnW W0 P Bp wz)) (fun i _=>ns - (intOf i).toNat)
          case atStart=>exact ⟨0,Nat.zero_le _,rfl,HJ5⟩
          case round=>
            obtain ⟨j,hj,rfl,HR⟩:=hrel;obtain ⟨hJk,hWr⟩:=HR.out
            by_cases hlj:j < ns
            · obtain ⟨sb,soff,hso,hsl,hsa⟩:∃ b off,so=some ⟨b,off,none⟩/\b < W0.heap.size/\∀ i,i < ns->SetAt W0 b (off+i*2) (r.sets.getD i st0):=by
                obtain ⟨_,_,e1,_,h3⟩:=hsV0
                injection e1 with e2 _ _
                subst e2;rw [<- HNs.out] at h3;exact h3 (by omega)
              subst hso;obtain ⟨⟨pre,post,hpre,hlin⟩,hsv,hsf⟩:=HSt.out j (by rw [<- HNs.out];exact hlj)
              obtain ⟨y0,xu,y1,hxV⟩:=hsa j hlj;have hkk:=hskk j (by rw [<- HNs.out];exact hlj)
              generalize r.sets.getD j st0=s at *;obtain ⟨svi,sval⟩:=s;simp only at hsv hsf y0 hxV hkk
              obtain ⟨sv,rfl⟩:∃ n:Nat,svi=(n:Int):=⟨svi.toNat,by omega⟩
              obtain ⟨xo,xc,rfl,_⟩:=id hxV
              obtain ⟨vb,voff,hvo,hvl,hva⟩:∃ b off,vo=some ⟨b,off,none⟩/\b < W0.heap.size/\∀ i,i < m.vars.length->VarAt W0 b (off+i*4) (m.vars.getD i vr0):=by
                obtain ⟨_,_,e1,_,h3⟩:=HV0.out.mo.1
                injection e1 with e2 _ _
                subst e2;exact h3 (by omega)
              subst hvo;have hsv6:sv < nv:=by have:=HNv.out;omega
              obtain ⟨nm,hnmE⟩:∃ nm,nm=(m.vars.getD sv vr0).name:=⟨_,rfl⟩
              have HNm:Hid (∀ w,Below W0.heap.size W0 w->w.cell? ⟨vb,voff+sv*4,none⟩=some (.string nm)):=fun w h=>by rw [hnmE];exact (h.cell (p:=⟨vb,_,none⟩) hvl).trans (hva sv (by have:=HNv.out;omega)).1
              obtain ⟨sw,hswE⟩:∃ sw,sw=setWd m.vars ⟨(sv:Int),sval⟩:=⟨_,rfl⟩
              have hsw2:sw=[bSet,nm]++wordsB m.vars sval:=by rw [hswE,hnmE];rfl
              rw [<- hswE] at hlin;have z0:=(hWr.bel.cell (p:=⟨sb,_,none⟩) hsl).trans y0;have z1:=(hWr.bel.cell (p:=⟨sb,_,none⟩) hsl).trans y1;obtain ⟨xn,hxn⟩:∃ xn,xn=sval.length:=⟨_,rfl⟩
              have HWs:Hid (∀ (w':World) (b2 c2:Nat),LnW W0 P Bp w'->(∀ (j:Nat) y,[bSet,nm][j]? = some y->w'.cell? ⟨b2,j,none⟩=some (.string y))->Calls Tryd.prog 26 #[.pointer (some ⟨P,0,none⟩),.slice xo xn xc,.slice (some ⟨b2,0,none⟩) 2 c2] w' fun e w2=>∃ v,e=.returned v/\Below w'.heap.size w' w2/\Hid (LineAt w2 v sw)):=fun w' b2 c2 hw hcl=>by
                obtain ⟨hPd,h0',hT',hV'⟩:=HP.out w' hw.bel;rw [hxn];refine (swords_any P b2 0 c2 _ _ _ _ _ m sval [bSet,nm] w' h0' hT' hPd hV'.mo (hxV.below hw.bel) hsf (kinds_k hkk) (by simp) (fun j hj=>?_)).mono fun e w2 ⟨v,e1,e2,e3⟩=>⟨v,e1,e2,by show LineAt _ _ _;rw [hsw2];exact LineAt.own e3.out (by simp)⟩
                rw [Nat.zero_add];exact hcl j _ (by rw [List.getD_eq_getElem?_getD,List.getElem?_eq_getElem hj,Option.getD_some])
              rw [<- hxn] at z1;have hlji:(j:Int) < (ns:Int):=by omega
              clear hxn hnmE hswE hsw2 y0 y1 hva hsa hxV hkk hsf
              gi_wp2
              rename_i K hK;have hA:Below wr.heap.size wr (wr.alloc (.cells #[.int .i64 (sv:Int),.slice xo xn xc] 64)):=(Below.refl _ _).alloc (Nat.le_refl _) _
              have HT2:Hid (∀ w',Below (wr.alloc (.cells #[.int .i64 (sv:Int),.slice xo xn xc] 64)).heap.size (wr.alloc (.cells #[.int .i64 (sv:Int),.slice xo xn xc] 64)) w'->w'.cell? ⟨wr.heap.size,0,none⟩=some (.int .i64 (sv:Int))/\w'.cell? ⟨wr.heap.size,1,none⟩=some (.slice xo xn xc)):=fun w' h=>by
                have h1:=(h.block wr.heap.size (by simp)).trans (heap_new wr (.cells #[.int .i64 (sv:Int),.slice xo xn xc] 64))
                exact ⟨by unfold World.cell?;rw [h1];rfl,by unfold World.cell?;rw [h1];rfl⟩
              have hW2w:=hWr.keep hA;generalize wr.alloc (.cells #[.int .i64 (sv:Int),.slice xo xn xc] 64)=W2 at *;generalize ha0:Act.mk _ _=a0;have hsz:a0.tmps.size=113:=by rw [<- ha0];rfl
              have aY:a0.eval (.tmp 0)=.func (.yield L) #[] #[]:=by rw [<- ha0];rfl
              have aB:a0.eval (.tmp 1)=.pointer (some ⟨Bp,0,none⟩):=by rw [<- ha0];rfl
              have aT:a0.eval (.tmp 8)=.pointer (some ⟨wr.heap.size,0,none⟩):=by rw [<- ha0];rfl
              refine wp_anywayW (by rfl) [64,65,66,67,68,69,70,71,72,73,74,75,76,77,78,79,80,81,82] 17 (exP [.is (.func (.yield L) #[] #[]),.is (.pointer (some ⟨P,0,none⟩)),.is (.pointer (some ⟨wr.heap.size,1,none⟩)),.is (.slice xo xn xc),.is (.pointer (some ⟨P,0,none⟩)),.is (.pointer (some ⟨P,0,none⟩)),.is (.pointer (some ⟨P,0,none⟩)),.is (.pointer (some ⟨P,0,none⟩)),.is (.pointer (some ⟨P,0,none⟩)),.is (.slice (some ⟨vb,voff,none⟩) nv vc),.is (.pointer (some ⟨wr.heap.size,0,none⟩)),.is (.int .i64 (sv:Int)),.is (.pointer (some ⟨vb,voff+sv*4,none⟩)),.is (.pointer (some ⟨vb,voff+sv*4,none⟩)),.is (.string nm),.line [bSet,nm],.line sw]) (by rw [hsz];rfl) (fun i v w w' hi=>exP_stable _ _ i v w w' hi) ?_ ?_
              · intro i o hi ho q w' hb hq
                have f:∀ t,[64,65,66,67,68,69,70,71,72,73,74,75,76,77,78,79,80,81,82].contains t=true->t < 113->(frm a0 [64,65,66,67,68,69,70,71,72,73,74,75,76,77,78,79,80,81,82] q).eval (.tmp t)=q t:=fun t h1 h2=>frm_in h1 (by rw [hsz];exact h2)
                have eY:(frm a0 [64,65,66,67,68,69,70,71,72,73,74,75,76,77,78,79,80,81,82] q).eval (.tmp 0)=.func (.yield L) #[] #[]:=(frm_out rfl).trans aY;have eB:(frm a0 [64,65,66,67,68,69,70,71,72,73,74,75,76,77,78,79,80,81,82] q).eval (.tmp 1)=.pointer (some ⟨Bp,0,none⟩):=(frm_out rfl).trans aB
                have eT:(frm a0 [64,65,66,67,68,69,70,71,72,73,74,75,76,77,78,79,80,81,82] q).eval (.tmp 8)=.pointer (some ⟨wr.heap.size,0,none⟩):=(frm_out rfl).trans aT;have hbw:=hW2w.keep hb;have hx:=hbw.cell;obtain ⟨⟨_,hp0,_,_,_⟩,_,_,_⟩:=HP.out w' hbw.bel;rw [<- HNv.out] at hp0;obtain ⟨t0,t1⟩:=HT2.out w' hb
                have hnm:=HNm.out w' hbw.bel;obtain ⟨ev,hev⟩:∃ ev,ev=(frm a0 [64,65,66,67,68,69,70,71,72,73,74,75,76,77,78,79,80,81,82] q).eval:=⟨_,rfl⟩
                have evc:∀ v,ev (.const v)=v:=fun v=>by rw [hev];rfl
                have evf:∀ n,ev (.func n)=.func (.func n) #[] #[]:=fun n=>by rw [hev];rfl
                rw [<- hev] at f eY eB eT;have hc:i=0\/i=1\/i=2\/i=3\/i=4\/i=5\/i=6\/i=7\/i=8\/i=9\/i=10\/i=11\/i=12\/i=13\/i=14\/i=15\/i=16:=by omega
                rcases hc with rfl | rfl | rfl | rfl | rfl | rfl | rfl | rfl | rfl | rfl | rfl | rfl | rfl | rfl | rfl | rfl | rfl
                all_goals obtain rfl:=Option.some.inj ho
                · refine op_val (w':=w') (v:=(.func (.yield L) #[] #[])) ?_ (Below.refl _ _) rfl
                  rw [<- hev];simp [execOp,eY,go_sem]
                · refine op_val (w':=w') (v:=(.pointer (some ⟨P,0,none⟩))) ?_ (Below.refl _ _) rfl
                  rw [<- hev];simp [execOp,eB,hx,go_sem]
                · refine op_val (w':=w') (v:=(.pointer (some ⟨wr.heap.size,1,none⟩))) ?_ (Below.refl _ _) rfl
                  rw [<- hev];simp [execOp,eT,go_sem]
                · have e66:=(f 66 rfl (by decide)).trans (hq 2 66 rfl rfl)
                  refine op_val (w':=w') (v:=(.slice xo xn xc)) ?_ (Below.refl _ _) rfl
                  rw [<- hev];simp [execOp,e66,t1,go_sem]
                · refine op_val (w':=w') (v:=(.pointer (some ⟨P,0,none⟩))) ?_ (Below.refl _ _) rfl
                  rw [<- hev];simp [execOp,eB,hx,go_sem]
                · have e68:=(f 68 rfl (by decide)).trans (hq 4 68 rfl rfl)
                  refine op_val (w':=w') (v:=(.pointer (some ⟨P,0,none⟩))) ?_ (Below.refl _ _) rfl
                  rw [<- hev];simp [execOp,e68,go_sem]
                · have e69:=(f 69 rfl (by decide)).trans (hq 5 69 rfl rfl)
                  refine op_val (w':=w') (v:=(.pointer (some ⟨P,0,none⟩))) ?_ (Below.refl _ _) rfl
                  rw [<- hev];simp [execOp,e69,go_sem]
                · have e70:=(f 70 rfl (by decide)).trans (hq 6 70 rfl rfl)
                  refine op_val (w':=w') (v:=(.pointer (some ⟨P,0,none⟩))) ?_ (Below.refl _ _) rfl
                  rw [<- hev];simp [execOp,e70,go_sem]
                · have e71:=(f 71 rfl (by decide)).trans (hq 7 71 rfl rfl)
                  refine op_val (w':=w') (v:=(.pointer (some ⟨P,0,none⟩))) ?_ (Below.refl _ _) rfl
                  rw [<- hev];simp [execOp,e71,go_sem]
                · have e72:=(f 72 rfl (by decide)).trans (hq 8 72 rfl rfl)
                  refine op_val (w':=w') (v:=(.slice (some ⟨vb,voff,none⟩) nv vc)) ?_ (Below.refl _ _) rfl
                  rw [<- hev];simp [execOp,e72,hp0,go_sem]
                · refine op_val (w':=w') (v:=(.pointer (some ⟨wr.heap.size,0,none⟩))) ?_ (Below.refl _ _) rfl
                  rw [<- hev];simp [execOp,eT,go_sem]
                · have e74:=(f 74 rfl (by decide)).trans (hq 10 74 rfl rfl)
                  refine op_val (w':=w') (v:=(.int .i64 (sv:Int))) ?_ (Below.refl _ _) rfl
                  rw [<- hev];simp [execOp,e74,t0,go_sem]
                · have e73:=(f 73 rfl (by decide)).trans (hq 9 73 rfl rfl)
                  have e75:=(f 75 rfl (by decide)).trans (hq 11 75 rfl rfl)
                  refine op_val (w':=w') (v:=(.pointer (some ⟨vb,voff+sv*4,none⟩))) ?_ (Below.refl _ _) rfl
                  rw [<- hev];simp [execOp,e73,e75,go_sem]
                  omega
                · have e76:=(f 76 rfl (by decide)).trans (hq 12 76 rfl rfl)
                  refine op_val (w':=w') (v:=(.pointer (some ⟨vb,voff+sv*4,none⟩))) ?_ (Below.refl _ _) rfl
                  rw [<- hev];simp [execOp,e76,go_sem]
                · have e77:=(f 77 rfl (by decide)).trans (hq 13 77 rfl rfl)
                  refine op_val (w':=w') (v:=(.string nm)) ?_ (Below.refl _ _) rfl
                  rw [<- hev];simp [execOp,e77,hnm,go_sem]
                · have e78:=(f 78 rfl (by decide)).trans (hq 14 78 rfl rfl)
                  refine op_val (v:=.slice (some ⟨w'.heap.size,0,none⟩) 2 2) (w':=w'.alloc (.cells #[.string bSet,.string nm] 9)) ?_ ((Below.refl _ _).alloc (Nat.le_refl _) _) (line_new w' _ [bSet,nm] _ (fun j y hj=>by
                    have hlt:j < 2:=(List.getElem?_eq_some_iff.1 hj).1
                    rcases (show j=0\/j=1 by omega) with rfl | rfl <;> (injection hj with hj;subst hj;rfl)))
                  rw [<- hev];simp [execOp,e78,evc,go_sem,bSet]
                · have e65:=(f 65 rfl (by decide)).trans (hq 1 65 rfl rfl)
                  have e67:=(f 67 rfl (by decide)).trans (hq 3 67 rfl rfl)
                  have e79h:LineAt w' (q 79) [bSet,nm]:=hq 15 79 rfl rfl;have e79:=f 79 rfl (by decide)
                  obtain ⟨b2,c2,he79,_,hb2l,hcl⟩:=e79h;rw [he79] at e79;refine op_call (f:=26) (args:=#[.pointer (some ⟨P,0,none⟩),.slice xo xn xc,.slice (some ⟨b2,0,none⟩) 2 c2]) ?_ ((HWs.out w' b2 c2 hbw hcl).mono ?_)
                  · rw [<- hev];simp [execOp,e65,e67,e79,evf,go_sem]
                  · rintro e w2 ⟨v,rfl,hb3,hln⟩
                    exact ⟨_,rfl,hb3,hln.out⟩
              · intro q w' hb hq
                have f:∀ q t,[64,65,66,67,68,69,70,71,72,73,74,75,76,77,78,79,80,81,82].contains t=true->t < 113->(frm a0 [64,65,66,67,68,69,70,71,72,73,74,75,76,77,78,79,80,81,82] q).eval (.tmp t)=q t:=fun q t h1 h2=>frm_in h1 (by rw [hsz];exact h2)
                have hln:LineAt w' (q 80) sw:=hq 16 80 (by decide) rfl
                have e64:=(f q 64 rfl (by decide)).trans (hq 0 64 (by decide) rfl)
                have e80:=f q 80 rfl (by decide)
                have hb':=hA.trans (hb.mono hA.size);obtain ⟨fn,tmps,assign,body,hy,hR⟩:=HY.out pre _ post hlin (q 80) w' (by rw [hpre];exact HJ.out _ wr w' hJk hb') (hWr.keep hb') hln
                show wpOpsIn Fence.wide _ Tryd.prog _ _ [17,18] _ _
                rw [wpOpsIn_cons];refine op_yield rfl rfl ?_ hR ?_
                · generalize (frm a0 [64,65,66,67,68,69,70,71,72,73,74,75,76,77,78,79,80,81,82] q).eval=ev at e64 e80 ⊢
                  simp [execOp,e64,e80,go_sem,hy]
                rintro e w3 ⟨rfl,hJ3,hK3⟩
                refine ⟨_,rfl,?_⟩
                rw [late_put 81 rfl rfl,wpOpsIn_cons];refine op_atW rfl rfl ?_
                have e81:=(f (setV q 81 (.bool true)) 81 rfl (by decide)).trans (setV_same _ _ _)
                refine op_run (w':=w3) (v:=.bool false) ?_ ?_
                · generalize (frm a0 [64,65,66,67,68,69,70,71,72,73,74,75,76,77,78,79,80,81,82] (setV q 81 (.bool true))).eval=ev at e81 ⊢
                  simp [execOp,e81,go_sem]
                rw [late_put 82 rfl rfl]
                show K _ _
                refine hK _ _ ?_
                have HW3:Hid (LnW W0 P Bp w3):=(hWr.keep hb').round hK3;have HJ3:Hid (J (posR m k+1+(j+1)) w3):=by rw [hpre] at hJ3;exact hJ3
                have e82:setV (setV q 81 (.bool true)) 82 (.bool false) 82=.bool false:=setV_same _ _ _;generalize setV (setV q 81 (.bool true)) 82 (.bool false)=q2 at *;rw [<- ha0];simp [frm,mix,e82]
                gi_wp2
                go_roundw
                case rel=>exact ⟨j+1,by omega,by first | rfl | simp,HJ3.out,HW3.out⟩
                case measure=>simp [intOf];omega
            · obtain rfl:j=ns:=by omega
              have HRn:Hid (J (posR m (k+1)) wr/\LnW W0 P Bp wr):=⟨by rw [HSu.out,<- HNs.out];exact hJk,hWr⟩
              gi_wp2
              go_roundw
              case rel=>exact ⟨k+1,by omega,by first | rfl | simp,HRn⟩
              case measure=>simp [intOf];omega
        · obtain rfl:nr=k:=by omega
          obtain ⟨np,hnp⟩:∃ np,np=ps.length:=⟨_,rfl⟩
          have HNp:Hid (np=ps.length):=hnp;rw [<- hnp] at hp2;have hnp6:np <= 6:=by rw [hnp];exact hkf.np
          clear hnp;have HJ0:Hid (J (posR m m.rules.length+0) wr/\LnW W0 P Bp wr):=⟨by rw [<- HNr.out];exact hJk,hWr⟩
          gi_wp2
          clear hp0 hp1 hp2 hp3 hTV hbx hJk hWr HR hB hT
          gi_loopw [91] (fun i wr=>∃ k:Nat,k <= np/\i=.int .i64 (k:Int)/\Hid (J (posR m m.rules.length+k) wr/\LnW W0 P Bp wr)) (fun i _=>np - (intOf i).toNat)
          case atStart=>exact ⟨0,Nat.zero_le _,rfl,HJ0⟩
          case round=>
            obtain ⟨k,hk,rfl,HR⟩:=hrel;obtain ⟨hJk,hWr⟩:=HR.out;obtain ⟨⟨_,hp0,hp1,hp2,hp3⟩,hB,hT,hTV⟩:=HP.out wr hWr.bel;have hbx:=hWr.cell
            by_cases hlt:k < np
            · obtain ⟨pb,poff,hpo,hpl,hpa⟩:∃ b off,po=some ⟨b,off,none⟩/\b < W0.heap.size/\∀ i,i < np->∃ u,W0.cell? ⟨b,off+i,none⟩=some u/\OpsV W0 u (ps.getD i []):=by
                obtain ⟨_,_,e1,h3⟩:=HV0.out.ps
                injection e1 with e2 _ _
                subst e2;rw [HNp.out];exact h3 (fun e=>by have:=HNp.out;rw [e] at this;simp at this;omega)
              subst hpo;have hkp:k < ps.length:=by rw [<- HNp.out];exact hlt
              obtain ⟨pu,hq00,hqV0⟩:=hpa k hlt;have hq0:=(hWr.bel.cell (p:=⟨pb,_,none⟩) hpl).trans hq00;obtain ⟨pre,post,hpre,hlin⟩:=lines_prop (m:=m) (l:=l) hkp;have hgf:=hkf.props k hkp;have hgk:=hpk0 k hkp;generalize ps.getD k []=pr at *;have hki:(k:Int) < (np:Int):=by omega
              obtain ⟨qo,qc,rfl,_⟩:=id hqV0;have hA3:Below wr.heap.size wr (wr.alloc (.cells #[.string bProp] 9)):=(Below.refl _ _).alloc (Nat.le_refl _) _
              have HWd:Hid (Calls Tryd.prog 26 #[.pointer (some ⟨P,0,none⟩),.slice qo pr.length qc,.slice (some ⟨wr.heap.size,0,none⟩) 1 1] (wr.alloc (.cells #[.string bProp] 9)) fun e w'=>∃ v,e=.returned v/\Below (wr.alloc (.cells #[.string bProp] 9)).heap.size (wr.alloc (.cells #[.string bProp] 9)) w'/\Hid (LineAt w' v (propWd m.vars pr))):=by
                obtain ⟨hPd,h0',hT',hV'⟩:=HP.out _ ((hWr.keep hA3).bel);refine (swords_any P wr.heap.size 0 1 _ _ _ _ _ m pr [bProp] _ h0' hT' hPd hV'.mo (hqV0.below ((hWr.keep hA3).bel)) hgf (kinds_k hgk) (by simp) (fun j hj=>?_)).mono fun e w' ⟨v,e1,e2,e3⟩=>⟨v,e1,e2,LineAt.own e3.out (by simp [propWd])⟩
                obtain rfl:j=0:=by simp at hj;omega
                simp [go_sem]
              simp only [bProp] at HWd;have HA3:Hid (Below wr.heap.size wr (wr.alloc (.cells #[.string ⟨#[112,114,111,112]⟩] 9))):=hA3;clear hA3 hp0 hp1 hp2 hp3 hT hB hTV hpa hq00
              gi_wp2
              refine ⟨trivial,fun h=>by simp [Fence.wide] at h,callsIn_wide.2 (HWd.out.mono ?_)⟩
              rintro e w4 ⟨v,rfl,hb4,hln⟩
              have hb04:=HA3.out.trans (hb4.mono HA3.out.size);have hW4:=hWr.keep hb04;obtain ⟨fn,tmps,assign,body,hy,hR⟩:=HY.out pre _ post hlin v w4 (by rw [hpre];exact HJ.out _ wr w4 hJk hb04) hW4 hln.out
              clear hln hbx hlin
              gi_wp2
              refine ⟨fun h=>by simp [Fence.wide] at h,hR.mono ?_⟩
              rintro e w5 ⟨rfl,hJ5,hK5⟩
              have hW5:=hW4.round hK5;rw [hpre] at hJ5;have HJ5:Hid (J (posR m m.rules.length+(k+1)) w5/\LnW W0 P Bp w5):=⟨hJ5,hW5⟩;clear hy hR hK5 hJ5 hb4 hb04 hW4 hW5 HWd
              gi_wp2
              go_roundw
              case rel=>exact ⟨k+1,by omega,by first | rfl | simp,HJ5⟩
              case measure=>simp [intOf];omega
            · obtain rfl:np=k:=by omega
              obtain ⟨pre,post,hpre,hlin⟩:=lines_check (m:=m) (ps:=ps) (l:=l);rw [<- HNp.out] at hpre;obtain ⟨fn,hfn⟩:∃ fn,fn=l.length:=⟨_,rfl⟩
              have HFn:Hid (fn=l.length):=hfn;obtain ⟨sw,hsw⟩:∃ sw,sw=checkWd m.vars l:=⟨_,rfl⟩
              rw [<- hsw] at hlin
              have HWs:Hid (∀ (w':World) (b2 c2:Nat),LnW W0 P Bp w'->(∀ (j:Nat) y,[bCheck][j]? = some y->w'.cell? ⟨b2,j,none⟩=some (.string y))->Calls Tryd.prog 26 #[.pointer (some ⟨P,0,none⟩),.slice fo fn fc,.slice (some ⟨b2,0,none⟩) 1 c2] w' fun e w2=>∃ v,e=.returned v/\Below w'.heap.size w' w2/\Hid (LineAt w2 v sw)):=fun w' b2 c2 hw hcl=>by
                obtain ⟨hPd,h0',hT',hV'⟩:=HP.out w' hw.bel;rw [hfn];refine (swords_any P b2 0 c2 _ _ _ _ _ m l [bCheck] w' h0' hT' hPd hV'.mo hV'.fo hkf.form (kinds_l (tk_zeroS hkO).2) (by simp) (fun j hj=>?_)).mono fun e w2 ⟨v,e1,e2,e3⟩=>⟨v,e1,e2,by show LineAt _ _ _;rw [hsw];exact LineAt.own e3.out (by simp [checkWd])⟩
                rw [Nat.zero_add];exact hcl j _ (by rw [List.getD_eq_getElem?_getD,List.getElem?_eq_getElem hj,Option.getD_some])
              clear hfn hsw hp0 hp1 hp2 hp3 hT hB hTV
              gi_wp2
              generalize ha0:Act.mk _ _=a0;have hsz:a0.tmps.size=113:=by rw [<- ha0];rfl
              have aY:a0.eval (.tmp 0)=.func (.yield L) #[] #[]:=by rw [<- ha0];rfl
              have aB:a0.eval (.tmp 1)=.pointer (some ⟨Bp,0,none⟩):=by rw [<- ha0];rfl
              refine wp_anywayW (by rfl) [103,104,105,106,107,108,109,110,111,112] 9 (exP [.is (.func (.yield L) #[] #[]),.is (.pointer (some ⟨P,0,none⟩)),.is (.pointer (some ⟨P,0,none⟩)),.is (.pointer (some ⟨P,0,none⟩)),.is (.pointer (some ⟨P,0,none⟩)),.is (.pointer (some ⟨P,3,none⟩)),.is (.slice fo fn fc),.line [bCheck],.line sw]) (by rw [hsz];rfl) (fun i v w w' hi=>exP_stable _ _ i v w w' hi) ?_ ?_
              · intro i o hi ho q w' hb hq
                have f:∀ t,[103,104,105,106,107,108,109,110,111,112].contains t=true->t < 113->(frm a0 [103,104,105,106,107,108,109,110,111,112] q).eval (.tmp t)=q t:=fun t h1 h2=>frm_in h1 (by rw [hsz];exact h2)
                have eY:(frm a0 [103,104,105,106,107,108,109,110,111,112] q).eval (.tmp 0)=.func (.yield L) #[] #[]:=(frm_out rfl).trans aY;have eB:(frm a0 [103,104,105,106,107,108,109,110,111,112] q).eval (.tmp 1)=.pointer (some ⟨Bp,0,none⟩):=(frm_out rfl).trans aB;have hbw:=hWr.keep hb;have hx:=hbw.cell
                obtain ⟨⟨_,_,_,_,hp3⟩,_,_,_⟩:=HP.out w' hbw.bel;rw [<- HFn.out] at hp3;obtain ⟨ev,hev⟩:∃ ev,ev=(frm a0 [103,104,105,106,107,108,109,110,111,112] q).eval:=⟨_,rfl⟩
                have evc:∀ v,ev (.const v)=v:=fun v=>by rw [hev];rfl
                have evf:∀ n,ev (.func n)=.func (.func n) #[] #[]:=fun n=>by rw [hev];rfl
                rw [<- hev] at f eY eB;have hc:i=0\/i=1\/i=2\/i=3\/i=4\/i=5\/i=6\/i=7\/i=8:=by omega
                rcases hc with rfl | rfl | rfl | rfl | rfl | rfl | rfl | rfl | rfl
                all_goals obtain rfl:=Option.some.inj ho
                · refine op_val (w':=w') (v:=(.func (.yield L) #[] #[])) ?_ (Below.refl _ _) rfl
                  rw [<- hev];simp [execOp,eY,go_sem]
                · refine op_val (w':=w') (v:=(.pointer (some ⟨P,0,none⟩))) ?_ (Below.refl _ _) rfl
                  rw [<- hev];simp [execOp,eB,hx,go_sem]
                · refine op_val (w':=w') (v:=(.pointer (some ⟨P,0,none⟩))) ?_ (Below.refl _ _) rfl
                  rw [<- hev];simp [execOp,eB,hx,go_sem]
                · have e105:=(f 105 rfl (by decide)).trans (hq 2 105 rfl rfl)
                  refine op_val (w':=w') (v:=(.pointer (some ⟨P,0,none⟩))) ?_ (Below.refl _ _) rfl
                  rw [<- hev];simp [execOp,e105,go_sem]
                · have e106:=(f 106 rfl (by decide)).trans (hq 3 106 rfl rfl)
                  refine op_val (w':=w') (v:=(.pointer (some ⟨P,0,none⟩))) ?_ (Below.refl _ _) rfl
                  rw [<- hev];simp [execOp,e106,go_sem]
                · have e107:=(f 107 rfl (by decide)).trans (hq 4 107 rfl rfl)
                  refine op_val (w':=w') (v:=(.pointer (some ⟨P,3,none⟩))) ?_ (Below.refl _ _) rfl
                  rw [<- hev];simp [execOp,e107,go_sem]
                · have e108:=(f 108 rfl (by decide)).trans (hq 5 108 rfl rfl)
                  refine op_val (w':=w') (v:=(.slice fo fn fc)) ?_ (Below.refl _ _) rfl
                  rw [<- hev];simp [execOp,e108,hp3,go_sem]
                · refine op_val (v:=.slice (some ⟨w'.heap.size,0,none⟩) 1 1) (w':=w'.alloc (.cells #[.string bCheck] 9)) ?_ ((Below.refl _ _).alloc (Nat.le_refl _) _) (line_new w' _ [bCheck] _ (fun j y hj=>by
                    obtain rfl:j=0:=by have hlt:j < 1:=(List.getElem?_eq_some_iff.1 hj).1;omega
                    injection hj with hj;subst hj;rfl))
                  rw [<- hev];simp [execOp,evc,go_sem,bCheck]
                · have e104:=(f 104 rfl (by decide)).trans (hq 1 104 rfl rfl)
                  have e109:=(f 109 rfl (by decide)).trans (hq 6 109 rfl rfl)
                  have e110h:LineAt w' (q 110) [bCheck]:=hq 7 110 rfl rfl;have e110:=f 110 rfl (by decide)
                  obtain ⟨b2,c2,he110,_,hb2l,hcl⟩:=e110h;rw [he110] at e110;refine op_call (f:=26) (args:=#[.pointer (some ⟨P,0,none⟩),.slice fo fn fc,.slice (some ⟨b2,0,none⟩) 1 c2]) ?_ ((HWs.out w' b2 c2 hbw hcl).mono ?_)
                  · rw [<- hev];simp [execOp,e104,e109,e110,evf,go_sem]
                  · rintro e w2 ⟨v,rfl,hb3,hln⟩
                    exact ⟨_,rfl,hb3,hln.out⟩
              · intro q w' hb hq
                have f:∀ q t,[103,104,105,106,107,108,109,110,111,112].contains t=true->t < 113->(frm a0 [103,104,105,106,107,108,109,110,111,112] q).eval (.tmp t)=q t:=fun q t h1 h2=>frm_in h1 (by rw [hsz];exact h2)
                have hln:LineAt w' (q 111) sw:=hq 8 111 (by decide) rfl
                have e103:=(f q 103 rfl (by decide)).trans (hq 0 103 (by decide) rfl)
                have e111:=f q 111 rfl (by decide)
                obtain ⟨fn',tmps,assign,body,hy,hR⟩:=HY.out pre _ post hlin (q 111) w' (by rw [hpre];exact HJ.out _ wr w' hJk hb) (hWr.keep hb) hln
                show wpOpsIn Fence.wide _ Tryd.prog _ _ [9] _ _
                rw [wpOpsIn_cons];refine op_yield rfl rfl ?_ hR ?_
                · generalize (frm a0 [103,104,105,106,107,108,109,110,111,112] q).eval=ev at e103 e111 ⊢
                  simp [execOp,e103,e111,go_sem,hy]
                rintro e w3 ⟨rfl,hJ3,hK3⟩
                refine ⟨_,rfl,?_⟩
                rw [late_put 112 rfl rfl];have HJ3:Hid (J (linesW m ps l).length w3):=by show J _ _;rw [lines_len,<- HNp.out,<- hpre];exact hJ3
                generalize setV q 112 (.bool true)=q2 at *;rw [<- ha0];simp only [wpOpsIn]
                go_end0
                exact ⟨⟨_,rfl⟩,HJ3⟩
end Go.Proofs.YtlepcjafgdlmgaaDoor
namespace Go.Proofs.YtlepcjafgdlmgaaDoor
open Go.ChangeShapes Go.WideShapes Go.ChangeAt Go.RowKit Go.Deep Go.Shelf
open Terms
set_option maxHeartbeats 6400000
set_option maxRecDepth 20000
attribute [local go_sem] Oper.semAt_some
theorem range_ln {P:Program} {g:Operand} {ps:Array Tmp} {assign body:Code} {Q:Exit->Act->World->Prop} {a:Act} {w:World} {m gf N:Nat} {lb:Array Value}
  (hm:1 <= m) (hg:a.eval g=.func (.func gf) #[] lb) (eg:∀ args w,(callFunc gf args).run P w=.ok (.enter gf args) w) (A:Nat->Array Value->World->Prop) (hps:∀ k args W,A k args W->args.size=ps.size) (Kp:World->World->Prop)
  (hseq:∀ (l:Nat) (J:Nat->World->Prop) (W:World),Below w.heap.size w W->(∀ k A B,J k A->Below A.heap.size A B->J k B)->(∀ k args W1,k < N->J k W1->A k args W1->YieldAt Fence.wide (m - 1 - 1) P l args W1 fun e W'=>e=.returned (.bool true)/\J (k+1) W'/\Kp W1 W')->J 0 W->CallsIn Fence.wide (m - 1) P gf (#[.func (.yield l) #[] #[]]++lb) W fun e W'=>(∃ v,e=.returned v)/\J N W')
  (hKt:∀ {A B C:World},Kp A B->Kp B C->Kp A C) (hKb:∀ (W:World) (l:Nat) (o o':Obj),w.heap.size <= l->W.heap[l]? = some o->o.isCells=false->o.isWalk=false->Kp W (W.putObj l o'))
  (I:Nat->World->Prop) (hI:OwnFrom w.heap.size I) (hIb:∀ k A B,I k A->Below A.heap.size A B->I k B) (h0:I 0 w) (Ax:Nat->Act->World->Prop) (hAx:∀ k a',OwnFrom w.heap.size (fun (_:Unit) W=>Ax k a' W))
  (hassign:∀ (l k:Nat) (args:Array Value) (W:World) (K:Act->World->Prop),k < N->I k W->A k args W->(∀ a' W',KeepsFrom w.heap.size W W'->Kp W W'->I k W'->Ax k a' W'->K a' W')->
   assign.wpIn (Fence.wide.inRound l) (m - 1 - 1) P (Exit.then K (fun _ _ _=>False)) { tmps:=(ps.zip args).foldl (fun t (p,v)=>t.setIfInBounds p v) a.tmps,defers:=[]} W)
  (hbody:∀ (l k:Nat) (a':Act) (W:World),k < N->I k W->Ax k a' W->body.wpIn (Fence.wide.inRound l) (m - 1 - 1) P (roundEnd w.heap.size Kp (I (k+1)) W) a' W)
  (hdone:∀ (D:Nat) (W:World),w.heap.size <= D->I N W->W.heap[D]? = some (.deferred (some []))->Q .normal { a with defers:={ target:=.collected D,args:=#[]}:: a.defers} W) :
  (Code.rangeFunc g ps assign body).wpIn Fence.wide m P Q a w:=by
 refine wpIn_rangeFunc ?_
 intro fn hfn;rw [show Fence.wide.round=none from rfl]
 obtain ⟨mk,hmk⟩:∃ mk:LoopState->Loop,mk=fun st=>{ state:=st,pending:=none,fn,tmps:=a.tmps,params:=ps,assign,body,defers:=w.heap.size}:=⟨_,rfl⟩
 obtain ⟨X,hX⟩:∃ X,X=(w.alloc (.deferred (some []))).alloc (.loop (mk .ready)):=⟨_,rfl⟩
 obtain ⟨R,hR⟩:∃ R,R=w.heap.size+1:=⟨_,rfl⟩
 have hXR:X.heap[R]? = some (.loop (mk .ready)):=by
  have:=World.alloc_heap_new (w.alloc (.deferred (some []))) (.loop (mk .ready));rw [World.size_alloc,<- hX,<- hR] at this;exact this
 have hXD:X.heap[w.heap.size]? = some (.deferred (some [])):=by
  rw [hX];exact (Below.heap_alloc _ _ _ (by simp)).trans (World.alloc_heap_new w _)
 have hXI:I 0 X:=by rw [hX];exact hI.alloc _ (hI.alloc _ h0)
 have hXB:Below w.heap.size w X:=by rw [hX];exact ((Below.refl _ w).alloc (Nat.le_refl _) _).alloc (by simp) _
 refine ⟨R,[{ target:=.collected w.heap.size,args:=#[]}],X,{ target:=.fn (.func gf) lb,args:=#[.func (.yield R) #[] #[]]},X,gf,#[.func (.yield R) #[] #[]]++lb,X,?_,?_,?_,?_,fun _=>hm,?_⟩
 ·rw [hX,hR,hmk];exact run_enterLoop_outer _ _ _ _ _
 ·simp only [resolve,hg]
  simp [go_sem]
 ·intro f' _;trivial
 ·simp [invoke,go_sem,eg]
 refine (hseq R (fun k W=>I k W/\W.heap[R]? = some (.loop (mk .ready))/\W.heap[w.heap.size]? = some (.deferred (some []))) X hXB (fun k A B h hb=>⟨hIb k A B h.1 hb,(hb.block R (Array.getElem?_eq_some_iff.1 h.2.1).1).trans h.2.1,(hb.block _ (Array.getElem?_eq_some_iff.1 h.2.2).1).trans h.2.2⟩) ?_ ⟨hXI,hXR,hXD⟩).mono ?_
 ·rintro k args W hkN ⟨hi,hl,hd⟩ hAk
  have hy:=run_yield (P:=P) (args:=args) hl (by rw [hmk];exact hps k args W hAk)
  rw [hmk] at hy;refine ⟨fn,_,assign,body,hy,roundIn_of_wpIn hfn (hassign _ k args W _ hkN hi hAk ?_)⟩
  intro a' V hf hp hiV hax;have hlV:=hf.same _ _ (by omega) hl rfl
  have hdV:=hf.same _ _ (Nat.le_refl _) hd rfl;have hRV:R < V.heap.size:=(Array.getElem?_eq_some_iff.1 hlV).1
  refine ⟨_,run_beginRound hlV (by rw [hmk]),?_⟩
  obtain ⟨U,hU⟩:∃ U,U=V.putObj R (.loop { mk .ready with state:=.busy}):=⟨_,rfl⟩
  have hUR:U.heap[R]? = some (.loop { mk .ready with state:=.busy}):=by rw [hU];exact World.putObj_heap_same hRV
  have hUD:U.heap[w.heap.size]? = some (.deferred (some [])):=by rw [hU];exact (World.putObj_heap_other (by omega)).trans hdV
  have hUK:Kp V U:=by rw [hU];exact hKb _ _ _ _ (by omega) hlV rfl rfl
  have hUI:I k U:=by rw [hU];exact hI.putObj _ hiV (by omega) hlV rfl
  have hUA:Ax k a' U:=by rw [hU];exact (hAx k a').putObj (s:=()) _ hax (by omega) hlV rfl
  rw [<- hU];refine wpIn_mono (hbody _ k a' U hkN hUI hUA) ?_
  rintro e a3 Z hz
  cases e with
  | normal=>
   obtain ⟨hfZ,hpZ,hiZ⟩:=hz;have hlZ:=hfZ.same _ _ (by omega) hUR rfl
   have hdZ:=hfZ.same _ _ (Nat.le_refl _) hUD rfl;have hr:=run_endRound (P:=P) none hlZ;have hRZ:R < Z.heap.size:=(Array.getElem?_eq_some_iff.1 hlZ).1
   refine ⟨_,_,hr,rfl,⟨hI.putObj _ hiZ (by omega) hlZ rfl,?_,(World.putObj_heap_other (by omega)).trans hdZ⟩,hKt hp (hKt (hKt hUK hpZ) (hKb _ _ _ _ (by omega) hlZ rfl rfl))⟩
   rw [World.putObj_heap_same hRZ,hmk];rfl
  | _=>exact hz.elim
 ·rintro e W2 ⟨⟨v,rfl⟩,hi,hl,hd⟩
  exact ⟨none,_,by have:=run_endLoop (P:=P) hl (by rw [hmk];simp);rw [hmk] at this;exact this,hdone _ _ (Nat.le_refl _) (hI.putObj _ hi (by omega) hl rfl) ((World.putObj_heap_other (by omega)).trans hd)⟩
