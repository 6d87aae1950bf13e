import Derived.Test.YtfnobbpbmelgnaaGreatDoorRow
import Derived.Deep.RegionWith
namespace Go.Proofs.YtfnobbpbmelgnaaGreatDoor
open Go.ChangeShapes Go.WideShapes Go.ChangeAt Go.RowKit Go.Deep
open Terms
set_option maxHeartbeats 6400000
set_option maxRecDepth 20000
def I64 (n:Int):Prop:=-9223372036854775808 <= n/\n <= 9223372036854775807
theorem neg_rem {x m:Int} (hx:x <= 0) (hm:0 < m):0 <= -(x.tmod m)/\-(x.tmod m) < m:=by
 rw [<- Int.neg_tmod,Int.tmod_eq_emod_of_nonneg (by omega)]
 exact ⟨Int.emod_nonneg _ (by omega),Int.emod_lt_of_pos _ hm⟩
def pk (n m:Int):Int:=if n < 0 then -((n+1).tmod m) else n % m
theorem pk_range {n m:Int} (hm:0 < m):0 <= pk n m/\pk n m < m:=by
 unfold pk
 split
 ·exact neg_rem (by omega) hm
 ·exact ⟨Int.emod_nonneg _ (by omega),Int.emod_lt_of_pos _ hm⟩
theorem picked_is (n many:Int) (w:World) (hn:I64 n) (hm:0 < many) (hm2:many <= 10000) :
  Calls Tryz.prog 18 #[.int .i64 n,.int .i64 many] w fun e w'=>e=.returned (.int .i64 (pk n many))/\w'=w:=by
 obtain ⟨h1,h2⟩:=hn
 by_cases h0:n < 0
 ·have hne:¬ many=0:=by omega
  rw [show pk n many=-((n+1).tmod many) by unfold pk;rw [if_pos h0]]
  go_enter Tryz.func18,Tryz.ntmps18
  go_wp2
  go_ret
  exact ⟨rfl,rfl⟩
 ·have hne:¬ many=0:=by omega
  rw [show pk n many=n % many by unfold pk;rw [if_neg h0]]
  go_enter Tryz.func18,Tryz.ntmps18
  go_wp2
  go_ret
  exact ⟨rfl,rfl⟩
