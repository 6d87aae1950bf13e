/-
  The contract of word's law.
-/
import Derived.Test.YtoeagklgfaoejaaDoorWLaw
import Derived.Laws.EntriesVeiled
namespace Go.Proofs.YtoeagklgfaoejaaDoor
open Go.ChangeShapes Go.WideShapes Go.ChangeAt Go.RowKit Go.Deep
open Terms

set_option maxHeartbeats 800000 in
set_option maxRecDepth 20000 in
theorem lawK_13 (b off n cap B : Nat) (aao : Option Addr) (an ac lb m lcap s R p : Nat) (v : Int) (w : World) (hp : p < n) (c0 : w.cell? ⟨b, off + p * 2, none⟩ = some (.int .i64 13)) (c1 : w.cell? ⟨b, off + p * 2 + 1, none⟩ = some (.int .i64 v)) :
    Calls Tryd.prog 25 #[.agg #[.slice (some ⟨b, off, none⟩) n cap, .slice (some ⟨B, 0, none⟩) n n, .slice aao an ac, .slice (some ⟨lb, 0, none⟩) m lcap, .int .i64 (s : Int), .slice (some ⟨R, 0, none⟩) n n], .int .i64 (p : Int)] w fun e w' => e = .returned (.func (.func 38) #[] #[.pointer (some ⟨w.heap.size, 0, none⟩), .pointer (some ⟨w.heap.size + 1 + 1, 0, none⟩)]) ∧ w' = (((((w.alloc (.cells #[.slice (some ⟨b, off, none⟩) n cap, .slice (some ⟨B, 0, none⟩) n n, .slice aao an ac, .slice (some ⟨lb, 0, none⟩) m lcap, .int .i64 (s : Int), .slice (some ⟨R, 0, none⟩) n n] 49)).alloc (.cells #[.int .i64 (p : Int)] 3)).alloc (.cells #[.int .i64 13, .int .i64 v] 70)).alloc (.cells #[.func (.func 36) #[] #[.pointer (some ⟨w.heap.size, 0, none⟩), .pointer (some ⟨w.heap.size + 1, 0, none⟩)]] 75)).alloc (.cells #[.func (.func 37) #[] #[.pointer (some ⟨w.heap.size, 0, none⟩), .pointer (some ⟨w.heap.size + 1, 0, none⟩)]] 75)) := by
  have hb := World.block_lt_of_cell? w ⟨b, off + p * 2, none⟩ c0
  go_enter Tryd.func25, Tryd.ntmps25
  go_wp2_with fail
  go_ret
  exact ⟨rfl, rfl⟩

set_option maxHeartbeats 800000 in
set_option maxRecDepth 20000 in
theorem lawK_11 (b off n cap B : Nat) (aao : Option Addr) (an ac lb m lcap s R p : Nat) (v : Int) (w : World) (hp : p < n) (c0 : w.cell? ⟨b, off + p * 2, none⟩ = some (.int .i64 11)) (c1 : w.cell? ⟨b, off + p * 2 + 1, none⟩ = some (.int .i64 v)) :
    Calls Tryd.prog 25 #[.agg #[.slice (some ⟨b, off, none⟩) n cap, .slice (some ⟨B, 0, none⟩) n n, .slice aao an ac, .slice (some ⟨lb, 0, none⟩) m lcap, .int .i64 (s : Int), .slice (some ⟨R, 0, none⟩) n n], .int .i64 (p : Int)] w fun e w' => e = .returned (.func (.func 39) #[] #[]) ∧ w' = (((((w.alloc (.cells #[.slice (some ⟨b, off, none⟩) n cap, .slice (some ⟨B, 0, none⟩) n n, .slice aao an ac, .slice (some ⟨lb, 0, none⟩) m lcap, .int .i64 (s : Int), .slice (some ⟨R, 0, none⟩) n n] 49)).alloc (.cells #[.int .i64 (p : Int)] 3)).alloc (.cells #[.int .i64 11, .int .i64 v] 70)).alloc (.cells #[.func (.func 36) #[] #[.pointer (some ⟨w.heap.size, 0, none⟩), .pointer (some ⟨w.heap.size + 1, 0, none⟩)]] 75)).alloc (.cells #[.func (.func 37) #[] #[.pointer (some ⟨w.heap.size, 0, none⟩), .pointer (some ⟨w.heap.size + 1, 0, none⟩)]] 75)) := by
  have hb := World.block_lt_of_cell? w ⟨b, off + p * 2, none⟩ c0
  go_enter Tryd.func25, Tryd.ntmps25
  go_wp2_with fail
  go_ret
  exact ⟨rfl, rfl⟩

set_option maxHeartbeats 800000 in
set_option maxRecDepth 20000 in
theorem lawK_10 (b off n cap B : Nat) (aao : Option Addr) (an ac lb m lcap s R p : Nat) (v : Int) (w : World) (hp : p < n) (c0 : w.cell? ⟨b, off + p * 2, none⟩ = some (.int .i64 10)) (c1 : w.cell? ⟨b, off + p * 2 + 1, none⟩ = some (.int .i64 v)) :
    Calls Tryd.prog 25 #[.agg #[.slice (some ⟨b, off, none⟩) n cap, .slice (some ⟨B, 0, none⟩) n n, .slice aao an ac, .slice (some ⟨lb, 0, none⟩) m lcap, .int .i64 (s : Int), .slice (some ⟨R, 0, none⟩) n n], .int .i64 (p : Int)] w fun e w' => e = .returned (.func (.func 40) #[] #[.pointer (some ⟨w.heap.size + 1 + 1 + 1, 0, none⟩)]) ∧ w' = (((((w.alloc (.cells #[.slice (some ⟨b, off, none⟩) n cap, .slice (some ⟨B, 0, none⟩) n n, .slice aao an ac, .slice (some ⟨lb, 0, none⟩) m lcap, .int .i64 (s : Int), .slice (some ⟨R, 0, none⟩) n n] 49)).alloc (.cells #[.int .i64 (p : Int)] 3)).alloc (.cells #[.int .i64 10, .int .i64 v] 70)).alloc (.cells #[.func (.func 36) #[] #[.pointer (some ⟨w.heap.size, 0, none⟩), .pointer (some ⟨w.heap.size + 1, 0, none⟩)]] 75)).alloc (.cells #[.func (.func 37) #[] #[.pointer (some ⟨w.heap.size, 0, none⟩), .pointer (some ⟨w.heap.size + 1, 0, none⟩)]] 75)) := by
  have hb := World.block_lt_of_cell? w ⟨b, off + p * 2, none⟩ c0
  go_enter Tryd.func25, Tryd.ntmps25
  go_wp2_with fail
  go_ret
  exact ⟨rfl, rfl⟩

set_option maxHeartbeats 800000 in
set_option maxRecDepth 20000 in
theorem lawK_8 (b off n cap B : Nat) (aao : Option Addr) (an ac lb m lcap s R p : Nat) (v : Int) (w : World) (hp : p < n) (c0 : w.cell? ⟨b, off + p * 2, none⟩ = some (.int .i64 8)) (c1 : w.cell? ⟨b, off + p * 2 + 1, none⟩ = some (.int .i64 v)) :
    Calls Tryd.prog 25 #[.agg #[.slice (some ⟨b, off, none⟩) n cap, .slice (some ⟨B, 0, none⟩) n n, .slice aao an ac, .slice (some ⟨lb, 0, none⟩) m lcap, .int .i64 (s : Int), .slice (some ⟨R, 0, none⟩) n n], .int .i64 (p : Int)] w fun e w' => e = .returned (.func (.func 41) #[] #[.pointer (some ⟨w.heap.size + 1 + 1 + 1, 0, none⟩), .pointer (some ⟨w.heap.size + 1 + 1 + 1 + 1, 0, none⟩)]) ∧ w' = (((((w.alloc (.cells #[.slice (some ⟨b, off, none⟩) n cap, .slice (some ⟨B, 0, none⟩) n n, .slice aao an ac, .slice (some ⟨lb, 0, none⟩) m lcap, .int .i64 (s : Int), .slice (some ⟨R, 0, none⟩) n n] 49)).alloc (.cells #[.int .i64 (p : Int)] 3)).alloc (.cells #[.int .i64 8, .int .i64 v] 70)).alloc (.cells #[.func (.func 36) #[] #[.pointer (some ⟨w.heap.size, 0, none⟩), .pointer (some ⟨w.heap.size + 1, 0, none⟩)]] 75)).alloc (.cells #[.func (.func 37) #[] #[.pointer (some ⟨w.heap.size, 0, none⟩), .pointer (some ⟨w.heap.size + 1, 0, none⟩)]] 75)) := by
  have hb := World.block_lt_of_cell? w ⟨b, off + p * 2, none⟩ c0
  go_enter Tryd.func25, Tryd.ntmps25
  go_wp2_with fail
  go_ret
  exact ⟨rfl, rfl⟩

set_option maxHeartbeats 800000 in
set_option maxRecDepth 20000 in
theorem lawK_9 (b off n cap B : Nat) (aao : Option Addr) (an ac lb m lcap s R p : Nat) (v : Int) (w : World) (hp : p < n) (c0 : w.cell? ⟨b, off + p * 2, none⟩ = some (.int .i64 9)) (c1 : w.cell? ⟨b, off + p * 2 + 1, none⟩ = some (.int .i64 v)) :
    Calls Tryd.prog 25 #[.agg #[.slice (some ⟨b, off, none⟩) n cap, .slice (some ⟨B, 0, none⟩) n n, .slice aao an ac, .slice (some ⟨lb, 0, none⟩) m lcap, .int .i64 (s : Int), .slice (some ⟨R, 0, none⟩) n n], .int .i64 (p : Int)] w fun e w' => e = .returned (.func (.func 42) #[] #[.pointer (some ⟨w.heap.size + 1 + 1 + 1, 0, none⟩), .pointer (some ⟨w.heap.size + 1 + 1 + 1 + 1, 0, none⟩)]) ∧ w' = (((((w.alloc (.cells #[.slice (some ⟨b, off, none⟩) n cap, .slice (some ⟨B, 0, none⟩) n n, .slice aao an ac, .slice (some ⟨lb, 0, none⟩) m lcap, .int .i64 (s : Int), .slice (some ⟨R, 0, none⟩) n n] 49)).alloc (.cells #[.int .i64 (p : Int)] 3)).alloc (.cells #[.int .i64 9, .int .i64 v] 70)).alloc (.cells #[.func (.func 36) #[] #[.pointer (some ⟨w.heap.size, 0, none⟩), .pointer (some ⟨w.heap.size + 1, 0, none⟩)]] 75)).alloc (.cells #[.func (.func 37) #[] #[.pointer (some ⟨w.heap.size, 0, none⟩), .pointer (some ⟨w.heap.size + 1, 0, none⟩)]] 75)) := by
  have hb := World.block_lt_of_cell? w ⟨b, off + p * 2, none⟩ c0
  go_enter Tryd.func25, Tryd.ntmps25
  go_wp2_with fail
  go_ret
  exact ⟨rfl, rfl⟩

set_option maxHeartbeats 800000 in
set_option maxRecDepth 20000 in
theorem lawK_14 (b off n cap B : Nat) (aao : Option Addr) (an ac lb m lcap s R p : Nat) (v : Int) (w : World) (hp : p < n) (c0 : w.cell? ⟨b, off + p * 2, none⟩ = some (.int .i64 14)) (c1 : w.cell? ⟨b, off + p * 2 + 1, none⟩ = some (.int .i64 v)) :
    Calls Tryd.prog 25 #[.agg #[.slice (some ⟨b, off, none⟩) n cap, .slice (some ⟨B, 0, none⟩) n n, .slice aao an ac, .slice (some ⟨lb, 0, none⟩) m lcap, .int .i64 (s : Int), .slice (some ⟨R, 0, none⟩) n n], .int .i64 (p : Int)] w fun e w' => e = .returned (.func (.func 43) #[] #[.pointer (some ⟨w.heap.size + 1 + 1 + 1, 0, none⟩), .pointer (some ⟨w.heap.size, 0, none⟩)]) ∧ w' = (((((w.alloc (.cells #[.slice (some ⟨b, off, none⟩) n cap, .slice (some ⟨B, 0, none⟩) n n, .slice aao an ac, .slice (some ⟨lb, 0, none⟩) m lcap, .int .i64 (s : Int), .slice (some ⟨R, 0, none⟩) n n] 49)).alloc (.cells #[.int .i64 (p : Int)] 3)).alloc (.cells #[.int .i64 14, .int .i64 v] 70)).alloc (.cells #[.func (.func 36) #[] #[.pointer (some ⟨w.heap.size, 0, none⟩), .pointer (some ⟨w.heap.size + 1, 0, none⟩)]] 75)).alloc (.cells #[.func (.func 37) #[] #[.pointer (some ⟨w.heap.size, 0, none⟩), .pointer (some ⟨w.heap.size + 1, 0, none⟩)]] 75)) := by
  have hb := World.block_lt_of_cell? w ⟨b, off + p * 2, none⟩ c0
  go_enter Tryd.func25, Tryd.ntmps25
  go_wp2_with fail
  go_ret
  exact ⟨rfl, rfl⟩

set_option maxHeartbeats 800000 in
set_option maxRecDepth 20000 in
theorem lawK_17 (b off n cap B : Nat) (aao : Option Addr) (an ac lb m lcap s R p : Nat) (v : Int) (w : World) (hp : p < n) (c0 : w.cell? ⟨b, off + p * 2, none⟩ = some (.int .i64 17)) (c1 : w.cell? ⟨b, off + p * 2 + 1, none⟩ = some (.int .i64 v)) :
    Calls Tryd.prog 25 #[.agg #[.slice (some ⟨b, off, none⟩) n cap, .slice (some ⟨B, 0, none⟩) n n, .slice aao an ac, .slice (some ⟨lb, 0, none⟩) m lcap, .int .i64 (s : Int), .slice (some ⟨R, 0, none⟩) n n], .int .i64 (p : Int)] w fun e w' => e = .returned (.func (.func 44) #[] #[.pointer (some ⟨w.heap.size + 1 + 1 + 1, 0, none⟩)]) ∧ w' = (((((w.alloc (.cells #[.slice (some ⟨b, off, none⟩) n cap, .slice (some ⟨B, 0, none⟩) n n, .slice aao an ac, .slice (some ⟨lb, 0, none⟩) m lcap, .int .i64 (s : Int), .slice (some ⟨R, 0, none⟩) n n] 49)).alloc (.cells #[.int .i64 (p : Int)] 3)).alloc (.cells #[.int .i64 17, .int .i64 v] 70)).alloc (.cells #[.func (.func 36) #[] #[.pointer (some ⟨w.heap.size, 0, none⟩), .pointer (some ⟨w.heap.size + 1, 0, none⟩)]] 75)).alloc (.cells #[.func (.func 37) #[] #[.pointer (some ⟨w.heap.size, 0, none⟩), .pointer (some ⟨w.heap.size + 1, 0, none⟩)]] 75)) := by
  have hb := World.block_lt_of_cell? w ⟨b, off + p * 2, none⟩ c0
  go_enter Tryd.func25, Tryd.ntmps25
  go_wp2_with fail
  go_ret
  exact ⟨rfl, rfl⟩

set_option maxHeartbeats 800000 in
set_option maxRecDepth 20000 in
theorem lawK_18 (b off n cap B : Nat) (aao : Option Addr) (an ac lb m lcap s R p : Nat) (v : Int) (w : World) (hp : p < n) (c0 : w.cell? ⟨b, off + p * 2, none⟩ = some (.int .i64 18)) (c1 : w.cell? ⟨b, off + p * 2 + 1, none⟩ = some (.int .i64 v)) :
    Calls Tryd.prog 25 #[.agg #[.slice (some ⟨b, off, none⟩) n cap, .slice (some ⟨B, 0, none⟩) n n, .slice aao an ac, .slice (some ⟨lb, 0, none⟩) m lcap, .int .i64 (s : Int), .slice (some ⟨R, 0, none⟩) n n], .int .i64 (p : Int)] w fun e w' => e = .returned (.func (.func 45) #[] #[.pointer (some ⟨w.heap.size + 1 + 1 + 1, 0, none⟩)]) ∧ w' = (((((w.alloc (.cells #[.slice (some ⟨b, off, none⟩) n cap, .slice (some ⟨B, 0, none⟩) n n, .slice aao an ac, .slice (some ⟨lb, 0, none⟩) m lcap, .int .i64 (s : Int), .slice (some ⟨R, 0, none⟩) n n] 49)).alloc (.cells #[.int .i64 (p : Int)] 3)).alloc (.cells #[.int .i64 18, .int .i64 v] 70)).alloc (.cells #[.func (.func 36) #[] #[.pointer (some ⟨w.heap.size, 0, none⟩), .pointer (some ⟨w.heap.size + 1, 0, none⟩)]] 75)).alloc (.cells #[.func (.func 37) #[] #[.pointer (some ⟨w.heap.size, 0, none⟩), .pointer (some ⟨w.heap.size + 1, 0, none⟩)]] 75)) := by
  have hb := World.block_lt_of_cell? w ⟨b, off + p * 2, none⟩ c0
  go_enter Tryd.func25, Tryd.ntmps25
  go_wp2_with fail
  go_ret
  exact ⟨rfl, rfl⟩

set_option maxHeartbeats 800000 in
set_option maxRecDepth 20000 in
theorem lawK_15 (b off n cap B : Nat) (aao : Option Addr) (an ac lb m lcap s R p : Nat) (v : Int) (w : World) (hp : p < n) (c0 : w.cell? ⟨b, off + p * 2, none⟩ = some (.int .i64 15)) (c1 : w.cell? ⟨b, off + p * 2 + 1, none⟩ = some (.int .i64 v)) :
    Calls Tryd.prog 25 #[.agg #[.slice (some ⟨b, off, none⟩) n cap, .slice (some ⟨B, 0, none⟩) n n, .slice aao an ac, .slice (some ⟨lb, 0, none⟩) m lcap, .int .i64 (s : Int), .slice (some ⟨R, 0, none⟩) n n], .int .i64 (p : Int)] w fun e w' => e = .returned (.func (.func 46) #[] #[.pointer (some ⟨w.heap.size + 1 + 1 + 1 + 1, 0, none⟩), .pointer (some ⟨w.heap.size + 1 + 1 + 1, 0, none⟩)]) ∧ w' = (((((w.alloc (.cells #[.slice (some ⟨b, off, none⟩) n cap, .slice (some ⟨B, 0, none⟩) n n, .slice aao an ac, .slice (some ⟨lb, 0, none⟩) m lcap, .int .i64 (s : Int), .slice (some ⟨R, 0, none⟩) n n] 49)).alloc (.cells #[.int .i64 (p : Int)] 3)).alloc (.cells #[.int .i64 15, .int .i64 v] 70)).alloc (.cells #[.func (.func 36) #[] #[.pointer (some ⟨w.heap.size, 0, none⟩), .pointer (some ⟨w.heap.size + 1, 0, none⟩)]] 75)).alloc (.cells #[.func (.func 37) #[] #[.pointer (some ⟨w.heap.size, 0, none⟩), .pointer (some ⟨w.heap.size + 1, 0, none⟩)]] 75)) := by
  have hb := World.block_lt_of_cell? w ⟨b, off + p * 2, none⟩ c0
  go_enter Tryd.func25, Tryd.ntmps25
  go_wp2_with fail
  go_ret
  exact ⟨rfl, rfl⟩

set_option maxHeartbeats 800000 in
set_option maxRecDepth 20000 in
theorem lawK_16 (b off n cap B : Nat) (aao : Option Addr) (an ac lb m lcap s R p : Nat) (v : Int) (w : World) (hp : p < n) (c0 : w.cell? ⟨b, off + p * 2, none⟩ = some (.int .i64 16)) (c1 : w.cell? ⟨b, off + p * 2 + 1, none⟩ = some (.int .i64 v)) :
    Calls Tryd.prog 25 #[.agg #[.slice (some ⟨b, off, none⟩) n cap, .slice (some ⟨B, 0, none⟩) n n, .slice aao an ac, .slice (some ⟨lb, 0, none⟩) m lcap, .int .i64 (s : Int), .slice (some ⟨R, 0, none⟩) n n], .int .i64 (p : Int)] w fun e w' => e = .returned (.func (.func 47) #[] #[.pointer (some ⟨w.heap.size + 1 + 1 + 1 + 1, 0, none⟩), .pointer (some ⟨w.heap.size + 1 + 1 + 1, 0, none⟩)]) ∧ w' = (((((w.alloc (.cells #[.slice (some ⟨b, off, none⟩) n cap, .slice (some ⟨B, 0, none⟩) n n, .slice aao an ac, .slice (some ⟨lb, 0, none⟩) m lcap, .int .i64 (s : Int), .slice (some ⟨R, 0, none⟩) n n] 49)).alloc (.cells #[.int .i64 (p : Int)] 3)).alloc (.cells #[.int .i64 16, .int .i64 v] 70)).alloc (.cells #[.func (.func 36) #[] #[.pointer (some ⟨w.heap.size, 0, none⟩), .pointer (some ⟨w.heap.size + 1, 0, none⟩)]] 75)).alloc (.cells #[.func (.func 37) #[] #[.pointer (some ⟨w.heap.size, 0, none⟩), .pointer (some ⟨w.heap.size + 1, 0, none⟩)]] 75)) := by
  have hb := World.block_lt_of_cell? w ⟨b, off + p * 2, none⟩ c0
  go_enter Tryd.func25, Tryd.ntmps25
  go_wp2_with fail
  go_ret
  exact ⟨rfl, rfl⟩

set_option maxHeartbeats 800000 in
set_option maxRecDepth 20000 in
theorem lawK_12 (b off n cap B : Nat) (aao : Option Addr) (an ac lb m lcap s R p : Nat) (v : Int) (w : World) (hp : p < n) (c0 : w.cell? ⟨b, off + p * 2, none⟩ = some (.int .i64 12)) (c1 : w.cell? ⟨b, off + p * 2 + 1, none⟩ = some (.int .i64 v)) :
    Calls Tryd.prog 25 #[.agg #[.slice (some ⟨b, off, none⟩) n cap, .slice (some ⟨B, 0, none⟩) n n, .slice aao an ac, .slice (some ⟨lb, 0, none⟩) m lcap, .int .i64 (s : Int), .slice (some ⟨R, 0, none⟩) n n], .int .i64 (p : Int)] w fun e w' => e = .returned (.func (.func 48) #[] #[]) ∧ w' = (((((w.alloc (.cells #[.slice (some ⟨b, off, none⟩) n cap, .slice (some ⟨B, 0, none⟩) n n, .slice aao an ac, .slice (some ⟨lb, 0, none⟩) m lcap, .int .i64 (s : Int), .slice (some ⟨R, 0, none⟩) n n] 49)).alloc (.cells #[.int .i64 (p : Int)] 3)).alloc (.cells #[.int .i64 12, .int .i64 v] 70)).alloc (.cells #[.func (.func 36) #[] #[.pointer (some ⟨w.heap.size, 0, none⟩), .pointer (some ⟨w.heap.size + 1, 0, none⟩)]] 75)).alloc (.cells #[.func (.func 37) #[] #[.pointer (some ⟨w.heap.size, 0, none⟩), .pointer (some ⟨w.heap.size + 1, 0, none⟩)]] 75)) := by
  have hb := World.block_lt_of_cell? w ⟨b, off + p * 2, none⟩ c0
  go_enter Tryd.func25, Tryd.ntmps25
  go_wp2_with fail
  go_ret
  exact ⟨rfl, rfl⟩

/-- what the table stands on, ahead of its boxes. -/
structure TabAll (w : World) (b off n cap B : Nat) (aao : Option Addr) (an ac lb m lcap s R p : Nat) (l : List (Int × Int)) (ls : List (List Bool)) (h : Nat → Nat → Bool) : Prop where
  ends : ∀ j, j < n → w.cell? ⟨B, j, none⟩ = some (.int .i64 (endAt (l.map Prod.fst) j : Int))
  lets : LettersV w (.slice (some ⟨lb, 0, none⟩) m lcap) ls
  rows : ∀ q, p < q → q < n → ∃ rb ro rc, w.cell? ⟨R, q, none⟩ = some (.slice (some ⟨rb, ro, none⟩) m rc) ∧ rb < w.heap.size ∧ ∀ j, j < m → w.cell? ⟨rb, ro + j, none⟩ = some (.bool (h q j))
  hB : B < w.heap.size
  hR : R < w.heap.size
  hm : ls.length = m
  hn : n ≤ 60
  hm24 : m ≤ 24
  hs : s < m
set_option maxRecDepth 20000 in
theorem boxes_below (b off n cap B : Nat) (aao : Option Addr) (an ac lb m lcap s R p : Nat) (k v : Int) (w : World) : Below w.heap.size w (((((w.alloc (.cells #[.slice (some ⟨b, off, none⟩) n cap, .slice (some ⟨B, 0, none⟩) n n, .slice aao an ac, .slice (some ⟨lb, 0, none⟩) m lcap, .int .i64 (s : Int), .slice (some ⟨R, 0, none⟩) n n] 49)).alloc (.cells #[.int .i64 (p : Int)] 3)).alloc (.cells #[.int .i64 k, .int .i64 v] 70)).alloc (.cells #[.func (.func 36) #[] #[.pointer (some ⟨w.heap.size, 0, none⟩), .pointer (some ⟨w.heap.size + 1, 0, none⟩)]] 75)).alloc (.cells #[.func (.func 37) #[] #[.pointer (some ⟨w.heap.size, 0, none⟩), .pointer (some ⟨w.heap.size + 1, 0, none⟩)]] 75)) :=
  (((((Below.refl _ _).alloc (Nat.le_refl _) _).alloc (by simp) _).alloc (by simp; omega) _).alloc (by simp; omega) _).alloc (by simp; omega) _
set_option maxHeartbeats 1600000 in
set_option maxRecDepth 20000 in
theorem boxes_in (b off n cap B : Nat) (aao : Option Addr) (an ac lb m lcap s R p : Nat) (l : List (Int × Int)) (ls : List (List Bool)) (h : Nat → Nat → Bool) (k v : Int) (w : World) (hT : TabAll w b off n cap B aao an ac lb m lcap s R p l ls h) (W : World) (hW : W = (((((w.alloc (.cells #[.slice (some ⟨b, off, none⟩) n cap, .slice (some ⟨B, 0, none⟩) n n, .slice aao an ac, .slice (some ⟨lb, 0, none⟩) m lcap, .int .i64 (s : Int), .slice (some ⟨R, 0, none⟩) n n] 49)).alloc (.cells #[.int .i64 (p : Int)] 3)).alloc (.cells #[.int .i64 k, .int .i64 v] 70)).alloc (.cells #[.func (.func 36) #[] #[.pointer (some ⟨w.heap.size, 0, none⟩), .pointer (some ⟨w.heap.size + 1, 0, none⟩)]] 75)).alloc (.cells #[.func (.func 37) #[] #[.pointer (some ⟨w.heap.size, 0, none⟩), .pointer (some ⟨w.heap.size + 1, 0, none⟩)]] 75))) :
    TabIn W w.heap.size (w.heap.size + 1) b off n cap B aao an ac lb m lcap s R p l ls h ∧ FunIn W w.heap.size (w.heap.size + 1) (w.heap.size + 1 + 1 + 1) (w.heap.size + 1 + 1 + 1 + 1) ∧ W.cell? ⟨w.heap.size + 1 + 1, 1, none⟩ = some (.int .i64 v) ∧ Below w.heap.size w W := by
  have hb : Below w.heap.size w W := by rw [hW]; exact boxes_below b off n cap B aao an ac lb m lcap s R p k v w
  have hz : W.heap.size = w.heap.size + 1 + 1 + 1 + 1 + 1 := by rw [hW]; simp
  refine ⟨⟨?_, ?_, ?_, ?_, ?_, ?_, ?_, fun j hj => (hb.cell (p := ⟨B, j, none⟩) hT.hB).trans (hT.ends j hj), hT.lets.below hb, fun q h1 h2 => ?_, by omega, by omega, by have := hT.hB; omega, by have := hT.hR; omega, hT.hm, hT.hn, hT.hm24, hT.hs⟩, ⟨?_, ?_, by omega, by omega⟩, ?_, hb⟩
  · rw [hW]; simp [go_sem]
  · rw [hW]; simp [go_sem]
  · rw [hW]; simp [go_sem]
  · rw [hW]; simp [go_sem]
  · rw [hW]; simp [go_sem]
  · rw [hW]; simp [go_sem]
  · rw [hW]; simp [go_sem]
  · obtain ⟨rb, ro, rc, e1, e2, e3⟩ := hT.rows q h1 h2
    exact ⟨rb, ro, rc, (hb.cell (p := ⟨R, q, none⟩) hT.hR).trans e1, by omega, fun j hj => (hb.cell (p := ⟨rb, ro + j, none⟩) e2).trans (e3 j hj)⟩
  · rw [hW]; simp [go_sem]
  · rw [hW]; simp [go_sem]
  · rw [hW]; simp [go_sem]

/-- what law leaves. -/
def LawPost (w : World) (m : Nat) (u v : Nat → Bool) (e : Ending) (w' : World) : Prop := ∃ f caps, e = .returned (.func (.func f) #[] caps) ∧ Below w.heap.size w w' ∧ LawAt w' (.func (.func f) #[] caps) m u v

set_option maxHeartbeats 3200000 in
set_option maxRecDepth 20000 in
/-- THE CONTRACT OF law. -/
theorem law_any (b off n cap B : Nat) (aao : Option Addr) (an ac lb m lcap s R p : Nat) (l : List (Int × Int)) (ls : List (List Bool)) (t : Tm) (props : Int) (w : World) (hw : t.Wf) (hl : t.ops = l) (hln : l.length = n) (hat : OpsAt w b off l) (hp : p < n) (hpr : ∀ q, q < n → lopErr props (l.getD q (0, 0)) = 0) (hls : ∀ i, i < ls.length → ((ls.getD i []).length : Int) = props)
    (hT : TabAll w b off n cap B aao an ac lb m lcap s R p l ls (fun q => (t.sub q).hb (sig ls s))) :
    Calls Tryd.prog 25 #[.agg #[.slice (some ⟨b, off, none⟩) n cap, .slice (some ⟨B, 0, none⟩) n n, .slice aao an ac, .slice (some ⟨lb, 0, none⟩) m lcap, .int .i64 (s : Int), .slice (some ⟨R, 0, none⟩) n n], .int .i64 (p : Int)] w (LawPost w m ((t.sub p).uT (sig ls s)) ((t.sub p).vT (sig ls s))) := by
  have hsz : t.size = n := by rw [← t.ops_length, hl, hln]
  have hpt : p < t.size := by omega
  have hop := t.op_at hpt (0, 0)
  rw [hl] at hop
  obtain ⟨c0, c1⟩ := hat p (by omega)
  have he := hpr p hp
  rw [hop] at c0 c1 he
  simp only at c0 c1
  have hsw := Tm.sub_wf hw p
  have hki := fun i (hi : i < (t.sub p).kids.length) => Tm.kid_in hw hpt hi
  have hss : s < ls.length := by rw [hT.hm]; exact hT.hs
  have hmo : ∀ (x : Tm) now, now < m → x.hb (sig ls s) (if now = m - 1 then s else now + 1) = x.hb (sig ls s) (now + 1) := fun x now hnow => by
    by_cases hl1 : now = m - 1
    · rw [if_pos hl1, ← hb_mo hss x (now + 1), hT.hm, moAt_back hT.hs (by omega), show now + 1 - (m - s) = s by have := hT.hs; omega, moAt_low hT.hs]
    · rw [if_neg hl1]
  have hsec : sec l p = endAt (t.ops.map Prod.fst) (p + 1) := by unfold sec; rw [hl]
  cases hx : t.sub p with
  | leaf k v =>
    rw [hx] at c0 c1 he hsw
    simp only [Tm.kind, Tm.val] at c0 c1 he
    have hk : k = 13 ∨ k = 11 ∨ k = 12 := by
      obtain ⟨h1, h2⟩ := hsw
      simp only [okK, decide_eq_true_eq] at h1
      simp only [lopErr] at he
      simp only [pn] at h2
      split at he
      · omega
      · split at h2
        · omega
        · split at h2 <;> omega
    rcases hk with rfl | rfl | rfl
    · have hv : 0 ≤ v ∧ v < props := by
        by_cases hh : v < 0 ∨ props - 1 < v
        · exfalso; simp [lopErr, hh] at he
        · omega
      refine (lawK_13 b off n cap B aao an ac lb m lcap s R p v w hp c0 c1).mono fun e w' ⟨h1, h2⟩ => ?_
      obtain ⟨t5, f5, co, hb5⟩ := boxes_in b off n cap B aao an ac lb m lcap s R p l ls _ 13 v w hT w' h2
      refine ⟨_, _, h1, hb5, _, _, rfl, fun args w => by simp [go_sem], fun w2 hb2 now x hnow => ?_⟩
      refine (prop_w w2 _ _ b off n cap B aao an ac lb m lcap s R p l ls _ _ v x now (t5.below hb2) hnow ((hb2.cell (p := ⟨w.heap.size + 1 + 1, 1, none⟩) (by have := f5.hbf; show w.heap.size + 1 + 1 < _; omega)).trans co) hv.1 (by rw [hls now (by rw [hT.hm]; exact hnow)]; exact hv.2)).mono fun e w3 ⟨h3, q, h4⟩ => ⟨?_, h4 ▸ below_drewN (Below.refl _ _) q⟩
      rw [h3]
      simp only [Tm.uT, Tm.vT, Bool.false_and, Bool.or_false, Tm.hb_prop, sig]
      rw [moAt_low (by rw [hT.hm]; exact hnow)]
    · refine (lawK_11 b off n cap B aao an ac lb m lcap s R p v w hp c0 c1).mono fun e w' ⟨h1, h2⟩ => ?_
      obtain ⟨t5, f5, co, hb5⟩ := boxes_in b off n cap B aao an ac lb m lcap s R p l ls _ 11 v w hT w' h2
      refine ⟨_, _, h1, hb5, _, _, rfl, fun args w => by simp [go_sem], fun w2 hb2 now x hnow => ?_⟩
      refine (law4_w w2 now x).mono fun e w3 ⟨h3, h4⟩ => ⟨?_, h4 ▸ Below.refl _ _⟩
      rw [h3]
      simp only [Tm.uT, Tm.vT, Bool.false_and, Bool.or_false, Tm.hb_yes]
    · refine (lawK_12 b off n cap B aao an ac lb m lcap s R p v w hp c0 c1).mono fun e w' ⟨h1, h2⟩ => ?_
      obtain ⟨t5, f5, co, hb5⟩ := boxes_in b off n cap B aao an ac lb m lcap s R p l ls _ 12 v w hT w' h2
      refine ⟨_, _, h1, hb5, _, _, rfl, fun args w => by simp [go_sem], fun w2 hb2 now x hnow => ?_⟩
      refine (law13_w w2 now x).mono fun e w3 ⟨h3, h4⟩ => ⟨?_, h4 ▸ Below.refl _ _⟩
      rw [h3]
      simp only [Tm.uT, Tm.vT, Bool.false_and, Bool.or_false]
      rw [Tm.hb_no _ _ _ (by decide) (by decide)]
  | un k v a =>
    rw [hx] at c0 c1 he hsw hki
    simp only [Tm.kind, Tm.val] at c0 c1 he
    obtain ⟨k1, k2, _⟩ := hki 0 (by simp [Tm.kids])
    rw [Tm.koff_zero] at k1 k2
    have hp1 : p + 1 < n := by omega
    have ha : t.sub (p + 1) = a := k2
    have hk : k = 10 ∨ k = 14 ∨ k = 17 ∨ k = 18 := by
      obtain ⟨h1, h2, _⟩ := hsw
      simp only [pn] at h2
      split at h2
      · omega
      · split at h2 <;> omega
    rcases hk with rfl | rfl | rfl | rfl
    · refine (lawK_10 b off n cap B aao an ac lb m lcap s R p v w hp c0 c1).mono fun e w' ⟨h1, h2⟩ => ?_
      obtain ⟨t5, f5, co, hb5⟩ := boxes_in b off n cap B aao an ac lb m lcap s R p l ls _ 10 v w hT w' h2
      refine ⟨_, _, h1, hb5, _, _, rfl, fun args w => by simp [go_sem], fun w2 hb2 now x hnow => ?_⟩
      refine (law5_w w2 _ _ b off n cap B aao an ac lb m lcap s R p l ls _ _ _ now x (t5.below hb2) (f5.below hb2) hp1 hnow).mono fun e w3 ⟨h3, h4⟩ => ⟨?_, h4 ▸ Below.refl _ _⟩
      rw [h3]
      simp only [Tm.uT, Tm.vT, Bool.false_and, Bool.or_false, Tm.hb_not, ha, show ¬ (10 : Int) = 17 by decide, show ¬ (10 : Int) = 18 by decide, if_false]
    · refine (lawK_14 b off n cap B aao an ac lb m lcap s R p v w hp c0 c1).mono fun e w' ⟨h1, h2⟩ => ?_
      obtain ⟨t5, f5, co, hb5⟩ := boxes_in b off n cap B aao an ac lb m lcap s R p l ls _ 14 v w hT w' h2
      refine ⟨_, _, h1, hb5, _, _, rfl, fun args w => by simp [go_sem], fun w2 hb2 now x hnow => ?_⟩
      refine (law8_w w2 _ _ b off n cap B aao an ac lb m lcap s R p l ls _ _ _ now x (t5.below hb2) (f5.below hb2) hp1 hnow).mono fun e w3 ⟨h3, h4⟩ => ⟨?_, h4⟩
      rw [h3]
      simp only [Tm.uT, Tm.vT, Bool.false_and, Bool.or_false, Tm.hb_next, ha, show ¬ (14 : Int) = 17 by decide, show ¬ (14 : Int) = 18 by decide, if_false, hmo a now hnow]
    · refine (lawK_17 b off n cap B aao an ac lb m lcap s R p v w hp c0 c1).mono fun e w' ⟨h1, h2⟩ => ?_
      obtain ⟨t5, f5, co, hb5⟩ := boxes_in b off n cap B aao an ac lb m lcap s R p l ls _ 17 v w hT w' h2
      refine ⟨_, _, h1, hb5, _, _, rfl, fun args w => by simp [go_sem], fun w2 hb2 now x hnow => ?_⟩
      refine (law9_w w2 _ _ b off n cap B aao an ac lb m lcap s R p l ls _ _ _ now x (t5.below hb2) (f5.below hb2) hp1 hnow).mono fun e w3 ⟨h3, h4⟩ => ⟨?_, h4 ▸ Below.refl _ _⟩
      rw [h3]
      simp only [Tm.uT, Tm.vT, ha, if_true, Bool.true_and]
    · refine (lawK_18 b off n cap B aao an ac lb m lcap s R p v w hp c0 c1).mono fun e w' ⟨h1, h2⟩ => ?_
      obtain ⟨t5, f5, co, hb5⟩ := boxes_in b off n cap B aao an ac lb m lcap s R p l ls _ 18 v w hT w' h2
      refine ⟨_, _, h1, hb5, _, _, rfl, fun args w => by simp [go_sem], fun w2 hb2 now x hnow => ?_⟩
      refine (law10_w w2 _ _ b off n cap B aao an ac lb m lcap s R p l ls _ _ _ now x (t5.below hb2) (f5.below hb2) hp1 hnow).mono fun e w3 ⟨h3, h4⟩ => ⟨?_, h4 ▸ Below.refl _ _⟩
      rw [h3]
      simp only [Tm.uT, Tm.vT, ha, show ¬ (18 : Int) = 17 by decide, if_false, if_true, Bool.false_or]
  | bi k v a b' =>
    rw [hx] at c0 c1 he hsw hki
    simp only [Tm.kind, Tm.val] at c0 c1 he
    obtain ⟨k1, k2, k3, k4, k5, k6⟩ := hki 0 (by simp [Tm.kids])
    obtain ⟨j1, j2, _⟩ := hki 1 (by simp [Tm.kids])
    rw [Tm.koff_zero] at k1 k2 k3
    have hp1 : p + 1 < n := by omega
    have ha : t.sub (p + 1) = a := k2
    have hse : sec l p = p + (Tm.bi k v a b').koff 1 := by rw [hsec]; exact k3
    have hs1 : p < sec l p := by rw [hse, Tm.koff]; omega
    have hs2 : sec l p < n := by rw [hse]; omega
    have hb' : t.sub (sec l p) = b' := by rw [hse]; exact j2
    have hk : k = 8 ∨ k = 9 ∨ k = 15 ∨ k = 16 := by
      obtain ⟨h1, h2, _⟩ := hsw
      simp only [lopErr] at he
      simp only [pn] at h2
      split at he
      · omega
      · split at h2
        · omega
        · split at h2
          · omega
          · omega
    rcases hk with rfl | rfl | rfl | rfl
    · refine (lawK_8 b off n cap B aao an ac lb m lcap s R p v w hp c0 c1).mono fun e w' ⟨h1, h2⟩ => ?_
      obtain ⟨t5, f5, co, hb5⟩ := boxes_in b off n cap B aao an ac lb m lcap s R p l ls _ 8 v w hT w' h2
      refine ⟨_, _, h1, hb5, _, _, rfl, fun args w => by simp [go_sem], fun w2 hb2 now x hnow => ?_⟩
      refine (law6_w w2 _ _ b off n cap B aao an ac lb m lcap s R p l ls _ _ _ now x (t5.below hb2) (f5.below hb2) hp1 hs1 hs2 hnow).mono fun e w3 ⟨h3, q, h4⟩ => ⟨?_, h4 ▸ below_drewN (Below.refl _ _) q⟩
      rw [h3]
      simp only [Tm.uT, Tm.vT, Bool.false_and, Bool.or_false, Tm.hb_and, ha, hb', show ¬ (8 : Int) = 15 by decide, show ¬ (8 : Int) = 16 by decide, if_false]
    · refine (lawK_9 b off n cap B aao an ac lb m lcap s R p v w hp c0 c1).mono fun e w' ⟨h1, h2⟩ => ?_
      obtain ⟨t5, f5, co, hb5⟩ := boxes_in b off n cap B aao an ac lb m lcap s R p l ls _ 9 v w hT w' h2
      refine ⟨_, _, h1, hb5, _, _, rfl, fun args w => by simp [go_sem], fun w2 hb2 now x hnow => ?_⟩
      refine (law7_w w2 _ _ b off n cap B aao an ac lb m lcap s R p l ls _ _ _ now x (t5.below hb2) (f5.below hb2) hp1 hs1 hs2 hnow).mono fun e w3 ⟨h3, q, h4⟩ => ⟨?_, h4 ▸ below_drewN (Below.refl _ _) q⟩
      rw [h3]
      simp only [Tm.uT, Tm.vT, Bool.false_and, Bool.or_false, Tm.hb_or, ha, hb', show ¬ (9 : Int) = 15 by decide, show ¬ (9 : Int) = 16 by decide, if_false]
    · refine (lawK_15 b off n cap B aao an ac lb m lcap s R p v w hp c0 c1).mono fun e w' ⟨h1, h2⟩ => ?_
      obtain ⟨t5, f5, co, hb5⟩ := boxes_in b off n cap B aao an ac lb m lcap s R p l ls _ 15 v w hT w' h2
      refine ⟨_, _, h1, hb5, _, _, rfl, fun args w => by simp [go_sem], fun w2 hb2 now x hnow => ?_⟩
      refine (law11_w w2 _ _ b off n cap B aao an ac lb m lcap s R p l ls _ _ _ now x (t5.below hb2) (f5.below hb2) hp1 hs1 hs2 hnow).mono fun e w3 ⟨h3, q, h4⟩ => ⟨?_, h4 ▸ below_drewN (Below.refl _ _) q⟩
      rw [h3]
      simp only [Tm.uT, Tm.vT, ha, hb', if_true]
    · refine (lawK_16 b off n cap B aao an ac lb m lcap s R p v w hp c0 c1).mono fun e w' ⟨h1, h2⟩ => ?_
      obtain ⟨t5, f5, co, hb5⟩ := boxes_in b off n cap B aao an ac lb m lcap s R p l ls _ 16 v w hT w' h2
      refine ⟨_, _, h1, hb5, _, _, rfl, fun args w => by simp [go_sem], fun w2 hb2 now x hnow => ?_⟩
      refine (law12_w w2 _ _ b off n cap B aao an ac lb m lcap s R p l ls _ _ _ now x (t5.below hb2) (f5.below hb2) hp1 hs1 hs2 hnow).mono fun e w3 ⟨h3, q, h4⟩ => ⟨?_, h4 ▸ below_drewN (Below.refl _ _) q⟩
      rw [h3]
      simp only [Tm.uT, Tm.vT, ha, hb', show ¬ (16 : Int) = 15 by decide, if_false, if_true]
      congr 2
      generalize a.hb (sig ls s) now = y
      generalize b'.hb (sig ls s) now = z
      cases y <;> cases z <;> rfl
end Go.Proofs.YtoeagklgfaoejaaDoor
