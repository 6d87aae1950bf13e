import Derived.Test.YtobopjjmhginlaaGreatDoorLogicParts
import Derived.RangeFuncNested
import Derived.RangeFuncBound
import Derived.RangeFuncCalls
import Derived.RangeFuncLeaves
import Derived.Shelf.Abstract
import Derived.Shelf.RegionOpen
import Derived.WalkKit
import Derived.OwnWalkIn
import Derived.TacticsInMore
import Derived.LoopNIn
import Derived.LoopIn
namespace Go.Proofs.YtobopjjmhginlaaGreatDoor
open Go.ChangeShapes Go.WideShapes Go.ChangeAt Go.RowKit Go.Deep Go.Shelf
open Terms
set_option maxHeartbeats 6400000
set_option maxRecDepth 20000
attribute [local go_sem] Oper.semAt_some
def backAt {n : Nat} (h : 0 < n) (j : Nat) : Fin n := ⟨n - 1 - j, by omega⟩
def backTo {n : Nat} (h : 0 < n) (k : Nat) : List (Fin n) := (List.range k).map (backAt h)
theorem backTo_succ {n : Nat} (h : 0 < n) (k : Nat) : backTo h (k + 1) = backTo h k ++ [backAt h k] := by simp [backTo, List.range_succ]
theorem backTo_length {n : Nat} (h : 0 < n) (k : Nat) : (backTo h k).length = k := by simp [backTo]
def backEnc (l : List (Int × Int)) (n : Nat) (x : Fin n) : Array Value := #[.int .i64 (x.1 : Int), .agg #[.int .i64 (l.getD x.1 (0, 0)).1, .int .i64 (l.getD x.1 (0, 0)).2]]
def BackK (n₀ Bs : Nat) (A B : World) : Prop := Below n₀ A B /\ B.heap[Bs]? = A.heap[Bs]?
set_option maxRecDepth 100000 in
theorem back1_in (F : Fence) (m : Nat) (h7 : F.fn 98) (hro : F.round = none) (hm : 1 <= m) (L Bs n₀ b off n cap : Nat) (l : List (Int × Int)) (h0n : 0 < n) (h60 : n <= 60) (hnl : n = l.length) (hb : b < n₀) (J Jx : List (Fin n) -> World -> Prop)
    (hY : ∀ pre x W, J pre W -> pre.length < n -> YieldAt F (m - 1) Tryz.prog L (backEnc l n x) W fun e W' =>
      (e = .returned (.bool true) /\ J (pre ++ [x]) W' /\ BackK n₀ Bs W W') \/ (e = .returned (.bool false) /\ Jx (pre ++ [x]) W'))
    (W : World) (hBs : W.cell? ⟨Bs, 0, none⟩ = some (.slice (some ⟨b, off, none⟩) n cap)) (hc : OpsAt W b off l) (h0 : J [] W) :
    CallsIn F m Tryz.prog 98 #[.func (.yield L) #[] #[], .pointer (some ⟨Bs, 0, none⟩)] W fun e W' => (∃ v, e = .returned v) /\
      ((∃ ys, ys = backTo h0n n /\ J ys W') \/ (∃ pre, (∃ k, k <= n /\ pre = backTo h0n k) /\ Jx pre W')) := by
  refine callsIn_of_wp Tryz.func98 rfl h7 ?_ hro
  simp only [Tryz.ntmps98, List.size_toArray, List.length_cons, List.length_nil, Nat.reduceAdd, Nat.reduceSub, Array.replicate_succ, Array.replicate_zero, List.push_toArray, List.append_toArray, List.nil_append, List.cons_append]; have HC : Hid (OpsAt W b off l) := hc; have HN : Hid (n = l.length) := hnl; clear hc hnl
  gi_wp2
  gi_loopw [3] (fun i wr => ∃ k : Nat, k <= n /\ i = .int .i64 ((n : Int) - 1 - k) /\ J (backTo h0n k) wr /\ BackK n₀ Bs W wr)
    (fun i _ => (intOf i + 1).toNat)
  case atStart => exact ⟨0, Nat.zero_le _, by first | rfl | simp, h0, Below.refl _ _, rfl⟩
  case round =>
    obtain ⟨k, hk, rfl, hJs, hnx, hbx⟩ := hrel; have hcb : wr.cell? ⟨Bs, 0, none⟩ = some (.slice (some ⟨b, off, none⟩) n cap) := (World.cell?_of_block (w := W) hbx).trans hBs
    by_cases hlt : k < n
    · obtain ⟨p, hp⟩ : ∃ p : Nat, p = n - 1 - k := ⟨_, rfl⟩
      have hpi : (n : Int) - 1 - k = (p : Int) := by omega
      have hpn : p < n := by omega
      obtain ⟨c0, c1⟩ := (HC.out.below hnx hb) p (by rw [<- HN.out]; exact hpn)
      obtain ⟨fn, tmps, assign, body, hy, hR⟩ := hY _ (backAt h0n k) wr hJs (by rw [backTo_length]; exact hlt)
      have hba : (backAt h0n k).1 = p := hp.symm; simp only [backEnc, hba] at hy; rw [hpi]; have HPI : Hid ((n : Int) - 1 - k = (p : Int)) := hpi; clear hp hpi hba; generalize l.getD p (0, 0) = xy at c0 c1 hy; obtain ⟨x, y⟩ := xy; simp only at c0 c1 hy
      gi_wp2
      refine hR.mono ?_
      rintro e W3 (⟨rfl, hJ3, hk3, hk4⟩ | ⟨rfl, hJx3⟩)
      · gi_wp2
        go_roundw
        case rel => exact ⟨k + 1, by omega, by have := HPI.out; first | (congr 1; omega) | (simp; omega), by rw [backTo_succ]; exact hJ3, hnx.trans hk3, hk4.trans hbx⟩
        case measure => have := HPI.out; first | (simp [intOf]; omega) | simp [intOf]
      · gi_wp2
        refine bodyPost_ret (results_none rfl _ _ _) rfl ?_
        exact ⟨⟨_, rfl⟩, .inr ⟨_, ⟨k + 1, by omega, (backTo_succ _ _).symm⟩, hJx3⟩⟩
    · obtain rfl : k = n := by omega
      have hpi : (k : Int) - 1 - k = -1 := by omega
      rw [hpi]
      gi_wp2
      go_end0
      exact ⟨⟨_, rfl⟩, .inl ⟨_, rfl, hJs⟩⟩
theorem back_in (F : Fence) (m : Nat) (h5 : F.fn 80) (hro : F.round = none) (a : Option Addr) (len cap : Nat) (w : World) :
    CallsIn F m Tryz.prog 80 #[.slice a len cap] w fun e w' => e = .returned (.func (.func 98) #[] #[.pointer (some ⟨w.heap.size, 0, none⟩)]) /\ w' = w.alloc (.cells #[.slice a len cap] 30) := by
  refine callsIn_of_wp Tryz.func80 rfl h5 ?_ hro
  simp only [Tryz.ntmps80, List.size_toArray, List.length_cons, List.length_nil, Nat.reduceAdd, Nat.reduceSub, Array.replicate_succ, Array.replicate_zero, List.push_toArray, List.append_toArray, List.nil_append, List.cons_append]
  gi_wp2
  go_ret
  exact ⟨rfl, rfl⟩
theorem back_stops (F : Fence) (m : Nat) (h7 : F.fn 98) (hro : F.round = none) (hm : 1 <= m) (Bs n₀ b off n cap : Nat) (l : List (Int × Int)) (h0n : 0 < n) (h60 : n <= 60) (hnl : n = l.length) (hb : b < n₀) (w : World) (hBs : Bs < w.heap.size) (hn₀ : n₀ <= w.heap.size)
    (hc : w.cell? ⟨Bs, 0, none⟩ = some (.slice (some ⟨b, off, none⟩) n cap)) (hI : OpsAt w b off l) :
    SeqStopsK F m Tryz.prog 98 #[.pointer (some ⟨Bs, 0, none⟩)] (backEnc l n) (BackK n₀ Bs) (fun ys => ys = backTo h0n n)
      (fun pre => ∃ k, k <= n /\ pre = backTo h0n k) n w := fun L J Jx W hW _ _ hY h0 =>
  back1_in F m h7 hro hm L Bs n₀ b off n cap l h0n h60 hnl hb J Jx hY W ((hW.cell (p := ⟨Bs, 0, none⟩) hBs).trans hc) (hI.below (hW.mono hn₀) hb) h0
theorem backK_t {n₀ Bs : Nat} {A B C : World} (h : BackK n₀ Bs A B) (k : BackK n₀ Bs B C) : BackK n₀ Bs A C := ⟨h.1.trans k.1, k.2.trans h.2⟩
theorem backK_b {n₀ Bs : Nat} {w : World} (hn : n₀ <= w.heap.size) (hB : Bs < w.heap.size) (W : World) (l : Nat) (o o' : Obj) (hl : w.heap.size <= l) (h : W.heap[l]? = some o) (h1 : o.isCells = false) (h2 : o.isWalk = false) : BackK n₀ Bs W (W.putObj l o') :=
  ⟨belowK_b hn W l o o' hl h h1 h2, (belowK_b (n₀ := Bs + 1) (w := w) hB W l o o' hl h h1 h2).block Bs (Nat.lt_succ_self _)⟩
end Go.Proofs.YtobopjjmhginlaaGreatDoor
