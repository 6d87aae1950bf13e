/-
  The contract of package expr's (work).at.
-/
import Derived.Test.YtnicbkkkecfdpaaDoorPairs
import Derived.Deep.RegionHeld3
namespace Go.Proofs.YtnicbkkkecfdpaaDoor
open Go.ChangeShapes Go.WideShapes Go.ChangeAt Go.RowKit Go.Deep
open Terms Tm

/-- what the work leans on: ops, their ends, the values, the functions. -/
structure WorkAt (w : World) (b off B : Nat) (eao : Option Addr) (M : Nat) (t : Tm) (env : List Int) : Prop where
  ob : b < w.heap.size
  ops : OpsAt w b off t.ops
  ends : w.rowIs B 3 t.size (fun q => .int .i64 (endAt (t.ops.map Prod.fst) q))
  env : ∀ i, i < env.length → ∃ eb eoff, eao = some ⟨eb, eoff, none⟩ ∧ eb < w.heap.size ∧ w.cell? ⟨eb, eoff + i, none⟩ = some (.int .i64 (env.getD i 0))
  pairs : PairsAt w M
theorem WorkAt.later {w w' : World} {b off B : Nat} {eao : Option Addr} {M : Nat} {t : Tm} {env : List Int} (h : WorkAt w b off B eao M t env) (hb : Below w.heap.size w w') : WorkAt w' b off B eao M t env := by
  obtain ⟨h1, h2, h3, h4, h5⟩ := h
  refine ⟨Nat.lt_of_lt_of_le h1 hb.size, h2.below hb h1, h3.of_block (hb.block B h3.lt), fun i hi => ?_, h5.later hb⟩
  obtain ⟨eb, eoff, e1, e2, e3⟩ := h4 i hi
  exact ⟨eb, eoff, e1, Nat.lt_of_lt_of_le e2 hb.size, (hb.cell (p := ⟨eb, eoff + i, none⟩) e2).trans e3⟩

/-- what the work on a tree leaves: a number, or it has given up. -/
def AtPost (r : Option Int) (w : World) (e : Ending) (w' : World) : Prop :=
  Below w.heap.size w w' ∧ match r with
    | some x => e = .returned (.int .i64 x)
    | none => e = .panicked [{ v := .iface 29 (.int .i64 8), recovered := false }]


abbrev workV (b off n cap B : Nat) (eao : Option Addr) (en ecap M : Nat) : Value := .agg #[.slice (some ⟨b, off, none⟩) n cap, .slice (some ⟨B, 0, none⟩) n n, .slice eao en ecap, .map (some M)]

set_option maxHeartbeats 400000 in
theorem at_num (b off n cap B : Nat) (eao : Option Addr) (en ecap M place : Nat) (x : Int) (w : World) (hob : b < w.heap.size) (hp : place < n) (c0 : w.cell? ⟨b, off + place * 2, none⟩ = some (.int .i64 1)) (c1 : w.cell? ⟨b, off + place * 2 + 1, none⟩ = some (.int .i64 x)) :
    Calls Tryd.prog 64 #[workV b off n cap B eao en ecap M, .int .i64 place] w (AtPost (some x) w) := by
  have hne : ¬ b = w.heap.size := by omega
  go_enter Tryd.func64, Tryd.ntmps64
  go_wp2_with fail
  go_ret
  exact ⟨((Below.refl _ _).alloc (Nat.le_refl _) _).alloc (by simp) _, rfl⟩
set_option maxHeartbeats 400000 in
theorem at_var (b off n cap B eb eoff en ecap M place j : Nat) (x : Int) (w : World) (hob : b < w.heap.size) (hp : place < n) (hj : j < en) (c0 : w.cell? ⟨b, off + place * 2, none⟩ = some (.int .i64 2)) (c1 : w.cell? ⟨b, off + place * 2 + 1, none⟩ = some (.int .i64 j)) (hbl : eb < w.heap.size) (c2 : w.cell? ⟨eb, eoff + j, none⟩ = some (.int .i64 x)) :
    Calls Tryd.prog 64 #[workV b off n cap B (some ⟨eb, eoff, none⟩) en ecap M, .int .i64 place] w (AtPost (some x) w) := by
  have hne : ¬ b = w.heap.size := by omega
  go_enter Tryd.func64, Tryd.ntmps64
  go_wp2_with fail
  go_ret
  exact ⟨((Below.refl _ _).alloc (Nat.le_refl _) _).alloc (by simp) _, rfl⟩
set_option maxHeartbeats 400000 in
theorem at_lit (b off n cap B : Nat) (eao : Option Addr) (en ecap M place : Nat) (k : Int) (hk : k = 11 ∨ k = 12) (w : World) (hob : b < w.heap.size) (hp : place < n) (c0 : w.cell? ⟨b, off + place * 2, none⟩ = some (.int .i64 k)) (c1 : w.cell? ⟨b, off + place * 2 + 1, none⟩ = some (.int .i64 0)) :
    Calls Tryd.prog 64 #[workV b off n cap B eao en ecap M, .int .i64 place] w (AtPost (some (if k = 11 then 1 else 0)) w) := by
  rcases hk with rfl | rfl
  · rw [if_pos rfl]
    have hne : ¬ b = w.heap.size := by omega
    go_enter Tryd.func64, Tryd.ntmps64
    go_wp2_with fail
    go_ret
    exact ⟨((Below.refl _ _).alloc (Nat.le_refl _) _).alloc (by simp) _, rfl⟩
  · rw [if_neg (by decide)]
    have hne : ¬ b = w.heap.size := by omega
    go_enter Tryd.func64, Tryd.ntmps64
    go_wp2_with fail
    go_ret
    exact ⟨((Below.refl _ _).alloc (Nat.le_refl _) _).alloc (by simp) _, rfl⟩
set_option maxHeartbeats 400000 in
theorem at_not (b off n cap B : Nat) (eao : Option Addr) (en ecap M place : Nat) (r : Option Int) (w : World) (hob : b < w.heap.size) (hp : place < n) (h60 : n ≤ 60) (c0 : w.cell? ⟨b, off + place * 2, none⟩ = some (.int .i64 10)) (c1 : w.cell? ⟨b, off + place * 2 + 1, none⟩ = some (.int .i64 0))
    (hr : ∀ x, r = some x → -1000000 ≤ x ∧ x ≤ 1000000)
    (hrec : ∀ w', Below w.heap.size w w' → Calls Tryd.prog 64 #[workV b off n cap B eao en ecap M, .int .i64 ((place : Int) + 1)] w' (AtPost r w')) :
    Calls Tryd.prog 64 #[workV b off n cap B eao en ecap M, .int .i64 place] w (AtPost (r.map (1 - ·)) w) := by
  have hne : ¬ b = w.heap.size := by omega
  have hb2 : Below w.heap.size w ((w.alloc (.cells #[.slice (some ⟨b, off, none⟩) n cap, .slice (some ⟨B, 0, none⟩) n n, .slice eao en ecap, .map (some M)] 96)).alloc (.cells #[.int .i64 10, .int .i64 0] 86)) := ((Below.refl _ _).alloc (Nat.le_refl _) _).alloc (by simp) _
  have hrec' := hrec _ hb2
  have HB2 := (show Hid _ from hb2)
  clear hrec hb2
  cases r with
  | none =>
    go_enter Tryd.func64, Tryd.ntmps64
    go_wp2_with (go_at_call 64; refine hrec'.mono ?_; rintro e w1 ⟨hb1, rfl⟩)
    exact ⟨rfl, HB2.out.trans (hb1.mono HB2.out.size), rfl⟩
  | some x =>
    obtain ⟨hx1, hx2⟩ := hr x rfl
    clear hr
    go_enter Tryd.func64, Tryd.ntmps64
    go_wp2_with (go_at_call 64; refine hrec'.mono ?_; rintro e w1 ⟨hb1, rfl⟩)
    go_ret
    exact ⟨HB2.out.trans (hb1.mono HB2.out.size), rfl⟩

end Go.Proofs.YtnicbkkkecfdpaaDoor
