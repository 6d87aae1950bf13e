/-
  The contracts of firsts, anywhere, nowhere; what a look for nothing meets.
-/
import Derived.Test.YtknneajaklcjdaaLook0
namespace Go.Proofs.Ytknneajaklcjdaa
open Go.ChangeShapes Go.WideShapes Go.ChangeAt Go.RowKit Go.Deep
open Terms

/-- what is met inside is reached inside. -/
theorem LOk.way {n : Nat} {ins : Nat → Bool} {nx : Nat → List Nat} {bs : List Nat} {L : Met} (h : LOk n ins nx bs L) : ∀ i, i < L.length → ∃ f ∈ bs, Way nx f (L.getD i (0, 0)).1 := by
  intro i
  induction i using Nat.strongRecOn with
  | _ i ih =>
    intro hi
    rcases h.src i hi with ⟨_, hb⟩ | ⟨j, hj, _, hm⟩
    · exact ⟨_, hb, .stay⟩
    · obtain ⟨f, hf, hw⟩ := ih j hj (by omega)
      exact ⟨f, hf, hw.step hm⟩
theorem look_reach {n : Nat} {nx : Nat → List Nat} {bs : List Nat} {L : Met} (h : LOk n (fun _ => true) nx bs L) (ht : Through (fun _ => true) (fun _ => false) nx bs L L.length) (x : Nat) : x ∈ keys L ↔ ∃ f ∈ bs, Way nx f x := by
  obtain ⟨h1, h2, _⟩ := ht.all h
  constructor
  · intro hx
    obtain ⟨i, hi, rfl⟩ := key_get hx
    exact h.way i hi
  · rintro ⟨f, hf, hw⟩
    exact Way.closed (S := fun y => y ∈ keys L) (fun y hy k hk => h2 y hy k hk rfl) (h1 f hf rfl) hw

set_option maxRecDepth 20000 in
theorem anywhere_fn (w0 : World) (s n : Nat) : FnB w0 s n (.func (.func 29) #[] #[]) (fun _ => true) := by
  refine ⟨_, _, rfl, fun args w => by simp [go_sem], fun w' _ p _ => ?_⟩
  show Calls Try.prog 29 #[.int .i64 (p : Int)] w' _
  go_enter Try.func29, Try.ntmps29
  go_wp2
  go_ret
  exact ⟨rfl, Below.refl _ _⟩
set_option maxRecDepth 20000 in
theorem nowhere_fn (w0 : World) (s n : Nat) : FnB w0 s n (.func (.func 38) #[] #[]) (fun _ => false) := by
  refine ⟨_, _, rfl, fun args w => by simp [go_sem], fun w' _ p _ => ?_⟩
  show Calls Try.prog 38 #[.int .i64 (p : Int)] w' _
  go_enter Try.func38, Try.ntmps38
  go_wp2
  go_ret
  exact ⟨rfl, Below.refl _ _⟩

theorem natsV_of_row {w : World} {B n : Nat} (h : w.rowIs B 3 n (fun j => .int .i64 (j : Int))) : NatsV w (.slice (some ⟨B, 0, none⟩) (List.range n).length n) (List.range n) :=
  ⟨some ⟨B, 0, none⟩, n, rfl, fun _ => ⟨B, 0, rfl, h.lt, fun i hi => by
    have hi' : i < n := by simpa using hi
    rw [Nat.zero_add, h.cell hi']
    simp [List.getD_eq_getElem?_getD, hi']⟩⟩

set_option maxHeartbeats 1600000 in
set_option maxRecDepth 20000 in
/-- THE CONTRACT OF firsts. -/
theorem firsts_any (so no bo : Option Addr) (sn sc nn nc bn bc gi : Nat) (gm : Int) (w : World) (hgi : gi ≤ 20000) :
    Calls Try.prog 28 #[.agg #[.slice so sn sc, .int .i64 (gi : Int), .slice no nn nc, .slice bo bn bc, .int .i64 gm]] w fun e w' => ∃ vo vc, e = .returned (.slice vo (List.range gi).length vc) ∧ Below w.heap.size w w' ∧ NatsV w' (.slice vo (List.range gi).length vc) (List.range gi) := by
  have hmk := run_make_row' (P := Try.prog) 24 3 (.int .i64 0) 8 Try.underlying24 infoInt rfl .i64 .i64 gi (by omega) (by omega)
  obtain ⟨W0, hW0⟩ : ∃ W0, W0 = w.alloc (.cells #[.slice so sn sc, .int .i64 (gi : Int), .slice no nn nc, .slice bo bn bc, .int .i64 gm] 26) := ⟨_, rfl⟩
  have hrow0 := World.rowIs_made W0 (.int .i64 0) gi 3
  have hs0 : W0.heap.size = w.heap.size + 1 := by rw [hW0]; simp
  have hb0 : Below w.heap.size w W0 := by rw [hW0]; exact (Below.refl _ _).alloc (Nat.le_refl _) _
  rw [hs0] at hrow0
  have HR0 : Hid ((W0.alloc (.cells (madeCells #[.int .i64 0] gi) 3)).rowIs (w.heap.size + 1) 3 gi (fun j => .int .i64 (if j < 0 then (j : Int) else 0))) := hrow0.congr fun j _ => by simp
  have HB0 : Hid (Below w.heap.size w (W0.alloc (.cells (madeCells #[.int .i64 0] gi) 3))) := hb0.alloc (by omega) _
  clear hs0 hb0 hrow0
  have hlen : (List.range gi).length = gi := List.length_range
  have HFin : Hid (∀ w1 : World, w1.rowIs (w.heap.size + 1) 3 gi (fun j => .int .i64 (j : Int)) → NatsV w1 (.slice (some ⟨w.heap.size + 1, 0, none⟩) gi gi) (List.range gi)) := fun w1 h => by
    have := natsV_of_row h
    rwa [hlen] at this
  rw [hlen]
  clear hlen
  go_enter Try.func28, Try.ntmps28
  go_wp2_with fail
  rw [← hW0]
  clear hW0 hmk
  go_loopw [10] (fun i wr => ∃ k : Nat, k ≤ gi ∧ i = .int .i64 k ∧ Hid (wr.rowIs (w.heap.size + 1) 3 gi (fun j => .int .i64 (if j < k then (j : Int) else 0))) ∧ Hid (Below w.heap.size w wr)) (fun i _ => gi - (intOf i).toNat)
  case atStart => exact ⟨0, Nat.zero_le _, rfl, HR0.out, HB0.out⟩
  case round =>
    obtain ⟨k, hk, rfl, HR, HB⟩ := hrel
    by_cases hlt : k < gi
    · have hce := HR.out.cell hlt
      have hfz := HR.out.frozen k
      have HN : Hid ((wr.setCell ⟨w.heap.size + 1, k, none⟩ (.int .i64 (k : Int))).rowIs (w.heap.size + 1) 3 gi (fun j => .int .i64 (if j < k + 1 then (j : Int) else 0))) := (HR.out.set k (.int .i64 (k : Int))).congr fun j _ => by
        by_cases hj : j = k
        · subst hj; simp
        · rw [if_neg hj]
          by_cases hjk : j < k
          · rw [if_pos hjk, if_pos (by omega)]
          · rw [if_neg hjk, if_neg (by omega)]
      have HBn : Hid (Below w.heap.size w (wr.setCell ⟨w.heap.size + 1, k, none⟩ (.int .i64 (k : Int)))) := HB.out.setCell (by show w.heap.size ≤ w.heap.size + 1; omega) _
      generalize (if k < k then (k : Int) else 0) = old at *
      clear HR
      go_wp2_with fail
      go_roundw
      case rel => exact ⟨k + 1, hlt, by go_num, HN, HBn⟩
      case measure => simp [intOf]; omega
    · obtain rfl : k = gi := by omega
      have HI : Hid (NatsV wr (.slice (some ⟨w.heap.size + 1, 0, none⟩) k k) (List.range k)) := HFin.out wr (HR.out.congr fun j hj => by rw [if_pos hj])
      clear HR
      go_wp2_with fail
      go_ret
      exact ⟨_, _, rfl, HB.out, HI.out⟩
end Go.Proofs.Ytknneajaklcjdaa
